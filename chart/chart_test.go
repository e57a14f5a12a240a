package chart

import (
	"math"
	"math/rand"
	"strconv"
	"strings"
	"testing"

	"compline/api"
)

// listed are the accounts of a house in the order of their numbers, as the chapter lists them.
func listed(members int) []api.Account {
	if members < 0 || members > 16 {
		return nil
	}
	l := []api.Account{{Kind: 1}, {Kind: 2}, {Kind: 3}, {Kind: 4}, {Kind: 5}, {Kind: 6}}
	for m := 1; m <= members; m++ {
		l = append(l, api.Account{Kind: 7, Member: m}, api.Account{Kind: 8, Member: m}, api.Account{Kind: 9, Member: m})
	}
	return l
}

// houses are numbers of members, some of which no house has.
func houses() []int {
	l := []int{math.MinInt, math.MinInt + 1, math.MinInt32, -1000, math.MaxInt32, math.MaxInt - 1, math.MaxInt, 1 << 62, 1000}
	for n := -20; n <= 40; n++ {
		l = append(l, n)
	}
	return l
}

// 13.1: there are six accounts of the house and three of each member; of other numbers of members there is none.
func TestCount(t *testing.T) {
	for _, c := range []struct{ members, n int }{
		{0, 6}, {1, 9}, {2, 12}, {3, 15}, {15, 51}, {16, 54},
		{-1, 0}, {-2, 0}, {17, 0}, {18, 0}, {math.MinInt, 0}, {math.MaxInt, 0},
	} {
		if n := Count(c.members); n != c.n {
			t.Errorf("Count(%d): %d; asked for: %d", c.members, n, c.n)
		}
	}
	for _, members := range houses() {
		if n := Count(members); n != len(listed(members)) {
			t.Errorf("Count(%d): %d", members, n)
		}
	}
}

// 13.1, 13.2: all accounts of a house of two members, by hand.
func TestAllOfTwo(t *testing.T) {
	for n, c := range []struct {
		a    api.Account
		name string
		free bool
	}{
		{api.Account{Kind: api.AcSettle}, "settle", false},
		{api.Account{Kind: api.AcEstate}, "estate", false},
		{api.Account{Kind: api.AcLine}, "line", false},
		{api.Account{Kind: api.AcCapital}, "capital", false},
		{api.Account{Kind: api.AcBank}, "bank", true},
		{api.Account{Kind: api.AcOwner}, "owner", true},
		{api.Account{Kind: api.AcOwn, Member: 1}, "own:1", true},
		{api.Account{Kind: api.AcColl, Member: 1}, "coll:1", false},
		{api.Account{Kind: api.AcFund, Member: 1}, "fund:1", false},
		{api.Account{Kind: api.AcOwn, Member: 2}, "own:2", true},
		{api.Account{Kind: api.AcColl, Member: 2}, "coll:2", false},
		{api.Account{Kind: api.AcFund, Member: 2}, "fund:2", false},
	} {
		i, e := Number(2, c.a)
		a, f := Account(2, n)
		b, g := Of(c.name)
		if i != n || a != c.a || b != c.a || Name(c.a) != c.name || Free(c.a) != c.free || e != api.OK || f != api.OK || g != api.OK {
			t.Errorf("%d: %d, %v; %v, %v; %v, %v; %q, %v", n, i, e, a, f, b, g, Name(c.a), Free(c.a))
		}
	}
}

// 13.1, 13.3: accounts and numbers of each house go together, as they are listed; behind the last one there is none.
func TestAccountsByNumber(t *testing.T) {
	for _, members := range houses() {
		l := listed(members)
		for n, want := range l {
			a, e := Account(members, n)
			i, f := Number(members, want)
			if a != want || i != n || e != api.OK || f != api.OK {
				t.Errorf("%d members: Account(%d): %v, %v; Number(%v): %d, %v", members, n, a, e, want, i, f)
			}
		}
		for _, n := range []int{math.MinInt, math.MinInt + 6, -100, -6, -3, -1, len(l), len(l) + 1, len(l) + 3, 54, 55, 1000, math.MaxInt - 3, math.MaxInt} {
			if a, e := Account(members, n); a != (api.Account{}) || e != api.ErrNone {
				t.Errorf("%d members: Account(%d): %v, %v", members, n, a, e)
			}
		}
	}
}

// numbers are kinds and members, of which some are none, or wrap round to numbers that are some (three times the last ones is 1 and 2).
func numbers() []int {
	l := []int{math.MinInt, math.MinInt + 1, math.MaxInt - 1, math.MaxInt, 1 << 62, -1 << 62}
	inverse := uint64(math.MaxUint64/3*2 + 1)
	for d := range 6 {
		l = append(l, int(inverse)+d-2, int(2*inverse)+d-2)
	}
	for n := -9; n <= 25; n++ {
		l = append(l, n)
	}
	return l
}

// 13.1, 13.2: all accounts that may be told, of kinds and members that there are, and that there are not; what isn't listed has no number and no name.
func TestNumbersOfAll(t *testing.T) {
	for _, members := range []int{0, 1, 2, 7, 15, 16, -1, 17, 30, math.MaxInt} {
		number := map[api.Account]int{}
		for n, a := range listed(members) {
			number[a] = n
		}
		for _, kind := range numbers() {
			for _, member := range numbers() {
				a := api.Account{Kind: kind, Member: member}
				want, is := number[a]
				n, e := Number(members, a)
				if n != want || (e == api.OK) != is || !is && e != api.ErrNone {
					t.Errorf("%d members: Number(%v): %d, %v", members, a, n, e)
				}
			}
		}
	}
}

// 13.1: a number wraps round to that of another account, which is not taken for it.
func TestNumberWrapsRound(t *testing.T) {
	inverse := uint64(math.MaxUint64/3*2 + 1) // three times it is 1
	if 3*inverse != 1 {
		t.Fatalf("%d", inverse)
	}
	a := api.Account{Kind: api.AcOwn, Member: int(inverse) + 1}
	if n, e := Number(16, a); n != 0 || e != api.ErrNone {
		t.Errorf("Number(%v): %d, %v", a, n, e)
	}
	if Name(a) != "" {
		t.Errorf("Name(%v): %q", a, Name(a))
	}
}

// 13.1: whether an account is free hangs on its kind alone.
func TestFree(t *testing.T) {
	for _, kind := range numbers() {
		for _, member := range numbers() {
			a := api.Account{Kind: kind, Member: member}
			if want := kind == 5 || kind == 6 || kind == 7; Free(a) != want {
				t.Errorf("Free(%v): %v", a, Free(a))
			}
		}
	}
}

// names are the names of all accounts of a house of sixteen.
func names() map[api.Account]string {
	words := strings.Fields("settle estate line capital bank owner own coll fund")
	all := map[api.Account]string{}
	for i, a := range listed(16) {
		all[a] = words[a.Kind-1]
		if i > 5 {
			all[a] += ":" + strconv.Itoa((i-6)/3+1)
		}
	}
	return all
}

// 13.2: names of all accounts; what is no account of a house of sixteen has none.
func TestNames(t *testing.T) {
	all := names()
	for _, kind := range numbers() {
		for _, member := range numbers() {
			a := api.Account{Kind: kind, Member: member}
			if Name(a) != all[a] {
				t.Errorf("Name(%v): %q; asked for: %q", a, Name(a), all[a])
			}
		}
	}
	if len(all) != 54 {
		t.Errorf("%d names", len(all))
	}
}

// of holds Of against the names of all accounts.
func of(t *testing.T, all map[string]api.Account, name string) {
	t.Helper()
	a, e := Of(name)
	want, is := all[name]
	if a != want || (e == api.OK) != is || !is && e != api.ErrForm {
		t.Errorf("Of(%q): %v, %v; asked for: %v", name, a, e, want)
	}
}

// byName are all accounts by their names.
func byName() map[string]api.Account {
	all := map[string]api.Account{}
	for a, name := range names() {
		all[name] = a
	}
	return all
}

// 13.2: the account of a name; whatever is near a name is none.
func TestOf(t *testing.T) {
	all := byName()
	for name := range all {
		of(t, all, name)
		for _, s := range []string{"%", " %", "% ", "%:", "%:1", ":%", "%\n", "%\x00", "%0", "0%", "%s", "%%"} {
			of(t, all, strings.ReplaceAll(s, "%", name))
		}
		of(t, all, strings.ToUpper(name))
		of(t, all, strings.ToUpper(name[:1])+name[1:])
		for i := range name {
			of(t, all, name[:i])
			of(t, all, name[:i]+name[i+1:])
			for c := range 256 {
				of(t, all, name[:i]+string([]byte{byte(c)})+name[i+1:])
				of(t, all, name[:i]+string([]byte{byte(c)})+name[i:])
			}
		}
	}
	for _, s := range []string{"own:+1", "own:-1", "own: 1", "own:1 ", "own:1.0", "own:0x1", "own:16:", "own::1", "coll:1e0", "fund:１", "fund:18446744073709551617", "settle:", "settle:1", "bank:0", ":", ":1", "1", "own;1", strings.Repeat("own:1", 100000)} {
		of(t, all, s)
	}
}

// 13.2: drawn texts of the letters of names.
func TestOfDrawnTexts(t *testing.T) {
	all := byName()
	r := rand.New(rand.NewSource(13))
	for range 20000 {
		b := make([]byte, r.Intn(8))
		for i := range b {
			b[i] = "ownclfud:0123456789"[r.Intn(19)]
		}
		of(t, all, string(b))
	}
	for _, word := range strings.Fields("settle estate line capital bank owner own coll fund") {
		for n := -3; n < 200; n++ {
			of(t, all, word+":"+strconv.Itoa(n))
			of(t, all, word+strconv.Itoa(n))
		}
	}
}

// 13.3: each name is one account's, and is read as it was told.
func TestNamesAreReadAsTheyWere(t *testing.T) {
	seen := map[string]int{}
	for n := range Count(16) {
		a, _ := Account(16, n)
		b, e := Of(Name(a))
		if b != a || e != api.OK {
			t.Errorf("%v: %q: %v, %v", a, Name(a), b, e)
		}
		seen[Name(a)]++
	}
	if len(seen) != 54 {
		t.Errorf("%d names", len(seen))
	}
}
