package book

import (
	"math"
	"math/big"
	"math/rand"
	"slices"
	"testing"

	"compline/api"
)

const (
	most  = math.MaxInt64
	least = math.MinInt64
)

// The accounts that the tests name by hand.
var (
	settle  = api.Account{Kind: api.AcSettle}
	estate  = api.Account{Kind: api.AcEstate}
	line    = api.Account{Kind: api.AcLine}
	capital = api.Account{Kind: api.AcCapital}
	bank    = api.Account{Kind: api.AcBank}
	owner   = api.Account{Kind: api.AcOwner}
	own1    = api.Account{Kind: api.AcOwn, Member: 1}
	coll1   = api.Account{Kind: api.AcColl, Member: 1}
	fund1   = api.Account{Kind: api.AcFund, Member: 1}
	own2    = api.Account{Kind: api.AcOwn, Member: 2}
	coll2   = api.Account{Kind: api.AcColl, Member: 2}
	fund2   = api.Account{Kind: api.AcFund, Member: 2}
)

// ofTwo are all accounts of a house of two members.
func ofTwo() []api.Account {
	return []api.Account{settle, estate, line, capital, bank, owner, own1, coll1, fund1, own2, coll2, fund2}
}

// entry is an entry of cash.
func entry(at api.Account, amount int64) api.Entry {
	return api.Entry{At: at, Amount: amount}
}

// must is a book of so many members and assets, with these entries posted.
func must(t *testing.T, members, assets int, l ...api.Entry) *Book {
	t.Helper()
	b, e := New(members, assets)
	if e != api.OK || b == nil {
		t.Fatalf("New(%d, %d): %v", members, assets, e)
	}
	if e := b.Post(l); e != api.OK {
		t.Fatalf("Post(%v): %v", l, e)
	}
	return b
}

// A seat is an account and an asset.
type seat struct {
	at    api.Account
	asset int
}

// model is a plain book: exact balances by seats.
type model struct {
	members, assets int
	on              map[seat]*big.Int
	posted          int
}

// has tells whether a plain book has an account and an asset.
func (m *model) has(a api.Account, asset int) bool {
	house := 1 <= a.Kind && a.Kind <= 6 && a.Member == 0
	member := 7 <= a.Kind && a.Kind <= 9 && 1 <= a.Member && a.Member <= m.members
	return (house || member) && 0 <= asset && asset < m.assets
}

// balance is a plain book's balance.
func (m *model) balance(s seat) *big.Int {
	if n := m.on[s]; n != nil {
		return n
	}
	return new(big.Int)
}

// free tells whether an account may go below 0.
func free(a api.Account) bool {
	return slices.Contains([]int{api.AcBank, api.AcOwner, api.AcOwn}, a.Kind)
}

// behind is what a plain book's balances would be, and what is wrong but for ErrFunds.
func (m *model) behind(l []api.Entry) (map[seat]*big.Int, api.Errno) {
	if len(l) > 1024 {
		return nil, api.ErrFull
	}
	assets, seats := map[int]*big.Int{}, map[seat]*big.Int{}
	for _, x := range l {
		if !m.has(x.At, x.Asset) {
			return nil, api.ErrNone
		}
		s := seat{x.At, x.Asset}
		if assets[x.Asset] == nil {
			assets[x.Asset] = new(big.Int)
		}
		if seats[s] == nil {
			seats[s] = new(big.Int)
		}
		n := big.NewInt(x.Amount)
		assets[x.Asset].Add(assets[x.Asset], n)
		seats[s].Add(seats[s], n)
	}
	for _, n := range assets {
		if n.Sign() != 0 {
			return nil, api.ErrRule
		}
	}
	all := map[seat]*big.Int{}
	for s, n := range seats {
		all[s] = new(big.Int).Add(n, m.balance(s))
		if !n.IsInt64() || !all[s].IsInt64() {
			return nil, api.ErrOver
		}
	}
	return all, api.OK
}

// least is Least of a plain book.
func (m *model) least(l []api.Entry) (int64, api.Errno) {
	all, e := m.behind(l)
	if e != api.OK {
		return 0, e
	}
	n := int64(most)
	for s, x := range all {
		if !free(s.at) {
			n = min(n, x.Int64())
		}
	}
	return n, api.OK
}

// post is Post of a plain book.
func (m *model) post(l []api.Entry) api.Errno {
	all, e := m.behind(l)
	if e != api.OK {
		return e
	}
	for s, n := range all {
		if !free(s.at) && n.Sign() < 0 {
			return api.ErrFunds
		}
	}
	for s, n := range all {
		m.on[s] = n
	}
	m.posted++
	return api.OK
}

// accounts are all accounts of a house, and some that are none.
func accounts(members int) []api.Account {
	l := []api.Account{{}, {Kind: -1}, {Kind: 10}, {Kind: 10, Member: 1}, {Kind: 1, Member: 1}, {Kind: 7}, {Kind: 8, Member: -1}, {Kind: 9, Member: members + 1}, {Kind: math.MaxInt, Member: math.MinInt}}
	for kind := 1; kind <= 6; kind++ {
		l = append(l, api.Account{Kind: kind})
	}
	for m := 1; m <= members; m++ {
		for kind := 7; kind <= 9; kind++ {
			l = append(l, api.Account{Kind: kind, Member: m})
		}
	}
	return l
}

// like holds all that is told of a book against a plain one.
func like(t *testing.T, b *Book, m *model) {
	t.Helper()
	for asset := -2; asset < m.assets+2; asset++ {
		is := 0 <= asset && asset < m.assets
		for _, a := range accounts(m.members) {
			n, e := b.Balance(a, asset)
			want := m.balance(seat{a, asset})
			if !want.IsInt64() || n != want.Int64() || (e == api.OK) != m.has(a, asset) || e != api.OK && e != api.ErrNone {
				t.Fatalf("Balance(%v, %d): %d, %v; asked for: %v", a, asset, n, e, want)
			}
			if !free(a) && n < 0 {
				t.Fatalf("Balance(%v, %d): %d", a, asset, n)
			}
		}
		if n, e := b.Total(asset); n != 0 || (e == api.OK) != is || e != api.OK && e != api.ErrNone {
			t.Fatalf("Total(%d): %d, %v", asset, n, e)
		}
	}
	if b.Posted() != m.posted {
		t.Fatalf("Posted: %d; asked for: %d", b.Posted(), m.posted)
	}
}

// 14.1: New of so many members and assets as there may be, each with a balance of 0; of others ErrArg.
func TestNew(t *testing.T) {
	numbers := []int{math.MinInt, -1000, -2, -1, 0, 1, 2, 3, 8, 9, 10, 11, 15, 16, 17, 18, 1000, math.MaxInt}
	for _, members := range numbers {
		for _, assets := range numbers {
			b, e := New(members, assets)
			if members < 0 || members > 16 || assets < 1 || assets > 9 {
				if b != nil || e != api.ErrArg {
					t.Errorf("New(%d, %d): %v, %v", members, assets, b, e)
				}
				continue
			}
			if b == nil || e != api.OK {
				t.Fatalf("New(%d, %d): %v, %v", members, assets, b, e)
			}
			like(t, b, &model{members: members, assets: assets})
		}
	}
}

// A try is a posting, and what is answered.
type try struct {
	what string
	l    []api.Entry
	e    api.Errno
}

// tryAll holds each posting's answer against what is asked for; each one is done on a book as it was in the beginning.
func tryAll(t *testing.T, begin []api.Entry, l []try) {
	t.Helper()
	for _, c := range l {
		b := must(t, 2, 2, begin...)
		m := &model{members: 2, assets: 2, on: map[seat]*big.Int{}}
		if m.post(begin) != api.OK || m.post(c.l) != c.e {
			t.Errorf("%s: the plain book has it otherwise", c.what)
		}
		if e := b.Post(c.l); e != c.e {
			t.Errorf("%s: %v; asked for: %v", c.what, e, c.e)
		}
		like(t, b, m)
	}
}

// 14.1: a posting is done as a whole, or not at all: each error, and that all is as it was.
func TestPost(t *testing.T) {
	begin := []api.Entry{entry(own1, -10), entry(settle, 10), {At: own2, Asset: 1, Amount: -7}, {At: coll2, Asset: 1, Amount: 7}}
	tryAll(t, begin, []try{
		{"nothing", nil, api.OK},
		{"nothing at all", []api.Entry{}, api.OK},
		{"0", []api.Entry{entry(settle, 0)}, api.OK},
		{"all there is", []api.Entry{entry(settle, -10), entry(estate, 10)}, api.OK},
		{"one more", []api.Entry{entry(settle, -11), entry(estate, 11)}, api.ErrFunds},
		{"one more, there and back", []api.Entry{entry(settle, -11), entry(estate, 11), entry(estate, -1), entry(settle, 1)}, api.OK},
		{"far too much, there and back", []api.Entry{entry(estate, -1000), entry(settle, 1000), entry(settle, -1000), entry(estate, 1000)}, api.OK},
		{"of another asset", []api.Entry{{At: settle, Asset: 1, Amount: -1}, {At: estate, Asset: 1, Amount: 1}}, api.ErrFunds},
		{"of two assets", []api.Entry{entry(settle, -4), {At: coll2, Asset: 1, Amount: -7}, entry(estate, 4), {At: line, Asset: 1, Amount: 7}}, api.OK},
		{"of two assets, one too much", []api.Entry{entry(settle, -4), {At: coll2, Asset: 1, Amount: -8}, entry(estate, 4), {At: line, Asset: 1, Amount: 8}}, api.ErrFunds},
		{"three to one", []api.Entry{entry(own1, -1), entry(own2, -2), entry(bank, -3), entry(capital, 6)}, api.OK},
		{"one alone", []api.Entry{entry(own1, 1)}, api.ErrRule},
		{"one too little", []api.Entry{entry(own1, -9), entry(settle, 8)}, api.ErrRule},
		{"one asset for another", []api.Entry{entry(own1, -9), {At: settle, Asset: 1, Amount: 9}}, api.ErrRule},
		{"assets that come to 0 together only", []api.Entry{entry(own1, -9), entry(settle, 8), {At: own2, Asset: 1, Amount: -8}, {At: line, Asset: 1, Amount: 9}}, api.ErrRule},
		{"no account", []api.Entry{entry(api.Account{}, 0)}, api.ErrNone},
		{"no account behind others", []api.Entry{entry(own1, -9), entry(settle, 9), entry(api.Account{Kind: api.AcOwn, Member: 3}, 0)}, api.ErrNone},
		{"a house's account of a member", []api.Entry{entry(api.Account{Kind: api.AcBank, Member: 1}, 0)}, api.ErrNone},
		{"no asset", []api.Entry{{At: own1, Asset: 2}}, api.ErrNone},
		{"no asset below", []api.Entry{{At: own1, Asset: -1}}, api.ErrNone},
	})
}

// 14.1: below 0 only free accounts may be: those of the bank, the owners, and the members' own.
func TestFreeAccounts(t *testing.T) {
	for _, from := range ofTwo() {
		for _, to := range ofTwo() {
			want := api.ErrFunds
			if from == to || slices.Contains([]api.Account{bank, owner, own1, own2}, from) {
				want = api.OK
			}
			b := must(t, 2, 3)
			if e := b.Post([]api.Entry{{At: to, Asset: 2, Amount: 1}, {At: from, Asset: 2, Amount: -1}}); e != want {
				t.Errorf("%v to %v: %v", from, to, e)
			}
		}
	}
}

// 14.1: the sums are exact: what wraps round to 0 does not come to 0, and sums on the way don't show.
func TestGreatAmounts(t *testing.T) {
	begin := []api.Entry{entry(own1, -5), entry(settle, 5)}
	tryAll(t, begin, []try{
		{"the greatest", []api.Entry{entry(own2, -most), entry(estate, most)}, api.OK},
		{"the least", []api.Entry{entry(own2, least), entry(estate, most), entry(line, 1)}, api.OK},
		{"a sum that wraps round to 0", []api.Entry{entry(own1, least), entry(own2, least)}, api.ErrRule},
		{"another one", []api.Entry{entry(own1, most), entry(own2, most), entry(estate, 2)}, api.ErrRule},
		{"too great on the way", []api.Entry{entry(own2, most), entry(own2, most), entry(bank, -most), entry(own2, -most)}, api.OK},
		{"what comes is none", []api.Entry{entry(own2, most), entry(own2, 1), entry(bank, -most), entry(owner, -1)}, api.ErrOver},
		{"what goes is none", []api.Entry{entry(bank, most), entry(owner, most), entry(own2, -most), entry(own2, -most)}, api.ErrOver},
		{"what comes is none, but the balance is", []api.Entry{entry(own1, most), entry(own1, 1), entry(bank, -most), entry(owner, -1)}, api.ErrOver},
		{"the balance is none", []api.Entry{entry(settle, most-4), entry(bank, 4-most)}, api.ErrOver},
		{"the balance is just one", []api.Entry{entry(settle, most-5), entry(bank, 5-most)}, api.OK},
		{"the balance below is none", []api.Entry{entry(own1, least+4), entry(own2, most-4), entry(bank, 1)}, api.ErrOver},
		{"the balance below is just one", []api.Entry{entry(own1, least+5), entry(own2, most-4)}, api.OK},
	})
}

// 14.1: the first error is told: too many ahead of none such, of what does not come to 0, of what is too great, of what is below 0.
func TestFirstError(t *testing.T) {
	many := func(n int, behind ...api.Entry) []api.Entry {
		return append(make([]api.Entry, 0, n+len(behind)), append(slices.Repeat([]api.Entry{entry(settle, 0)}, n), behind...)...)
	}
	none := entry(api.Account{Kind: 10}, 0)
	uneven := []api.Entry{entry(own1, 1)}
	over := []api.Entry{entry(own1, most), entry(own1, most), entry(own2, -most), entry(own2, -most)}
	funds := []api.Entry{{At: settle, Asset: 1, Amount: -1}, {At: own1, Asset: 1, Amount: 1}}
	tryAll(t, nil, []try{
		{"as many as may be", many(1024), api.OK},
		{"one more", many(1025), api.ErrFull},
		{"far more", many(5000), api.ErrFull},
		{"too many, none such", many(1024, none), api.ErrFull},
		{"too many accounts that are none", make([]api.Entry, 1025), api.ErrFull},
		{"as many accounts that are none", make([]api.Entry, 1024), api.ErrNone},
		{"none such, uneven", append(slices.Clone(uneven), none), api.ErrNone},
		{"none such, over", append(slices.Clone(over), none), api.ErrNone},
		{"none such, funds", append(slices.Clone(funds), none), api.ErrNone},
		{"uneven, over", append(slices.Clone(over), uneven...), api.ErrRule},
		{"uneven, funds", append(slices.Clone(funds), uneven...), api.ErrRule},
		{"over, funds", append(slices.Clone(over), funds...), api.ErrOver},
		{"funds, over", append(slices.Clone(funds), over...), api.ErrOver},
		{"funds", funds, api.ErrFunds},
	})
}

// 14.2: Move is a posting from the one to the other; of an amount below 0 it is ErrArg ahead of all else. All are of one book.
func TestMove(t *testing.T) {
	b := must(t, 2, 2)
	for i, c := range []struct {
		from, to api.Account
		asset    int
		amount   int64
		e        api.Errno
		n, m     int64
	}{
		{own1, settle, 0, 5, api.OK, -5, 5},
		{settle, own2, 0, 6, api.ErrFunds, 5, 0},
		{settle, own2, 0, 5, api.OK, 0, 5},
		{own2, own1, 0, 0, api.OK, 5, -5},
		{coll1, coll1, 0, 100, api.OK, 0, 0},
		{own1, coll1, 0, -1, api.ErrArg, -5, 0},
		{coll1, own1, 0, -1, api.ErrArg, 0, -5},
		{coll1, own1, 0, least, api.ErrArg, 0, -5},
		{api.Account{}, own1, 9, -1, api.ErrArg, 0, 0},
		{api.Account{}, own1, 0, 1, api.ErrNone, 0, -5},
		{own1, api.Account{}, 0, 1, api.ErrNone, -5, 0},
		{own1, own2, 2, 1, api.ErrNone, 0, 0},
		{own1, own2, -1, 1, api.ErrNone, 0, 0},
		{own1, coll2, 0, most, api.ErrOver, -5, 0},
		{bank, coll2, 1, most, api.OK, -most, most},
		{owner, coll2, 1, 1, api.ErrOver, 0, most},
		{coll2, owner, 1, most, api.OK, 0, most},
	} {
		done := b.Posted()
		e := b.Move(c.from, c.to, c.asset, c.amount)
		n, _ := b.Balance(c.from, c.asset)
		m, _ := b.Balance(c.to, c.asset)
		if e != c.e || n != c.n || m != c.m {
			t.Errorf("%d: %v, %d, %d", i, e, n, m)
		}
		if want := done + 1; e == api.OK && b.Posted() != want || e != api.OK && b.Posted() != done {
			t.Errorf("%d: %d postings", i, b.Posted())
		}
	}
}

// 14.2: Least is told of what is not free, and of what an entry goes to; nothing is posted.
func TestLeast(t *testing.T) {
	begin := []api.Entry{entry(own1, -30), entry(settle, 10), entry(coll1, 20), {At: own1, Asset: 1, Amount: -3}, {At: settle, Asset: 1, Amount: 3}}
	for _, c := range []struct {
		what string
		l    []api.Entry
		n    int64
		e    api.Errno
	}{
		{"nothing", nil, most, api.OK},
		{"only free ones", []api.Entry{entry(own1, -30), entry(own2, 10), entry(bank, 10), entry(owner, 10)}, most, api.OK},
		{"one", []api.Entry{entry(own1, -5), entry(coll1, 5)}, 25, api.OK},
		{"two", []api.Entry{entry(settle, 5), entry(coll1, -5)}, 15, api.OK},
		{"none", []api.Entry{entry(settle, 20), entry(coll1, -20)}, 0, api.OK},
		{"below", []api.Entry{entry(settle, 21), entry(coll1, -21)}, -1, api.OK},
		{"far below", []api.Entry{entry(line, -most), entry(bank, most)}, -most, api.OK},
		{"two below", []api.Entry{entry(line, -4), entry(settle, -17), entry(coll1, 21)}, -7, api.OK},
		{"of nothing", []api.Entry{entry(coll1, 0)}, 20, api.OK},
		{"of nothing, where nothing is", []api.Entry{entry(coll1, 0), entry(coll2, 0)}, 0, api.OK},
		{"there and back", []api.Entry{entry(coll1, -50), entry(own1, 0), entry(coll1, 50)}, 20, api.OK},
		{"another asset", []api.Entry{{At: settle, Asset: 1, Amount: 4}, {At: own2, Asset: 1, Amount: -4}}, 7, api.OK},
		{"each with its own asset", []api.Entry{{At: coll1, Asset: 1, Amount: 40}, {At: own2, Asset: 1, Amount: -40}, entry(settle, 30), entry(own2, -30)}, 40, api.OK},
		{"too many", make([]api.Entry, 1025), 0, api.ErrFull},
		{"none such", []api.Entry{entry(settle, -30), {At: own1, Asset: 2}}, 0, api.ErrNone},
		{"uneven", []api.Entry{entry(settle, 1)}, 0, api.ErrRule},
		{"over", []api.Entry{entry(settle, most), entry(own2, -most)}, 0, api.ErrOver},
	} {
		b := must(t, 2, 2, begin...)
		m := &model{members: 2, assets: 2, on: map[seat]*big.Int{}}
		m.post(begin)
		if n, e := b.Least(c.l); n != c.n || e != c.e {
			t.Errorf("%s: %d, %v; asked for: %d, %v", c.what, n, e, c.n, c.e)
		}
		like(t, b, m)
	}
}

// 14.2: Posted counts what was done, and nothing else.
func TestPosted(t *testing.T) {
	b := must(t, 2, 2)
	for i, c := range []struct {
		l []api.Entry
		n int
	}{
		{nil, 2},
		{[]api.Entry{entry(own1, -1), entry(settle, 1)}, 3},
		{[]api.Entry{entry(own1, -1)}, 3},
		{[]api.Entry{entry(settle, -2), entry(own2, 2)}, 3},
		{[]api.Entry{entry(settle, -1), entry(own2, 1)}, 4},
		{make([]api.Entry, 1025), 4},
		{[]api.Entry{{Asset: 7}}, 4},
	} {
		if b.Post(c.l); b.Posted() != c.n {
			t.Errorf("%d: %d", i, b.Posted())
		}
		if b.Least(nil); b.Posted() != c.n {
			t.Errorf("%d: %d behind Least", i, b.Posted())
		}
	}
}

// 14.2: a copy is a book of its own.
func TestCopy(t *testing.T) {
	b := must(t, 2, 2, entry(own1, -9), entry(settle, 9))
	c := b.Copy()
	both := []*Book{b, c}
	for i, x := range both {
		if n, e := x.Balance(settle, 0); n != 9 || e != api.OK || x.Posted() != 1 {
			t.Errorf("%d: %d, %v, %d", i, n, e, x.Posted())
		}
	}
	if e := c.Move(settle, own2, 0, 4); e != api.OK {
		t.Errorf("Move: %v", e)
	}
	if e := b.Move(settle, coll2, 0, 9); e != api.OK {
		t.Errorf("Move: %v", e)
	}
	if e := b.Move(bank, coll2, 1, 2); e != api.OK {
		t.Errorf("Move: %v", e)
	}
	want := []map[seat]int64{{{own1, 0}: -9, {coll2, 0}: 9, {bank, 1}: -2, {coll2, 1}: 2}, {{own1, 0}: -9, {settle, 0}: 5, {own2, 0}: 4}}
	for i, x := range both {
		for _, a := range ofTwo() {
			for asset := range 2 {
				if n, e := x.Balance(a, asset); n != want[i][seat{a, asset}] || e != api.OK {
					t.Errorf("%d: %v, %d: %d", i, a, asset, n)
				}
			}
		}
		if x.Posted() != 3-i {
			t.Errorf("%d: %d postings", i, x.Posted())
		}
	}
}

// 14.2: Turned has all that the entries have, and the amounts on the other side of 0; of any many, and of any accounts.
func TestTurned(t *testing.T) {
	for i, c := range []struct {
		l, want []api.Entry
		e       api.Errno
	}{
		{nil, nil, api.OK},
		{[]api.Entry{}, nil, api.OK},
		{[]api.Entry{{At: coll2, Asset: 3, Amount: 7}}, []api.Entry{{At: coll2, Asset: 3, Amount: -7}}, api.OK},
		{[]api.Entry{{}, entry(own1, -1), {At: api.Account{Kind: 77, Member: -8}, Asset: -4, Amount: most}}, []api.Entry{{}, entry(own1, 1), {At: api.Account{Kind: 77, Member: -8}, Asset: -4, Amount: -most}}, api.OK},
		{[]api.Entry{entry(own1, least+1)}, []api.Entry{entry(own1, most)}, api.OK},
		{[]api.Entry{entry(own1, least)}, nil, api.ErrOver},
		{[]api.Entry{entry(own1, 1), entry(own2, least), entry(own1, 2)}, nil, api.ErrOver},
		{[]api.Entry{entry(own1, 1), entry(own2, 3), entry(own1, least)}, nil, api.ErrOver},
		{slices.Repeat([]api.Entry{entry(own1, 5)}, 3000), slices.Repeat([]api.Entry{entry(own1, -5)}, 3000), api.OK},
	} {
		was := slices.Clone(c.l)
		l, e := Turned(c.l)
		if !slices.Equal(l, c.want) || e != c.e || e != api.OK && l != nil {
			t.Errorf("%d: %v, %v", i, l, e)
		}
		if !slices.Equal(c.l, was) {
			t.Errorf("%d: the entries are changed: %v", i, c.l)
		}
		if len(l) > 0 {
			l[0].Amount = 99
			if !slices.Equal(c.l, was) {
				t.Errorf("%d: what is told is the argument", i)
			}
		}
	}
}

// R1, 14.1, 14.2: of no book.
func TestNoBook(t *testing.T) {
	var b *Book
	if e := b.Post(nil); e != api.ErrNone {
		t.Errorf("Post: %v", e)
	}
	if e := b.Post(make([]api.Entry, 1025)); e != api.ErrNone {
		t.Errorf("Post of too many: %v", e)
	}
	if e := b.Move(own1, settle, 0, 1); e != api.ErrNone {
		t.Errorf("Move: %v", e)
	}
	if e := b.Move(own1, settle, 0, -1); e != api.ErrNone {
		t.Errorf("Move of less than 0: %v", e)
	}
	if n, e := b.Balance(settle, 0); n != 0 || e != api.ErrNone {
		t.Errorf("Balance: %d, %v", n, e)
	}
	if n, e := b.Total(0); n != 0 || e != api.ErrNone {
		t.Errorf("Total: %d, %v", n, e)
	}
	if n, e := b.Least(nil); n != 0 || e != api.ErrNone {
		t.Errorf("Least: %d, %v", n, e)
	}
	if b.Posted() != 0 || b.Copy() != nil {
		t.Errorf("Posted: %d; Copy: %v", b.Posted(), b.Copy())
	}
}

// draw is a posting that is often one that may be done.
func draw(r *rand.Rand, members, assets int) []api.Entry {
	all := accounts(members)
	good := all[9:]
	var l []api.Entry
	for range r.Intn(4) {
		asset, n := r.Intn(assets), r.Int63n(20)
		if r.Intn(12) == 0 {
			n = most - r.Int63n(8)
		}
		from, to := good[r.Intn(len(good))], good[r.Intn(len(good))]
		l = append(l, api.Entry{At: from, Asset: asset, Amount: -n}, api.Entry{At: to, Asset: asset, Amount: n})
	}
	if r.Intn(10) == 0 {
		l = append(l, api.Entry{At: all[r.Intn(len(all))], Asset: r.Intn(assets+2) - 1, Amount: r.Int63n(3) - 1})
	}
	r.Shuffle(len(l), func(i, k int) { l[i], l[k] = l[k], l[i] })
	return l
}

// 14.1 to 14.3: drawn postings, held against a plain book after each.
func TestDrawnPostings(t *testing.T) {
	r := rand.New(rand.NewSource(14))
	seen := map[api.Errno]int{}
	for range 150 {
		members, assets := r.Intn(4), 1+r.Intn(3)
		b := must(t, members, assets)
		m := &model{members: members, assets: assets, on: map[seat]*big.Int{}, posted: 1}
		for range 40 {
			l := draw(r, members, assets)
			was := slices.Clone(l)
			n, e := b.Least(l)
			if want, f := m.least(l); n != want || e != f {
				t.Fatalf("Least(%v): %d, %v; asked for: %d, %v", l, n, e, want, f)
			}
			e = b.Post(l)
			if want := m.post(l); e != want {
				t.Fatalf("Post(%v): %v; asked for: %v", l, e, want)
			}
			if !slices.Equal(l, was) {
				t.Fatalf("the posting is changed: %v", l)
			}
			seen[e]++
			like(t, b, m)
		}
	}
	for _, e := range []api.Errno{api.OK, api.ErrNone, api.ErrRule, api.ErrOver, api.ErrFunds} {
		if seen[e] < 50 {
			t.Errorf("%v was answered %d times", e, seen[e])
		}
	}
}

// 14.3: a posting and the same turned leave all as it was, if both are done.
func TestThereAndBack(t *testing.T) {
	r := rand.New(rand.NewSource(15))
	done := 0
	for range 100 {
		b := must(t, 3, 2)
		for range 30 {
			l := draw(r, 3, 2)
			c := b.Copy()
			back, e := Turned(l)
			if c.Post(l) != api.OK || e != api.OK || c.Post(back) != api.OK {
				b.Post(l)
				continue
			}
			done++
			for _, a := range accounts(3) {
				for asset := range 2 {
					n, _ := b.Balance(a, asset)
					if m, _ := c.Balance(a, asset); m != n {
						t.Fatalf("%v: %v, %d: %d, was %d", l, a, asset, m, n)
					}
				}
			}
			b.Post(l)
		}
	}
	if done < 500 {
		t.Errorf("%d went there and back", done)
	}
}

// 14.1: an entry that is changed behind its posting changes nothing that was posted.
func TestEntriesAreNotKept(t *testing.T) {
	b := must(t, 2, 2)
	l := []api.Entry{entry(own1, -5), entry(settle, 5)}
	if e := b.Post(l); e != api.OK {
		t.Fatalf("Post: %v", e)
	}
	l[0], l[1] = entry(own2, -9), entry(estate, 9)
	for _, x := range []api.Entry{entry(own1, -5), entry(settle, 5), entry(own2, 0), entry(estate, 0)} {
		if n, e := b.Balance(x.At, 0); n != x.Amount || e != api.OK {
			t.Errorf("%v: %d, %v", x.At, n, e)
		}
	}
}

// 14.2: Total is the sum of what is there, which would show if a balance were lost.
func TestTotalIsASum(t *testing.T) {
	b := must(t, 2, 3, entry(own1, -9), entry(settle, 9))
	b.balances[0][0] -= 4
	b.balances[2][11] = 6
	for asset, want := range []int64{-4, 0, 6} {
		if n, e := b.Total(asset); n != want || e != api.OK {
			t.Errorf("Total(%d): %d, %v", asset, n, e)
		}
	}
}
