package conf

import (
	"math"
	"reflect"
	"slices"
	"testing"

	"compline/api"
)

// edge is a change of a config, and the word of what is wrong then.
type edge struct {
	word   string
	what   string
	change func(c *api.Config)
}

// house is a config that may be: three members, two securities, two cycles.
func house() api.Config {
	return api.Config{
		Members: []api.Member{{Collateral: 70, Fund: 7}, {Collateral: 80, Fund: 8}, {}},
		Secs:    []api.Sec{{Price: 5, Cap: 9}, {Price: 6, Cap: 6}},
		Cycles:  []api.Cycle{{Cut: 2, Fund: 3, Buyin: 5, Close: 8}, {Cut: 10, Fund: 20, Buyin: 30, Close: 40}},
		Line:    11, Capital: 12, Lead: 2, Trades: 13, Bids: 14,
	}
}

// amounts are edges of a thing that is to be from 0 to MaxMoney.
func amounts(word, what string, set func(c *api.Config, n int64)) []edge {
	return numbers(word, what, 0, api.MaxMoney, set)
}

// numbers are edges of a thing that is to be from least to most.
func numbers(word, what string, least, most int64, set func(c *api.Config, n int64)) []edge {
	to := func(n int64) func(c *api.Config) { return func(c *api.Config) { set(c, n) } }
	return []edge{
		{"", what + " least", to(least)},
		{"", what + " most", to(most)},
		{word, what + " below least", to(least - 1)},
		{word, what + " above most", to(most + 1)},
		{word, what + " far below", to(math.MinInt64)},
		{word, what + " far above", to(math.MaxInt64)},
	}
}

// memberEdges are edges of members.
func memberEdges() []edge {
	some := func(n int) func(c *api.Config) { return func(c *api.Config) { c.Members = make([]api.Member, n) } }
	l := []edge{
		{"members", "none", func(c *api.Config) { c.Members = nil }},
		{"members", "0", some(0)}, {"members", "1", some(1)}, {"", "2", some(2)},
		{"", "16", some(16)}, {"members", "17", some(17)}, {"members", "many", some(5000)},
	}
	for i := range 3 {
		l = append(l, amounts("members", "collateral", func(c *api.Config, n int64) { c.Members[i].Collateral = n })...)
		l = append(l, amounts("members", "fund", func(c *api.Config, n int64) { c.Members[i].Fund = n })...)
	}
	return l
}

// secEdges are edges of securities.
func secEdges() []edge {
	some := func(n int) func(c *api.Config) {
		return func(c *api.Config) { c.Secs = slices.Repeat([]api.Sec{{Price: 1, Cap: 1}}, n) }
	}
	l := []edge{
		{"secs", "none", func(c *api.Config) { c.Secs = nil }},
		{"secs", "0", some(0)}, {"", "1", some(1)},
		{"", "8", some(8)}, {"secs", "9", some(9)}, {"secs", "many", some(5000)},
	}
	for i := range 2 {
		l = append(l, numbers("secs", "cap", 5, api.MaxPrice, func(c *api.Config, n int64) { c.Secs[i] = api.Sec{Price: 5, Cap: n} })...)
		l = append(l, numbers("secs", "price", 1, 9, func(c *api.Config, n int64) { c.Secs[i] = api.Sec{Price: n, Cap: 9} })...)
		l = append(l, numbers("secs", "price and cap", 1, api.MaxPrice, func(c *api.Config, n int64) { c.Secs[i] = api.Sec{Price: n, Cap: n} })...)
	}
	return l
}

// cycleEdges are edges of cycles.
func cycleEdges() []edge {
	some := func(n int) func(c *api.Config) {
		return func(c *api.Config) {
			c.Cycles = nil
			for i := range n {
				c.Cycles = append(c.Cycles, api.Cycle{Cut: 4*i + 1, Fund: 4*i + 2, Buyin: 4*i + 3, Close: 4*i + 4})
			}
		}
	}
	l := []edge{
		{"cycles", "none", func(c *api.Config) { c.Cycles = nil }},
		{"cycles", "0", some(0)}, {"", "1", some(1)},
		{"", "4", some(4)}, {"cycles", "5", some(5)}, {"cycles", "many", some(5000)},
		{"cycles", "all 0", func(c *api.Config) { c.Cycles = make([]api.Cycle, 2) }},
		{"cycles", "a second one that is all 0", func(c *api.Config) { c.Cycles[1] = api.Cycle{} }},
		{"cycles", "from the last one on", func(c *api.Config) { slices.Reverse(c.Cycles) }},
		{"", "the last ticks", func(c *api.Config) { c.Cycles[1] = api.Cycle{Cut: 997, Fund: 998, Buyin: 999, Close: 1000} }},
		{"cycles", "behind the last tick", func(c *api.Config) { c.Cycles[1] = api.Cycle{Cut: 998, Fund: 999, Buyin: 1000, Close: 1001} }},
		{"cycles", "past the last tick, and back", func(c *api.Config) { c.Cycles[0].Close = 1001 }},
	}
	// Each tick may be from the one ahead of it to the one behind it, but neither of them.
	at := []int{0, 2, 3, 5, 8, 10, 20, 30, 40, api.MaxTick + 1}
	for i := range 8 {
		l = append(l, numbers("cycles", "a tick", int64(at[i]+1), int64(at[i+2]-1), func(c *api.Config, n int64) { setTick(c, i, int(n)) })...)
	}
	return l
}

// setTick sets the i-th one of all ticks.
func setTick(c *api.Config, i, tick int) {
	y := &c.Cycles[i/4]
	*[]*int{&y.Cut, &y.Fund, &y.Buyin, &y.Close}[i%4] = tick
}

// edges are edges of all things.
func edges() []edge {
	return slices.Concat(
		memberEdges(), secEdges(), cycleEdges(),
		amounts("line", "line", func(c *api.Config, n int64) { c.Line = n }),
		amounts("capital", "capital", func(c *api.Config, n int64) { c.Capital = n }),
		numbers("lead", "lead", 0, api.MaxTick, func(c *api.Config, n int64) { c.Lead = int(n) }),
		numbers("trades", "trades", 1, api.MaxTrades, func(c *api.Config, n int64) { c.Trades = int(n) }),
		numbers("bids", "bids", 1, api.MaxBids, func(c *api.Config, n int64) { c.Bids = int(n) }),
	)
}

// wrongs tells where a config's word, or its error, is not what is asked for.
func wrongs(t *testing.T, what string, c api.Config, want string) {
	t.Helper()
	e := api.ErrArg
	if want == "" {
		e = api.OK
	}
	was := Copy(c)
	if w, we := Wrong(c), Check(c); w != want || we != e {
		t.Errorf("%s: %q, %v; asked for: %q, %v", what, w, we, want, e)
	}
	if !reflect.DeepEqual(c, was) {
		t.Errorf("%s: it was changed", what)
	}
}

// 10.1: Wrong and Check of each thing at its edges, and beyond.
func TestWrong(t *testing.T) {
	wrongs(t, "house", house(), "")
	wrongs(t, "nothing", api.Config{}, "members")
	for _, x := range edges() {
		c := house()
		x.change(&c)
		wrongs(t, x.word+": "+x.what, c, x.word)
	}
}

// 10.1: of several things that are wrong the first one is told.
func TestFirstWrong(t *testing.T) {
	words := []string{"members", "secs", "cycles", "line", "capital", "lead", "trades", "bids"}
	for _, a := range edges() {
		for _, b := range edges() {
			if a.word == "" || b.word == "" || a.word == b.word {
				continue
			}
			c := house()
			a.change(&c)
			b.change(&c)
			first := words[min(slices.Index(words, a.word), slices.Index(words, b.word))]
			if w := Wrong(c); w != first {
				t.Fatalf("%s: %s, and %s: %s: %q", a.word, a.what, b.word, b.what, w)
			}
		}
	}
	c := api.Config{Line: -1, Capital: -1, Lead: -1}
	mend := []func(){
		func() { c.Members = house().Members },
		func() { c.Secs = house().Secs },
		func() { c.Cycles = house().Cycles },
		func() { c.Line = 0 },
		func() { c.Capital = 0 },
		func() { c.Lead = 0 },
		func() { c.Trades = 1 },
		func() { c.Bids = 1 },
	}
	for i, word := range words {
		wrongs(t, "mended so far: "+word, c, word)
		mend[i]()
	}
	wrongs(t, "mended", c, "")
}

// 10.1: Ticks and Last, of configs that may be, and of such that may not.
func TestTicks(t *testing.T) {
	y := func(a, b, c, d int) api.Cycle { return api.Cycle{Cut: a, Fund: b, Buyin: c, Close: d} }
	many := make([]api.Cycle, 1000)
	many[999] = y(-1, 2, math.MaxInt, math.MinInt)
	for _, c := range []struct {
		cycles []api.Cycle
		ticks  []int
		last   int
	}{
		{nil, nil, 0},
		{[]api.Cycle{}, nil, 0},
		{[]api.Cycle{y(1, 2, 3, 4)}, []int{1, 2, 3, 4}, 4},
		{[]api.Cycle{y(2, 3, 5, 8), y(10, 20, 30, 40)}, []int{2, 3, 5, 8, 10, 20, 30, 40}, 40},
		{[]api.Cycle{y(9, 7, 5, 3), y(0, 0, 0, -6)}, []int{9, 7, 5, 3, 0, 0, 0, -6}, -6},
		{many, append(make([]int, 3996), -1, 2, math.MaxInt, math.MinInt), math.MinInt},
	} {
		x := api.Config{Cycles: c.cycles}
		if l, last := Ticks(x), Last(x); !slices.Equal(l, c.ticks) || last != c.last {
			t.Errorf("%v: %d, %d; asked for: %d, %d", c.cycles, l, last, c.ticks, c.last)
		}
	}
	c := house()
	Ticks(c)[0] = 77
	if !reflect.DeepEqual(c, house()) {
		t.Errorf("a config changed by its ticks: %v", c)
	}
}

// beyond are numbers of which there is nothing in a list.
func beyond(length int) []int {
	return []int{0, -1, length + 1, length + 2, math.MinInt, math.MaxInt}
}

// 10.2: members and securities by their numbers, of any config, the first one being 1.
func TestMemberAndSec(t *testing.T) {
	for n := range 40 {
		c := api.Config{Members: make([]api.Member, n), Secs: make([]api.Sec, n)}
		for i := range n {
			c.Members[i] = api.Member{Collateral: int64(i) - 5, Fund: int64(-i)}
			c.Secs[i] = api.Sec{Price: int64(i) - 7, Cap: int64(-i)}
		}
		for i := 1; i <= n; i++ {
			if m, e := Member(c, i); m != c.Members[i-1] || e != api.OK {
				t.Errorf("Member %d of %d: %v, %v", i, n, m, e)
			}
			if s, e := Sec(c, i); s != c.Secs[i-1] || e != api.OK {
				t.Errorf("Sec %d of %d: %v, %v", i, n, s, e)
			}
		}
		for _, i := range beyond(n) {
			if m, e := Member(c, i); m != (api.Member{}) || e != api.ErrMember {
				t.Errorf("Member %d of %d: %v, %v", i, n, m, e)
			}
			if s, e := Sec(c, i); s != (api.Sec{}) || e != api.ErrSec {
				t.Errorf("Sec %d of %d: %v, %v", i, n, s, e)
			}
		}
	}
	// Members are not counted by securities, nor securities by members.
	c := house()
	if m, e := Member(c, 3); m != c.Members[2] || e != api.OK {
		t.Errorf("Member: %v, %v", m, e)
	}
	if s, e := Sec(c, 3); s != (api.Sec{}) || e != api.ErrSec {
		t.Errorf("Sec: %v, %v", s, e)
	}
}

// 10.2: a copy is the same, and shares nothing with what it was made of.
func TestCopy(t *testing.T) {
	for _, c := range []api.Config{{}, house(), Plain(16, 8, 4), {Lead: -5, Cycles: make([]api.Cycle, 99)}} {
		if d := Copy(c); !reflect.DeepEqual(d, c) {
			t.Errorf("Copy: %v; asked for: %v", d, c)
		}
	}
	change := func(c *api.Config) {
		c.Members[1].Fund++
		c.Secs[1].Price++
		c.Cycles[1].Buyin++
		_ = append(c.Members[:1], api.Member{Fund: 99})
		_ = append(c.Secs[:1], api.Sec{Cap: 99})
		_ = append(c.Cycles[:1], api.Cycle{Cut: 99})
		c.Line, c.Capital, c.Lead, c.Trades, c.Bids = -1, -1, -1, -1, -1
	}
	c := house()
	d := Copy(c)
	change(&d)
	if !reflect.DeepEqual(c, house()) {
		t.Errorf("changed by its copy: %v", c)
	}
	d = Copy(c)
	change(&c)
	if !reflect.DeepEqual(d, house()) {
		t.Errorf("a copy changed: %v", d)
	}
	// What stands behind the end of a list is not shared, either.
	c = house()
	c.Members, c.Secs, c.Cycles = c.Members[:1], c.Secs[:1], c.Cycles[:0]
	d = Copy(c)
	_ = append(d.Members, api.Member{Fund: 99})
	_ = append(d.Secs, api.Sec{Cap: 99})
	_ = append(d.Cycles, api.Cycle{Cut: 99})
	if c.Members[:2][1] != house().Members[1] || c.Secs[:2][1] != house().Secs[1] || c.Cycles[:1][0] != house().Cycles[0] {
		t.Errorf("changed behind its end: %v", c)
	}
}

// plain is a plain config, written down by hand, of numbers that may be.
func plain(members, secs, cycles int) api.Config {
	c := api.Config{Line: 500, Capital: 200, Lead: 1, Trades: 64, Bids: 32}
	for range members {
		c.Members = append(c.Members, api.Member{Collateral: 1000, Fund: 100})
	}
	for range secs {
		c.Secs = append(c.Secs, api.Sec{Price: 10, Cap: 12})
	}
	c.Cycles = []api.Cycle{
		{Cut: 4, Fund: 7, Buyin: 9, Close: 10},
		{Cut: 14, Fund: 17, Buyin: 19, Close: 20},
		{Cut: 24, Fund: 27, Buyin: 29, Close: 30},
		{Cut: 34, Fund: 37, Buyin: 39, Close: 40},
	}[:cycles]
	return c
}

// nearest are numbers that are told, and what is as near to them as may be, from least to most.
func nearest(least, most int) map[int]int {
	l := map[int]int{
		math.MinInt: least, -1: least, 0: least,
		most + 1: most, most + 2: most, 1000: most, 1 << 32: most, math.MaxInt: most,
	}
	for n := least; n <= most; n++ {
		l[n] = n
	}
	return l
}

// 10.3, 10.4: plain configs of any numbers have what may be, as near as that is, and may be.
func TestPlain(t *testing.T) {
	ms := nearest(2, 16)
	ms[1] = 2
	for members, m := range ms {
		for secs, s := range nearest(1, 8) {
			for cycles, y := range nearest(1, 4) {
				c := Plain(members, secs, cycles)
				if !reflect.DeepEqual(c, plain(m, s, y)) {
					t.Fatalf("Plain(%d, %d, %d): %v; asked for: %v", members, secs, cycles, c, plain(m, s, y))
				}
				wrongs(t, "plain", c, "")
			}
		}
	}
}

// 10.3: a plain config is its own one each time.
func TestPlainIsNew(t *testing.T) {
	c := Plain(2, 1, 1)
	c.Members[0].Fund, c.Secs[0].Price, c.Cycles[0].Cut = 77, 77, 77
	if d := Plain(2, 1, 1); !reflect.DeepEqual(d, plain(2, 1, 1)) {
		t.Errorf("Plain, once more: %v", d)
	}
	if c.Members[1].Fund != 100 {
		t.Errorf("members share what they have: %v", c)
	}
}

// 10.1, 10.3: the example of the chapter.
func TestExample(t *testing.T) {
	c := Plain(2, 1, 1)
	if len(c.Members) != 2 || len(c.Secs) != 1 || !slices.Equal(Ticks(c), []int{4, 7, 9, 10}) || Last(c) != 10 {
		t.Errorf("Plain(2, 1, 1): %v", c)
	}
}
