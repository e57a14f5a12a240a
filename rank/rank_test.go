package rank

import (
	"cmp"
	"math"
	"math/rand"
	"slices"
	"testing"
)

const (
	most  = math.MaxInt64
	least = math.MinInt64
)

// rising are keys, each one below the one behind it, written down by hand.
func rising() [][]int64 {
	return [][]int64{
		nil,
		{least}, {least, least}, {least, least, most}, {least, 0}, {least, most}, {least + 1},
		{-10}, {-9, 100}, {-2}, {-1}, {-1, least}, {-1, 0, 0}, {-1, 5},
		{0}, {0, least}, {0, -1}, {0, 0}, {0, 0, 0}, {0, 0, 0, -7}, {0, 0, 1}, {0, 1}, {0, most},
		{1}, {1, 5}, {1, 5, -1}, {1, 6}, {2}, {2, 1}, {10}, {11, least},
		{most - 1}, {most - 1, most, most}, {most}, {most, least}, {most, most},
	}
}

// below is whether a key is below another one, in the chapter's words.
func below(a, b []int64) bool {
	if len(b) == 0 {
		return false
	}
	if len(a) == 0 || a[0] != b[0] {
		return len(a) == 0 || a[0] < b[0]
	}
	return below(a[1:], b[1:])
}

// alike is whether two keys are the same.
func alike(a, b []int64) bool {
	return !below(a, b) && !below(b, a)
}

// slowPlace is where keys stand in their order, counted: as far behind as there are keys ahead of it.
func slowPlace(keys [][]int64) []int {
	place := make([]int, len(keys))
	for i, a := range keys {
		for k, b := range keys {
			if below(b, a) || k < i && alike(a, b) {
				place[i]++
			}
		}
	}
	return place
}

// slowOrder is the order of keys, by where they stand.
func slowOrder(keys [][]int64) []int {
	order := make([]int, len(keys))
	for i, at := range slowPlace(keys) {
		order[at] = i
	}
	return order
}

// slowRises is whether no key is below any one ahead of it, nor, strictly, like one.
func slowRises(keys [][]int64, strictly bool) bool {
	for i, a := range keys {
		for _, b := range keys[:i] {
			if below(a, b) || strictly && alike(a, b) {
				return false
			}
		}
	}
	return true
}

// slowRuns is where keys begin that are not like the one ahead.
func slowRuns(keys [][]int64) []int {
	var runs []int
	for i := range keys {
		if i > 0 && alike(keys[i-1], keys[i]) {
			continue
		}
		runs = append(runs, i)
	}
	return runs
}

// together are two lists, one behind the other, in memory of their own.
func together(a, b [][]int64) [][]int64 {
	var l [][]int64
	for _, key := range a {
		l = append(l, key)
	}
	for _, key := range b {
		l = append(l, key)
	}
	return l
}

// deep is a copy of keys that shares nothing with them.
func deep(keys [][]int64) [][]int64 {
	l := make([][]int64, len(keys))
	for i, key := range keys {
		l[i] = slices.Clone(key)
	}
	return l
}

// same is whether two lists of keys have the same keys in the same places.
func same(a, b [][]int64) bool {
	return slices.EqualFunc(a, b, func(x, y []int64) bool { return slices.Equal(x, y) })
}

// holds tells where a list's answers are not those that are counted, and where a call changed the list.
func holds(t *testing.T, keys [][]int64) {
	t.Helper()
	was := deep(keys)
	if l, want := Order(keys), slowOrder(keys); !slices.Equal(l, want) {
		t.Fatalf("Order(%d): %d; asked for: %d", keys, l, want)
	}
	if l, want := Place(keys), slowPlace(keys); !slices.Equal(l, want) {
		t.Fatalf("Place(%d): %d; asked for: %d", keys, l, want)
	}
	for _, strictly := range []bool{false, true} {
		if is, want := Rises(keys, strictly), slowRises(keys, strictly); is != want {
			t.Fatalf("Rises(%d, %v): %v", keys, strictly, is)
		}
	}
	if l, want := Runs(keys), slowRuns(keys); !slices.Equal(l, want) {
		t.Fatalf("Runs(%d): %d; asked for: %d", keys, l, want)
	}
	if !same(keys, was) {
		t.Fatalf("%d became %d", was, keys)
	}
}

// merges tells where Merge of two lists is not the order of both, and where it changed one of them.
func merges(t *testing.T, a, b [][]int64) {
	t.Helper()
	wasA, wasB := deep(a), deep(b)
	if l, want := Merge(a, b), slowOrder(together(a, b)); !slices.Equal(l, want) {
		t.Fatalf("Merge(%d, %d): %d; asked for: %d", a, b, l, want)
	}
	if !same(a, wasA) || !same(b, wasB) {
		t.Fatalf("%d, %d became %d, %d", wasA, wasB, a, b)
	}
}

// some are keys, drawn: short ones, with few numbers, so that many are alike, or begin alike.
func some(r *rand.Rand, n int) [][]int64 {
	numbers := []int64{least, -1, 0, 1, most}
	keys := make([][]int64, n)
	for i := range keys {
		for range r.Intn(4) {
			keys[i] = append(keys[i], numbers[r.Intn(len(numbers))])
		}
	}
	return keys
}

// sorted are keys, each one not below the one ahead.
func sorted(keys [][]int64) [][]int64 {
	l := make([][]int64, len(keys))
	for i, at := range slowPlace(keys) {
		l[at] = keys[i]
	}
	return l
}

// 5.1: two keys, held against one another by hand.
func TestCmpByHand(t *testing.T) {
	for _, c := range []struct {
		a, b []int64
		want int
	}{
		{nil, nil, 0},
		{nil, []int64{}, 0},
		{[]int64{}, nil, 0},
		{nil, []int64{least}, -1},
		{[]int64{least}, nil, 1},
		{[]int64{1}, []int64{1}, 0},
		{[]int64{1}, []int64{2}, -1},
		{[]int64{2}, []int64{10}, -1},
		{[]int64{-1}, []int64{0}, -1},
		{[]int64{-1}, []int64{-2}, 1},
		{[]int64{1}, []int64{1, 5}, -1},
		{[]int64{1, 5}, []int64{1}, 1},
		{[]int64{1, least}, []int64{1}, 1},
		{[]int64{1, 5}, []int64{2}, -1},
		{[]int64{2}, []int64{1, 5}, 1},
		{[]int64{1, 5, 9}, []int64{1, 6}, -1},
		{[]int64{1, 5, 9}, []int64{1, 5, 9}, 0},
		{[]int64{3, 1}, []int64{1, 3}, 1},
		{[]int64{least}, []int64{most}, -1}, // what is between them is no amount
		{[]int64{most}, []int64{least}, 1},
		{[]int64{0, most}, []int64{0, least}, 1},
		{[]int64{least}, []int64{1}, -1},
	} {
		if n := Cmp(c.a, c.b); n != c.want {
			t.Errorf("Cmp(%d, %d): %d; asked for: %d", c.a, c.b, n, c.want)
		}
	}
}

// 5.1: of keys that rise each one is below all behind it, and like itself alone; of any keys Cmp is what the chapter's words say.
func TestCmpOfAllPairs(t *testing.T) {
	keys := rising()
	for i, a := range keys {
		for k, b := range keys {
			if n := Cmp(a, b); n != cmp.Compare(i, k) {
				t.Errorf("Cmp(%d, %d): %d", a, b, n)
			}
		}
		if n := Cmp(a, slices.Clone(a)); n != 0 {
			t.Errorf("Cmp of %d and a copy: %d", a, n)
		}
	}
	drawn := some(rand.New(rand.NewSource(1)), 200)
	for _, a := range drawn {
		for _, b := range drawn {
			want := 0
			if below(a, b) {
				want = -1
			} else if below(b, a) {
				want = 1
			}
			if n := Cmp(a, b); n != want {
				t.Fatalf("Cmp(%d, %d): %d; asked for: %d", a, b, n, want)
			}
		}
	}
}

// 5.1: keys that differ at their last number alone, however long they are.
func TestCmpOfLongKeys(t *testing.T) {
	a := make([]int64, 5000)
	b := slices.Clone(a)
	b[4999] = -1
	if Cmp(a, b) != 1 || Cmp(b, a) != -1 || Cmp(a, a[:4999]) != 1 || Cmp(a[:4999], b) != -1 || Cmp(a, slices.Clone(a)) != 0 {
		t.Errorf("%d, %d, %d, %d", Cmp(a, b), Cmp(b, a), Cmp(a, a[:4999]), Cmp(a[:4999], b))
	}
}

// 5.1: orders and places, written down by hand.
func TestOrderByHand(t *testing.T) {
	for _, c := range []struct {
		keys         [][]int64
		order, place []int
	}{
		{nil, nil, nil},
		{[][]int64{}, nil, nil},
		{[][]int64{nil}, []int{0}, []int{0}},
		{[][]int64{{7}}, []int{0}, []int{0}},
		{[][]int64{{2}, {1, 5}, {1}}, []int{2, 1, 0}, []int{2, 1, 0}},
		{[][]int64{{3}, {1}, {2}}, []int{1, 2, 0}, []int{2, 0, 1}},
		{[][]int64{{1}, {2}, {3}}, []int{0, 1, 2}, []int{0, 1, 2}},
		{[][]int64{{1}, {1}, {1}}, []int{0, 1, 2}, []int{0, 1, 2}},
		{[][]int64{{2}, {1}, {2}, {1}}, []int{1, 3, 0, 2}, []int{2, 0, 3, 1}},
		{[][]int64{{0}, {}, {0}, nil}, []int{1, 3, 0, 2}, []int{2, 0, 3, 1}}, // none and an empty one are alike
		{[][]int64{{most}, {least}, {0, 0}, {0}, nil}, []int{4, 1, 3, 2, 0}, []int{4, 1, 3, 2, 0}},
		{[][]int64{{-1}, {-2}, {-1, -9}}, []int{1, 0, 2}, []int{1, 0, 2}},
	} {
		if l := Order(c.keys); !slices.Equal(l, c.order) {
			t.Errorf("Order(%d): %d; asked for: %d", c.keys, l, c.order)
		}
		if l := Place(c.keys); !slices.Equal(l, c.place) {
			t.Errorf("Place(%d): %d; asked for: %d", c.keys, l, c.place)
		}
	}
}

// 5.1: what rises, and what does not, written down by hand.
func TestRisesByHand(t *testing.T) {
	for _, c := range []struct {
		keys            [][]int64
		rises, strictly bool
	}{
		{nil, true, true},
		{[][]int64{}, true, true},
		{[][]int64{{5}}, true, true},
		{[][]int64{{1}, {2}, {3}}, true, true},
		{[][]int64{{1}, {1}, {1, 0}}, true, false},
		{[][]int64{{1}, {2}, {2}}, true, false},
		{[][]int64{nil, {}}, true, false},
		{[][]int64{nil, {least}, {least, least}}, true, true},
		{[][]int64{{2}, {1}}, false, false},
		{[][]int64{{2}, {1}, {3}}, false, false},
		{[][]int64{{1}, {3}, {2}}, false, false},
		{[][]int64{{1, 0}, {1}}, false, false},
		{[][]int64{{1}, nil}, false, false},
		{[][]int64{{most}, {least}}, false, false},
		{[][]int64{{least}, {most}}, true, true},
	} {
		if is := Rises(c.keys, false); is != c.rises {
			t.Errorf("Rises(%d, false): %v", c.keys, is)
		}
		if is := Rises(c.keys, true); is != c.strictly {
			t.Errorf("Rises(%d, true): %v", c.keys, is)
		}
	}
	if !Rises(rising(), true) || !Rises(rising(), false) {
		t.Errorf("Rises of what rises")
	}
}

// 5.2: two lists put together, written down by hand: those that rise, and those of which one does not, or none.
func TestMergeByHand(t *testing.T) {
	for _, c := range []struct {
		a, b [][]int64
		want []int
	}{
		{nil, nil, nil},
		{nil, [][]int64{}, nil},
		{[][]int64{{1}, {2}}, nil, []int{0, 1}},
		{nil, [][]int64{{1}, {2}}, []int{0, 1}},
		{[][]int64{{2}, {1}}, nil, []int{1, 0}},
		{nil, [][]int64{{2}, {1}}, []int{1, 0}},
		{[][]int64{{1}, {3}, {3}}, [][]int64{{0}, {3}, {4}}, []int{3, 0, 1, 2, 4, 5}},
		{[][]int64{{1}, {2}}, [][]int64{{3}, {4}}, []int{0, 1, 2, 3}},
		{[][]int64{{3}, {4}}, [][]int64{{1}, {2}}, []int{2, 3, 0, 1}},
		{[][]int64{{1}, {3}, {5}}, [][]int64{{2}, {4}}, []int{0, 3, 1, 4, 2}},
		{[][]int64{{1}, {1}}, [][]int64{{1}, {1}}, []int{0, 1, 2, 3}},
		{[][]int64{nil, {1}}, [][]int64{{}, {1}}, []int{0, 2, 1, 3}},
		{[][]int64{{1, 0}}, [][]int64{{1}}, []int{1, 0}},
		{[][]int64{{3}, {1}}, [][]int64{{2}}, []int{1, 2, 0}},
		{[][]int64{{2}}, [][]int64{{3}, {1}}, []int{2, 0, 1}},
		{[][]int64{{2}, {1}}, [][]int64{{2}, {1}}, []int{1, 3, 0, 2}},
		{[][]int64{{most}}, [][]int64{{least}}, []int{1, 0}},
	} {
		if l := Merge(c.a, c.b); !slices.Equal(l, c.want) {
			t.Errorf("Merge(%d, %d): %d; asked for: %d", c.a, c.b, l, c.want)
		}
	}
}

// 5.2: where runs begin, written down by hand.
func TestRunsByHand(t *testing.T) {
	for _, c := range []struct {
		keys [][]int64
		want []int
	}{
		{nil, nil},
		{[][]int64{}, nil},
		{[][]int64{nil}, []int{0}},
		{[][]int64{{4}}, []int{0}},
		{[][]int64{{1}, {1}, {2}, {1}}, []int{0, 2, 3}},
		{[][]int64{{1}, {1}, {1}}, []int{0}},
		{[][]int64{{3}, {2}, {1}}, []int{0, 1, 2}},
		{[][]int64{{1}, {1, 0}, {1, 0}, {1}}, []int{0, 1, 3}},
		{[][]int64{nil, {}, {0}}, []int{0, 2}},
		{[][]int64{{1, 2, 3}, {1, 2, 4}, {1, 2, 4}}, []int{0, 1}},
	} {
		if l := Runs(c.keys); !slices.Equal(l, c.want) {
			t.Errorf("Runs(%d): %d; asked for: %d", c.keys, l, c.want)
		}
	}
}

// 5.1, 5.2: all answers of all lists of up to five of four keys, and of such lists cut in two anywhere.
func TestAllSmallLists(t *testing.T) {
	few := [][]int64{nil, {0}, {0, -1}, {1}}
	var try func(keys [][]int64)
	try = func(keys [][]int64) {
		holds(t, keys)
		for cut := range len(keys) + 1 {
			merges(t, keys[:cut], keys[cut:])
		}
		for _, key := range few {
			if len(keys) < 5 {
				try(together(keys, [][]int64{key}))
			}
		}
	}
	try(nil)
}

// 5.1, 5.2: all answers of lists of many lengths, of which many keys are alike.
func TestDrawnLists(t *testing.T) {
	r := rand.New(rand.NewSource(2))
	for n := range 200 {
		keys := some(r, n)
		holds(t, keys)
		rise := sorted(keys)
		holds(t, rise)
		cut := r.Intn(n + 1)
		merges(t, keys[:cut], keys[cut:])
		merges(t, sorted(keys[:cut]), sorted(keys[cut:]))
		merges(t, sorted(keys[:cut]), keys[cut:])
		merges(t, keys[:cut], sorted(keys[cut:]))
		merges(t, rise, rise)
	}
}

// 5.1: of like ones the order is that of their places, however many there are.
func TestLikeOnesStandByTheirPlaces(t *testing.T) {
	const n = 5000
	keys := make([][]int64, n)
	for i := range keys {
		keys[i] = []int64{int64(i % 2)}
	}
	for at, i := range Order(keys) {
		want := 2 * at
		if at >= n/2 {
			want = 2*at - n + 1
		}
		if i != want {
			t.Fatalf("at %d: %d; asked for: %d", at, i, want)
		}
	}
}

// 5.1, 5.2: what stands behind a list that is handed in stays as it was.
func TestNothingBehindAListIsChanged(t *testing.T) {
	room := [][]int64{{3}, {1}, {77}, {78}}
	for _, a := range [][][]int64{room[:2], room[1:2]} {
		if l := Merge(a, [][]int64{{2}}); len(l) != len(a)+1 {
			t.Errorf("%d", l)
		}
	}
	if !same(room, [][]int64{{3}, {1}, {77}, {78}}) {
		t.Errorf("%d", room)
	}
}

// 5.1, 5.2: what was told is changed by no later call, and changes none.
func TestAnswersShareNothing(t *testing.T) {
	keys := [][]int64{{2}, {1}, {3}}
	for name, f := range map[string]func() []int{
		"Order":          func() []int { return Order(keys) },
		"Place":          func() []int { return Place(keys) },
		"Merge":          func() []int { return Merge(keys[1:], keys[:1]) },
		"Merge, falling": func() []int { return Merge(keys, keys) },
		"Runs":           func() []int { return Runs(keys) },
	} {
		first := f()
		was := slices.Clone(first)
		for i := range f() {
			f()[i] = 77
		}
		if !slices.Equal(first, was) || !slices.Equal(f(), was) {
			t.Errorf("%s: %d, then %d, %d", name, was, first, f())
		}
	}
}

// 5.3: keys in their order rise, and all are there once.
func TestKeysInTheirOrderRise(t *testing.T) {
	r := rand.New(rand.NewSource(3))
	for n := range 150 {
		keys := some(r, n)
		order := Order(keys)
		put := make([][]int64, 0, n)
		for _, i := range order {
			put = append(put, keys[i])
		}
		if !Rises(put, false) {
			t.Fatalf("%d in the order %d does not rise", keys, order)
		}
		for i, at := range Place(keys) {
			if order[at] != i {
				t.Fatalf("%d: order %d, but %d stands at %d", keys, order, i, at)
			}
		}
		slices.Sort(order)
		for i, k := range order {
			if i != k {
				t.Fatalf("%d: the order has not each place once", keys)
			}
		}
	}
}

// 5.3: if no two are alike, it does not show how keys stood.
func TestHowKeysStoodDoesNotShow(t *testing.T) {
	want := rising()
	r := rand.New(rand.NewSource(4))
	for range 300 {
		keys := rising()
		r.Shuffle(len(keys), func(i, k int) { keys[i], keys[k] = keys[k], keys[i] })
		var put [][]int64
		for _, i := range Order(keys) {
			put = append(put, keys[i])
		}
		if !same(put, want) {
			t.Fatalf("%d came to %d", keys, put)
		}
	}
}
