package share

import (
	"math"
	"math/big"
	"math/rand"
	"slices"
	"testing"

	"compline/api"
)

const (
	most  = math.MaxInt64
	least = math.MinInt64
)

// result is what a call answers.
type result struct {
	l []int64
	e api.Errno
}

// total is the sum of amounts, in exact reckoning.
func total(l []int64) *big.Int {
	n := new(big.Int)
	for _, a := range l {
		n.Add(n, big.NewInt(a))
	}
	return n
}

// wrong is the first error of an amount and of weights, as the chapter names them; OK, if there is none.
func wrong(amount int64, weights []int64) api.Errno {
	if len(weights) > api.MaxParts {
		return api.ErrFull
	}
	if amount < 0 || len(weights) > 0 && slices.Min(weights) < 0 {
		return api.ErrArg
	}
	if !total(weights).IsInt64() {
		return api.ErrOver
	}
	return api.OK
}

// slow apportions in exact reckoning: each thing that is left over goes to the first one of those whose remainder is the greatest one still.
func slow(amount int64, weights []int64) result {
	if e := wrong(amount, weights); e != api.OK {
		return result{nil, e}
	}
	sum := total(weights)
	if sum.Sign() == 0 && amount != 0 {
		return result{nil, api.ErrRule}
	}
	parts := make([]int64, len(weights))
	if amount == 0 {
		return result{parts, api.OK}
	}
	rests := make([]*big.Int, len(weights))
	for i, w := range weights {
		n := new(big.Int).Mul(big.NewInt(amount), big.NewInt(w))
		q, r := n.QuoRem(n, sum, new(big.Int))
		parts[i], rests[i] = q.Int64(), r
	}
	for left := amount - total(parts).Int64(); left > 0; left-- {
		best := 0
		for i, r := range rests {
			if r.Cmp(rests[best]) > 0 {
				best = i
			}
		}
		parts[best]++
		rests[best] = big.NewInt(-1)
	}
	return result{parts, api.OK}
}

// slowAllocate allocates in exact reckoning.
func slowAllocate(avail int64, claims []int64) result {
	if e := wrong(avail, claims); e != api.OK {
		return result{nil, e}
	}
	if big.NewInt(avail).Cmp(total(claims)) >= 0 {
		return result{claims, api.OK}
	}
	return slow(avail, claims)
}

// holds tells where a call's answer is not the one asked for; the weights must be as they were.
func holds(t *testing.T, name string, f func(int64, []int64) ([]int64, api.Errno), amount int64, weights []int64, want result) {
	t.Helper()
	before := slices.Clone(weights)
	l, e := f(amount, weights)
	if !slices.Equal(l, want.l) || e != want.e {
		t.Errorf("%s(%d, %d): %d, %v; asked for: %d, %v", name, amount, weights, l, e, want.l, want.e)
	}
	if !slices.Equal(weights, before) {
		t.Fatalf("%s changed %d to %d", name, before, weights)
	}
}

// 3.1: parts and errors, written down by hand.
func TestApportionByHand(t *testing.T) {
	for _, c := range []struct {
		amount  int64
		weights []int64
		parts   []int64
		e       api.Errno
	}{
		{100, []int64{1, 1, 1}, []int64{34, 33, 33}, api.OK},
		{101, []int64{1, 1, 1}, []int64{34, 34, 33}, api.OK},
		{2, []int64{1, 1, 1, 1}, []int64{1, 1, 0, 0}, api.OK},
		{1, []int64{1, 2, 2}, []int64{0, 1, 0}, api.OK},
		{10, []int64{6, 6, 2}, []int64{4, 4, 2}, api.OK}, // 4 and 4/14, twice, and 1 and 6/14: the last one has the greatest remainder
		{10, []int64{3, 0, 7}, []int64{3, 0, 7}, api.OK},
		{7, []int64{0, 5, 0}, []int64{0, 7, 0}, api.OK},
		{5, []int64{0, 1, 0, 1, 0}, []int64{0, 3, 0, 2, 0}, api.OK},
		{9, []int64{4}, []int64{9}, api.OK},
		{3, []int64{1, 1, 1000}, []int64{0, 0, 3}, api.OK},
		{1, []int64{most}, []int64{1}, api.OK},
		{most, []int64{1}, []int64{most}, api.OK},
		{most, []int64{most}, []int64{most}, api.OK},
		{most, []int64{most, 0}, []int64{most, 0}, api.OK},
		{most, []int64{1, 1}, []int64{1 << 62, 1<<62 - 1}, api.OK},
		{most, []int64{1 << 62, 1<<62 - 1}, []int64{1 << 62, 1<<62 - 1}, api.OK},
		{most - 1, []int64{1 << 62, 1<<62 - 1}, []int64{1<<62 - 1, 1<<62 - 1}, api.OK},
		{0, []int64{3, 4}, []int64{0, 0}, api.OK},
		{0, []int64{0, 0}, []int64{0, 0}, api.OK},
		{0, nil, nil, api.OK},
		{0, []int64{}, nil, api.OK},
		{5, []int64{0, 0}, nil, api.ErrRule},
		{5, nil, nil, api.ErrRule},
		{most, []int64{0}, nil, api.ErrRule},
		{-1, []int64{1}, nil, api.ErrArg},
		{least, []int64{1}, nil, api.ErrArg},
		{1, []int64{-1}, nil, api.ErrArg},
		{1, []int64{2, -1}, nil, api.ErrArg},
		{1, []int64{least, most}, nil, api.ErrArg},
		{0, []int64{1, -1}, nil, api.ErrArg},
		{1, []int64{most, 1}, nil, api.ErrOver},
		{0, []int64{most, 1}, nil, api.ErrOver},
		{1, []int64{most, most, 2}, nil, api.ErrOver},
	} {
		holds(t, "Apportion", Apportion, c.amount, c.weights, result{c.parts, c.e})
	}
}

// 3.1: of several errors the one that the chapter names first is answered.
func TestFirstErrors(t *testing.T) {
	long := make([]int64, api.MaxParts+1)
	longBelow := slices.Clone(long)
	longBelow[0] = -1
	longOver := slices.Repeat([]int64{most}, api.MaxParts+1)
	for _, c := range []struct {
		amount  int64
		weights []int64
		e       api.Errno
	}{
		{0, long, api.ErrFull},
		{1, long, api.ErrFull},
		{-1, long, api.ErrFull},
		{1, longBelow, api.ErrFull},
		{1, longOver, api.ErrFull},
		{-1, []int64{most, 1}, api.ErrArg},
		{-1, nil, api.ErrArg},
		{-1, []int64{0}, api.ErrArg},
		{1, []int64{most, most, -1}, api.ErrArg},
		{1, []int64{-1, most, most}, api.ErrArg},
		{1, []int64{-1, 1}, api.ErrArg}, // the sum is 0
	} {
		holds(t, "Apportion", Apportion, c.amount, c.weights, result{nil, c.e})
		holds(t, "Allocate", Allocate, c.amount, c.weights, result{nil, c.e})
	}
}

// 3.1, 3.2: as many parts as there may be.
func TestAsManyPartsAsThereMayBe(t *testing.T) {
	weights := slices.Repeat([]int64{1}, api.MaxParts)
	l, e := Apportion(api.MaxParts+3, weights)
	want := slices.Repeat([]int64{1}, api.MaxParts)
	want[0], want[1], want[2] = 2, 2, 2
	if !slices.Equal(l, want) || e != api.OK {
		t.Errorf("Apportion: %d, %v", l, e)
	}
	if l, e := Allocate(api.MaxParts-1, weights); !slices.Equal(l, append(slices.Clone(weights[1:]), 0)) || e != api.OK {
		t.Errorf("Allocate: %d, %v", l, e)
	}
	if l, e := Apportion(0, make([]int64, api.MaxParts)); len(l) != api.MaxParts || e != api.OK {
		t.Errorf("Apportion of nothing: %d, %v", l, e)
	}
}

// 3.2: what is allocated, and errors, written down by hand.
func TestAllocateByHand(t *testing.T) {
	for _, c := range []struct {
		avail  int64
		claims []int64
		parts  []int64
		e      api.Errno
	}{
		{5, []int64{4, 4}, []int64{3, 2}, api.OK},
		{7, []int64{4, 4}, []int64{4, 3}, api.OK},
		{8, []int64{4, 4}, []int64{4, 4}, api.OK},
		{9, []int64{4, 4}, []int64{4, 4}, api.OK},
		{most, []int64{4, 4}, []int64{4, 4}, api.OK},
		{0, []int64{4, 4}, []int64{0, 0}, api.OK},
		{0, []int64{0, 0}, []int64{0, 0}, api.OK},
		{5, []int64{0, 0}, []int64{0, 0}, api.OK}, // nobody claims anything: no ErrRule
		{5, nil, nil, api.OK},
		{0, nil, nil, api.OK},
		{3, []int64{0, 4, 1}, []int64{0, 2, 1}, api.OK},
		{most - 1, []int64{most - 1, 1}, []int64{most - 2, 1}, api.OK},
		{most - 1, []int64{1, most - 1}, []int64{1, most - 2}, api.OK},
		{most - 1, []int64{1, 1, most - 2}, []int64{1, 1, most - 3}, api.OK},
		{most, []int64{most}, []int64{most}, api.OK},
		{-1, []int64{1}, nil, api.ErrArg},
		{least, nil, nil, api.ErrArg},
		{9, []int64{4, -1}, nil, api.ErrArg},
		{most, []int64{most, 1}, nil, api.ErrOver},
		{1, []int64{most, most}, nil, api.ErrOver},
	} {
		holds(t, "Allocate", Allocate, c.avail, c.claims, result{c.parts, c.e})
	}
}

// amounts are some from 0 on, of a size that is drawn too: small ones meet in remainders, great ones in the edges of the range.
func amounts(r *rand.Rand, n int) []int64 {
	bits := r.Intn(64)
	l := make([]int64, n)
	for i := range l {
		l[i] = int64(r.Uint64() >> 1 >> bits)
		if r.Intn(5) == 0 {
			l[i] = 0
		}
		if i > 0 && r.Intn(4) == 0 {
			l[i] = l[r.Intn(i)]
		}
	}
	if r.Intn(60) == 0 && n > 0 {
		l[r.Intn(n)] = -1 - l[0]>>1
	}
	return l
}

// 3.1, 3.2: all answers are those of exact reckoning.
func TestPartsAreExact(t *testing.T) {
	r := rand.New(rand.NewSource(3))
	for range 40000 {
		weights := amounts(r, r.Intn(8))
		amount := int64(r.Uint64() >> 1 >> r.Intn(64))
		if r.Intn(50) == 0 {
			amount = -amount
		}
		holds(t, "Apportion", Apportion, amount, weights, slow(amount, weights))
		holds(t, "Allocate", Allocate, amount, weights, slowAllocate(amount, weights))
		if n := total(weights); n.IsInt64() && n.Sign() > 0 {
			near := n.Int64() - 1 + r.Int63n(2)
			holds(t, "Allocate", Allocate, near, weights, slowAllocate(near, weights))
		}
		if t.Failed() {
			return
		}
	}
}

// 3.1, 3.2: all answers of small amounts and of up to four small weights.
func TestAllSmallParts(t *testing.T) {
	var try func(weights []int64)
	try = func(weights []int64) {
		for amount := int64(0); amount <= 12; amount++ {
			holds(t, "Apportion", Apportion, amount, weights, slow(amount, weights))
			holds(t, "Allocate", Allocate, amount, weights, slowAllocate(amount, weights))
		}
		if len(weights) < 4 && !t.Failed() {
			for w := range int64(6) {
				try(append(slices.Clone(weights), w))
			}
		}
	}
	try(nil)
}

// fair tells where parts are not what 3.3 says of an amount and of weights.
func fair(t *testing.T, amount int64, weights, parts []int64) {
	t.Helper()
	if total(parts).Cmp(big.NewInt(amount)) != 0 {
		t.Errorf("%d by %d: %d are not the amount together", amount, weights, parts)
	}
	sum := total(weights)
	for i, w := range weights {
		n := new(big.Int).Mul(big.NewInt(amount), big.NewInt(w))
		q, rest := n.QuoRem(n, sum, new(big.Int))
		more := parts[i] - q.Int64()
		if more < 0 || more > 1 || more == 1 && rest.Sign() == 0 {
			t.Errorf("%d by %d: %d: part %d is neither rounded down nor up", amount, weights, parts, i)
		}
		for k, v := range weights {
			if w > v && parts[i] < parts[k] || w == v && i < k && parts[i] < parts[k] {
				t.Errorf("%d by %d: %d: part %d is less than part %d", amount, weights, parts, i, k)
			}
		}
	}
}

// 3.3: nothing is lost, and nobody is slighted; of what is allocated nobody has more than the claim.
func TestPartsAreFair(t *testing.T) {
	r := rand.New(rand.NewSource(4))
	tried := 0
	for tried < 3000 {
		weights := amounts(r, 1+r.Intn(30))
		sum := total(weights)
		if slices.Min(weights) < 0 || !sum.IsInt64() || sum.Sign() == 0 {
			continue
		}
		tried++
		amount := int64(r.Uint64() >> 1 >> r.Intn(64))
		parts, e := Apportion(amount, weights)
		if e != api.OK {
			t.Fatalf("Apportion(%d, %d): %v", amount, weights, e)
		}
		fair(t, amount, weights, parts)
		given, e := Allocate(amount, weights)
		if e != api.OK {
			t.Fatalf("Allocate(%d, %d): %v", amount, weights, e)
		}
		fair(t, min(amount, sum.Int64()), weights, given)
		if lost, e := Lost(weights, given); e != api.OK || total(lost).Int64() != max(sum.Int64()-amount, 0) {
			t.Errorf("Lost(%d, %d): %d, %v", weights, given, lost, e)
		}
		if t.Failed() {
			return
		}
	}
}

// 3.1, 3.2: what is answered is memory of its own, also where it is what was handed in.
func TestAnswersShareNothing(t *testing.T) {
	claims := []int64{4, 4, 2}
	for name, f := range map[string]func(int64, []int64) ([]int64, api.Errno){"Apportion": Apportion, "Allocate": Allocate} {
		for _, amount := range []int64{0, 5, 10, 20} {
			l, _ := f(amount, claims)
			l[0] = 77
			_ = append(l[:1], 78)
			if !slices.Equal(claims, []int64{4, 4, 2}) {
				t.Fatalf("%s(%d) hands out what it was handed: %d", name, amount, claims)
			}
		}
	}
	parts := []int64{0, 0, 0}
	l, _ := Lost(claims, parts)
	l[0] = 77
	if !slices.Equal(claims, []int64{4, 4, 2}) || !slices.Equal(parts, []int64{0, 0, 0}) {
		t.Errorf("Lost hands out what it was handed: %d, %d", claims, parts)
	}
}

// 3.2: parts rounded down, and remainders, written down by hand.
func TestQuotaByHand(t *testing.T) {
	for _, c := range []struct {
		total, weight, sum, part, rest int64
		e                              api.Errno
	}{
		{10, 2, 3, 6, 2, api.OK},
		{100, 1, 3, 33, 1, api.OK},
		{100, 3, 3, 100, 0, api.OK},
		{100, 0, 3, 0, 0, api.OK},
		{0, 2, 3, 0, 0, api.OK},
		{0, 0, 1, 0, 0, api.OK},
		{2, 3, 7, 0, 6, api.OK},
		{most, most, most, most, 0, api.OK},
		{most, most - 1, most, most - 1, 0, api.OK},
		{most - 1, most - 1, most, most - 2, 1, api.OK},
		{most, 1, most, 1, 0, api.OK},
		{most - 1, 1, most, 0, most - 1, api.OK},
		{-1, 2, 3, 0, 0, api.ErrArg},
		{least, 2, 3, 0, 0, api.ErrArg},
		{10, -1, 3, 0, 0, api.ErrArg},
		{10, least, 3, 0, 0, api.ErrArg},
		{10, 2, -3, 0, 0, api.ErrArg},
		{10, -3, -2, 0, 0, api.ErrArg},
		{10, least, least, 0, 0, api.ErrArg},
		{-10, -2, -1, 0, 0, api.ErrArg},
		{10, 4, 3, 0, 0, api.ErrArg},
		{0, 4, 3, 0, 0, api.ErrArg},
		{10, most, most - 1, 0, 0, api.ErrArg},
		{10, 0, 0, 0, 0, api.ErrArg},
		{0, 0, 0, 0, 0, api.ErrArg},
		{10, 1, 0, 0, 0, api.ErrArg},
	} {
		if p, r, e := Quota(c.total, c.weight, c.sum); p != c.part || r != c.rest || e != c.e {
			t.Errorf("Quota(%d, %d, %d): %d, %d, %v; asked for: %d, %d, %v", c.total, c.weight, c.sum, p, r, e, c.part, c.rest, c.e)
		}
	}
}

// 3.2: Quota is exact for amounts of every length.
func TestQuotaIsExact(t *testing.T) {
	r := rand.New(rand.NewSource(5))
	for range 20000 {
		n := int64(r.Uint64() >> 1 >> r.Intn(64))
		sum := max(int64(r.Uint64()>>1>>r.Intn(64)), 1)
		weight := min(int64(r.Uint64()>>1>>r.Intn(64)), sum)
		product := new(big.Int).Mul(big.NewInt(n), big.NewInt(weight))
		q, rest := new(big.Int).QuoRem(product, big.NewInt(sum), new(big.Int))
		if p, r, e := Quota(n, weight, sum); p != q.Int64() || r != rest.Int64() || e != api.OK {
			t.Fatalf("Quota(%d, %d, %d): %d, %d, %v; asked for: %d, %d", n, weight, sum, p, r, e, q, rest)
		}
	}
}

// 3.2: by how much parts are below claims, and errors, written down by hand.
func TestLostByHand(t *testing.T) {
	for _, c := range []struct {
		claims, parts, lost []int64
		e                   api.Errno
	}{
		{[]int64{4, 4}, []int64{3, 2}, []int64{1, 2}, api.OK},
		{[]int64{4, 4}, []int64{4, 4}, []int64{0, 0}, api.OK},
		{[]int64{4, 0, most}, []int64{0, 0, 0}, []int64{4, 0, most}, api.OK},
		{[]int64{most, most}, []int64{0, most - 1}, []int64{most, 1}, api.OK}, // together no amount: that is not asked
		{nil, nil, nil, api.OK},
		{nil, []int64{}, nil, api.OK},
		{[]int64{4, 4}, []int64{3}, nil, api.ErrArg},
		{[]int64{4}, []int64{3, 0}, nil, api.ErrArg},
		{nil, []int64{0}, nil, api.ErrArg},
		{[]int64{0}, nil, nil, api.ErrArg},
		{[]int64{4}, []int64{5}, nil, api.ErrArg},
		{[]int64{4, 4, 4}, []int64{1, 2, 5}, nil, api.ErrArg},
		{[]int64{4, 4, 4}, []int64{5, 2, 1}, nil, api.ErrArg},
		{[]int64{4, 4}, []int64{1, -1}, nil, api.ErrArg},
		{[]int64{4}, []int64{least}, nil, api.ErrArg},
		{[]int64{-1}, []int64{-1}, nil, api.ErrArg},
		{[]int64{-1}, []int64{-2}, nil, api.ErrArg},
		{[]int64{-1}, []int64{0}, nil, api.ErrArg},
		{[]int64{3, least}, []int64{1, least}, nil, api.ErrArg},
	} {
		claims, parts := slices.Clone(c.claims), slices.Clone(c.parts)
		if l, e := Lost(claims, parts); !slices.Equal(l, c.lost) || e != c.e {
			t.Errorf("Lost(%d, %d): %d, %v; asked for: %d, %v", c.claims, c.parts, l, e, c.lost, c.e)
		}
		if !slices.Equal(claims, c.claims) || !slices.Equal(parts, c.parts) {
			t.Errorf("Lost changed %d, %d to %d, %d", c.claims, c.parts, claims, parts)
		}
	}
}

// 3.2: Lost has no bound on how many there are.
func TestLostOfVeryMany(t *testing.T) {
	n := 3 * api.MaxParts
	l, e := Lost(slices.Repeat([]int64{9}, n), slices.Repeat([]int64{2}, n))
	if !slices.Equal(l, slices.Repeat([]int64{7}, n)) || e != api.OK {
		t.Errorf("%d, %v", len(l), e)
	}
}

// 3.1, 3.2: beside an error stands no list.
func TestNothingBesideAnError(t *testing.T) {
	for i, f := range []func() ([]int64, api.Errno){
		func() ([]int64, api.Errno) { return Apportion(5, []int64{0, 0}) },
		func() ([]int64, api.Errno) { return Apportion(5, []int64{most, 1}) },
		func() ([]int64, api.Errno) { return Allocate(-5, []int64{1, 2}) },
		func() ([]int64, api.Errno) { return Lost([]int64{1, 2, 3}, []int64{1, 2, 4}) },
	} {
		if l, e := f(); len(l) != 0 || e == api.OK {
			t.Errorf("%d: %d, %v", i, l, e)
		}
	}
}
