package wide

import (
	"math/big"
	"math/rand"
	"slices"
	"testing"

	"compline/api"
)

const most = 1<<64 - 1

// edges are words at which reckoning turns.
var edges = []uint64{0, 1, 2, 3, 7, 1<<32 - 1, 1 << 32, 1<<32 + 1, 1<<63 - 1, 1 << 63, 1<<63 + 1, most - 1, most}

// words are edges and words of every length, the same at each run.
func words() []uint64 {
	r := rand.New(rand.NewSource(1))
	l := slices.Clone(edges)
	for shift := range 32 {
		l = append(l, r.Uint64()>>(2*shift))
	}
	return l
}

// wides are wide numbers: edges in both words, and some of every length.
func wides() []Wide {
	r := rand.New(rand.NewSource(2))
	var l []Wide
	for _, hi := range edges {
		for _, lo := range edges {
			l = append(l, Wide{Hi: hi, Lo: lo})
		}
	}
	for shift := range 64 {
		l = append(l, Wide{Hi: r.Uint64() >> shift, Lo: r.Uint64()}, Wide{Lo: r.Uint64() >> shift})
	}
	return l
}

func word(a uint64) *big.Int { return new(big.Int).SetUint64(a) }

func exact(a Wide) *big.Int {
	n := new(big.Int).Lsh(word(a.Hi), 64)
	return n.Add(n, word(a.Lo))
}

// narrow is what exact reckoning answers: n where that is a wide number, else ErrOver.
func narrow(n *big.Int) (Wide, api.Errno) {
	if n.Sign() < 0 || n.BitLen() > 128 {
		return Wide{}, api.ErrOver
	}
	lo := new(big.Int).And(n, word(most))
	return Wide{Hi: new(big.Int).Rsh(n, 64).Uint64(), Lo: lo.Uint64()}, api.OK
}

// 2.1: products of all words are exact.
func TestMul(t *testing.T) {
	for _, a := range words() {
		for _, b := range words() {
			want, _ := narrow(new(big.Int).Mul(word(a), word(b)))
			if w := Mul(a, b); w != want {
				t.Fatalf("Mul(%d, %d): %v; asked for: %v", a, b, w, want)
			}
		}
	}
	for _, c := range []struct {
		a, b uint64
		w    Wide
	}{
		{0, most, Wide{}},
		{3, 5, Wide{Lo: 15}},
		{1 << 32, 1 << 32, Wide{Hi: 1}},
		{most, 1, Wide{Lo: most}},
		{most, 2, Wide{Hi: 1, Lo: most - 1}},
		{most, most, Wide{Hi: most - 1, Lo: 1}},
	} {
		if w := Mul(c.a, c.b); w != c.w {
			t.Errorf("Mul(%d, %d): %v", c.a, c.b, w)
		}
	}
}

// 2.1: Plus, Minus and Cmp of every pair are what exact reckoning answers; nothing stands beside ErrOver.
func TestPairsAreExact(t *testing.T) {
	for _, a := range wides() {
		for _, b := range wides() {
			x, y := exact(a), exact(b)
			want, we := narrow(new(big.Int).Add(x, y))
			if w, e := Plus(a, b); w != want || e != we {
				t.Fatalf("Plus(%v, %v): %v, %v; asked for: %v, %v", a, b, w, e, want, we)
			}
			want, we = narrow(new(big.Int).Sub(x, y))
			if w, e := Minus(a, b); w != want || e != we {
				t.Fatalf("Minus(%v, %v): %v, %v; asked for: %v, %v", a, b, w, e, want, we)
			}
			if n := Cmp(a, b); n != x.Cmp(y) {
				t.Fatalf("Cmp(%v, %v): %d", a, b, n)
			}
		}
	}
}

// 2.1: the edges of sums and differences, written down by hand.
func TestPairsByHand(t *testing.T) {
	end := Wide{Hi: most, Lo: most}
	for _, c := range []struct {
		name string
		f    func(a, b Wide) (Wide, api.Errno)
		a, b Wide
		w    Wide
		e    api.Errno
	}{
		{"Plus", Plus, Wide{Lo: 2}, Wide{Lo: 3}, Wide{Lo: 5}, api.OK},
		{"Plus", Plus, Wide{Lo: most}, Wide{Lo: 1}, Wide{Hi: 1}, api.OK},
		{"Plus", Plus, end, Wide{}, end, api.OK},
		{"Plus", Plus, end, Wide{Lo: 1}, Wide{}, api.ErrOver},
		{"Plus", Plus, Wide{Hi: most}, Wide{Hi: 1}, Wide{}, api.ErrOver},
		{"Plus", Plus, Wide{Hi: 1 << 63, Lo: 5}, Wide{Hi: 1 << 63, Lo: 6}, Wide{}, api.ErrOver},
		{"Plus", Plus, end, end, Wide{}, api.ErrOver},
		{"Minus", Minus, Wide{Lo: 3}, Wide{Lo: 2}, Wide{Lo: 1}, api.OK},
		{"Minus", Minus, Wide{Hi: 1}, Wide{Lo: 1}, Wide{Lo: most}, api.OK},
		{"Minus", Minus, end, end, Wide{}, api.OK},
		{"Minus", Minus, Wide{Lo: 2}, Wide{Lo: 3}, Wide{}, api.ErrOver},
		{"Minus", Minus, Wide{Lo: most}, Wide{Hi: 1}, Wide{}, api.ErrOver},
		{"Minus", Minus, Wide{Hi: 7}, Wide{Hi: 7, Lo: 1}, Wide{}, api.ErrOver},
	} {
		if w, e := c.f(c.a, c.b); w != c.w || e != c.e {
			t.Errorf("%s(%v, %v): %v, %v", c.name, c.a, c.b, w, e)
		}
	}
}

// 2.1: the upper word is held first, the lower one behind it.
func TestCmpByHand(t *testing.T) {
	for _, c := range []struct {
		a, b Wide
		n    int
	}{
		{Wide{}, Wide{}, 0},
		{Wide{Hi: 4, Lo: 9}, Wide{Hi: 4, Lo: 9}, 0},
		{Wide{Lo: 1}, Wide{Lo: 2}, -1},
		{Wide{Lo: 2}, Wide{Lo: 1}, 1},
		{Wide{Hi: 1}, Wide{Lo: most}, 1},
		{Wide{Lo: most}, Wide{Hi: 1}, -1},
		{Wide{Hi: 2, Lo: 1}, Wide{Hi: 1, Lo: 2}, 1},
		{Wide{Hi: 1, Lo: 2}, Wide{Hi: 2, Lo: 1}, -1},
		{Wide{Hi: 1 << 63}, Wide{Hi: 1}, 1},
	} {
		if n := Cmp(c.a, c.b); n != c.n {
			t.Errorf("Cmp(%v, %v): %d", c.a, c.b, n)
		}
	}
}

// quotient is what exact reckoning answers to Div.
func quotient(n *big.Int, c uint64) (uint64, uint64, api.Errno) {
	if c == 0 {
		return 0, 0, api.ErrArg
	}
	q, r := new(big.Int).QuoRem(n, word(c), new(big.Int))
	if !q.IsUint64() {
		return 0, 0, api.ErrOver
	}
	return q.Uint64(), r.Uint64(), api.OK
}

// 2.2, 2.3: Div is exact; how often, times the divisor, and what is left, are what was divided; what is left is below the divisor.
func TestDiv(t *testing.T) {
	for _, a := range wides() {
		for _, c := range append(words(), a.Hi, a.Hi+1, a.Lo) {
			wq, wr, we := quotient(exact(a), c)
			q, r, e := Div(a, c)
			if q != wq || r != wr || e != we {
				t.Fatalf("Div(%v, %d): %d, %d, %v; asked for: %d, %d, %v", a, c, q, r, e, wq, wr, we)
			}
			if e != api.OK {
				continue
			}
			if back, e := Plus(Mul(q, c), Wide{Lo: r}); back != a || e != api.OK || r >= c {
				t.Fatalf("Div(%v, %d): %d, %d, put together: %v, %v", a, c, q, r, back, e)
			}
		}
	}
}

// 2.2: the edges of Div, written down by hand; of both errors ErrArg comes first.
func TestDivByHand(t *testing.T) {
	for _, c := range []struct {
		a    Wide
		c    uint64
		q, r uint64
		e    api.Errno
	}{
		{Wide{}, 5, 0, 0, api.OK},
		{Wide{Lo: 17}, 5, 3, 2, api.OK},
		{Wide{Lo: most}, 1, most, 0, api.OK},
		{Wide{Hi: 1}, 2, 1 << 63, 0, api.OK},
		{Wide{Hi: most - 1, Lo: most}, most, most, most - 1, api.OK},
		{Wide{}, 0, 0, 0, api.ErrArg},
		{Wide{Hi: most, Lo: most}, 0, 0, 0, api.ErrArg},
		{Wide{Hi: 1}, 1, 0, 0, api.ErrOver},
		{Wide{Hi: 5}, 5, 0, 0, api.ErrOver},
		{Wide{Hi: 5}, 4, 0, 0, api.ErrOver},
		{Wide{Hi: most, Lo: most}, most, 0, 0, api.ErrOver},
	} {
		if q, r, e := Div(c.a, c.c); q != c.q || r != c.r || e != c.e {
			t.Errorf("Div(%v, %d): %d, %d, %v", c.a, c.c, q, r, e)
		}
	}
}

// 2.2, 2.3: MulDiv is Div of the exact product.
func TestMulDiv(t *testing.T) {
	for _, a := range words() {
		for _, b := range words() {
			product := new(big.Int).Mul(word(a), word(b))
			for _, c := range words() {
				wq, wr, we := quotient(product, c)
				if q, r, e := MulDiv(a, b, c); q != wq || r != wr || e != we {
					t.Fatalf("MulDiv(%d, %d, %d): %d, %d, %v; asked for: %d, %d, %v", a, b, c, q, r, e, wq, wr, we)
				}
			}
		}
	}
	for _, c := range []struct {
		a, b, c, q, r uint64
		e             api.Errno
	}{
		{1 << 63, 6, 4, 3 << 62, 0, api.OK},
		{10, 10, 7, 14, 2, api.OK},
		{0, most, 3, 0, 0, api.OK},
		{most, most, most, most, 0, api.OK},
		{5, 5, 0, 0, 0, api.ErrArg},
		{most, most, 0, 0, 0, api.ErrArg},
		{most, 2, 1, 0, 0, api.ErrOver},
		{most, most, most - 1, 0, 0, api.ErrOver},
	} {
		if q, r, e := MulDiv(c.a, c.b, c.c); q != c.q || r != c.r || e != c.e {
			t.Errorf("MulDiv(%d, %d, %d): %d, %d, %v", c.a, c.b, c.c, q, r, e)
		}
	}
}

// 2.2: Less holds exact products against one another.
func TestLess(t *testing.T) {
	l := append(slices.Clone(edges), 5, 6, 10, 15)
	for _, a := range l {
		for _, b := range l {
			x := new(big.Int).Mul(word(a), word(b))
			for _, c := range l {
				for _, d := range l {
					if n := Less(a, b, c, d); n != x.Cmp(new(big.Int).Mul(word(c), word(d))) {
						t.Fatalf("Less(%d, %d, %d, %d): %d", a, b, c, d, n)
					}
				}
			}
		}
	}
	for _, c := range []struct {
		a, b, c, d uint64
		n          int
	}{
		{3, 5, 4, 4, -1},
		{4, 4, 3, 5, 1},
		{2, 6, 3, 4, 0},
		{1 << 32, 1 << 32, most, 1, 1},
		{most, most, most, most - 1, 1},
	} {
		if n := Less(c.a, c.b, c.c, c.d); n != c.n {
			t.Errorf("Less(%d, %d, %d, %d): %d", c.a, c.b, c.c, c.d, n)
		}
	}
}
