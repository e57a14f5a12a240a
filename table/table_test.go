package table

import (
	"maps"
	"math"
	"math/rand"
	"slices"
	"testing"

	"compline/api"
)

const (
	most  = math.MaxInt64
	least = math.MinInt64
)

// with is a table with rows of these numbers, put in this order; the thing of each one is twice its number.
func with(t *testing.T, room int, ids ...int64) *Table[int64] {
	t.Helper()
	x := New[int64](room)
	for _, id := range ids {
		if e := x.Put(id, 2*id); e != api.OK {
			t.Fatalf("Put(%d): %v", id, e)
		}
	}
	return x
}

// ids are the numbers of a table's rows.
func ids(x *Table[int64]) []int64 {
	var l []int64
	for _, r := range x.Rows() {
		l = append(l, r.Id)
	}
	return l
}

// 4.1: New has room for so many, for none of a number below 0; no room is too great.
func TestNew(t *testing.T) {
	for _, c := range []struct{ room, left int }{
		{0, 0}, {1, 1}, {3, 3}, {1000, 1000}, {-1, 0}, {-5, 0}, {math.MinInt, 0}, {math.MaxInt, math.MaxInt},
	} {
		x := New[string](c.room)
		if x == nil || x.Len() != 0 || x.Left() != c.left || len(x.Rows()) != 0 {
			t.Fatalf("New(%d): %v", c.room, x)
		}
		want := api.OK
		if c.left == 0 {
			want = api.ErrFull
		}
		if e := x.Put(1, "a"); e != want {
			t.Errorf("New(%d): Put: %v", c.room, e)
		}
	}
}

// 4.1: the rows stand by rising numbers, in whatever order they are put.
func TestPutInAnyOrder(t *testing.T) {
	want := []int64{least, -7, -1, 0, 1, 9, most}
	r := rand.New(rand.NewSource(1))
	for range 200 {
		l := slices.Clone(want)
		r.Shuffle(len(l), func(i, k int) { l[i], l[k] = l[k], l[i] })
		x := with(t, len(l), l...)
		if !slices.Equal(ids(x), want) {
			t.Fatalf("put %d: %d", l, ids(x))
		}
		for _, id := range want {
			if v, e := x.Get(id); v != 2*id || e != api.OK {
				t.Fatalf("Get(%d): %d, %v", id, v, e)
			}
		}
	}
}

// 4.1: a number that is there is ErrTwice, also where there is no room; another one is ErrFull then. Neither changes anything.
func TestPutOfWrongRows(t *testing.T) {
	x := with(t, 2, 5, 3)
	for _, c := range []struct {
		id int64
		e  api.Errno
	}{{4, api.ErrFull}, {least, api.ErrFull}, {most, api.ErrFull}, {5, api.ErrTwice}, {3, api.ErrTwice}} {
		if e := x.Put(c.id, 77); e != c.e {
			t.Errorf("Put(%d): %v; asked for: %v", c.id, e, c.e)
		}
	}
	roomy := with(t, 3, 5, 3)
	if e := roomy.Put(5, 77); e != api.ErrTwice {
		t.Errorf("Put(5), with room: %v", e)
	}
	for _, y := range []*Table[int64]{x, roomy} {
		if !slices.Equal(y.Rows(), []Row[int64]{{3, 6}, {5, 10}}) {
			t.Errorf("%v", y.Rows())
		}
	}
}

// 4.1: Set changes the thing of its row alone.
func TestSet(t *testing.T) {
	x := with(t, 4, 1, 3, 5)
	if e := x.Set(3, -1); e != api.OK {
		t.Errorf("Set(3): %v", e)
	}
	for _, id := range []int64{least, 0, 2, 4, 6, most} {
		if e := x.Set(id, 77); e != api.ErrNone {
			t.Errorf("Set(%d): %v", id, e)
		}
	}
	if !slices.Equal(x.Rows(), []Row[int64]{{1, 2}, {3, -1}, {5, 10}}) || x.Left() != 1 {
		t.Errorf("%v, %d", x.Rows(), x.Left())
	}
}

// 4.1: Get and Drop of a row that is not there are ErrNone, with nothing beside it, and change nothing.
func TestGetAndDropOfNoRow(t *testing.T) {
	x := with(t, 4, 1, 3, 5)
	for _, id := range []int64{least, 0, 2, 4, 6, most} {
		if v, e := x.Get(id); v != 0 || e != api.ErrNone {
			t.Errorf("Get(%d): %d, %v", id, v, e)
		}
		if v, e := x.Drop(id); v != 0 || e != api.ErrNone {
			t.Errorf("Drop(%d): %d, %v", id, v, e)
		}
	}
	if !slices.Equal(ids(x), []int64{1, 3, 5}) {
		t.Errorf("%d", ids(x))
	}
}

// 4.1: what is dropped is told, is no more, and leaves room.
func TestDrop(t *testing.T) {
	for i, id := range []int64{1, 3, 5} {
		x := with(t, 3, 1, 3, 5)
		if v, e := x.Drop(id); v != 2*id || e != api.OK {
			t.Errorf("Drop(%d): %d, %v", id, v, e)
		}
		if _, e := x.Get(id); e != api.ErrNone {
			t.Errorf("Get(%d): %v", id, e)
		}
		if _, e := x.Drop(id); e != api.ErrNone {
			t.Errorf("Drop(%d), once more: %v", id, e)
		}
		if !slices.Equal(ids(x), slices.Delete([]int64{1, 3, 5}, i, i+1)) || x.Len() != 2 || x.Left() != 1 {
			t.Errorf("%d, %d, %d", ids(x), x.Len(), x.Left())
		}
		if e := x.Put(id, 8); e != api.OK || x.Left() != 0 {
			t.Errorf("Put(%d): %v, %d", id, e, x.Left())
		}
		if v, e := x.Get(id); v != 8 || e != api.OK {
			t.Errorf("Get(%d): %d, %v", id, v, e)
		}
	}
}

// 4.2: Len and Left, on the way up and down.
func TestLenAndLeft(t *testing.T) {
	x := New[int64](5)
	for n := range 5 {
		if x.Len() != n || x.Left() != 5-n {
			t.Errorf("%d, %d", x.Len(), x.Left())
		}
		x.Put(int64(-n), 0)
		x.Put(int64(-n), 1)
	}
	for n := range 5 {
		if x.Len() != 5-n || x.Left() != n {
			t.Errorf("%d, %d", x.Len(), x.Left())
		}
		x.Drop(int64(-n))
		x.Drop(int64(-n))
	}
	if x.Len() != 0 || x.Left() != 5 || len(x.Rows()) != 0 {
		t.Errorf("%d, %d, %v", x.Len(), x.Left(), x.Rows())
	}
}

// 4.2: Near is the first row that is not below a number; nothing stands beside a false.
func TestNear(t *testing.T) {
	x := with(t, 4, 3, -2, 9)
	for _, c := range []struct {
		id, row int64
		is      bool
	}{
		{least, -2, true}, {-3, -2, true}, {-2, -2, true}, {-1, 3, true}, {0, 3, true}, {3, 3, true}, {4, 9, true}, {8, 9, true}, {9, 9, true},
		{10, 0, false}, {most, 0, false},
	} {
		if r, is := x.Near(c.id); r != (Row[int64]{c.row, 2 * c.row}) || is != c.is {
			t.Errorf("Near(%d): %v, %v", c.id, r, is)
		}
	}
	for _, id := range []int64{least, 0, most} {
		if r, is := New[int64](3).Near(id); r != (Row[int64]{}) || is {
			t.Errorf("Near(%d) of an empty one: %v, %v", id, r, is)
		}
	}
	ends := with(t, 2, least, most)
	for _, c := range [][2]int64{{least, least}, {least + 1, most}, {most, most}} {
		if r, is := ends.Near(c[0]); r.Id != c[1] || !is {
			t.Errorf("Near(%d): %v, %v", c[0], r, is)
		}
	}
}

// 4.2: the rows that were told stay as they were told, and changing them changes no table.
func TestRowsAreHandedOut(t *testing.T) {
	x := with(t, 5, 1, 3, 5)
	l := x.Rows()
	x.Set(3, 77)
	x.Drop(1)
	x.Put(4, 78)
	if !slices.Equal(l, []Row[int64]{{1, 2}, {3, 6}, {5, 10}}) {
		t.Errorf("rows that were told changed: %v", l)
	}
	l = x.Rows()
	l[0] = Row[int64]{-9, -9}
	_ = append(l[:1], Row[int64]{-8, -8})
	if !slices.Equal(x.Rows(), []Row[int64]{{3, 77}, {4, 78}, {5, 10}}) {
		t.Errorf("a table changed by its rows: %v", x.Rows())
	}
}

// 4.2: a copy has the same rows and room; what is done to one of both does not show in the other.
func TestCopy(t *testing.T) {
	x := with(t, 5, 1, 3, 5)
	y := x.Copy()
	if !slices.Equal(y.Rows(), x.Rows()) || y.Len() != 3 || y.Left() != 2 {
		t.Fatalf("%v, %d", y.Rows(), y.Left())
	}
	change := func(t *testing.T, a, b *Table[int64]) {
		before, left := b.Rows(), b.Left()
		a.Put(0, 70)
		a.Set(3, 71)
		a.Drop(5)
		a.Put(9, 72)
		if !slices.Equal(a.Rows(), []Row[int64]{{0, 70}, {1, 2}, {3, 71}, {9, 72}}) || a.Left() != 1 {
			t.Errorf("changed: %v, %d", a.Rows(), a.Left())
		}
		if !slices.Equal(b.Rows(), before) || b.Left() != left {
			t.Errorf("the other one: %v, %d", b.Rows(), b.Left())
		}
	}
	change(t, y, x)
	change(t, x.Copy(), x)
	change(t, x, x.Copy())
	full := with(t, 1, 7).Copy()
	if e := full.Put(8, 0); e != api.ErrFull {
		t.Errorf("a copy of a full one: %v", e)
	}
	if none := New[int64](-3).Copy(); none == nil || none.Left() != 0 || none.Put(1, 1) != api.ErrFull {
		t.Errorf("a copy of one without room: %v", none)
	}
}

// 4.1, 4.2: of no table: ErrNone, nothing, 0, false.
func TestNoTable(t *testing.T) {
	var x *Table[string]
	if e := x.Put(1, "a"); e != api.ErrNone {
		t.Errorf("Put: %v", e)
	}
	if e := x.Set(1, "a"); e != api.ErrNone {
		t.Errorf("Set: %v", e)
	}
	if v, e := x.Get(1); v != "" || e != api.ErrNone {
		t.Errorf("Get: %q, %v", v, e)
	}
	if v, e := x.Drop(1); v != "" || e != api.ErrNone {
		t.Errorf("Drop: %q, %v", v, e)
	}
	if x.Len() != 0 || x.Left() != 0 || len(x.Rows()) != 0 {
		t.Errorf("%d, %d, %v", x.Len(), x.Left(), x.Rows())
	}
	if r, is := x.Near(least); r != (Row[string]{}) || is {
		t.Errorf("Near: %v, %v", r, is)
	}
	if c := x.Copy(); c != nil {
		t.Errorf("Copy: %v", c)
	}
}

// 4.1: things of any type, also those that can't be compared.
func TestThingsOfAnyType(t *testing.T) {
	x := New[[]string](2)
	if e := x.Put(2, []string{"a", "b"}); e != api.OK {
		t.Errorf("Put: %v", e)
	}
	if e := x.Put(1, nil); e != api.OK {
		t.Errorf("Put: %v", e)
	}
	if v, e := x.Get(2); !slices.Equal(v, []string{"a", "b"}) || e != api.OK {
		t.Errorf("Get: %q, %v", v, e)
	}
	f := New[func() int](1)
	f.Put(1, func() int { return 7 })
	if g, e := f.Drop(1); e != api.OK || g() != 7 {
		t.Errorf("Drop: %v", e)
	}
	if g, e := f.Get(1); g != nil || e != api.ErrNone {
		t.Errorf("Get: %v", e)
	}
	if g, is := New[error](1).Near(0); g.V != nil || is {
		t.Errorf("Near: %v", g)
	}
}

// model is a table kept in a plain way.
type model struct {
	room int
	m    map[int64]int
}

func (o model) put(id int64, v int) api.Errno {
	if _, is := o.m[id]; is {
		return api.ErrTwice
	}
	if len(o.m) >= o.room {
		return api.ErrFull
	}
	o.m[id] = v
	return api.OK
}

func (o model) get(id int64) (int, api.Errno) {
	v, is := o.m[id]
	if !is {
		return 0, api.ErrNone
	}
	return v, api.OK
}

func (o model) rows() []Row[int] {
	var l []Row[int]
	for _, id := range slices.Sorted(maps.Keys(o.m)) {
		l = append(l, Row[int]{id, o.m[id]})
	}
	return l
}

func (o model) near(id int64) (Row[int], bool) {
	for _, r := range o.rows() {
		if r.Id >= id {
			return r, true
		}
	}
	return Row[int]{}, false
}

// step does the same thing, drawn, to a table and to its model, and tells whether both answered the same.
func step(r *rand.Rand, x *Table[int], o model) bool {
	id, v := r.Int63n(40)-20, r.Intn(1000)
	had, none := o.get(id)
	switch r.Intn(6) {
	case 0, 1:
		return x.Put(id, v) == o.put(id, v)
	case 2:
		if none == api.OK {
			o.m[id] = v
		}
		return x.Set(id, v) == none
	case 3:
		got, e := x.Drop(id)
		delete(o.m, id)
		return got == had && e == none
	case 4:
		got, e := x.Get(id)
		return got == had && e == none
	}
	got, is := x.Near(id)
	want, there := o.near(id)
	return got == want && is == there
}

// 4.3: rows rise; what was put is told, till it is set or dropped; a table goes on in a copy as it would have without.
func TestTablesAreAsTheirModels(t *testing.T) {
	r := rand.New(rand.NewSource(2))
	for range 60 {
		room := r.Intn(34) - 2
		x, o := New[int](room), model{max(room, 0), map[int64]int{}}
		for i := range 400 {
			if !step(r, x, o) {
				t.Fatalf("step %d: %v; asked for: %v", i, x.Rows(), o.rows())
			}
			if !slices.Equal(x.Rows(), o.rows()) || x.Len() != len(o.m) || x.Left() != o.room-len(o.m) {
				t.Fatalf("step %d: %v, %d, %d; asked for: %v", i, x.Rows(), x.Len(), x.Left(), o.rows())
			}
			if r.Intn(40) == 0 {
				x = x.Copy()
			}
		}
	}
}
