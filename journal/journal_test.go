package journal

import (
	"encoding/binary"
	"fmt"
	"hash/crc32"
	"math"
	"math/rand"
	"slices"
	"strings"
	"testing"

	"compline/api"
	"compline/disk"
)

// told is what is asked for of a call.
type told struct {
	d api.Disk
	l []string
	e api.Errno
}

// tells holds a call's answers against what is asked for.
func tells(t *testing.T, what string, is, want told) {
	t.Helper()
	if is.d != want.d || !slices.Equal(is.l, want.l) || is.e != want.e {
		t.Fatalf("%s: %s; asked for: %s", what, is, want)
	}
}

// String is what is told, to be read also where it has many bytes.
func (x told) String() string {
	return fmt.Sprintf("%s, %.60q, %v", short(x.d), x.l, x.e)
}

// short is a disk to be read.
func short(d api.Disk) string {
	return fmt.Sprintf("{%d: %.60q, %d: %.60q, %d, %v}", len(d.Synced), d.Synced, len(d.Waits), d.Waits, d.Fuse, d.Down)
}

// framed are records' frames, made by Go's own library.
func framed(records ...string) string {
	var b []byte
	for _, r := range records {
		b = binary.BigEndian.AppendUint32(b, uint32(len(r)))
		b = binary.BigEndian.AppendUint32(b, crc32.ChecksumIEEE([]byte(r)))
		b = append(b, r...)
	}
	return string(b)
}

// slowRead are the records at the front of bytes, and how many bytes their frames have.
func slowRead(s string) ([]string, int) {
	for n := range len(s) - 7 {
		if n <= api.MaxRecord && strings.HasPrefix(s, framed(s[8:8+n])) {
			l, used := slowRead(s[8+n:])
			return append([]string{s[8 : 8+n]}, l...), 8 + n + used
		}
	}
	return nil, 0
}

// slowAppend is Append, as the chapter says it.
func slowAppend(d api.Disk, record string) told {
	_, whole := slowRead(d.Synced)
	if len(record) > api.MaxRecord {
		return told{d, nil, api.ErrLong}
	}
	if whole != len(d.Synced) || d.Waits != "" {
		return told{d, nil, api.ErrForm}
	}
	d, e := disk.Write(d, framed(record))
	if e != api.OK {
		return told{d, nil, e}
	}
	d, e = disk.Sync(d)
	return told{d, nil, e}
}

// barred is the error that Mend and Trim tell first.
func barred(d api.Disk) api.Errno {
	if e := disk.Check(d); e != api.OK {
		return e
	}
	if d.Down {
		return api.ErrDown
	}
	if d.Waits != "" {
		return api.ErrForm
	}
	return api.OK
}

// slowMend is Mend, as the chapter says it.
func slowMend(d api.Disk) told {
	if e := barred(d); e != api.OK {
		return told{d, nil, e}
	}
	l, whole := slowRead(d.Synced)
	if whole == len(d.Synced) {
		return told{d, l, api.OK}
	}
	d, e := disk.Cut(d, whole)
	if e != api.OK {
		return told{d, nil, e}
	}
	return told{d, l, api.OK}
}

// slowTrim is Trim, as the chapter says it.
func slowTrim(d api.Disk, records int) told {
	if e := barred(d); e != api.OK {
		return told{d, nil, e}
	}
	l, _ := slowRead(d.Synced)
	if records < 0 || records > len(l) {
		return told{d, nil, api.ErrNone}
	}
	first := framed(l[:records]...)
	if first == d.Synced {
		return told{d, nil, api.OK}
	}
	d, e := disk.Cut(d, len(first))
	return told{d, nil, e}
}

// held holds all calls on a disk against the slow ones.
func held(t *testing.T, d api.Disk, records ...string) {
	t.Helper()
	want, whole := slowRead(d.Synced)
	if l, n := Read(d); !slices.Equal(l, want) || n != whole {
		t.Fatalf("Read(%s): %.60q, %d; asked for: %.60q, %d", short(d), l, n, want, whole)
	}
	for _, r := range records {
		x, e := Append(d, r)
		tells(t, fmt.Sprintf("Append(%s, %d: %.20q)", short(d), len(r), r), told{x, nil, e}, slowAppend(d, r))
	}
	x, l, e := Mend(d)
	tells(t, "Mend("+short(d)+")", told{x, l, e}, slowMend(d))
	for _, n := range []int{math.MinInt, -1, 0, 1, 2, 3, 4, math.MaxInt} {
		x, e := Trim(d, n)
		tells(t, fmt.Sprintf("Trim(%s, %d)", short(d), n), told{x, nil, e}, slowTrim(d, n))
	}
}

// changed is a text with another byte at a place.
func changed(s string, i int, by byte) string {
	b := []byte(s)
	b[i] ^= by
	return string(b)
}

// contents are bytes that a disk may have: frames, rests of each kind behind some, and what only looks like these.
func contents() []string {
	one, two := framed("one"), framed("one", "")
	return []string{
		"", one, two, framed("one", "", "three"),
		framed(framed("one")), framed("\x00\x00\x00\x00"), framed(strings.Repeat("x", 1024)),
		"\x00", "x", one[:1], one[:7], one[:8], one[:10], two[:18],
		one + "\x00", one + "\x00\x00\x04", two + "x", one + one[:8],
		one + framed(strings.Repeat("x", 1025)), // a length that none can have
		changed(one, 4, 1), changed(one, 10, 0x80), changed(two, 18, 1) + one, changed(two, 0, 0x80), changed(two, 14, 1) + one,
	}
}

// 12.1, 12.2, 12.3: all calls, on disks of any contents, with and without what waits, power, and a fuse of any length.
func TestAllDisks(t *testing.T) {
	records := []string{"", "two", framed("two"), strings.Repeat("y", 1024), strings.Repeat("y", 1025)}
	for _, synced := range contents() {
		for _, waits := range []string{"", "x", framed("two"), framed("two")[:5]} {
			for _, fuse := range []int{math.MinInt, -2, -1, 0, 1, 2, 3, math.MaxInt} {
				for _, down := range []bool{false, true} {
					held(t, api.Disk{Synced: synced, Waits: waits, Fuse: fuse, Down: down}, records...)
				}
			}
		}
	}
}

// 12.1: the journal is that of what is synced, of any disk: also of one that may not be, and of one that is Down; what waits is none of it, and completes nothing.
func TestRead(t *testing.T) {
	s := framed("one", "", "three")
	for i := range len(s) + 1 {
		want, whole := []string{"one", "", "three"}, len(s)
		switch {
		case i < 11:
			want, whole = nil, 0
		case i < 19:
			want, whole = []string{"one"}, 11
		case i < len(s):
			want, whole = []string{"one", ""}, 19
		}
		for _, d := range []api.Disk{
			{Synced: s[:i]},
			{Synced: s[:i], Waits: s[i:], Fuse: api.None},
			{Synced: s[:i], Waits: framed("four"), Down: true},
			{Synced: s[:i], Fuse: -100},
			{Synced: s[:i], Waits: strings.Repeat("x", api.MaxDisk+1)},
		} {
			if l, n := Read(d); !slices.Equal(l, want) || n != whole {
				t.Errorf("Read(%s): %q, %d; asked for: %q, %d", short(d), l, n, want, whole)
			}
		}
	}
	most := strings.Repeat(framed("one"), api.MaxDisk/11+10)
	if l, n := Read(api.Disk{Synced: most}); len(l) != api.MaxDisk/11+10 || n != len(most) {
		t.Errorf("Read of a disk that may not be: %d, %d", len(l), n)
	}
}

// 12.2: which error comes first, where several things hinder Append.
func TestAppendErrors(t *testing.T) {
	one, long := framed("one"), strings.Repeat("x", 1025)
	for _, c := range []struct {
		d      api.Disk
		record string
		e      api.Errno
	}{
		{api.Disk{Synced: one + "x", Waits: "x", Fuse: -2, Down: true}, long, api.ErrLong},
		{api.Disk{Synced: one + "x", Fuse: -2, Down: true}, "a", api.ErrForm},
		{api.Disk{Synced: one, Waits: "x", Fuse: -2, Down: true}, "a", api.ErrForm},
		{api.Disk{Synced: one, Fuse: -2, Down: true}, "a", api.ErrArg},
		{api.Disk{Synced: one, Fuse: -1, Down: true}, "a", api.ErrDown},
		{api.Disk{Synced: one, Waits: "x", Fuse: 0}, "a", api.ErrForm},
		{api.Disk{Synced: strings.Repeat(one, api.MaxDisk/11+1), Fuse: 5}, "a", api.ErrArg},
		{api.Disk{Synced: strings.Repeat(one, api.MaxDisk/11+1) + "x", Fuse: 5}, "a", api.ErrForm},
	} {
		d, e := Append(c.d, c.record)
		tells(t, "Append("+short(c.d)+")", told{d, nil, e}, told{c.d, nil, c.e})
	}
}

// 12.2: a disk that is almost full: a record that just fits, and one that does not, which burns nothing of the fuse.
func TestAppendFull(t *testing.T) {
	s := strings.Repeat(framed(strings.Repeat("x", 1024)), 1016) // 64 bytes are left
	for fuse := -1; fuse < 4; fuse++ {
		d := api.Disk{Synced: s, Fuse: fuse}
		x, e := Append(d, strings.Repeat("y", 57))
		tells(t, "Append of too much", told{x, nil, e}, told{d, nil, api.ErrFull})
		record := strings.Repeat("y", 56)
		x, e = Append(d, record)
		tells(t, "Append of as much as fits", told{x, nil, e}, slowAfter(d, record))
	}
	d, e := Append(api.Disk{Synced: s, Fuse: 2}, strings.Repeat("y", 56))
	if len(d.Synced) != api.MaxDisk || e != api.OK {
		t.Fatalf("Append: %d bytes, %v", len(d.Synced), e)
	}
	x, e := Append(d, "")
	tells(t, "Append to a full disk", told{x, nil, e}, told{d, nil, api.ErrFull})
	// A full disk is mended, and trimmed, as any other one is.
	d.Fuse = api.None
	if x, l, e := Mend(d); x != d || len(l) != 1017 || e != api.OK {
		t.Errorf("Mend: %s, %d, %v", short(x), len(l), e)
	}
	if x, e := Trim(d, 1016); x.Synced != s || e != api.OK {
		t.Errorf("Trim: %s, %v", short(x), e)
	}
}

// slowAfter is what becomes of a disk to which a record is put that fits: by the fuse alone.
func slowAfter(d api.Disk, record string) told {
	switch d.Fuse {
	case 0, 1:
		return told{api.Disk{Synced: d.Synced, Waits: framed(record), Down: true}, nil, api.ErrDown}
	case api.None:
		return told{api.Disk{Synced: d.Synced + framed(record), Fuse: api.None}, nil, api.OK}
	}
	return told{api.Disk{Synced: d.Synced + framed(record), Fuse: d.Fuse - 2}, nil, api.OK}
}

// 12.2, 12.3: what is done by hand: one operation for a rest, or a trim, and none where there is nothing to be done.
func TestMendAndTrim(t *testing.T) {
	one, two := framed("one"), framed("one", "two")
	for _, c := range []struct {
		synced string
		fuse   int
		n      int // records for Trim; -1: Mend
		want   told
	}{
		{"", 0, -1, told{api.Disk{}, nil, api.OK}},
		{two, 0, -1, told{api.Disk{Synced: two}, []string{"one", "two"}, api.OK}},
		{two + "x", 1, -1, told{api.Disk{Synced: two}, []string{"one", "two"}, api.OK}},
		{two + "x", 0, -1, told{api.Disk{Synced: two + "x", Down: true}, nil, api.ErrDown}},
		{two[:21], 5, -1, told{api.Disk{Synced: one, Fuse: 4}, []string{"one"}, api.OK}},
		{one[:10], api.None, -1, told{api.Disk{Fuse: api.None}, nil, api.OK}},
		{two, 0, 2, told{api.Disk{Synced: two}, nil, api.OK}},
		{"", 0, 0, told{api.Disk{}, nil, api.OK}},
		{two + "x", 1, 2, told{api.Disk{Synced: two}, nil, api.OK}},
		{two + "x", 0, 2, told{api.Disk{Synced: two + "x", Down: true}, nil, api.ErrDown}},
		{two, 3, 1, told{api.Disk{Synced: one, Fuse: 2}, nil, api.OK}},
		{two, 0, 1, told{api.Disk{Synced: two, Down: true}, nil, api.ErrDown}},
		{two, 3, 0, told{api.Disk{Fuse: 2}, nil, api.OK}},
		{two, 3, 3, told{api.Disk{Synced: two, Fuse: 3}, nil, api.ErrNone}},
		{two, 3, -2, told{api.Disk{Synced: two, Fuse: 3}, nil, api.ErrNone}},
		{"x", 3, 1, told{api.Disk{Synced: "x", Fuse: 3}, nil, api.ErrNone}},
		{"x", 3, 0, told{api.Disk{Fuse: 2}, nil, api.OK}},
	} {
		d := api.Disk{Synced: c.synced, Fuse: c.fuse}
		var is told
		if c.n == -1 {
			is.d, is.l, is.e = Mend(d)
		} else {
			is.d, is.e = Trim(d, c.n)
		}
		tells(t, fmt.Sprintf("%d of %s", c.n, short(d)), is, c.want)
	}
}

// 12.2, 12.3: which error comes first, where several things hinder Mend and Trim.
func TestMendErrors(t *testing.T) {
	for _, c := range []struct {
		d api.Disk
		e api.Errno
	}{
		{api.Disk{Synced: "x", Waits: "x", Fuse: -2, Down: true}, api.ErrArg},
		{api.Disk{Synced: "x", Waits: strings.Repeat("x", api.MaxDisk)}, api.ErrArg},
		{api.Disk{Synced: "x", Waits: "x", Fuse: 1, Down: true}, api.ErrDown},
		{api.Disk{Synced: "x", Waits: "x", Fuse: 1}, api.ErrForm},
		{api.Disk{Waits: framed("one")}, api.ErrForm},
	} {
		d, l, e := Mend(c.d)
		tells(t, "Mend("+short(c.d)+")", told{d, l, e}, told{c.d, nil, c.e})
		for _, n := range []int{-1, 0, 1} {
			d, e = Trim(c.d, n)
			tells(t, "Trim("+short(c.d)+")", told{d, nil, e}, told{c.d, nil, c.e})
		}
	}
}

// mended is what is left of a disk behind a crash and Mend, which must come to an end that is one.
func mended(t *testing.T, d api.Disk, keep int) []string {
	t.Helper()
	d, e := disk.Crash(d, keep)
	if e != api.OK {
		t.Fatalf("Crash(%s): %v", short(d), e)
	}
	before, _ := Read(d)
	// Without power in it, and behind the next crash, the journal is what it was.
	d.Fuse = 0
	x, l, e := Mend(d)
	if whole := d.Synced == framed(before...); whole != (e == api.OK) || !whole && (e != api.ErrDown || l != nil) {
		t.Fatalf("Mend(%s): %q, %v", short(d), l, e)
	}
	x, _ = disk.Crash(x, keep)
	x, l, e = Mend(x)
	if e != api.OK || !slices.Equal(l, before) || x.Synced != framed(before...) {
		t.Fatalf("Mend(%s): %s, %q, %v", short(d), short(x), l, e)
	}
	// What is mended has no rest, and mended again it is the same, also without power.
	x.Fuse = 0
	y, m, e := Mend(x)
	tells(t, "Mend, again", told{y, m, e}, told{x, l, api.OK})
	return l
}

// 12.4: behind a crash anywhere within Append the journal is what it was, or has the record, too; it has it, if Append told no error. So it is with records whose frames, cut off, look like others' frames.
func TestCrash(t *testing.T) {
	records := []string{"", "a", "\x00", strings.Repeat("\x00", 20), framed("a"), framed("", "", ""), strings.Repeat("x", 1024)}
	for _, old := range [][]string{nil, {""}, {"one"}, {"one", "", framed("x")}} {
		for _, record := range records {
			for fuse := -1; fuse < 4; fuse++ {
				d, e := Append(api.Disk{Synced: framed(old...), Fuse: fuse}, record)
				size := len(framed(record))
				for keep := -1; keep <= size+1; keep++ {
					l := mended(t, d, keep)
					want := slices.Clone(old)
					if e == api.OK || keep >= size {
						want = append(want, record)
					}
					if !slices.Equal(l, want) {
						t.Fatalf("%q behind %q, fuse %d, keep %d: %q", record, old, fuse, keep, l)
					}
				}
			}
		}
	}
}

// 12.1 to 12.4: drawn deeds, one behind the other, with crashes wherever; the journal is that of a plain list, or has the one record in flight, too.
func TestDrawn(t *testing.T) {
	r := rand.New(rand.NewSource(1))
	for range 300 {
		d := api.Disk{Fuse: api.None}
		var kept []string
		for range 40 {
			if r.Intn(4) == 0 {
				d.Fuse = r.Intn(4)
			}
			var e api.Errno
			before := slices.Clone(kept)
			record := strings.Repeat("z", r.Intn(30))
			switch r.Intn(3) {
			case 0, 1:
				d, e = Append(d, record)
				kept = append(kept, record)
			case 2:
				n := r.Intn(len(kept) + 1)
				d, e = Trim(d, n)
				kept = kept[:n]
			}
			if e == api.OK {
				continue
			}
			after, n := kept, r.Intn(50)
			kept = before
			if e != api.ErrDown {
				t.Fatalf("%s: %v", short(d), e)
			}
			// Only of a record that was written is there more behind the crash than there was.
			if n >= len(d.Waits) && d.Waits != "" {
				kept = after
			}
			d, _ = disk.Crash(d, n)
			var l []string
			d, l, e = Mend(d)
			if e != api.OK || !slices.Equal(l, kept) {
				t.Fatalf("Mend: %q, %v; asked for: %q", l, e, kept)
			}
		}
		held(t, d, "a")
	}
}

// R4: what is answered is new memory.
func TestNew(t *testing.T) {
	d := api.Disk{Synced: framed("one", "two")}
	l, _ := Read(d)
	_, m, _ := Mend(d)
	l[0], m[1] = "x", "y"
	if k, _ := Read(d); !slices.Equal(k, []string{"one", "two"}) || l[1] != "two" || m[0] != "one" {
		t.Errorf("Read: %q, %q, %q", k, l, m)
	}
}

// The chapter's example.
func TestExample(t *testing.T) {
	d, e := Append(api.Disk{Fuse: api.None}, "a")
	if l, whole := Read(d); e != api.OK || !slices.Equal(l, []string{"a"}) || whole != 9 {
		t.Errorf("Append: %v; %q, %d", e, l, whole)
	}
}
