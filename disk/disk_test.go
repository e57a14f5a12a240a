package disk

import (
	"math"
	"strings"
	"testing"

	"compline/api"
)

// told is what is asked for of a call.
type told struct {
	d api.Disk
	e api.Errno
}

// tells holds a call's answers against what is asked for.
func tells(t *testing.T, what string, d api.Disk, e api.Errno, want told) {
	t.Helper()
	if (told{d, e}) != want {
		t.Errorf("%s: %+v, %v; asked for: %+v, %v", what, short(d), e, short(want.d), want.e)
	}
}

// short is a disk to be read, also if it has many bytes.
func short(d api.Disk) api.Disk {
	cut := func(s string) string {
		if len(s) > 20 {
			return s[:20] + ".."
		}
		return s
	}
	d.Synced, d.Waits = cut(d.Synced), cut(d.Waits)
	return d
}

// bytes are so many bytes.
func bytes(n int) string {
	return strings.Repeat("x", n)
}

// calls are all calls that answer a disk, each with arguments that are right and with such that are wrong, wherever there are any.
func calls() map[string]func(d api.Disk) (api.Disk, api.Errno) {
	return map[string]func(d api.Disk) (api.Disk, api.Errno){
		"Write":              func(d api.Disk) (api.Disk, api.Errno) { return Write(d, "ab") },
		"Write of nothing":   func(d api.Disk) (api.Disk, api.Errno) { return Write(d, "") },
		"Write of too much":  func(d api.Disk) (api.Disk, api.Errno) { return Write(d, bytes(api.MaxDisk+1)) },
		"Sync":               func(d api.Disk) (api.Disk, api.Errno) { return Sync(d) },
		"Cut to nothing":     func(d api.Disk) (api.Disk, api.Errno) { return Cut(d, 0) },
		"Cut below 0":        func(d api.Disk) (api.Disk, api.Errno) { return Cut(d, -1) },
		"Cut far below 0":    func(d api.Disk) (api.Disk, api.Errno) { return Cut(d, math.MinInt) },
		"Cut behind the end": func(d api.Disk) (api.Disk, api.Errno) { return Cut(d, math.MaxInt) },
	}
}

// 9.1: which disks may be: at most MaxDisk bytes, wherever they are, and a fuse from None on; whether it is Down or not.
func TestCheck(t *testing.T) {
	const most = api.MaxDisk
	for _, down := range []bool{false, true} {
		for _, c := range []struct {
			synced, waits, fuse int
			want                api.Errno
		}{
			{0, 0, 0, api.OK},
			{0, 0, api.None, api.OK},
			{0, 0, 1, api.OK},
			{0, 0, math.MaxInt, api.OK},
			{0, 0, -2, api.ErrArg},
			{0, 0, math.MinInt, api.ErrArg},
			{most, 0, api.None, api.OK},
			{0, most, api.None, api.OK},
			{most - 1, 1, 0, api.OK},
			{1, most - 1, 0, api.OK},
			{most / 2, most / 2, 5, api.OK},
			{most + 1, 0, api.None, api.ErrArg},
			{0, most + 1, api.None, api.ErrArg},
			{most, 1, 0, api.ErrArg},
			{1, most, 0, api.ErrArg},
			{most/2 + 1, most / 2, 5, api.ErrArg},
			{most, most, api.None, api.ErrArg},
			{most, 1, -2, api.ErrArg},
		} {
			d := api.Disk{Synced: bytes(c.synced), Waits: bytes(c.waits), Fuse: c.fuse, Down: down}
			if e := Check(d); e != c.want {
				t.Errorf("Check of %d and %d bytes, Fuse %d, Down %v: %v; asked for: %v", c.synced, c.waits, c.fuse, down, e, c.want)
			}
		}
	}
}

// 9.1: of a disk that may not be all others answer ErrArg first, whatever else is wrong; it is as it was.
func TestDiskThatMayNotBe(t *testing.T) {
	for _, d := range []api.Disk{
		{Fuse: -2},
		{Synced: "abc", Fuse: -2},
		{Synced: "abc", Fuse: -2, Down: true},
		{Synced: "abc", Waits: "de", Fuse: math.MinInt, Down: true},
		{Synced: bytes(api.MaxDisk + 1)},
		{Synced: bytes(api.MaxDisk), Waits: "y", Fuse: api.None},
		{Waits: bytes(api.MaxDisk + 1), Fuse: 3, Down: true},
	} {
		for name, call := range calls() {
			x, e := call(d)
			tells(t, name, x, e, told{d, api.ErrArg})
		}
		for _, keep := range []int{math.MinInt, -1, 0, 1, math.MaxInt} {
			x, e := Crash(d, keep)
			tells(t, "Crash", x, e, told{d, api.ErrArg})
		}
	}
}

// 9.1: of a disk that is Down Write, Sync and Cut answer ErrDown, whatever else is wrong, and whatever its fuse; it is as it was.
func TestDown(t *testing.T) {
	for _, fuse := range []int{api.None, 0, 1, 7} {
		for _, d := range []api.Disk{
			{},
			{Synced: "abc"},
			{Waits: "de"},
			{Synced: "abc", Waits: "de"},
			{Synced: bytes(api.MaxDisk)},
		} {
			d.Down, d.Fuse = true, fuse
			for name, call := range calls() {
				x, e := call(d)
				tells(t, name, x, e, told{d, api.ErrDown})
			}
		}
	}
}

// 9.1: Bytes are those of Synced and Waits, in this order; also of disks that are Down, or may not be.
func TestBytes(t *testing.T) {
	for _, c := range []struct {
		d    api.Disk
		want string
	}{
		{api.Disk{}, ""},
		{api.Disk{Synced: "ab"}, "ab"},
		{api.Disk{Waits: "cd"}, "cd"},
		{api.Disk{Synced: "ab", Waits: "cd"}, "abcd"},
		{api.Disk{Synced: "ab", Waits: "cd", Down: true}, "abcd"},
		{api.Disk{Synced: "\x00\xff", Waits: "\x80", Fuse: -9}, "\x00\xff\x80"},
		{api.Disk{Synced: bytes(api.MaxDisk), Waits: "y"}, bytes(api.MaxDisk) + "y"},
	} {
		if s := Bytes(c.d); s != c.want {
			t.Errorf("Bytes of %v: %d bytes; asked for: %d", short(c.d), len(s), len(c.want))
		}
	}
}

// 9.2: what is written waits behind all that there is; each Write takes one of the fuse, also one of nothing.
func TestWrite(t *testing.T) {
	for _, c := range []struct {
		d    api.Disk
		s    string
		want told
	}{
		{api.Disk{Fuse: api.None}, "ab", told{api.Disk{Waits: "ab", Fuse: api.None}, api.OK}},
		{api.Disk{Fuse: api.None}, "", told{api.Disk{Fuse: api.None}, api.OK}},
		{api.Disk{Synced: "ab", Waits: "cd", Fuse: api.None}, "e\x00", told{api.Disk{Synced: "ab", Waits: "cde\x00", Fuse: api.None}, api.OK}},
		{api.Disk{Synced: "ab", Fuse: 2}, "c", told{api.Disk{Synced: "ab", Waits: "c", Fuse: 1}, api.OK}},
		{api.Disk{Synced: "ab", Fuse: 1}, "c", told{api.Disk{Synced: "ab", Waits: "c"}, api.OK}},
		{api.Disk{Synced: "ab", Fuse: 1}, "", told{api.Disk{Synced: "ab"}, api.OK}},
		{api.Disk{Fuse: math.MaxInt}, "c", told{api.Disk{Waits: "c", Fuse: math.MaxInt - 1}, api.OK}},
		{api.Disk{Synced: "ab", Waits: "cd"}, "e", told{api.Disk{Synced: "ab", Waits: "cde", Down: true}, api.ErrDown}},
		{api.Disk{}, "", told{api.Disk{Down: true}, api.ErrDown}},
	} {
		x, e := Write(c.d, c.s)
		tells(t, "Write of "+c.s, x, e, c.want)
	}
}

// 9.2: a Write that would leave more than MaxDisk bytes is ErrFull, and no operation: it burns no fuse, and the power does not go in it.
func TestWriteToTheEnd(t *testing.T) {
	for _, c := range []struct{ synced, waits, room int }{
		{0, 0, api.MaxDisk},
		{api.MaxDisk - 3, 0, 3},
		{0, api.MaxDisk - 3, 3},
		{api.MaxDisk - 5, 2, 3},
		{2, api.MaxDisk - 3, 1},
		{api.MaxDisk, 0, 0},
		{0, api.MaxDisk, 0},
	} {
		for _, f := range []struct {
			fuse, left int
			down       bool
			e          api.Errno
		}{
			{api.None, api.None, false, api.OK},
			{0, 0, true, api.ErrDown},
			{1, 0, false, api.OK},
			{4, 3, false, api.OK},
		} {
			d := api.Disk{Synced: bytes(c.synced), Waits: bytes(c.waits), Fuse: f.fuse}
			for _, more := range []int{1, 2, api.MaxDisk} {
				x, e := Write(d, bytes(c.room+more))
				tells(t, "Write of too much", x, e, told{d, api.ErrFull})
			}
			x, e := Write(d, bytes(c.room))
			tells(t, "Write of all there is room for", x, e, told{api.Disk{Synced: d.Synced, Waits: bytes(c.waits + c.room), Fuse: f.left, Down: f.down}, f.e})
		}
	}
}

// 9.2: what waits is synced, behind what was; if the power goes in it, it waits still. Each Sync takes one of the fuse, also where nothing waits.
func TestSync(t *testing.T) {
	for _, c := range []struct {
		d    api.Disk
		want told
	}{
		{api.Disk{Fuse: api.None}, told{api.Disk{Fuse: api.None}, api.OK}},
		{api.Disk{Synced: "ab", Fuse: api.None}, told{api.Disk{Synced: "ab", Fuse: api.None}, api.OK}},
		{api.Disk{Waits: "cd", Fuse: api.None}, told{api.Disk{Synced: "cd", Fuse: api.None}, api.OK}},
		{api.Disk{Synced: "ab", Waits: "cd", Fuse: api.None}, told{api.Disk{Synced: "abcd", Fuse: api.None}, api.OK}},
		{api.Disk{Synced: "ab", Waits: "cd", Fuse: 5}, told{api.Disk{Synced: "abcd", Fuse: 4}, api.OK}},
		{api.Disk{Synced: "ab", Waits: "cd", Fuse: 1}, told{api.Disk{Synced: "abcd"}, api.OK}},
		{api.Disk{Synced: "ab", Fuse: 1}, told{api.Disk{Synced: "ab"}, api.OK}},
		{api.Disk{Synced: "ab", Waits: "cd"}, told{api.Disk{Synced: "ab", Waits: "cd", Down: true}, api.ErrDown}},
		{api.Disk{Synced: "ab"}, told{api.Disk{Synced: "ab", Down: true}, api.ErrDown}},
		{api.Disk{}, told{api.Disk{Down: true}, api.ErrDown}},
		{
			api.Disk{Synced: bytes(9), Waits: bytes(api.MaxDisk - 9), Fuse: api.None},
			told{api.Disk{Synced: bytes(api.MaxDisk), Fuse: api.None}, api.OK},
		},
	} {
		x, e := Sync(c.d)
		tells(t, "Sync", x, e, c.want)
	}
}

// 9.2: Cut leaves the first n bytes, all if the power goes in it; each one takes one of the fuse, also one that cuts nothing off.
func TestCut(t *testing.T) {
	for _, c := range []struct {
		d    api.Disk
		n    int
		want told
	}{
		{api.Disk{Synced: "abcd", Fuse: api.None}, 0, told{api.Disk{Fuse: api.None}, api.OK}},
		{api.Disk{Synced: "abcd", Fuse: api.None}, 1, told{api.Disk{Synced: "a", Fuse: api.None}, api.OK}},
		{api.Disk{Synced: "abcd", Fuse: api.None}, 3, told{api.Disk{Synced: "abc", Fuse: api.None}, api.OK}},
		{api.Disk{Synced: "abcd", Fuse: api.None}, 4, told{api.Disk{Synced: "abcd", Fuse: api.None}, api.OK}},
		{api.Disk{Synced: "abcd", Fuse: 3}, 4, told{api.Disk{Synced: "abcd", Fuse: 2}, api.OK}},
		{api.Disk{Synced: "abcd", Fuse: 1}, 2, told{api.Disk{Synced: "ab"}, api.OK}},
		{api.Disk{Fuse: api.None}, 0, told{api.Disk{Fuse: api.None}, api.OK}},
		{api.Disk{Fuse: 1}, 0, told{api.Disk{}, api.OK}},
		{api.Disk{Synced: "abcd"}, 2, told{api.Disk{Synced: "abcd", Down: true}, api.ErrDown}},
		{api.Disk{Synced: "abcd"}, 0, told{api.Disk{Synced: "abcd", Down: true}, api.ErrDown}},
		{api.Disk{}, 0, told{api.Disk{Down: true}, api.ErrDown}},
	} {
		x, e := Cut(c.d, c.n)
		tells(t, "Cut", x, e, c.want)
	}
}

// 9.2: a Cut while something waits, or to so many bytes as are not synced, is ErrArg, and no operation.
func TestCutThatMayNotBe(t *testing.T) {
	for _, fuse := range []int{api.None, 0, 1, 4} {
		for _, c := range []struct {
			synced, waits string
			n             int
		}{
			{"abcd", "", -1},
			{"abcd", "", 5},
			{"abcd", "", math.MinInt},
			{"abcd", "", math.MaxInt},
			{"", "", -1},
			{"", "", 1},
			{"abcd", "e", 0},
			{"abcd", "e", 4},
			{"abcd", "e", 5},
			{"", "e", 0},
			{"", "e", 1},
			{"abcd", "e", -1},
		} {
			d := api.Disk{Synced: c.synced, Waits: c.waits, Fuse: fuse}
			x, e := Cut(d, c.n)
			tells(t, "Cut", x, e, told{d, api.ErrArg})
		}
	}
}

// 9.3: behind a crash the first bytes of what waited are synced, nothing waits, there is power, and no fuse; whether it was Down or not.
func TestCrash(t *testing.T) {
	for _, down := range []bool{false, true} {
		for _, fuse := range []int{api.None, 0, 1, 7} {
			for _, c := range []struct {
				synced, waits string
				keep          int
				want          string
			}{
				{"ab", "cde", 0, "ab"},
				{"ab", "cde", 1, "abc"},
				{"ab", "cde", 2, "abcd"},
				{"ab", "cde", 3, "abcde"},
				{"ab", "cde", 4, "abcde"},
				{"ab", "cde", math.MaxInt, "abcde"},
				{"ab", "cde", -1, "ab"},
				{"ab", "cde", math.MinInt, "ab"},
				{"ab", "", 0, "ab"},
				{"ab", "", 1, "ab"},
				{"ab", "", -1, "ab"},
				{"", "cde", 2, "cd"},
				{"", "", 9, ""},
			} {
				x, e := Crash(api.Disk{Synced: c.synced, Waits: c.waits, Fuse: fuse, Down: down}, c.keep)
				tells(t, "Crash", x, e, told{api.Disk{Synced: c.want, Fuse: api.None}, api.OK})
			}
		}
	}
	x, e := Crash(api.Disk{Synced: bytes(7), Waits: bytes(api.MaxDisk - 7), Down: true}, api.MaxDisk)
	tells(t, "Crash of a full one", x, e, told{api.Disk{Synced: bytes(api.MaxDisk), Fuse: api.None}, api.OK})
}

// 9.2, 9.3: the example of the chapter.
func TestExample(t *testing.T) {
	d, e := Write(api.Disk{Fuse: api.None}, "ab")
	tells(t, "Write", d, e, told{api.Disk{Waits: "ab", Fuse: api.None}, api.OK})
	d.Fuse = 0
	d, e = Write(d, "cd")
	tells(t, "Write", d, e, told{api.Disk{Waits: "abcd", Down: true}, api.ErrDown})
	d, e = Crash(d, 3)
	tells(t, "Crash", d, e, told{api.Disk{Synced: "abc", Fuse: api.None}, api.OK})
}

// A deed is something that is done to a disk: one of write (s is written), sync, cut (n bytes are left).
type deed struct {
	kind string
	s    string
	n    int
}

// deeds are some of all kinds, also such that may not be.
func deeds() []deed {
	return []deed{
		{kind: "write", s: "ab"},
		{kind: "write", s: "c"},
		{kind: "write"},
		{kind: "sync"},
		{kind: "cut", n: 0},
		{kind: "cut", n: 1},
		{kind: "cut", n: 3},
		{kind: "cut", n: -1},
	}
}

// do does a deed.
func do(d api.Disk, x deed) (api.Disk, api.Errno) {
	switch x.kind {
	case "write":
		return Write(d, x.s)
	case "sync":
		return Sync(d)
	}
	return Cut(d, x.n)
}

// model is a disk kept in a plain way: all its bytes, how many of them are safe, and how many operations are done ahead of the one in which the power goes.
type model struct {
	all  string
	safe int
	left int
	down bool
}

// do does a deed as the chapter's words have it.
func (m *model) do(x deed) api.Errno {
	if m.down {
		return api.ErrDown
	}
	if x.kind == "cut" && (m.safe < len(m.all) || x.n < 0 || x.n > m.safe) {
		return api.ErrArg
	}
	m.down = m.left == 0
	m.left--
	if x.kind == "write" {
		m.all += x.s
	}
	if m.down {
		return api.ErrDown
	}
	switch x.kind {
	case "sync":
		m.safe = len(m.all)
	case "cut":
		m.all, m.safe = m.all[:x.n], x.n
	}
	return api.OK
}

// disk is the disk of which this is a model.
func (m *model) disk() api.Disk {
	return api.Disk{Synced: m.all[:m.safe], Waits: m.all[m.safe:], Fuse: max(m.left, 0), Down: m.down}
}

// scripts tells all lists of n deeds.
func scripts(n int, tell func(l []deed)) {
	if n == 0 {
		tell(nil)
		return
	}
	scripts(n-1, func(l []deed) {
		for _, x := range deeds() {
			tell(append(l[:len(l):len(l)], x))
		}
	})
}

// 9.2: disks are as their models, deed for deed, wherever in them the power goes.
func TestDisksAreAsTheirModels(t *testing.T) {
	for n := range 5 {
		scripts(n, func(l []deed) {
			for fuse := range n + 1 {
				d, m := api.Disk{Synced: "xy", Fuse: fuse}, model{all: "xy", safe: 2, left: fuse}
				for _, x := range l {
					var e api.Errno
					d, e = do(d, x)
					if we := m.do(x); e != we || d != m.disk() {
						t.Fatalf("%v, Fuse %d: %v, %v; asked for: %v, %v", l, fuse, d, e, m.disk(), we)
					}
				}
			}
		})
	}
}

// 9.2: without a fuse all is done as with one that is long enough, and there is none behind it.
func TestNoFuse(t *testing.T) {
	scripts(4, func(l []deed) {
		d, long := api.Disk{Synced: "xy", Fuse: api.None}, api.Disk{Synced: "xy", Fuse: 100}
		for _, x := range l {
			var e, le api.Errno
			d, e = do(d, x)
			long, le = do(long, x)
			if e != le || d != (api.Disk{Synced: long.Synced, Waits: long.Waits, Fuse: api.None}) {
				t.Fatalf("%v: %v, %v; with a fuse: %v, %v", l, d, e, long, le)
			}
		}
	})
}

// 9.4: what was synced, and not cut, is there behind any crash, and behind it a beginning of what was written since: as much as is kept of it.
func TestCrashWherever(t *testing.T) {
	scripts(4, func(l []deed) {
		for fuse := range len(l) + 1 {
			d := api.Disk{Fuse: fuse}
			safe, since := "", ""
			for _, x := range l {
				var e api.Errno
				d, e = do(d, x)
				if e == api.ErrArg {
					continue
				}
				if x.kind == "write" {
					since += x.s
				}
				if e == api.ErrDown {
					break
				}
				switch x.kind {
				case "sync":
					safe, since = safe+since, ""
				case "cut":
					safe = safe[:x.n]
				}
			}
			for keep := -1; keep < len(since)+2; keep++ {
				x, e := Crash(d, keep)
				want := safe + since[:min(max(keep, 0), len(since))]
				if x != (api.Disk{Synced: want, Fuse: api.None}) || e != api.OK {
					t.Fatalf("%v, Fuse %d, %d are kept: %v, %v; asked for: %s", l, fuse, keep, x, e, want)
				}
			}
		}
	})
}
