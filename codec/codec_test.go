package codec

import (
	"bytes"
	"encoding/binary"
	"errors"
	"fmt"
	"math"
	"math/rand"
	"slices"
	"strings"
	"testing"

	"compline/api"
)

// values are the names of a command's values in their order, I to P, as kinds tells them.
const values = "IMOSQP"

// kinds are, by kind, its word and what it has, as the chapter says it; the row of 0 is no kind.
func kinds() [][2]string {
	return [][2]string{
		{"", ""},
		{"open", ""},
		{"trade", "IMOSQP"},
		{"cancel", "I"},
		{"pay", "MQ"},
		{"deliver", "MSQ"},
		{"recall", "MSQ"},
		{"bid", "MSQP"},
		{"top", "MQ"},
		{"draw", "MQ"},
		{"tick", ""},
	}
}

// list are a command's values in their order.
func list(c api.Command) []int64 {
	return []int64{c.Id, int64(c.Member), int64(c.Other), int64(c.Sec), c.Qty, c.Price}
}

// command is one of this kind, with these values in their order.
func command(kind int, l []int64) api.Command {
	return api.Command{Kind: kind, Id: l[0], Member: int(l[1]), Other: int(l[2]), Sec: int(l[3]), Qty: l[4], Price: l[5]}
}

// formed is whether a command has its form, by kinds.
func formed(c api.Command) bool {
	if c.Kind < 1 || c.Kind > 10 {
		return false
	}
	for i, n := range list(c) {
		if n != 0 && !strings.Contains(kinds()[c.Kind][1], values[i:i+1]) {
			return false
		}
	}
	return true
}

// slowPut is the bytes of a command that has its form: those of Go's own library, which has the same ones.
func slowPut(c api.Command) string {
	b := binary.AppendVarint(nil, int64(c.Kind))
	for i, n := range list(c) {
		if strings.Contains(kinds()[c.Kind][1], values[i:i+1]) {
			b = binary.AppendVarint(b, n)
		}
	}
	return string(b)
}

// slowNum is the number at the front: one whose bytes Go's library makes the same.
func slowNum(s string) (int64, string, api.Errno) {
	n, size := binary.Varint([]byte(s))
	if size == 0 && len(s) < binary.MaxVarintLen64 {
		return 0, "", api.ErrShort
	}
	if size <= 0 || string(binary.AppendVarint(nil, n)) != s[:size] {
		return 0, "", api.ErrForm
	}
	return n, s[size:], api.OK
}

// slowRead is the command at the front.
func slowRead(s string) (api.Command, string, api.Errno) {
	kind, s, e := slowNum(s)
	if e != api.OK {
		return api.Command{}, "", e
	}
	if kind < 1 || kind > 10 {
		return api.Command{}, "", api.ErrForm
	}
	l := make([]int64, len(values))
	for _, name := range kinds()[kind][1] {
		if l[strings.IndexRune(values, name)], s, e = slowNum(s); e != api.OK {
			return api.Command{}, "", e
		}
	}
	return command(int(kind), l), s, api.OK
}

// slowGet is the command of bytes.
func slowGet(s string) (api.Command, api.Errno) {
	c, s, e := slowRead(s)
	if e == api.OK && s != "" {
		return api.Command{}, api.ErrForm
	}
	return c, e
}

// slowSome are the commands of bytes.
func slowSome(s string) ([]api.Command, api.Errno) {
	n, s, e := slowNum(s)
	if e != api.OK {
		return nil, e
	}
	if n < 0 || n > 1024 {
		return nil, api.ErrForm
	}
	var l []api.Command
	for range n {
		var c api.Command
		if c, s, e = slowRead(s); e != api.OK {
			return nil, e
		}
		l = append(l, c)
	}
	if s != "" {
		return nil, api.ErrForm
	}
	return l, api.OK
}

// gets holds what bytes are, as a command, and as some, against the slow ones.
func gets(t *testing.T, s string) {
	t.Helper()
	want, we := slowGet(s)
	if c, e := Get(s); c != want || e != we {
		t.Fatalf("Get(%x): %+v, %v; asked for: %+v, %v", s, c, e, want, we)
	}
	all, we := slowSome(s)
	if l, e := Some(s); !slices.Equal(l, all) || e != we {
		t.Fatalf("Some(%x): %+v, %v; asked for: %+v, %v", s, l, e, all, we)
	}
}

// edge are numbers whose bytes have any lengths, and the last ones of them.
func edge() []int64 {
	return []int64{0, 1, -1, 63, 64, -64, -65, 1 << 31, -1 << 31, 1 << 40, math.MaxInt64, math.MinInt64}
}

// drawn is a command that has its form.
func drawn(r *rand.Rand) api.Command {
	kind := 1 + r.Intn(10)
	l := make([]int64, len(values))
	for _, name := range kinds()[kind][1] {
		n := edge()[r.Intn(len(edge()))]
		if r.Intn(2) == 0 {
			n = int64(r.Uint64()) >> r.Intn(64)
		}
		l[strings.IndexRune(values, name)] = n
	}
	return command(kind, l)
}

// 11.1: which commands have their form: of all kinds, and of numbers that are none, with each thing there, or zero, and what then is put.
func TestForm(t *testing.T) {
	for _, kind := range []int{math.MinInt, -10, -1, 0, 1, 2, 3, 4, 5, 6, 7, 8, 9, 10, 11, 12, 20, 1 << 32, 1<<32 + 1, math.MaxInt} {
		for there := range 1 << len(values) {
			for _, n := range []int64{1, -1, math.MaxInt64, math.MinInt64} {
				l := make([]int64, len(values))
				for i := range l {
					if there>>i&1 == 1 {
						l[i] = n
					}
				}
				c := command(kind, l)
				want, s := api.ErrForm, ""
				if formed(c) {
					want, s = api.OK, slowPut(c)
				}
				if e := Check(c); e != want {
					t.Errorf("Check(%+v): %v; asked for: %v", c, e, want)
				}
				if is, e := Put(c); is != s || e != want {
					t.Errorf("Put(%+v): %x, %v; asked for: %x, %v", c, is, e, s, want)
				}
			}
		}
	}
}

// 11.1: the bytes of a command of each kind, written down by hand.
func TestBytes(t *testing.T) {
	for _, c := range []struct {
		c api.Command
		s string
	}{
		{api.Command{Kind: api.CmOpen}, "\x02"},
		{api.Command{Kind: api.CmTrade, Id: 1, Member: 2, Other: 3, Sec: 4, Qty: 5, Price: 6}, "\x04\x02\x04\x06\x08\x0a\x0c"},
		{api.Command{Kind: api.CmTrade}, "\x04\x00\x00\x00\x00\x00\x00"},
		{api.Command{Kind: api.CmCancel, Id: -1}, "\x06\x01"},
		{api.Command{Kind: api.CmPay, Member: 2, Qty: 100}, "\x08\x04\xc8\x01"},
		{api.Command{Kind: api.CmDeliver, Member: 1, Sec: 2, Qty: 3}, "\x0a\x02\x04\x06"},
		{api.Command{Kind: api.CmRecall, Member: 1, Sec: 2, Qty: 3}, "\x0c\x02\x04\x06"},
		{api.Command{Kind: api.CmBid, Member: 1, Sec: 2, Qty: 3, Price: 4}, "\x0e\x02\x04\x06\x08"},
		{api.Command{Kind: api.CmTop, Member: 1, Qty: 2}, "\x10\x02\x04"},
		{api.Command{Kind: api.CmDraw, Member: 1, Qty: 64}, "\x12\x02\x80\x01"},
		{api.Command{Kind: api.CmTick}, "\x14"},
	} {
		if s, e := Put(c.c); s != c.s || e != api.OK {
			t.Errorf("Put(%+v): %x, %v; asked for: %x", c.c, s, e, c.s)
		}
		if is, e := Get(c.s); is != c.c || e != api.OK {
			t.Errorf("Get(%x): %+v, %v; asked for: %+v", c.s, is, e, c.c)
		}
	}
}

// 11.1: what is wrong with bytes, as it comes.
func TestGetWrong(t *testing.T) {
	long := strings.Repeat("\x80", 9)
	for _, c := range []struct {
		s string
		e api.Errno
	}{
		{"", api.ErrShort},
		{"\x00", api.ErrForm},                          // kind 0
		{"\x01", api.ErrForm},                          // kind -1
		{"\x16", api.ErrForm},                          // kind 11
		{"\x13", api.ErrForm},                          // kind -10
		{"\x16\x80", api.ErrForm},                      // no kind comes ahead of a value that is cut off
		{"\x16\x80\x00", api.ErrForm},                  //
		{"\x80", api.ErrShort},                         // a kind that is cut off
		{"\x82\x00", api.ErrForm},                      // kind 1, with a byte more than is needed
		{"\x82\x01", api.ErrForm},                      // kind 65
		{"\x82\x80\x80\x80\x20", api.ErrForm},          // kind 2^32 + 1
		{long + "\x01", api.ErrForm},                   // kind 2^62
		{long + "\x02", api.ErrForm},                   // no number
		{long + "\x80", api.ErrForm},                   //
		{"\x14\x00", api.ErrForm},                      // a tick, and a byte
		{"\x14\x14", api.ErrForm},                      // a tick, and another one
		{"\x14\x80", api.ErrForm},                      // a tick, and what is no number yet
		{"\x06", api.ErrShort},                         // cancel
		{"\x06\x80", api.ErrShort},                     //
		{"\x06\x80\x00", api.ErrForm},                  //
		{"\x06\x00\x00", api.ErrForm},                  //
		{"\x08\x80\x00", api.ErrForm},                  // what is no number comes ahead of what is not there
		{"\x08\x04" + long, api.ErrShort},              //
		{"\x08\x04" + long + "\x02", api.ErrForm},      //
		{"\x04\x02\x04\x06\x08\x0a", api.ErrShort},     // a trade without a price
		{"\x0e\x02\x04\x06", api.ErrShort},             // a bid without one
		{"\x0a\x02\x04\x06\x08", api.ErrForm},          // deliver with one
		{"\x04\x02\x04\x06\x08\x0a\x80", api.ErrShort}, // a price that is cut off
	} {
		if is, e := Get(c.s); is != (api.Command{}) || e != c.e {
			t.Errorf("Get(%x): %+v, %v; asked for: %v", c.s, is, e, c.e)
		}
		gets(t, c.s)
	}
}

// 11.1, 11.2: any bytes: all short ones, and longer ones of bytes at which something goes over.
func TestAnyBytes(t *testing.T) {
	gets(t, "")
	for a := range 256 {
		gets(t, string([]byte{byte(a)}))
		for b := range 256 {
			gets(t, string([]byte{byte(a), byte(b)}))
		}
	}
	some := "\x00\x01\x02\x04\x06\x0e\x14\x16\x80\x82\xff"
	var go3 func(s string, left int)
	go3 = func(s string, left int) {
		gets(t, s)
		if left == 0 {
			return
		}
		for _, b := range []byte(some) {
			go3(s+string([]byte{b}), left-1)
		}
	}
	go3("", 5)
}

// 11.1: of each command's bytes each beginning ends ahead of a value; each of its bytes set to another one is told as the slow one tells it.
func TestCutOff(t *testing.T) {
	r := rand.New(rand.NewSource(1))
	for range 300 {
		c := drawn(r)
		s := slowPut(c)
		for i := range len(s) {
			if is, e := Get(s[:i]); is != (api.Command{}) || e != api.ErrShort {
				t.Fatalf("Get(%x), of %x: %+v, %v", s[:i], s, is, e)
			}
			b := []byte(s)
			for _, x := range []byte{0, 1, 0x7f, 0x80, 0xff, b[i] ^ 0x80, byte(r.Intn(256))} {
				b[i] = x
				gets(t, string(b))
			}
		}
		for range 4 {
			if is, e := Get(s + string([]byte{byte(r.Intn(256))})); is != (api.Command{}) || e != api.ErrForm {
				t.Fatalf("Get(%x and a byte): %+v, %v", s, is, e)
			}
		}
	}
}

// 11.1, 11.4: what is put is got as it was, with numbers at their edges in each place; what is got has its form, and is put as it was.
func TestRoundTrip(t *testing.T) {
	r := rand.New(rand.NewSource(2))
	seen := map[string]api.Command{}
	for range 20000 {
		c := drawn(r)
		s, e := Put(c)
		if s != slowPut(c) || e != api.OK {
			t.Fatalf("Put(%+v): %x, %v", c, s, e)
		}
		if is, e := Get(s); is != c || e != api.OK {
			t.Fatalf("Get(%x): %+v, %v; put was: %+v", s, is, e, c)
		}
		if d, is := seen[s]; is && d != c {
			t.Fatalf("%x is put of %+v, and of %+v", s, c, d)
		}
		seen[s] = c
	}
	got := 0
	for range 200000 {
		b := make([]byte, 1+r.Intn(8))
		r.Read(b)
		b[0] &= 0x1f
		c, e := Get(string(b))
		if e != api.OK {
			continue
		}
		got++
		if s, e := Put(c); s != string(b) || e != api.OK || Check(c) != api.OK {
			t.Fatalf("Get(%x): %+v, which is put as %x, %v", b, c, s, e)
		}
	}
	if got < 1000 {
		t.Errorf("only %d were got", got)
	}
}

// ticks are so many ticks.
func ticks(n int) []api.Command {
	return slices.Repeat([]api.Command{{Kind: api.CmTick}}, n)
}

// 11.2: some commands as bytes: none, one, as many as may be, one more, and wrong ones at each place.
func TestAll(t *testing.T) {
	tick, pay := api.Command{Kind: api.CmTick}, api.Command{Kind: api.CmPay, Member: 2, Qty: 100}
	wrong := api.Command{Kind: api.CmTick, Qty: 1}
	for _, c := range []struct {
		l []api.Command
		s string
		e api.Errno
	}{
		{nil, "\x00", api.OK},
		{[]api.Command{}, "\x00", api.OK},
		{[]api.Command{tick}, "\x02\x14", api.OK},
		{[]api.Command{pay, tick, pay}, "\x06\x08\x04\xc8\x01\x14\x08\x04\xc8\x01", api.OK},
		{ticks(1024), "\x80\x10" + strings.Repeat("\x14", 1024), api.OK},
		{ticks(1025), "", api.ErrFull},
		{ticks(5000), "", api.ErrFull},
		{[]api.Command{wrong}, "", api.ErrForm},
		{[]api.Command{{}}, "", api.ErrForm},
		{[]api.Command{wrong, pay, tick}, "", api.ErrForm},
		{[]api.Command{pay, wrong, tick}, "", api.ErrForm},
		{[]api.Command{pay, tick, wrong}, "", api.ErrForm},
		{append(ticks(1023), wrong), "", api.ErrForm},
		{append(ticks(1024), wrong), "", api.ErrFull},
		{append([]api.Command{wrong}, ticks(1024)...), "", api.ErrFull},
		{make([]api.Command, 1025), "", api.ErrFull},
	} {
		kept := slices.Clone(c.l)
		if s, e := All(c.l); s != c.s || e != c.e {
			t.Errorf("All of %d: %x, %v; asked for: %x, %v", len(c.l), s, e, c.s, c.e)
		}
		if !slices.Equal(c.l, kept) {
			t.Errorf("All of %d changed them", len(c.l))
		}
		if c.e != api.OK {
			continue
		}
		if l, e := Some(c.s); !slices.Equal(l, c.l) || e != api.OK {
			t.Errorf("Some of %d: %v, %v", len(c.l), l, e)
		}
	}
}

// 11.2: bytes that are no commands, each thing as it comes.
func TestSomeWrong(t *testing.T) {
	for _, c := range []struct {
		s string
		e api.Errno
	}{
		{"", api.ErrShort},
		{"\x80", api.ErrShort},
		{"\x80\x00", api.ErrForm},
		{"\x01", api.ErrForm},                                    // -1
		{"\x01\x14", api.ErrForm},                                //
		{strings.Repeat("\xff", 9) + "\x01", api.ErrForm},        // -2^63
		{strings.Repeat("\x80", 9) + "\x01", api.ErrForm},        // 2^62
		{"\x82\x10", api.ErrForm},                                // 1025, and nothing behind it
		{"\x82\x10" + strings.Repeat("\x14", 1025), api.ErrForm}, //
		{"\x80\x10", api.ErrShort},                               // 1024
		{"\x80\x10" + strings.Repeat("\x14", 1023), api.ErrShort},
		{"\x80\x10" + strings.Repeat("\x14", 1025), api.ErrForm},
		{"\x00\x14", api.ErrForm},
		{"\x00\x00", api.ErrForm},
		{"\x02", api.ErrShort},
		{"\x02\x00", api.ErrForm},
		{"\x02\x16", api.ErrForm},
		{"\x02\x14\x14", api.ErrForm},
		{"\x04\x14", api.ErrShort},
		{"\x04\x16", api.ErrForm}, // the first one is no kind, and the second one is not there
		{"\x04\x14\x16", api.ErrForm},
		{"\x04\x14\x08\x04", api.ErrShort},
		{"\x04\x08\x80\x00", api.ErrForm},
		{"\x04\x08\x04\x02\x80", api.ErrShort},
	} {
		if l, e := Some(c.s); len(l) != 0 || e != c.e {
			t.Errorf("Some(%x): %v, %v; asked for: %v", c.s, l, e, c.e)
		}
	}
}

// 11.2, 11.4: drawn commands together, whole, cut off, with a byte behind them, or with a byte that is another one.
func TestSomeDrawn(t *testing.T) {
	r := rand.New(rand.NewSource(3))
	for n := range 200 {
		var l []api.Command
		want := binary.AppendVarint(nil, int64(n%80))
		for range n % 80 {
			c := drawn(r)
			l = append(l, c)
			want = append(want, slowPut(c)...)
		}
		s, e := All(l)
		if s != string(want) || e != api.OK {
			t.Fatalf("All(%+v): %x, %v; asked for: %x", l, s, e, want)
		}
		if is, e := Some(s); !slices.Equal(is, l) || e != api.OK {
			t.Fatalf("Some(%x): %+v, %v; asked for: %+v", s, is, e, l)
		}
		for i := range len(s) {
			if is, e := Some(s[:i]); len(is) != 0 || e != api.ErrShort {
				t.Fatalf("Some(%x), of %x: %v, %v", s[:i], s, is, e)
			}
			b := bytes.Clone(want)
			b[i] = byte(r.Intn(256))
			gets(t, string(b))
		}
		if is, e := Some(s + "\x14"); len(is) != 0 || e != api.ErrForm {
			t.Fatalf("Some(%x and a tick): %v, %v", s, is, e)
		}
	}
}

// 11.2: what is answered is new memory.
func TestSomeIsNew(t *testing.T) {
	s := "\x04\x14\x08\x04\xc8\x01"
	l, _ := Some(s)
	l[0] = api.Command{Kind: api.CmOpen}
	if m, e := Some(s); e != api.OK || m[0].Kind != api.CmTick {
		t.Errorf("Some: %v, %v", m, e)
	}
}

// 11.3: the kinds' words, and the kinds of words.
func TestWords(t *testing.T) {
	for kind, row := range kinds() {
		if w := Word(kind); w != row[0] {
			t.Errorf("Word(%d): %q; asked for: %q", kind, w, row[0])
		}
		if k, is := Kind(row[0]); k != kind || is != (kind > 0) {
			t.Errorf("Kind(%q): %d, %v", row[0], k, is)
		}
	}
	for _, kind := range []int{math.MinInt, -1, 11, 12, 256, 257, 1<<32 + 1, math.MaxInt} {
		if w := Word(kind); w != "" {
			t.Errorf("Word(%d): %q", kind, w)
		}
	}
	for _, word := range []string{"ope", "opens", "Open", "TICK", " tick", "tick ", "tick\x00", "pay,", "none", "0", "1", "\xff", strings.Repeat("open", 1000)} {
		if k, is := Kind(word); k != 0 || is {
			t.Errorf("Kind(%q): %d, %v", word, k, is)
		}
	}
}

// The chapter's examples, and that the errors are such.
func TestExamples(t *testing.T) {
	tick, _ := Put(api.Command{Kind: api.CmTick})
	pay, _ := Put(api.Command{Kind: api.CmPay, Member: 2, Qty: 100})
	if got := fmt.Sprintf("% x, % x", tick, pay); got != "14, 08 04 c8 01" {
		t.Errorf("%s", got)
	}
	_, e := Get("")
	if err := error(e); !errors.Is(err, api.ErrShort) || err.Error() != "short" {
		t.Errorf("Get: %v", err)
	}
}
