package frame

import (
	"encoding/binary"
	"hash/crc32"
	"math/rand"
	"slices"
	"strings"
	"testing"

	"compline/api"
)

// drawn is a text of so many bytes, any ones.
func drawn(r *rand.Rand, n int) string {
	b := make([]byte, n)
	r.Read(b)
	return string(b)
}

// slowPut is a record's frame, made by the library of Go.
func slowPut(record string) string {
	b := binary.BigEndian.AppendUint32(nil, uint32(len(record)))
	b = binary.BigEndian.AppendUint32(b, crc32.ChecksumIEEE([]byte(record)))
	return string(append(b, record...))
}

// can is whether a length that begins with these bytes can be one of a record: all that can be are gone through.
func can(s string) bool {
	for n := range api.MaxRecord + 1 {
		length := string(binary.BigEndian.AppendUint32(nil, uint32(n)))
		if strings.HasPrefix(length, s) || strings.HasPrefix(s, length) {
			return true
		}
	}
	return false
}

// slowNext is the record at the front, by the library of Go.
func slowNext(s string) (string, string, api.Errno) {
	if !can(s) {
		return "", "", api.ErrForm
	}
	if len(s) < 8 {
		return "", "", api.ErrShort
	}
	n := int(binary.BigEndian.Uint32([]byte(s)))
	if len(s)-8 < n {
		return "", "", api.ErrShort
	}
	if slowPut(s[8:8+n]) != s[:8+n] {
		return "", "", api.ErrSum
	}
	return s[8 : 8+n], s[8+n:], api.OK
}

// nexts tells where Next is not what the library's one is.
func nexts(t *testing.T, s string) api.Errno {
	t.Helper()
	want, wantRest, we := slowNext(s)
	if record, rest, e := Next(s); record != want || rest != wantRest || e != we {
		t.Fatalf("Next(%x): %x, %x, %v; asked for: %x, %x, %v", s, record, rest, e, want, wantRest, we)
	}
	return we
}

// scans tells where Scan is not this.
func scans(t *testing.T, s string, records []string, used int, e api.Errno) {
	t.Helper()
	l, n, is := Scan(s)
	if !slices.Equal(l, records) || n != used || is != e {
		t.Fatalf("Scan(%x): %q, %d, %v; asked for: %q, %d, %v", s, l, n, is, records, used, e)
	}
}

// puts is a record's frame, which must be one.
func puts(t *testing.T, record string) string {
	t.Helper()
	s, e := Put(record)
	if e != api.OK {
		t.Fatalf("Put of %d bytes: %v", len(record), e)
	}
	return s
}

// lists are records one behind the other: none, empty ones, the longest ones, ones that look like frames, or like the beginning of some.
func lists() [][]string {
	r := rand.New(rand.NewSource(1))
	longest := drawn(r, api.MaxRecord)
	l := [][]string{
		nil,
		{""},
		{"a"},
		{"", "", ""},
		{"abc", "", "abc"},
		{longest},
		{longest, "", longest[1:]},
		{slowPut("a"), slowPut(slowPut("")), slowPut("")},
		{"\x00", "\x00\x00\x00\x00", strings.Repeat("\x00", 8), strings.Repeat("\x00", 30)},
		{"\x00\x00\x04\x01", "\xff\xff\xff\xff\xff\xff\xff\xff\xff"},
		{"é", "\x80", "\xf0\x9f\x98"},
	}
	for range 20 {
		var some []string
		for range r.Intn(6) {
			some = append(some, drawn(r, r.Intn(40)))
		}
		l = append(l, some)
	}
	return l
}

// 8.1: frames, written down by hand.
func TestPutByHand(t *testing.T) {
	for _, c := range []struct{ record, want string }{
		{"", "\x00\x00\x00\x00\x00\x00\x00\x00"},
		{"a", "\x00\x00\x00\x01\xe8\xb7\xbe\x43a"},
		{"abc", "\x00\x00\x00\x03\x35\x24\x41\xc2abc"},
		{"123456789", "\x00\x00\x00\x09\xcb\xf4\x39\x26123456789"},
		{"\x00", "\x00\x00\x00\x01\xd2\x02\xef\x8d\x00"},
		{"\xff\xff\xff\xff", "\x00\x00\x00\x04\xff\xff\xff\xff\xff\xff\xff\xff"},
		{strings.Repeat("\x00", 32), "\x00\x00\x00\x20\x19\x0a\x55\xad" + strings.Repeat("\x00", 32)},
	} {
		if s := puts(t, c.record); s != c.want {
			t.Errorf("Put(%q): %x; asked for: %x", c.record, s, c.want)
		}
	}
}

// 8.1: records of all lengths that may be have a frame, and those of all others have none, and no size.
func TestPutOfAllLengths(t *testing.T) {
	r := rand.New(rand.NewSource(2))
	for n := range api.MaxRecord + 1 {
		record := drawn(r, n)
		if s := puts(t, record); s != slowPut(record) || Size(record) != len(s) {
			t.Fatalf("Put(%x): %x, of %d bytes", record, s, Size(record))
		}
	}
	for _, n := range []int{api.MaxRecord + 1, api.MaxRecord + 2, api.MaxRecord + 8, 2 * api.MaxRecord, 1 << 16, 1<<16 + 1, 1 << 20} {
		record := strings.Repeat("x", n)
		if s, e := Put(record); s != "" || e != api.ErrLong {
			t.Errorf("Put of %d bytes: %d bytes, %v", n, len(s), e)
		}
		if k := Size(record); k != 0 {
			t.Errorf("Size of %d bytes: %d", n, k)
		}
	}
	if Size("") != 8 || Size("a") != 9 || Size("é") != 10 || Size(strings.Repeat("x", 1024)) != 1032 {
		t.Errorf("Size: %d, %d, %d", Size(""), Size("a"), Size("é"))
	}
}

// 8.1: what Next tells, written down by hand: that a length can be none comes first, then that something is not there, then the sum.
func TestNextByHand(t *testing.T) {
	longest := strings.Repeat("x", 1024)
	for _, c := range []struct {
		s, record, rest string
		e               api.Errno
	}{
		{"", "", "", api.ErrShort},
		{"\x00", "", "", api.ErrShort},
		{"\x00\x00", "", "", api.ErrShort},
		{"\x00\x00\x00", "", "", api.ErrShort},
		{"\x00\x00\x03", "", "", api.ErrShort},
		{"\x00\x00\x04", "", "", api.ErrShort}, // 1024 can be still
		{"\x00\x00\x04\x00", "", "", api.ErrShort},
		{"\x00\x00\x03\xff", "", "", api.ErrShort},
		{"\x01", "", "", api.ErrForm},
		{"\x80", "", "", api.ErrForm},
		{"\xff", "", "", api.ErrForm},
		{"\x00\x01", "", "", api.ErrForm},
		{"\x00\xff", "", "", api.ErrForm},
		{"\x00\x00\x05", "", "", api.ErrForm},
		{"\x00\x00\xff", "", "", api.ErrForm},
		{"\x00\x00\x04\x01", "", "", api.ErrForm},
		{"\x00\x00\x04\xff", "", "", api.ErrForm},
		{"\x00\x00\x04\x01\x00\x00\x00\x00" + longest + "x", "", "", api.ErrForm},
		{"\x80\x00\x00\x00\x00\x00\x00\x00", "", "", api.ErrForm},
		{"\xff\xff\xff\xff\x00\x00\x00\x00", "", "", api.ErrForm},
		{"\xff\xff\xff\xf8\x00\x00\x00\x00", "", "", api.ErrForm}, // eight more are 2^32
		{"\x00\x00\x00\x00", "", "", api.ErrShort},
		{"\x00\x00\x00\x00\x00\x00\x00", "", "", api.ErrShort},
		{"\x00\x00\x00\x00\xff\xff\xff", "", "", api.ErrShort}, // whatever sum is begun
		{"\x00\x00\x00\x00\x00\x00\x00\x00", "", "", api.OK},
		{"\x00\x00\x00\x00\x00\x00\x00\x00z", "", "z", api.OK},
		{"\x00\x00\x00\x00\x00\x00\x00\x01", "", "", api.ErrSum},
		{"\x00\x00\x00\x01\xe8\xb7\xbe\x43", "", "", api.ErrShort},
		{"\x00\x00\x00\x01\x00\x00\x00\x00", "", "", api.ErrShort}, // ahead of a sum that is another one
		{"\x00\x00\x00\x01\xe8\xb7\xbe\x43a", "a", "", api.OK},
		{"\x00\x00\x00\x01\xe8\xb7\xbe\x43ab", "a", "b", api.OK},
		{"\x00\x00\x00\x01\xe8\xb7\xbe\x43a\xff", "a", "\xff", api.OK},
		{"\x00\x00\x00\x01\xe8\xb7\xbe\x43b", "", "", api.ErrSum},
		{"\x00\x00\x00\x01\xe8\xb7\xbe\x42a", "", "", api.ErrSum},
		{"\x00\x00\x00\x01\x43\xbe\xb7\xe8a", "", "", api.ErrSum}, // the lowest byte first
		{"\x01\x00\x00\x00\xe8\xb7\xbe\x43a", "", "", api.ErrForm},
		{"\x00\x00\x00\x02\xe8\xb7\xbe\x43a", "", "", api.ErrShort},
		{"\x00\x00\x00\x00\xe8\xb7\xbe\x43a", "", "", api.ErrSum},
		{slowPut(longest), longest, "", api.OK},
		{slowPut(longest) + "\x01", longest, "\x01", api.OK},
		{slowPut(longest)[:1031], "", "", api.ErrShort},
		{slowPut(longest + "x"), "", "", api.ErrForm},
	} {
		if record, rest, e := Next(c.s); record != c.record || rest != c.rest || e != c.e {
			t.Errorf("Next(%x): %x, %x, %v; asked for: %x, %x, %v", c.s, record, rest, e, c.record, c.rest, c.e)
		}
		nexts(t, c.s)
	}
}

// 8.1: a length that can be none is told by the bytes that are there: of all beginnings of at most two bytes, and of those of four at which it turns.
func TestNextOfLengths(t *testing.T) {
	for a := range 256 {
		nexts(t, string([]byte{byte(a)}))
		for _, b := range []byte{0, 1, 4, 0x7f, 0x80, 0xff} {
			nexts(t, string([]byte{byte(a), b}))
			nexts(t, string([]byte{b, byte(a)}))
			nexts(t, string([]byte{0, 0, byte(a), b}))
			nexts(t, string([]byte{0, 0, b, byte(a)}))
			nexts(t, string([]byte{0, b, 0, byte(a)}))
			nexts(t, string([]byte{b, 0, 0, byte(a)}))
		}
		nexts(t, string([]byte{0, 0, byte(a)}))
		nexts(t, string([]byte{0, byte(a), 0}))
	}
}

// 8.1: bytes of a frame that are changed are never told as a record; where they are those ahead of the record's end, and the length stays, it is the sum that tells.
func TestNextOfChangedBytes(t *testing.T) {
	for _, record := range []string{"", "a", "abc", "\x00\x00\x00\x00\x00\x00\x00\x00", strings.Repeat("x", 300)} {
		s := slowPut(record)
		for i := range len(s) {
			for bit := range 8 {
				b := []byte(s + "behind")
				b[i] ^= 1 << bit
				e := nexts(t, string(b))
				if e == api.OK || i >= 4 && e != api.ErrSum {
					t.Fatalf("%x, changed to %x: %v", s, b, e)
				}
			}
		}
	}
}

// 8.1: Next of drawn bytes is what the library's one is, and no bytes are too odd for it.
func TestNextOfDrawnBytes(t *testing.T) {
	r := rand.New(rand.NewSource(3))
	seen := map[api.Errno]int{}
	for range 20000 {
		b := []byte(slowPut(drawn(r, r.Intn(6))) + drawn(r, r.Intn(4)))
		for range r.Intn(3) {
			b[r.Intn(len(b))] = byte(r.Intn(6))
		}
		seen[nexts(t, string(b[:r.Intn(len(b)+1)]))]++
	}
	for _, e := range []api.Errno{api.OK, api.ErrForm, api.ErrShort, api.ErrSum} {
		if seen[e] < 100 {
			t.Errorf("%v: %d times", e, seen[e])
		}
	}
}

// 8.2: Scan has the records of all frames up to the first error, how many bytes these frames have, and that error, written down by hand.
func TestScanByHand(t *testing.T) {
	a, none, abc := slowPut("a"), slowPut(""), slowPut("abc")
	wrong := "\x00\x00\x00\x01\x00\x00\x00\x00a"
	scans(t, "", nil, 0, api.OK)
	scans(t, a, []string{"a"}, 9, api.OK)
	scans(t, none, []string{""}, 8, api.OK)
	scans(t, none+none+none, []string{"", "", ""}, 24, api.OK)
	scans(t, abc+none+abc, []string{"abc", "", "abc"}, 30, api.OK)
	scans(t, "\x00", nil, 0, api.ErrShort)
	scans(t, abc+none[:5], []string{"abc"}, 11, api.ErrShort)
	scans(t, abc+a[:8], []string{"abc"}, 11, api.ErrShort)
	scans(t, abc+a+"\x00\x00\x04", []string{"abc", "a"}, 20, api.ErrShort)
	scans(t, abc+a+"\x00\x00\x05", []string{"abc", "a"}, 20, api.ErrForm)
	scans(t, "\x01"+a, nil, 0, api.ErrForm)
	scans(t, a+"\xff", []string{"a"}, 9, api.ErrForm)
	scans(t, wrong, nil, 0, api.ErrSum)
	// What is behind an error is not told, as whole as it is.
	scans(t, wrong+a+a, nil, 0, api.ErrSum)
	scans(t, a+wrong+a, []string{"a"}, 9, api.ErrSum)
	scans(t, a+none+"\x00\x00\x04\x01"+a, []string{"a", ""}, 17, api.ErrForm)
	// Zeros are frames of empty records, as far as eight of them go.
	scans(t, strings.Repeat("\x00", 19), []string{"", ""}, 16, api.ErrShort)
}

// 8.2: what Scan tells is what Next tells, one behind the other, of drawn bytes.
func TestScanIsNextAgain(t *testing.T) {
	r := rand.New(rand.NewSource(4))
	seen := map[api.Errno]int{}
	for range 3000 {
		var all strings.Builder
		for range r.Intn(5) {
			all.WriteString(slowPut(drawn(r, r.Intn(5))))
		}
		b := []byte(all.String() + drawn(r, r.Intn(3)))
		if len(b) > 0 && r.Intn(2) > 0 {
			b[r.Intn(len(b))] = byte(r.Intn(6))
		}
		s := string(b)
		var want []string
		rest := s
		we := api.OK
		for rest != "" {
			record, behind, e := slowNext(rest)
			if we = e; e != api.OK {
				break
			}
			want, rest = append(want, record), behind
		}
		scans(t, s, want, len(s)-len(rest), we)
		seen[we]++
	}
	for _, e := range []api.Errno{api.OK, api.ErrForm, api.ErrShort, api.ErrSum} {
		if seen[e] < 50 {
			t.Errorf("%v: %d times", e, seen[e])
		}
	}
}

// 8.2: as many frames as a disk can have are all told.
func TestScanOfMany(t *testing.T) {
	s := strings.Repeat(slowPut(""), api.MaxDisk/8)
	scans(t, s, make([]string, api.MaxDisk/8), api.MaxDisk, api.OK)
	s = strings.Repeat(slowPut("a"), api.MaxDisk/9)
	scans(t, s+"\x00", slices.Repeat([]string{"a"}, api.MaxDisk/9), len(s), api.ErrShort)
}

// 8.2: what is told of one Scan is the caller's own.
func TestScanSharesNothing(t *testing.T) {
	s := slowPut("a") + slowPut("b")
	l, _, _ := Scan(s)
	l[0] = "z"
	scans(t, s, []string{"a", "b"}, 18, api.OK)
}

// 8.3: what is put is told next, whatever stands behind.
func TestPutIsTold(t *testing.T) {
	r := rand.New(rand.NewSource(5))
	for _, l := range lists() {
		for _, record := range l {
			s := puts(t, record)
			for _, behind := range []string{"", "\x00", "\xff", "z", s, s[:len(s)-1], drawn(r, 20), strings.Repeat("\x00", 2000)} {
				if is, rest, e := Next(s + behind); is != record || rest != behind || e != api.OK {
					t.Fatalf("Next of %x and %x: %x, %x, %v", s, behind, is, rest, e)
				}
			}
		}
	}
}

// 8.3: of frames that are cut off anywhere those are told that are there whole, and ErrShort just where some bytes are left.
func TestFramesCutOff(t *testing.T) {
	for _, l := range lists() {
		var all string
		ends := []int{0}
		for _, record := range l {
			all += puts(t, record)
			ends = append(ends, len(all))
		}
		whole := 0
		for cut := range len(all) + 1 {
			for whole < len(l) && ends[whole+1] <= cut {
				whole++
			}
			want := api.ErrShort
			if ends[whole] == cut {
				want = api.OK
			}
			scans(t, all[:cut], l[:whole], ends[whole], want)
		}
	}
}

// 8.3: that hangs on no sum: a last frame whose sum is another one is told as cut off, wherever it is, as long as a byte of it is lacking.
func TestCutOffWhateverTheSum(t *testing.T) {
	ahead := slowPut("abc")
	for _, record := range []string{"", "a", "abcdefgh", strings.Repeat("x", 1024)} {
		for _, other := range []string{"\x00\x00\x00\x00", "\xff\xff\xff\xff", "\x01\x02\x03\x04"} {
			s := slowPut(record)
			s = ahead + s[:4] + other + s[8:]
			for cut := len(ahead) + 1; cut < len(s); cut++ {
				scans(t, s[:cut], []string{"abc"}, len(ahead), api.ErrShort)
			}
		}
	}
}
