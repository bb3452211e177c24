package pack

import (
	"math"
	"strings"
	"testing"
)

// bad: what every reader is behind a fault.
var bad = Reader{Bad: true}

// noSizes: what no number has as its size.
var noSizes = []int{0, -1, -8, math.MinInt64, math.MinInt64 + 1, -1 << 32, 9, 10, 16, 255, 256, 257, 264, 1 << 31, 1<<32 + 1, 1<<32 + 8, math.MaxInt64}

// numbers: ordinary ones, and those where a byte, or all of them, is at its end.
var numbers = []uint64{0, 1, 127, 128, 255, 256, 258, 0xff00, 0xffff, 0x10000, 0x01020304, 0x80000000, 0xffffffff, 0x100000000, 0x0102030405060708, 0xf8f7f6f5f4f3f2f1, 1 << 63, math.MaxUint64}

// everyByte: the 256 bytes, rising.
func everyByte() string {
	var b strings.Builder
	for i := range 256 {
		b.WriteByte(byte(i))
	}
	return b.String()
}

// mask: what size bytes hold of n.
func mask(n uint64, size int) uint64 {
	if size == 8 {
		return n
	}
	return n % (1 << (8 * size))
}

// mustText: Text of s, which has one.
func mustText(t *testing.T, s string) string {
	t.Helper()
	put, ok := Text(s)
	if !ok {
		t.Fatalf("a text of %d bytes has no Text", len(s))
	}
	return put
}

// P2.1: the lowest size bytes, the highest first: the document's example, and each size of a number whose bytes all differ.
func TestNumberBytes(t *testing.T) {
	for _, c := range []struct {
		n    uint64
		size int
		want string
	}{
		{258, 2, "\x01\x02"}, {258, 1, "\x02"}, {258, 3, "\x00\x01\x02"},
		{0, 1, "\x00"}, {0, 8, "\x00\x00\x00\x00\x00\x00\x00\x00"},
		{255, 1, "\xff"}, {256, 1, "\x00"}, {255, 2, "\x00\xff"}, {256, 2, "\x01\x00"}, {65535, 2, "\xff\xff"}, {65536, 2, "\x00\x00"},
		{0xf1e2d3c4b5a69788, 1, "\x88"},
		{0xf1e2d3c4b5a69788, 2, "\x97\x88"},
		{0xf1e2d3c4b5a69788, 3, "\xa6\x97\x88"},
		{0xf1e2d3c4b5a69788, 4, "\xb5\xa6\x97\x88"},
		{0xf1e2d3c4b5a69788, 5, "\xc4\xb5\xa6\x97\x88"},
		{0xf1e2d3c4b5a69788, 6, "\xd3\xc4\xb5\xa6\x97\x88"},
		{0xf1e2d3c4b5a69788, 7, "\xe2\xd3\xc4\xb5\xa6\x97\x88"},
		{0xf1e2d3c4b5a69788, 8, "\xf1\xe2\xd3\xc4\xb5\xa6\x97\x88"},
		{math.MaxUint64, 4, "\xff\xff\xff\xff"},
		{math.MaxUint64, 8, "\xff\xff\xff\xff\xff\xff\xff\xff"},
		{1 << 63, 8, "\x80\x00\x00\x00\x00\x00\x00\x00"},
		{1 << 63, 7, "\x00\x00\x00\x00\x00\x00\x00"},
	} {
		if got := Number(c.n, c.size); got != c.want {
			t.Errorf("Number(%x, %d): %x, want %x", c.n, c.size, got, c.want)
		}
	}
}

// P2.1, P6: of a size that is not 1 to 8 there is nothing, whichever of 64 bits it is.
func TestNumberOfNoSize(t *testing.T) {
	for _, size := range noSizes {
		for _, n := range numbers {
			if got := Number(n, size); got != "" {
				t.Errorf("Number(%x, %d): %x", n, size, got)
			}
		}
	}
}

// P2.1: a byte of how many bytes there are, and the text; bytes are counted, not runes, and any byte may stand there.
func TestTextBytes(t *testing.T) {
	for _, c := range []struct{ text, want string }{
		{"", "\x00"}, {"a", "\x01a"}, {"ab", "\x02ab"}, {"\x00", "\x01\x00"}, {"\x00\x00\x00", "\x03\x00\x00\x00"},
		{"\xff\xfe", "\x02\xff\xfe"}, {"\u20ac", "\x03\xe2\x82\xac"}, {"\x02ab", "\x03\x02ab"}, {"one two", "\x07one two"},
		{everyByte()[1:], "\xff" + everyByte()[1:]},
		{strings.Repeat("x", 127), "\x7f" + strings.Repeat("x", 127)},
		{strings.Repeat("x", 128), "\x80" + strings.Repeat("x", 128)},
		{strings.Repeat("x", 254), "\xfe" + strings.Repeat("x", 254)},
		{strings.Repeat("x", 255), "\xff" + strings.Repeat("x", 255)},
		{strings.Repeat("\u20ac", 85), "\xff" + strings.Repeat("\u20ac", 85)},
	} {
		if got, ok := Text(c.text); got != c.want || !ok {
			t.Errorf("Text(%q): %q, %v", c.text, got, ok)
		}
	}
}

// P2.1, P2: a text of above 255 bytes has none, and what is answered beside the false is nothing.
func TestTextTooLong(t *testing.T) {
	for _, s := range []string{strings.Repeat("x", 256), everyByte(), strings.Repeat("x", 257), strings.Repeat("x", 511), strings.Repeat("x", 512), strings.Repeat("x", 70000), strings.Repeat("\u20ac", 86)} {
		if got, ok := Text(s); got != "" || ok {
			t.Errorf("Text of %d bytes: %d bytes, %v", len(s), len(got), ok)
		}
	}
}

// P2.2: what Read answers has all of s before it, and is not bad.
func TestReadIsAll(t *testing.T) {
	for _, s := range []string{"", "a", "\x00", "\xff\x00\xff", everyByte(), strings.Repeat("x", 70000)} {
		if got := Read(s); got != (Reader{Rest: s}) {
			t.Errorf("Read of %d bytes: %d bytes, %v", len(s), len(got.Rest), got.Bad)
		}
	}
}

// P2.2: the number of the first size bytes, the highest first, and Rest what stands behind; down to nothing.
func TestReaderNumber(t *testing.T) {
	for _, c := range []struct {
		bytes string
		size  int
		want  uint64
		rest  string
	}{
		{"\x01\x02", 2, 258, ""}, {"\x01\x02", 1, 1, "\x02"}, {"\x00", 1, 0, ""}, {"\xff", 1, 255, ""}, {"\x80z", 1, 128, "z"},
		{"\xf1\xe2\xd3\xc4\xb5\xa6\x97\x88\x01", 1, 0xf1, "\xe2\xd3\xc4\xb5\xa6\x97\x88\x01"},
		{"\xf1\xe2\xd3\xc4\xb5\xa6\x97\x88\x01", 2, 0xf1e2, "\xd3\xc4\xb5\xa6\x97\x88\x01"},
		{"\xf1\xe2\xd3\xc4\xb5\xa6\x97\x88\x01", 3, 0xf1e2d3, "\xc4\xb5\xa6\x97\x88\x01"},
		{"\xf1\xe2\xd3\xc4\xb5\xa6\x97\x88\x01", 4, 0xf1e2d3c4, "\xb5\xa6\x97\x88\x01"},
		{"\xf1\xe2\xd3\xc4\xb5\xa6\x97\x88\x01", 5, 0xf1e2d3c4b5, "\xa6\x97\x88\x01"},
		{"\xf1\xe2\xd3\xc4\xb5\xa6\x97\x88\x01", 6, 0xf1e2d3c4b5a6, "\x97\x88\x01"},
		{"\xf1\xe2\xd3\xc4\xb5\xa6\x97\x88\x01", 7, 0xf1e2d3c4b5a697, "\x88\x01"},
		{"\xf1\xe2\xd3\xc4\xb5\xa6\x97\x88\x01", 8, 0xf1e2d3c4b5a69788, "\x01"},
		{"\xff\xff\xff\xff\xff\xff\xff\xff", 8, math.MaxUint64, ""},
		{"\x00\x00\x00\x00\x00\x00\x00\x00", 8, 0, ""},
		{"\x80\x00\x00\x00\x00\x00\x00\x00", 8, 1 << 63, ""},
	} {
		got, r := Read(c.bytes).Number(c.size)
		if got != c.want || r != (Reader{Rest: c.rest}) {
			t.Errorf("%x, Number(%d): %x, %x, %v; want %x, %x", c.bytes, c.size, got, r.Rest, r.Bad, c.want, c.rest)
		}
	}
}

// P2.2: of less bytes than size there is no number: 0, bad, and nothing of what was there is left.
func TestReaderNumberShort(t *testing.T) {
	for size := 1; size <= 8; size++ {
		for has := range size {
			if got, r := Read(everyByte()[255-has : 255]).Number(size); got != 0 || r != bad {
				t.Errorf("%d bytes, Number(%d): %x, %v", has, size, got, r)
			}
		}
	}
}

// P2.2, P6: a size that is not 1 to 8 is bad, also where as many bytes are there, and where none are asked for.
func TestReaderNumberOfNoSize(t *testing.T) {
	for _, size := range noSizes {
		for _, s := range []string{"", "\x01", "\x01\x02\x03\x04\x05\x06\x07\x08", everyByte(), strings.Repeat("\x01", 300)} {
			if got, r := Read(s).Number(size); got != 0 || r != bad {
				t.Errorf("%d bytes, Number(%d): %x, %d bytes, %v", len(s), size, got, len(r.Rest), r.Bad)
			}
		}
	}
}

// P2.2: a byte, and as many bytes as it tells; Rest what stands behind.
func TestReaderText(t *testing.T) {
	long := everyByte()[1:]
	for _, c := range []struct{ bytes, want, rest string }{
		{"\x00", "", ""}, {"\x00abc", "", "abc"}, {"\x00\x00", "", "\x00"}, {"\x01a", "a", ""}, {"\x01ab", "a", "b"}, {"\x02ab\xff", "ab", "\xff"},
		{"\x03\x00\x00\x00", "\x00\x00\x00", ""}, {"\x02\xff\xfe\xfd", "\xff\xfe", "\xfd"}, {"\x03\u20ac!", "\u20ac", "!"},
		{"\x7f" + long, long[:127], long[127:]}, {"\x80" + long, long[:128], long[128:]},
		{"\xfe" + long, long[:254], "\xff"}, {"\xff" + long, long, ""}, {"\xff" + long + "z", long, "z"},
	} {
		if got, r := Read(c.bytes).Text(); got != c.want || r != (Reader{Rest: c.rest}) {
			t.Errorf("%q, Text: %q, %q, %v", c.bytes, got, r.Rest, r.Bad)
		}
	}
}

// P2.2: a text that is not all there is bad, and nothing of it is answered; nor is there one where there is no byte at all.
func TestReaderTextShort(t *testing.T) {
	if got, r := Read("").Text(); got != "" || r != bad {
		t.Errorf("of nothing: %q, %v", got, r)
	}
	for length := 1; length <= 255; length++ {
		for _, has := range []int{0, 1, length / 2, length - 1} {
			if has >= length {
				continue
			}
			if got, r := Read(string([]byte{byte(length)}) + strings.Repeat("y", has)).Text(); got != "" || r != bad {
				t.Errorf("%d of %d bytes: %q, %v", has, length, got, r)
			}
		}
	}
}

// P2.2: done is who has nothing left and is not bad; of any Reader, also of one that no call gave out.
func TestDone(t *testing.T) {
	for _, c := range []struct {
		r    Reader
		want bool
	}{
		{Reader{}, true}, {Read(""), true}, {Read("a"), false}, {Read("\x00"), false}, {Read(everyByte()), false},
		{Reader{Bad: true}, false}, {Reader{Rest: "a", Bad: true}, false}, {Reader{Rest: "\x00", Bad: true}, false},
	} {
		if got := c.r.Done(); got != c.want {
			t.Errorf("%v: %v", c.r, got)
		}
	}
	_, r := Read("\x05\x06").Number(1)
	if r.Done() {
		t.Error("done with a byte left")
	}
	if _, r = r.Number(1); !r.Done() {
		t.Error("not done with nothing left")
	}
	if _, r = r.Number(1); r.Done() {
		t.Error("done behind what is not there")
	}
	if _, r := Read("\x02ab").Text(); !r.Done() {
		t.Error("not done behind a text")
	}
}

// P2.2, P2.3: a bad reader reads nothing, whatever stands in its Rest, and stays bad, with nothing left.
func TestBadStaysBad(t *testing.T) {
	for _, rest := range []string{"", "\x00", "\x01a", "\x02ab\x01", everyByte(), strings.Repeat("\x01", 300)} {
		r := Reader{Rest: rest, Bad: true}
		for size := -1; size <= 10; size++ {
			if n, after := r.Number(size); n != 0 || after != bad {
				t.Errorf("%q, Number(%d): %x, %v", rest, size, n, after)
			}
		}
		if s, after := r.Text(); s != "" || after != bad {
			t.Errorf("%q, Text: %q, %v", rest, s, after)
		}
	}
}

// P2.3: behind each kind of fault, all that follows is bad, though there were bytes enough for it.
func TestBadBehindAFault(t *testing.T) {
	const bytes = "\x03ab"
	_, wide := Read(bytes).Number(9)
	_, none := Read(bytes).Number(0)
	_, less := Read(bytes).Number(4)
	_, text := Read(bytes).Text()
	for i, r := range []Reader{wide, none, less, text} {
		for range 3 {
			if r != bad || r.Done() {
				t.Fatalf("%d: %v", i, r)
			}
			n, after := r.Number(1)
			s, last := after.Text()
			if n != 0 || s != "" || after != bad {
				t.Fatalf("%d: %x, %q, %v", i, n, s, after)
			}
			r = last
		}
	}
}

// P2.3: of every number, what size bytes hold of it is read again, with nothing of what is behind it.
func TestNumberIsReadAgain(t *testing.T) {
	for _, n := range numbers {
		for size := 1; size <= 8; size++ {
			for _, tail := range []string{"", "\x00", "\xff\x01", everyByte()} {
				got, r := Read(Number(n, size) + tail).Number(size)
				if got != mask(n, size) || r != (Reader{Rest: tail}) || r.Done() != (tail == "") {
					t.Errorf("%x of %d bytes: %x, %q, %v", n, size, got, r.Rest, r.Bad)
				}
			}
		}
	}
}

// P2.3: of every length that a text may have, it is read again, with nothing of what is behind it.
func TestTextIsReadAgain(t *testing.T) {
	for length := range 256 {
		text := everyByte()[256-length:]
		for _, tail := range []string{"", "\x00", "\xff\x01"} {
			got, r := Read(mustText(t, text) + tail).Text()
			if got != text || r != (Reader{Rest: tail}) || r.Done() != (tail == "") {
				t.Errorf("%d bytes: %q, %q, %v", length, got, r.Rest, r.Bad)
			}
		}
	}
}

// P2.3: numbers of all sizes and texts of many lengths, put one behind another, are read in that order; of what is cut off anywhere, the reader is bad at the end.
func TestAllIsReadInOrder(t *testing.T) {
	var put strings.Builder
	for i, n := range numbers {
		put.WriteString(Number(n, i%8+1))
		put.WriteString(mustText(t, everyByte()[:i*15]))
	}
	all := put.String()
	r := Read(all)
	for i, n := range numbers {
		var got uint64
		var text string
		got, r = r.Number(i%8 + 1)
		text, r = r.Text()
		if got != mask(n, i%8+1) || text != everyByte()[:i*15] {
			t.Fatalf("place %d: %x, %q", i, got, text)
		}
	}
	if !r.Done() {
		t.Errorf("left: %q, %v", r.Rest, r.Bad)
	}
	for cut := range len(all) {
		r := Read(all[:cut])
		for i := range numbers {
			_, r = r.Number(i%8 + 1)
			_, r = r.Text()
		}
		if r != bad {
			t.Fatalf("cut at %d: %q, %v", cut, r.Rest, r.Bad)
		}
	}
}

// P1, P2.2: any bytes, read by any calls, end in a reader that has the end of what it had, or is bad with nothing.
func TestAnyBytes(t *testing.T) {
	for seed := range 2000 {
		state := uint32(seed)
		next := func(n int) int {
			state = state*1664525 + 1013904223
			return int(state>>8) % n
		}
		b := make([]byte, next(40))
		for i := range b {
			b[i] = byte(next(9))
		}
		for r := Read(string(b)); !r.Bad && !r.Done(); {
			had := r.Rest
			if next(3) == 0 {
				var text string
				text, r = r.Text()
				if !r.Bad && had != string([]byte{byte(len(text))})+text+r.Rest {
					t.Fatalf("seed %d: %x: text %q, rest %x", seed, had, text, r.Rest)
				}
			} else {
				var n uint64
				size := next(11) - 1
				n, r = r.Number(size)
				if !r.Bad && had != Number(n, size)+r.Rest {
					t.Fatalf("seed %d: %x: Number(%d) %x, rest %x", seed, had, size, n, r.Rest)
				}
			}
			if r.Bad && r != bad {
				t.Fatalf("seed %d: %x: bad with %x", seed, had, r.Rest)
			}
		}
	}
}

// P3, P4: a reader stays where it is when it is read: the same is read again, whatever others read in between.
func TestReaderStays(t *testing.T) {
	r := Read("\x02ab\x01\x02")
	for range 3 {
		n, behind := r.Number(4)
		text, after := r.Text()
		if n != 0x02616201 || behind != (Reader{Rest: "\x02"}) || text != "ab" || after != (Reader{Rest: "\x01\x02"}) {
			t.Fatalf("%x, %v, %q, %v", n, behind, text, after)
		}
		r.Number(9)
		behind.Number(2)
		after.Text()
		if r != (Reader{Rest: "\x02ab\x01\x02"}) {
			t.Fatalf("%v", r)
		}
	}
}
