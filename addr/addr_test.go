package addr

import (
	"math"
	"regexp"
	"slices"
	"strconv"
	"strings"
	"testing"
)

// at: the address of four bytes and a port.
func at(a, b, c, d byte, port uint16) Addr {
	return Addr{IP: uint32(a)<<24 | uint32(b)<<16 | uint32(c)<<8 | uint32(d), Port: port}
}

// addrCase: an address, its text and its bytes, each written by hand.
type addrCase struct {
	addr      Addr
	text, put string
}

// cases: ordinary addresses, those where a byte, a digit or all of it is at its end, and those that are none.
func cases() []addrCase {
	return []addrCase{
		{at(10, 0, 0, 1, 80), "10.0.0.1:80", "\x0a\x00\x00\x01\x00\x50"},
		{at(1, 2, 3, 4, 5), "1.2.3.4:5", "\x01\x02\x03\x04\x00\x05"},
		{at(192, 168, 20, 100, 7946), "192.168.20.100:7946", "\xc0\xa8\x14\x64\x1f\x0a"},
		{Addr{IP: 0xf1e2d3c4, Port: 0xb5a6}, "241.226.211.196:46502", "\xf1\xe2\xd3\xc4\xb5\xa6"},
		{Addr{}, "0.0.0.0:0", "\x00\x00\x00\x00\x00\x00"},
		{Addr{Port: 1}, "0.0.0.0:1", "\x00\x00\x00\x00\x00\x01"},
		{Addr{IP: 1}, "0.0.0.1:0", "\x00\x00\x00\x01\x00\x00"},
		{Addr{IP: 255, Port: 255}, "0.0.0.255:255", "\x00\x00\x00\xff\x00\xff"},
		{Addr{IP: 256, Port: 256}, "0.0.1.0:256", "\x00\x00\x01\x00\x01\x00"},
		{Addr{IP: 1 << 31, Port: 1 << 15}, "128.0.0.0:32768", "\x80\x00\x00\x00\x80\x00"},
		{Addr{IP: math.MaxUint32, Port: math.MaxUint16}, "255.255.255.255:65535", "\xff\xff\xff\xff\xff\xff"},
		{Addr{IP: math.MaxUint32}, "255.255.255.255:0", "\xff\xff\xff\xff\x00\x00"},
		{Addr{Port: math.MaxUint16}, "0.0.0.0:65535", "\x00\x00\x00\x00\xff\xff"},
		{at(9, 10, 99, 100, 9), "9.10.99.100:9", "\x09\x0a\x63\x64\x00\x09"},
		{at(100, 99, 10, 9, 10), "100.99.10.9:10", "\x64\x63\x0a\x09\x00\x0a"},
		{at(199, 200, 249, 250, 99), "199.200.249.250:99", "\xc7\xc8\xf9\xfa\x00\x63"},
		{at(46, 58, 48, 57, 9999), "46.58.48.57:9999", ".:09\x27\x0f"},
		{at(1, 1, 1, 1, 10000), "1.1.1.1:10000", "\x01\x01\x01\x01\x27\x10"},
	}
}

// P3.1: none is what has an IP, or a Port, of 0.
func TestNone(t *testing.T) {
	for _, c := range []struct {
		addr Addr
		want bool
	}{
		{Addr{}, true}, {Addr{IP: 1}, true}, {Addr{IP: math.MaxUint32}, true}, {Addr{Port: 1}, true}, {Addr{Port: math.MaxUint16}, true},
		{Addr{IP: 1, Port: 1}, false}, {Addr{IP: 1 << 31, Port: 1 << 15}, false}, {Addr{IP: 1 << 24, Port: 256}, false},
		{Addr{IP: math.MaxUint32, Port: math.MaxUint16}, false}, {at(10, 0, 0, 1, 80), false},
	} {
		if got := c.addr.None(); got != c.want {
			t.Errorf("%v: %v", c.addr, got)
		}
	}
}

// P3.1: private are the three nets, from their first IP to their last; what is next to them is not, nor what begins likewise.
func TestPrivate(t *testing.T) {
	for _, c := range []struct {
		first, last Addr
	}{
		{at(10, 0, 0, 0, 0), at(10, 255, 255, 255, 0)},
		{at(172, 16, 0, 0, 0), at(172, 31, 255, 255, 0)},
		{at(192, 168, 0, 0, 0), at(192, 168, 255, 255, 0)},
	} {
		middle := c.first.IP + (c.last.IP-c.first.IP)/2
		for _, port := range []uint16{0, 1, 80, math.MaxUint16} {
			for _, ip := range []uint32{c.first.IP, c.first.IP + 1, middle, middle + 1, c.last.IP - 1, c.last.IP} {
				if !(Addr{IP: ip, Port: port}).Private() {
					t.Errorf("%x, %d: not private", ip, port)
				}
			}
			for _, ip := range []uint32{c.first.IP - 1, c.last.IP + 1} {
				if (Addr{IP: ip, Port: port}).Private() {
					t.Errorf("%x, %d: private", ip, port)
				}
			}
		}
	}
	for _, a := range []Addr{
		{}, {IP: 10}, {IP: math.MaxUint32}, {Port: math.MaxUint16}, at(0, 10, 0, 0, 1), at(138, 0, 0, 1, 1), at(42, 0, 0, 1, 1), at(172, 0, 0, 1, 1), at(172, 48, 0, 1, 1), at(172, 144, 0, 1, 1),
		at(44, 16, 0, 1, 1), at(192, 0, 0, 1, 1), at(192, 40, 0, 1, 1), at(168, 192, 0, 1, 1), at(193, 168, 0, 1, 1), at(127, 0, 0, 1, 1), at(169, 254, 0, 1, 1), at(100, 64, 0, 1, 1), at(8, 8, 8, 8, 53),
	} {
		if a.Private() {
			t.Errorf("%v: private", a)
		}
	}
}

// P3.1: of all that IPs begin with, in 16 bits, just those are private that the three nets name.
func TestPrivateOfAllBeginnings(t *testing.T) {
	for high := range uint32(1 << 16) {
		a, b := high>>8, high&255
		want := a == 10 || a == 172 && 16 <= b && b <= 31 || a == 192 && b == 168
		for _, low := range []uint32{0, 0x1234, 0xffff} {
			if got := (Addr{IP: high<<16 | low, Port: 7}).Private(); got != want {
				t.Fatalf("%x: %v", high<<16|low, got)
			}
		}
	}
}

// P3.1: rising by IP, and of the same IP by Port; whoever is first in the list is told so, both ways round.
func TestOrder(t *testing.T) {
	rising := []Addr{
		{}, {Port: 1}, {Port: 255}, {Port: 256}, {Port: math.MaxUint16},
		{IP: 1}, {IP: 1, Port: 1}, {IP: 1, Port: 9}, {IP: 2, Port: 1}, {IP: 2, Port: 2}, {IP: 255, Port: 3}, {IP: 256, Port: 2},
		at(9, 9, 9, 9, 9), at(10, 0, 0, 1, 79), at(10, 0, 0, 1, 80), at(10, 0, 0, 2, 1),
		{IP: 1<<31 - 1, Port: 4}, {IP: 1 << 31, Port: 1<<15 - 1}, {IP: 1 << 31, Port: 1 << 15}, {IP: 1<<31 + 1, Port: 0},
		{IP: math.MaxUint32 - 1, Port: math.MaxUint16}, {IP: math.MaxUint32}, {IP: math.MaxUint32, Port: math.MaxUint16},
	}
	for i, a := range rising {
		for j, b := range rising {
			want := 0
			if i < j {
				want = -1
			} else if i > j {
				want = 1
			}
			if got := Order(a, b); got != want {
				t.Errorf("Order(%v, %v): %d, want %d", a, b, got, want)
			}
		}
	}
	shuffled := slices.Clone(rising)
	slices.Reverse(shuffled)
	slices.SortFunc(shuffled, Order)
	if !slices.Equal(shuffled, rising) {
		t.Errorf("sorted: %v", shuffled)
	}
}

// P3.2: the four bytes in digits, dots between, a colon, and the port in digits.
func TestText(t *testing.T) {
	for _, c := range cases() {
		if got := c.addr.Text(); got != c.text {
			t.Errorf("%v: %q, want %q", c.addr, got, c.text)
		}
	}
}

// P3.2: the address of a text: the document's example, ordinary ones and edges.
func TestRead(t *testing.T) {
	for _, c := range cases() {
		if got, ok := Read(c.text); got != c.addr || !ok {
			t.Errorf("%q: %v, %v", c.text, got, ok)
		}
	}
}

// notTexts: what nearly is an address's text, and is none.
func notTexts() []string {
	return []string{
		"", " ", ".", ":", "...:", "....:", "0", "1", "1.2", "1.2.3", "1.2.3.4", "1.2.3.4:", "1.2.3:4", "1.2.3.:5", ":5", "1:5", "16909060:5", ".2.3.4:5", "1..3.4:5", "1.2..4:5", "1.2.3.4.5:6", "1.2.3.4.:5", ".1.2.3.4:5", "1.2.3.4:5:6", "1.2.3.4::5", "1.2.3.4:5.", "1.2.3.4:5:", "1.2.3.4.5",
		"1:2:3:4:5", "1:2.3.4:5", "1.2:3.4:5", "1.2.3:4:5", "1,2,3,4:5", "1.2.3.4;5", "1.2.3.4/5", "1.2.3.4 5", "1 2 3 4 5",
		"256.2.3.4:5", "1.256.3.4:5", "1.2.256.4:5", "1.2.3.256:5", "260.2.3.4:5", "300.2.3.4:5", "999.2.3.4:5", "1000.2.3.4:5", "1.2.3.4:65536", "1.2.3.4:65540", "1.2.3.4:70000", "1.2.3.4:99999", "1.2.3.4:100000",
		"4294967296.2.3.4:5", "4294967297.2.3.4:5", "1.2.3.4294967300:5", "18446744073709551617.2.3.4:5", "1.2.3.4:4294967301", "1.2.3.4:18446744073709551621", "1.2.3.4:340282366920938463463374607431768211461",
		"01.2.3.4:5", "1.02.3.4:5", "1.2.03.4:5", "1.2.3.04:5", "1.2.3.4:05", "00.2.3.4:5", "1.00.3.4:5", "1.2.3.00:5", "1.2.3.4:00", "000.2.3.4:5", "0255.2.3.4:5", "1.2.3.4:065535", "010.0.0.1:80", "0.0.0.0:00", "1.2.3.4:" + strings.Repeat("0", 100), strings.Repeat("0", 100) + "1.2.3.4:5",
		" 1.2.3.4:5", "1.2.3.4:5 ", "1. 2.3.4:5", "1 .2.3.4:5", "1.2.3.4: 5", "1.2.3.4 :5", "1.2.3.4:5\n", "\t1.2.3.4:5", "1.2.3.4:5\x00", "\x001.2.3.4:5", "1.2.3.4\x00:5",
		"-1.2.3.4:5", "+1.2.3.4:5", "1.-2.3.4:5", "1.2.+3.4:5", "1.2.3.4:-5", "1.2.3.4:+5", "-0.2.3.4:5", "1.2.3.4:-0",
		"a.2.3.4:5", "1.b.3.4:5", "1.2.3.c:5", "1.2.3.4:d", "1.2.3.4:5e", "1.2.3.4:0x5", "0x1.2.3.4:5", "1.2.3.4:1_0", "1.2.3.4:1e1", "1/.2.3.4:5", "1.2.3.4:/", "1.2.3.4:5/", "1.2.3.;:5", "one.two.three.four:five", "localhost:80", "[::1]:80", "::1:80",
		"\u0661.2.3.4:5", "1.2.3.4:\u0665", "1.2.3.\uff14:5", "1\u3002 2.3.4:5", "\xff.2.3.4:5", "1.2.3.4:\xb5", "\xb1.2.3.4:5", "1\xae2.3.4:5",
		"1.2.3.4:5 1.2.3.4:5", "1.2.3.41.2.3.4:5", "1.2.3.4:51.2.3.4:5", "1.2.3.4:" + strings.Repeat("5", 1000), strings.Repeat("1", 1000) + ".2.3.4:5", strings.Repeat(".", 1000), strings.Repeat("1.", 1000),
	}
}

// P3.2, P2: of what is no address's text there is none, and what is answered beside the false is nothing.
func TestReadOfNone(t *testing.T) {
	for _, s := range notTexts() {
		if got, ok := Read(s); got != (Addr{}) || ok {
			t.Errorf("%q: %v, %v", s, got, ok)
		}
	}
}

// P3.2: of a text no part is one, and no more than it: neither what it begins with, but where a digit of the port less is still a port, nor what it ends with.
func TestReadOfParts(t *testing.T) {
	for _, c := range cases() {
		port := strings.Index(c.text, ":") + 2
		for cut := range len(c.text) {
			if got, ok := Read(c.text[:cut]); ok != (cut >= port) || !ok && got != (Addr{}) || ok && got.Text() != c.text[:cut] {
				t.Errorf("%q: %v, %v", c.text[:cut], got, ok)
			}
		}
		for _, more := range []string{" ", ".", ":", "x", "\x00", "\n", ".1", ":1", "-", "\xff"} {
			for _, s := range []string{c.text + more, more + c.text} {
				if got, ok := Read(s); got != (Addr{}) || ok {
					t.Errorf("%q: %v, %v", s, got, ok)
				}
			}
		}
	}
}

// shape: what a text looks like, its numbers without needless zeros.
var shape = regexp.MustCompile(`^(0|[1-9][0-9]{0,2})\.(0|[1-9][0-9]{0,2})\.(0|[1-9][0-9]{0,2})\.(0|[1-9][0-9]{0,2}):(0|[1-9][0-9]{0,4})\z`)

// reckon: the address whose text s is, by another way than the program's.
func reckon(s string) (Addr, bool) {
	parts := shape.FindStringSubmatch(s)
	if parts == nil {
		return Addr{}, false
	}
	ip := 0
	for _, part := range parts[1:5] {
		n, _ := strconv.Atoi(part)
		if n > 255 {
			return Addr{}, false
		}
		ip = ip*256 + n
	}
	port, _ := strconv.Atoi(parts[5])
	if port > 65535 {
		return Addr{}, false
	}
	return Addr{IP: uint32(ip), Port: uint16(port)}, true
}

// hold: does Read answer of s what is reckoned?
func hold(t *testing.T, s string) {
	t.Helper()
	want, is := reckon(s)
	got, ok := Read(s)
	if got != want || ok != is {
		t.Errorf("%q: %v, %v; want %v, %v", s, got, ok, want, is)
	}
	if ok && got.Text() != s {
		t.Errorf("%q: told as %q", s, got.Text())
	}
}

// P3.2: of all texts that are one byte away from an address's text - changed, left out, put in between - just those are read that are one.
func TestReadOfChangedTexts(t *testing.T) {
	for _, c := range cases() {
		for place := range len(c.text) + 1 {
			for b := range 256 {
				one := string([]byte{byte(b)})
				hold(t, c.text[:place]+one+c.text[place:])
				if place < len(c.text) {
					hold(t, c.text[:place]+one+c.text[place+1:])
				}
			}
			if place < len(c.text) {
				hold(t, c.text[:place]+c.text[place+1:])
				hold(t, c.text[:place]+c.text[place:place+1]+c.text[place:])
			}
		}
	}
}

// P3.2: of each number, in each of the five places, written with no, one or two needless zeros, just the right ones are read.
func TestReadOfAllNumbers(t *testing.T) {
	for n := range 1200 {
		for _, zeros := range []string{"", "0", "00"} {
			number := zeros + strconv.Itoa(n)
			for _, s := range []string{number + ".2.3.4:5", "1." + number + ".3.4:5", "1.2." + number + ".4:5", "1.2.3." + number + ":5", "1.2.3.4:" + number} {
				hold(t, s)
			}
		}
	}
	for n := 65000; n < 66000; n++ {
		hold(t, "255.255.255.255:"+strconv.Itoa(n))
	}
	for shift := 8; shift < 64; shift++ {
		for _, less := range []uint64{0, 1, 2} {
			number := strconv.FormatUint(1<<shift+1-less, 10)
			hold(t, number+".2.3.4:5")
			hold(t, "1.2.3."+number+":5")
			hold(t, "1.2.3.4:"+number)
		}
	}
}

// P3.2: of texts that are thrown together of an address's letters, just those are read that are one.
func TestReadOfThrownTexts(t *testing.T) {
	const letters = "0125.:9 "
	state := uint32(1)
	next := func(n int) int {
		state = state*1664525 + 1013904223
		return int(state>>8) % n
	}
	for range 100000 {
		b := make([]byte, next(14))
		for i := range b {
			b[i] = letters[next(len(letters))]
		}
		hold(t, string(b))
	}
}

// P3.2: four bytes of IP, two of Port, the highest first.
func TestPut(t *testing.T) {
	for _, c := range cases() {
		if got := c.addr.Put(); got != c.put {
			t.Errorf("%v: %x, want %x", c.addr, got, c.put)
		}
	}
}

// P3.2: the address of six bytes.
func TestGet(t *testing.T) {
	for _, c := range cases() {
		if got, ok := Get(c.put); got != c.addr || !ok {
			t.Errorf("%x: %v, %v", c.put, got, ok)
		}
	}
}

// P3.2, P2: of less than six bytes, or of more, there is none, and what is answered beside the false is nothing.
func TestGetOfNone(t *testing.T) {
	for _, c := range cases() {
		for cut := range len(c.put) {
			for _, s := range []string{c.put[:cut], c.put[cut+1:]} {
				if got, ok := Get(s); got != (Addr{}) || ok {
					t.Errorf("%x: %v, %v", s, got, ok)
				}
			}
		}
		for _, s := range []string{c.put + "\x00", "\x00" + c.put, c.put + "\xff", c.put + c.put, c.put + strings.Repeat("\x01", 250), c.put + strings.Repeat("\x01", 256), c.put + strings.Repeat("\x00", 1<<16), "\x06" + c.put, c.text} {
			if got, ok := Get(s); got != (Addr{}) || ok {
				t.Errorf("%d bytes: %v, %v", len(s), got, ok)
			}
		}
	}
}

// again: is what is told of a, and what is put of it, read as a?
func again(t *testing.T, a Addr) {
	t.Helper()
	if got, ok := Read(a.Text()); got != a || !ok {
		t.Errorf("%v: told %q, read %v, %v", a, a.Text(), got, ok)
	}
	if got, ok := Get(a.Put()); got != a || !ok || len(a.Put()) != 6 {
		t.Errorf("%v: put %x, got %v, %v", a, a.Put(), got, ok)
	}
}

// P3.3: what is told, or put, is read as it was: of every port, every byte in every place, and of many IPs.
func TestWhatIsToldIsRead(t *testing.T) {
	for _, c := range cases() {
		again(t, c.addr)
	}
	for port := range 1 << 16 {
		again(t, at(10, 1, 2, 3, uint16(port)))
	}
	for b := range uint32(256) {
		for shift := 0; shift < 32; shift += 8 {
			again(t, Addr{IP: b << shift, Port: uint16(b)})
			again(t, Addr{IP: ^(b << shift), Port: ^uint16(b)})
		}
	}
	ip, port := uint32(1), uint16(1)
	for range 20000 {
		ip, port = ip*1664525+1013904223, port*25173+13849
		again(t, Addr{IP: ip, Port: port})
	}
}

// P3.3: two addresses that differ are told, and put, differently; and in bytes they stand in Order.
func TestAddressesDiffer(t *testing.T) {
	for _, a := range cases() {
		for _, b := range cases() {
			same := a.addr == b.addr
			if (a.addr.Text() == b.addr.Text()) != same || (a.addr.Put() == b.addr.Put()) != same || (Order(a.addr, b.addr) == 0) != same {
				t.Errorf("%v, %v", a.addr, b.addr)
			}
			if strings.Compare(a.addr.Put(), b.addr.Put()) != Order(a.addr, b.addr) {
				t.Errorf("%v, %v: Order %d", a.addr, b.addr, Order(a.addr, b.addr))
			}
		}
	}
}
