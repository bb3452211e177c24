package wire

import (
	"encoding/binary"
	"math"
	"slices"
	"strings"
	"testing"

	"scuttlebutt/addr"
	"scuttlebutt/api"
	"scuttlebutt/record"
)

// minus: -0.
var minus = math.Copysign(0, -1)

// home and far: addresses that are not None; far is at both ends.
var (
	home = addr.Addr{IP: 0x0a000001, Port: 80}
	far  = addr.Addr{IP: math.MaxUint32, Port: math.MaxUint16}
)

// has: the letters of each kind, as the chapter tells them.
func has() map[int]string {
	return map[int]string{
		1: "nr", 2: "pr", 3: "nar", 4: "n", 5: "nb", 6: "af", 7: "af", 8: "n",
		9: "n", 10: "f", 11: "f", 12: "", 13: "pr", 14: "r", 15: "fr", 16: "na",
	}
}

// known: n right records, the one not as the other.
func known(n int) []record.Record {
	l := []record.Record{}
	for i := range n {
		l = append(l, record.Record{ID: i%32 + 1, State: i % 4, Inc: uint32(i) * 0x01020304, Addr: addr.Addr{IP: 0x0a000001 + uint32(i), Port: uint16(i + 1)}})
	}
	return l
}

// notNodes: what no number of a node is.
func notNodes() []int {
	return []int{0, -1, -31, -32, 33, 34, 255, 256, 257, 1 << 32, 1<<32 + 1, 1<<63 - 31, math.MaxInt64, math.MinInt64, math.MinInt64 + 1}
}

// msgCase: a Msg, and its bytes, written by hand.
type msgCase struct {
	msg Msg
	put string
}

// cases: of each kind ordinary ones, and those of which a part is at its end.
func cases() []msgCase {
	one := record.Record{ID: 4, State: 1, Inc: 9, Addr: addr.Addr{IP: 1, Port: 2}}
	two := record.Record{ID: 32, State: 3, Inc: math.MaxUint32, Addr: far}
	const putOne, putTwo = "\x04\x01\x00\x00\x00\x09\x00\x00\x00\x01\x00\x02", "\x20\x03\xff\xff\xff\xff\xff\xff\xff\xff\xff\xff"
	return []msgCase{
		{Msg{Kind: Ping, From: 1, Seq: 0, Node: 1}, "\x01\x01\x00\x00\x00\x00\x01\x00"},
		{Msg{Kind: Ping, From: 32, Seq: math.MaxUint32, Node: 32, News: []record.Record{one, two}}, "\x01\x20\xff\xff\xff\xff\x20\x02" + putOne + putTwo},
		{Msg{Kind: Ack, From: 2, Seq: 1}, "\x02\x02\x00\x00\x00\x01\x00\x0f\x42\x40\x00\x0f\x42\x40\x00"},
		{Msg{Kind: Ack, From: 2, Seq: 256, Place: 1 - 1i, News: []record.Record{two}}, "\x02\x02\x00\x00\x01\x00\x00\x0f\x42\x41\x00\x0f\x42\x3f\x01" + putTwo},
		{Msg{Kind: Ack, From: 2, Seq: 0x01020304, Place: complex(-1000000, 1000000)}, "\x02\x02\x01\x02\x03\x04\x00\x00\x00\x00\x00\x1e\x84\x80\x00"},
		{Msg{Kind: PingReq, From: 1, Seq: 258, Node: 2, Addr: addr.Addr{IP: 1, Port: 2}, News: []record.Record{one}}, "\x03\x01\x00\x00\x01\x02\x02\x00\x00\x00\x01\x00\x02\x01" + putOne},
		{Msg{Kind: PingReq, From: 1, Seq: 258, Node: 2, Addr: far}, "\x03\x01\x00\x00\x01\x02\x02\xff\xff\xff\xff\xff\xff\x00"},
		{Msg{Kind: Nack, From: 17, Seq: 0xf1e2d3c4, Node: 18}, "\x04\x11\xf1\xe2\xd3\xc4\x12"},
		{Msg{Kind: Relay, From: 3, Seq: 0, Node: 5, Body: "\x00"}, "\x05\x03\x00\x00\x00\x00\x05\x00\x01\x00"},
		{Msg{Kind: Relay, From: 3, Seq: 7, Node: 5, Body: "body\xff"}, "\x05\x03\x00\x00\x00\x07\x05\x00\x05body\xff"},
		{Msg{Kind: Relay, From: 3, Seq: 7, Node: 5, Body: strings.Repeat("xyz", 100)}, "\x05\x03\x00\x00\x00\x07\x05\x01\x2c" + strings.Repeat("xyz", 100)},
		{Msg{Kind: Triangle, From: 4, Seq: 8, Addr: home, Flag: true}, "\x06\x04\x00\x00\x00\x08\x0a\x00\x00\x01\x00\x50\x01"},
		{Msg{Kind: Triangle, From: 4, Seq: 8, Addr: home}, "\x06\x04\x00\x00\x00\x08\x0a\x00\x00\x01\x00\x50\x00"},
		{Msg{Kind: Seen, From: 5, Seq: 9, Addr: addr.Addr{IP: 1, Port: 1}, Flag: true}, "\x07\x05\x00\x00\x00\x09\x00\x00\x00\x01\x00\x01\x01"},
		{Msg{Kind: Seen, From: 5, Seq: 9, Addr: far}, "\x07\x05\x00\x00\x00\x09\xff\xff\xff\xff\xff\xff\x00"},
		{Msg{Kind: Syn, From: 6, Seq: 0, Node: 7}, "\x08\x06\x00\x00\x00\x00\x07"},
		{Msg{Kind: SynAck, From: 6, Seq: 0, Node: 7}, "\x09\x06\x00\x00\x00\x00\x07"},
		{Msg{Kind: Lease, From: 9, Seq: 0, Flag: true}, "\x0a\x09\x00\x00\x00\x00\x01"},
		{Msg{Kind: Lease, From: 9, Seq: 0}, "\x0a\x09\x00\x00\x00\x00\x00"},
		{Msg{Kind: Leased, From: 10, Seq: 3, Flag: true}, "\x0b\x0a\x00\x00\x00\x03\x01"},
		{Msg{Kind: Leased, From: 10, Seq: 3}, "\x0b\x0a\x00\x00\x00\x03\x00"},
		{Msg{Kind: Keep, From: 11, Seq: 12}, "\x0c\x0b\x00\x00\x00\x0c"},
		{Msg{Kind: Join, From: 12, Seq: 0, Place: 3 + 4i}, "\x0d\x0c\x00\x00\x00\x00\x00\x0f\x42\x43\x00\x0f\x42\x44\x00"},
		{Msg{Kind: Join, From: 12, Seq: 0, News: []record.Record{one, one, two}}, "\x0d\x0c\x00\x00\x00\x00\x00\x0f\x42\x40\x00\x0f\x42\x40\x03" + putOne + putOne + putTwo},
		{Msg{Kind: Leave, From: 13, Seq: 0, News: []record.Record{one}}, "\x0e\x0d\x00\x00\x00\x00\x01" + putOne},
		{Msg{Kind: Leave, From: 13, Seq: 0}, "\x0e\x0d\x00\x00\x00\x00\x00"},
		{Msg{Kind: Sync, From: 14, Seq: 5, Flag: true, News: []record.Record{two, one}}, "\x0f\x0e\x00\x00\x00\x05\x01\x02" + putTwo + putOne},
		{Msg{Kind: Sync, From: 14, Seq: 5}, "\x0f\x0e\x00\x00\x00\x05\x00\x00"},
		{Msg{Kind: Meet, From: 15, Seq: 1, Node: 16, Addr: home}, "\x10\x0f\x00\x00\x00\x01\x10\x0a\x00\x00\x01\x00\x50"},
	}
}

// full: a right Msg of that kind, each field of which that it has tells something.
func full(kind int) Msg {
	m := Msg{Kind: kind, From: 3, Seq: 7}
	for _, letter := range has()[kind] {
		set(&m, letter)
	}
	return m
}

// set: gives m something in the field of that letter.
func set(m *Msg, letter rune) {
	switch letter {
	case 'n':
		m.Node = 5
	case 'a':
		m.Addr = home
	case 'p':
		m.Place = 3 - 4i
	case 'f':
		m.Flag = true
	case 'b':
		m.Body = "body"
	case 'r':
		m.News = known(2)
	}
}

// exact: is got the Msg want, to the bit of its place?
func exact(got, want Msg) bool {
	bits := func(p complex128) [2]uint64 { return [2]uint64{math.Float64bits(real(p)), math.Float64bits(imag(p))} }
	return got.Kind == want.Kind && got.From == want.From && got.Seq == want.Seq && got.Node == want.Node && got.Addr == want.Addr && bits(got.Place) == bits(want.Place) && got.Flag == want.Flag && got.Body == want.Body && slices.Equal(got.News, want.News)
}

// The chapter's face: the kinds are these numbers.
func TestKinds(t *testing.T) {
	l := []int{Ping, Ack, PingReq, Nack, Relay, Triangle, Seen, Syn, SynAck, Lease, Leased, Keep, Join, Leave, Sync, Meet}
	if !slices.Equal(l, []int{1, 2, 3, 4, 5, 6, 7, 8, 9, 10, 11, 12, 13, 14, 15, 16}) {
		t.Error(l)
	}
}

// P6.1, P6: the letters of each kind, in order; of what is no kind, whichever of 64 bits it is, there are none.
func TestHas(t *testing.T) {
	l := []int{1 << 32, 1<<32 + 1, 1<<63 - 16, math.MaxInt64, math.MinInt64, math.MinInt64 + 1, -1 << 32}
	for kind := -300; kind <= 300; kind++ {
		l = append(l, kind)
	}
	for _, kind := range l {
		want, is := has()[kind]
		if got, ok := Has(kind); got != want || ok != is {
			t.Errorf("%d: %q, %v; want %q, %v", kind, got, ok, want, is)
		}
	}
}

// right: are Right and Put of the mind that m is right (or that it is not, where Put answers nothing)?
func right(t *testing.T, m Msg, want bool) {
	t.Helper()
	put, ok := Put(m)
	if Right(m) != want || ok != want || !ok && put != "" {
		short := m
		short.Body, short.News = "", nil
		t.Errorf("%v, %d bytes of Body, %d News: %v, put %v of %d bytes; want %v", short, len(m.Body), len(m.News), Right(m), ok, len(put), want)
	}
}

// P6.2: what the chapter asks is right: every From, Node and Seq, ends of addresses and places, lengths of Body and News.
func TestRight(t *testing.T) {
	for _, c := range cases() {
		right(t, c.msg, true)
	}
	for kind := range has() {
		m := full(kind)
		for id := 1; id <= api.MaxNodes; id++ {
			m.From = id
			if m.Node != 0 {
				m.Node = 33 - id
			}
			for _, seq := range []uint32{0, 1, 1 << 31, math.MaxUint32} {
				m.Seq = seq
				right(t, m, true)
			}
		}
	}
	for _, a := range []addr.Addr{{IP: 1, Port: 1}, {IP: 1, Port: math.MaxUint16}, {IP: math.MaxUint32, Port: 1}, far} {
		right(t, Msg{Kind: Meet, From: 1, Node: 1, Addr: a}, true)
		right(t, Msg{Kind: Seen, From: 1, Addr: a}, true)
		right(t, Msg{Kind: Triangle, From: 1, Addr: a}, true)
		right(t, Msg{Kind: PingReq, From: 1, Node: 1, Addr: a}, true)
	}
	for _, p := range []complex128{0, 1, -1i, 999999 - 999999i, 1000000 + 1000000i, -1000000 - 1000000i} {
		right(t, Msg{Kind: Ack, From: 1, Place: p}, true)
		right(t, Msg{Kind: Join, From: 1, Place: p}, true)
	}
	for _, n := range []int{1, 2, 127, 255, 256, 257, 511, 512, 899, 900} {
		right(t, Msg{Kind: Relay, From: 1, Node: 1, Body: strings.Repeat("x", n)}, true)
	}
	right(t, Msg{Kind: Relay, From: 1, Node: 1, Body: strings.Repeat("\u20ac", 300)}, true)
}

// P6.2: of each kind, and of what is none, just what has all fields that may not be nothing, and none that the kind has not, is right.
func TestRightOfAllFields(t *testing.T) {
	for kind := -1; kind <= 18; kind++ {
		letters, is := has()[kind]
		for some := range 64 {
			m, want := Msg{Kind: kind, From: 3, Seq: 7}, is
			for i, letter := range "napfbr" {
				there := some>>i&1 == 1
				if there {
					set(&m, letter)
				}
				may := strings.ContainsRune(letters, letter)
				want = want && (may || !there) && (there || !may || !strings.ContainsRune("nab", letter))
			}
			right(t, m, want)
		}
	}
}

// P6.2, P6: no kind, no From, no Node; of any 64 bits.
func TestNotRightNumbers(t *testing.T) {
	for _, kind := range []int{0, -1, -16, 17, 18, 255, 256, 257, 268, 1 << 32, 1<<32 + 12, math.MaxInt64, math.MinInt64, math.MinInt64 + 12} {
		right(t, Msg{Kind: kind, From: 1}, false)
		right(t, Msg{Kind: kind, From: 1, Node: 1}, false)
	}
	for kind, letters := range has() {
		for _, id := range notNodes() {
			m := full(kind)
			m.From = id
			right(t, m, false)
			m = full(kind)
			m.Node = id
			right(t, m, id == 0 && !strings.Contains(letters, "n"))
		}
	}
	right(t, Msg{}, false)
}

// P6.2: an Addr that is None is not right where it is asked for, nor where it is not: but for the one that is zero.
func TestNotRightAddr(t *testing.T) {
	for kind, letters := range has() {
		for _, a := range []addr.Addr{{}, {IP: 1}, {IP: math.MaxUint32}, {Port: 1}, {Port: math.MaxUint16}} {
			m := full(kind)
			m.Addr = a
			right(t, m, a == addr.Addr{} && !strings.Contains(letters, "a"))
		}
	}
}

// P6.2: a Place that is not right, or has a -0, is not right where it is asked for; where it is not, neither, nor is a -0.
func TestNotRightPlace(t *testing.T) {
	for kind := range has() {
		for _, x := range []float64{minus, 0.5, -0.5, 1.5, 1000001, -1000001, 1000000.5, 1 << 32, 1 << 53, 1e300, math.NaN(), math.Inf(1), math.Inf(-1), math.MaxFloat64, math.SmallestNonzeroFloat64} {
			for _, p := range []complex128{complex(x, 0), complex(0, x), complex(x, x), complex(x, 5), complex(-6, x)} {
				m := full(kind)
				m.Place = p
				right(t, m, false)
			}
		}
	}
}

// P6.2: a Body of nothing, or of above 900 bytes.
func TestNotRightBody(t *testing.T) {
	for _, n := range []int{0, 901, 902, 1000, 1015, 1016, 1024, 1025, 65535, 65536, 65537, 66436, 1 << 24} {
		right(t, Msg{Kind: Relay, From: 1, Node: 1, Body: strings.Repeat("x", n)}, false)
	}
}

// P6.2: News are at most 8, of Join and Sync at most 32; a record that is not right is not, wherever it stands; and where there are to be none, even a right one is not.
func TestNews(t *testing.T) {
	for kind, letters := range has() {
		most := 8
		if kind == 13 || kind == 15 {
			most = 32
		}
		if !strings.Contains(letters, "r") {
			most = 0
		}
		for _, n := range []int{0, 1, 2, 7, 8, 9, 10, 31, 32, 33, 34, 64, 255, 256, 257, 264, 1 << 16} {
			m := full(kind)
			m.News = known(n)
			right(t, m, n <= most)
		}
		for n := 1; n <= most; n++ {
			for place := range n {
				m := full(kind)
				m.News = known(n)
				for _, r := range []record.Record{{}, {ID: 0, Addr: home}, {ID: 33, Addr: home}, {ID: 1, State: 4, Addr: home}, {ID: 1, State: -1, Addr: home}, {ID: 1}, {ID: 1, Addr: addr.Addr{IP: 1}}, {ID: 1, Addr: addr.Addr{Port: 1}}} {
					m.News[place] = r
					right(t, m, false)
				}
			}
		}
	}
}

// P6.2: the bytes of each field, in the order of the letters.
func TestPut(t *testing.T) {
	for _, c := range cases() {
		if got, ok := Put(c.msg); got != c.put || !ok {
			t.Errorf("%v: %x, %v; want %x", c.msg, got, ok, c.put)
		}
	}
}

// P6.2: the longest ones: none comes near the MTU.
func TestPutOfLongest(t *testing.T) {
	for kind, letters := range has() {
		m := full(kind)
		want := 6
		for _, letter := range letters {
			switch letter {
			case 'n', 'f':
				want++
			case 'a':
				want += 6
			case 'p':
				want += 8
			case 'b':
				m.Body = strings.Repeat("\xfe", 900)
				want += 902
			case 'r':
				n := 8
				if kind == Join || kind == Sync {
					n = 32
				}
				m.News = known(n)
				want += 1 + 12*n
			}
		}
		put, ok := Put(m)
		if len(put) != want || !ok || len(put) > api.MTU {
			t.Errorf("%d: %d bytes, %v; want %d", kind, len(put), ok, want)
		}
		if got, e := Get(put); e != api.OK || !exact(got, m) {
			t.Errorf("%d: %v, %v", kind, got, e)
		}
	}
}

// P6.3: the Msg of the bytes.
func TestGet(t *testing.T) {
	for _, c := range cases() {
		if got, e := Get(c.put); !exact(got, c.msg) || e != api.OK {
			t.Errorf("%x: %v, %v", c.put, got, e)
		}
	}
}

// none: does Get answer that error of s, and nothing beside it?
func none(t *testing.T, s string, want api.Errno) {
	t.Helper()
	if got, e := Get(s); !exact(got, Msg{}) || e != want {
		t.Errorf("%d bytes, %.60x: %v, %v; want %v", len(s), s, got, e, want)
	}
}

// P6.3: above MTU bytes are ErrLong, whatever they are; just as many are ErrForm, as no datagram is so long.
func TestGetOfLong(t *testing.T) {
	long := "\x05\x01\x00\x00\x00\x00\x01\x03\xf7" + strings.Repeat("x", 1015)
	none(t, long, api.ErrForm)
	none(t, long+"x", api.ErrLong)
	for _, b := range []string{"\x00", "\x01", "\x0c", "\xff"} {
		for _, n := range []int{1023, 1024} {
			none(t, strings.Repeat(b, n), api.ErrForm)
		}
		for _, n := range []int{1025, 1026, 2048, 65536, 1 << 20} {
			none(t, strings.Repeat(b, n), api.ErrLong)
		}
	}
	for _, c := range cases() {
		none(t, c.put+strings.Repeat("\x00", 1024-len(c.put)), api.ErrForm)
		none(t, c.put+strings.Repeat("\x00", 1025-len(c.put)), api.ErrLong)
	}
}

// P6.3, P2: what is cut short, or goes on, is none.
func TestGetOfShortAndMore(t *testing.T) {
	none(t, "", api.ErrForm)
	for _, c := range cases() {
		for cut := range len(c.put) {
			none(t, c.put[:cut], api.ErrForm)
		}
		for _, more := range []string{"\x00", "\x01", "\xff", "x", c.put} {
			none(t, c.put+more, api.ErrForm)
		}
		for kind := range 256 {
			none(t, string([]byte{byte(kind)}), api.ErrForm)
		}
	}
}

// reckon: the Msg whose Put s is, by another way than the program's.
func reckon(s string) (Msg, bool) {
	b, well := []byte(s), true
	// Of what there is too little, zeros are taken: the bytes that it came short of.
	take := func(n int) []byte {
		if len(b) < n {
			well = false
			b = make([]byte, n)
		}
		got := b[:n]
		b = b[n:]
		return got
	}
	address := func() addr.Addr {
		return addr.Addr{IP: binary.BigEndian.Uint32(take(4)), Port: binary.BigEndian.Uint16(take(2))}
	}
	node := func() int {
		id := int(take(1)[0])
		well = well && 1 <= id && id <= 32
		return id
	}
	part := func() float64 {
		n := binary.BigEndian.Uint32(take(4))
		well = well && n <= 2000000
		return float64(int(n) - 1000000)
	}
	m := Msg{Kind: int(take(1)[0])}
	letters, is := has()[m.Kind]
	well = well && is
	m.From = node()
	m.Seq = binary.BigEndian.Uint32(take(4))
	for _, letter := range letters {
		switch letter {
		case 'n':
			m.Node = node()
		case 'a':
			m.Addr = address()
			well = well && m.Addr.IP != 0 && m.Addr.Port != 0
		case 'p':
			across := part()
			m.Place = complex(across, part())
		case 'f':
			flag := take(1)[0]
			well = well && flag <= 1
			m.Flag = flag == 1
		case 'b':
			n := int(binary.BigEndian.Uint16(take(2)))
			well = well && 1 <= n && n <= 900
			m.Body = string(take(n))
		case 'r':
			n := int(take(1)[0])
			well = well && (n <= 8 || n <= 32 && (m.Kind == 13 || m.Kind == 15))
			for range n {
				r := record.Record{ID: node(), State: int(take(1)[0]), Inc: binary.BigEndian.Uint32(take(4)), Addr: address()}
				well = well && r.State <= 3 && r.Addr.IP != 0 && r.Addr.Port != 0
				m.News = append(m.News, r)
			}
		}
	}
	if !well || len(b) != 0 {
		return Msg{}, false
	}
	return m, true
}

// hold: does Get answer of s what is reckoned, and Put of that s?
func hold(t *testing.T, s string) {
	t.Helper()
	want, is := reckon(s)
	e := api.OK
	if !is {
		e = api.ErrForm
	}
	got, told := Get(s)
	if !exact(got, want) || told != e {
		t.Fatalf("%x: %v, %v; want %v, %v", s, got, told, want, e)
	}
	if put, ok := Put(got); ok != is || is && put != s {
		t.Fatalf("%x: put as %x, %v", s, put, ok)
	}
}

// P6.3: of all bytes that are one away from a datagram's - changed, left out, put in between - just those are got that are one.
func TestGetOfChangedBytes(t *testing.T) {
	for _, c := range cases() {
		for place := range len(c.put) + 1 {
			for b := range 256 {
				one := string([]byte{byte(b)})
				hold(t, c.put[:place]+one+c.put[place:])
				if place < len(c.put) {
					hold(t, c.put[:place]+one+c.put[place+1:])
				}
			}
			if place < len(c.put) {
				hold(t, c.put[:place]+c.put[place+1:])
			}
		}
	}
}

// P6.3: a Flag is a byte of 1 or 0, and no other one; of every kind that has it.
func TestGetOfFlag(t *testing.T) {
	for b := range 256 {
		for _, c := range []msgCase{{Msg{Kind: Lease, From: 9}, "\x0a\x09\x00\x00\x00\x00"}, {Msg{Kind: Leased, From: 9}, "\x0b\x09\x00\x00\x00\x00"}, {Msg{Kind: Seen, From: 9, Addr: far}, "\x07\x09\x00\x00\x00\x00\xff\xff\xff\xff\xff\xff"}} {
			s := c.put + string([]byte{byte(b)})
			hold(t, s)
			if b > 1 {
				none(t, s, api.ErrForm)
				continue
			}
			c.msg.Flag = b == 1
			if got, e := Get(s); !exact(got, c.msg) || e != api.OK {
				t.Errorf("%x: %v, %v", s, got, e)
			}
		}
	}
}

// P6.3: Body is as long as its two bytes tell, 1 to 900; News as many as their byte tells, at most what the kind may have.
func TestGetOfLengths(t *testing.T) {
	for _, n := range []int{0, 1, 2, 255, 256, 257, 899, 900, 901, 902, 1015} {
		for _, told := range []int{n - 1, n, n + 1, n % 256, n << 8, 65535} {
			s := "\x05\x01\x00\x00\x00\x00\x01" + string(binary.BigEndian.AppendUint16(nil, uint16(told))) + strings.Repeat("y", n)
			hold(t, s)
			if _, e := Get(s); (e == api.OK) != (told == n && 1 <= n && n <= 900) {
				t.Errorf("%d bytes, told as %d: %v", n, told, e)
			}
		}
	}
	heads := map[string]int{
		"\x01\x01\x00\x00\x00\x00\x01":                                 8,
		"\x02\x01\x00\x00\x00\x00\x00\x0f\x42\x40\x00\x0f\x42\x40":     8,
		"\x03\x01\x00\x00\x00\x00\x01\x00\x00\x00\x01\x00\x01":         8,
		"\x0d\x01\x00\x00\x00\x00\x00\x0f\x42\x40\x00\x0f\x42\x40":     32,
		"\x0e\x01\x00\x00\x00\x00":                                     8,
		"\x0f\x01\x00\x00\x00\x00\x01":                                 32,
		"\x0c\x01\x00\x00\x00\x00":                                     -1,
		"\x10\x01\x00\x00\x00\x00\x01\x00\x00\x00\x01\x00\x01":         -1,
		"\x06\x01\x00\x00\x00\x00\x00\x00\x00\x01\x00\x01\x01":         -1,
		"\x01\x01\x00\x00\x00\x00\x00":                                 -1,
		"\x02\x01\x00\x00\x00\x00\x00\x0f\x42\x40\x00\x1e\x84\x81":     -1,
		"\x0d\x01\x00\x00\x00\x00\x80\x0f\x42\x40\x00\x0f\x42\x40":     -1,
		"\x03\x01\x00\x00\x00\x00\x01\x00\x00\x00\x00\x00\x01":         -1,
		"\x03\x01\x00\x00\x00\x00\x01\x00\x00\x00\x01\x00\x00":         -1,
		"\x03\x01\x00\x00\x00\x00\x21\x00\x00\x00\x01\x00\x01":         -1,
		"\x0d\x21\x00\x00\x00\x00\x00\x0f\x42\x40\x00\x0f\x42\x40":     -1,
		"\x11\x01\x00\x00\x00\x00":                                     -1,
		"\x00\x01\x00\x00\x00\x00":                                     -1,
		"\x0d\x01\x00\x00\x00\x00\x00\x0f\x42\x40\x00\x0f\x42\x40\x00": -1,
	}
	for head, most := range heads {
		for n := range 40 {
			records := ""
			for _, r := range known(n) {
				put, _ := r.Put()
				records += put
			}
			for _, told := range []int{n - 1, n, n + 1, 255} {
				s := head + string([]byte{byte(told)}) + records
				hold(t, s)
				if _, e := Get(s); (e == api.OK) != (told == n && n <= most) {
					t.Errorf("%x, %d records, told as %d: %v", head, n, told, e)
				}
			}
		}
	}
}

// P6.3: the same are those of which every field is; a place by ==, News in order.
func TestSame(t *testing.T) {
	base := Msg{Kind: 1, From: 2, Seq: 3, Node: 4, Addr: home, Place: 5 - 6i, Flag: true, Body: "b", News: known(3)}
	l := []Msg{base, {}}
	for _, change := range []func(m *Msg){
		func(m *Msg) { m.Kind = 2 }, func(m *Msg) { m.Kind = 1<<32 + 1 }, func(m *Msg) { m.From = 0 }, func(m *Msg) { m.From = 258 }, func(m *Msg) { m.Seq = 1<<31 + 3 }, func(m *Msg) { m.Node = -4 },
		func(m *Msg) { m.Addr.IP++ }, func(m *Msg) { m.Addr.Port++ }, func(m *Msg) { m.Place = 5 }, func(m *Msg) { m.Place = -6i }, func(m *Msg) { m.Place = 5.5 - 6i }, func(m *Msg) { m.Flag = false },
		func(m *Msg) { m.Body = "" }, func(m *Msg) { m.Body = "bb" }, func(m *Msg) { m.Body = "c" }, func(m *Msg) { m.News = nil }, func(m *Msg) { m.News = known(2) }, func(m *Msg) { m.News = known(4) },
		func(m *Msg) { m.News[0].ID++ }, func(m *Msg) { m.News[2].State = 0 }, func(m *Msg) { m.News[1].Inc++ }, func(m *Msg) { m.News[2].Addr.IP++ }, func(m *Msg) { m.News[2].Addr.Port++ }, func(m *Msg) { slices.Reverse(m.News) },
	} {
		m := base
		m.News = slices.Clone(base.News)
		change(&m)
		l = append(l, m)
	}
	for i, a := range l {
		for k, b := range l {
			b.News = slices.Clone(b.News)
			if got := Same(a, b); got != (i == k) {
				t.Errorf("%d, %d: %v", i, k, got)
			}
		}
	}
}

// P6.3, P5: -0 is the same as 0, NaN as nothing, a list of nothing as none; also of a Msg that is not right.
func TestSameAtTheEdges(t *testing.T) {
	if !Same(Msg{Place: complex(minus, minus)}, Msg{}) || !Same(Msg{Place: complex(5, minus)}, Msg{Place: 5}) {
		t.Error("-0 is another one than 0")
	}
	odd := Msg{Place: complex(math.NaN(), 0)}
	if Same(odd, odd) || Same(odd, Msg{}) {
		t.Error("NaN is the same as something")
	}
	if !Same(Msg{News: []record.Record{}}, Msg{}) || !Same(Msg{}, Msg{News: known(3)[:0]}) {
		t.Error("a list of nothing is another one than none")
	}
	worst := Msg{Kind: math.MinInt64, From: math.MaxInt64, Node: -1, Place: complex(math.Inf(1), 0.5), News: make([]record.Record, 3)}
	if !Same(worst, worst) {
		t.Error("not the same as itself")
	}
}

// thrower: numbers from 0 to n - 1, thrown by a rule.
func thrower() func(n int) int {
	state := uint64(1)
	return func(n int) int {
		state = state*6364136223846793005 + 1442695040888963407
		return int(state>>33) % n
	}
}

// throwMsg: a right Msg, whose fields are thrown from a few values, so that many are near to one another.
func throwMsg(throw func(n int) int) Msg {
	m := Msg{Kind: throw(16) + 1, From: throw(32) + 1, Seq: uint32(throw(4)) << (8 * throw(4))}
	for _, letter := range has()[m.Kind] {
		switch letter {
		case 'n':
			m.Node = throw(32) + 1
		case 'a':
			m.Addr = addr.Addr{IP: 1<<throw(32) + uint32(throw(2)), Port: 1<<throw(16) | 1}
		case 'p':
			m.Place = complex(float64(throw(7)-3), float64(throw(2000001)-1000000))
		case 'f':
			m.Flag = throw(2) == 1
		case 'b':
			m.Body = strings.Repeat(string([]byte{byte(throw(3))}), throw(5)+1)
		case 'r':
			l := known(40)
			n, from := throw(4), throw(30)
			m.News = l[from : from+n]
		}
	}
	return m
}

// P6.4: what was put is got; two that are not the same have other bytes, and two that are the same have not.
func TestWhatWasPutIsGot(t *testing.T) {
	throw, was := thrower(), map[string]Msg{}
	for range 50000 {
		m := throwMsg(throw)
		put, ok := Put(m)
		got, e := Get(put)
		if !ok || !Right(m) || e != api.OK || !exact(got, m) || !Same(got, m) {
			t.Fatalf("%v: %x, %v; %v, %v", m, put, ok, got, e)
		}
		if other, is := was[put]; is && !Same(other, m) {
			t.Fatalf("%v, %v: both %x", m, other, put)
		}
		was[put] = m
	}
	l := []msgCase{}
	for put, m := range was {
		if l = append(l, msgCase{m, put}); len(l) == 1500 {
			break
		}
	}
	for _, a := range append(l, cases()...) {
		for _, b := range append(l, cases()...) {
			if Same(a.msg, b.msg) != (a.put == b.put) {
				t.Fatalf("%v, %v: %x, %x", a.msg, b.msg, a.put, b.put)
			}
		}
	}
}

// P6.4: of two that == takes for the same place just one has bytes, so that no bytes are of two.
func TestMinusHasNoBytes(t *testing.T) {
	for _, p := range []complex128{complex(minus, 0), complex(0, minus), complex(minus, minus), complex(minus, 7), complex(-7, minus)} {
		for _, kind := range []int{Ack, Join} {
			right(t, Msg{Kind: kind, From: 1, Place: p}, false)
			right(t, Msg{Kind: kind, From: 1, Place: complex(real(p)+0, imag(p)+0)}, true)
		}
	}
}

// P1, P6.3: any bytes are got as they are reckoned; those of a kind, with small numbers, so that some are datagrams.
func TestAnyBytes(t *testing.T) {
	throw, well := thrower(), 0
	for range 150000 {
		b := make([]byte, throw(24))
		for i := range b {
			b[i] = byte(throw(256) >> throw(9))
		}
		if len(b) > 0 {
			b[0] = byte(throw(18))
		}
		hold(t, string(b))
		if _, e := Get(string(b)); e == api.OK {
			well++
		}
	}
	if well < 500 {
		t.Errorf("only %d were datagrams", well)
	}
}

// P1, P6.2: a Msg of any bits has bytes just if it is right, and these are got as it.
func TestAnyMsg(t *testing.T) {
	throw := thrower()
	number := func() int { return []int{throw(40) - 3, 1 << throw(64), -1 << throw(64), throw(256)}[throw(4)] }
	part := func() float64 {
		return []float64{0, minus, float64(throw(9) - 4), math.Float64frombits(uint64(throw(1<<31))<<33 ^ uint64(throw(1<<31)))}[throw(4)]
	}
	for range 100000 {
		m := throwMsg(throw)
		for range throw(3) {
			switch throw(8) {
			case 0:
				m.Kind = number()
			case 1:
				m.From = number()
			case 2:
				m.Node = number()
			case 3:
				m.Addr = addr.Addr{IP: uint32(throw(2)), Port: uint16(throw(2))}
			case 4:
				m.Place = complex(part(), part())
			case 5:
				m.Flag = throw(2) == 1
			case 6:
				m.Body = strings.Repeat("z", []int{0, 1, 900, 901, 65537}[throw(5)])
			case 7:
				m.News = append(known(throw(35)), record.Record{ID: number(), State: throw(5), Addr: home})
			}
		}
		put, ok := Put(m)
		if ok != Right(m) || !ok && put != "" {
			t.Fatalf("%v: %d bytes, %v", m, len(put), ok)
		}
		if got, e := Get(put); ok && (e != api.OK || !exact(got, m)) {
			t.Fatalf("%v: %x, got %v, %v", m, put, got, e)
		}
	}
}

// P3, P4: News that are handed in stay as they are, behind their end too; what is got is new each time, its spare room too.
func TestNewsStay(t *testing.T) {
	room := known(10)
	m := Msg{Kind: Join, From: 1, News: room[:3]}
	put, _ := Put(m)
	Right(m)
	Same(m, m)
	if !slices.Equal(room, known(10)) {
		t.Error(room)
	}
	first, _ := Get(put)
	second, _ := Get(put)
	for i := range first.News[:cap(first.News)] {
		first.News[:cap(first.News)][i] = record.Record{ID: -1}
	}
	first.News = append(first.News, record.Record{ID: -2})
	if !Same(second, m) {
		t.Error(second)
	}
	if third, e := Get(put); !Same(third, m) || e != api.OK {
		t.Error(third, e)
	}
	room[0].ID = 9
	if !slices.Equal(second.News, known(3)) {
		t.Error(second)
	}
}
