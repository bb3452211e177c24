package record

import (
	"encoding/binary"
	"math"
	"slices"
	"strings"
	"testing"

	"scuttlebutt/addr"
	"scuttlebutt/api"
)

// home: an address that is not None.
var home = addr.Addr{IP: 0x0a000001, Port: 80}

// recordCase: a record, and its bytes, written by hand.
type recordCase struct {
	record Record
	put    string
}

// cases: ordinary records that are right, and those of which a part is at its end.
func cases() []recordCase {
	return []recordCase{
		{Record{ID: 1, State: Alive, Inc: 0, Addr: home}, "\x01\x00\x00\x00\x00\x00\x0a\x00\x00\x01\x00\x50"},
		{Record{ID: 2, State: Suspect, Inc: 1, Addr: home}, "\x02\x01\x00\x00\x00\x01\x0a\x00\x00\x01\x00\x50"},
		{Record{ID: 17, State: Dead, Inc: 0x01020304, Addr: addr.Addr{IP: 0x05060708, Port: 0x090a}}, "\x11\x02\x01\x02\x03\x04\x05\x06\x07\x08\x09\x0a"},
		{Record{ID: 31, State: Left, Inc: 0xf1e2d3c4, Addr: addr.Addr{IP: 0xb5a69788, Port: 0x796a}}, "\x1f\x03\xf1\xe2\xd3\xc4\xb5\xa6\x97\x88\x79\x6a"},
		{Record{ID: 1, State: Alive, Inc: 0, Addr: addr.Addr{IP: 1, Port: 1}}, "\x01\x00\x00\x00\x00\x00\x00\x00\x00\x01\x00\x01"},
		{Record{ID: 32, State: Left, Inc: math.MaxUint32, Addr: addr.Addr{IP: math.MaxUint32, Port: math.MaxUint16}}, "\x20\x03\xff\xff\xff\xff\xff\xff\xff\xff\xff\xff"},
		{Record{ID: 32, State: Alive, Inc: math.MaxUint32, Addr: addr.Addr{IP: 1 << 31, Port: 1 << 15}}, "\x20\x00\xff\xff\xff\xff\x80\x00\x00\x00\x80\x00"},
		{Record{ID: 3, State: Dead, Inc: 1 << 31, Addr: addr.Addr{IP: 1 << 24, Port: 256}}, "\x03\x02\x80\x00\x00\x00\x01\x00\x00\x00\x01\x00"},
		{Record{ID: 4, State: Suspect, Inc: 256, Addr: addr.Addr{IP: 256, Port: 255}}, "\x04\x01\x00\x00\x01\x00\x00\x00\x01\x00\x00\xff"},
	}
}

// notRight: records that nearly are right; of each just one part is amiss, but of the last ones.
func notRight() []Record {
	l := []Record{}
	for _, id := range []int{0, -1, -31, -32, 33, 34, 255, 256, 257, 1<<32 + 1, 1<<63 - 31, math.MaxInt64, math.MinInt64, math.MinInt64 + 1} {
		l = append(l, Record{ID: id, State: Alive, Inc: 7, Addr: home})
	}
	for _, state := range []int{-1, -2, -4, 4, 5, 255, 256, 257, 1 << 32, 1<<32 + 1, math.MaxInt64, math.MinInt64, math.MinInt64 + 3} {
		l = append(l, Record{ID: 1, State: state, Inc: 7, Addr: home})
	}
	for _, a := range []addr.Addr{{}, {IP: 1}, {IP: math.MaxUint32}, {Port: 1}, {Port: math.MaxUint16}} {
		l = append(l, Record{ID: 1, State: Alive, Inc: 7, Addr: a})
	}
	return append(l, Record{}, Record{ID: 1}, Record{State: Left}, Record{Inc: math.MaxUint32}, Record{Addr: home}, Record{ID: 33, State: 4})
}

// The chapter's face: the states are these numbers.
func TestStates(t *testing.T) {
	if states := [...]int{Alive, Suspect, Dead, Left}; states != [...]int{0, 1, 2, 3} {
		t.Error(states)
	}
}

// P4.1: right are the IDs 1 to MaxNodes, the states 0 to 3, and an address that is not None, whatever the Inc.
func TestRight(t *testing.T) {
	for id := 1; id <= api.MaxNodes; id++ {
		for state := 0; state <= 3; state++ {
			for _, inc := range []uint32{0, 1, 1 << 31, math.MaxUint32} {
				for _, a := range []addr.Addr{home, {IP: 1, Port: 1}, {IP: math.MaxUint32, Port: math.MaxUint16}} {
					if r := (Record{ID: id, State: state, Inc: inc, Addr: a}); !Right(r) {
						t.Errorf("%v: not right", r)
					}
				}
			}
		}
	}
	for _, c := range cases() {
		if !Right(c.record) {
			t.Errorf("%v: not right", c.record)
		}
	}
}

// P4.1, P6: what has an ID, a State or an Addr beside these is not right, of any 64 bits.
func TestNotRight(t *testing.T) {
	for _, r := range notRight() {
		if Right(r) {
			t.Errorf("%v: right", r)
		}
	}
	for n := -1000; n <= 1000; n++ {
		if got, want := Right(Record{ID: n, Addr: home}), 1 <= n && n <= 32; got != want {
			t.Errorf("ID %d: %v", n, got)
		}
		if got, want := Right(Record{ID: 1, State: n, Addr: home}), 0 <= n && n <= 3; got != want {
			t.Errorf("State %d: %v", n, got)
		}
	}
}

// rising: records, each over all that stand ahead of it: the Inc weighs more than the State, and that more than the Addr; some are not right.
func rising() []Record {
	low, high := addr.Addr{IP: 1, Port: 1}, addr.Addr{IP: math.MaxUint32, Port: math.MaxUint16}
	return []Record{
		{State: math.MinInt64, Addr: high}, {State: -1, Addr: low},
		{State: Alive}, {State: Alive, Addr: addr.Addr{Port: math.MaxUint16}}, {State: Alive, Addr: low}, {State: Alive, Addr: addr.Addr{IP: 1, Port: 2}}, {State: Alive, Addr: addr.Addr{IP: 2, Port: 1}}, {State: Alive, Addr: high},
		{State: Suspect, Addr: low}, {State: Suspect, Addr: high}, {State: Dead, Addr: low}, {State: Dead, Addr: high}, {State: Left, Addr: low}, {State: Left, Addr: high},
		{State: 4, Addr: low}, {State: math.MaxInt64}, {State: math.MaxInt64, Addr: high},
		{Inc: 1, State: math.MinInt64}, {Inc: 1, State: Alive, Addr: low}, {Inc: 1, State: Alive, Addr: high}, {Inc: 1, State: Left, Addr: low}, {Inc: 1, State: math.MaxInt64, Addr: high},
		{Inc: 2, State: Alive, Addr: low}, {Inc: 255, State: Left}, {Inc: 256, State: Alive},
		{Inc: 1<<31 - 1, State: Dead, Addr: high}, {Inc: 1 << 31, State: Alive, Addr: low}, {Inc: math.MaxUint32 - 1, State: Left, Addr: high},
		{Inc: math.MaxUint32, State: Alive, Addr: low}, {Inc: math.MaxUint32, State: Left, Addr: high},
	}
}

// named: r, of the node id.
func named(r Record, id int) Record {
	r.ID = id
	return r
}

// P4.1: by Inc, then by State, then by Addr, of any two; the ID does not count.
func TestOrder(t *testing.T) {
	ids := []int{1, 2, 32, 0, -1, math.MaxInt64, math.MinInt64}
	for i, x := range rising() {
		for k, y := range rising() {
			want := 0
			if i < k {
				want = -1
			} else if i > k {
				want = 1
			}
			for _, id := range ids {
				a, b := named(x, id), named(y, ids[(i+k)%len(ids)])
				if got := Order(a, b); got != want {
					t.Errorf("Order(%v, %v): %d, want %d", a, b, got, want)
				}
			}
		}
	}
	l := rising()
	slices.Reverse(l)
	slices.SortFunc(l, Order)
	if !slices.Equal(l, rising()) {
		t.Errorf("sorted: %v", l)
	}
}

// P4.1: over is what stands later; nothing is over itself.
func TestOver(t *testing.T) {
	for i, a := range rising() {
		for k, b := range rising() {
			if got := Over(a, b); got != (i > k) {
				t.Errorf("Over(%v, %v): %v", a, b, got)
			}
		}
	}
	alive, dead := Record{ID: 5, State: Alive, Inc: 2, Addr: home}, Record{ID: 5, State: Dead, Inc: 1, Addr: home}
	if !Over(alive, dead) || Over(dead, alive) {
		t.Error("alive 2 is not over dead 1")
	}
}

// P4.1: joined, the one that is over the other one stays; of two that are as one in Order the second, whatever the IDs.
func TestJoin(t *testing.T) {
	for i, x := range rising() {
		for k, y := range rising() {
			a, b := named(x, 3), named(y, 9)
			want := b
			if i > k {
				want = a
			}
			if got := Join(a, b); got != want {
				t.Errorf("Join(%v, %v): %v", a, b, got)
			}
		}
	}
}

// P4.1: live are alive and suspect alone, whatever else the record has.
func TestLive(t *testing.T) {
	for _, r := range []Record{{}, {ID: 1, Inc: 7, Addr: home}, {ID: -1, Inc: math.MaxUint32}} {
		for state, want := range map[int]bool{
			Alive: true, Suspect: true, Dead: false, Left: false, 4: false, 5: false, 256: false, 257: false, 1 << 32: false, 1<<32 + 1: false,
			-1: false, -2: false, math.MaxInt64: false, math.MinInt64: false, math.MinInt64 + 1: false,
		} {
			r.State = state
			if got := r.Live(); got != want {
				t.Errorf("%v: %v", r, got)
			}
		}
	}
}

// P4.2: a byte of ID, a byte of State, four of Inc, six of Addr.
func TestPut(t *testing.T) {
	for _, c := range cases() {
		if got, ok := c.record.Put(); got != c.put || !ok {
			t.Errorf("%v: %x, %v; want %x", c.record, got, ok, c.put)
		}
	}
}

// P4.2, P2: what is not right has no bytes.
func TestPutOfNotRight(t *testing.T) {
	for _, r := range notRight() {
		if got, ok := r.Put(); got != "" || ok {
			t.Errorf("%v: %x, %v", r, got, ok)
		}
	}
}

// P4.2: the record that the bytes begin with, and what stands behind it, whatever that is.
func TestGet(t *testing.T) {
	for _, c := range cases() {
		for _, rest := range []string{"", "\x00", "\xff", "more", c.put, c.put[:11], strings.Repeat("\x00", 12), strings.Repeat("\xff", 5000)} {
			if got, behind, ok := Get(c.put + rest); got != c.record || behind != rest || !ok {
				t.Errorf("%x: %v, %x, %v", c.put+rest, got, behind, ok)
			}
		}
	}
}

// nothing: does Get answer that s begins with no record?
func nothing(t *testing.T, s string) {
	t.Helper()
	if got, rest, ok := Get(s); got != (Record{}) || rest != "" || ok {
		t.Errorf("%x: %v, %x, %v", s, got, rest, ok)
	}
}

// P4.2, P2: less than twelve bytes are no record, whatever they are.
func TestGetOfShort(t *testing.T) {
	for _, c := range cases() {
		for cut := range len(c.put) {
			nothing(t, c.put[:cut])
		}
	}
	for n := range 12 {
		for _, b := range []string{"\x00", "\x01", "\x03", "\xff"} {
			nothing(t, strings.Repeat(b, n))
		}
	}
}

// reckon: the record that s begins with, and what is behind it, by another way than the program's.
func reckon(s string) (Record, string, bool) {
	if len(s) < 12 || s[0] == 0 || s[0] > 32 || s[1] > 3 || s[6:10] == "\x00\x00\x00\x00" || s[10:12] == "\x00\x00" {
		return Record{}, "", false
	}
	b := []byte(s)
	a := addr.Addr{IP: binary.BigEndian.Uint32(b[6:]), Port: binary.BigEndian.Uint16(b[10:])}
	return Record{ID: int(b[0]), State: int(b[1]), Inc: binary.BigEndian.Uint32(b[2:]), Addr: a}, s[12:], true
}

// hold: does Get answer of s what is reckoned, and is what it got put as it stood there?
func hold(t *testing.T, s string) {
	t.Helper()
	want, behind, is := reckon(s)
	got, rest, ok := Get(s)
	if got != want || rest != behind || ok != is {
		t.Errorf("%x: %v, %x, %v; want %v, %x, %v", s, got, rest, ok, want, behind, is)
	}
	if put, right := got.Put(); ok && (put+rest != s || !right) {
		t.Errorf("%x: put as %x, %v", s, put, right)
	}
}

// P4.2: of all bytes that are one away from a record's - changed, left out, put in between - just those are got that are right.
func TestGetOfChangedBytes(t *testing.T) {
	for _, c := range cases() {
		for place := range len(c.put) + 1 {
			for b := range 256 {
				one := string([]byte{byte(b)})
				hold(t, c.put[:place]+one+c.put[place:])
				if place < len(c.put) {
					hold(t, c.put[:place]+one+c.put[place+1:])
					hold(t, c.put[:place]+one+c.put[place+1:]+"behind")
				}
			}
			if place < len(c.put) {
				hold(t, c.put[:place]+c.put[place+1:])
				hold(t, c.put[:place]+c.put[place+1:]+"b")
			}
		}
	}
}

// P4.2: of all IDs and States in bytes just the right ones are got.
func TestGetOfAllIDsAndStates(t *testing.T) {
	for id := range 256 {
		for state := range 256 {
			hold(t, string([]byte{byte(id), byte(state)})+"\x00\x00\x00\x07\x0a\x00\x00\x01\x00\x50rest")
		}
	}
}

// P4.2: an address that is None is no record's, be it by its IP or by its Port.
func TestGetOfNoAddress(t *testing.T) {
	const head = "\x01\x00\x00\x00\x00\x07"
	for _, a := range []string{"\x00\x00\x00\x00\x00\x00", "\x00\x00\x00\x00\x00\x01", "\x00\x00\x00\x00\xff\xff", "\x00\x00\x00\x01\x00\x00", "\xff\xff\xff\xff\x00\x00"} {
		nothing(t, head+a)
		nothing(t, head+a+"rest")
		nothing(t, head+a+head+"\x0a\x00\x00\x01\x00\x50")
	}
}

// P4.2: the four words, and nothing of what is no state.
func TestWord(t *testing.T) {
	for state, want := range map[int]string{
		Alive: "alive", Suspect: "suspect", Dead: "dead", Left: "left",
		4: "", 5: "", -1: "", -4: "", 256: "", 1 << 32: "", 1<<32 + 3: "", math.MaxInt64: "", math.MinInt64: "", math.MinInt64 + 1: "",
	} {
		if got := Word(state); got != want {
			t.Errorf("%d: %q, want %q", state, got, want)
		}
	}
}

// joined: all of l, joined one after another.
func joined(l []Record) Record {
	got := l[0]
	for _, r := range l[1:] {
		got = Join(got, r)
	}
	return got
}

// orders: hands out each order of l in turn.
func orders(l []Record, from int, use func([]Record)) {
	if from == len(l) {
		use(l)
		return
	}
	for i := from; i < len(l); i++ {
		l[from], l[i] = l[i], l[from]
		orders(l, from+1, use)
		l[from], l[i] = l[i], l[from]
	}
}

// P4.3: records of one node, joined in whatever order, in whatever pairs, and however often, come to the one that is over all others.
func TestJoinedInWhateverOrder(t *testing.T) {
	far := addr.Addr{IP: 0x0a000002, Port: 79}
	sets := [][]Record{
		{{ID: 4, State: Alive, Inc: 1, Addr: home}, {ID: 4, State: Alive, Inc: 1, Addr: far}, {ID: 4, State: Suspect, Inc: 1, Addr: home}, {ID: 4, State: Dead, Inc: 1, Addr: home}, {ID: 4, State: Alive, Inc: 2, Addr: home}, {ID: 4, State: Alive, Inc: 2, Addr: far}},
		{{ID: 4, State: Left, Inc: 1, Addr: far}, {ID: 4, State: Dead, Inc: 3, Addr: home}, {ID: 4, State: Left, Inc: 3, Addr: home}},
		{{ID: 4, State: -1, Inc: 9}, {ID: 4, State: 4, Inc: 9}, {ID: 4, State: 4, Inc: 9, Addr: home}, {ID: 4, State: Alive, Inc: math.MaxUint32}},
		{{ID: 4, State: Alive, Addr: home}},
	}
	for _, set := range sets {
		want := set[len(set)-1]
		orders(slices.Clone(set), 0, func(l []Record) {
			twice := append(slices.Clone(l), l...)
			back := slices.Clone(l)
			slices.Reverse(back)
			half := len(l) / 2
			if half > 0 && Join(joined(l[:half]), joined(l[half:])) != want {
				t.Errorf("%v: in halves %v", l, Join(joined(l[:half]), joined(l[half:])))
			}
			for _, m := range [][]Record{l, twice, append(twice, back...)} {
				if got := joined(m); got != want {
					t.Errorf("%v: %v, want %v", m, got, want)
				}
			}
		})
	}
}

// P4.3: of any of one node, Join takes no heed of which is first, nor of which two are joined first, and takes each record for itself.
func TestJoinIsOfNoOrder(t *testing.T) {
	for _, a := range rising() {
		if Join(a, a) != a {
			t.Errorf("%v, itself: %v", a, Join(a, a))
		}
		for _, b := range rising() {
			if Join(a, b) != Join(b, a) {
				t.Errorf("%v, %v: %v, %v", a, b, Join(a, b), Join(b, a))
			}
			for _, c := range rising() {
				if Join(Join(a, b), c) != Join(a, Join(b, c)) {
					t.Errorf("%v, %v, %v: %v, %v", a, b, c, Join(Join(a, b), c), Join(a, Join(b, c)))
				}
			}
		}
	}
}

// again: is r got, of what was put of it?
func again(t *testing.T, r Record) {
	t.Helper()
	put, right := r.Put()
	if got, rest, ok := Get(put + "\x01"); got != r || rest != "\x01" || !ok || !right || len(put) != 12 {
		t.Errorf("%v: put %x, %v; got %v, %x, %v", r, put, right, got, rest, ok)
	}
}

// P4.3: what was put is got: of every ID and State, every byte in every place, and of many records.
func TestWhatWasPutIsGot(t *testing.T) {
	inc, ip, port := uint32(1), uint32(1), uint16(1)
	for range 100 {
		for id := 1; id <= api.MaxNodes; id++ {
			for state := Alive; state <= Left; state++ {
				inc, ip, port = inc*1664525+1013904223, ip*22695477+12345, port*25173+13849
				again(t, Record{ID: id, State: state, Inc: inc, Addr: addr.Addr{IP: max(ip, 1), Port: max(port, 1)}})
			}
		}
	}
	for b := range uint32(256) {
		for shift := 0; shift < 32; shift += 8 {
			again(t, Record{ID: 9, Inc: b << shift, Addr: home})
			again(t, Record{ID: 9, Inc: ^(b << shift), Addr: addr.Addr{IP: ^(b << shift), Port: ^uint16(b)}})
		}
	}
}

// P4.3: records that were put one behind another are got in that order, until nothing is left.
func TestPutOneBehindAnother(t *testing.T) {
	all := strings.Builder{}
	for _, c := range cases() {
		put, _ := c.record.Put()
		all.WriteString(put)
	}
	s := all.String()
	for _, c := range cases() {
		got, rest, ok := Get(s)
		if got != c.record || !ok {
			t.Fatalf("%v, %v; want %v", got, ok, c.record)
		}
		s = rest
	}
	if s != "" {
		t.Errorf("%x is left", s)
	}
	nothing(t, s)
}
