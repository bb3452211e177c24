package natbox

import (
	"math"
	"slices"
	"testing"

	"scuttlebutt/addr"
	"scuttlebutt/api"
	"scuttlebutt/draw"
	"scuttlebutt/rule"
)

// boxIP: that of the boxes of these tests.
const boxIP = 0x09000001

// Those inside: two by IP, two by port alone.
var (
	ann  = addr.Addr{IP: 0x0a000001, Port: 7000}
	bob  = addr.Addr{IP: 0x0a000002, Port: 7000}
	anns = addr.Addr{IP: 0x0a000001, Port: 7001}
)

// Those outside: east and east2 have one IP, east and west one port.
var (
	east  = addr.Addr{IP: 0x05000001, Port: 80}
	east2 = addr.Addr{IP: 0x05000001, Port: 81}
	west  = addr.Addr{IP: 0x05000002, Port: 80}
)

// nones: addresses that lead nowhere.
func nones() []addr.Addr {
	return []addr.Addr{{}, {IP: 1}, {Port: 1}, {IP: math.MaxUint32}, {Port: math.MaxUint16}}
}

// late: times that are above the greatest one.
func late() []uint64 { return []uint64{1<<62 + 1, 1 << 63, math.MaxUint64 - 1, math.MaxUint64} }

// types: all nine right ones.
func types() []rule.Type {
	l := []rule.Type{}
	for k := range 9 {
		l = append(l, rule.Type{Map: k / 3, Filter: k % 3})
	}
	return l
}

// made: a new box, that may be.
func made(t *testing.T, kind rule.Type, hold uint64, room int) *Box {
	t.Helper()
	b, e := New(kind, boxIP, hold, room)
	if b == nil || e != api.OK {
		t.Fatalf("New(%v, %d, %d): %v, %d", kind, hold, room, b, e)
	}
	return b
}

// out: Out, that must be OK and of the box's IP; told is the port.
func out(t *testing.T, b *Box, now uint64, src, dst addr.Addr) uint16 {
	t.Helper()
	got, e := b.Out(now, src, dst)
	if e != api.OK || got.IP != b.IP() {
		t.Fatalf("Out(%d, %v, %v): %v, %d", now, src, dst, got, e)
	}
	return got.Port
}

// wantIn: In must be let in to inner.
func wantIn(t *testing.T, b *Box, now uint64, port uint16, src, inner addr.Addr) {
	t.Helper()
	if got, e := b.In(now, port, src); got != inner || e != api.OK {
		t.Errorf("In(%d, %d, %v): %v, %d, want %v", now, port, src, got, e, inner)
	}
}

// wantNoIn: In must be that error, and nothing beside it.
func wantNoIn(t *testing.T, b *Box, now uint64, port uint16, src addr.Addr, want api.Errno) {
	t.Helper()
	if got, e := b.In(now, port, src); got != (addr.Addr{}) || e != want {
		t.Errorf("In(%d, %d, %v): %v, %d, want error %d", now, port, src, got, e, want)
	}
}

// same: are two bindings the same?
func same(x, y Bind) bool {
	return x.Inner == y.Inner && x.Key == y.Key && x.Port == y.Port && x.Until == y.Until && slices.Equal(x.Met, y.Met)
}

// wantBinds: Binds must be these.
func wantBinds(t *testing.T, b *Box, want ...Bind) {
	t.Helper()
	if got := b.Binds(); !slices.EqualFunc(got, want, same) {
		t.Errorf("Binds: %v, want %v", got, want)
	}
}

// wantPorts: the bindings' ports must be these.
func wantPorts(t *testing.T, b *Box, want ...uint16) {
	t.Helper()
	got := []uint16{}
	for _, x := range b.Binds() {
		got = append(got, x.Port)
	}
	if !slices.Equal(got, want) {
		t.Errorf("ports: %v, want %v", got, want)
	}
}

// The chapter's face: the ports.
func TestPorts(t *testing.T) {
	if First != 20000 || Last != 20127 {
		t.Error(First, Last)
	}
}

// P8.1: what may be, at both ends of each argument, is a box as it was asked for, with no bindings.
func TestNew(t *testing.T) {
	for _, kind := range types() {
		for _, ip := range []uint32{1, boxIP, 1 << 31, math.MaxUint32} {
			for _, hold := range []uint64{1, 2, 999999, 1000000} {
				for _, room := range []int{1, 2, 63, 64} {
					b, e := New(kind, ip, hold, room)
					if b == nil || e != api.OK {
						t.Fatalf("%v, %d, %d, %d: %v, %d", kind, ip, hold, room, b, e)
					}
					if b.Type() != kind || b.IP() != ip || len(b.Binds()) != 0 || b.Sweep(math.MaxUint64) != 0 {
						t.Errorf("%v, %d, %d, %d: %v, %d, %v", kind, ip, hold, room, b.Type(), b.IP(), b.Binds())
					}
				}
			}
		}
	}
}

// P8.1, P2, P6: what may not be, by one argument alone, is ErrArg, and no box.
func TestNewWrong(t *testing.T) {
	wrong := func(kind rule.Type, ip uint32, hold uint64, room int) {
		t.Helper()
		if b, e := New(kind, ip, hold, room); b != nil || e != api.ErrArg {
			t.Errorf("%v, %d, %d, %d: %v, %d", kind, ip, hold, room, b, e)
		}
	}
	for _, k := range []int{-1, 3, 4, 256, 1 << 32, math.MaxInt64, math.MinInt64} {
		wrong(rule.Type{Map: k}, boxIP, 10, 8)
		wrong(rule.Type{Filter: k}, boxIP, 10, 8)
		wrong(rule.Type{Map: k, Filter: k}, boxIP, 10, 8)
	}
	wrong(rule.Type{}, 0, 10, 8)
	for _, hold := range []uint64{0, 1000001, 1 << 32, 1<<32 + 1, 1 << 63, math.MaxUint64} {
		wrong(rule.Type{}, boxIP, hold, 8)
	}
	for _, room := range []int{0, -1, -64, 65, 128, 257, 1<<32 + 1, math.MaxInt64, math.MinInt64, math.MinInt64 + 1} {
		wrong(rule.Type{}, boxIP, 10, room)
	}
}

// P8.1: a binding lives below its Until, not at it; just those that don't live go, and are counted.
func TestSweep(t *testing.T) {
	b := made(t, rule.Type{}, 10, 8)
	out(t, b, 5, ann, east)
	out(t, b, 3, bob, east)
	out(t, b, 5, anns, east)
	for _, c := range []struct {
		now   uint64
		went  int
		ports []uint16
	}{
		{0, 0, []uint16{20000, 20001, 20002}},
		{12, 0, []uint16{20000, 20001, 20002}},
		{13, 1, []uint16{20000, 20002}},
		{13, 0, []uint16{20000, 20002}},
		{14, 0, []uint16{20000, 20002}},
		{15, 2, nil},
		{15, 0, nil},
		{0, 0, nil},
	} {
		if got := b.Sweep(c.now); got != c.went {
			t.Errorf("Sweep(%d): %d, want %d", c.now, got, c.went)
		}
		wantPorts(t, b, c.ports...)
	}
}

// P8.1, P6: any 64 bits are a time to Sweep; it goes by Until alone, beyond the greatest time of Out and In too.
func TestSweepLate(t *testing.T) {
	b := made(t, rule.Type{}, 10, 8)
	out(t, b, 1<<62, ann, east)
	if n := b.Sweep(1<<62 + 9); n != 0 {
		t.Error(n)
	}
	wantPorts(t, b, 20000)
	if n := b.Sweep(1<<62 + 10); n != 1 {
		t.Error(n)
	}
	for _, now := range late() {
		out(t, b, 0, ann, east)
		if n := b.Sweep(now); n != 1 || len(b.Binds()) != 0 {
			t.Error(now, n, b.Binds())
		}
	}
}

// P8.2: by Map, what goes by one binding; a new one has all that it is made of.
func TestOutByMap(t *testing.T) {
	for k, want := range [][]Bind{
		{{ann, addr.Addr{}, 20000, []addr.Addr{east, east2, west}, 12}},
		{{ann, addr.Addr{IP: east.IP}, 20000, []addr.Addr{east, east2}, 11}, {ann, addr.Addr{IP: west.IP}, 20001, []addr.Addr{west}, 12}},
		{{ann, east, 20000, []addr.Addr{east}, 10}, {ann, east2, 20001, []addr.Addr{east2}, 11}, {ann, west, 20002, []addr.Addr{west}, 12}},
	} {
		for filter := range 3 {
			b := made(t, rule.Type{Map: k, Filter: filter}, 10, 8)
			for now, dst := range []addr.Addr{east, east2, west} {
				out(t, b, uint64(now), ann, dst)
			}
			wantBinds(t, b, want...)
		}
	}
}

// P8.2: who is inside counts by IP and by Port: each has bindings of its own, also of one Key.
func TestOutByInner(t *testing.T) {
	for _, kind := range types() {
		b := made(t, kind, 10, 8)
		key := rule.Key(kind, east)
		for round := range uint64(2) {
			for k, src := range []addr.Addr{ann, bob, anns} {
				if port := out(t, b, round, src, east); port != uint16(20000+k) {
					t.Errorf("%v, %v: %d", kind, src, port)
				}
			}
		}
		met := []addr.Addr{east}
		wantBinds(t, b, Bind{ann, key, 20000, met, 11}, Bind{bob, key, 20001, met, 11}, Bind{anns, key, 20002, met, 11})
	}
}

// P8.2: src and dst are any addresses that are not None, of one and the same too, or of the box's own IP.
func TestOutAnyAddress(t *testing.T) {
	ends := []addr.Addr{{IP: 1, Port: 1}, {IP: math.MaxUint32, Port: math.MaxUint16}, {IP: boxIP, Port: 20000}, {IP: boxIP, Port: 20001}}
	b := made(t, rule.Type{Map: rule.Both, Filter: rule.Both}, 10, 64)
	port := uint16(20000)
	for _, src := range ends {
		for _, dst := range ends {
			if got := out(t, b, 0, src, dst); got != port {
				t.Errorf("%v, %v: %d, want %d", src, dst, got, port)
			}
			wantIn(t, b, 0, port, dst, src)
			port++
		}
	}
}

// P8.2: the chapter's example.
func TestOutFirst(t *testing.T) {
	for _, kind := range types() {
		if got, e := made(t, kind, 1, 1).Out(0, ann, east); got != (addr.Addr{IP: boxIP, Port: 20000}) || e != api.OK {
			t.Error(kind, got, e)
		}
	}
}

// P8.2: a port that is free again is taken again, the lowest first.
func TestOutLowestPort(t *testing.T) {
	b := made(t, rule.Type{Map: rule.Both}, 10, 64)
	to := func(k int) addr.Addr { return addr.Addr{IP: uint32(k + 1), Port: 1} }
	for k := range 6 {
		out(t, b, 0, ann, to(k))
	}
	// All but 20000, 20002 and 20005 end at 10.
	for _, k := range []int{0, 2, 5} {
		out(t, b, 5, ann, to(k))
	}
	for k, want := range []uint16{20001, 20003, 20004, 20006, 20007} {
		if got := out(t, b, 10, ann, to(10+k)); got != want {
			t.Errorf("%d: %d, want %d", k, got, want)
		}
	}
	wantPorts(t, b, 20000, 20001, 20002, 20003, 20004, 20005, 20006, 20007)
}

// P8.2: Until is now and hold, of a binding that was there too, and where it comes earlier than before.
func TestOutUntil(t *testing.T) {
	met := []addr.Addr{east}
	for _, hold := range []uint64{1, 10, 1000000} {
		b := made(t, rule.Type{}, hold, 8)
		for _, now := range []uint64{100, 100, 99 + hold, 50, 0, 1 << 40, 1 << 62} {
			out(t, b, now, ann, east)
			wantBinds(t, b, Bind{ann, addr.Addr{}, 20000, met, now + hold})
		}
	}
}

// P8.2: dst is the last of Met, but where it is in it already: there it stays.
func TestOutMet(t *testing.T) {
	b := made(t, rule.Type{}, 10, 8)
	for _, c := range []struct {
		dst  addr.Addr
		want []addr.Addr
	}{
		{east, []addr.Addr{east}},
		{east, []addr.Addr{east}},
		{west, []addr.Addr{east, west}},
		{east, []addr.Addr{east, west}},
		{east2, []addr.Addr{east, west, east2}},
		{west, []addr.Addr{east, west, east2}},
		{east, []addr.Addr{east, west, east2}},
	} {
		out(t, b, 0, ann, c.dst)
		wantBinds(t, b, Bind{ann, addr.Addr{}, 20000, c.want, 10})
	}
}

// P8.2: of above 16 the first goes, and is met anew as the last; of 16 none goes.
func TestOutMetRoom(t *testing.T) {
	b := made(t, rule.Type{}, 10, 8)
	met := func(from, to int) []addr.Addr {
		l := []addr.Addr{}
		for k := from; k <= to; k++ {
			l = append(l, addr.Addr{IP: 60, Port: uint16(k)})
		}
		return l
	}
	for k := 1; k <= 100; k++ {
		out(t, b, 0, ann, addr.Addr{IP: 60, Port: uint16(k)})
		wantBinds(t, b, Bind{ann, addr.Addr{}, 20000, met(max(1, k-15), k), 10})
	}
	for k := 85; k <= 100; k++ {
		out(t, b, 0, ann, addr.Addr{IP: 60, Port: uint16(k)})
		wantBinds(t, b, Bind{ann, addr.Addr{}, 20000, met(85, 100), 10})
	}
	out(t, b, 0, ann, addr.Addr{IP: 60, Port: 84})
	wantBinds(t, b, Bind{ann, addr.Addr{}, 20000, append(met(86, 100), addr.Addr{IP: 60, Port: 84}), 10})
}

// P8.2: who went from Met passes no more, where the filter goes by it.
func TestOutMetGoneDoesNotPass(t *testing.T) {
	b := made(t, rule.Type{Filter: rule.Both}, 10, 8)
	for k := range uint16(17) {
		out(t, b, 0, ann, addr.Addr{IP: 60, Port: k + 1})
	}
	wantNoIn(t, b, 0, 20000, addr.Addr{IP: 60, Port: 1}, api.ErrNone)
	wantIn(t, b, 0, 20000, addr.Addr{IP: 60, Port: 2}, ann)
	wantIn(t, b, 0, 20000, addr.Addr{IP: 60, Port: 17}, ann)
}

// P8.2, T3: where there are room, the one with the least Until goes, and its port is free for the new one.
func TestOutFull(t *testing.T) {
	b := made(t, rule.Type{}, 10, 3)
	carl := addr.Addr{IP: 0x0a000003, Port: 7000}
	dora := addr.Addr{IP: 0x0a000004, Port: 7000}
	out(t, b, 2, ann, east)
	out(t, b, 1, bob, east)
	out(t, b, 3, anns, east)
	if port := out(t, b, 4, carl, west); port != 20001 {
		t.Error(port)
	}
	wantBinds(t, b, Bind{ann, addr.Addr{}, 20000, []addr.Addr{east}, 12}, Bind{carl, addr.Addr{}, 20001, []addr.Addr{west}, 14}, Bind{anns, addr.Addr{}, 20002, []addr.Addr{east}, 13})
	// One that is there asks for no room.
	if port := out(t, b, 5, ann, west); port != 20000 {
		t.Error(port)
	}
	wantBinds(t, b, Bind{ann, addr.Addr{}, 20000, []addr.Addr{east, west}, 15}, Bind{carl, addr.Addr{}, 20001, []addr.Addr{west}, 14}, Bind{anns, addr.Addr{}, 20002, []addr.Addr{east}, 13})
	if port := out(t, b, 6, dora, east); port != 20002 {
		t.Error(port)
	}
	wantBinds(t, b, Bind{ann, addr.Addr{}, 20000, []addr.Addr{east, west}, 15}, Bind{carl, addr.Addr{}, 20001, []addr.Addr{west}, 14}, Bind{dora, addr.Addr{}, 20002, []addr.Addr{east}, 16})
}

// P8.2: of the same Until the one with the lowest Port goes, whoever was made, or used, first.
func TestOutFullSameUntil(t *testing.T) {
	b := made(t, rule.Type{Map: rule.Both}, 10, 4)
	to := func(k int) addr.Addr { return addr.Addr{IP: uint32(k + 1), Port: 1} }
	for k := range 4 {
		out(t, b, 5, ann, to(k))
	}
	out(t, b, 0, ann, to(3))
	out(t, b, 0, ann, to(1))
	out(t, b, 0, ann, to(2))
	// 20000 ends last at first; then all end at one time again, and it is the lowest.
	for k, want := range []uint16{20001, 20002, 20003, 20000, 20000} {
		if got := out(t, b, 6, ann, to(10+k)); got != want {
			t.Errorf("%d: %d, want %d", k, got, want)
		}
	}
}

// P8.2: what isn't live goes ahead of what would go for want of room.
func TestOutSweepsFirst(t *testing.T) {
	b := made(t, rule.Type{Map: rule.Both}, 10, 3)
	out(t, b, 0, ann, east)
	out(t, b, 1, ann, east2)
	out(t, b, 1, ann, west)
	out(t, b, 2, ann, east2)
	other := addr.Addr{IP: 1, Port: 1}
	if port := out(t, b, 11, ann, other); port != 20000 {
		t.Error(port)
	}
	wantBinds(t, b, Bind{ann, other, 20000, []addr.Addr{other}, 21}, Bind{ann, east2, 20001, []addr.Addr{east2}, 12})
}

// P8.2: a binding that isn't live at now is none: a new one is made, that met nobody.
func TestOutEnded(t *testing.T) {
	b := made(t, rule.Type{}, 10, 8)
	out(t, b, 0, bob, east)
	out(t, b, 0, ann, east)
	out(t, b, 9, ann, west)
	wantBinds(t, b, Bind{bob, addr.Addr{}, 20000, []addr.Addr{east}, 10}, Bind{ann, addr.Addr{}, 20001, []addr.Addr{east, west}, 19})
	if port := out(t, b, 18, ann, east2); port != 20001 {
		t.Error(port)
	}
	if port := out(t, b, 28, ann, west); port != 20000 {
		t.Error(port)
	}
	wantBinds(t, b, Bind{ann, addr.Addr{}, 20000, []addr.Addr{west}, 38})
}

// P8.2, T3: a box of one has just that, and a box of 64 never more; all ports are from First on.
func TestOutRoom(t *testing.T) {
	for _, room := range []int{1, 2, 63, 64} {
		b := made(t, rule.Type{Map: rule.Both}, 1000000, room)
		for k := range 300 {
			want := uint16(First + k%room)
			if got := out(t, b, uint64(k), ann, addr.Addr{IP: uint32(k + 1), Port: 1}); got != want {
				t.Fatalf("room %d, %d: %d, want %d", room, k, got, want)
			}
			if n := len(b.Binds()); n != min(room, k+1) {
				t.Fatalf("room %d, %d: %d", room, k, n)
			}
		}
	}
}

// wantSame: what is done must leave the bindings, and the IP, as they were.
func wantSame(t *testing.T, b *Box, do func()) {
	t.Helper()
	was, ip := b.Binds(), b.IP()
	do()
	wantBinds(t, b, was...)
	if b.IP() != ip {
		t.Errorf("IP: %d, want %d", b.IP(), ip)
	}
}

// P8.2, P2, P6: an address that is None, or a time above 2^62, is ErrArg: nothing is made, met or swept.
func TestOutWrong(t *testing.T) {
	b := made(t, rule.Type{}, 10, 2)
	out(t, b, 0, ann, east)
	out(t, b, 5, bob, east)
	wrong := func(now uint64, src, dst addr.Addr) {
		t.Helper()
		wantSame(t, b, func() {
			if got, e := b.Out(now, src, dst); got != (addr.Addr{}) || e != api.ErrArg {
				t.Errorf("Out(%d, %v, %v): %v, %d", now, src, dst, got, e)
			}
		})
	}
	for _, none := range nones() {
		for _, now := range []uint64{0, 5, 1000, 1 << 62} {
			wrong(now, none, west)
			wrong(now, ann, none)
			wrong(now, none, none)
		}
	}
	for _, now := range late() {
		wrong(now, ann, west)
		wrong(now, addr.Addr{}, addr.Addr{})
	}
	if port := out(t, b, 1<<62, ann, west); port != 20000 {
		t.Error(port)
	}
}

// P8.3: who passes is told the Inner of just the binding that has the port, by Filter.
func TestInByFilter(t *testing.T) {
	for _, c := range []struct {
		src  addr.Addr
		want string
	}{
		{east, "yyy"},
		{east2, "yy-"},
		{west, "y--"},
		{addr.Addr{IP: 80, Port: 80}, "y--"},
		{addr.Addr{IP: math.MaxUint32, Port: math.MaxUint16}, "y--"},
		{ann, "y--"},
		{addr.Addr{IP: boxIP, Port: 20000}, "y--"},
	} {
		for filter := range 3 {
			for m := range 3 {
				b := made(t, rule.Type{Map: m, Filter: filter}, 10, 8)
				out(t, b, 0, ann, east)
				out(t, b, 0, bob, addr.Addr{IP: 77, Port: 77})
				if c.want[filter] == 'y' {
					wantIn(t, b, 0, 20000, c.src, ann)
				} else {
					wantNoIn(t, b, 0, 20000, c.src, api.ErrNone)
				}
			}
		}
	}
}

// P8.3: each port leads to its own; at a port that no binding has there is nobody, whatever the filter.
func TestInByPort(t *testing.T) {
	for _, kind := range types() {
		b := made(t, kind, 10, 8)
		out(t, b, 0, ann, east)
		out(t, b, 0, bob, east)
		out(t, b, 0, anns, east)
		wantIn(t, b, 0, 20000, east, ann)
		wantIn(t, b, 0, 20001, east, bob)
		wantIn(t, b, 0, 20002, east, anns)
		for _, port := range []uint16{0, 1, 80, 7000, 19999, 20003, 20127, 20128, math.MaxUint16} {
			wantSame(t, b, func() { wantNoIn(t, b, 0, port, east, api.ErrNone) })
		}
	}
}

// P8.3: nothing comes in to a box that nobody sent through.
func TestInNew(t *testing.T) {
	for _, kind := range types() {
		b := made(t, kind, 10, 8)
		for _, port := range []uint16{0, First, Last, math.MaxUint16} {
			wantNoIn(t, b, 0, port, east, api.ErrNone)
		}
	}
}

// P8.3: what comes in has the binding hold anew, and nobody is met by it; what doesn't come in changes nothing.
func TestInUntil(t *testing.T) {
	b := made(t, rule.Type{Filter: rule.Host}, 10, 8)
	met := []addr.Addr{east}
	out(t, b, 0, ann, east)
	out(t, b, 0, bob, east)
	other := Bind{bob, addr.Addr{}, 20001, met, 10}
	wantIn(t, b, 5, 20000, east2, ann)
	wantBinds(t, b, Bind{ann, addr.Addr{}, 20000, met, 15}, other)
	wantNoIn(t, b, 9, 20000, west, api.ErrNone)
	wantBinds(t, b, Bind{ann, addr.Addr{}, 20000, met, 15}, other)
	// Earlier than before too.
	wantIn(t, b, 3, 20000, east, ann)
	wantBinds(t, b, Bind{ann, addr.Addr{}, 20000, met, 13}, other)
	wantIn(t, b, 9, 20001, east, bob)
	wantBinds(t, b, Bind{ann, addr.Addr{}, 20000, met, 13}, Bind{bob, addr.Addr{}, 20001, met, 19})
}

// P8.3: what isn't live at now lets nobody in, and goes, whatever the call answers.
func TestInSweepsFirst(t *testing.T) {
	b := made(t, rule.Type{}, 10, 8)
	out(t, b, 0, ann, east)
	out(t, b, 5, bob, east)
	out(t, b, 9, anns, east)
	wantIn(t, b, 9, 20000, east, ann)
	wantNoIn(t, b, 15, 20001, east, api.ErrNone)
	wantPorts(t, b, 20000, 20002)
	wantNoIn(t, b, 19, 1, east, api.ErrNone)
	wantPorts(t, b)
	out(t, b, 20, ann, east)
	out(t, b, 25, bob, east)
	wantIn(t, b, 30, 20001, east, bob)
	wantPorts(t, b, 20001)
}

// P8.3, P2, P6: a src that is None, or a time above 2^62, is ErrArg: nothing is held longer, or swept; 2^62 is a time.
func TestInWrong(t *testing.T) {
	b := made(t, rule.Type{}, 10, 8)
	out(t, b, 0, ann, east)
	for _, port := range []uint16{0, 20000, 20001} {
		for _, none := range nones() {
			for _, now := range []uint64{0, 5, 1000, 1 << 62} {
				wantSame(t, b, func() { wantNoIn(t, b, now, port, none, api.ErrArg) })
			}
		}
		for _, now := range late() {
			wantSame(t, b, func() { wantNoIn(t, b, now, port, east, api.ErrArg) })
			wantSame(t, b, func() { wantNoIn(t, b, now, port, addr.Addr{}, api.ErrArg) })
		}
	}
	out(t, b, 1<<62, ann, east)
	wantIn(t, b, 1<<62, 20000, west, ann)
	wantBinds(t, b, Bind{ann, addr.Addr{}, 20000, []addr.Addr{east}, 1<<62 + 10})
	wantNoIn(t, b, 1<<62, 20001, west, api.ErrNone)
}

// P8.3: Rebind takes all bindings, of the same IP too, and the IP is the one that Out tells; the rest stays.
func TestRebind(t *testing.T) {
	kind := rule.Type{Map: rule.Host, Filter: rule.Any}
	b := made(t, kind, 10, 2)
	for _, ip := range []uint32{7, 7, boxIP, 1, math.MaxUint32} {
		out(t, b, 0, ann, east)
		out(t, b, 0, ann, west)
		if e := b.Rebind(ip); e != api.OK || b.IP() != ip || b.Type() != kind || len(b.Binds()) != 0 {
			t.Errorf("%d: %d, %d, %v, %v", ip, e, b.IP(), b.Type(), b.Binds())
		}
		wantNoIn(t, b, 0, 20000, east, api.ErrNone)
		if got, e := b.Out(3, bob, west); got != (addr.Addr{IP: ip, Port: 20000}) || e != api.OK {
			t.Errorf("%d: %v, %d", ip, got, e)
		}
		wantBinds(t, b, Bind{bob, addr.Addr{IP: west.IP}, 20000, []addr.Addr{west}, 13})
		out(t, b, 3, ann, east)
		if port := out(t, b, 4, ann, west); port != 20000 {
			t.Errorf("%d: room is %d", ip, len(b.Binds()))
		}
	}
	if e := made(t, kind, 10, 2).Rebind(7); e != api.OK {
		t.Error(e)
	}
}

// P8.3, P2: IP 0 is ErrArg, and nothing changes.
func TestRebindWrong(t *testing.T) {
	b := made(t, rule.Type{}, 10, 2)
	out(t, b, 0, ann, east)
	wantSame(t, b, func() {
		if e := b.Rebind(0); e != api.ErrArg {
			t.Error(e)
		}
	})
	wantIn(t, b, 0, 20000, east, ann)
}

// P8.3, P3: Binds is new memory, with its spare room, and no two lists of it share any.
func TestBindsIsNew(t *testing.T) {
	b := made(t, rule.Type{Map: rule.Host}, 10, 8)
	for _, dst := range []addr.Addr{east, east2, west} {
		out(t, b, 0, ann, dst)
	}
	want, spoilt := b.Binds(), b.Binds()
	for k := range spoilt {
		l := spoilt[k].Met[:cap(spoilt[k].Met)]
		for i := range l {
			l[i] = addr.Addr{IP: 666, Port: 666}
		}
		if other := spoilt[1-k].Met; k == 0 && other[0] != west {
			t.Error(other)
		}
	}
	wantBinds(t, b, want...)
	whole := spoilt[:cap(spoilt)]
	for k := range whole {
		whole[k] = Bind{Port: 666}
	}
	wantBinds(t, b, want...)
	out(t, b, 0, ann, addr.Addr{IP: west.IP, Port: 9})
	out(t, b, 0, ann, addr.Addr{IP: 9, Port: 9})
	if len(want) != 2 || len(want[1].Met) != 1 || want[1].Met[0] != west {
		t.Error("an earlier answer changed:", want)
	}
}

// letsThrough: does what one behind x sends to the address that one behind y has
// toward third get in, when y's sends to the address that x's has toward it?
func letsThrough(t *testing.T, x, y rule.Type, third addr.Addr) bool {
	t.Helper()
	boxX, boxY := made(t, x, 10, 8), made(t, y, 10, 8)
	if e := boxY.Rebind(boxIP + 1); e != api.OK {
		t.Fatal(e)
	}
	// Another one goes ahead, so that the ports of the two are not the same.
	out(t, boxX, 0, anns, west)
	fromX := addr.Addr{IP: boxX.IP(), Port: out(t, boxX, 0, ann, third)}
	fromY := addr.Addr{IP: boxY.IP(), Port: out(t, boxY, 0, bob, third)}
	out(t, boxY, 1, bob, fromX)
	src := addr.Addr{IP: boxX.IP(), Port: out(t, boxX, 1, ann, fromY)}
	inner, e := boxY.In(2, fromY.Port, src)
	if e == api.OK && inner != bob {
		t.Errorf("%v, %v: %v", x, y, inner)
	}
	return e == api.OK
}

// P8.4: of all pairs of types two boxes let through just what Through tells.
func TestThrough(t *testing.T) {
	for _, x := range types() {
		for _, y := range types() {
			for _, third := range []addr.Addr{east, east2, {IP: 1, Port: 1}, {IP: math.MaxUint32, Port: math.MaxUint16}} {
				if got, want := letsThrough(t, x, y, third), rule.Through(x, y); got != want {
					t.Errorf("%s, %s, %v: %v, want %v", rule.Word(x), rule.Word(y), third, got, want)
				}
			}
		}
	}
}

// plain is a box done otherwise, word by word as the chapter tells it: by port, in no order.
type plain struct {
	kind rule.Type
	ip   uint32
	hold uint64
	room int
	have map[uint16]Bind
}

// sweep: Sweep.
func (p *plain) sweep(now uint64) int {
	went := 0
	for port := uint16(First); port <= Last; port++ {
		if x, ok := p.have[port]; ok && now >= x.Until {
			delete(p.have, port)
			went++
		}
	}
	return went
}

// key: what a binding goes by, beside who is inside.
func (p *plain) key(dst addr.Addr) addr.Addr {
	return [...]addr.Addr{{}, {IP: dst.IP}, dst}[p.kind.Map]
}

// makeRoom: where there are room, the one goes whose end is least, and of these the lowest.
func (p *plain) makeRoom() {
	if len(p.have) < p.room {
		return
	}
	least, end := uint16(0), uint64(math.MaxUint64)
	for port := uint16(Last); port >= First; port-- {
		if x, ok := p.have[port]; ok && x.Until <= end {
			least, end = port, x.Until
		}
	}
	delete(p.have, least)
}

// port: that of the binding of inner and key, or of a new one.
func (p *plain) port(inner, key addr.Addr) uint16 {
	for port, x := range p.have {
		if x.Inner == inner && x.Key == key {
			return port
		}
	}
	p.makeRoom()
	for port := uint16(First); port <= Last; port++ {
		if _, ok := p.have[port]; !ok {
			p.have[port] = Bind{Inner: inner, Key: key, Port: port}
			return port
		}
	}
	return 0
}

// out: Out, of what may be.
func (p *plain) out(now uint64, src, dst addr.Addr) addr.Addr {
	p.sweep(now)
	port := p.port(src, p.key(dst))
	x := p.have[port]
	x.Until = now + p.hold
	if !slices.Contains(x.Met, dst) {
		x.Met = append(slices.Clone(x.Met), dst)
	}
	x.Met = x.Met[max(0, len(x.Met)-16):]
	p.have[port] = x
	return addr.Addr{IP: p.ip, Port: port}
}

// in: In, of what may be.
func (p *plain) in(now uint64, port uint16, src addr.Addr) (addr.Addr, bool) {
	p.sweep(now)
	x, ok := p.have[port]
	met := p.kind.Filter == rule.Any
	for _, a := range x.Met {
		met = met || a.IP == src.IP && (p.kind.Filter == rule.Host || a.Port == src.Port)
	}
	if !ok || !met {
		return addr.Addr{}, false
	}
	x.Until = now + p.hold
	p.have[port] = x
	return x.Inner, true
}

// binds: Binds.
func (p *plain) binds() []Bind {
	l := []Bind{}
	for port := uint16(First); port <= Last; port++ {
		if x, ok := p.have[port]; ok {
			l = append(l, x)
		}
	}
	return l
}

// play does to a box, and to a plain one, what is drawn, and holds them against each other.
type play struct {
	s   draw.Stream
	b   *Box
	p   *plain
	now uint64
}

// below draws a number below n.
func (g *play) below(n int) int {
	k, s := g.s.Below(n)
	g.s = s
	return k
}

// peer draws an address of few IPs and few ports.
func (g *play) peer(ip uint32) addr.Addr {
	return addr.Addr{IP: ip + uint32(g.below(4)), Port: uint16(1 + g.below(8))}
}

// pass draws how far the time goes on, seldom back.
func (g *play) pass() {
	g.now += uint64(g.below(3))
	if g.below(30) == 0 {
		g.now -= min(g.now, uint64(g.below(20)))
	}
	if g.below(60) == 0 {
		g.now += g.p.hold
	}
}

// step does one thing, and answers whether both did the same.
func (g *play) step() bool {
	g.pass()
	switch k := g.below(100); {
	case k < 60:
		src, dst := g.peer(10), g.peer(50)
		got, e := g.b.Out(g.now, src, dst)
		return e == api.OK && got == g.p.out(g.now, src, dst)
	case k < 95:
		port, src := uint16(First+g.below(g.p.room+1)), g.peer(50)
		got, e := g.b.In(g.now, port, src)
		want, ok := g.p.in(g.now, port, src)
		return got == want && (e == api.OK && ok || e == api.ErrNone && !ok)
	case k < 99:
		return g.b.Sweep(g.now) == g.p.sweep(g.now)
	}
	g.p.ip++
	clear(g.p.have)
	return g.b.Rebind(g.p.ip) == api.OK && g.b.IP() == g.p.ip
}

// P8.1 to P8.3: of all types, of many rooms and holds, whatever is done, a box does as the plain one.
func TestAsThePlainOne(t *testing.T) {
	for k, kind := range types() {
		for _, room := range []int{1, 2, 7, 64} {
			for _, hold := range []uint64{1, 20, 1000} {
				g := play{s: draw.New(uint64(k*1000+room)*7919 + hold), b: made(t, kind, hold, room)}
				g.p = &plain{kind, boxIP, hold, room, map[uint16]Bind{}}
				for i := range 1000 {
					if ok := g.step(); !ok || !slices.EqualFunc(g.b.Binds(), g.p.binds(), same) {
						t.Fatalf("%v, room %d, hold %d, step %d, now %d: %v, want %v", kind, room, hold, i, g.now, g.b.Binds(), g.p.binds())
					}
				}
			}
		}
	}
}

// P4: two boxes to which the same is done are the same, and neither has anything of the other.
func TestSameAgain(t *testing.T) {
	kind := rule.Type{Map: rule.Host, Filter: rule.Host}
	boxes := [2]*Box{made(t, kind, 20, 5), made(t, kind, 20, 5)}
	g := play{s: draw.New(99), b: boxes[0], p: &plain{kind, boxIP, 20, 5, map[uint16]Bind{}}}
	for range 500 {
		g.pass()
		src, dst := g.peer(10), g.peer(50)
		first, e := boxes[0].Out(g.now, src, dst)
		second, f := boxes[1].Out(g.now, src, dst)
		if first != second || e != api.OK || f != api.OK {
			t.Fatal(first, second, e, f)
		}
		wantBinds(t, boxes[0], boxes[1].Binds()...)
	}
}
