package net

import (
	"math"
	"reflect"
	"slices"
	"strings"
	"testing"

	"scuttlebutt/addr"
	"scuttlebutt/api"
	"scuttlebutt/bag"
	"scuttlebutt/natbox"
	"scuttlebutt/rule"
)

// Where the hosts of these tests are: ann and amy behind no box, bob and bea, of
// one IP, behind the first one, cat behind the second; and zoe is nobody's.
var (
	ann = addr.Addr{IP: 0x05000001, Port: 7000}
	amy = addr.Addr{IP: 0x05000002, Port: 7000}
	bob = addr.Addr{IP: 0x0a000003, Port: 7000}
	bea = addr.Addr{IP: 0x0a000003, Port: 7001}
	cat = addr.Addr{IP: 0x0a000005, Port: 7000}
	zoe = addr.Addr{IP: 0x06000001, Port: 7000}
)

// Their numbers.
const (
	annID = 1
	amyID = 2
	bobID = 3
	beaID = 4
	catID = 5
)

// The IPs of the two boxes, and one that is nobody's.
const (
	east = 0x09000001
	west = 0x09000002
	free = 0x09000003
)

// five: the hosts.
func five() []Host {
	return []Host{{ann, 0}, {amy, 0}, {bob, 1}, {bea, 1}, {cat, 2}}
}

// spec: a box that may be: it gives one port to one inside, and lets in who was met by IP.
func spec(ip uint32) BoxSpec {
	return BoxSpec{Type: rule.Type{Map: rule.Any, Filter: rule.Host}, IP: ip, Hold: 10, Room: 4}
}

// strict: likewise, but all of it goes by whole addresses.
func strict(ip uint32) BoxSpec {
	return BoxSpec{Type: rule.Type{Map: rule.Both, Filter: rule.Both}, IP: ip, Hold: 20, Room: 2}
}

// two: the boxes.
func two() []BoxSpec { return []BoxSpec{spec(east), strict(west)} }

// nones: addresses that lead nowhere.
func nones() []addr.Addr {
	return []addr.Addr{{}, {IP: 1}, {Port: 1}, {IP: math.MaxUint32}, {Port: math.MaxUint16}}
}

// late: times that are above the greatest one.
func late() []uint64 { return []uint64{1<<62 + 1, 1 << 63, math.MaxUint64 - 1, math.MaxUint64} }

// notIDs: numbers that are no host's, and no box's, of a net of as many.
func notIDs(n int) []int {
	return []int{0, -1, -n, n + 1, n + 2, n + 1<<32, 1 << 32, math.MaxInt64, math.MinInt64, math.MinInt64 + 1}
}

// minus: picks that are below 0.
func minus() []int { return []int{-1, -2, -256, -1 << 32, math.MinInt64 + 1, math.MinInt64} }

// made: New, that must be OK.
func made(t *testing.T, hosts []Host, boxes []BoxSpec, room int) *Net {
	t.Helper()
	n, e := New(hosts, boxes, room)
	if n == nil || e != api.OK {
		t.Fatalf("New(%v, %v, %d): %v, %d", hosts, boxes, room, n, e)
	}
	return n
}

// fresh: a net of the five hosts and the two boxes.
func fresh(t *testing.T, room int) *Net {
	t.Helper()
	return made(t, five(), two(), room)
}

// wantE: e must be that error.
func wantE(t *testing.T, e, want api.Errno) {
	t.Helper()
	if e != want {
		t.Errorf("error %d, want %d", e, want)
	}
}

// state: all that is to be seen of a net.
type state struct {
	items []bag.Item
	ips   []uint32
	types []rule.Type
	binds [][]natbox.Bind
}

// stateOf: that of n.
func stateOf(n *Net) state {
	s := state{items: n.Bag().Items()}
	for k := 1; n.Box(k) != nil; k++ {
		s.ips = append(s.ips, n.Box(k).IP())
		s.types = append(s.types, n.Box(k).Type())
		s.binds = append(s.binds, n.Box(k).Binds())
	}
	return s
}

// stays: what is done must be that error, and leave n as it was.
func stays(t *testing.T, n *Net, want api.Errno, do func() api.Errno) {
	t.Helper()
	was := stateOf(n)
	wantE(t, do(), want)
	if is := stateOf(n); !reflect.DeepEqual(is, was) {
		t.Errorf("%v, want %v", is, was)
	}
}

// wantItems: what is under way must be these.
func wantItems(t *testing.T, n *Net, want ...bag.Item) {
	t.Helper()
	if got := n.Bag().Items(); !slices.Equal(got, want) {
		t.Errorf("under way: %v, want %v", got, want)
	}
}

// wantBinds: the bindings of that box must be these.
func wantBinds(t *testing.T, n *Net, box int, want ...natbox.Bind) {
	t.Helper()
	got := n.Box(box).Binds()
	if len(got) == 0 && len(want) == 0 {
		return
	}
	if !reflect.DeepEqual(got, want) {
		t.Errorf("box %d: %v, want %v", box, got, want)
	}
}

// arrives: what is delivered first at now must be that.
func arrives(t *testing.T, n *Net, now uint64, want Arrival) {
	t.Helper()
	if got, e := n.Deliver(now, 0); got != want || e != api.OK {
		t.Errorf("Deliver(%d): %v, %d, want %v", now, got, e, want)
	}
}

// reaches: what is injected at now, from and to there, must arrive at that host one later.
func reaches(t *testing.T, n *Net, now uint64, from, to addr.Addr, host int) {
	t.Helper()
	wantE(t, n.Inject(now, from, to, "x"), api.OK)
	arrives(t, n, now+1, Arrival{host, from, "x"})
}

// P20.1: a net of hosts and boxes has nothing under way, the boxes by their numbers, as they were told, with no bindings.
func TestNew(t *testing.T) {
	n := fresh(t, 3)
	wantItems(t, n)
	for k, x := range two() {
		b := n.Box(k + 1)
		if b == nil || b.IP() != x.IP || b.Type() != x.Type || len(b.Binds()) != 0 {
			t.Errorf("box %d: %v, want %v", k+1, b, x)
		}
	}
	for k, x := range five() {
		wantE(t, n.Send(0, k+1, zoe, "x"), api.OK)
		if x.Box == 0 {
			arrives(t, n, 1, Arrival{0, x.Inner, "x"})
			continue
		}
		binds := n.Box(x.Box).Binds()
		last := binds[len(binds)-1]
		if last.Inner != x.Inner || last.Until != two()[x.Box-1].Hold {
			t.Errorf("host %d: %v", k+1, last)
		}
		arrives(t, n, 1, Arrival{0, addr.Addr{IP: two()[x.Box-1].IP, Port: last.Port}, "x"})
	}
}

// P20.1: of a box's room just as many bindings are, and of that of the net just as many are under way.
func TestNewRoom(t *testing.T) {
	for _, room := range []int{1, 2, 255, 256} {
		n := fresh(t, room)
		for range room {
			wantE(t, n.Send(0, annID, amy, "x"), api.OK)
		}
		stays(t, n, api.ErrFull, func() api.Errno { return n.Send(0, annID, amy, "x") })
	}
	for _, room := range []int{1, 2, 63, 64} {
		x := strict(east)
		x.Room = room
		n := made(t, []Host{{bob, 1}}, []BoxSpec{x}, 256)
		for k := range room + 1 {
			wantE(t, n.Send(0, 1, addr.Addr{IP: 1, Port: uint16(k + 1)}, "x"), api.OK)
		}
		if got := len(n.Box(1).Binds()); got != room {
			t.Errorf("%d bindings, want %d", got, room)
		}
	}
}

// many: as many hosts, of one IP, behind no box.
func many(n int) []Host {
	l := []Host{}
	for k := range n {
		l = append(l, Host{Inner: addr.Addr{IP: 1, Port: uint16(k + 1)}})
	}
	return l
}

// boxes: as many boxes, of IPs from 100 on.
func boxes(n int) []BoxSpec {
	l := []BoxSpec{}
	for k := range n {
		l = append(l, spec(uint32(100+k)))
	}
	return l
}

// P20.1: 1 to 32 hosts may be, and up to 16 boxes, behind the last of which a host may stand.
func TestNewMost(t *testing.T) {
	for _, hosts := range []int{1, 2, 31, 32} {
		for _, k := range []int{0, 1, 15, 16} {
			l := many(hosts)
			l[hosts-1].Box = k
			n := made(t, l, boxes(k), 4)
			if n.Box(k+1) != nil || k > 0 && n.Box(k).IP() != uint32(99+k) {
				t.Errorf("%d hosts, %d boxes", hosts, k)
			}
			wantE(t, n.Send(0, hosts, zoe, "x"), api.OK)
			wantE(t, n.Send(0, hosts+1, zoe, "x"), api.ErrArg)
			from := l[hosts-1].Inner
			if k > 0 {
				from = addr.Addr{IP: uint32(99 + k), Port: 20000}
			}
			wantItems(t, n, bag.Item{From: from, To: zoe, Bytes: "x", At: 1})
		}
	}
	made(t, many(1), nil, 1)
}

// wrongNew: New must be ErrArg, and no net.
func wrongNew(t *testing.T, what string, hosts []Host, boxes []BoxSpec, room int) {
	t.Helper()
	if n, e := New(hosts, boxes, room); n != nil || e != api.ErrArg {
		t.Errorf("%s: %v, %d", what, n, e)
	}
}

// P20.1, P2, and the chapter's example: too few or too many hosts or boxes, and a room that may not be, are ErrArg.
func TestNewHowMany(t *testing.T) {
	wrongNew(t, "no hosts", nil, nil, 1)
	wrongNew(t, "no hosts, but boxes", []Host{}, two(), 1)
	for _, n := range []int{33, 34, 64, 1000} {
		wrongNew(t, "hosts", many(n), nil, 1)
	}
	for _, n := range []int{17, 18, 32, 1000} {
		wrongNew(t, "boxes", many(1), boxes(n), 1)
	}
	for _, room := range []int{0, -1, -256, 257, 1024, 1<<32 + 1, math.MaxInt64, math.MinInt64} {
		wrongNew(t, "room", five(), two(), room)
	}
}

// P20.1: an Inner that is None, or comes twice, wherever, is ErrArg; of one IP or one Port alone they may be.
func TestNewInner(t *testing.T) {
	for k := range five() {
		for _, none := range nones() {
			l := five()
			l[k].Inner = none
			wrongNew(t, "none", l, two(), 1)
		}
		for j := range five() {
			l := five()
			l[k].Inner = l[j].Inner
			if k == j {
				made(t, l, two(), 1)
				continue
			}
			wrongNew(t, "twice", l, two(), 1)
		}
	}
}

// P20.1, P6: a host's Box is 0 to how many there are, or it is ErrArg.
func TestNewBoxOf(t *testing.T) {
	for k := range five() {
		for _, box := range notIDs(2)[1:] {
			l := five()
			l[k].Box = box
			wrongNew(t, "box", l, two(), 1)
		}
		for box := range 3 {
			l := five()
			l[k].Box = box
			made(t, l, two(), 1)
		}
	}
	wrongNew(t, "of none", []Host{{ann, 1}}, nil, 1)
}

// P20.1: a box that may not be is ErrArg, wherever it stands, also where nobody is behind it.
func TestNewBoxWrong(t *testing.T) {
	for _, set := range []func(x *BoxSpec){
		func(x *BoxSpec) { x.Type.Map = 3 },
		func(x *BoxSpec) { x.Type.Map = -1 },
		func(x *BoxSpec) { x.Type.Filter = 3 },
		func(x *BoxSpec) { x.Type.Filter = math.MinInt64 },
		func(x *BoxSpec) { x.IP = 0 },
		func(x *BoxSpec) { x.Hold = 0 },
		func(x *BoxSpec) { x.Hold = 1000001 },
		func(x *BoxSpec) { x.Hold = math.MaxUint64 },
		func(x *BoxSpec) { x.Room = 0 },
		func(x *BoxSpec) { x.Room = -1 },
		func(x *BoxSpec) { x.Room = 65 },
		func(x *BoxSpec) { x.Room = math.MaxInt64 },
		func(x *BoxSpec) { *x = BoxSpec{} },
	} {
		for k := range 3 {
			l := append(two(), spec(free))
			set(&l[k])
			wrongNew(t, "box", five(), l, 1)
		}
	}
	x := BoxSpec{IP: math.MaxUint32, Hold: 1000000, Room: 64}
	made(t, five(), append(two(), x), 1)
	x = BoxSpec{IP: 1, Hold: 1, Room: 1}
	made(t, five(), append(two(), x), 1)
}

// P20.1: a box's IP that comes twice, or is that of a host's Inner, behind whatever, is ErrArg.
func TestNewBoxIP(t *testing.T) {
	for k := range 3 {
		for j := range 3 {
			l := append(two(), spec(free))
			l[k].IP = l[j].IP
			if k != j {
				wrongNew(t, "twice", five(), l, 1)
			}
		}
		for _, x := range five() {
			l := append(two(), spec(free))
			l[k].IP = x.Inner.IP
			wrongNew(t, "a host's", five(), l, 1)
		}
	}
}

// P3: what is handed in to New is neither written into nor kept.
func TestNewKeepsNothing(t *testing.T) {
	hosts, specs := five(), two()
	n := made(t, hosts, specs, 4)
	if !slices.Equal(hosts, five()) || !slices.Equal(specs, two()) {
		t.Error(hosts, specs)
	}
	for k := range hosts {
		hosts[k] = Host{zoe, 2}
	}
	clear(specs)
	wantE(t, n.Send(0, annID, amy, "x"), api.OK)
	wantE(t, n.Send(0, bobID, amy, "y"), api.OK)
	arrives(t, n, 1, Arrival{amyID, ann, "x"})
	arrives(t, n, 1, Arrival{amyID, addr.Addr{IP: east, Port: 20000}, "y"})
}

// P20.2: what a host with no box sends comes from its Inner, one later, whole and as it was.
func TestSend(t *testing.T) {
	n := fresh(t, 8)
	want := []bag.Item{}
	for _, x := range []struct {
		now   uint64
		host  int
		from  addr.Addr
		to    addr.Addr
		bytes string
	}{
		{0, annID, ann, amy, "a"},
		{7, amyID, amy, ann, "\x00\xff"},
		{3, annID, ann, ann, "a"},
		{3, annID, ann, zoe, strings.Repeat("x", 1024)},
		{3, amyID, amy, bob, "b"},
		{1<<62 - 1, amyID, amy, addr.Addr{IP: 1, Port: 1}, "c"},
		{1 << 62, annID, ann, addr.Addr{IP: math.MaxUint32, Port: math.MaxUint16}, "d"},
	} {
		wantE(t, n.Send(x.now, x.host, x.to, x.bytes), api.OK)
		want = append(want, bag.Item{From: x.from, To: x.to, Bytes: x.bytes, At: x.now + 1})
		wantItems(t, n, want...)
	}
	wantBinds(t, n, 1)
	wantBinds(t, n, 2)
}

// P20.2: what a host with a box sends comes from what Out of that box tells, of its Inner and where it goes.
func TestSendBox(t *testing.T) {
	n := fresh(t, 8)
	e0, e1 := addr.Addr{IP: east, Port: 20000}, addr.Addr{IP: east, Port: 20001}
	w0, w1 := addr.Addr{IP: west, Port: 20000}, addr.Addr{IP: west, Port: 20001}
	want := []bag.Item{}
	for _, x := range []struct {
		now  uint64
		host int
		from addr.Addr
		to   addr.Addr
	}{{0, bobID, e0, ann}, {1, beaID, e1, ann}, {2, catID, w0, ann}, {3, bobID, e0, amy}, {4, catID, w1, amy}, {5, catID, w0, ann}, {6, beaID, e1, e0}} {
		wantE(t, n.Send(x.now, x.host, x.to, "x"), api.OK)
		want = append(want, bag.Item{From: x.from, To: x.to, Bytes: "x", At: x.now + 1})
		wantItems(t, n, want...)
	}
	wantBinds(t, n, 1,
		natbox.Bind{Inner: bob, Port: 20000, Met: []addr.Addr{ann, amy}, Until: 13},
		natbox.Bind{Inner: bea, Port: 20001, Met: []addr.Addr{ann, e0}, Until: 16})
	wantBinds(t, n, 2,
		natbox.Bind{Inner: cat, Key: ann, Port: 20000, Met: []addr.Addr{ann}, Until: 25},
		natbox.Bind{Inner: cat, Key: amy, Port: 20001, Met: []addr.Addr{amy}, Until: 24})
}

// P20.2: at the greatest time too; and a binding that is over then goes.
func TestSendBoxLate(t *testing.T) {
	n := fresh(t, 2)
	wantE(t, n.Send(0, beaID, ann, "x"), api.OK)
	wantE(t, n.Send(1<<62, bobID, ann, "y"), api.OK)
	wantItems(t, n,
		bag.Item{From: addr.Addr{IP: east, Port: 20000}, To: ann, Bytes: "x", At: 1},
		bag.Item{From: addr.Addr{IP: east, Port: 20000}, To: ann, Bytes: "y", At: 1<<62 + 1})
	wantBinds(t, n, 1, natbox.Bind{Inner: bob, Port: 20000, Met: []addr.Addr{ann}, Until: 1<<62 + 10})
}

// wrongs: bytes that may be, and that may not.
func wrongs() []string { return []string{"x", "", strings.Repeat("x", 1025)} }

// P20.2, P2, P6: no such host, a To that is None, or a time above 2^62 is ErrArg, ahead of all else, and neither box nor bag changes.
func TestSendWrong(t *testing.T) {
	for _, room := range []int{8, 3} {
		n := fresh(t, room)
		for _, host := range []int{annID, bobID, catID} {
			wantE(t, n.Send(0, host, amy, "x"), api.OK)
		}
		for _, bytes := range wrongs() {
			for _, host := range notIDs(5) {
				stays(t, n, api.ErrArg, func() api.Errno { return n.Send(1, host, ann, bytes) })
			}
			for host := annID; host <= catID; host++ {
				for _, none := range nones() {
					stays(t, n, api.ErrArg, func() api.Errno { return n.Send(50, host, none, bytes) })
				}
				for _, now := range late() {
					stays(t, n, api.ErrArg, func() api.Errno { return n.Send(now, host, ann, bytes) })
				}
			}
		}
	}
}

// P20.2: Put's error: of nothing, and of too much, ErrLong, ahead of ErrFull; behind no box all stays.
func TestSendPut(t *testing.T) {
	n := fresh(t, 1)
	for _, bytes := range []string{"", strings.Repeat("x", 1025), strings.Repeat("ä", 513)} {
		stays(t, n, api.ErrLong, func() api.Errno { return n.Send(1, annID, amy, bytes) })
	}
	wantE(t, n.Send(1, annID, amy, "x"), api.OK)
	stays(t, n, api.ErrLong, func() api.Errno { return n.Send(1, annID, amy, "") })
	stays(t, n, api.ErrFull, func() api.Errno { return n.Send(1, annID, amy, "y") })
}

// P20.2: what the box has made, and swept, by then stays so, whatever Put tells.
func TestSendPutBox(t *testing.T) {
	for _, c := range []struct {
		bytes string
		want  api.Errno
	}{{"", api.ErrLong}, {strings.Repeat("x", 1025), api.ErrLong}, {"x", api.ErrFull}} {
		n := fresh(t, 1)
		wantE(t, n.Send(0, beaID, ann, "a"), api.OK)
		was := n.Bag().Items()
		wantE(t, n.Send(12, bobID, amy, c.bytes), c.want)
		wantBinds(t, n, 1, natbox.Bind{Inner: bob, Port: 20000, Met: []addr.Addr{amy}, Until: 22})
		wantE(t, n.Send(13, bobID, ann, c.bytes), c.want)
		wantBinds(t, n, 1, natbox.Bind{Inner: bob, Port: 20000, Met: []addr.Addr{amy, ann}, Until: 23})
		wantItems(t, n, was...)
		wantBinds(t, n, 2)
	}
}

// P20.2: what is injected is as it says, one later, from wherever, and no box has made anything of it.
func TestInject(t *testing.T) {
	n := fresh(t, 8)
	want := []bag.Item{}
	for k, x := range []struct {
		now      uint64
		from, to addr.Addr
	}{{0, ann, amy}, {5, zoe, ann}, {4, bob, cat}, {1<<62 - 1, zoe, zoe}, {1 << 62, addr.Addr{IP: 1, Port: 1}, addr.Addr{IP: math.MaxUint32, Port: math.MaxUint16}}} {
		bytes := strings.Repeat("x", 1+k*1023/4)
		wantE(t, n.Inject(x.now, x.from, x.to, bytes), api.OK)
		want = append(want, bag.Item{From: x.from, To: x.to, Bytes: bytes, At: x.now + 1})
		wantItems(t, n, want...)
	}
	wantBinds(t, n, 1)
	wantBinds(t, n, 2)
}

// P20.2, P2: a time above 2^62 is ErrArg ahead of all, then Put's errors, and all stays.
func TestInjectWrong(t *testing.T) {
	full := fresh(t, 1)
	wantE(t, full.Send(1, bobID, ann, "x"), api.OK)
	for _, n := range []*Net{fresh(t, 1), full} {
		for _, bytes := range wrongs() {
			for _, now := range late() {
				stays(t, n, api.ErrArg, func() api.Errno { return n.Inject(now, ann, amy, bytes) })
			}
			for _, none := range nones() {
				stays(t, n, api.ErrArg, func() api.Errno { return n.Inject(60, none, amy, bytes) })
				stays(t, n, api.ErrArg, func() api.Errno { return n.Inject(60, ann, none, bytes) })
			}
		}
		for _, bytes := range wrongs()[1:] {
			stays(t, n, api.ErrLong, func() api.Errno { return n.Inject(60, ann, amy, bytes) })
		}
	}
	stays(t, full, api.ErrFull, func() api.Errno { return full.Inject(60, ann, amy, "x") })
}

// P20.3: what is sent to the Inner of a host with no box arrives there, from when it is ready on.
func TestDeliver(t *testing.T) {
	n := fresh(t, 8)
	wantE(t, n.Send(4, annID, amy, "x"), api.OK)
	for _, now := range []uint64{0, 3, 4} {
		stays(t, n, api.ErrNone, func() api.Errno {
			got, e := n.Deliver(now, 0)
			if got != (Arrival{}) {
				t.Error(got)
			}
			return e
		})
	}
	arrives(t, n, 5, Arrival{amyID, ann, "x"})
	wantItems(t, n)
	reaches(t, n, 5, zoe, ann, annID)
	reaches(t, n, 5, amy, amy, amyID)
	reaches(t, n, 1<<62, bob, amy, amyID)
	wantE(t, n.Inject(0, ann, amy, "late"), api.OK)
	arrives(t, n, math.MaxUint64, Arrival{amyID, ann, "late"})
}

// P20.3: who is taken is picked of those that are ready; it alone goes.
func TestDeliverPick(t *testing.T) {
	for pick, want := range []string{"a", "c", "d", "a", "c", "d"} {
		n := fresh(t, 8)
		l := []bag.Item{{From: ann, To: amy, Bytes: "a", At: 1}, {From: ann, To: amy, Bytes: "b", At: 3}, {From: zoe, To: amy, Bytes: "c", At: 1}, {From: ann, To: amy, Bytes: "d", At: 2}}
		for _, x := range l {
			wantE(t, n.Inject(x.At-1, x.From, x.To, x.Bytes), api.OK)
		}
		k := slices.IndexFunc(l, func(x bag.Item) bool { return x.Bytes == want })
		if got, e := n.Deliver(2, pick); got != (Arrival{amyID, l[k].From, want}) || e != api.OK {
			t.Error(pick, got, e)
		}
		wantItems(t, n, slices.Delete(l, k, k+1)...)
	}
}

// P20.3, P2, P6: Take's errors: a pick below 0 is ErrArg, nothing ready ErrNone; no box sweeps then.
func TestDeliverWrong(t *testing.T) {
	n := fresh(t, 8)
	wantE(t, n.Send(0, bobID, ann, "x"), api.OK)
	wantE(t, n.Delay(0, 1<<62), api.OK)
	wrong := func(now uint64, pick int, want api.Errno) {
		t.Helper()
		stays(t, n, want, func() api.Errno {
			got, e := n.Deliver(now, pick)
			if got != (Arrival{}) {
				t.Error(got)
			}
			return e
		})
	}
	for _, now := range []uint64{0, 50, 1<<62 - 1, 1 << 62, math.MaxUint64} {
		for _, pick := range minus() {
			wrong(now, pick, api.ErrArg)
		}
	}
	for _, now := range []uint64{0, 50, 1<<62 - 1} {
		for _, pick := range []int{0, 1, math.MaxInt64} {
			wrong(now, pick, api.ErrNone)
		}
	}
}

// P20.3: an address that nobody has, and the Inner of one behind a box, is nowhere; From and Bytes are told still.
func TestDeliverNowhere(t *testing.T) {
	n := fresh(t, 8)
	wantE(t, n.Send(0, bobID, ann, "x"), api.OK)
	arrives(t, n, 1, Arrival{annID, addr.Addr{IP: east, Port: 20000}, "x"})
	was := n.Box(1).Binds()
	for _, to := range []addr.Addr{
		zoe, bob, bea, cat,
		{IP: ann.IP, Port: 7001}, {IP: ann.IP + 9, Port: 7000}, {IP: free, Port: 20000},
	} {
		reaches(t, n, 50, ann, to, 0)
		reaches(t, n, 50, cat, to, 0)
	}
	wantBinds(t, n, 1, was...)
}

// P20.3, P20.4: what comes to a box arrives at the host that the binding of that port is of, if the box lets it in, and then that holds for longer.
func TestDeliverBox(t *testing.T) {
	n := fresh(t, 8)
	e0, e1 := addr.Addr{IP: east, Port: 20000}, addr.Addr{IP: east, Port: 20001}
	wantE(t, n.Send(0, bobID, ann, "x"), api.OK)
	wantE(t, n.Send(2, beaID, amy, "y"), api.OK)
	arrives(t, n, 3, Arrival{annID, e0, "x"})
	arrives(t, n, 3, Arrival{amyID, e1, "y"})
	reaches(t, n, 5, ann, e0, bobID)
	wantBinds(t, n, 1,
		natbox.Bind{Inner: bob, Port: 20000, Met: []addr.Addr{ann}, Until: 16},
		natbox.Bind{Inner: bea, Port: 20001, Met: []addr.Addr{amy}, Until: 12})
	reaches(t, n, 5, addr.Addr{IP: ann.IP, Port: 99}, e0, bobID)
	reaches(t, n, 5, amy, e0, 0)
	reaches(t, n, 5, zoe, e0, 0)
	reaches(t, n, 5, bea, e0, 0)
	reaches(t, n, 5, ann, e1, 0)
	reaches(t, n, 5, ann, addr.Addr{IP: east, Port: 20002}, 0)
	reaches(t, n, 5, ann, addr.Addr{IP: east, Port: 7000}, 0)
	reaches(t, n, 5, ann, addr.Addr{IP: west, Port: 20000}, 0)
	reaches(t, n, 10, amy, e1, beaID)
	reaches(t, n, 14, ann, e0, bobID)
	reaches(t, n, 24, ann, e0, 0)
	wantBinds(t, n, 1)
}

// P20.3: of whole addresses none but who was met gets in; the first binding's host is told at each port.
func TestDeliverStrict(t *testing.T) {
	n := fresh(t, 8)
	w0, w1 := addr.Addr{IP: west, Port: 20000}, addr.Addr{IP: west, Port: 20001}
	wantE(t, n.Send(0, catID, ann, "x"), api.OK)
	wantE(t, n.Send(0, catID, amy, "x"), api.OK)
	arrives(t, n, 1, Arrival{annID, w0, "x"})
	arrives(t, n, 1, Arrival{amyID, w1, "x"})
	reaches(t, n, 1, ann, w0, catID)
	reaches(t, n, 1, amy, w1, catID)
	reaches(t, n, 1, amy, w0, 0)
	reaches(t, n, 1, addr.Addr{IP: ann.IP, Port: 99}, w0, 0)
}

// P20.3: one behind a box reaches another one behind the same box at the address that the box gave it.
func TestDeliverHairpin(t *testing.T) {
	n := fresh(t, 8)
	e0, e1 := addr.Addr{IP: east, Port: 20000}, addr.Addr{IP: east, Port: 20001}
	wantE(t, n.Send(0, bobID, ann, "x"), api.OK)
	wantE(t, n.Send(0, beaID, e0, "y"), api.OK)
	arrives(t, n, 1, Arrival{annID, e0, "x"})
	arrives(t, n, 1, Arrival{0, e1, "y"})
	wantE(t, n.Send(1, bobID, e1, "z"), api.OK)
	arrives(t, n, 2, Arrival{beaID, e0, "z"})
	wantE(t, n.Send(2, beaID, e0, "y"), api.OK)
	arrives(t, n, 3, Arrival{bobID, e1, "y"})
}

// P20.3: above 2^62 a box lets nothing in, nor changes; what goes by no box arrives still.
func TestDeliverLate(t *testing.T) {
	for _, now := range late() {
		n := fresh(t, 8)
		e0 := addr.Addr{IP: east, Port: 20000}
		wantE(t, n.Send(1<<62, bobID, ann, "x"), api.OK)
		wantE(t, n.Inject(1<<62, ann, e0, "y"), api.OK)
		was := n.Box(1).Binds()
		arrives(t, n, now, Arrival{annID, e0, "x"})
		arrives(t, n, now, Arrival{0, ann, "y"})
		wantBinds(t, n, 1, was...)
	}
}

// P20.3: what a box that was handed out has bound for one that is no host behind it arrives nowhere.
func TestDeliverOtherInner(t *testing.T) {
	n := fresh(t, 8)
	for _, inner := range []addr.Addr{zoe, ann, cat, {IP: bob.IP, Port: 9}, {IP: bob.IP + 1, Port: bob.Port}} {
		told, e := n.Box(1).Out(0, inner, amy)
		wantE(t, e, api.OK)
		reaches(t, n, 0, amy, told, 0)
	}
	told, e := n.Box(2).Out(0, bob, amy)
	wantE(t, e, api.OK)
	reaches(t, n, 0, amy, told, 0)
}

// P20.3: a host with no box goes ahead of a box that has its IP, and of two boxes that have one IP the first has what comes there.
func TestDeliverFirst(t *testing.T) {
	n := fresh(t, 8)
	wantE(t, n.Box(1).Rebind(ann.IP), api.OK)
	wantE(t, n.Send(0, bobID, amy, "x"), api.OK)
	arrives(t, n, 1, Arrival{amyID, addr.Addr{IP: ann.IP, Port: 20000}, "x"})
	reaches(t, n, 1, amy, ann, annID)
	reaches(t, n, 1, amy, addr.Addr{IP: ann.IP, Port: 20000}, bobID)
	wantE(t, n.Box(2).Rebind(ann.IP), api.OK)
	wantE(t, n.Send(1, catID, zoe, "x"), api.OK)
	arrives(t, n, 2, Arrival{0, addr.Addr{IP: ann.IP, Port: 20000}, "x"})
	reaches(t, n, 2, amy, addr.Addr{IP: ann.IP, Port: 20000}, bobID)
	reaches(t, n, 2, zoe, addr.Addr{IP: ann.IP, Port: 20000}, 0)
	wantE(t, n.Box(1).Rebind(free), api.OK)
	reaches(t, n, 2, zoe, addr.Addr{IP: ann.IP, Port: 20000}, catID)
}

// P20.3: that host goes ahead also at a port that the box has bound, and then the box isn't asked.
func TestDeliverFirstPort(t *testing.T) {
	open := addr.Addr{IP: ann.IP, Port: 20000}
	n := made(t, []Host{{bob, 1}, {open, 0}}, two(), 8)
	wantE(t, n.Box(1).Rebind(ann.IP), api.OK)
	wantE(t, n.Send(0, 1, amy, "x"), api.OK)
	arrives(t, n, 1, Arrival{0, open, "x"})
	was := n.Box(1).Binds()
	reaches(t, n, 1, amy, open, 2)
	reaches(t, n, 50, amy, open, 2)
	wantBinds(t, n, 1, was...)
}

// three: a net with a, b and c under way, b ready last.
func three(t *testing.T, room int) (*Net, []bag.Item) {
	t.Helper()
	n := fresh(t, room)
	wantE(t, n.Send(4, annID, amy, "a"), api.OK)
	wantE(t, n.Send(9, bobID, ann, "b"), api.OK)
	wantE(t, n.Inject(2, zoe, cat, "c"), api.OK)
	return n, n.Bag().Items()
}

// P20.3: Drop, Twice and Delay are those of the bag, picked of all.
func TestOfTheBag(t *testing.T) {
	for pick, k := range []int{0, 1, 2, 0, 1, 2} {
		n, l := three(t, 4)
		binds := n.Box(1).Binds()
		wantE(t, n.Drop(pick), api.OK)
		wantItems(t, n, slices.Delete(slices.Clone(l), k, k+1)...)
		n, l = three(t, 4)
		wantE(t, n.Twice(pick), api.OK)
		wantItems(t, n, append(slices.Clone(l), l[k])...)
		n, l = three(t, 4)
		wantE(t, n.Delay(pick, 7), api.OK)
		l[k].At += 7
		wantItems(t, n, l...)
		wantE(t, n.Delay(pick, math.MaxUint64), api.OK)
		l[k].At = 1 << 62
		wantItems(t, n, l...)
		wantBinds(t, n, 1, binds...)
	}
}

// P20.3, P2, P6: their errors are those of the bag.
func TestOfTheBagWrong(t *testing.T) {
	n, _ := three(t, 3)
	for _, pick := range minus() {
		for _, x := range []*Net{n, fresh(t, 1)} {
			stays(t, x, api.ErrArg, func() api.Errno { return x.Drop(pick) })
			stays(t, x, api.ErrArg, func() api.Errno { return x.Twice(pick) })
			stays(t, x, api.ErrArg, func() api.Errno { return x.Delay(pick, 1) })
		}
	}
	for _, pick := range []int{0, 1, math.MaxInt64} {
		none := fresh(t, 1)
		stays(t, none, api.ErrNone, func() api.Errno { return none.Drop(pick) })
		stays(t, none, api.ErrNone, func() api.Errno { return none.Twice(pick) })
		stays(t, none, api.ErrNone, func() api.Errno { return none.Delay(pick, 1) })
		stays(t, n, api.ErrFull, func() api.Errno { return n.Twice(pick) })
	}
}

// P20.3: a box that is rebound has that IP and no bindings; what comes to the old one arrives nowhere, and what is sent comes from the new one.
func TestRebind(t *testing.T) {
	n := fresh(t, 8)
	wantE(t, n.Send(0, bobID, ann, "x"), api.OK)
	wantE(t, n.Send(0, catID, ann, "x"), api.OK)
	other := n.Box(2).Binds()
	wantE(t, n.Rebind(1, free), api.OK)
	if n.Box(1).IP() != free || n.Box(2).IP() != west {
		t.Error(n.Box(1).IP(), n.Box(2).IP())
	}
	wantBinds(t, n, 1)
	wantBinds(t, n, 2, other...)
	arrives(t, n, 1, Arrival{annID, addr.Addr{IP: east, Port: 20000}, "x"})
	arrives(t, n, 1, Arrival{annID, addr.Addr{IP: west, Port: 20000}, "x"})
	reaches(t, n, 1, ann, addr.Addr{IP: east, Port: 20000}, 0)
	reaches(t, n, 1, ann, addr.Addr{IP: free, Port: 20000}, 0)
	wantE(t, n.Send(2, bobID, ann, "y"), api.OK)
	arrives(t, n, 3, Arrival{annID, addr.Addr{IP: free, Port: 20000}, "y"})
	reaches(t, n, 3, ann, addr.Addr{IP: free, Port: 20000}, bobID)
}

// P20.3: the IP that it has may be again, and takes the bindings; one that another box left is free.
func TestRebindAgain(t *testing.T) {
	n := fresh(t, 8)
	wantE(t, n.Send(0, bobID, ann, "x"), api.OK)
	wantE(t, n.Rebind(1, east), api.OK)
	wantBinds(t, n, 1)
	wantE(t, n.Rebind(1, math.MaxUint32), api.OK)
	wantE(t, n.Rebind(2, east), api.OK)
	stays(t, n, api.ErrArg, func() api.Errno { return n.Rebind(1, east) })
	wantE(t, n.Rebind(1, west), api.OK)
	if n.Box(1).IP() != west || n.Box(2).IP() != east {
		t.Error(n.Box(1).IP(), n.Box(2).IP())
	}
}

// P20.3, P2, P6: no such box is ErrNone, ahead of an IP that may not be; 0, another box's, and a host's, is ErrArg.
func TestRebindWrong(t *testing.T) {
	n := fresh(t, 8)
	for _, host := range []int{bobID, catID} {
		wantE(t, n.Send(0, host, ann, "x"), api.OK)
	}
	for _, box := range notIDs(2) {
		for _, ip := range []uint32{0, free, east, west, ann.IP} {
			stays(t, n, api.ErrNone, func() api.Errno { return n.Rebind(box, ip) })
		}
	}
	for box, other := range []uint32{west, east} {
		for _, ip := range []uint32{0, other, ann.IP, amy.IP, bob.IP, cat.IP} {
			stays(t, n, api.ErrArg, func() api.Errno { return n.Rebind(box+1, ip) })
		}
	}
	none := made(t, many(2), nil, 1)
	stays(t, none, api.ErrNone, func() api.Errno { return none.Rebind(1, free) })
}

// P20.3, P6: Box is the box itself, nil of no such one; Bag is the bag itself.
func TestBoxBag(t *testing.T) {
	n := fresh(t, 2)
	for _, box := range notIDs(2) {
		if b := n.Box(box); b != nil {
			t.Error(box, b)
		}
	}
	if n.Box(1) != n.Box(1) || n.Box(1) == n.Box(2) || n.Bag() != n.Bag() {
		t.Error("not the thing itself")
	}
	told, e := n.Box(1).Out(0, bob, zoe)
	wantE(t, e, api.OK)
	wantE(t, n.Bag().Put(bag.Item{From: zoe, To: told, Bytes: "x", At: 0}), api.OK)
	arrives(t, n, 0, Arrival{bobID, zoe, "x"})
	if made(t, many(1), nil, 1).Box(1) != nil {
		t.Error("a box of none")
	}
}

// P3: of a long text, a piece of which is sent, nothing is kept that is told beside it.
func TestTellsNoMore(t *testing.T) {
	n := fresh(t, 2)
	long := strings.Repeat("x", 4000)
	wantE(t, n.Send(0, annID, amy, long[:5]), api.OK)
	wantE(t, n.Inject(0, ann, amy, long[7:8]), api.OK)
	arrives(t, n, 1, Arrival{amyID, ann, "xxxxx"})
	arrives(t, n, 1, Arrival{amyID, ann, "x"})
}
