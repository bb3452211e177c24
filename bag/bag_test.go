package bag

import (
	"math"
	"slices"
	"strconv"
	"strings"
	"testing"
	"unsafe"

	"scuttlebutt/addr"
	"scuttlebutt/api"
	"scuttlebutt/draw"
)

// Where the datagrams of these tests come from, and go to.
var (
	ann = addr.Addr{IP: 0x0a000001, Port: 7000}
	bob = addr.Addr{IP: 0x09000001, Port: 20000}
)

// nones: addresses that lead nowhere.
func nones() []addr.Addr {
	return []addr.Addr{{}, {IP: 1}, {Port: 1}, {IP: math.MaxUint32}, {Port: math.MaxUint16}}
}

// minus: picks that are below 0.
func minus() []int { return []int{-1, -2, -4, -256, -1 << 32, math.MinInt64 + 1, math.MinInt64} }

// item: one that may be.
func item(bytes string, at uint64) Item { return Item{From: ann, To: bob, Bytes: bytes, At: at} }

// made: a new bag, that may be, with these in it.
func made(t *testing.T, room int, l ...Item) *Bag {
	t.Helper()
	b, e := New(room)
	if b == nil || e != api.OK {
		t.Fatalf("New(%d): %v, %d", room, b, e)
	}
	for _, x := range l {
		put(t, b, x)
	}
	return b
}

// put: Put, that must be OK.
func put(t *testing.T, b *Bag, x Item) {
	t.Helper()
	if e := b.Put(x); e != api.OK {
		t.Fatalf("Put(%v): %d", x, e)
	}
}

// three: a bag of room 4, with a at 5, b at 1, c at 3.
func three(t *testing.T) *Bag {
	t.Helper()
	return made(t, 4, item("a", 5), item("b", 1), item("c", 3))
}

// wantItems: Items must be these, and Len as many.
func wantItems(t *testing.T, b *Bag, want ...Item) {
	t.Helper()
	if got := b.Items(); !slices.Equal(got, want) || b.Len() != len(want) {
		t.Errorf("Items: %v, %d, want %v", got, b.Len(), want)
	}
}

// wantBytes: the bytes of Items, one letter each, must be these.
func wantBytes(t *testing.T, b *Bag, want string) {
	t.Helper()
	got := ""
	for _, x := range b.Items() {
		got += x.Bytes
	}
	if got != want || b.Len() != len(want) {
		t.Errorf("Items: %q, %d, want %q", got, b.Len(), want)
	}
}

// wantSame: what is done must be that error, and leave what is under way as it was.
func wantSame(t *testing.T, b *Bag, want api.Errno, do func() api.Errno) {
	t.Helper()
	was := b.Items()
	if e := do(); e != want {
		t.Errorf("error %d, want %d", e, want)
	}
	wantItems(t, b, was...)
}

// wantNoTake: Take must be that error, with nothing beside it, and take nothing.
func wantNoTake(t *testing.T, b *Bag, now uint64, pick int, want api.Errno) {
	t.Helper()
	wantSame(t, b, want, func() api.Errno {
		x, e := b.Take(now, pick)
		if x != (Item{}) {
			t.Errorf("Take(%d, %d): %v", now, pick, x)
		}
		return e
	})
}

// wantNoDrop: likewise Drop.
func wantNoDrop(t *testing.T, b *Bag, pick int, want api.Errno) {
	t.Helper()
	wantSame(t, b, want, func() api.Errno {
		x, e := b.Drop(pick)
		if x != (Item{}) {
			t.Errorf("Drop(%d): %v", pick, x)
		}
		return e
	})
}

// P9.1: a room of 1 to 256 is a bag with nothing under way, of just that room.
func TestNew(t *testing.T) {
	for _, room := range []int{1, 2, 3, 255, 256} {
		b := made(t, room)
		wantItems(t, b)
		if n := b.Ready(math.MaxUint64); n != 0 {
			t.Errorf("room %d: %d", room, n)
		}
		want := []Item{}
		for k := range room {
			x := item(strconv.Itoa(k), uint64(k))
			put(t, b, x)
			want = append(want, x)
		}
		wantSame(t, b, api.ErrFull, func() api.Errno { return b.Put(item("more", 0)) })
		wantItems(t, b, want...)
	}
}

// P9.1, P2, P6: any other room is ErrArg, and no bag.
func TestNewWrong(t *testing.T) {
	for _, room := range []int{0, -1, -256, 257, 512, 1024, 1<<32 + 1, math.MaxInt64, math.MinInt64, math.MinInt64 + 1} {
		if b, e := New(room); b != nil || e != api.ErrArg {
			t.Errorf("%d: %v, %d", room, b, e)
		}
	}
}

// P9.1: what is put is the last one, whole and as it was, whenever it is ready; the same may be put again.
func TestPut(t *testing.T) {
	l := []Item{
		item("a", 5),
		item("b", 1),
		item("a", 5),
		{From: bob, To: ann, Bytes: "\x00", At: 0},
		{From: ann, To: ann, Bytes: "\xff\x00\xfe", At: 1 << 62},
		{From: addr.Addr{IP: 1, Port: 1}, To: addr.Addr{IP: math.MaxUint32, Port: math.MaxUint16}, Bytes: "c", At: 1<<62 + 1},
		item("ä", math.MaxUint64),
		item(strings.Repeat("x", 1023), 3),
		item(strings.Repeat("y", 1024), 3),
	}
	b := made(t, len(l))
	for k, x := range l {
		put(t, b, x)
		wantItems(t, b, l[:k+1]...)
	}
}

// P9.1, P2: From or To that is None is ErrArg, also where Bytes may not be, or there is no room.
func TestPutNone(t *testing.T) {
	for _, b := range []*Bag{made(t, 1), three(t), made(t, 1, item("a", 0))} {
		for _, none := range nones() {
			for _, bytes := range []string{"x", "", strings.Repeat("x", 1024), strings.Repeat("x", 1025)} {
				for _, x := range []Item{{none, bob, bytes, 1}, {ann, none, bytes, 1}, {none, none, bytes, 1}} {
					wantSame(t, b, api.ErrArg, func() api.Errno { return b.Put(x) })
				}
			}
		}
	}
}

// P9.1, P2: Bytes of nothing, or of above 1024, counted as bytes, is ErrLong, also where there is no room.
func TestPutLong(t *testing.T) {
	for _, b := range []*Bag{made(t, 1), three(t), made(t, 1, item("a", 0))} {
		for _, bytes := range []string{"", strings.Repeat("x", 1025), strings.Repeat("ä", 513), strings.Repeat("x", 1<<16), strings.Repeat("x", 1<<16+1)} {
			wantSame(t, b, api.ErrLong, func() api.Errno { return b.Put(item(bytes, 1)) })
		}
	}
	b := made(t, 1)
	put(t, b, item(strings.Repeat("ä", 512), 1))
}

// P9.1: where there are room is ErrFull; once one has gone there is room for just one.
func TestPutFull(t *testing.T) {
	b := made(t, 3, item("a", 0), item("b", 9), item("c", 0))
	full := func() {
		t.Helper()
		wantSame(t, b, api.ErrFull, func() api.Errno { return b.Put(item("x", 0)) })
	}
	full()
	if x, e := b.Take(0, 1); x != item("c", 0) || e != api.OK {
		t.Error(x, e)
	}
	put(t, b, item("d", 0))
	full()
	if x, e := b.Drop(1); x != item("b", 9) || e != api.OK {
		t.Error(x, e)
	}
	put(t, b, item("e", 0))
	full()
	wantBytes(t, b, "ade")
}

// P9.1, P3: of a long text, a piece of which is put, nothing is kept.
func TestPutKeepsNothing(t *testing.T) {
	long := strings.Repeat("x", 4096)
	b := made(t, 1, item(long[:3], 0))
	wantItems(t, b, item("xxx", 0))
	if unsafe.StringData(b.Items()[0].Bytes) == unsafe.StringData(long) {
		t.Error("it is the text that was handed in")
	}
}

// P9.2: ready is whose At is at most now, of any 64 bits.
func TestReady(t *testing.T) {
	b := made(t, 8, item("a", 5), item("b", 1), item("c", 3), item("d", 0), item("e", 3), item("f", 1<<62), item("g", 1<<63), item("h", math.MaxUint64))
	for _, c := range []struct {
		now  uint64
		want int
	}{{0, 1}, {1, 2}, {2, 2}, {3, 4}, {4, 4}, {5, 5}, {1<<62 - 1, 5}, {1 << 62, 6}, {1<<63 - 1, 6}, {1 << 63, 7}, {math.MaxUint64 - 1, 7}, {math.MaxUint64, 8}, {0, 1}} {
		was := b.Items()
		if got := b.Ready(c.now); got != c.want {
			t.Errorf("Ready(%d): %d, want %d", c.now, got, c.want)
		}
		wantItems(t, b, was...)
	}
}

// P9.2: the one that is taken is the one at pick modulo how many, among those that are ready; the others stay, in order.
func TestTake(t *testing.T) {
	for _, c := range []struct {
		now  uint64
		pick int
		want string
		left string
	}{
		{1, 0, "b", "ac"}, {1, 1, "b", "ac"}, {1, math.MaxInt64, "b", "ac"},
		{2, 0, "b", "ac"}, {2, 5, "b", "ac"},
		{3, 0, "b", "ac"}, {3, 1, "c", "ab"}, {3, 2, "b", "ac"}, {3, 3, "c", "ab"}, {3, math.MaxInt64, "c", "ab"},
		{4, 0, "b", "ac"}, {4, 1, "c", "ab"},
		{5, 0, "a", "bc"}, {5, 1, "b", "ac"}, {5, 2, "c", "ab"}, {5, 3, "a", "bc"}, {5, 4, "b", "ac"}, {5, 1<<32 + 1, "c", "ab"}, {5, math.MaxInt64, "b", "ac"},
		{1 << 62, 5, "c", "ab"}, {math.MaxUint64, 0, "a", "bc"}, {math.MaxUint64, 256, "b", "ac"},
	} {
		b := three(t)
		at := map[string]uint64{"a": 5, "b": 1, "c": 3}
		if x, e := b.Take(c.now, c.pick); x != item(c.want, at[c.want]) || e != api.OK {
			t.Errorf("Take(%d, %d): %v, %d, want %s", c.now, c.pick, x, e, c.want)
		}
		wantBytes(t, b, c.left)
	}
}

// P9.2: one that isn't ready is neither taken nor counted, where it stands first, between, and last.
func TestTakeBetween(t *testing.T) {
	l := []Item{item("a", 9), item("b", 2), item("c", 3), item("d", 2), item("e", 9), item("f", 0), item("g", 3)}
	for pick, want := range []int{1, 3, 5, 1, 3, 5, 1} {
		b := made(t, 8, l...)
		if x, e := b.Take(2, pick); x != l[want] || e != api.OK {
			t.Errorf("%d: %v, %d, want %v", pick, x, e, l[want])
		}
		wantItems(t, b, slices.Delete(slices.Clone(l), want, want+1)...)
	}
}

// P9.2: the chapter's example, and where nobody is ready yet: ErrNone, at any pick that may be.
func TestTakeNone(t *testing.T) {
	for _, b := range []*Bag{made(t, 1), made(t, 256), made(t, 2, item("a", 5)), made(t, 2, item("a", 5), item("b", 6))} {
		for _, now := range []uint64{0, 1, 4} {
			for _, pick := range []int{0, 1, 2, 256, math.MaxInt64} {
				wantNoTake(t, b, now, pick, api.ErrNone)
			}
		}
	}
	for _, now := range []uint64{5, 1 << 62, 1 << 63, math.MaxUint64} {
		wantNoTake(t, made(t, 1), now, 0, api.ErrNone)
	}
	wantNoTake(t, made(t, 1, item("a", math.MaxUint64)), math.MaxUint64-1, 0, api.ErrNone)
}

// P9.2, P2, P6: a pick below 0 is ErrArg, also where nobody is ready.
func TestTakeWrong(t *testing.T) {
	for _, pick := range minus() {
		for _, now := range []uint64{0, 3, 5, math.MaxUint64} {
			wantNoTake(t, three(t), now, pick, api.ErrArg)
			wantNoTake(t, made(t, 1), now, pick, api.ErrArg)
		}
	}
}

// P9.2: Drop picks of all, ready or not.
func TestDrop(t *testing.T) {
	l := []Item{item("a", 5), item("b", math.MaxUint64), item("c", 0)}
	for _, c := range []struct {
		pick, want int
		left       string
	}{{0, 0, "bc"}, {1, 1, "ac"}, {2, 2, "ab"}, {3, 0, "bc"}, {4, 1, "ac"}, {5, 2, "ab"}, {1<<32 + 1, 2, "ab"}, {math.MaxInt64, 1, "ac"}} {
		b := made(t, 3, l...)
		if x, e := b.Drop(c.pick); x != l[c.want] || e != api.OK {
			t.Errorf("Drop(%d): %v, %d, want %v", c.pick, x, e, l[c.want])
		}
		wantBytes(t, b, c.left)
	}
}

// P9.2, P2, P6: Drop: of nothing ErrNone, of a pick below 0 ErrArg, also of nothing.
func TestDropWrong(t *testing.T) {
	for _, pick := range []int{0, 1, 256, math.MaxInt64} {
		wantNoDrop(t, made(t, 1), pick, api.ErrNone)
	}
	for _, pick := range minus() {
		wantNoDrop(t, made(t, 1), pick, api.ErrArg)
		wantNoDrop(t, three(t), pick, api.ErrArg)
	}
}

// P9.2: Twice has another one that is the same, as the last; picked of all, ready or not.
func TestTwice(t *testing.T) {
	l := []Item{item("a", 5), {From: bob, To: ann, Bytes: "b", At: math.MaxUint64}, item("c", 0)}
	for _, c := range []struct{ pick, want int }{{0, 0}, {1, 1}, {2, 2}, {3, 0}, {4, 1}, {5, 2}, {math.MaxInt64, 1}} {
		b := made(t, 4, l...)
		if e := b.Twice(c.pick); e != api.OK {
			t.Errorf("Twice(%d): %d", c.pick, e)
		}
		wantItems(t, b, l[0], l[1], l[2], l[c.want])
	}
}

// P9.2: of the two each goes its own way.
func TestTwiceApart(t *testing.T) {
	b := made(t, 2, item("a", 5))
	if e := b.Twice(0); e != api.OK {
		t.Error(e)
	}
	if e := b.Delay(1, 2); e != api.OK {
		t.Error(e)
	}
	wantItems(t, b, item("a", 5), item("a", 7))
	if x, e := b.Take(6, 1); x != item("a", 5) || e != api.OK {
		t.Error(x, e)
	}
	wantItems(t, b, item("a", 7))
}

// P9.2, P2, P6: Twice: a pick below 0 is ErrArg ahead of all, nothing under way ErrNone, no room ErrFull.
func TestTwiceWrong(t *testing.T) {
	full := made(t, 2, item("a", 5), item("b", 0))
	for _, pick := range []int{0, 1, 2, 256, math.MaxInt64} {
		wantSame(t, full, api.ErrFull, func() api.Errno { return full.Twice(pick) })
		none := made(t, 2)
		wantSame(t, none, api.ErrNone, func() api.Errno { return none.Twice(pick) })
	}
	for _, pick := range minus() {
		for _, b := range []*Bag{full, made(t, 2), three(t)} {
			wantSame(t, b, api.ErrArg, func() api.Errno { return b.Twice(pick) })
		}
	}
	most := made(t, 256, item("a", 0))
	for range 255 {
		if e := most.Twice(0); e != api.OK {
			t.Fatal(e)
		}
	}
	wantSame(t, most, api.ErrFull, func() api.Errno { return most.Twice(0) })
}

// P9.2: Delay picks of all, ready or not, and in a full bag; that one alone is later, and stays where it stands.
func TestDelay(t *testing.T) {
	for _, c := range []struct{ pick, want int }{{0, 0}, {1, 1}, {2, 2}, {3, 0}, {4, 1}, {5, 2}, {math.MaxInt64, 1}} {
		l := []Item{item("a", 5), item("b", 1), item("c", 3)}
		b := made(t, 3, l...)
		if e := b.Delay(c.pick, 10); e != api.OK {
			t.Errorf("Delay(%d): %d", c.pick, e)
		}
		l[c.want].At += 10
		wantItems(t, b, l...)
	}
}

// P9.2, P6: At is by more, but at most 2^62, of any by, and where it was above that too.
func TestDelayMost(t *testing.T) {
	for _, c := range []struct{ at, by, want uint64 }{
		{0, 0, 0},
		{0, 1, 1},
		{7, 0, 7},
		{7, 1 << 32, 1<<32 + 7},
		{0, 1<<62 - 1, 1<<62 - 1},
		{0, 1 << 62, 1 << 62},
		{0, 1<<62 + 1, 1 << 62},
		{1, 1<<62 - 2, 1<<62 - 1},
		{1, 1<<62 - 1, 1 << 62},
		{1, 1 << 62, 1 << 62},
		{1, math.MaxUint64, 1 << 62},
		{2, math.MaxUint64, 1 << 62},
		{5, 1 << 63, 1 << 62},
		{1<<62 - 1, 0, 1<<62 - 1},
		{1<<62 - 1, 1, 1 << 62},
		{1<<62 - 1, 2, 1 << 62},
		{1 << 62, 0, 1 << 62},
		{1 << 62, 1, 1 << 62},
		{1 << 62, math.MaxUint64, 1 << 62},
		{1 << 62, math.MaxUint64 - 1<<62 + 1, 1 << 62},
		{1<<62 + 1, 0, 1 << 62},
		{1<<62 + 1, math.MaxUint64, 1 << 62},
		{1 << 63, 0, 1 << 62},
		{1 << 63, 1 << 63, 1 << 62},
		{math.MaxUint64, 0, 1 << 62},
		{math.MaxUint64, 1, 1 << 62},
		{math.MaxUint64, 2, 1 << 62},
		{math.MaxUint64, math.MaxUint64, 1 << 62},
	} {
		b := made(t, 1, item("a", c.at))
		if e := b.Delay(0, c.by); e != api.OK {
			t.Errorf("%d, %d: %d", c.at, c.by, e)
		}
		wantItems(t, b, item("a", c.want))
	}
}

// P9.2, P2, P6: Delay: of nothing ErrNone, of a pick below 0 ErrArg, also of nothing.
func TestDelayWrong(t *testing.T) {
	for _, by := range []uint64{0, 1, 1 << 62, math.MaxUint64} {
		for _, pick := range []int{0, 1, 256, math.MaxInt64} {
			none := made(t, 1)
			wantSame(t, none, api.ErrNone, func() api.Errno { return none.Delay(pick, by) })
		}
		for _, pick := range minus() {
			for _, b := range []*Bag{made(t, 1), three(t), made(t, 1, item("a", 1<<63))} {
				wantSame(t, b, api.ErrArg, func() api.Errno { return b.Delay(pick, by) })
			}
		}
	}
}

// P9.1, P3: Items is new memory, with its spare room.
func TestItemsIsNew(t *testing.T) {
	b := three(t)
	want, spoilt := b.Items(), b.Items()
	whole := spoilt[:cap(spoilt)]
	for k := range whole {
		whole[k] = item("spoilt", 666)
	}
	wantItems(t, b, want...)
	put(t, b, item("d", 9))
	if x, e := b.Drop(0); x != item("a", 5) || e != api.OK {
		t.Error(x, e)
	}
	if e := b.Delay(0, 4); e != api.OK {
		t.Error(e)
	}
	if !slices.Equal(want, []Item{item("a", 5), item("b", 1), item("c", 3)}) {
		t.Error("an earlier answer changed:", want)
	}
	if whole[0] != item("spoilt", 666) {
		t.Error("an answer that was written into changed:", whole)
	}
}

// lie is what a plain bag has of one datagram: when it was laid in, and it.
type lie struct {
	turn int
	x    Item
}

// plain is a bag done otherwise, word by word as the chapter tells it: by when each was laid in, in no order.
type plain struct {
	room, turn int
	have       map[int]Item
}

// ready: those whose At is at most now, in order.
func (p *plain) ready(now uint64) []lie {
	l := []lie{}
	for turn, x := range p.have {
		if x.At <= now {
			l = append(l, lie{turn, x})
		}
	}
	slices.SortFunc(l, func(a, b lie) int { return a.turn - b.turn })
	return l
}

// items: Items.
func (p *plain) items() []Item {
	l := []Item{}
	for _, x := range p.ready(math.MaxUint64) {
		l = append(l, x.x)
	}
	return l
}

// lay: lays x in, of what may be.
func (p *plain) lay(x Item) api.Errno {
	if len(p.have) >= p.room {
		return api.ErrFull
	}
	p.turn++
	p.have[p.turn] = x
	return api.OK
}

// picked: the one that is picked of l.
func picked(l []lie, pick int) (lie, api.Errno) {
	if len(l) == 0 {
		return lie{}, api.ErrNone
	}
	return l[pick%len(l)], api.OK
}

// take: Take.
func (p *plain) take(now uint64, pick int) (Item, api.Errno) {
	x, e := picked(p.ready(now), pick)
	delete(p.have, x.turn)
	return x.x, e
}

// twice: Twice.
func (p *plain) twice(pick int) api.Errno {
	x, e := picked(p.ready(math.MaxUint64), pick)
	if e != api.OK {
		return e
	}
	return p.lay(x.x)
}

// delay: Delay, of times that are far below 2^62.
func (p *plain) delay(pick int, by uint64) api.Errno {
	x, e := picked(p.ready(math.MaxUint64), pick)
	if e == api.OK {
		x.x.At += by
		p.have[x.turn] = x.x
	}
	return e
}

// play does to a bag, and to a plain one, what is drawn, and holds them against
// each other; of each datagram, known by its Bytes, it counts how many are still to go.
type play struct {
	s    draw.Stream
	b    *Bag
	p    *plain
	now  uint64
	puts int
	owed map[string]int
}

// below draws a number below n.
func (g *play) below(n int) int {
	k, s := g.s.Below(n)
	g.s = s
	return k
}

// put puts one that was not put yet.
func (g *play) put() bool {
	g.puts++
	x := Item{addr.Addr{IP: uint32(1 + g.below(3)), Port: 1}, addr.Addr{IP: 1, Port: uint16(1 + g.below(3))}, strconv.Itoa(g.puts), g.now + uint64(g.below(6))}
	e := g.b.Put(x)
	if e == api.OK {
		g.owed[x.Bytes] = 1
	}
	return e == g.p.lay(x)
}

// gone counts one off that went, if one did.
func (g *play) gone(x, want Item, e, f api.Errno) bool {
	if e == api.OK {
		g.owed[x.Bytes]--
	}
	return x == want && e == f && g.owed[x.Bytes] >= 0
}

// twice makes one twice, and counts it.
func (g *play) twice(pick int) bool {
	e := g.b.Twice(pick)
	if e == api.OK {
		g.owed[g.b.Items()[g.b.Len()-1].Bytes]++
	}
	return e == g.p.twice(pick)
}

// step does one thing, and answers whether both did the same.
func (g *play) step() bool {
	g.now += uint64(g.below(2))
	pick := g.below(600)
	switch k := g.below(100); {
	case k < 45:
		return g.put()
	case k < 75:
		x, e := g.b.Take(g.now, pick)
		want, f := g.p.take(g.now, pick)
		return g.gone(x, want, e, f)
	case k < 83:
		x, e := g.b.Drop(pick)
		want, f := g.p.take(math.MaxUint64, pick)
		return g.gone(x, want, e, f)
	case k < 91:
		return g.twice(pick)
	}
	by := uint64(g.below(9))
	return g.b.Delay(pick, by) == g.p.delay(pick, by)
}

// same: do the two hold the same?
func (g *play) same() bool {
	return slices.Equal(g.b.Items(), g.p.items()) && g.b.Len() == len(g.p.have) && g.b.Ready(g.now) == len(g.p.ready(g.now))
}

// empty takes all that is left, and answers whether nothing is owed then.
func (g *play) empty() bool {
	for g.b.Len() > 0 {
		pick := g.below(600)
		x, e := g.b.Take(math.MaxUint64, pick)
		want, f := g.p.take(math.MaxUint64, pick)
		if !g.gone(x, want, e, f) || e != api.OK {
			return false
		}
	}
	for _, n := range g.owed {
		if n != 0 {
			return false
		}
	}
	return len(g.p.have) == 0
}

// newPlay: a play with a new bag of that room.
func newPlay(t *testing.T, seed uint64, room int) *play {
	t.Helper()
	return &play{s: draw.New(seed), b: made(t, room), p: &plain{room: room, have: map[int]Item{}}, owed: map[string]int{}}
}

// P9.1 to P9.3, T3: of many rooms, whatever is done, a bag does as the plain one, and
// each that was put has gone just once at the end, but as often more as it was made twice.
func TestAsThePlainOne(t *testing.T) {
	for _, room := range []int{1, 2, 3, 7, 30, 256} {
		for seed := range uint64(8) {
			g := newPlay(t, seed*7919+uint64(room), room)
			for i := range 600 {
				if ok := g.step(); !ok || !g.same() {
					t.Fatalf("room %d, seed %d, step %d, now %d: %v, want %v", room, seed, i, g.now, g.b.Items(), g.p.items())
				}
			}
			if !g.empty() {
				t.Errorf("room %d, seed %d: %v is owed", room, seed, g.owed)
			}
		}
	}
}

// P9.3: of a full bag all go, each once, at whatever pick, and nothing is left to be taken.
func TestEachOnce(t *testing.T) {
	for _, pick := range []int{0, 1, 2, 3, 100, 255, 256, 1 << 40, math.MaxInt64} {
		b, seen := made(t, 256), map[string]int{}
		for k := range 256 {
			put(t, b, item(strconv.Itoa(k), uint64(k%7)))
		}
		for k := range 256 {
			x, e := b.Take(6, pick)
			if e != api.OK || seen[x.Bytes] != 0 {
				t.Fatalf("pick %d, %d: %v, %d", pick, k, x, e)
			}
			seen[x.Bytes]++
		}
		if len(seen) != 256 {
			t.Errorf("pick %d: %d", pick, len(seen))
		}
		wantNoTake(t, b, 6, pick, api.ErrNone)
		wantNoDrop(t, b, pick, api.ErrNone)
	}
}

// P4: two bags to which the same is done are the same, and neither has anything of the other.
func TestSameAgain(t *testing.T) {
	g, h := newPlay(t, 99, 20), newPlay(t, 99, 20)
	for range 500 {
		if !g.step() || !h.step() {
			t.Fatal(g.b.Items(), h.b.Items())
		}
		wantItems(t, g.b, h.b.Items()...)
	}
}
