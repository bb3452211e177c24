package wheel

import (
	"math"
	"slices"
	"testing"

	"scuttlebutt/api"
	"scuttlebutt/draw"
)

// key is a kind and an ID.
type key struct{ kind, id int }

// wrong: kinds and IDs one of which, at least, may not be.
func wrong() []key {
	l := []key{{16, 1024}, {-1, -1}, {-1, 1024}, {1023, 15}}
	for _, n := range []int{-1, -2, -16, -1024, 1024, 1025, 1 << 16, 1 << 32, 1<<32 + 1, math.MaxInt64, math.MinInt64, math.MinInt64 + 1} {
		l = append(l, key{n, 1}, key{1, n}, key{n, 0}, key{0, n})
	}
	return append(l, key{16, 0}, key{16, 1}, key{17, 1}, key{255, 1}, key{256, 1}, key{257, 1})
}

// times: times of all sizes, rising.
func times() []uint64 {
	return []uint64{0, 1, 2, 1000, 1 << 32, 1<<62 - 1, 1 << 62, 1<<62 + 1, 1<<63 - 1, 1 << 63, math.MaxUint64 - 1, math.MaxUint64}
}

// made: a new wheel with these, set in this order.
func made(t *testing.T, l ...Timer) *Wheel {
	t.Helper()
	w := New()
	if w == nil {
		t.Fatal("New: nil")
	}
	for _, x := range l {
		set(t, w, x)
	}
	return w
}

// set: Set, that must be OK.
func set(t *testing.T, w *Wheel, x Timer) {
	t.Helper()
	if e := w.Set(x.Kind, x.ID, x.At); e != api.OK {
		t.Fatalf("Set(%v): %d", x, e)
	}
}

// many: that many timers, that are set in this order, at that many times by turns.
func many(n, ats int) []Timer {
	l := []Timer{}
	for k := range n {
		l = append(l, Timer{Kind: k % 16, ID: 1023 - k/16, At: uint64(k % ats)})
	}
	return l
}

// wantAll: All must be these, and Len as many.
func wantAll(t *testing.T, w *Wheel, want ...Timer) {
	t.Helper()
	if got := w.All(); !slices.Equal(got, want) || w.Len() != len(want) {
		t.Errorf("All: %v, %d, want %v", got, w.Len(), want)
	}
}

// wantDue: Due must be these.
func wantDue(t *testing.T, w *Wheel, now uint64, want ...Timer) {
	t.Helper()
	if got := w.Due(now); !slices.Equal(got, want) {
		t.Errorf("Due(%d): %v, want %v", now, got, want)
	}
}

// wantAt: At must be that time.
func wantAt(t *testing.T, w *Wheel, kind, id int, want uint64) {
	t.Helper()
	if at, ok := w.At(kind, id); at != want || !ok {
		t.Errorf("At(%d, %d): %d, %v, want %d", kind, id, at, ok, want)
	}
}

// wantNone: there must be none of that kind and ID, to At and to Stop, and nothing may change by asking.
func wantNone(t *testing.T, w *Wheel, kind, id int) {
	t.Helper()
	was := w.All()
	if at, ok := w.At(kind, id); at != 0 || ok {
		t.Errorf("At(%d, %d): %d, %v", kind, id, at, ok)
	}
	if w.Stop(kind, id) {
		t.Errorf("Stop(%d, %d)", kind, id)
	}
	wantAll(t, w, was...)
}

// wantNoSet: Set must be that error, and change nothing.
func wantNoSet(t *testing.T, w *Wheel, kind, id int, at uint64, want api.Errno) {
	t.Helper()
	was := w.All()
	if e := w.Set(kind, id, at); e != want {
		t.Errorf("Set(%d, %d, %d): %d, want %d", kind, id, at, e, want)
	}
	wantAll(t, w, was...)
}

// P10.1, P10.2: a new wheel has no timers (the chapter's example), and none of another one.
func TestNew(t *testing.T) {
	other := made(t, many(256, 5)...)
	w := made(t)
	wantAll(t, w)
	for _, now := range times() {
		wantDue(t, w, now)
	}
	for _, x := range other.All() {
		wantNone(t, w, x.Kind, x.ID)
	}
	wantNone(t, w, 0, 0)
}

// P10.1: of any kind from 0 to 15, ID from 0 to 1023 and time of 64 bits there is one, at that time.
func TestSet(t *testing.T) {
	for _, x := range []key{{0, 0}, {0, 1023}, {15, 0}, {15, 1023}, {1, 0}, {0, 1}, {14, 1022}, {7, 512}, {7, 256}, {3, 16}} {
		for _, at := range times() {
			w := made(t, Timer{x.kind, x.id, at})
			wantAt(t, w, x.kind, x.id, at)
			wantAll(t, w, Timer{x.kind, x.id, at})
			wantDue(t, w, math.MaxUint64, Timer{x.kind, x.id, at})
		}
	}
}

// P10.1: those of each kind and ID are others: there is none of another one.
func TestSetEach(t *testing.T) {
	for kind := range 16 {
		w := made(t)
		for id := range 1024 {
			set(t, w, Timer{kind, id, uint64(id)})
			wantAll(t, w, Timer{kind, id, uint64(id)})
			wantNone(t, w, kind, (id+1)%1024)
			wantNone(t, w, (kind+1)%16, id)
			if !w.Stop(kind, id) {
				t.Errorf("Stop(%d, %d)", kind, id)
			}
		}
	}
	l := []Timer{{1, 2, 3}, {2, 1, 3}, {1, 1, 3}, {2, 2, 3}, {12, 3, 3}, {1, 23, 3}, {0, 1023, 3}, {1, 0, 3}, {15, 0, 3}, {0, 15, 3}}
	w := made(t, l...)
	wantAll(t, w, l...)
	for k, x := range l {
		if !w.Stop(x.Kind, x.ID) {
			t.Errorf("Stop(%d, %d)", x.Kind, x.ID)
		}
		wantAll(t, w, l[k+1:]...)
	}
}

// P10.1, P2, P6: another kind or ID is ErrArg, and changes nothing, also where there is no room; and there is none of it.
func TestSetWrong(t *testing.T) {
	for _, w := range []*Wheel{made(t), made(t, Timer{1, 1, 5}, Timer{0, 0, 1}), made(t, many(256, 3)...)} {
		for _, x := range wrong() {
			for _, at := range []uint64{0, 5, math.MaxUint64} {
				wantNoSet(t, w, x.kind, x.id, at, api.ErrArg)
			}
			wantNone(t, w, x.kind, x.id)
		}
	}
}

// P10.1: one that is set again is at the new time alone, set last, and the others stay as they are.
func TestSetAgain(t *testing.T) {
	a, b, c := Timer{1, 1, 5}, Timer{2, 1, 5}, Timer{1, 2, 7}
	for _, x := range []struct {
		again Timer
		want  []Timer
	}{
		{Timer{1, 1, 5}, []Timer{b, {1, 1, 5}, c}},
		{Timer{1, 1, 7}, []Timer{b, c, {1, 1, 7}}},
		{Timer{1, 1, 6}, []Timer{b, {1, 1, 6}, c}},
		{Timer{1, 1, 9}, []Timer{b, c, {1, 1, 9}}},
		{Timer{1, 1, 0}, []Timer{{1, 1, 0}, b, c}},
		{Timer{2, 1, 5}, []Timer{a, {2, 1, 5}, c}},
		{Timer{2, 1, 4}, []Timer{{2, 1, 4}, a, c}},
		{Timer{1, 2, 5}, []Timer{a, b, {1, 2, 5}}},
		{Timer{1, 2, math.MaxUint64}, []Timer{a, b, {1, 2, math.MaxUint64}}},
	} {
		w := made(t, a, b, c)
		set(t, w, x.again)
		wantAll(t, w, x.want...)
		wantAt(t, w, x.again.Kind, x.again.ID, x.again.At)
		wantDue(t, w, math.MaxUint64, x.want...)
		wantAll(t, w)
	}
}

// P10.1: where there are 256, another one is ErrFull; one of those is set again, as the last.
func TestSetFull(t *testing.T) {
	l := many(256, 1)
	w := made(t, l[:255]...)
	wantNone(t, w, l[255].Kind, l[255].ID)
	set(t, w, l[255])
	wantAll(t, w, l...)
	for _, x := range []key{{0, 0}, {15, 0}, {15, 1007}, {0, 1007}} {
		wantNoSet(t, w, x.kind, x.id, 0, api.ErrFull)
		wantNone(t, w, x.kind, x.id)
	}
	for _, k := range []int{0, 100, 255} {
		w := made(t, l...)
		set(t, w, l[k])
		want := append(slices.Delete(slices.Clone(l), k, k+1), l[k])
		wantAll(t, w, want...)
		wantNoSet(t, w, 0, 0, 0, api.ErrFull)
	}
}

// P10.1, P10.2: what goes, by Stop or by Due, leaves room for just as many.
func TestSetRoom(t *testing.T) {
	l := many(256, 2)
	w := made(t, l...)
	if !w.Stop(l[7].Kind, l[7].ID) {
		t.Error("Stop")
	}
	set(t, w, Timer{0, 0, 1})
	wantNoSet(t, w, 0, 1, 1, api.ErrFull)
	if got := w.Due(0); len(got) != 128 || w.Len() != 128 {
		t.Error(len(got), w.Len())
	}
	for k := range 128 {
		set(t, w, Timer{1, k, 3})
	}
	wantNoSet(t, w, 1, 128, 3, api.ErrFull)
	wantNoSet(t, w, 0, 1, 3, api.ErrFull)
	if w.Len() != 256 {
		t.Error(w.Len())
	}
}

// P10.1: Stop lets that one go, wherever it stands, and tells whether there was one; the others stay, in order.
func TestStop(t *testing.T) {
	l := []Timer{{4, 9, 1}, {1, 1, 5}, {2, 1, 5}, {1, 2, 5}, {15, 1023, math.MaxUint64}}
	for k, x := range l {
		w := made(t, l...)
		if !w.Stop(x.Kind, x.ID) {
			t.Errorf("Stop(%d, %d)", x.Kind, x.ID)
		}
		left := slices.Delete(slices.Clone(l), k, k+1)
		wantAll(t, w, left...)
		wantNone(t, w, x.Kind, x.ID)
		set(t, w, x)
		wantAt(t, w, x.Kind, x.ID, x.At)
		if !w.Stop(x.Kind, x.ID) {
			t.Errorf("Stop(%d, %d) again", x.Kind, x.ID)
		}
		wantDue(t, w, math.MaxUint64, left...)
	}
}

// P10.1: At tells the time of that one, and nothing changes.
func TestAt(t *testing.T) {
	l := many(256, 7)
	w := made(t, l...)
	was := w.All()
	for _, x := range l {
		wantAt(t, w, x.Kind, x.ID, x.At)
	}
	wantAll(t, w, was...)
	for _, x := range []key{{0, 0}, {15, 1007}, {0, 1007}} {
		wantNone(t, w, x.kind, x.id)
	}
}

// P10.2: Due tells those whose At is at most now, by At, of the same as they were set, and not by kind or ID; the others stay.
func TestDue(t *testing.T) {
	l := []Timer{{9, 3, 5}, {1, 3, 7}, {1, 2, 5}, {2, 1, 5}, {0, 0, 7}, {15, 1023, 1}, {3, 3, 6}}
	sorted := []Timer{l[5], l[0], l[2], l[3], l[6], l[1], l[4]}
	for _, c := range []struct {
		now  uint64
		want int
	}{{0, 0}, {1, 1}, {2, 1}, {4, 1}, {5, 4}, {6, 5}, {7, 7}, {8, 7}, {1 << 62, 7}, {1<<62 + 1, 7}, {math.MaxUint64, 7}} {
		w := made(t, l...)
		wantAll(t, w, sorted...)
		wantDue(t, w, c.now, sorted[:c.want]...)
		wantAll(t, w, sorted[c.want:]...)
		for _, x := range sorted[:c.want] {
			wantNone(t, w, x.Kind, x.ID)
		}
		wantDue(t, w, c.now)
		wantDue(t, w, 0)
		wantDue(t, w, math.MaxUint64, sorted[c.want:]...)
		wantAll(t, w)
	}
}

// P10.2, P6: at, and just ahead of, a time of any size.
func TestDueJust(t *testing.T) {
	for _, at := range times() {
		w := made(t, Timer{1, 1, at})
		if at > 0 {
			wantDue(t, w, at-1)
			wantDue(t, w, 0)
		}
		wantAll(t, w, Timer{1, 1, at})
		wantDue(t, w, at, Timer{1, 1, at})
		wantAll(t, w)
	}
	l := []Timer{}
	for k, at := range times() {
		l = append(l, Timer{k, k, at})
	}
	back := slices.Clone(l)
	slices.Reverse(back)
	w := made(t, back...)
	wantAll(t, w, l...)
	for k, at := range times() {
		wantDue(t, w, at, l[k])
	}
}

// P10.2: of many, with few times, too, those of the same time are told as they were set.
func TestDueMany(t *testing.T) {
	for _, ats := range []int{1, 2, 3, 7, 100, 256} {
		l, sorted := many(256, ats), []Timer{}
		for at := range ats {
			for k := at; k < 256; k += ats {
				sorted = append(sorted, l[k])
			}
		}
		w := made(t, l...)
		wantAll(t, w, sorted...)
		past := 0
		for past < 256 && sorted[past].At <= uint64(ats/2) {
			past++
		}
		wantDue(t, w, uint64(ats/2), sorted[:past]...)
		wantAll(t, w, sorted[past:]...)
		wantDue(t, w, uint64(ats), sorted[past:]...)
	}
}

// P10.2: those that stayed are ahead of those of the same time that were set later, also after All and Due.
func TestDueStayed(t *testing.T) {
	w := made(t, Timer{1, 1, 9}, Timer{1, 2, 2}, Timer{1, 3, 9}, Timer{1, 4, 1})
	wantAll(t, w, Timer{1, 4, 1}, Timer{1, 2, 2}, Timer{1, 1, 9}, Timer{1, 3, 9})
	wantDue(t, w, 2, Timer{1, 4, 1}, Timer{1, 2, 2})
	set(t, w, Timer{0, 0, 9})
	set(t, w, Timer{1, 2, 9})
	set(t, w, Timer{1, 1, 9})
	wantDue(t, w, 9, Timer{1, 3, 9}, Timer{0, 0, 9}, Timer{1, 2, 9}, Timer{1, 1, 9})
}

// spoil writes into all of l, and into its spare room.
func spoil(l []Timer) []Timer {
	whole := l[:cap(l)]
	for k := range whole {
		whole[k] = Timer{5, 5, 666}
	}
	return whole
}

// P3: All and Due are new memory, with its spare room, and stay as they were told.
func TestAnswersAreNew(t *testing.T) {
	l := []Timer{{1, 1, 1}, {1, 2, 2}, {1, 3, 3}, {1, 4, 4}, {1, 5, 5}}
	w := made(t, l...)
	all, spoilt := w.All(), spoil(w.All())
	wantAll(t, w, l...)
	due := w.Due(2)
	gone := slices.Clone(due)
	set(t, w, Timer{2, 1, 0})
	set(t, w, Timer{2, 2, 9})
	if !slices.Equal(all, l) || !slices.Equal(due, gone) || spoilt[0] != (Timer{5, 5, 666}) {
		t.Error("an answer changed:", all, due, spoilt)
	}
	spoil(due)
	wantAll(t, w, Timer{2, 1, 0}, l[2], l[3], l[4], Timer{2, 2, 9})
	spoil(w.Due(3))
	wantAll(t, w, l[3], l[4], Timer{2, 2, 9})
	spoil(w.Due(math.MaxUint64))
	wantAll(t, w)
	set(t, w, l[0])
	wantAll(t, w, l[0])
}

// turned is what a plain wheel has of one timer: when it is due, and when it was set.
type turned struct {
	at   uint64
	turn int
}

// plain is a wheel done otherwise, word by word as the chapter tells it: by kind and ID, in no order.
type plain struct {
	turn int
	have map[key]turned
}

// set: Set, of a kind and ID that may be.
func (p *plain) set(x key, at uint64) api.Errno {
	if _, ok := p.have[x]; !ok && len(p.have) >= 256 {
		return api.ErrFull
	}
	p.turn++
	p.have[x] = turned{at, p.turn}
	return api.OK
}

// stop: Stop.
func (p *plain) stop(x key) bool {
	_, ok := p.have[x]
	delete(p.have, x)
	return ok
}

// upTo: those that are due at now, in order.
func (p *plain) upTo(now uint64) []Timer {
	l := []Timer{}
	for x, s := range p.have {
		if s.at <= now {
			l = append(l, Timer{x.kind, x.id, s.at})
		}
	}
	slices.SortFunc(l, func(a, b Timer) int {
		if a.At != b.At {
			return int(int64(a.At) - int64(b.At))
		}
		return p.have[key{a.Kind, a.ID}].turn - p.have[key{b.Kind, b.ID}].turn
	})
	return l
}

// due: Due.
func (p *plain) due(now uint64) []Timer {
	l := p.upTo(now)
	for _, x := range l {
		delete(p.have, key{x.Kind, x.ID})
	}
	return l
}

// play does to a wheel, and to a plain one, what is drawn, and holds them against
// each other; of each kind and ID it counts how many times one is still to fall due.
type play struct {
	s    draw.Stream
	w    *Wheel
	p    *plain
	now  uint64
	most key
	far  int
	full int
	owed map[key]int
}

// newPlay: a play with a new wheel, of kinds and IDs below those of most, and of times less than far ahead.
func newPlay(t *testing.T, seed uint64, most key, far int) *play {
	t.Helper()
	return &play{s: draw.New(seed), w: made(t), p: &plain{have: map[key]turned{}}, most: most, far: far, owed: map[key]int{}}
}

// below draws a number below n.
func (g *play) below(n int) int {
	k, s := g.s.Below(n)
	g.s = s
	return k
}

// set sets one, and counts it as owed, once.
func (g *play) set(x key) bool {
	at := g.now + uint64(g.below(g.far))
	e := g.w.Set(x.kind, x.id, at)
	switch e {
	case api.OK:
		g.owed[x] = 1
	case api.ErrFull:
		g.full++
	}
	return e == g.p.set(x, at)
}

// stop stops one, that is owed no more.
func (g *play) stop(x key) bool {
	ok := g.w.Stop(x.kind, x.id)
	if ok != (g.owed[x] == 1) {
		return false
	}
	g.owed[x] = 0
	return ok == g.p.stop(x)
}

// due has fall due what does at now, and counts it off.
func (g *play) due(now uint64) bool {
	got := g.w.Due(now)
	for _, x := range got {
		g.owed[key{x.Kind, x.ID}]--
	}
	return slices.Equal(got, g.p.due(now))
}

// step does one thing, and answers whether both did the same.
func (g *play) step() bool {
	x := key{g.below(g.most.kind), g.below(g.most.id)}
	switch k := g.below(100); {
	case k < 70:
		return g.set(x)
	case k < 85:
		return g.stop(x)
	case k < 95:
		at, ok := g.w.At(x.kind, x.id)
		want, had := g.p.have[x]
		return at == want.at && ok == had
	}
	g.now += uint64(g.below(12))
	return g.due(g.now)
}

// same: do the two hold the same?
func (g *play) same() bool {
	return slices.Equal(g.w.All(), g.p.upTo(math.MaxUint64)) && g.w.Len() == len(g.p.have) && g.w.Len() <= 256
}

// settled: is nothing owed?
func (g *play) settled() bool {
	for _, n := range g.owed {
		if n != 0 {
			return false
		}
	}
	return true
}

// P10.1 to P10.3, T3: whatever is done, a wheel does as the plain one, and each that
// was set has fallen due just once at the end, but what was stopped, or set again.
func TestAsThePlainOne(t *testing.T) {
	full := 0
	for _, most := range []key{{1, 1}, {2, 2}, {1, 20}, {4, 50}, {16, 20}, {16, 1024}} {
		for _, far := range []int{5, 40, 1000} {
			for seed := range uint64(4) {
				g := newPlay(t, seed*7919+uint64(most.id), most, far)
				for i := range 800 {
					if ok := g.step(); !ok || !g.same() {
						t.Fatalf("%v, %d, seed %d, step %d, now %d: %v, want %v", most, far, seed, i, g.now, g.w.All(), g.p.upTo(math.MaxUint64))
					}
				}
				if !g.due(math.MaxUint64) || !g.settled() || g.w.Len() != 0 {
					t.Errorf("%v, %d, seed %d: %v is owed, %d are left", most, far, seed, g.owed, g.w.Len())
				}
				full += g.full
			}
		}
	}
	if full == 0 {
		t.Error("no play came to where there is no room")
	}
}

// T3, P10.1: of hostile sets, far more than there is room for, just 256 are there.
func TestBound(t *testing.T) {
	w, full := made(t), 0
	for kind := range 16 {
		for id := range 1024 {
			if e := w.Set(kind, id, uint64(id)); e == api.ErrFull {
				full++
			}
		}
	}
	if w.Len() != 256 || len(w.All()) != 256 || full != 16*1024-256 {
		t.Error(w.Len(), full)
	}
}

// P10.3: as time goes on each falls due once, at its time, and none is told again, nor where time goes back.
func TestEachOnce(t *testing.T) {
	l := many(256, 50)
	w, seen := made(t, l...), map[key]int{}
	for now := range uint64(60) {
		for _, x := range w.Due(now) {
			if x.At != now {
				t.Errorf("at %d: %v", now, x)
			}
			seen[key{x.Kind, x.ID}]++
		}
		wantDue(t, w, now)
		wantDue(t, w, now/2)
	}
	for _, x := range l {
		if n := seen[key{x.Kind, x.ID}]; n != 1 {
			t.Errorf("%v: %d times", x, n)
		}
	}
	wantDue(t, w, math.MaxUint64)
}

// P10.3: what is set again once it fell due falls due once more; what is stopped, never.
func TestOnceMore(t *testing.T) {
	w, x := made(t, Timer{1, 1, 5}), Timer{1, 1, 5}
	for range 3 {
		wantDue(t, w, 9, x)
		wantDue(t, w, 9)
		set(t, w, x)
	}
	set(t, w, Timer{1, 1, 8})
	wantDue(t, w, 7)
	wantDue(t, w, 8, Timer{1, 1, 8})
	set(t, w, x)
	if !w.Stop(1, 1) {
		t.Error("Stop")
	}
	wantDue(t, w, math.MaxUint64)
}

// P4: two wheels to which the same is done are the same, and neither has anything of the other.
func TestSameAgain(t *testing.T) {
	g, h := newPlay(t, 99, key{5, 60}, 100), newPlay(t, 99, key{5, 60}, 100)
	for range 800 {
		if !g.step() || !h.step() {
			t.Fatal(g.w.All(), h.w.All())
		}
		wantAll(t, g.w, h.w.All()...)
	}
}
