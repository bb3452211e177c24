package probe

import (
	"math"
	"testing"

	"scuttlebutt/api"
	"scuttlebutt/draw"
)

// numbers: 64 bits of all sizes, to be times, and how long a stage lasts.
var numbers = []uint64{0, 1, 2, 5, 31, 32, 33, 1 << 31, 1<<32 + 1, 999999, 1000000, 1000001, 1<<62 - 1, 1 << 62, 1<<62 + 1, 1 << 63, math.MaxUint64 - 1, math.MaxUint64}

// stages: the three, and what is none of them.
var stages = []int{Idle, Direct, Indirect, 3, 4, 77, -1, -2, 1 << 32, 1<<32 + 1, math.MaxInt, math.MinInt}

// seqs: numbers of probes, that are held against one another whole.
var seqs = []uint32{0, 1, 2, 7, 255, 256, 1 << 16, 1 << 31, math.MaxUint32 - 1, math.MaxUint32}

// begun: a probe of node 4, with Seq 7, begun at 10, whose stages last 3 and 5.
func begun() Probe {
	return Probe{Stage: Direct, Target: 4, Seq: 7, Until: 13, First: 3, Second: 5}
}

// of: a probe of that stage, with something in each field.
func of(stage int) Probe {
	return Probe{Stage: stage, Target: 9, Nacks: 2, Seq: 7, Until: 40, First: 3, Second: 5}
}

// must: New of what may be.
func must(t *testing.T, first, second uint64) Probe {
	t.Helper()
	p, e := New(first, second)
	if want := (Probe{First: first, Second: second}); p != want || e != api.OK {
		t.Errorf("New(%d, %d): %+v, %d", first, second, p, e)
	}
	return p
}

// wantStart: Start must answer that; p stays as it was.
func wantStart(t *testing.T, p Probe, target int, seq uint32, now uint64, want Probe, errno api.Errno) {
	t.Helper()
	was := p
	if got, e := p.Start(target, seq, now); got != want || e != errno || p != was {
		t.Errorf("%+v: Start(%d, %d, %d): %+v, %d, want %+v, %d", was, target, seq, now, got, e, want, errno)
	}
}

// wantAck: Ack must answer that; p stays as it was.
func wantAck(t *testing.T, p Probe, seq uint32, want Probe, was bool) {
	t.Helper()
	old := p
	if got, ok := p.Ack(seq); got != want || ok != was || p != old {
		t.Errorf("%+v: Ack(%d): %+v, %v, want %+v, %v", old, seq, got, ok, want, was)
	}
}

// wantNack: Nack must answer that; p stays as it was.
func wantNack(t *testing.T, p Probe, seq uint32, want Probe, was bool) {
	t.Helper()
	old := p
	if got, ok := p.Nack(seq); got != want || ok != was || p != old {
		t.Errorf("%+v: Nack(%d): %+v, %v, want %+v, %v", old, seq, got, ok, want, was)
	}
}

// wantTick: Tick must answer that; p stays as it was.
func wantTick(t *testing.T, p Probe, now uint64, want Probe, what int) {
	t.Helper()
	old := p
	if got, did := p.Tick(now); got != want || did != what || p != old {
		t.Errorf("%+v: Tick(%d): %+v, %d, want %+v, %d", old, now, got, did, want, what)
	}
}

// The numbers of the stages, and of what a Tick tells, are those of the chapter.
func TestConstants(t *testing.T) {
	if Idle != 0 || Direct != 1 || Indirect != 2 {
		t.Error(Idle, Direct, Indirect)
	}
	if Nothing != 0 || Ask != 1 || Fail != 2 {
		t.Error(Nothing, Ask, Fail)
	}
}

// P14.1: a new probe is Idle, and lasts as long as was said; nothing else is in it.
func TestNew(t *testing.T) {
	for _, first := range []uint64{1, 2, 3, 500, 999999, 1000000} {
		for _, second := range []uint64{1, 2, 5, 700, 999999, 1000000} {
			must(t, first, second)
		}
	}
}

// P14.1, P2: of 0, or above 1000000, there is no probe, whichever of the two it is.
func TestNewRefuses(t *testing.T) {
	for _, bad := range []uint64{0, 1000001, 1000002, 1 << 20, 1 << 32, 1<<32 + 1, 1 << 62, 1 << 63, 1<<63 + 1, math.MaxUint64 - 999999, math.MaxUint64} {
		for _, other := range []uint64{0, 1, 7, 1000000, 1000001, math.MaxUint64} {
			for _, c := range [][2]uint64{{bad, other}, {other, bad}, {bad, bad}} {
				if p, e := New(c[0], c[1]); p != (Probe{}) || e != api.ErrArg {
					t.Errorf("New(%d, %d): %+v, %d", c[0], c[1], p, e)
				}
			}
		}
	}
}

// P14.1: begun, it is Direct, of that target and Seq, without nacks, until now and First.
func TestStart(t *testing.T) {
	idle := must(t, 3, 5)
	wantStart(t, idle, 4, 7, 10, begun(), api.OK)
	for target := 1; target <= 32; target++ {
		for _, seq := range seqs {
			wantStart(t, idle, target, seq, 0, Probe{Stage: Direct, Target: target, Seq: seq, Until: 3, First: 3, Second: 5}, api.OK)
		}
	}
	for _, c := range []struct{ now, first, until uint64 }{
		{0, 1, 1}, {1, 1, 2}, {0, 1000000, 1000000}, {77, 1000000, 1000077}, {1 << 32, 9, 1<<32 + 9}, {1<<62 - 1, 1, 1 << 62}, {1 << 62, 1, 1<<62 + 1}, {1 << 62, 1000000, 1<<62 + 1000000},
	} {
		wantStart(t, must(t, c.first, 8), 1, 2, c.now, Probe{Stage: Direct, Target: 1, Seq: 2, Until: c.until, First: c.first, Second: 8}, api.OK)
	}
}

// P14.1: what stood in an Idle one is begun anew; First and Second stay, whatever they are.
func TestStartOfAnyIdle(t *testing.T) {
	wantStart(t, of(Idle), 31, 8, 100, Probe{Stage: Direct, Target: 31, Seq: 8, Until: 103, First: 3, Second: 5}, api.OK)
	wantStart(t, Probe{}, 1, 0, 0, Probe{Stage: Direct, Target: 1}, api.OK)
	p := Probe{Target: -4, Nacks: math.MinInt, Seq: 1, Until: math.MaxUint64, First: 6, Second: math.MaxUint64}
	wantStart(t, p, 32, 9, 20, Probe{Stage: Direct, Target: 32, Seq: 9, Until: 26, First: 6, Second: math.MaxUint64}, api.OK)
}

// P14.1: the sum of now and First is modulo 2^64, of a First that New would refuse.
func TestStartWraps(t *testing.T) {
	for _, c := range []struct{ first, now, until uint64 }{
		{math.MaxUint64, 0, math.MaxUint64}, {math.MaxUint64, 1, 0}, {math.MaxUint64, 2, 1}, {math.MaxUint64, 1 << 62, 1<<62 - 1}, {3 << 62, 1 << 62, 0}, {3<<62 + 5, 1 << 62, 5}, {1 << 63, 1 << 62, 3 << 62}, {0, 50, 50},
	} {
		wantStart(t, Probe{First: c.first, Second: 2}, 5, 6, c.now, Probe{Stage: Direct, Target: 5, Seq: 6, Until: c.until, First: c.first, Second: 2}, api.OK)
	}
}

// P14.1, P14.2: of no such target, or a later now, it is ErrArg, and it is as it was; also of one that is not Idle, as ErrArg is first.
func TestStartRefuses(t *testing.T) {
	for _, stage := range stages {
		p := of(stage)
		for _, target := range []int{0, -1, -32, 33, 34, 64, 256 + 4, 1<<32 + 4, math.MaxInt, math.MinInt, math.MinInt + 4} {
			for _, now := range []uint64{0, 1, 1 << 62, 1<<62 + 1, math.MaxUint64} {
				wantStart(t, p, target, 7, now, p, api.ErrArg)
			}
		}
		for _, now := range []uint64{1<<62 + 1, 1<<62 + 2, 1 << 63, 1<<63 + 1, math.MaxUint64} {
			for _, target := range []int{1, 9, 32} {
				wantStart(t, p, target, 8, now, p, api.ErrArg)
			}
		}
	}
}

// P14.1, P14.2: one that is not Idle is full, whatever else its Stage is, and is as it was.
func TestStartFull(t *testing.T) {
	for _, stage := range stages {
		for _, target := range []int{1, 9, 32} {
			for _, now := range []uint64{0, 39, 40, 41, 1 << 62} {
				for _, seq := range []uint32{0, 7, 8} {
					if p := of(stage); stage != Idle {
						wantStart(t, p, target, seq, now, p, api.ErrFull)
					}
				}
			}
		}
	}
}

// P14.2: an answer of its Seq ends a probe in whatever stage, but an Idle one; only First and Second stay.
func TestAck(t *testing.T) {
	idle := Probe{First: 3, Second: 5}
	for _, stage := range stages {
		for _, seq := range seqs {
			p := of(stage)
			p.Seq = seq
			if stage == Idle {
				wantAck(t, p, seq, p, false)
			} else {
				wantAck(t, p, seq, idle, true)
			}
		}
	}
	wantAck(t, idle, 0, idle, false)
	wantAck(t, Probe{}, 0, Probe{}, false)
	wantAck(t, Probe{Stage: Indirect, Target: -1, Nacks: math.MaxInt, Until: math.MaxUint64, Second: math.MaxUint64}, 0, Probe{Second: math.MaxUint64}, true)
}

// P14.2: an answer of another Seq, however near, is none, and it is as it was.
func TestAckOfAnother(t *testing.T) {
	for _, stage := range stages {
		for _, seq := range seqs {
			p := of(stage)
			p.Seq = seq
			for _, other := range append([]uint32{seq + 1, seq - 1, ^seq, seq ^ 1<<31, seq ^ 1<<16, seq ^ 256}, seqs...) {
				if other != seq {
					wantAck(t, p, other, p, false)
				}
			}
		}
	}
}

// P14.2: an Indirect one has one nack more of its Seq; nothing else of it is another. In each other stage, also in what is none, there is no nack.
func TestNack(t *testing.T) {
	for _, stage := range stages {
		for _, seq := range seqs {
			p := of(stage)
			p.Seq = seq
			if stage == Indirect {
				wantNack(t, p, seq, Probe{Stage: Indirect, Target: 9, Nacks: 3, Seq: seq, Until: 40, First: 3, Second: 5}, true)
			} else {
				wantNack(t, p, seq, p, false)
			}
		}
	}
}

// P14.2: a nack of another Seq, however near, is none, and it is as it was.
func TestNackOfAnother(t *testing.T) {
	for _, stage := range stages {
		for _, seq := range seqs {
			p := of(stage)
			p.Seq = seq
			for _, other := range append([]uint32{seq + 1, seq - 1, ^seq, seq ^ 1<<31, seq ^ 1<<16, seq ^ 256}, seqs...) {
				if other != seq {
					wantNack(t, p, other, p, false)
				}
			}
		}
	}
}

// P14.2: nacks are counted up to MaxNodes, and each beyond is still one.
func TestNacksUpToMaxNodes(t *testing.T) {
	p, _ := begun().Tick(13)
	for k := 1; k <= 70; k++ {
		n, ok := p.Nack(7)
		if !ok || n.Nacks != min(k, 32) {
			t.Fatalf("nack %d: %+v, %v", k, n, ok)
		}
		p = n
	}
	if want := (Probe{Stage: Indirect, Target: 4, Nacks: 32, Seq: 7, Until: 18, First: 3, Second: 5}); p != want {
		t.Errorf("%+v", p)
	}
}

// P14.2: of a count that no probe comes to: one more, at most MaxNodes, and as a sum modulo 2^64.
func TestNacksOfAnyCount(t *testing.T) {
	for _, c := range [][2]int{{0, 1}, {30, 31}, {31, 32}, {32, 32}, {33, 32}, {1000, 32}, {1 << 32, 32}, {math.MaxInt - 1, 32}, {-1, 0}, {-2, -1}, {-77, -76}, {math.MinInt, math.MinInt + 1}, {math.MaxInt, math.MinInt}} {
		p, want := of(Indirect), of(Indirect)
		p.Nacks, want.Nacks = c[0], c[1]
		wantNack(t, p, 7, want, true)
	}
}

// P14.2: an Idle one has nothing to do, at whatever time.
func TestTickIdle(t *testing.T) {
	for _, until := range numbers {
		for _, now := range numbers {
			p := of(Idle)
			p.Until = until
			wantTick(t, p, now, p, Nothing)
		}
	}
	wantTick(t, Probe{}, 0, Probe{}, Nothing)
	idle := must(t, 3, 5)
	wantTick(t, idle, math.MaxUint64, idle, Nothing)
}

// P14.2: ahead of Until there is nothing to do, in whatever stage.
func TestTickAhead(t *testing.T) {
	for _, stage := range stages {
		for _, until := range numbers {
			for _, now := range append([]uint64{until - 1, until - 2}, numbers...) {
				if p := of(stage); now < until {
					p.Until = until
					wantTick(t, p, now, p, Nothing)
				}
			}
		}
	}
}

// P14.2: at Until, or later, a Direct one becomes Indirect, and asks; Until is Second later than it was, not than now, and all else stays.
func TestTickDirect(t *testing.T) {
	for _, now := range []uint64{13, 14, 18, 19, 1000, 1 << 62, 1<<62 + 1, 1 << 63, math.MaxUint64} {
		wantTick(t, begun(), now, Probe{Stage: Indirect, Target: 4, Seq: 7, Until: 18, First: 3, Second: 5}, Ask)
	}
	for _, until := range numbers {
		for _, now := range numbers {
			if p := of(Direct); now >= until {
				p.Until = until
				wantTick(t, p, now, Probe{Stage: Indirect, Target: 9, Nacks: 2, Seq: 7, Until: until + 5, First: 3, Second: 5}, Ask)
			}
		}
	}
}

// P14.2: that sum is modulo 2^64.
func TestTickWraps(t *testing.T) {
	for _, c := range []struct{ until, second, after uint64 }{
		{math.MaxUint64, 1, 0}, {math.MaxUint64, 2, 1}, {math.MaxUint64 - 2, 5, 2}, {5, math.MaxUint64, 4}, {1 << 63, 1 << 63, 0}, {1<<62 + 1, 3 << 62, 1}, {0, math.MaxUint64, math.MaxUint64}, {7, 0, 7},
	} {
		p := Probe{Stage: Direct, Target: 2, Seq: 1, Until: c.until, First: 8, Second: c.second}
		wantTick(t, p, math.MaxUint64, Probe{Stage: Indirect, Target: 2, Seq: 1, Until: c.after, First: 8, Second: c.second}, Ask)
	}
}

// P14.2: at Until, or later, an Indirect one fails, and is Idle, with First and Second alone; so is one of a Stage that is none of the three.
func TestTickFails(t *testing.T) {
	for _, stage := range stages {
		for _, until := range numbers {
			for _, now := range numbers {
				if p := of(stage); now >= until && stage != Idle && stage != Direct {
					p.Until = until
					wantTick(t, p, now, Probe{First: 3, Second: 5}, Fail)
				}
			}
		}
	}
}

// P14.1, P14.2: a whole probe, tick by tick; one that is over may begin anew, and nothing of the first is in the second.
func TestWholeProbe(t *testing.T) {
	idle := must(t, 3, 5)
	wantStart(t, idle, 4, 7, 10, begun(), api.OK)
	p := begun()
	for _, now := range []uint64{10, 11, 12} {
		wantTick(t, p, now, p, Nothing)
	}
	p, _ = p.Tick(13)
	p, _ = p.Nack(7)
	want := Probe{Stage: Indirect, Target: 4, Nacks: 1, Seq: 7, Until: 18, First: 3, Second: 5}
	for _, now := range []uint64{13, 14, 15, 16, 17} {
		wantTick(t, p, now, want, Nothing)
	}
	wantAck(t, p, 7, idle, true)
	wantTick(t, p, 18, idle, Fail)
	p, _ = p.Tick(18)
	wantTick(t, p, 19, idle, Nothing)
	wantAck(t, p, 7, idle, false)
	wantNack(t, p, 7, idle, false)
	wantStart(t, p, 30, 8, 18, Probe{Stage: Direct, Target: 30, Seq: 8, Until: 21, First: 3, Second: 5}, api.OK)
}

// P14.2: a Tick that comes late goes one stage on, and no more: the next one, of the same time, goes the other.
func TestLateTicks(t *testing.T) {
	p, what := begun().Tick(1000)
	if p.Stage != Indirect || what != Ask {
		t.Fatalf("%+v, %d", p, what)
	}
	wantTick(t, p, 17, p, Nothing)
	wantTick(t, p, 1000, Probe{First: 3, Second: 5}, Fail)
}

// What may be done to a probe in one step.
const (
	doNothing = iota
	doAck
	doOther
	doNack
	doTick
	doTwoTicks
	howMany
)

// does does that at now, and answers how often it failed, and asked.
func does(p Probe, what int, now uint64) (Probe, int, int) {
	ticks := 0
	switch what {
	case doAck:
		p, _ = p.Ack(7)
	case doOther:
		p, _ = p.Ack(8)
	case doNack:
		p, _ = p.Nack(7)
	case doTick:
		ticks = 1
	case doTwoTicks:
		ticks = 2
	}
	fails, asks := 0, 0
	for range ticks {
		q, told := p.Tick(now)
		p = q
		switch told {
		case Fail:
			fails++
		case Ask:
			asks++
		}
	}
	return p, fails, asks
}

// outcome reckons from the whole script, without a probe: does one fail that was begun at 0, and does it ask? It asks at the first tick at first or later, fails at the first one behind that at first and second or later, and neither behind an answer.
func outcome(script []int, first, second int) (fails, asks int) {
	for now, what := range script {
		if what == doAck && fails == 0 {
			return 0, asks
		}
		ticks := max(0, what-doTick+1)
		for range ticks {
			switch {
			case asks == 0 && now >= first:
				asks = 1
			case asks == 1 && fails == 0 && now >= first+second:
				fails = 1
			}
		}
	}
	return fails, asks
}

// nextScript makes the script the next one of all, and answers whether there is one.
func nextScript(script []int) bool {
	for i := range script {
		script[i]++
		if script[i] < howMany {
			return true
		}
		script[i] = 0
	}
	return false
}

// P14.3: of all short scripts it fails just where both stages ran out, with no answer of that Seq: once, and behind an Ask.
func TestFailsJustThen(t *testing.T) {
	failed, answered := 0, 0
	for _, long := range [][2]int{{1, 1}, {1, 2}, {2, 1}, {2, 2}, {3, 1}, {1, 3}} {
		script := make([]int, 6)
		for {
			p := must(t, uint64(long[0]), uint64(long[1]))
			p, _ = p.Start(4, 7, 0)
			fails, asks := 0, 0
			for now, what := range script {
				q, f, a := does(p, what, uint64(now))
				p, fails, asks = q, fails+f, asks+a
			}
			wantFails, wantAsks := outcome(script, long[0], long[1])
			if fails != wantFails || asks != wantAsks {
				t.Fatalf("%v, %v: %d fails, %d asks, want %d, %d", long, script, fails, asks, wantFails, wantAsks)
			}
			if over := p.Stage == Idle; over && p != must(t, uint64(long[0]), uint64(long[1])) || fails == 1 && !over {
				t.Fatalf("%v, %v: %+v at the end", long, script, p)
			}
			if fails == 1 {
				failed++
			} else if p.Stage == Idle {
				answered++
			}
			if !nextScript(script) {
				break
			}
		}
	}
	if failed < 10000 || answered < 10000 {
		t.Errorf("the scripts hold too little: %d failed, %d answered", failed, answered)
	}
}

// P14.3: nacks, also as many as there may be, and answers of another Seq hold no probe up.
func TestOthersHoldNothingUp(t *testing.T) {
	p, asked := begun(), uint64(0)
	for now := uint64(10); now < 18; now++ {
		for range 50 {
			p, _ = p.Nack(7)
			p, _ = p.Ack(6)
			p, _ = p.Nack(8)
		}
		q, what := p.Tick(now)
		if p = q; what == Ask {
			asked = now
		} else if what != Nothing {
			t.Fatalf("%d: %d", now, what)
		}
	}
	if asked != 13 {
		t.Errorf("it asked at %d", asked)
	}
	wantTick(t, p, 18, Probe{First: 3, Second: 5}, Fail)
}

// P2, P3: a probe is a value: what is done to it leaves it as it was, and copies have nothing of one another.
func TestProbesAreValues(t *testing.T) {
	for _, stage := range stages {
		p := of(stage)
		p.Until = 10
		was, other := p, p
		p.Start(3, 1, 5)
		p.Ack(7)
		p.Nack(7)
		p.Tick(10)
		p.Tick(9)
		if p != was {
			t.Errorf("%+v, was %+v", p, was)
		}
		p, _ = p.Tick(11)
		p, _ = p.Ack(7)
		if other != was {
			t.Errorf("%+v, was %+v", other, was)
		}
	}
}

// dice draws what is done, and to what.
type dice struct{ s draw.Stream }

// below draws a number below n.
func (d *dice) below(n int) int {
	k, s := d.s.Below(n)
	d.s = s
	return k
}

// probe draws one with any numbers in it.
func (d *dice) probe() Probe {
	counts := []int{0, 1, 31, 32, 33, -1, 5000, math.MinInt}
	return Probe{
		Stage: stages[d.below(len(stages))], Target: counts[d.below(len(counts))], Nacks: counts[d.below(len(counts))],
		Seq: seqs[d.below(len(seqs))], Until: numbers[d.below(len(numbers))],
		First: numbers[d.below(len(numbers))], Second: numbers[d.below(len(numbers))],
	}
}

// step does one thing to p, and answers whether that was as the chapter tells it.
func (d *dice) step(p Probe) (Probe, bool) {
	seq := seqs[d.below(len(seqs))]
	if d.below(2) == 0 {
		seq = p.Seq
	}
	now := numbers[d.below(len(numbers))]
	switch d.below(4) {
	case 0:
		target := d.below(36) - 1
		got, e := p.Start(target, seq, now)
		switch {
		case target <= 0 || target >= 33 || now > 1<<62:
			return got, e == api.ErrArg && got == p
		case p.Stage != 0:
			return got, e == api.ErrFull && got == p
		}
		return got, e == api.OK && got == Probe{1, target, 0, seq, now + p.First, p.First, p.Second}
	case 1:
		got, ok := p.Ack(seq)
		if p.Stage == 0 || seq != p.Seq {
			return got, !ok && got == p
		}
		return got, ok && got == Probe{0, 0, 0, 0, 0, p.First, p.Second}
	case 2:
		got, ok := p.Nack(seq)
		if p.Stage != 2 || seq != p.Seq {
			return got, !ok && got == p
		}
		nacks := 32
		if p.Nacks < 32 {
			nacks = p.Nacks + 1
		}
		return got, ok && got == Probe{2, p.Target, nacks, p.Seq, p.Until, p.First, p.Second}
	}
	got, what := p.Tick(now)
	switch {
	case p.Stage == 0 || now < p.Until:
		return got, what == 0 && got == p
	case p.Stage == 1:
		return got, what == 1 && got == Probe{2, p.Target, p.Nacks, p.Seq, p.Until + p.Second, p.First, p.Second}
	}
	return got, what == 2 && got == Probe{0, 0, 0, 0, 0, p.First, p.Second}
}

// P1, P4, P14.1, P14.2: whatever stands in a probe, each call does as the chapter tells it, and the same again.
func TestAnyProbe(t *testing.T) {
	d := &dice{s: draw.New(14)}
	for range 20000 {
		p := d.probe()
		for range 6 {
			again := *d
			q, ok := d.step(p)
			if same, _ := again.step(p); !ok || same != q {
				t.Fatalf("%+v became %+v, and again %+v", p, q, same)
			}
			p = q
		}
	}
}
