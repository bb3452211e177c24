package reach

import (
	"math"
	"slices"
	"testing"

	"scuttlebutt/addr"
	"scuttlebutt/api"
	"scuttlebutt/draw"
)

// notIDs: numbers that no node has.
func notIDs() []int {
	return []int{0, -1, -2, -32, -33, 33, 34, 64, 255, 256, 257, 1 << 32, 1<<32 + 1, math.MaxInt64, math.MinInt64, math.MinInt64 + 1}
}

// notRounds: how many rounds are not remembered.
func notRounds() []int {
	return []int{0, -1, -8, 9, 10, 16, 256, 257, 1 << 32, 1<<32 + 1, math.MaxInt64, math.MinInt64, math.MinInt64 + 1}
}

// notHolds: how long no vote holds.
func notHolds() []uint64 {
	return []uint64{0, 1000001, 1000002, 1 << 20, 1 << 32, 1<<32 + 1, 1 << 62, 1 << 63, 1<<63 + 1, math.MaxUint64}
}

// notNows: times at which nobody votes, and no round begins.
func notNows() []uint64 {
	return []uint64{1<<62 + 1, 1<<62 + 2, 1 << 63, 1<<63 + 1, math.MaxUint64 - 1000000, math.MaxUint64}
}

// nows: times at which one may, rising.
func nows() []uint64 { return []uint64{0, 1, 10, 1 << 32, 1<<62 - 1, 1 << 62} }

// seqs: seqs of all sizes, rising.
func seqs() []uint32 {
	return []uint32{0, 1, 2, 255, 256, 1 << 16, 1<<31 - 1, 1 << 31, math.MaxUint32 - 1, math.MaxUint32}
}

// at: an address.
func at(ip uint32, port uint16) addr.Addr { return addr.Addr{IP: ip, Port: port} }

// nones: addresses that lead nowhere.
func nones() []addr.Addr {
	return []addr.Addr{{}, at(0, 1), at(0, 65535), at(1, 0), at(1<<24, 0), at(math.MaxUint32, 0)}
}

// addrs: addresses of all kinds, rising.
func addrs() []addr.Addr {
	return []addr.Addr{at(1, 1), at(1, 2), at(1, 256), at(1, 65535), at(2, 1), at(10<<24|1, 80), at(1<<31-1, 1), at(1<<31, 1), at(192<<24|168<<16, 7), at(math.MaxUint32, 1), at(math.MaxUint32, 65535)}
}

// vote: a Vote.
func vote(who int, a addr.Addr, now uint64) Vote { return Vote{Who: who, Addr: a, At: now} }

// made: a reach for which these voted, in this order.
func made(t *testing.T, rounds int, hold uint64, l ...Vote) *Reach {
	t.Helper()
	r, e := New(rounds, hold)
	if r == nil || e != api.OK {
		t.Fatalf("New(%d, %d): %v, %d", rounds, hold, r, e)
	}
	for _, v := range l {
		wantSee(t, r, v, api.OK)
	}
	return r
}

// stays: behind what is told to have done nothing, r must be what it was.
func stays(t *testing.T, r *Reach, was Reach, what ...any) {
	t.Helper()
	if *r != was {
		t.Fatalf("%v changed something: %v, was %v", what, *r, was)
	}
}

// wantSee: See must answer that; with an error nothing changes.
func wantSee(t *testing.T, r *Reach, v Vote, want api.Errno) {
	t.Helper()
	was := *r
	if e := r.See(v.Who, v.Addr, v.At); e != want {
		t.Errorf("See(%d, %v, %d): %d, want %d", v.Who, v.Addr, v.At, e, want)
	}
	if want != api.OK {
		stays(t, r, was, "See", v)
	}
}

// wantRound: Round must answer that; with an error nothing changes.
func wantRound(t *testing.T, r *Reach, seq uint32, now uint64, want api.Errno) {
	t.Helper()
	was := *r
	if e := r.Round(seq, now); e != want {
		t.Errorf("Round(%d, %d): %d, want %d", seq, now, e, want)
	}
	if want != api.OK {
		stays(t, r, was, "Round", seq, now)
	}
}

// wantHeard: Heard must answer that; with false nothing changes.
func wantHeard(t *testing.T, r *Reach, seq uint32, want bool) {
	t.Helper()
	was := *r
	if ok := r.Heard(seq); ok != want {
		t.Errorf("Heard(%d): %v, want %v", seq, ok, want)
	}
	if !want {
		stays(t, r, was, "Heard", seq)
	}
}

// wantEnd: End must answer that; with false nothing changes.
func wantEnd(t *testing.T, r *Reach, want bool) {
	t.Helper()
	was := *r
	if ok := r.End(); ok != want {
		t.Errorf("End: %v, want %v", ok, want)
	}
	if !want {
		stays(t, r, was, "End")
	}
}

// wantClass: Class must be that, and asking changes nothing.
func wantClass(t *testing.T, r *Reach, want int) {
	t.Helper()
	was := *r
	if got := r.Class(); got != want {
		t.Errorf("Class: %d, want %d", got, want)
	}
	stays(t, r, was, "Class")
}

// wantAddr: Addr at now must be that, false if it leads nowhere, and asking changes nothing.
func wantAddr(t *testing.T, r *Reach, now uint64, want addr.Addr) {
	t.Helper()
	was := *r
	if got, ok := r.Addr(now); got != want || ok == want.None() {
		t.Errorf("Addr(%d): %v, %v, want %v", now, got, ok, want)
	}
	stays(t, r, was, "Addr", now)
}

// wantVotes: Votes must be these, twice.
func wantVotes(t *testing.T, r *Reach, want ...Vote) {
	t.Helper()
	was := *r
	for range 2 {
		if got := r.Votes(); !slices.Equal(got, want) {
			t.Errorf("Votes: %v, want %v", got, want)
		}
	}
	stays(t, r, was, "Votes")
}

// wantNew: r must be as at first.
func wantNew(t *testing.T, r *Reach) {
	t.Helper()
	wantClass(t, r, Unknown)
	wantVotes(t, r)
	for _, now := range append(nows(), notNows()...) {
		wantAddr(t, r, now, addr.Addr{})
	}
	for _, seq := range seqs() {
		wantHeard(t, r, seq, false)
	}
	wantEnd(t, r, false)
	wantClass(t, r, Unknown)
}

// round does a whole round of that seq, in which something is heard, or not.
func round(t *testing.T, r *Reach, seq uint32, heard bool) {
	t.Helper()
	wantRound(t, r, seq, 0, api.OK)
	if heard {
		wantHeard(t, r, seq, true)
	}
	wantEnd(t, r, true)
}

// some: reaches of all kinds; of no round, of one that is on, and of rounds that are over.
func some(t *testing.T) []*Reach {
	t.Helper()
	on := made(t, 1, 1, vote(1, at(1, 1), 1<<62), vote(32, at(1, 1), 0))
	round(t, on, 3, true)
	wantRound(t, on, 4, 5, api.OK)
	heard := made(t, 8, 1000000, vote(17, at(5, 5), 3))
	wantRound(t, heard, 9, 1<<62, api.OK)
	wantHeard(t, heard, 9, true)
	over := made(t, 2, 10)
	for who := 1; who <= 32; who++ {
		wantSee(t, over, vote(who, at(uint32(1+who%3), 7), uint64(who)), api.OK)
	}
	for seq := range uint32(5) {
		round(t, over, seq, seq%2 == 0)
	}
	return []*Reach{made(t, 2, 10), on, heard, over}
}

// The constants are the chapter's.
func TestConstants(t *testing.T) {
	if Unknown != 0 || Public != 1 || Private != 2 {
		t.Error(Unknown, Public, Private)
	}
}

// P16.1: of each that may be a new one has nothing, whatever another one has.
func TestNew(t *testing.T) {
	others := some(t)
	for rounds := 1; rounds <= 8; rounds++ {
		for _, hold := range []uint64{1, 2, 7, 999999, 1000000} {
			wantNew(t, made(t, rounds, hold))
		}
	}
	wantVotes(t, others[2], vote(17, at(5, 5), 3))
}

// P16.1, P2, P6: of rounds and holds that may not be there is none, and ErrArg.
func TestNewRefuses(t *testing.T) {
	refused := func(rounds int, hold uint64) {
		t.Helper()
		if r, e := New(rounds, hold); r != nil || e != api.ErrArg {
			t.Errorf("New(%d, %d): %v, %d", rounds, hold, r, e)
		}
	}
	for _, rounds := range notRounds() {
		for _, hold := range append(notHolds(), 1, 1000000) {
			refused(rounds, hold)
		}
	}
	for rounds := 1; rounds <= 8; rounds++ {
		for _, hold := range notHolds() {
			refused(rounds, hold)
		}
	}
}

// P16.1: each node's vote is the address that it saw, when it did; each of what may be, up to the edges.
func TestSee(t *testing.T) {
	for who := 1; who <= 32; who++ {
		for _, a := range addrs() {
			for _, now := range nows() {
				v := vote(who, a, now)
				r := made(t, 2, 1000000, v)
				wantVotes(t, r, v)
				wantAddr(t, r, now, a)
				wantClass(t, r, Unknown)
			}
		}
	}
}

// P16.1, P2, P6: of who is no node, of an address that leads nowhere, and at a later time See is ErrArg, and nothing changes, whichever it is.
func TestSeeRefuses(t *testing.T) {
	for _, r := range some(t) {
		for _, who := range notIDs() {
			wantSee(t, r, vote(who, at(9, 9), 5), api.ErrArg)
			wantSee(t, r, vote(who, addr.Addr{}, 1<<63), api.ErrArg)
		}
		for _, who := range []int{1, 17, 32} {
			for _, a := range nones() {
				wantSee(t, r, vote(who, a, 5), api.ErrArg)
			}
			for _, now := range notNows() {
				wantSee(t, r, vote(who, at(9, 9), now), api.ErrArg)
			}
		}
	}
}

// P16.1: who votes again has its vote in the place of the one that it had, also at an earlier time, and of the same address; the others' stay.
func TestSeeAgain(t *testing.T) {
	low, high := vote(4, at(1, 1), 1), vote(6, at(1, 1), 1)
	for _, was := range nows() {
		for _, now := range nows() {
			for _, a := range []addr.Addr{at(1, 1), at(3, 3), at(8, 8)} {
				again := vote(5, a, now)
				r := made(t, 1, 5, high, vote(5, at(3, 3), was), low, again)
				wantVotes(t, r, low, again, high)
			}
		}
	}
}

// P16.1: all 32 are told by Who, in whatever order they voted.
func TestVotesByWho(t *testing.T) {
	all := []int{}
	for who := 1; who <= 32; who++ {
		all = append(all, who)
	}
	for seed := range uint64(20) {
		order, _ := draw.New(seed).Mix(all)
		r, want := made(t, 1, 1), []Vote{}
		for _, who := range order {
			wantSee(t, r, vote(who, at(uint32(33-who), uint16(who)), uint64(who%7)), api.OK)
		}
		for _, who := range all {
			want = append(want, vote(who, at(uint32(33-who), uint16(who)), uint64(who%7)))
		}
		wantVotes(t, r, want...)
	}
}

// P3: what Votes answers is new memory, spare room too: to write into it changes nothing, now or later.
func TestVotesAreNew(t *testing.T) {
	for _, r := range some(t) {
		was, want := *r, r.Votes()
		l, m := r.Votes(), r.Votes()
		l = l[:cap(l)]
		for k := range l {
			l[k] = vote(99, at(99, 99), 99)
		}
		_ = append(r.Votes(), vote(98, at(98, 98), 98))
		if !slices.Equal(m, want) {
			t.Errorf("two lists share memory: %v, want %v", m, want)
		}
		stays(t, r, was, "what was answered")
		wantVotes(t, r, want...)
		wantSee(t, r, vote(1, at(7, 7), 7), api.OK)
		if !slices.Equal(m, want) {
			t.Errorf("a See changed what was answered: %v, want %v", m, want)
		}
	}
}

// P16.2: a round is begun of each seq and at each time that may be, and it is on till its End.
func TestRound(t *testing.T) {
	for _, seq := range seqs() {
		for _, now := range nows() {
			r := made(t, 1, 1)
			wantRound(t, r, seq, now, api.OK)
			wantHeard(t, r, seq, true)
			wantEnd(t, r, true)
			wantHeard(t, r, seq, false)
			wantEnd(t, r, false)
			wantRound(t, r, seq, now, api.OK)
			wantEnd(t, r, true)
			wantEnd(t, r, false)
		}
	}
}

// P16.2, P2, P6: at a later time Round is ErrArg, whether a round is on or not.
func TestRoundRefuses(t *testing.T) {
	for _, r := range some(t) {
		for _, now := range notNows() {
			for _, seq := range seqs() {
				wantRound(t, r, seq, now, api.ErrArg)
			}
		}
	}
}

// P16.2: while a round is on Round is ErrFull, of its seq too: the one that is on stays, with its seq and with what was heard.
func TestRoundFull(t *testing.T) {
	for _, heard := range []bool{false, true} {
		for _, seq := range seqs() {
			r := made(t, 1, 1)
			wantRound(t, r, 7, 0, api.OK)
			if heard {
				wantHeard(t, r, 7, true)
			}
			for _, now := range nows() {
				wantRound(t, r, seq, now, api.ErrFull)
				wantRound(t, r, 7, now, api.ErrFull)
			}
			wantHeard(t, r, seq, false)
			wantEnd(t, r, true)
			wantClass(t, r, class(1, []bool{heard}))
			wantRound(t, r, seq, 0, api.OK)
		}
	}
}

// P16.2: something is heard just of the seq of the round that is on, as often as it comes.
func TestHeard(t *testing.T) {
	for _, is := range seqs() {
		for _, seq := range append(seqs(), is+1, is-1, is^1<<8, is^1<<16, is^1<<31) {
			r := made(t, 1, 1)
			wantHeard(t, r, seq, false)
			wantRound(t, r, is, 0, api.OK)
			wantHeard(t, r, seq, is == seq)
			wantHeard(t, r, seq, is == seq)
			wantEnd(t, r, true)
			wantHeard(t, r, seq, false)
			wantHeard(t, r, is, false)
			wantClass(t, r, class(1, []bool{is == seq}))
		}
	}
}

// P16.2: what was heard in a round is heard in no other one: not in the next, though it is of the same seq.
func TestHeardInOne(t *testing.T) {
	r := made(t, 1, 1)
	for _, seq := range []uint32{3, 3, 4, 0, 0} {
		round(t, r, seq, true)
		wantClass(t, r, Public)
		wantRound(t, r, seq, 0, api.OK)
		wantHeard(t, r, seq+1, false)
		wantEnd(t, r, true)
		wantHeard(t, r, seq, false)
		wantClass(t, r, Private)
	}
}

// class: what so many rounds tell, of all that were, in order.
func class(rounds int, heard []bool) int {
	public := Private
	for k := range rounds {
		if k >= len(heard) {
			return Unknown
		}
		if heard[len(heard)-1-k] {
			public = Public
		}
	}
	return public
}

// P16.2: Unknown till there were as many rounds as are remembered, though something was heard in each; then what the last of them tell.
func TestClass(t *testing.T) {
	for _, c := range []struct {
		rounds  int
		heard   []bool
		classes []int
	}{
		{1, []bool{true, false, true}, []int{Public, Private, Public}},
		{2, []bool{true, true, false, false, false, true}, []int{Unknown, Public, Public, Private, Private, Public}},
		{3, []bool{true, false, false, false}, []int{Unknown, Unknown, Public, Private}},
		{3, []bool{false, false, false, true, false, false, false}, []int{Unknown, Unknown, Private, Public, Public, Public, Private}},
		{8, []bool{true, false, false, false, false, false, false, false, false}, []int{Unknown, Unknown, Unknown, Unknown, Unknown, Unknown, Unknown, Public, Private}},
		{8, []bool{false, false, false, false, false, false, false, true}, []int{Unknown, Unknown, Unknown, Unknown, Unknown, Unknown, Unknown, Public}},
	} {
		r := made(t, c.rounds, 1)
		for k, heard := range c.heard {
			round(t, r, uint32(k), heard)
			wantClass(t, r, c.classes[k])
		}
	}
}

// P16.2: for each number of rounds, whatever is heard in some more of them.
func TestClassOfAll(t *testing.T) {
	for rounds := 1; rounds <= 8; rounds++ {
		for pattern := range 1 << (rounds + 2) {
			r, heard := made(t, rounds, 1), []bool{}
			for k := range rounds + 2 {
				heard = append(heard, pattern>>k&1 == 1)
				round(t, r, uint32(k), heard[k])
				wantClass(t, r, class(rounds, heard))
			}
		}
	}
}

// P16.2: a round that is on was not yet: it tells nothing, though something was heard in it.
func TestClassWhileOn(t *testing.T) {
	r := made(t, 2, 1)
	for k, want := range []int{Unknown, Unknown, Public, Public} {
		wantRound(t, r, uint32(k), 0, api.OK)
		wantClass(t, r, want)
		wantHeard(t, r, uint32(k), true)
		wantClass(t, r, want)
		wantEnd(t, r, true)
	}
	round(t, r, 1, false)
	round(t, r, 2, false)
	wantRound(t, r, 3, 0, api.OK)
	wantHeard(t, r, 3, true)
	wantClass(t, r, Private)
	wantEnd(t, r, true)
	wantClass(t, r, Public)
}

// P16.4: who is heard in a round is public till as many rounds were behind it, whoever votes for whatever, and whatever is refused.
func TestPublicAsLong(t *testing.T) {
	for rounds := 1; rounds <= 8; rounds++ {
		r := made(t, rounds, 1)
		for seq := range uint32(20) {
			round(t, r, seq, false)
		}
		wantClass(t, r, class(rounds, make([]bool, 20)))
		round(t, r, 50, true)
		for range rounds {
			wantClass(t, r, Public)
			wantSee(t, r, vote(1+rounds, at(10<<24, 1), 1<<62), api.OK)
			wantHeard(t, r, 50, false)
			wantEnd(t, r, false)
			wantRound(t, r, 51, 1<<63, api.ErrArg)
			wantClass(t, r, Public)
			round(t, r, 51, false)
		}
		wantClass(t, r, Private)
	}
}

// P16.3: of the same number of votes the least address is told, by IP, then by Port, whoever voted for it, and when.
func TestAddrLeast(t *testing.T) {
	for i, a := range addrs() {
		for k, b := range addrs() {
			least := addrs()[min(i, k)]
			wantAddr(t, made(t, 1, 10, vote(2, a, 3), vote(1, b, 4)), 5, least)
			wantAddr(t, made(t, 1, 10, vote(32, b, 4), vote(31, a, 4), vote(1, a, 3), vote(9, b, 9)), 5, least)
		}
	}
	wantAddr(t, made(t, 1, 10, vote(1, at(3, 3), 0), vote(2, at(2, 9), 0), vote(3, at(2, 8), 0), vote(4, at(7, 1), 0)), 0, at(2, 8))
}

// P16.3: the address that most votes are of is told, though a less one has votes, ahead of it and behind it.
func TestAddrMost(t *testing.T) {
	low, mid, high := at(1, 9), at(2, 2), at(3, 1)
	for i, c := range []struct {
		votes []addr.Addr
		want  addr.Addr
	}{
		{[]addr.Addr{low, high, high}, high},
		{[]addr.Addr{high, high, low}, high},
		{[]addr.Addr{high, low, high}, high},
		{[]addr.Addr{high, low, high, low}, low},
		{[]addr.Addr{low, mid, high, mid}, mid},
		{[]addr.Addr{high, high, mid, mid, low}, mid},
		{[]addr.Addr{low, low, mid, mid, mid, high, high, high, high}, high},
		{[]addr.Addr{high, high, high, mid, low, low, mid, mid}, mid},
		// Of one IP, but of two ports: that are two addresses.
		{[]addr.Addr{at(1, 1), at(1, 2), high, high}, high},
		{[]addr.Addr{at(1, 1), at(2, 1), high, high}, high},
	} {
		r := made(t, 1, 10)
		for k, a := range c.votes {
			wantSee(t, r, vote(1+3*k, a, uint64(k)), api.OK)
		}
		if got, ok := r.Addr(9); got != c.want || !ok {
			t.Errorf("%d: %v, %v, want %v", i, got, ok, c.want)
		}
	}
}

// P16.3: all 32 have a vote, the last one too.
func TestAddrOfAll(t *testing.T) {
	r := made(t, 1, 1)
	for who := 1; who <= 32; who++ {
		wantSee(t, r, vote(who, at(uint32(1+who%2), 1), 0), api.OK)
	}
	wantAddr(t, r, 0, at(1, 1))
	for _, who := range []int{32, 1} {
		wantSee(t, r, vote(who, at(2, 1), 0), api.OK)
	}
	wantAddr(t, r, 0, at(2, 1))
	wantAddr(t, r, 1, addr.Addr{})
}

// P16.3, P6: a vote is told of till its At and the hold, just, of any 64 bits; one that is of later is told of as well.
func TestAddrOld(t *testing.T) {
	for _, hold := range []uint64{1, 2, 10, 999999, 1000000} {
		for _, seen := range nows() {
			r := made(t, 1, hold, vote(3, at(4, 4), seen))
			for _, now := range append(nows(), seen, seen+hold-1) {
				if now < seen+hold {
					wantAddr(t, r, now, at(4, 4))
				}
			}
			for _, now := range append(notNows(), seen+hold, seen+hold+1, seen+hold+1000000) {
				if now >= seen+hold {
					wantAddr(t, r, now, addr.Addr{})
				}
			}
			wantAddr(t, r, seen, at(4, 4))
			wantVotes(t, r, vote(3, at(4, 4), seen))
		}
	}
}

// P16.3: votes that are older than hold count for no address, each by its own At.
func TestAddrOldCountNot(t *testing.T) {
	low, high := at(1, 1), at(2, 2)
	r := made(t, 1, 10, vote(1, low, 0), vote(2, low, 1), vote(3, high, 2), vote(4, low, 3), vote(5, high, 20))
	for _, c := range []struct {
		now  uint64
		want addr.Addr
	}{{0, low}, {9, low}, {10, low}, {11, high}, {12, low}, {13, high}, {29, high}, {30, addr.Addr{}}, {9, low}} {
		wantAddr(t, r, c.now, c.want)
	}
	wantSee(t, r, vote(3, high, 29), api.OK)
	wantAddr(t, r, 38, high)
	wantSee(t, r, vote(1, low, 30), api.OK)
	wantSee(t, r, vote(2, low, 30), api.OK)
	wantAddr(t, r, 30, low)
	if n := len(r.Votes()); n != 5 {
		t.Errorf("%d votes, want 5", n)
	}
}

// P16.3: reset, one is as at first, whatever it was; of the same rounds and hold.
func TestReset(t *testing.T) {
	for rounds := 1; rounds <= 8; rounds++ {
		for _, on := range []bool{false, true} {
			r := made(t, rounds, 7, vote(1, at(1, 1), 5), vote(32, at(1, 1), 1<<62))
			for seq := range uint32(9) {
				round(t, r, seq, true)
			}
			if on {
				wantRound(t, r, 9, 0, api.OK)
				wantHeard(t, r, 9, true)
			}
			r.Reset()
			wantNew(t, r)
			stays(t, r, *made(t, rounds, 7), "Reset and New are not the same: it")
			heard := []bool{}
			for seq := range uint32(9) {
				heard = append(heard, false)
				round(t, r, seq, false)
				wantClass(t, r, class(rounds, heard))
			}
			wantSee(t, r, vote(2, at(3, 3), 10), api.OK)
			wantAddr(t, r, 16, at(3, 3))
			wantAddr(t, r, 17, addr.Addr{})
			r.Reset()
			r.Reset()
			wantNew(t, r)
		}
	}
}

// P16.3: who is reset is reset alone.
func TestResetAlone(t *testing.T) {
	other, r := some(t)[3], some(t)[3]
	was := *other
	r.Reset()
	stays(t, other, was, "Reset of another one")
	wantClass(t, other, Public)
}

// plain is a reach, done otherwise: it holds all that was done, and looks at it from the end.
type plain struct {
	rounds int
	hold   uint64
	said   []Vote
	over   []bool
	on     []uint32
	heard  bool
}

// see: See.
func (p *plain) see(v Vote) api.Errno {
	if v.Who <= 0 || v.Who >= 33 || v.Addr.IP == 0 || v.Addr.Port == 0 || v.At > 1<<62 {
		return api.ErrArg
	}
	p.said = append(p.said, v)
	return api.OK
}

// votes: Votes.
func (p *plain) votes() []Vote {
	l := []Vote{}
	for who := 1; who <= 32; who++ {
		for k := len(p.said) - 1; k >= 0; k-- {
			if p.said[k].Who == who {
				l = append(l, p.said[k])
				break
			}
		}
	}
	return l
}

// addr: Addr.
func (p *plain) addr(now uint64) (addr.Addr, bool) {
	l := []addr.Addr{}
	for _, v := range p.votes() {
		if v.At > now || now-v.At < p.hold {
			l = append(l, v.Addr)
		}
	}
	slices.SortFunc(l, addr.Order)
	// The least that is there so often, of the greatest number that there is.
	for n := len(l); n > 0; n-- {
		for k := range l[n-1:] {
			if l[k] == l[k+n-1] {
				return l[k], true
			}
		}
	}
	return addr.Addr{}, false
}

// round: Round.
func (p *plain) round(seq uint32, now uint64) api.Errno {
	switch {
	case now > 1<<62:
		return api.ErrArg
	case len(p.on) != 0:
		return api.ErrFull
	}
	p.on, p.heard = []uint32{seq}, false
	return api.OK
}

// hear: Heard.
func (p *plain) hear(seq uint32) bool {
	is := slices.Contains(p.on, seq)
	p.heard = p.heard || is
	return is
}

// end: End.
func (p *plain) end() bool {
	was := len(p.on) != 0
	if was {
		p.over, p.on = append(p.over, p.heard), nil
	}
	return was
}

// play does to a reach, and to a plain one, what is drawn.
type play struct {
	s     draw.Stream
	r     *Reach
	p     *plain
	now   uint64
	seq   uint32
	turns map[int]int
}

// below draws a number below n.
func (g *play) below(n int) int {
	k, s := g.s.Below(n)
	g.s = s
	return k
}

// see does a See, now and then a wrong one, of few addresses and of all times about now.
func (g *play) see() bool {
	v := vote(1+g.below(32), at(uint32(1+g.below(3)), uint16(1+g.below(2))), g.now+uint64(g.below(9)))
	switch g.below(30) {
	case 0:
		v.Who = notIDs()[g.below(len(notIDs()))]
	case 1:
		v.Addr = nones()[g.below(len(nones()))]
	case 2:
		v.At = notNows()[g.below(len(notNows()))]
	}
	return g.r.See(v.Who, v.Addr, v.At) == g.p.see(v)
}

// round does a Round, now and then at a time that may not be.
func (g *play) round() bool {
	g.seq++
	now := g.now
	if g.below(8) == 0 {
		now = notNows()[g.below(len(notNows()))]
	}
	return g.r.Round(g.seq, now) == g.p.round(g.seq, now)
}

// step does one thing, and answers whether both did the same.
func (g *play) step() bool {
	switch k := g.below(200); {
	case k < 80:
		return g.see()
	case k < 120:
		return g.round()
	case k < 140:
		seq := g.seq - uint32(g.below(5))
		return g.r.Heard(seq) == g.p.hear(seq)
	case k < 180:
		return g.r.End() == g.p.end()
	case k < 199:
		g.now += uint64(g.below(12))
		return true
	}
	g.r.Reset()
	g.p = &plain{rounds: g.p.rounds, hold: g.p.hold}
	return true
}

// alike: does the reach tell what the plain one does?
func (g *play) alike() bool {
	for _, now := range []uint64{0, g.now, g.now + 5, g.now + g.p.hold, g.now + g.p.hold + 6, math.MaxUint64} {
		got, ok := g.r.Addr(now)
		if want, is := g.p.addr(now); got != want || ok != is {
			return false
		}
	}
	want := class(g.p.rounds, g.p.over)
	g.turns[want]++
	return g.r.Class() == want && slices.Equal(g.r.Votes(), g.p.votes())
}

// P16.1 to P16.4, P4: whatever is done, a reach does as the plain one.
func TestAsThePlainOne(t *testing.T) {
	turns := map[int]int{}
	for rounds := 1; rounds <= 8; rounds++ {
		for seed := range uint64(4) {
			hold := 1 + 7*seed*uint64(rounds)
			g := &play{s: draw.New(seed*7919 + uint64(rounds)), r: made(t, rounds, hold), p: &plain{rounds: rounds, hold: hold}, turns: turns}
			for i := range 600 {
				if was := *g.r; !g.step() || !g.alike() {
					t.Fatalf("%d rounds, seed %d, step %d: %v, want %v, was %v", rounds, seed, i, *g.r, *g.p, was)
				}
			}
		}
	}
	for class := Unknown; class <= Private; class++ {
		if turns[class] < 500 {
			t.Errorf("class %d: only %d times", class, turns[class])
		}
	}
}
