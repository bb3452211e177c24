/- What a law holds: its own boxes and a bag: carried as one thing. -/
import Derived.Test.YtoclhckcgjmhjaaBagItems
namespace Go.Proofs.Ytoclhckcgjmhjaa
open Go.Sort Go.RowKit Go.BigFrame
set_option linter.unusedVariables false
set_option linter.unusedSimpArgs false

def Cl (l : List (Nat × List Value)) (w : World) : Prop := ∀ x, x ∈ l → Cs x.1 x.2 w
theorem Cl.keep {l : List (Nat × List Value)} {w w' : World} (h : Cl l w) (b : Below w.heap.size w w') : Cl l w' := fun x hx => (h x hx).keep b
/-- a bag, and blocks of our own with their cells, all from B on, apart -/
structure L1 (B : Nat) (l : List (Nat × List Value)) (g room : Nat) (L : List Pi) (w : World) : Prop where
  c : Cl l w
  lo : B ≤ w.heap.size
  t : ∃ v, Bs true g room v L w ∧ ∀ b, OwnS g v b → B ≤ b ∧ ∀ x ∈ l, x.1 ≠ b
section
variable {B g room : Nat} {l l' : List (Nat × List Value)} {L L' : List Pi} {w w' : World}
theorem L1.at (h : L1 B l g room L w) (b : Nat) (vs : List Value) (hm : (b, vs) ∈ l) : Cs b vs w := h.c _ hm
theorem L1.hd {b : Nat} {vs : List Value} (h : L1 B ((b, vs) :: l) g room L w) : Cs b vs w := h.c (b, vs) (by simp)
theorem L1.tl {b : Nat} {vs : List Value} (h : L1 B ((b, vs) :: l) g room L w) : L1 B l g room L w := by
  obtain ⟨v, h1, h2⟩ := h.t
  exact ⟨fun x hx => h.c x (by simp [hx]), h.lo, v, h1, fun b hk => ⟨(h2 b hk).1, fun x hx => (h2 b hk).2 x (by simp [hx])⟩⟩
theorem L1.keep (h : L1 B l g room L w) (b : Below w.heap.size w w') : L1 B l g room L w' := by
  obtain ⟨v, h1, h2⟩ := h.t
  exact ⟨h.c.keep b, Nat.le_trans h.lo b.size, v, h1.keep b, h2⟩
theorem L1.alloc (h : L1 B l g room L w) (vs : List Value) (t : TypeId) : L1 B ((w.heap.size, vs) :: l) g room L (w.alloc (.cells vs.toArray t)) := by
  obtain ⟨v, h1, h2⟩ := h.t
  have hb : Below w.heap.size w (w.alloc (.cells vs.toArray t)) := (Below.refl _ w).alloc (Nat.le_refl _) _
  refine ⟨fun x hx => ?_, Nat.le_trans h.lo hb.size, v, h1.keep hb, fun b hk => ⟨(h2 b hk).1, fun x hx => ?_⟩⟩
  · rcases List.mem_cons.1 hx with rfl | hx
    · exact Cs.new w vs t
    · exact (h.c x hx).keep hb
  · rcases List.mem_cons.1 hx with rfl | hx
    · have := h1.lt b hk; show w.heap.size ≠ b; omega
    · exact (h2 b hk).2 x hx
/-- a new block of our own beside it -/
theorem L1.add {b : Nat} {vs : List Value} (h : L1 B l g room L w) (hb : Below w.heap.size w w') (hn : w.heap.size ≤ b) (hc : Cs b vs w') : L1 B ((b, vs) :: l) g room L w' := by
  obtain ⟨v, h1, h2⟩ := h.t
  refine ⟨fun x hx => ?_, Nat.le_trans h.lo hb.size, v, h1.keep hb, fun k hk => ⟨(h2 k hk).1, fun x hx => ?_⟩⟩
  · rcases List.mem_cons.1 hx with rfl | hx
    · exact hc
    · exact (h.c x hx).keep hb
  · rcases List.mem_cons.1 hx with rfl | hx
    · have := h1.lt k hk; show b ≠ k; omega
    · exact (h2 k hk).2 x hx
theorem L1.sub (h : L1 B l g room L w) (hs : ∀ x, x ∈ l' → x ∈ l) : L1 B l' g room L w := by
  obtain ⟨v, h1, h2⟩ := h.t
  exact ⟨fun x hx => h.c x (hs x hx), h.lo, v, h1, fun b hk => ⟨(h2 b hk).1, fun x hx => (h2 b hk).2 x (hs x hx)⟩⟩
theorem L1.len (h : L1 B l g room L w) : L.length ≤ room := by
  obtain ⟨v, h1, h2⟩ := h.t
  exact h1.len
theorem L1.ok (h : L1 B l g room L w) : ∀ x ∈ L, OkI x := by
  obtain ⟨v, h1, h2⟩ := h.t
  exact h1.ok
/-- behind a call that turned the bag alone -/
theorem L1.aft {v : Sl} (h : L1 B l g room L w) (h2 : ∀ b, OwnS g v b → B ≤ b ∧ ∀ x ∈ l, x.1 ≠ b) (ha : Aft true g room v L' w w') : L1 B l g room L' w' ∧ Below B w w' := by
  obtain ⟨v', h3, h4, h5⟩ := ha
  refine ⟨⟨fun x hx => (h.c x hx).touch h4 (fun hk => (h2 _ hk).2 x hx rfl), Nat.le_trans h.lo h4.size, v', h3, fun b hk => ?_⟩, h4.below h.lo (fun k _ hk => (h2 k hk).1)⟩
  rcases h5 b hk with h6 | h6
  · exact h2 b h6
  · exact ⟨Nat.le_trans h.lo h6, fun x hx e => by have := (h.c x hx).lt; omega⟩
/-- a cell of our own is written -/
theorem L1.set {b i : Nat} {vs : List Value} {u : Value} (h : L1 B ((b, vs) :: l) g room L w) (hB : B ≤ b) (hi : i < vs.length) (hl : ∀ x ∈ l, x.1 ≠ b) : L1 B ((b, vs.set i u) :: l) g room L (w.setCell ⟨b, i, none⟩ u) := by
  obtain ⟨v, h1, h2⟩ := h.t
  refine ⟨fun x hx => ?_, by simpa using h.lo, v, h1.touch (Touch.set (F := fun k => k = b) (Touch.refl _ w) (fun _ => rfl) u) (fun k hk e => (h2 k hk).2 (b, vs) (by simp) e.symm), fun k hk => ⟨(h2 k hk).1, fun x hx => ?_⟩⟩
  · rcases List.mem_cons.1 hx with rfl | hx
    · exact (h.c (b, vs) (by simp)).set i u hi
    · exact (h.c x (by simp [hx])).far _ _ (fun e => hl x hx e.symm)
  · rcases List.mem_cons.1 hx with rfl | hx
    · exact (h2 k hk).2 (b, vs) (by simp)
    · exact (h2 k hk).2 x (by simp [hx])
end
def L1A (B : Nat) (l : List (Nat × List Value)) (g room : Nat) (L : List Pi) (v : Value) (w : World) (e : Ending) (w' : World) : Prop := e = .returned v ∧ L1 B l g room L w' ∧ Below B w w'
def NewL (B : Nat) (l : List (Nat × List Value)) (room : Nat) (w : World) (e : Ending) (w' : World) : Prop := ∃ g, e = .returned (.tuple #[.pointer (some ⟨g, 0, none⟩), .int .i64 0]) ∧ L1 B l g room [] w' ∧ Below w.heap.size w w'
theorem newL {B : Nat} {l : List (Nat × List Value)} {room : Nat} {w : World} (hB : B ≤ w.heap.size) (hl : Cl l w) (h1 : 1 ≤ room) (h2 : room ≤ 256) :
    Calls Try.prog 21 #[.int .i64 (room : Nat)] w (NewL B l room w) := by
  refine (new_ok room h1 h2 w).mono ?_
  rintro e w' ⟨g, rfl, hg, h, b⟩
  refine ⟨g, rfl, ⟨hl.keep b, Nat.le_trans hB b.size, _, h, fun k hk => ?_⟩, b⟩
  have hk2 : k = g := by
    rcases hk with hk | hk
    · exact hk
    · simp [Sl.v, Value.ownBlock] at hk
  subst hk2
  exact ⟨by omega, fun x hx e => by have := (hl x hx).lt; omega⟩
section
variable {B g room : Nat} {l : List (Nat × List Value)} {L : List Pi} {w : World}
theorem L1.put (h : L1 B l g room L w) (x1 x2 x3 x4 : Int) (x5 : ByteArray) (x6 : Int) (hx0 : 0 ≤ x6) (hx1 : x6 ≤ 18446744073709551615) (hxs : x5.size ≤ 140737488355328) {e : Int} {L' : List Pi} (he : putE room ⟨x1, x2, x3, x4, x5, x6⟩ L = e) (hL : putL room ⟨x1, x2, x3, x4, x5, x6⟩ L = L') :
    Calls Try.prog 32 #[.pointer (some ⟨g, 0, none⟩), .agg #[.int .u32 x1, .int .u16 x2, .int .u32 x3, .int .u16 x4, .string x5, .int .u64 x6]] w (L1A B l g room L' (.int .i64 e) w) := by
  obtain ⟨v, h1, h2⟩ := h.t
  refine (put_any x1 x2 x3 x4 x5 x6 hx0 hx1 hxs g room v L w h1).mono ?_
  rintro e' w' ⟨rfl, ha⟩
  rw [he]
  rw [hL] at ha
  exact ⟨rfl, h.aft h2 ha⟩
theorem L1.take (h : L1 B l g room L w) (now pick : Int) (hp : pick ≤ 9223372036854775807) {x1 x2 x3 x4 : Int} {x5 : ByteArray} {x6 e : Int} {L' : List Pi} (hx : takeX now pick L = ⟨x1, x2, x3, x4, x5, x6⟩) (he : (pickE now pick L).2 = e) (hL : takeL now pick L = L') :
    Calls Try.prog 23 #[.pointer (some ⟨g, 0, none⟩), .int .u64 now, .int .i64 pick] w (L1A B l g room L' (.tuple #[.agg #[.int .u32 x1, .int .u16 x2, .int .u32 x3, .int .u16 x4, .string x5, .int .u64 x6], .int .i64 e]) w) := by
  obtain ⟨v, h1, h2⟩ := h.t
  refine (take_any now pick hp g room v L w h1).mono ?_
  rintro e' w' ⟨rfl, ha⟩
  rw [he, hx]
  rw [hL] at ha
  exact ⟨rfl, h.aft h2 ha⟩
theorem L1.drop (h : L1 B l g room L w) (pick : Int) (hp : pick ≤ 9223372036854775807) {x1 x2 x3 x4 : Int} {x5 : ByteArray} {x6 e : Int} {L' : List Pi} (hx : takeX 18446744073709551615 pick L = ⟨x1, x2, x3, x4, x5, x6⟩) (he : (pickE 18446744073709551615 pick L).2 = e) (hL : takeL 18446744073709551615 pick L = L') :
    Calls Try.prog 26 #[.pointer (some ⟨g, 0, none⟩), .int .i64 pick] w (L1A B l g room L' (.tuple #[.agg #[.int .u32 x1, .int .u16 x2, .int .u32 x3, .int .u16 x4, .string x5, .int .u64 x6], .int .i64 e]) w) := by
  obtain ⟨v, h1, h2⟩ := h.t
  refine (drop_any pick hp g room v L w h1).mono ?_
  rintro e' w' ⟨rfl, ha⟩
  rw [he, hx]
  rw [hL] at ha
  exact ⟨rfl, h.aft h2 ha⟩
theorem L1.twice (h : L1 B l g room L w) (pick : Int) (hp : pick ≤ 9223372036854775807) {e : Int} {L' : List Pi} (he : twiceE room pick L = e) (hL : twiceL room pick L = L') :
    Calls Try.prog 28 #[.pointer (some ⟨g, 0, none⟩), .int .i64 pick] w (L1A B l g room L' (.int .i64 e) w) := by
  obtain ⟨v, h1, h2⟩ := h.t
  refine (twice_any pick hp g room v L w h1).mono ?_
  rintro e' w' ⟨rfl, ha⟩
  rw [he]
  rw [hL] at ha
  exact ⟨rfl, h.aft h2 ha⟩
theorem L1.delay (h : L1 B l g room L w) (pick by_ : Int) (hp : pick ≤ 9223372036854775807) (hb0 : 0 ≤ by_ ∧ by_ ≤ 18446744073709551615) {e : Int} {L' : List Pi} (he : (pickE 18446744073709551615 pick L).2 = e) (hL : delayL pick by_ L = L') :
    Calls Try.prog 30 #[.pointer (some ⟨g, 0, none⟩), .int .i64 pick, .int .u64 by_] w (L1A B l g room L' (.int .i64 e) w) := by
  obtain ⟨v, h1, h2⟩ := h.t
  refine (delay_any pick by_ hp hb0 g room v L w h1).mono ?_
  rintro e' w' ⟨rfl, ha⟩
  rw [he]
  rw [hL] at ha
  exact ⟨rfl, h.aft h2 ha⟩
theorem L1.ready (h : L1 B l g room L w) (now : Int) {n : Int} (hn : (readyP now L : Int) = n) :
    Calls Try.prog 36 #[.pointer (some ⟨g, 0, none⟩), .int .u64 now] w fun e w' => e = .returned (.int .i64 n) ∧ Below w.heap.size w w' := by
  obtain ⟨v, h1, h2⟩ := h.t
  rw [← hn]
  exact ready_any now g room v L w h1
theorem L1.lenx (h : L1 B l g room L w) {n : Int} (hn : (L.length : Int) = n) :
    Calls Try.prog 35 #[.pointer (some ⟨g, 0, none⟩)] w fun e w' => e = .returned (.int .i64 n) ∧ w' = w := by
  obtain ⟨v, h1, h2⟩ := h.t
  rw [← hn]
  exact len_any g room v L w h1
theorem L1.items (h : L1 B l g room L w) : Calls Try.prog 38 #[.pointer (some ⟨g, 0, none⟩)] w (ItemsPost L w) := by
  obtain ⟨v, h1, h2⟩ := h.t
  exact items_any g room v L w h1
end
end Go.Proofs.Ytoclhckcgjmhjaa
