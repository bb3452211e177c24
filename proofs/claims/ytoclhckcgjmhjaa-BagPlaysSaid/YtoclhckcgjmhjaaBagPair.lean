/- The program's bag and the reference's side by side, beside boxes of the law's own. -/
import Derived.Test.YtoclhckcgjmhjaaBagRefPut
import Derived.Test.YtoclhckcgjmhjaaBagLaw
namespace Go.Proofs.Ytoclhckcgjmhjaa
open Go.Sort Go.RowKit Go.BigFrame
set_option linter.unusedVariables false
set_option linter.unusedSimpArgs false

structure P2 (B : Nat) (l : List (Nat × List Value)) (gx gy room : Nat) (L M : List Pi) (w0 w : World) : Prop where
  c : Cl l w
  lo : B ≤ w.heap.size
  bel : Below B w0 w
  t : ∃ v u, Bs true gx room v L w ∧ Bs false gy room u M w ∧ (∀ b, OwnS gx v b → B ≤ b ∧ ∀ x ∈ l, x.1 ≠ b) ∧ (∀ b, OwnS gy u b → B ≤ b ∧ ∀ x ∈ l, x.1 ≠ b) ∧ ∀ b, OwnS gx v b → ¬ OwnS gy u b
section
variable {B gx gy room : Nat} {l l' : List (Nat × List Value)} {L L' M M' : List Pi} {w0 w w' : World}
theorem P2.keep (h : P2 B l gx gy room L M w0 w) (b : Below w.heap.size w w') : P2 B l gx gy room L M w0 w' := by
  obtain ⟨v, u, h1, h2, h3⟩ := h.t
  exact ⟨h.c.keep b, Nat.le_trans h.lo b.size, h.bel.trans (b.mono h.lo), v, u, h1.keep b, h2.keep b, h3⟩
theorem P2.alloc (h : P2 B l gx gy room L M w0 w) (vs : List Value) (t : TypeId) : P2 B ((w.heap.size, vs) :: l) gx gy room L M w0 (w.alloc (.cells vs.toArray t)) := by
  have hb : Below w.heap.size w (w.alloc (.cells vs.toArray t)) := (Below.refl _ w).alloc (Nat.le_refl _) _
  obtain ⟨v, u, h1, h2, h3, h4, h5⟩ := h.t
  refine ⟨fun x hx => ?_, Nat.le_trans h.lo hb.size, h.bel.trans (hb.mono h.lo), v, u, h1.keep hb, h2.keep hb, fun b hk => ⟨(h3 b hk).1, fun x hx => ?_⟩, fun b hk => ⟨(h4 b hk).1, fun x hx => ?_⟩, h5⟩
  · rcases List.mem_cons.1 hx with rfl | hx
    · exact Cs.new w vs t
    · exact (h.c x hx).keep hb
  · rcases List.mem_cons.1 hx with rfl | hx
    · have := h1.lt b hk; show w.heap.size ≠ b; omega
    · exact (h3 b hk).2 x hx
  · rcases List.mem_cons.1 hx with rfl | hx
    · have := h2.lt b hk; show w.heap.size ≠ b; omega
    · exact (h4 b hk).2 x hx
theorem P2.hd {b : Nat} {vs : List Value} (h : P2 B ((b, vs) :: l) gx gy room L M w0 w) : Cs b vs w := h.c (b, vs) (by simp)
theorem P2.snd {b b2 : Nat} {vs vs2 : List Value} (h : P2 B ((b2, vs2) :: (b, vs) :: l) gx gy room L M w0 w) : Cs b vs w := h.c (b, vs) (by simp)
theorem P2.trd {b b2 b3 : Nat} {vs vs2 vs3 : List Value} (h : P2 B ((b3, vs3) :: (b2, vs2) :: (b, vs) :: l) gx gy room L M w0 w) : Cs b vs w := h.c (b, vs) (by simp)
theorem P2.sub (h : P2 B l gx gy room L M w0 w) (hs : ∀ x, x ∈ l' → x ∈ l) : P2 B l' gx gy room L M w0 w := by
  obtain ⟨v, u, h1, h2, h3, h4, h5⟩ := h.t
  exact ⟨fun x hx => h.c x (hs x hx), h.lo, h.bel, v, u, h1, h2, fun b hk => ⟨(h3 b hk).1, fun x hx => (h3 b hk).2 x (hs x hx)⟩, fun b hk => ⟨(h4 b hk).1, fun x hx => (h4 b hk).2 x (hs x hx)⟩, h5⟩
theorem P2.aftX {v u : Sl} (h : P2 B l gx gy room L M w0 w) (h2 : Bs false gy room u M w) (h3 : ∀ b, OwnS gx v b → B ≤ b ∧ ∀ x ∈ l, x.1 ≠ b) (h4 : ∀ b, OwnS gy u b → B ≤ b ∧ ∀ x ∈ l, x.1 ≠ b) (h5 : ∀ b, OwnS gx v b → ¬ OwnS gy u b)
    (ha : Aft true gx room v L' w w') : P2 B l gx gy room L' M w0 w' := by
  obtain ⟨v', k1, k2, k3⟩ := ha
  refine ⟨fun x hx => (h.c x hx).touch k2 (fun hk => (h3 _ hk).2 x hx rfl), Nat.le_trans h.lo k2.size, h.bel.trans (k2.below h.lo (fun k _ hk => (h3 k hk).1)), v', u, k1, h2.touch k2 (fun b hb hk => h5 b hk hb), fun b hk => ?_, h4, fun b hk hk2 => ?_⟩
  · rcases k3 b hk with q | q
    · exact h3 b q
    · exact ⟨Nat.le_trans h.lo q, fun x hx e => by have := (h.c x hx).lt; omega⟩
  · rcases k3 b hk with q | q
    · exact h5 b q hk2
    · have := h2.lt b hk2; omega
theorem P2.aftY {v u : Sl} (h : P2 B l gx gy room L M w0 w) (h1 : Bs true gx room v L w) (h3 : ∀ b, OwnS gx v b → B ≤ b ∧ ∀ x ∈ l, x.1 ≠ b) (h4 : ∀ b, OwnS gy u b → B ≤ b ∧ ∀ x ∈ l, x.1 ≠ b) (h5 : ∀ b, OwnS gx v b → ¬ OwnS gy u b)
    (ha : Aft false gy room u M' w w') : P2 B l gx gy room L M' w0 w' := by
  obtain ⟨u', k1, k2, k3⟩ := ha
  refine ⟨fun x hx => (h.c x hx).touch k2 (fun hk => (h4 _ hk).2 x hx rfl), Nat.le_trans h.lo k2.size, h.bel.trans (k2.below h.lo (fun k _ hk => (h4 k hk).1)), v, u', h1.touch k2 (fun b hb hk => h5 b hb hk), k1, h3, fun b hk => ?_, fun b hk hk2 => ?_⟩
  · rcases k3 b hk with q | q
    · exact h4 b q
    · exact ⟨Nat.le_trans h.lo q, fun x hx e => by have := (h.c x hx).lt; omega⟩
  · rcases k3 b hk2 with q | q
    · exact h5 b hk q
    · have := h1.lt b hk; omega
end
def P2A (B : Nat) (l : List (Nat × List Value)) (gx gy room : Nat) (L M : List Pi) (v : Value) (w0 : World) (e : Ending) (w' : World) : Prop := e = .returned v ∧ P2 B l gx gy room L M w0 w'
section
variable {B gx gy room : Nat} {l : List (Nat × List Value)} {L M : List Pi} {w0 w : World}
theorem P2.tkX (h : P2 B l gx gy room L M w0 w) (now pick : Int) (hp : pick ≤ 9223372036854775807) {x1 x2 x3 x4 : Int} {x5 : ByteArray} {x6 e : Int} {L' : List Pi} (hx : takeX now pick L = ⟨x1, x2, x3, x4, x5, x6⟩) (he : (pickE now pick L).2 = e) (hL : takeL now pick L = L') :
    Calls Try.prog 23 #[.pointer (some ⟨gx, 0, none⟩), .int .u64 now, .int .i64 pick] w (P2A B l gx gy room L' M (.tuple #[.agg #[.int .u32 x1, .int .u16 x2, .int .u32 x3, .int .u16 x4, .string x5, .int .u64 x6], .int .i64 e]) w0) := by
  obtain ⟨v, u, h1, h2, h3, h4, h5⟩ := h.t
  refine (take_any now pick hp gx room v L w h1).mono ?_
  rintro e' w' ⟨rfl, ha⟩
  rw [he, hx]
  rw [hL] at ha
  exact ⟨rfl, h.aftX h2 h3 h4 h5 ha⟩
theorem P2.tkY (h : P2 B l gx gy room L M w0 w) (now pick : Int) (hp : pick ≤ 9223372036854775807) {x1 x2 x3 x4 : Int} {x5 : ByteArray} {x6 e : Int} {M' : List Pi} (hx : takeX now pick M = ⟨x1, x2, x3, x4, x5, x6⟩) (he : (pickE now pick M).2 = e) (hL : takeL now pick M = M') :
    Calls Try.prog 24 #[.pointer (some ⟨gy, 0, none⟩), .int .u64 now, .int .i64 pick] w (P2A B l gx gy room L M' (.tuple #[.agg #[.int .u32 x1, .int .u16 x2, .int .u32 x3, .int .u16 x4, .string x5, .int .u64 x6], .int .i64 e]) w0) := by
  obtain ⟨v, u, h1, h2, h3, h4, h5⟩ := h.t
  refine (rtake_any now pick hp gy room u M w h2).mono ?_
  rintro e' w' ⟨rfl, ha⟩
  rw [he, hx]
  rw [hL] at ha
  exact ⟨rfl, h.aftY h1 h3 h4 h5 ha⟩
theorem P2.dropX (h : P2 B l gx gy room L M w0 w) (pick : Int) (hp : pick ≤ 9223372036854775807) {x1 x2 x3 x4 : Int} {x5 : ByteArray} {x6 e : Int} {L' : List Pi} (hx : takeX 18446744073709551615 pick L = ⟨x1, x2, x3, x4, x5, x6⟩) (he : (pickE 18446744073709551615 pick L).2 = e) (hL : takeL 18446744073709551615 pick L = L') :
    Calls Try.prog 26 #[.pointer (some ⟨gx, 0, none⟩), .int .i64 pick] w (P2A B l gx gy room L' M (.tuple #[.agg #[.int .u32 x1, .int .u16 x2, .int .u32 x3, .int .u16 x4, .string x5, .int .u64 x6], .int .i64 e]) w0) := by
  obtain ⟨v, u, h1, h2, h3, h4, h5⟩ := h.t
  refine (drop_any pick hp gx room v L w h1).mono ?_
  rintro e' w' ⟨rfl, ha⟩
  rw [he, hx]
  rw [hL] at ha
  exact ⟨rfl, h.aftX h2 h3 h4 h5 ha⟩
theorem P2.dropY (h : P2 B l gx gy room L M w0 w) (pick : Int) (hp : pick ≤ 9223372036854775807) {x1 x2 x3 x4 : Int} {x5 : ByteArray} {x6 e : Int} {M' : List Pi} (hx : takeX 18446744073709551615 pick M = ⟨x1, x2, x3, x4, x5, x6⟩) (he : (pickE 18446744073709551615 pick M).2 = e) (hL : takeL 18446744073709551615 pick M = M') :
    Calls Try.prog 27 #[.pointer (some ⟨gy, 0, none⟩), .int .i64 pick] w (P2A B l gx gy room L M' (.tuple #[.agg #[.int .u32 x1, .int .u16 x2, .int .u32 x3, .int .u16 x4, .string x5, .int .u64 x6], .int .i64 e]) w0) := by
  obtain ⟨v, u, h1, h2, h3, h4, h5⟩ := h.t
  refine (rdrop_any pick hp gy room u M w h2).mono ?_
  rintro e' w' ⟨rfl, ha⟩
  rw [he, hx]
  rw [hL] at ha
  exact ⟨rfl, h.aftY h1 h3 h4 h5 ha⟩
theorem P2.twiceX (h : P2 B l gx gy room L M w0 w) (pick : Int) (hp : pick ≤ 9223372036854775807) {e : Int} {L' : List Pi} (he : twiceE room pick L = e) (hL : twiceL room pick L = L') :
    Calls Try.prog 28 #[.pointer (some ⟨gx, 0, none⟩), .int .i64 pick] w (P2A B l gx gy room L' M (.int .i64 e) w0) := by
  obtain ⟨v, u, h1, h2, h3, h4, h5⟩ := h.t
  refine (twice_any pick hp gx room v L w h1).mono ?_
  rintro e' w' ⟨rfl, ha⟩
  rw [he]
  rw [hL] at ha
  exact ⟨rfl, h.aftX h2 h3 h4 h5 ha⟩
theorem P2.twiceY (h : P2 B l gx gy room L M w0 w) (pick : Int) (hp : pick ≤ 9223372036854775807) {e : Int} {M' : List Pi} (he : twiceE room pick M = e) (hL : twiceL room pick M = M') :
    Calls Try.prog 29 #[.pointer (some ⟨gy, 0, none⟩), .int .i64 pick] w (P2A B l gx gy room L M' (.int .i64 e) w0) := by
  obtain ⟨v, u, h1, h2, h3, h4, h5⟩ := h.t
  refine (rtwice_any pick hp gy room u M w h2).mono ?_
  rintro e' w' ⟨rfl, ha⟩
  rw [he]
  rw [hL] at ha
  exact ⟨rfl, h.aftY h1 h3 h4 h5 ha⟩
theorem P2.delayX (h : P2 B l gx gy room L M w0 w) (pick by_ : Int) (hp : pick ≤ 9223372036854775807) (hb0 : 0 ≤ by_ ∧ by_ ≤ 18446744073709551615) {e : Int} {L' : List Pi} (he : (pickE 18446744073709551615 pick L).2 = e) (hL : delayL pick by_ L = L') :
    Calls Try.prog 30 #[.pointer (some ⟨gx, 0, none⟩), .int .i64 pick, .int .u64 by_] w (P2A B l gx gy room L' M (.int .i64 e) w0) := by
  obtain ⟨v, u, h1, h2, h3, h4, h5⟩ := h.t
  refine (delay_any pick by_ hp hb0 gx room v L w h1).mono ?_
  rintro e' w' ⟨rfl, ha⟩
  rw [he]
  rw [hL] at ha
  exact ⟨rfl, h.aftX h2 h3 h4 h5 ha⟩
theorem P2.delayY (h : P2 B l gx gy room L M w0 w) (pick by_ : Int) (hp : pick ≤ 9223372036854775807) (hb0 : 0 ≤ by_ ∧ by_ ≤ 18446744073709551615) {e : Int} {M' : List Pi} (he : (pickE 18446744073709551615 pick M).2 = e) (hL : delayL pick by_ M = M') :
    Calls Try.prog 31 #[.pointer (some ⟨gy, 0, none⟩), .int .i64 pick, .int .u64 by_] w (P2A B l gx gy room L M' (.int .i64 e) w0) := by
  obtain ⟨v, u, h1, h2, h3, h4, h5⟩ := h.t
  refine (rdelay_any pick by_ hp hb0 gy room u M w h2).mono ?_
  rintro e' w' ⟨rfl, ha⟩
  rw [he]
  rw [hL] at ha
  exact ⟨rfl, h.aftY h1 h3 h4 h5 ha⟩
theorem P2.readyX (h : P2 B l gx gy room L M w0 w) (now : Int) {n : Nat} (hn : readyP now L = n) :
    Calls Try.prog 36 #[.pointer (some ⟨gx, 0, none⟩), .int .u64 now] w fun e w' => e = .returned (.int .i64 (n : Nat)) ∧ Below w.heap.size w w' := by
  obtain ⟨v, u, h1, h2, h3, h4, h5⟩ := h.t
  rw [← hn]
  exact ready_any now gx room v L w h1
theorem P2.readyY (h : P2 B l gx gy room L M w0 w) (now : Int) {n : Nat} (hn : readyP now M = n) :
    Calls Try.prog 37 #[.pointer (some ⟨gy, 0, none⟩), .int .u64 now] w fun e w' => e = .returned (.int .i64 (n : Nat)) ∧ Below w.heap.size w w' := by
  obtain ⟨v, u, h1, h2, h3, h4, h5⟩ := h.t
  rw [← hn]
  refine (rready_any now gy room u M w h2).mono ?_
  rintro e w' ⟨rfl, rfl⟩
  exact ⟨rfl, Below.refl _ _⟩
theorem P2.lenX (h : P2 B l gx gy room L M w0 w) {n : Nat} (hn : L.length = n) :
    Calls Try.prog 35 #[.pointer (some ⟨gx, 0, none⟩)] w fun e w' => e = .returned (.int .i64 (n : Nat)) ∧ Below w.heap.size w w' := by
  obtain ⟨v, u, h1, h2, h3, h4, h5⟩ := h.t
  rw [← hn]
  refine (len_any gx room v L w h1).mono ?_
  rintro e w' ⟨rfl, rfl⟩
  exact ⟨rfl, Below.refl _ _⟩
theorem P2.items (h : P2 B l gx gy room L M w0 w) : Calls Try.prog 38 #[.pointer (some ⟨gx, 0, none⟩)] w (ItemsPost L w) := by
  obtain ⟨v, u, h1, h2, h3, h4, h5⟩ := h.t
  exact items_any gx room v L w h1
/-- the reference's slice, read through its box -/
theorem P2.boxY (h : P2 B l gx gy room L M w0 w) : ∃ a c, w.cell? ⟨gy, 0, none⟩ = some (.slice a M.length c) ∧ gy < w.heap.size ∧ RdI w a M := by
  obtain ⟨v, u, h1, h2, h3, h4, h5⟩ := h.t
  have hn := h2.n
  obtain ⟨a, n, c⟩ := u
  simp only at hn
  subst hn
  exact ⟨a, c, h2.box.cell 0 _ rfl, h2.box.lt, h2.rd⟩
end
end Go.Proofs.Ytoclhckcgjmhjaa
