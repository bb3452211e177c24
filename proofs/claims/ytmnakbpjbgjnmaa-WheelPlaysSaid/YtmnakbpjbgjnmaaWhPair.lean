/- The program's wheel and the reference's side by side, beside boxes and slices of the law's own. -/
import Derived.Test.YtmnakbpjbgjnmaaWhRefDue
import Derived.Test.YtmnakbpjbgjnmaaWhEx
namespace Go.Proofs.Ytmnakbpjbgjnmaa
open Go.Sort Go.RowKit Go.BigFrame
set_option linter.unusedVariables false
set_option linter.unusedSimpArgs false

/-- two wheels, boxes l, slices of timers R (of either program's type) -/
def P2 (l : List (Nat × List Value)) (R : List (Bool × Sl × List Tm)) (gx gy : Nat) (L M : List Tm) (w0 w : World) : Prop :=
  ∃ v u : Sl, Ws true gx v L w ∧ Ws false gy u M w ∧ (∀ b, OwnS gx v b → w0.heap.size ≤ b ∧ ¬ OwnS gy u b) ∧ (∀ b, OwnS gy u b → w0.heap.size ≤ b) ∧ Below w0.heap.size w0 w ∧
    (∀ x ∈ l, Cs x.1 x.2 w ∧ ¬ OwnS gx v x.1 ∧ ¬ OwnS gy u x.1) ∧ ∀ r ∈ R, TRow (tT r.1) w r.2.1.v r.2.2 ∧ ∀ b, r.2.1.v.ownBlock = some b → ¬ OwnS gx v b ∧ ¬ OwnS gy u b
section
variable {l l' : List (Nat × List Value)} {R : List (Bool × Sl × List Tm)} {gx gy : Nat} {L L' M M' : List Tm} {w0 w w' : World}
theorem P2.bel (h : P2 l R gx gy L M w0 w) : Below w0.heap.size w0 w := h.choose_spec.choose_spec.2.2.2.2.1
theorem P2.box (h : P2 l R gx gy L M w0 w) {x : Nat × List Value} (hx : x ∈ l) : Cs x.1 x.2 w := (h.choose_spec.choose_spec.2.2.2.2.2.1 x hx).1
theorem P2.hd {b : Nat} {vs : List Value} (h : P2 ((b, vs) :: l) R gx gy L M w0 w) : Cs b vs w := h.box (x := (b, vs)) (by simp)
theorem P2.row (h : P2 l R gx gy L M w0 w) {r : Bool × Sl × List Tm} (hr : r ∈ R) : TRow (tT r.1) w r.2.1.v r.2.2 := (h.choose_spec.choose_spec.2.2.2.2.2.2 r hr).1
theorem P2.rd (h : P2 l R gx gy L M w0 w) {r : Bool × Sl × List Tm} (hr : r ∈ R) : RdT w r.2.1.a r.2.2 := trow_rd (n := r.2.1.n) (cap := r.2.1.c) (h.row hr)
theorem P2.sub (h : P2 l R gx gy L M w0 w) (hs : ∀ x, x ∈ l' → x ∈ l) : P2 l' [] gx gy L M w0 w := by
  obtain ⟨v, u, h1, h2, h3, h4, h5, h6, h7⟩ := h
  exact ⟨v, u, h1, h2, h3, h4, h5, fun x hx => h6 x (hs x hx), by simp⟩
theorem P2.alloc (h : P2 l R gx gy L M w0 w) (vs : List Value) (t : TypeId) : P2 ((w.heap.size, vs) :: l) R gx gy L M w0 (w.alloc (.cells vs.toArray t)) := by
  have hb : Below w.heap.size w (w.alloc (.cells vs.toArray t)) := (Below.refl _ w).alloc (Nat.le_refl _) _
  obtain ⟨v, u, h1, h2, h3, h4, h5, h6, h7⟩ := h
  refine ⟨v, u, h1.keep hb, h2.keep hb, h3, h4, h5.trans (hb.mono h5.size), fun x hx => ?_, fun r hr => ⟨trow_touch (F := fun _ => False) (h7 r hr).1 (Touch.of_below _ hb) (fun _ _ h => h), (h7 r hr).2⟩⟩
  rcases List.mem_cons.1 hx with rfl | hx
  · exact ⟨Cs.new w vs t, fun ho => by have := h1.lt _ ho; simp at this, fun ho => by have := h2.lt _ ho; simp at this⟩
  · exact ⟨(h6 x hx).1.keep hb, (h6 x hx).2⟩
theorem P2.aftX {v u : Sl} (h1 : Ws true gx v L w) (h2 : Ws false gy u M w) (h3 : ∀ b, OwnS gx v b → w0.heap.size ≤ b ∧ ¬ OwnS gy u b) (h4 : ∀ b, OwnS gy u b → w0.heap.size ≤ b) (h5 : Below w0.heap.size w0 w)
    (h6 : ∀ x ∈ l, Cs x.1 x.2 w ∧ ¬ OwnS gx v x.1 ∧ ¬ OwnS gy u x.1) (h7 : ∀ r ∈ R, TRow (tT r.1) w r.2.1.v r.2.2 ∧ ∀ b, r.2.1.v.ownBlock = some b → ¬ OwnS gx v b ∧ ¬ OwnS gy u b) {v' : Sl} (k1 : Ws true gx v' L' w') (k2 : Touch (OwnS gx v) w w') (k3 : ∀ b, OwnS gx v' b → OwnS gx v b ∨ w.heap.size ≤ b) : P2 l R gx gy L' M w0 w' := by
  refine ⟨v', u, k1, h2.touch k2 (fun b hb hk => (h3 b hk).2 hb), fun b hb => ?_, h4, h5.trans (k2.below h5.size (fun b _ hk => (h3 b hk).1)), fun x hx => ⟨(h6 x hx).1.touch k2 (h6 x hx).2.1, fun ho => ?_, (h6 x hx).2.2⟩, fun r hr => ⟨trow_touch (h7 r hr).1 k2 (fun b hb => ((h7 r hr).2 b hb).1), fun b hb => ⟨fun ho => ?_, ((h7 r hr).2 b hb).2⟩⟩⟩
  · rcases k3 b hb with q | q
    · exact h3 b q
    · exact ⟨Nat.le_trans h5.size q, fun ho => by have := h2.lt b ho; omega⟩
  · rcases k3 _ ho with q | q
    · exact (h6 x hx).2.1 q
    · have := (h6 x hx).1.lt; omega
  · rcases k3 b ho with q | q
    · exact ((h7 r hr).2 b hb).1 q
    · have := (World.ownsRow.lt (h7 r hr).1 b hb).2; omega
theorem P2.aftY {v u : Sl} (h1 : Ws true gx v L w) (h2 : Ws false gy u M w) (h3 : ∀ b, OwnS gx v b → w0.heap.size ≤ b ∧ ¬ OwnS gy u b) (h4 : ∀ b, OwnS gy u b → w0.heap.size ≤ b) (h5 : Below w0.heap.size w0 w)
    (h6 : ∀ x ∈ l, Cs x.1 x.2 w ∧ ¬ OwnS gx v x.1 ∧ ¬ OwnS gy u x.1) (h7 : ∀ r ∈ R, TRow (tT r.1) w r.2.1.v r.2.2 ∧ ∀ b, r.2.1.v.ownBlock = some b → ¬ OwnS gx v b ∧ ¬ OwnS gy u b) {u' : Sl} (k1 : Ws false gy u' M' w') (k2 : Touch (OwnS gy u) w w') (k3 : ∀ b, OwnS gy u' b → OwnS gy u b ∨ w.heap.size ≤ b) : P2 l R gx gy L M' w0 w' := by
  refine ⟨v, u', h1.touch k2 (fun b hb hk => (h3 b hb).2 hk), k1, fun b hb => ⟨(h3 b hb).1, fun ho => ?_⟩, fun b hb => ?_, h5.trans (k2.below h5.size (fun b _ hk => h4 b hk)), fun x hx => ⟨(h6 x hx).1.touch k2 (h6 x hx).2.2, (h6 x hx).2.1, fun ho => ?_⟩, fun r hr => ⟨trow_touch (h7 r hr).1 k2 (fun b hb => ((h7 r hr).2 b hb).2), fun b hb => ⟨((h7 r hr).2 b hb).1, fun ho => ?_⟩⟩⟩
  · rcases k3 b ho with q | q
    · exact (h3 b hb).2 q
    · have := h1.lt b hb; omega
  · rcases k3 b hb with q | q
    · exact h4 b q
    · exact Nat.le_trans h5.size q
  · rcases k3 _ ho with q | q
    · exact (h6 x hx).2.2 q
    · have := (h6 x hx).1.lt; omega
  · rcases k3 b ho with q | q
    · exact ((h7 r hr).2 b hb).2 q
    · have := (World.ownsRow.lt (h7 r hr).1 b hb).2; omega
theorem P2.keep (h : P2 l R gx gy L M w0 w) (hb : Below w.heap.size w w') : P2 l R gx gy L M w0 w' := by
  obtain ⟨v, u, h1, h2, h3, h4, h5, h6, h7⟩ := h
  exact P2.aftX h1 h2 h3 h4 h5 h6 h7 (h1.keep hb) (Touch.of_below _ hb) (fun _ h => .inl h)
/-- a box's cell is written -/
theorem P2.set {b : Nat} {vs : List Value} (h : P2 [(b, vs)] [] gx gy L M w0 w) (hb0 : w0.heap.size ≤ b) (i : Nat) (x : Value) (hi : i < vs.length) : P2 [(b, vs.set i x)] [] gx gy L M w0 (w.setCell ⟨b, i, none⟩ x) := by
  obtain ⟨v, u, h1, h2, h3, h4, h5, h6, h7⟩ := h
  have h6' := h6 (b, vs) (by simp)
  have ht : Touch (fun k => k = b) w (w.setCell ⟨b, i, none⟩ x) := Touch.set (F := fun k => k = b) (Touch.refl _ w) (fun _ => rfl) _
  refine ⟨v, u, h1.touch ht (fun k hk e => h6'.2.1 (by subst e; exact hk)), h2.touch ht (fun k hk e => h6'.2.2 (by subst e; exact hk)), h3, h4, h5.trans (ht.below h5.size (fun k _ e => by subst e; exact hb0)), fun y hy => ?_, by simp⟩
  obtain rfl := List.mem_singleton.1 hy
  exact ⟨h6'.1.set i x hi, h6'.2⟩
theorem P2.setX (h : P2 l R gx gy L M w0 w) (k i t : Int) (ht0 : 0 ≤ t) (ht1 : t ≤ 18446744073709551615) {e : Int} {L' : List Tm} (he : setE k i L = e) (hL : setL k i t L = L') :
    Calls Try.prog 16 #[.pointer (some ⟨gx, 0, none⟩), .int .i64 k, .int .i64 i, .int .u64 t] w (fun e' w' => e' = .returned (.int .i64 e) ∧ P2 l R gx gy L' M w0 w') := by
  obtain ⟨v, u, h1, h2, h3, h4, h5, h6, h7⟩ := h
  refine (set_any k i t ht0 ht1 gx v L w h1).mono ?_
  rintro e' w' ⟨rfl, v', k1, k2, k3⟩
  rw [he]; rw [hL] at k1
  exact ⟨rfl, P2.aftX h1 h2 h3 h4 h5 h6 h7 k1 k2 k3⟩
theorem P2.setY (h : P2 l R gx gy L M w0 w) (k i t : Int) (ht0 : 0 ≤ t) (ht1 : t ≤ 18446744073709551615) {e : Int} {M' : List Tm} (he : setE k i M = e) (hL : setL k i t M = M') :
    Calls Try.prog 17 #[.pointer (some ⟨gy, 0, none⟩), .int .i64 k, .int .i64 i, .int .u64 t] w (fun e' w' => e' = .returned (.int .i64 e) ∧ P2 l R gx gy L M' w0 w') := by
  obtain ⟨v, u, h1, h2, h3, h4, h5, h6, h7⟩ := h
  refine (rset_any k i t ht0 ht1 gy u M w h2).mono ?_
  rintro e' w' ⟨rfl, v', k1, k2, k3⟩
  rw [he]; rw [hL] at k1
  exact ⟨rfl, P2.aftY h1 h2 h3 h4 h5 h6 h7 k1 k2 k3⟩
theorem P2.stopX (h : P2 l R gx gy L M w0 w) (k i : Int) {e : Bool} {L' : List Tm} (he : hasT k i L = e) (hL : stopL k i L = L') :
    Calls Try.prog 10 #[.pointer (some ⟨gx, 0, none⟩), .int .i64 k, .int .i64 i] w (fun e' w' => e' = .returned (.bool e) ∧ P2 l R gx gy L' M w0 w') := by
  obtain ⟨v, u, h1, h2, h3, h4, h5, h6, h7⟩ := h
  refine (stop_any k i gx v L w h1).mono ?_
  rintro e' w' ⟨rfl, v', k1, k2, k3⟩
  rw [he]; rw [hL] at k1
  exact ⟨rfl, P2.aftX h1 h2 h3 h4 h5 h6 h7 k1 k2 k3⟩
theorem P2.stopY (h : P2 l R gx gy L M w0 w) (k i : Int) {e : Bool} {M' : List Tm} (he : hasT k i M = e) (hL : stopL k i M = M') :
    Calls Try.prog 11 #[.pointer (some ⟨gy, 0, none⟩), .int .i64 k, .int .i64 i] w (fun e' w' => e' = .returned (.bool e) ∧ P2 l R gx gy L M' w0 w') := by
  obtain ⟨v, u, h1, h2, h3, h4, h5, h6, h7⟩ := h
  refine (rstop_any k i gy u M w h2).mono ?_
  rintro e' w' ⟨rfl, v', k1, k2, k3⟩
  rw [he]; rw [hL] at k1
  exact ⟨rfl, P2.aftY h1 h2 h3 h4 h5 h6 h7 k1 k2 k3⟩
theorem P2.atX (h : P2 l R gx gy L M w0 w) (k i : Int) {t : Int} {e : Bool} (ht : atT k i L = t) (he : hasT k i L = e) :
    Calls Try.prog 14 #[.pointer (some ⟨gx, 0, none⟩), .int .i64 k, .int .i64 i] w (fun e' w' => e' = .returned (.tuple #[.int .u64 t, .bool e]) ∧ P2 l R gx gy L M w0 w') := by
  have h' := h
  obtain ⟨v, u, h1, -⟩ := h
  refine (at_any k i gx v L w h1).mono ?_
  rintro e' w' ⟨rfl, b⟩
  rw [ht, he]
  exact ⟨rfl, h'.keep b⟩
theorem P2.atY (h : P2 l R gx gy L M w0 w) (k i : Int) {t : Int} {e : Bool} (ht : atT k i M = t) (he : hasT k i M = e) :
    Calls Try.prog 15 #[.pointer (some ⟨gy, 0, none⟩), .int .i64 k, .int .i64 i] w (fun e' w' => e' = .returned (.tuple #[.int .u64 t, .bool e]) ∧ P2 l R gx gy L M w0 w') := by
  have h' := h
  obtain ⟨v, u, -, h2, -⟩ := h
  refine (rat_any k i gy u M w h2).mono ?_
  rintro e' w' ⟨rfl, b⟩
  rw [ht, he]
  exact ⟨rfl, h'.keep b⟩
theorem P2.lenX (h : P2 l R gx gy L M w0 w) {n : Nat} (hn : L.length = n) :
    Calls Try.prog 20 #[.pointer (some ⟨gx, 0, none⟩)] w (fun e' w' => e' = .returned (.int .i64 (n : Nat)) ∧ w' = w) := by
  obtain ⟨v, u, h1, -⟩ := h
  rw [← hn]
  exact len_any gx v L w h1
theorem P2.allX (h : P2 l R gx gy L M w0 w) {D : List Tm} (hD : sortT L = D) :
    Calls Try.prog 18 #[.pointer (some ⟨gx, 0, none⟩)] w (fun e' w' => ∃ s : Sl, e' = .returned (.slice s.a D.length s.c) ∧ P2 l ((true, s, D) :: R) gx gy L M w0 w') := by
  have h' := h
  obtain ⟨v, u, h1, h2, h3, h4, h5, h6, h7⟩ := h
  refine (all_any gx v L w h1).mono ?_
  rintro e' w' ⟨s, rfl, ⟨n1, n2, n3⟩, b⟩
  rw [hD] at n1 n2
  refine ⟨s, by rw [n2], v, u, h1.keep b, h2.keep b, h3, h4, h5.trans (b.mono h5.size), fun x hx => ⟨(h6 x hx).1.keep b, (h6 x hx).2⟩, fun r hr => ?_⟩
  rcases List.mem_cons.1 hr with rfl | hr
  · exact ⟨n1, fun k hk => ⟨fun ho => by have := n3 k hk; have := h1.lt k ho; omega, fun ho => by have := n3 k hk; have := h2.lt k ho; omega⟩⟩
  · exact ⟨trow_touch (F := fun _ => False) (h7 r hr).1 (Touch.of_below _ b) (fun _ _ h => h), (h7 r hr).2⟩
theorem P2.allY (h : P2 l R gx gy L M w0 w) {D : List Tm} (hD : sortT M = D) :
    Calls Try.prog 19 #[.pointer (some ⟨gy, 0, none⟩)] w (fun e' w' => ∃ s : Sl, e' = .returned (.slice s.a D.length s.c) ∧ P2 l ((false, s, D) :: R) gx gy L M w0 w') := by
  have h' := h
  obtain ⟨v, u, h1, h2, h3, h4, h5, h6, h7⟩ := h
  refine (rall_any gy u M w h2).mono ?_
  rintro e' w' ⟨s, rfl, ⟨n1, n2, n3⟩, b⟩
  rw [hD] at n1 n2
  refine ⟨s, by rw [n2], v, u, h1.keep b, h2.keep b, h3, h4, h5.trans (b.mono h5.size), fun x hx => ⟨(h6 x hx).1.keep b, (h6 x hx).2⟩, fun r hr => ?_⟩
  rcases List.mem_cons.1 hr with rfl | hr
  · exact ⟨n1, fun k hk => ⟨fun ho => by have := n3 k hk; have := h1.lt k ho; omega, fun ho => by have := n3 k hk; have := h2.lt k ho; omega⟩⟩
  · exact ⟨trow_touch (F := fun _ => False) (h7 r hr).1 (Touch.of_below _ b) (fun _ _ h => h), (h7 r hr).2⟩
theorem P2.dueX (h : P2 l R gx gy L M w0 w) (now : Int) {D L' : List Tm} (hD : sortT (dueL now L) = D) (hL : restL now L = L') :
    Calls Try.prog 12 #[.pointer (some ⟨gx, 0, none⟩), .int .u64 now] w (fun e' w' => ∃ s : Sl, e' = .returned (.slice s.a D.length s.c) ∧ P2 l ((true, s, D) :: R) gx gy L' M w0 w') := by
  obtain ⟨v, u, h1, h2, h3, h4, h5, h6, h7⟩ := h
  refine (due_any now gx v L w h1).mono ?_
  rintro e' w' ⟨s, v', rfl, ⟨n1, n2, n3⟩, k1, k2, k3, k4⟩
  rw [hD] at n1 n2
  rw [hL] at k1
  obtain ⟨v9, u9, -⟩ := P2.aftX (L' := L') h1 h2 h3 h4 h5 h6 h7 k1 k2 k3
  have hu := fun b (hb : OwnS gy u b) => h2.lt b hb
  refine ⟨s, by rw [n2], v', u, k1, h2.touch k2 (fun b hb hk => (h3 b hk).2 hb), fun b hb => ?_, h4, h5.trans (k2.below h5.size (fun b _ hk => (h3 b hk).1)), fun x hx => ⟨(h6 x hx).1.touch k2 (h6 x hx).2.1, fun ho => ?_, (h6 x hx).2.2⟩, fun r hr => ?_⟩
  · rcases k3 b hb with q | q
    · exact h3 b q
    · exact ⟨Nat.le_trans h5.size q, fun ho => by have := h2.lt b ho; omega⟩
  · rcases k3 _ ho with q | q
    · exact (h6 x hx).2.1 q
    · have := (h6 x hx).1.lt; omega
  · rcases List.mem_cons.1 hr with rfl | hr
    · exact ⟨n1, fun b hb => ⟨k4 b hb, fun ho => by have := n3 b hb; have := hu b ho; omega⟩⟩
    · refine ⟨trow_touch (h7 r hr).1 k2 (fun b hb => ((h7 r hr).2 b hb).1), fun b hb => ⟨fun ho => ?_, ((h7 r hr).2 b hb).2⟩⟩
      rcases k3 b ho with q | q
      · exact ((h7 r hr).2 b hb).1 q
      · have := (World.ownsRow.lt (h7 r hr).1 b hb).2; omega
theorem P2.dueY (h : P2 l R gx gy L M w0 w) (now : Int) {D M' : List Tm} (hD : sortT (dueL now M) = D) (hL : restL now M = M') :
    Calls Try.prog 13 #[.pointer (some ⟨gy, 0, none⟩), .int .u64 now] w (fun e' w' => ∃ s : Sl, e' = .returned (.slice s.a D.length s.c) ∧ P2 l ((false, s, D) :: R) gx gy L M' w0 w') := by
  obtain ⟨v, u, h1, h2, h3, h4, h5, h6, h7⟩ := h
  refine (rdue_any now gy u M w h2).mono ?_
  rintro e' w' ⟨s, u', rfl, ⟨n1, n2, n3⟩, k1, k2, k3, k4⟩
  rw [hD] at n1 n2
  rw [hL] at k1
  refine ⟨s, by rw [n2], v, u', h1.touch k2 (fun b hb hk => (h3 b hb).2 hk), k1, fun b hb => ⟨(h3 b hb).1, fun ho => ?_⟩, fun b hb => ?_, h5.trans (k2.below h5.size (fun b _ hk => h4 b hk)), fun x hx => ⟨(h6 x hx).1.touch k2 (h6 x hx).2.2, (h6 x hx).2.1, fun ho => ?_⟩, fun r hr => ?_⟩
  · rcases k3 b ho with q | q
    · exact (h3 b hb).2 q
    · have := h1.lt b hb; omega
  · rcases k3 b hb with q | q
    · exact h4 b q
    · exact Nat.le_trans h5.size q
  · rcases k3 _ ho with q | q
    · exact (h6 x hx).2.2 q
    · have := (h6 x hx).1.lt; omega
  · rcases List.mem_cons.1 hr with rfl | hr
    · exact ⟨n1, fun b hb => ⟨fun ho => by have := n3 b hb; have := h1.lt b ho; omega, k4 b hb⟩⟩
    · refine ⟨trow_touch (h7 r hr).1 k2 (fun b hb => ((h7 r hr).2 b hb).2), fun b hb => ⟨((h7 r hr).2 b hb).1, fun ho => ?_⟩⟩
      rcases k3 b ho with q | q
      · exact ((h7 r hr).2 b hb).2 q
      · have := (World.ownsRow.lt (h7 r hr).1 b hb).2; omega
end
theorem P2.start {gx : Nat} {w0 w1 w2 : World} (hb : Below w0.heap.size w0 w1) (hg : w1.heap.size ≤ gx) (h1 : Ws true gx ⟨none, 0, 0⟩ [] w2) (b2 : Below w1.heap.size w1 w2) :
    P2 [] [] gx w2.heap.size [] [] w0 (w2.alloc (.cells #[.slice none 0 0] 29)) := by
  have ho : ∀ g k, OwnS g ⟨none, 0, 0⟩ k → k = g := fun g k hk => by
    rcases hk with hk | hk
    · exact hk
    · simp [Sl.v, Value.ownBlock] at hk
  have b3 : Below w2.heap.size w2 (w2.alloc (.cells #[.slice none 0 0] 29)) := (Below.refl _ _).alloc (Nat.le_refl _) _
  have hs := hb.size
  have hs2 := b2.size
  have hl := h1.box.lt
  refine ⟨⟨none, 0, 0⟩, ⟨none, 0, 0⟩, h1.keep b3, ⟨Cs.new w2 [.slice none 0 0] _, World.ownsRow_nil _ _ _ _, fun e => by simp [Sl.v, Value.ownBlock] at e, ⟨by simp, by simp, by simp⟩⟩, fun b hb2 => ?_, fun b hb2 => by rw [ho _ _ hb2]; omega, (hb.trans (b2.mono hs)).trans (b3.mono (by omega)), by simp, by simp⟩
  rw [ho _ _ hb2]
  exact ⟨by omega, fun h => by have := ho _ _ h; omega⟩
end Go.Proofs.Ytmnakbpjbgjnmaa
