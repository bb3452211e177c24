/- A timer, plain and in memory; a slice of them; a row of them that is sorted in place; a wheel of either program in memory. -/
import Derived.Test.YtmnakbpjbgjnmaaOwn
import Derived.Test.YtmnakbpjbgjnmaaSortSym
namespace Go.Proofs.Ytmnakbpjbgjnmaa
open Go.Sort Go.RowKit Go.BigFrame
set_option linter.unusedVariables false
set_option linter.unusedSimpArgs false

/-- a timer, as plain data -/
structure Tm where
  k : Int
  i : Int
  t : Int
def ct (x : Tm) : List Value := [.int .i64 x.k, .int .i64 x.i, .int .u64 x.t]
/-- a timer, as a value -/
def vt (x : Tm) : Value := .agg #[.int .i64 x.k, .int .i64 x.i, .int .u64 x.t]
/-- the type of a timer of the two programs -/
def tT : Bool → TypeId | true => 39 | false => 40
def TRow (T : TypeId) (w : World) (v : Value) (L : List Tm) : Prop := w.ownsRow 0 T 3 v L.length (L.map ct).flatten
theorem ct_all (L : List Tm) : ∀ c ∈ L.map ct, c.length = 3 := by
  intro c hc
  obtain ⟨x, _, rfl⟩ := List.mem_map.1 hc
  rfl
theorem ct_one (x : Tm) : ∀ u ∈ ct x, u.oneCell' = true := by
  intro u hu
  simp only [ct, List.mem_cons, List.not_mem_nil, or_false] at hu
  rcases hu with rfl | rfl | rfl <;> rfl
theorem cts_one (L : List Tm) : ∀ u ∈ (L.map ct).flatten, u.oneCell' = true := by
  intro u hu
  obtain ⟨c, hc, hu⟩ := List.mem_flatten.1 hu
  obtain ⟨x, _, rfl⟩ := List.mem_map.1 hc
  exact ct_one x u hu
theorem trow_form {T : TypeId} {w : World} {v : Value} {L : List Tm} (h : TRow T w v L) : (v = .slice none 0 0 ∧ L = []) ∨ ∃ g cap, v = .slice (some ⟨g, 0, none⟩) L.length cap ∧ g < w.heap.size := by
  rcases h.2 with ⟨rfl, h0⟩ | ⟨g, cap, cur, rfl, _, hg, _⟩
  · exact .inl ⟨rfl, List.eq_nil_of_length_eq_zero h0⟩
  · refine .inr ⟨g, cap, rfl, ?_⟩
    rcases Nat.lt_or_ge g w.heap.size with h1 | h1
    · exact h1
    · rw [Array.getElem?_eq_none h1] at hg; cases hg
theorem trow_open {T : TypeId} {w : World} {g n cap : Nat} {L : List Tm} (h : TRow T w (.slice (some ⟨g, 0, none⟩) n cap) L) : n = L.length ∧ ∃ C, Rw 3 g T C w ∧ C.length = cap ∧ C.take L.length = L.map ct ∧ L.length ≤ cap ∧ cap ≤ maxLen := by
  have hn : n = L.length := by
    rcases trow_form h with ⟨h1, _⟩ | ⟨_, _, h1, _⟩
    · simp at h1
    · simp at h1; exact h1.2.1
  subst hn
  obtain ⟨C, h1, h2, h3, h4, h5, _⟩ := Rw.of_own (by decide) h
  refine ⟨rfl, C, h1, h2, ?_, h3, h4⟩
  exact flatten_inj (z := 3) _ _ (by decide) (fun c hc => h1.all c (List.mem_of_mem_take hc)) (ct_all L) h5
theorem trow_close {T : TypeId} {w : World} {g : Nat} {C : List (List Value)} {L : List Tm} (h : Rw 3 g T C w) (ht : C.take L.length = L.map ct) (hl : L.length ≤ C.length) (hm : C.length ≤ maxLen) : TRow T w (.slice (some ⟨g, 0, none⟩) L.length C.length) L := by
  have := h.own hl hm
  rw [ht] at this
  exact this
theorem trow_touch {T : TypeId} {F : Nat → Prop} {w w' : World} {v : Value} {L : List Tm} (h : TRow T w v L) (ht : Touch F w w') (hF : ∀ k, v.ownBlock = some k → ¬ F k) : TRow T w' v L := own_touch h ht hF
/-- a slice of timers that can be read -/
def RdT (w : World) (a : Option Addr) (L : List Tm) : Prop :=
  0 < L.length → ∃ b off, a = some ⟨b, off, none⟩ ∧ b < w.heap.size ∧ ∀ i x, L[i]? = some x → ∀ k v, (ct x)[k]? = some v → w.cell? ⟨b, off + i * 3 + k, none⟩ = some v
theorem RdT.keep {w w' : World} {a : Option Addr} {L : List Tm} (h : RdT w a L) (hb : Below w.heap.size w w') : RdT w' a L := fun hp => by
  obtain ⟨b, off, rfl, hB, hc⟩ := h hp
  exact ⟨b, off, rfl, Nat.lt_of_lt_of_le hB hb.size, fun i x hx k v hv => (hb.cell (p := ⟨b, off + i * 3 + k, none⟩) hB).trans (hc i x hx k v hv)⟩
theorem trow_rd {T : TypeId} {w : World} {a : Option Addr} {n cap : Nat} {L : List Tm} (h : TRow T w (.slice a n cap) L) : RdT w a L := fun hp => by
  rcases trow_form h with ⟨_, rfl⟩ | ⟨g, cap', h1, hlt⟩
  · simp at hp
  · simp only [Value.slice.injEq] at h1
    obtain ⟨rfl, rfl, rfl⟩ := h1
    obtain ⟨_, C, hC, _, ht, _⟩ := trow_open h
    exact ⟨g, 0, rfl, hlt, fun i x hx k v hv => by rw [Nat.zero_add]; exact hC.cell i k _ v (taken_at ht hx) hv⟩

/-! a row that is sorted in place -/
structure SR (T : TypeId) (g cap : Nat) (D : List Tm) (w0 w : World) : Prop where
  row : ∃ C, Rw 3 g T C w ∧ C.length = cap ∧ C.take D.length = D.map ct ∧ D.length ≤ cap
  touch : Touch (fun k => k = g) w0 w
section
variable {T : TypeId} {g cap : Nat} {D : List Tm} {w0 w w' : World}
theorem SR.cell (h : SR T g cap D w0 w) {i : Nat} {x : Tm} (hx : D[i]? = some x) (k : Nat) (v : Value) (hv : (ct x)[k]? = some v) : w.cell? ⟨g, i * 3 + k, none⟩ = some v := by
  obtain ⟨C, hC, _, ht, _⟩ := h.row
  exact hC.cell i k _ v (taken_at ht hx) hv
theorem SR.free (h : SR T g cap D w0 w) (o : Nat) : w.frozen? ⟨g, o, none⟩ = false := by
  obtain ⟨C, hC, _⟩ := h.row
  exact hC.free o
theorem SR.lt (h : SR T g cap D w0 w) : g < w.heap.size := by
  obtain ⟨C, hC, _⟩ := h.row
  exact hC.lt
theorem SR.keep (h : SR T g cap D w0 w) (hb : Below w.heap.size w w') : SR T g cap D w0 w' := by
  obtain ⟨C, hC, h2⟩ := h.row
  exact ⟨⟨C, hC.touch (Touch.of_below (fun _ => False) hb) (fun h => h), h2⟩, h.touch.trans (Touch.of_below (fun _ => False) hb) (fun _ _ h => h.elim)⟩
theorem SR.put (h : SR T g cap D w0 w) (i : Nat) (x : Tm) (hi : i < D.length) : SR T g cap (D.set i x) w0 (w.setCells g (i * 3) (ct x)) := by
  obtain ⟨C, hC, hl, ht, hc⟩ := h.row
  refine ⟨⟨C.set i (ct x), hC.put i (ct x) rfl (by omega), by rw [List.length_set]; exact hl, ?_, by rw [List.length_set]; exact hc⟩, Touch.sets (F := fun k => k = g) h.touch g (fun _ => rfl) _ _⟩
  rw [List.length_set, List.take_set, ht, List.map_set]
theorem SR.start (h : ∃ C, Rw 3 g T C w ∧ C.length = cap ∧ C.take D.length = D.map ct ∧ D.length ≤ cap) : SR T g cap D w w := ⟨h, Touch.refl _ _⟩
/-- two places change what they hold: the two stores as they are made -/
theorem SR.swap (h : SR T g cap D w0 w) (i j : Nat) (x y : Tm) (hi : i < D.length) (hj : j < D.length) : SR T g cap (swp D i j x y) w0 ((w.setCells g (i * 3) (ct x)).setCells g (j * 3) (ct y)) :=
  (h.put i x hi).put j y (by rw [List.length_set]; exact hj)
theorem SR.re {w1 : World} (h : SR T g cap D w1 w) (h0 : Touch (fun k => k = g) w0 w1) : SR T g cap D w0 w := ⟨h.row, h0.trans h.touch (fun _ _ h => h)⟩
theorem SR.fresh (h : SR T g cap D w0 w) : SR T g cap D w w := ⟨h.row, Touch.refl _ _⟩
theorem SR.then_ {D' : List Tm} {w1 : World} (h : SR T g cap D w0 w1) (h2 : SR T g cap D' w1 w) : SR T g cap D' w0 w := ⟨h2.row, h.touch.trans h2.touch (fun _ _ h => h)⟩
end
end Go.Proofs.Ytmnakbpjbgjnmaa
