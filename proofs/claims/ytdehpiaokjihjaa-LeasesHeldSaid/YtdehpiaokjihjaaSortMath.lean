/- Plain mathematics of a stable sort: what is sorted, what holds the same in each key's order, and the steps of Go's stable sort. -/
import Derived.WalkKit
namespace Go.Proofs.Ytdehpiaokjihjaa
set_option linter.unusedVariables false
set_option linter.unusedSimpArgs false
section
variable {α : Type} (key : α → Int)
/-- sorted by its key -/
def Srt (l : List α) : Prop := l.Pairwise fun a b => key a ≤ key b
/-- as long, and of each key the same, in the same order -/
def Eqv (l m : List α) : Prop := l.length = m.length ∧ ∀ k, l.filter (fun x => decide (key x = k)) = m.filter (fun x => decide (key x = k))
variable {key}
theorem Eqv.refl (l : List α) : Eqv key l l := ⟨rfl, fun _ => rfl⟩
theorem Eqv.symm {l m : List α} (h : Eqv key l m) : Eqv key m l := ⟨h.1.symm, fun k => (h.2 k).symm⟩
theorem Eqv.trans {l m n : List α} (h : Eqv key l m) (h2 : Eqv key m n) : Eqv key l n := ⟨h.1.trans h2.1, fun k => (h.2 k).trans (h2.2 k)⟩
theorem Eqv.app {l m l' m' : List α} (h : Eqv key l m) (h2 : Eqv key l' m') : Eqv key (l ++ l') (m ++ m') :=
  ⟨by simp only [List.length_append, h.1, h2.1], fun k => by simp only [List.filter_append, h.2 k, h2.2 k]⟩
theorem Eqv.mem {l m : List α} (h : Eqv key l m) {x : α} (hx : x ∈ l) : x ∈ m := by
  have h1 : x ∈ l.filter (fun y => decide (key y = key x)) := List.mem_filter.2 ⟨hx, by simp⟩
  rw [h.2] at h1
  exact (List.mem_filter.1 h1).1
theorem Eqv.swap {X Y : List α} (h : ∀ x ∈ X, ∀ y ∈ Y, key y < key x) : Eqv key (X ++ Y) (Y ++ X) := by
  refine ⟨by simp only [List.length_append]; omega, fun k => ?_⟩
  simp only [List.filter_append]
  by_cases hx : ∃ x ∈ X, key x = k
  · obtain ⟨x, hx, rfl⟩ := hx
    have : Y.filter (fun y => decide (key y = key x)) = [] := by
      rw [List.filter_eq_nil_iff]; intro y hy; have := h x hx y hy; simp; omega
    rw [this]; simp
  · have : X.filter (fun y => decide (key y = k)) = [] := by
      rw [List.filter_eq_nil_iff]; intro y hy; simp; intro e; exact hx ⟨y, hy, e⟩
    rw [this]; simp
theorem Eqv.nil {l : List α} (h : Eqv key [] l) : l = [] := List.eq_nil_of_length_eq_zero h.1.symm
theorem srt_app {l m : List α} : Srt key (l ++ m) ↔ Srt key l ∧ Srt key m ∧ ∀ x ∈ l, ∀ y ∈ m, key x ≤ key y := List.pairwise_append
theorem srt_cons {x : α} {l : List α} : Srt key (x :: l) ↔ (∀ y ∈ l, key x ≤ key y) ∧ Srt key l := List.pairwise_cons
theorem srt_nil : Srt key ([] : List α) := List.Pairwise.nil
theorem srt_one (x : α) : Srt key [x] := by rw [srt_cons]; exact ⟨by simp, srt_nil⟩
/-- sorted, and the same in each key: the same -/
theorem srt_uniq : ∀ {l m : List α}, Srt key l → Srt key m → Eqv key l m → l = m
  | [], m, _, _, h => (h.nil).symm
  | x :: l, [], _, _, h => by have := h.1; simp at this
  | x :: l, y :: m, h1, h2, h => by
    have a1 := srt_cons.1 h1
    have a2 := srt_cons.1 h2
    have hx : key y ≤ key x := by
      have := h.mem (List.mem_cons_self (a := x) (l := l))
      rcases List.mem_cons.1 this with rfl | h3
      · exact Int.le_refl _
      · exact a2.1 x h3
    have hy : key x ≤ key y := by
      have := h.symm.mem (List.mem_cons_self (a := y) (l := m))
      rcases List.mem_cons.1 this with rfl | h3
      · exact Int.le_refl _
      · exact a1.1 y h3
    have he : key x = key y := by omega
    have h0 := h.2 (key x)
    rw [List.filter_cons_of_pos (by simp), List.filter_cons_of_pos (by simp [he])] at h0
    injection h0 with h3 h4
    subst h3
    congr 1
    refine srt_uniq a1.2 a2.2 ⟨by have := h.1; simpa using this, fun k => ?_⟩
    by_cases hk : key x = k
    · subst hk; exact h4
    · have h5 := h.2 k
      rw [List.filter_cons_of_neg (by simpa using hk), List.filter_cons_of_neg (by simpa using hk)] at h5
      exact h5

/-! two places change what they hold -/
def swp (D : List α) (i j : Nat) (x y : α) : List α := (D.set i x).set j y
theorem swp_len (D : List α) (i j : Nat) (x y : α) : (swp D i j x y).length = D.length := by simp [swp]
theorem set_at (P Q : List α) (x y : α) {i : Nat} (hi : i = P.length) : (P ++ x :: Q).set i y = P ++ y :: Q := by
  subst hi; rw [List.set_append_right _ _ (Nat.le_refl _)]; simp
/-- neighbours -/
theorem swp_next (P Q : List α) (x y : α) {i : Nat} (hi : i = P.length) : swp (P ++ x :: y :: Q) (i + 1) i x y = P ++ y :: x :: Q := by
  unfold swp
  rw [show P ++ x :: y :: Q = (P ++ [x]) ++ y :: Q by simp, set_at (P ++ [x]) Q y x (by simp [hi]), show (P ++ [x]) ++ x :: Q = P ++ x :: (x :: Q) by simp, set_at P _ x y hi]
theorem swp_next' (P Q : List α) (x y : α) {i : Nat} (hi : i = P.length) : swp (P ++ x :: y :: Q) i (i + 1) y x = P ++ y :: x :: Q := by
  unfold swp
  rw [set_at P _ x y hi, show P ++ y :: y :: Q = (P ++ [y]) ++ y :: Q by simp, set_at (P ++ [y]) Q y x (by simp [hi])]; simp
theorem swp_far (P V Q : List α) (x y : α) {i j : Nat} (hi : i = P.length) (hj : j = P.length + 1 + V.length) : swp (P ++ x :: V ++ y :: Q) i j y x = P ++ y :: V ++ x :: Q := by
  unfold swp
  rw [show P ++ x :: V ++ y :: Q = P ++ x :: (V ++ y :: Q) by simp, set_at P _ x y hi, show P ++ y :: (V ++ y :: Q) = (P ++ y :: V) ++ y :: Q by simp, set_at (P ++ y :: V) Q y x (by simp; omega)]

theorem at_mid (P Q : List α) (x : α) {i : Nat} (hi : i = P.length) : (P ++ x :: Q)[i]? = some x := by
  subst hi; rw [List.getElem?_append_right (Nat.le_refl _)]; simp
theorem snoc_of {l : List α} (h : 0 < l.length) : ∃ r x, l = r ++ [x] := by
  have : l ≠ [] := by intro e; subst e; simp at h
  exact ⟨l.dropLast, l.getLast this, (List.dropLast_concat_getLast this).symm⟩
theorem cons_of {l : List α} (h : 0 < l.length) : ∃ x r, l = x :: r := by
  match l, h with
  | x :: r, _ => exact ⟨x, r, rfl⟩
theorem part_of {l : List α} {k : Nat} (h : k ≤ l.length) : ∃ a b, l = a ++ b ∧ a.length = k := ⟨l.take k, l.drop k, (List.take_append_drop k l).symm, by rw [List.length_take]; omega⟩
theorem srt_le_last {r : List α} {x : α} (h : Srt key (r ++ [x])) : ∀ y ∈ r ++ [x], key y ≤ key x := by
  intro y hy
  rcases List.mem_append.1 hy with h1 | h1
  · exact (srt_app.1 h).2.2 y h1 x (by simp)
  · simp at h1; subst h1; exact Int.le_refl _
theorem srt_ge_head {r : List α} {x : α} (h : Srt key (x :: r)) : ∀ y ∈ x :: r, key x ≤ key y := by
  intro y hy
  rcases List.mem_cons.1 hy with rfl | h1
  · exact Int.le_refl _
  · exact (srt_cons.1 h).1 y h1

/-! insertion -/
/-- the outer loop at i: what stands from a to i is sorted -/
def InsO (key : α → Int) (X M Z : List α) (i : Nat) (D : List α) : Prop := ∃ S R M1, D = X ++ S ++ R ++ Z ∧ X.length + S.length = i ∧ Srt key S ∧ M = M1 ++ R ∧ Eqv key M1 S
/-- the inner one at j -/
def InsN (key : α → Int) (X M Z : List α) (i j : Nat) (D : List α) : Prop := ∃ S1 x S2 R M1, D = X ++ S1 ++ x :: S2 ++ R ++ Z ∧ X.length + S1.length = j ∧ X.length + S1.length + S2.length = i ∧ Srt key (S1 ++ S2) ∧ (∀ y ∈ S2, key x < key y) ∧ M = M1 ++ R ∧ Eqv key M1 (S1 ++ x :: S2)
theorem InsO.start {X M Z : List α} (h : 0 < M.length) : InsO key X M Z (X.length + 1) (X ++ M ++ Z) := by
  obtain ⟨x, r, rfl⟩ := cons_of h
  exact ⟨[x], r, [x], by simp, by simp, srt_one x, by simp, Eqv.refl _⟩
theorem InsO.len {X M Z D : List α} {i : Nat} (h : InsO key X M Z i D) : D.length = X.length + M.length + Z.length := by
  obtain ⟨S, R, M1, rfl, hi, _, rfl, he⟩ := h
  have := he.1
  simp only [List.length_append]; omega
theorem InsO.inner {X M Z D : List α} {i : Nat} (h : InsO key X M Z i D) (hi : i < X.length + M.length) : InsN key X M Z i i D := by
  obtain ⟨S, R, M1, rfl, hl, hs, rfl, he⟩ := h
  have h1 := he.1
  obtain ⟨x, r, rfl⟩ := cons_of (l := R) (by simp only [List.length_append] at hi; omega)
  exact ⟨S, x, [], r, M1 ++ [x], by simp, hl, by simp; omega, by simpa using hs, by simp, by simp, he.app (Eqv.refl _)⟩
theorem InsO.done {X M Z D : List α} {i : Nat} (h : InsO key X M Z i D) (hi : ¬ i < X.length + M.length) : ∃ M', D = X ++ M' ++ Z ∧ Srt key M' ∧ Eqv key M M' := by
  obtain ⟨S, R, M1, rfl, hl, hs, rfl, he⟩ := h
  have h1 := he.1
  obtain rfl : R = [] := List.eq_nil_of_length_eq_zero (by simp only [List.length_append] at hi; omega)
  exact ⟨S, by simp, hs, by simpa using he⟩
theorem InsN.le {X M Z D : List α} {i j : Nat} (h : InsN key X M Z i j D) : X.length ≤ j ∧ j ≤ i ∧ i < X.length + M.length ∧ D.length = X.length + M.length + Z.length := by
  obtain ⟨S1, x, S2, R, M1, rfl, hj, hi, hs, hg, rfl, he⟩ := h
  have h1 := he.1
  simp only [List.length_append, List.length_cons] at *
  omega
/-- who stands at j, and ahead of it -/
theorem InsN.look {X M Z D : List α} {i j : Nat} (h : InsN key X M Z i j D) (hj : X.length < j) : ∃ x y, D[j]? = some x ∧ D[j - 1]? = some y ∧ (key x < key y → InsN key X M Z i (j - 1) (swp D j (j - 1) y x)) ∧ (¬ key x < key y → InsO key X M Z (i + 1) D) := by
  obtain ⟨S1, x, S2, R, M1, rfl, hl, hi, hs, hg, rfl, he⟩ := h
  obtain ⟨r, y, rfl⟩ := snoc_of (l := S1) (by omega)
  have hj1 : j - 1 = (X ++ r).length := by simp at hl ⊢; omega
  have hj2 : j = (X ++ r ++ [y]).length := by simp at hl ⊢; omega
  have e1 : X ++ (r ++ [y]) ++ x :: S2 ++ R ++ Z = (X ++ r ++ [y]) ++ x :: (S2 ++ R ++ Z) := by simp
  have e2 : X ++ (r ++ [y]) ++ x :: S2 ++ R ++ Z = (X ++ r) ++ y :: x :: (S2 ++ R ++ Z) := by simp
  refine ⟨x, y, by rw [e1]; exact at_mid _ _ _ hj2, by rw [e2]; exact at_mid _ _ _ hj1, fun hlt => ?_, fun hge => ?_⟩
  · have e3 : j = (j - 1) + 1 := by omega
    refine ⟨r, x, y :: S2, R, M1, ?_, by simp at hl; omega, by simp at hl hi ⊢; omega, by simpa using hs, ?_, rfl, ?_⟩
    · rw [e2, e3, Nat.add_sub_cancel, swp_next _ _ _ _ hj1]; simp
    · intro z hz
      rcases List.mem_cons.1 hz with rfl | hz
      · exact hlt
      · exact hg z hz
    · refine he.trans ?_
      have := (Eqv.refl (key := key) r).app ((Eqv.swap (key := key) (X := [y]) (Y := [x]) (by simpa using hlt)).app (Eqv.refl S2))
      simpa using this
  · refine ⟨r ++ [y] ++ x :: S2, R, M1, by simp, by simp at hi ⊢; omega, ?_, rfl, by simpa using he⟩
    have h1 := srt_app.1 hs
    rw [srt_app]
    refine ⟨h1.1, srt_cons.2 ⟨fun z hz => by have := hg z hz; omega, h1.2.1⟩, fun u hu z hz => ?_⟩
    rcases List.mem_cons.1 hz with rfl | hz
    · have := srt_le_last h1.1 u hu; omega
    · exact h1.2.2 u hu z hz
theorem InsN.first {X M Z D : List α} {i : Nat} (h : InsN key X M Z i X.length D) : InsO key X M Z (i + 1) D := by
  obtain ⟨S1, x, S2, R, M1, rfl, hl, hi, hs, hg, rfl, he⟩ := h
  obtain rfl : S1 = [] := List.eq_nil_of_length_eq_zero (by omega)
  refine ⟨x :: S2, R, M1, by simp, by simp at hi ⊢; omega, srt_cons.2 ⟨fun z hz => by have := hg z hz; omega, by simpa using hs⟩, rfl, by simpa using he⟩

/-! two ranges as long as one another change places -/
def SwR (P U V W Q : List α) (c : Nat) (D : List α) : Prop := ∃ U1 U2 W1 W2, U = U1 ++ U2 ∧ W = W1 ++ W2 ∧ U1.length = c ∧ W1.length = c ∧ D = P ++ W1 ++ U2 ++ V ++ U1 ++ W2 ++ Q
theorem SwR.start (P U V W Q : List α) : SwR P U V W Q 0 (P ++ U ++ V ++ W ++ Q) := ⟨[], U, [], W, rfl, rfl, rfl, rfl, by simp⟩
theorem SwR.len {P U V W Q D : List α} {c : Nat} (h : SwR P U V W Q c D) : D.length = P.length + U.length + V.length + W.length + Q.length := by
  obtain ⟨U1, U2, W1, W2, rfl, rfl, h1, h2, rfl⟩ := h
  simp only [List.length_append]; omega
theorem SwR.done {P U V W Q D : List α} {c : Nat} (h : SwR P U V W Q c D) (hc : c = U.length) (hw : W.length = U.length) : D = P ++ W ++ V ++ U ++ Q := by
  obtain ⟨U1, U2, W1, W2, rfl, rfl, h1, h2, rfl⟩ := h
  simp only [List.length_append] at hc hw
  obtain rfl : U2 = [] := List.eq_nil_of_length_eq_zero (by omega)
  obtain rfl : W2 = [] := List.eq_nil_of_length_eq_zero (by omega)
  simp
theorem SwR.step {P U V W Q D : List α} {c : Nat} (h : SwR P U V W Q c D) (hc : c < U.length) (hw : W.length = U.length) :
    ∃ x y, D[P.length + c]? = some x ∧ D[P.length + U.length + V.length + c]? = some y ∧ SwR P U V W Q (c + 1) (swp D (P.length + c) (P.length + U.length + V.length + c) y x) := by
  obtain ⟨U1, U2, W1, W2, rfl, rfl, h1, h2, rfl⟩ := h
  simp only [List.length_append] at hc hw
  obtain ⟨x, U3, rfl⟩ := cons_of (l := U2) (by omega)
  obtain ⟨y, W3, rfl⟩ := cons_of (l := W2) (by omega)
  have e1 : P ++ W1 ++ x :: U3 ++ V ++ U1 ++ y :: W3 ++ Q = (P ++ W1) ++ x :: (U3 ++ V ++ U1) ++ y :: (W3 ++ Q) := by simp
  have e2 : P ++ W1 ++ x :: U3 ++ V ++ U1 ++ y :: W3 ++ Q = (P ++ W1 ++ x :: U3 ++ V ++ U1) ++ y :: (W3 ++ Q) := by simp
  have e3 : P ++ W1 ++ x :: U3 ++ V ++ U1 ++ y :: W3 ++ Q = (P ++ W1) ++ x :: (U3 ++ V ++ U1 ++ y :: W3 ++ Q) := by simp
  refine ⟨x, y, by rw [e3]; exact at_mid _ _ _ (by simp; omega), by rw [e2]; exact at_mid _ _ _ (by simp at hw ⊢; omega), U1 ++ [x], U3, W1 ++ [y], W3, by simp, by simp, by simp; omega, by simp; omega, ?_⟩
  rw [e1, swp_far _ _ _ _ _ (by simp; omega) (by simp at hw ⊢; omega)]
  simp
/-! a rotation -/
def Rot (P A B Q : List α) (m i j : Nat) (D : List α) : Prop := ∃ p a b q, D = P ++ p ++ a ++ b ++ q ++ Q ∧ P.length + p.length + i = m ∧ a.length = i ∧ b.length = j ∧ p ++ b ++ a ++ q = B ++ A ∧ 0 < i ∧ 0 < j
theorem Rot.start {P A B Q : List α} (ha : 0 < A.length) (hb : 0 < B.length) : Rot P A B Q (P.length + A.length) A.length B.length (P ++ A ++ B ++ Q) := ⟨[], A, B, [], by simp, by simp, rfl, rfl, by simp, ha, hb⟩
theorem Rot.len {P A B Q D : List α} {m i j : Nat} (h : Rot P A B Q m i j D) : D.length = P.length + A.length + B.length + Q.length ∧ i ≤ m ∧ m + j ≤ D.length ∧ 0 < i ∧ 0 < j := by
  obtain ⟨p, a, b, q, rfl, h1, h2, h3, h4, h5, h6⟩ := h
  have := congrArg List.length h4
  simp only [List.length_append] at *
  omega
theorem Rot.big {P A B Q D : List α} {m i j : Nat} (h : Rot P A B Q m i j D) (hij : j < i) : ∃ p u v w q, D = p ++ u ++ v ++ w ++ q ∧ p.length = m - i ∧ u.length = j ∧ w.length = j ∧ p.length + u.length + v.length = m ∧ Rot P A B Q m (i - j) j (p ++ w ++ v ++ u ++ q) := by
  obtain ⟨p, a, b, q, rfl, h1, h2, h3, h4, h5, h6⟩ := h
  obtain ⟨a1, a2, rfl, ha⟩ := part_of (l := a) (k := j) (by omega)
  simp only [List.length_append] at h2
  refine ⟨P ++ p, a1, a2, b, q ++ Q, by simp, by simp; omega, ha, h3, by simp; omega, p ++ b, a2, a1, q, by simp, by simp; omega, by omega, ha, by rw [← h4]; simp, by omega, h6⟩
theorem Rot.small {P A B Q D : List α} {m i j : Nat} (h : Rot P A B Q m i j D) (hij : i < j) : ∃ p u v w q, D = p ++ u ++ v ++ w ++ q ∧ p.length = m - i ∧ u.length = i ∧ w.length = i ∧ p.length + u.length + v.length = m + j - i ∧ Rot P A B Q m i (j - i) (p ++ w ++ v ++ u ++ q) := by
  obtain ⟨p, a, b, q, rfl, h1, h2, h3, h4, h5, h6⟩ := h
  obtain ⟨b1, b2, rfl, hb⟩ := part_of (l := b) (k := j - i) (by omega)
  simp only [List.length_append] at h3
  refine ⟨P ++ p, a, b1, b2, q ++ Q, by simp, by simp; omega, h2, by omega, by simp; omega, p, b2, b1, a ++ q, by simp, by omega, by omega, by omega, by rw [← h4]; simp, h5, by omega⟩
theorem Rot.even {P A B Q D : List α} {m i : Nat} (h : Rot P A B Q m i i D) : ∃ p u w q, D = p ++ u ++ [] ++ w ++ q ∧ p.length = m - i ∧ u.length = i ∧ w.length = i ∧ p.length + u.length = m ∧ p ++ w ++ [] ++ u ++ q = P ++ B ++ A ++ Q := by
  obtain ⟨p, a, b, q, rfl, h1, h2, h3, h4, h5, h6⟩ := h
  refine ⟨P ++ p, a, b, q ++ Q, by simp, by simp; omega, h2, h3, by simp; omega, ?_⟩
  have := congrArg (fun l => P ++ l ++ Q) h4
  simpa using this
end
end Go.Proofs.Ytdehpiaokjihjaa
