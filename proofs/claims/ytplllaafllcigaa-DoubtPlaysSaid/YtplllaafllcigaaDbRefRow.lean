/- The reference: a list by number; in memory. -/
import Derived.Test.YtplllaafllcigaaDbOne
import Derived.BigQuiet
namespace Go.Proofs.Ytplllaafllcigaa
open Go.Sort Go.RowKit Go.BigFrame
set_option linter.unusedVariables false
set_option linter.unusedSimpArgs false

/-! where one stands -/
def atL (i : Int) (L : List It) : Nat := L.findIdx fun y => !decide (y.id < i)
def thB (i : Int) (L : List It) : Bool := match L[atL i L]? with
  | some y => y.id == i
  | none => false
theorem atL_le (i : Int) (L : List It) : atL i L ≤ L.length := List.findIdx_le_length
theorem atL_on {i : Int} {L : List It} {j : Nat} {y : It} (hx : L[j]? = some y) (hj : j ≤ atL i L) (h : y.id < i) : j + 1 ≤ atL i L := by
  rcases Nat.lt_or_ge j (atL i L) with h1 | h1
  · exact h1
  · have e : atL i L = j := by omega
    obtain ⟨h2, h3⟩ := List.getElem?_eq_some_iff.1 hx
    have := List.findIdx_getElem (p := fun y : It => !decide (y.id < i)) (xs := L) (w := by show atL i L < _; omega)
    have h4 : L[List.findIdx (fun y : It => !decide (y.id < i)) L]? = some y := by show L[atL i L]? = some y; rw [e]; exact hx
    obtain ⟨h5, h6⟩ := List.getElem?_eq_some_iff.1 h4
    rw [h6] at this
    simp [h] at this
theorem atL_here {i : Int} {L : List It} {j : Nat} {y : It} (hx : L[j]? = some y) (hj : j ≤ atL i L) (h : ¬ y.id < i) : atL i L = j := by
  refine Nat.le_antisymm ?_ hj
  rcases Nat.lt_or_ge j (atL i L) with h1 | h1
  · have := List.not_of_lt_findIdx h1
    obtain ⟨h2, h3⟩ := List.getElem?_eq_some_iff.1 hx
    rw [h3] at this
    simp [h] at this
  · exact h1
theorem atL_app {i : Int} : ∀ {A B : List It}, (∀ y ∈ A, y.id < i) → (∀ y, B.head? = some y → ¬ y.id < i) → atL i (A ++ B) = A.length
  | [], [], _, _ => rfl
  | [], y :: B, _, h => by
    have := h y rfl
    unfold atL
    rw [List.nil_append, List.findIdx_cons]
    simp [this]
  | a :: A, B, h1, h2 => by
    have ih := atL_app (A := A) (B := B) (fun y hy => h1 y (by simp [hy])) h2
    have ha := h1 a (by simp)
    unfold atL at *
    rw [List.cons_append, List.findIdx_cons]
    simp [ha, ih]
def midL (k : Nat → It) (n : Nat) : List It := if susp (k n) = true then [k n] else []
theorem all_cut (k : Nat → It) {n : Nat} (h : n < 33) : allL k = loL susp k n ++ (midL k n ++ hiL susp k n) := by
  unfold allL midL
  rw [cut_at susp k h, List.append_assoc]
theorem lo_id {k : Nat → It} (h : OkD k) {n : Nat} : ∀ y ∈ loL susp k n, y.id < n := by
  intro y hy
  obtain ⟨j, hj, rfl, hs⟩ := mem_lo hy
  rw [(h.ok j hs).id]; omega
theorem hi_id {k : Nat → It} (h : OkD k) {n : Nat} : ∀ y ∈ hiL susp k n, (n : Int) < y.id := by
  intro y hy
  obtain ⟨j, hj, _, rfl, hs⟩ := mem_hi hy
  rw [(h.ok j hs).id]; omega
theorem mid_hi {k : Nat → It} (h : OkD k) {n : Nat} : ∀ y, (midL k n ++ hiL susp k n).head? = some y → ¬ y.id < n := by
  intro y hy
  have hm : y ∈ midL k n ++ hiL susp k n := List.mem_of_mem_head? hy
  rcases List.mem_append.1 hm with hm | hm
  · unfold midL at hm
    split at hm
    · rename_i hs
      simp only [List.mem_singleton] at hm
      subst hm
      rw [(h.ok n hs).id]; omega
    · simp at hm
  · have := hi_id h y hm; omega
theorem at_all {k : Nat → It} (h : OkD k) {n : Nat} (hn : n < 33) : atL n (allL k) = (loL susp k n).length := by
  rw [all_cut k hn]
  exact atL_app (lo_id h) (mid_hi h)
theorem get_all {k : Nat → It} (h : OkD k) {n : Nat} (hn : n < 33) (hs : susp (k n) = true) : (allL k)[atL n (allL k)]? = some (k n) := by
  rw [at_all h hn, all_cut k hn, List.getElem?_append_right (Nat.le_refl _), Nat.sub_self]
  unfold midL
  rw [if_pos hs]; rfl
theorem th_all {k : Nat → It} (h : OkD k) (i : Int) : thB i (allL k) = suspI k i := by
  by_cases h1 : 1 ≤ i ∧ i ≤ 32
  · obtain ⟨n, rfl⟩ : ∃ n : Nat, i = n := ⟨i.toNat, by omega⟩
    have hn : n < 33 := by omega
    unfold suspI
    rw [nodeI_iff.2 h1, Int.toNat_natCast, Bool.true_and]
    cases hs : susp (k n) with
    | true =>
      unfold thB
      rw [get_all h hn hs]
      show ((k n).id == (n : Int)) = true
      rw [(h.ok n hs).id]; simp
    | false =>
      unfold thB
      rw [at_all h hn, all_cut k hn, List.getElem?_append_right (Nat.le_refl _), Nat.sub_self]
      unfold midL
      rw [hs]
      simp only [Bool.false_eq_true, if_false, List.nil_append]
      cases hh : (hiL susp k n)[0]? with
      | none => rfl
      | some y =>
        have hy : y ∈ hiL susp k n := List.mem_of_getElem? hh
        have := hi_id h y hy
        show (y.id == (n : Int)) = false
        rw [beq_eq_false_iff_ne]; omega
  · have hn : nodeI i = false := by
      cases e : nodeI i with
      | false => rfl
      | true => exact absurd (nodeI_iff.1 e) h1
    unfold suspI
    rw [hn, Bool.false_and]
    unfold thB
    cases hh : (allL k)[atL i (allL k)]? with
    | none => rfl
    | some y =>
      obtain ⟨j, h2, h3, rfl, hs⟩ := mem_all h (List.mem_of_getElem? hh)
      show ((k j).id == i) = false
      rw [(h.ok j hs).id, beq_eq_false_iff_ne]
      omega
/-! in memory -/
def Apart (P : List (It × Sl)) : Prop := P.Pairwise fun p q => ∀ b, p.2.v.ownBlock = some b → q.2.v.ownBlock ≠ some b
structure Rs (g : Nat) (u : Sl) (P : List (It × Sl)) (k : Nat → It) (w : World) : Prop where
  box : Cs g [.slice u.a u.n u.c] w
  row : IRow 68 w u.v P
  is : P.map Prod.fst = allL k
  ne : ∀ b, IOwn u.v P b → b ≠ g
  ap : Apart P
  ok : OkD k
def ROwn (g : Nat) (u : Sl) (P : List (It × Sl)) (b : Nat) : Prop := b = g ∨ IOwn u.v P b
section
variable {g : Nat} {u u' : Sl} {P P' : List (It × Sl)} {k k' : Nat → It} {w w1 w2 w' : World} {F : Nat → Prop}
theorem Rs.lt (h : Rs g u P k w) : ∀ b, ROwn g u P b → b < w.heap.size := by
  rintro b (rfl | hb)
  · exact h.box.lt
  · exact h.row.lt b hb
theorem Rs.touch (h : Rs g u P k w) (ht : Touch F w w') (hF : ∀ b, ROwn g u P b → ¬ F b) : Rs g u P k w' :=
  ⟨h.box.touch ht (hF g (.inl rfl)), h.row.touch ht (fun b hb => hF b (.inr hb)), h.is, h.ne, h.ap, h.ok⟩
theorem Rs.keep (h : Rs g u P k w) (hb : Below w.heap.size w w') : Rs g u P k w' := h.touch (Touch.of_below (fun _ => False) hb) (fun _ _ h => h)
theorem Rs.n (h : Rs g u P k w) : u.n = P.length := erow_n h.row.row
theorem Rs.len (h : Rs g u P k w) : P.length = (allL k).length := by rw [← h.is, List.length_map]
theorem Rs.len33 (h : Rs g u P k w) : P.length ≤ 33 := by rw [h.len]; exact all_len k
def RAft (g : Nat) (u : Sl) (P : List (It × Sl)) (k' : Nat → It) (w w' : World) : Prop := ∃ u' P', Rs g u' P' k' w' ∧ Touch (ROwn g u P) w w' ∧ ∀ b, ROwn g u' P' b → ROwn g u P b ∨ w.heap.size ≤ b
theorem Rs.same (h : Rs g u P k w) (hb : Below w.heap.size w w') : RAft g u P k w w' := ⟨u, P, h.keep hb, Touch.of_below _ hb, fun _ hb => .inl hb⟩
theorem RAft.after (hb : Below w.heap.size w w1) (h : RAft g u P k' w1 w') : RAft g u P k' w w' := by
  obtain ⟨u', P', h1, h2, h3⟩ := h
  exact ⟨u', P', h1, (Touch.of_below _ hb).trans h2 (fun _ _ h => h), fun b hk => (h3 b hk).imp id (fun h => Nat.le_trans hb.size h)⟩
theorem RAft.then_ (h : RAft g u P k' w w1) (hb : Below w1.heap.size w1 w') : RAft g u P k' w w' := by
  obtain ⟨u', P', h1, h2, h3⟩ := h
  exact ⟨u', P', h1.keep hb, h2.trans (Touch.of_below (ROwn g u P) hb) (fun _ _ h => h), h3⟩
theorem RAft.trans {u1 : Sl} {P1 : List (It × Sl)} (h2 : Touch (ROwn g u P) w w1) (h3 : ∀ b, ROwn g u1 P1 b → ROwn g u P b ∨ w.heap.size ≤ b) (h : RAft g u1 P1 k' w1 w') : RAft g u P k' w w' := by
  obtain ⟨u', P', h4, h5, h6⟩ := h
  have hm : ∀ b, b < w.heap.size → ROwn g u1 P1 b → ROwn g u P b := fun b hb h => (h3 b h).resolve_right (by omega)
  exact ⟨u', P', h4, h2.trans h5 hm, fun b hb => by
    rcases h6 b hb with h | h
    · exact h3 b h
    · exact .inr (Nat.le_trans h2.size h)⟩
/-- a new slice is stored -/
theorem Rs.put (h : Rs g u P k w) (hb : Below w.heap.size w w2) (hr : IRow 68 w2 u'.v P') (is' : P'.map Prod.fst = allL k') (ok' : OkD k') (hn : ∀ b, u'.v.ownBlock = some b → w.heap.size ≤ b)
    (hw : ∀ p ∈ P', ∀ b, p.2.v.ownBlock = some b → (∃ q ∈ P, q.2.v.ownBlock = some b) ∨ w.heap.size ≤ b) (hap : Apart P') :
    RAft g u P k' w (w2.setCell ⟨g, 0, none⟩ (.slice u'.a u'.n u'.c)) ∧ Cs g [.slice u.a u.n u.c] w2 := by
  have own' : ∀ b, IOwn u'.v P' b → IOwn u.v P b ∨ w.heap.size ≤ b := by
    rintro b (hb1 | ⟨p, hp, hb1⟩)
    · exact .inr (hn b hb1)
    · rcases hw p hp b hb1 with ⟨q, hq, hb2⟩ | h1
      · exact .inl (.inr ⟨q, hq, hb2⟩)
      · exact .inr h1
  have hne : ∀ b, IOwn u'.v P' b → b ≠ g := fun b hb1 e => by
    rcases own' b hb1 with h1 | h1
    · exact h.ne b h1 e
    · have := h.box.lt; omega
  refine ⟨⟨u', P', ⟨?_, ?_, is', hne, hap, ok'⟩, ?_, ?_⟩, h.box.keep hb⟩
  · exact (h.box.keep hb).set 0 (.slice u'.a u'.n u'.c) (by simp)
  · exact hr.touch (Touch.set (F := fun b => b = g) (Touch.refl _ w2) (fun _ => rfl) _) (fun b hb1 e => hne b hb1 e)
  · exact Touch.set (F := ROwn g u P) (Touch.of_below _ hb) (a := ⟨g, 0, none⟩) (fun _ => .inl rfl) _
  · rintro b (rfl | hb1)
    · exact .inl (.inl rfl)
    · exact (own' b hb1).imp .inr id
end
theorem cps_len (M : List (It × Sl)) : (M.map cp).flatten.length = M.length * 5 := by rw [flatten_len (z := 5) _ (cp_enc.all M), List.length_map]
/-- the cells of a part of a row -/
theorem part_cells {T : TypeId} {w : World} {gv c p : Nat} {L M : List (It × Sl)} (h : ERow cp 5 T w (.slice (some ⟨gv, 0, none⟩) L.length c) L) (hM : ∀ i x, M[i]? = some x → L[p + i]? = some x) : ∀ k u, (M.map cp).flatten[k]? = some u → w.cell? ((⟨gv, p * 5, none⟩ : Addr).add k) = some u := by
  obtain ⟨-, C, hC, -, ht, -⟩ := erow_open cp_enc h
  exact hC.sub (p := p) (by decide) (cp_enc.all M) (fun i c hc => by
    rw [List.getElem?_map, Option.map_eq_some_iff] at hc
    obtain ⟨x, hx, rfl⟩ := hc
    exact taken_at ht (hM i x hx))
theorem take_get {L : List (It × Sl)} {j i : Nat} {x : It × Sl} (h : (L.take j)[i]? = some x) : L[0 + i]? = some x := by
  rw [List.getElem?_take] at h
  split at h
  · rwa [Nat.zero_add]
  · cases h
end Go.Proofs.Ytplllaafllcigaa
