/- Plain mathematics of a bag: which is picked. -/
import Derived.Test.YtdpgmdkclaahdaaBgBagClone
namespace Go.Proofs.Ytdpgmdkclaahdaa.Bg
open Go.Sort Go.RowKit Go.BigFrame
set_option linter.unusedVariables false
set_option linter.unusedSimpArgs false

def isR (now : Int) (x : Pi) : Bool := decide (x.t ≤ now)
def readyP (now : Int) (L : List Pi) : Nat := (L.filter (isR now)).length
def nthR (now : Int) : List Pi → Nat → Nat
  | [], _ => 0
  | x :: r, m => if isR now x then (if m = 0 then 0 else nthR now r (m - 1) + 1) else nthR now r m + 1
theorem nthR_cons (now : Int) (x : Pi) (r : List Pi) (m : Nat) : nthR now (x :: r) m = if isR now x then (if m = 0 then 0 else nthR now r (m - 1) + 1) else nthR now r m + 1 := rfl
/-- the place of the one that is picked; the error -/
def pickE (now pick : Int) (L : List Pi) : Nat × Int :=
  if pick < 0 then (0, 1) else if readyP now L = 0 then (0, 5) else (nthR now L (pick.toNat % readyP now L), 0)
/-- on the way to the one that is picked: at place j, a of those that are ready go ahead still -/
structure FI (now : Int) (L : List Pi) (m j a : Nat) : Prop where
  jl : j ≤ L.length
  lt : a < readyP now (L.drop j)
  eq : nthR now (L.drop j) a + j = nthR now L m
section
variable {now : Int} {L : List Pi} {m j a : Nat} {x : Pi}
theorem FI.start (h : m < readyP now L) : FI now L m 0 m := ⟨Nat.zero_le _, h, rfl⟩
theorem FI.inside (h : FI now L m j a) : j < L.length := by
  rcases Nat.lt_or_ge j L.length with h1 | h1
  · exact h1
  · have := h.lt
    rw [List.drop_eq_nil_of_le h1] at this
    simp [readyP] at this
theorem drop_at (hx : L[j]? = some x) : L.drop j = x :: L.drop (j + 1) := by
  obtain ⟨hj, rfl⟩ := List.getElem?_eq_some_iff.1 hx
  exact List.drop_eq_getElem_cons hj
theorem FI.skip (h : FI now L m j a) (hx : L[j]? = some x) (hr : ¬ x.t ≤ now) : FI now L m (j + 1) a := by
  have hi := h.inside
  have e : isR now x = false := decide_eq_false hr
  have h1 := h.lt
  have h2 := h.eq
  rw [drop_at hx] at h1 h2
  refine ⟨hi, ?_, ?_⟩
  · unfold readyP at h1 ⊢
    rw [List.filter_cons, e] at h1
    exact h1
  · rw [nthR_cons, e] at h2
    simp only [Bool.false_eq_true, if_false] at h2
    omega
theorem FI.step (h : FI now L m j a) (hx : L[j]? = some x) (hr : x.t ≤ now) (ha : 0 < a) : FI now L m (j + 1) (a - 1) := by
  have hi := h.inside
  have e : isR now x = true := decide_eq_true hr
  have h1 := h.lt
  have h2 := h.eq
  rw [drop_at hx] at h1 h2
  refine ⟨hi, ?_, ?_⟩
  · unfold readyP at h1 ⊢
    rw [List.filter_cons, e] at h1
    simp only [if_true, List.length_cons] at h1
    omega
  · rw [nthR_cons, e] at h2
    simp only [if_true] at h2
    rw [if_neg (by omega)] at h2
    omega
theorem FI.stop (h : FI now L m j 0) (hx : L[j]? = some x) (hr : x.t ≤ now) : nthR now L m = j := by
  have e : isR now x = true := decide_eq_true hr
  have h2 := h.eq
  rw [drop_at hx] at h2
  rw [nthR_cons, e] at h2
  simp only [if_true] at h2
  omega
theorem nth_lt : ∀ (L : List Pi) (m : Nat), m < readyP now L → nthR now L m < L.length
  | [], m, h => by simp [readyP] at h
  | x :: r, m, h => by
    unfold readyP at h
    unfold nthR
    rw [List.filter_cons] at h
    cases e : isR now x with
    | true =>
      rw [e] at h
      simp only [if_true, List.length_cons] at h ⊢
      split
      · omega
      · have := nth_lt r (m - 1) (by unfold readyP; omega); omega
    | false =>
      rw [e] at h
      simp only [Bool.false_eq_true, if_false, List.length_cons] at h ⊢
      have := nth_lt r m h; omega
theorem ready_le : readyP now L ≤ L.length := List.length_filter_le _ _
theorem ready_yes {i : Nat} (h : L[i]? = some x) (hk : x.t ≤ now) : readyP now (L.take (i + 1)) = readyP now (L.take i) + 1 := by
  unfold readyP isR; rw [List.take_add_one, h, List.filter_append]; simp [hk]
theorem ready_no {i : Nat} (h : L[i]? = some x) (hk : ¬ x.t ≤ now) : readyP now (L.take (i + 1)) = readyP now (L.take i) := by
  unfold readyP isR; rw [List.take_add_one, h, List.filter_append]; simp [hk]
theorem ready_take (i : Nat) : readyP now (L.take i) ≤ i := Nat.le_trans (List.length_filter_le _ _) (by rw [List.length_take]; omega)
theorem pick_lt {pick : Int} {e : Nat} (h : pickE now pick L = (e, 0)) : e < L.length := by
  unfold pickE at h
  split at h
  · simp at h
  · split at h
    · simp at h
    · rename_i h1
      simp only [Prod.mk.injEq, and_true] at h
      rw [← h]
      exact nth_lt L _ (Nat.mod_lt _ (by omega))
end
theorem ready_ever {L : List Pi} (h : ∀ x ∈ L, OkI x) : readyP 18446744073709551615 L = L.length := by
  unfold readyP
  have e : L.filter (isR 18446744073709551615) = L := List.filter_eq_self.2 (fun x hx => decide_eq_true (h x hx).t1)
  rw [e]
theorem nth_ever : ∀ (L : List Pi) (m : Nat), (∀ x ∈ L, OkI x) → m < L.length → nthR 18446744073709551615 L m = m
  | [], m, _, h => by simp at h
  | x :: r, m, hk, h => by
    unfold nthR
    have e : isR 18446744073709551615 x = true := decide_eq_true (hk x (by simp)).t1
    rw [e]
    simp only [if_true]
    split
    · omega
    · rw [nth_ever r (m - 1) (fun y hy => hk y (by simp [hy])) (by simp at h; omega)]; omega
/-- picked of all -/
theorem pick_ever {pick : Int} {L : List Pi} (h : ∀ x ∈ L, OkI x) : pickE 18446744073709551615 pick L = if pick < 0 then (0, 1) else if L.length = 0 then (0, 5) else (pick.toNat % L.length, 0) := by
  unfold pickE
  rw [ready_ever h]
  split
  · rfl
  · split
    · rfl
    · rw [nth_ever L _ h (Nat.mod_lt _ (by omega))]
/-- what Take answers, and leaves -/
def zI : Pi := ⟨0, 0, 0, 0, ⟨#[]⟩, 0⟩
def takeX (now pick : Int) (L : List Pi) : Pi := if (pickE now pick L).2 = 0 then (L[(pickE now pick L).1]?).getD zI else zI
def takeL (now pick : Int) (L : List Pi) : List Pi := if (pickE now pick L).2 = 0 then L.eraseIdx (pickE now pick L).1 else L
def putE (room : Nat) (x : Pi) (L : List Pi) : Int := if noneA x.fi x.fp || noneA x.ti x.tp then 1 else if x.b.size = 0 ∨ 1024 < x.b.size then 3 else if L.length = room then 4 else 0
def putL (room : Nat) (x : Pi) (L : List Pi) : List Pi := if putE room x L = 0 then L ++ [x] else L
def twiceE (room : Nat) (pick : Int) (L : List Pi) : Int := if (pickE 18446744073709551615 pick L).2 = 0 then (if L.length = room then 4 else 0) else (pickE 18446744073709551615 pick L).2
def twiceL (room : Nat) (pick : Int) (L : List Pi) : List Pi := if twiceE room pick L = 0 then L ++ [(L[(pickE 18446744073709551615 pick L).1]?).getD zI] else L
def lateI (by_ : Int) (x : Pi) : Pi := ⟨x.fi, x.fp, x.ti, x.tp, x.b, laterP x.t by_⟩
def delayL (pick by_ : Int) (L : List Pi) : List Pi := if (pickE 18446744073709551615 pick L).2 = 0 then L.modify (pickE 18446744073709551615 pick L).1 (lateI by_) else L
theorem OkI.late {x : Pi} (h : OkI x) {b : Int} (hb : 0 ≤ b ∧ b ≤ 18446744073709551615) : OkI (lateI b x) := by
  have h0 := h.t0
  refine ⟨?_, ?_, h.f, h.to_, h.b0, h.b1⟩ <;> show _ ≤ _ <;> simp only [lateI, laterP] <;> split <;> omega
theorem erase_ok {L : List Pi} {j : Nat} (h : ∀ x ∈ L, OkI x) : ∀ x ∈ L.eraseIdx j, OkI x := fun x hx => h x (List.mem_of_mem_eraseIdx hx)
theorem app_ok {L : List Pi} {y : Pi} (h : ∀ x ∈ L, OkI x) (hy : OkI y) : ∀ x ∈ L ++ [y], OkI x := fun x hx => by
  rcases List.mem_append.1 hx with hx | hx
  · exact h x hx
  · obtain rfl := List.mem_singleton.1 hx; exact hy
theorem mod_ok {L : List Pi} {j : Nat} {b : Int} (h : ∀ x ∈ L, OkI x) (hb : 0 ≤ b ∧ b ≤ 18446744073709551615) : ∀ x ∈ L.modify j (lateI b), OkI x := fun x hx => by
  obtain ⟨i, hi⟩ := List.mem_iff_getElem?.1 hx
  rw [List.getElem?_modify] at hi
  cases e : L[i]? with
  | none => rw [e] at hi; simp at hi
  | some y =>
    rw [e] at hi
    have hy := h y (List.mem_of_getElem? e)
    by_cases hij : j = i
    · simp [hij] at hi; rw [← hi]; exact hy.late hb
    · simp [hij] at hi; rw [← hi]; exact hy
end Go.Proofs.Ytdpgmdkclaahdaa.Bg