/- Plain mathematics: who may be asked, and who is asked. No program is read here. -/
import Derived.Test.YtdehpiaokjihjaaLsMath
import Derived.Test.YtdehpiaokjihjaaSortK
namespace Go.Proofs.Ytdehpiaokjihjaa
set_option linter.unusedVariables false
set_option linter.unusedSimpArgs false

structure Mk where
  who : List Int
  wh : List (Nat × Nat)
  met : Nat → Bool
def mk0 : Mk := ⟨[], [], fun _ => false⟩
def leaveB (k : Ls) (now : Int) (id : Int) : Bool := heldB (k.rl id.toNat) now || leftB (k.rl id.toNat) k.wait now
def skipB (m : Mk) (id : Int) : Bool := !nodeI id || m.met id.toNat
def stepM (k : Ls) (now : Int) (m : Mk) (x : Int × (Nat × Nat)) : Mk :=
  if skipB m x.1 = true then m
  else if leaveB k now x.1 = true then { m with met := upd m.met x.1.toNat true }
  else ⟨m.who ++ [x.1], m.wh ++ [x.2], upd m.met x.1.toNat true⟩
def mayS (k : Ls) (now : Int) (X : List (Int × (Nat × Nat))) (j : Nat) : Mk := (X.take j).foldl (stepM k now) mk0
theorem mayS_succ (k : Ls) (now : Int) {X : List (Int × (Nat × Nat))} {j : Nat} {x : Int × (Nat × Nat)} (h : X[j]? = some x) : mayS k now X (j + 1) = stepM k now (mayS k now X j) x := by
  unfold mayS
  obtain ⟨hj, rfl⟩ := List.getElem?_eq_some_iff.1 h
  rw [List.take_succ_eq_append_getElem hj, List.foldl_append]; rfl
theorem stepM_len (k : Ls) (now : Int) (m : Mk) (x : Int × (Nat × Nat)) : (stepM k now m x).who.length ≤ m.who.length + 1 ∧ ((stepM k now m x).who.length = (stepM k now m x).wh.length ↔ m.who.length = m.wh.length) := by
  unfold stepM
  split
  · exact ⟨by omega, Iff.rfl⟩
  · split
    · exact ⟨by show m.who.length ≤ _; omega, Iff.rfl⟩
    · simp
theorem mayS_len (k : Ls) (now : Int) (X : List (Int × (Nat × Nat))) : ∀ j, (mayS k now X j).who.length ≤ j ∧ (mayS k now X j).who.length = (mayS k now X j).wh.length
  | 0 => ⟨Nat.le_refl _, rfl⟩
  | j + 1 => by
    have h := mayS_len k now X j
    cases hx : X[j]? with
    | none =>
      have e : mayS k now X (j + 1) = mayS k now X j := by
        unfold mayS
        rw [List.take_of_length_le (by have := List.getElem?_eq_none_iff.1 hx; omega), List.take_of_length_le (List.getElem?_eq_none_iff.1 hx)]
      rw [e]; exact ⟨by omega, h.2⟩
    | some x =>
      rw [mayS_succ k now hx]
      have := stepM_len k now (mayS k now X j) x
      exact ⟨by omega, this.2.2 h.2⟩
/-- who may be asked are nodes -/
theorem mayS_node (k : Ls) (now : Int) (X : List (Int × (Nat × Nat))) : ∀ j, ∀ id ∈ (mayS k now X j).who, 1 ≤ id ∧ id ≤ 32
  | 0 => by intro id h; simp [mayS, mk0] at h
  | j + 1 => by
    intro id h
    cases hx : X[j]? with
    | none =>
      have e : mayS k now X (j + 1) = mayS k now X j := by
        unfold mayS
        rw [List.take_of_length_le (by have := List.getElem?_eq_none_iff.1 hx; omega), List.take_of_length_le (List.getElem?_eq_none_iff.1 hx)]
      rw [e] at h; exact mayS_node k now X j id h
    | some x =>
      rw [mayS_succ k now hx] at h
      unfold stepM at h
      split at h
      · exact mayS_node k now X j id h
      · rename_i hs
        split at h
        · exact mayS_node k now X j id h
        · rcases List.mem_append.1 h with h | h
          · exact mayS_node k now X j id h
          · obtain rfl := List.mem_singleton.1 h
            unfold skipB at hs
            simp only [Bool.or_eq_true, Bool.not_eq_true', not_or, Bool.not_eq_false] at hs
            exact nodeI_iff.1 hs.1
def mayA (k : Ls) (now : Int) (X : List (Int × (Nat × Nat))) : Mk := mayS k now X X.length

/-! who is asked -/
def askR (now : Int) (r : Re) : Re := { r with ask := true, at_ := now }
def askD (now : Int) (k : Ls) (id : Int) : Ls := { k with rl := upd k.rl id.toNat (askR now (k.rl id.toNat)) }
def pickL (who : List Int) (l : List Int) : List Int := l.map fun i => who.getD i.toNat 0
theorem askD_ok {k : Ls} (h : OkL k) {now : Int} (h0 : 0 ≤ now) (h1 : now ≤ 4611686018427387904) {id : Int} (hi : 1 ≤ id ∧ id ≤ 32) : OkL (askD now k id) := by
  refine ⟨h.w0, h.w1, h.t0, h.t1, fun i => ?_, fun i => ?_⟩
  · show OkE (upd _ _ _ _)
    by_cases e : i = id.toNat
    · subst e; rw [upd_same]
      have := h.rl id.toNat
      exact ⟨h0, h1, this.u0, this.u1⟩
    · rw [upd_ne e]; exact h.rl i
  · show (upd _ _ _ _ : Re).un ≠ 0 → (upd _ _ _ _ : Re).ask = true ∧ _
    by_cases e : i = id.toNat
    · subst e; rw [upd_same]; exact fun _ => ⟨rfl, by omega, by omega⟩
    · rw [upd_ne e]; exact h.asked i
def asks (now : Int) (k : Ls) (l : List Int) : Ls := l.foldl (askD now) k
theorem asks_ok {now : Int} (h0 : 0 ≤ now) (h1 : now ≤ 4611686018427387904) : ∀ (l : List Int) {k : Ls}, OkL k → (∀ id ∈ l, 1 ≤ id ∧ id ≤ 32) → OkL (asks now k l)
  | [], _, h, _ => h
  | id :: l, _, h, hl => asks_ok h0 h1 l (askD_ok h h0 h1 (hl id (by simp))) (fun x hx => hl x (by simp [hx]))
/-- F tells how far those are that may be asked -/
def askL (k : Ls) (now : Int) (m : Mk) (F : List Int) : List Int := pickL m.who (nearL F (k.want - (heldL k now).length))
theorem pick_mem {who l : List Int} (h : ∀ x ∈ l, 0 ≤ x ∧ x < (who.length : Nat)) : ∀ y ∈ pickL who l, y ∈ who := by
  intro y hy
  unfold pickL at hy
  obtain ⟨i, hi, rfl⟩ := List.mem_map.1 hy
  have := h i hi
  rw [List.getD_eq_getElem?_getD, List.getElem?_eq_getElem (by omega)]
  exact List.getElem_mem _
end Go.Proofs.Ytdehpiaokjihjaa
