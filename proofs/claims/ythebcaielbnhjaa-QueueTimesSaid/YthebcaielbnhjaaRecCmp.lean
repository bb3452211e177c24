/- Contracts of Go's cmp.Compare at uint32 and int, of cmp.Or at three ints. -/
import Derived.Test.YthebcaielbnhjaaRecSmall
namespace Go.Proofs.Ythebcaielbnhjaa
open Go.RowKit
set_option linter.unusedVariables false
set_option linter.unusedSimpArgs false

theorem nan32 (a : Int) (w : World) : Calls Try.prog 61 #[.int .u32 a] w fun e w' => e = .returned (.bool false) ∧ w = w' := by
  go_enter Try.func61, Try.ntmps61
  go_wp2
  go_ret
  exact ⟨bool_ret (by simp), rfl⟩
theorem nan64 (a : Int) (w : World) : Calls Try.prog 60 #[.int .i64 a] w fun e w' => e = .returned (.bool false) ∧ w = w' := by
  go_enter Try.func60, Try.ntmps60
  go_wp2
  go_ret
  exact ⟨bool_ret (by simp), rfl⟩
theorem cmp32 (a b : Int) (w : World) : Calls Try.prog 49 #[.int .u32 a, .int .u32 b] w fun e w' => e = .returned (.int .i64 (cmpI a b)) ∧ w = w' := by
  rcases Int.lt_trichotomy a b with c | c | c
  · rw [show cmpI a b = -1 by unfold cmpI; rw [if_pos c]]
    go_enter Try.func49, Try.ntmps49
    go_wp2_with fail
    refine (nan32 _ _).mono ?_; rintro e w1 ⟨rfl, rfl⟩
    go_wp2_with fail
    refine (nan32 _ _).mono ?_; rintro e w1 ⟨rfl, rfl⟩
    go_wp2
    go_ret
    exact ⟨rfl, rfl⟩
  · subst c
    rw [show cmpI a a = 0 by unfold cmpI; rw [if_neg (by omega), if_pos rfl]]
    go_enter Try.func49, Try.ntmps49
    go_wp2_with fail
    refine (nan32 _ _).mono ?_; rintro e w1 ⟨rfl, rfl⟩
    go_wp2_with fail
    refine (nan32 _ _).mono ?_; rintro e w1 ⟨rfl, rfl⟩
    go_wp2
    go_ret
    exact ⟨rfl, rfl⟩
  · rw [show cmpI a b = 1 by unfold cmpI; rw [if_neg (by omega), if_neg (by omega)]]
    have n1 : ¬ a < b := by omega
    go_enter Try.func49, Try.ntmps49
    go_wp2_with fail
    refine (nan32 _ _).mono ?_; rintro e w1 ⟨rfl, rfl⟩
    go_wp2_with fail
    refine (nan32 _ _).mono ?_; rintro e w1 ⟨rfl, rfl⟩
    go_wp2
    go_ret
    exact ⟨rfl, rfl⟩
theorem cmp64 (a b : Int) (w : World) : Calls Try.prog 48 #[.int .i64 a, .int .i64 b] w fun e w' => e = .returned (.int .i64 (cmpI a b)) ∧ w = w' := by
  rcases Int.lt_trichotomy a b with c | c | c
  · rw [show cmpI a b = -1 by unfold cmpI; rw [if_pos c]]
    go_enter Try.func48, Try.ntmps48
    go_wp2_with fail
    refine (nan64 _ _).mono ?_; rintro e w1 ⟨rfl, rfl⟩
    go_wp2_with fail
    refine (nan64 _ _).mono ?_; rintro e w1 ⟨rfl, rfl⟩
    go_wp2
    go_ret
    exact ⟨rfl, rfl⟩
  · subst c
    rw [show cmpI a a = 0 by unfold cmpI; rw [if_neg (by omega), if_pos rfl]]
    go_enter Try.func48, Try.ntmps48
    go_wp2_with fail
    refine (nan64 _ _).mono ?_; rintro e w1 ⟨rfl, rfl⟩
    go_wp2_with fail
    refine (nan64 _ _).mono ?_; rintro e w1 ⟨rfl, rfl⟩
    go_wp2
    go_ret
    exact ⟨rfl, rfl⟩
  · rw [show cmpI a b = 1 by unfold cmpI; rw [if_neg (by omega), if_neg (by omega)]]
    have n1 : ¬ a < b := by omega
    go_enter Try.func48, Try.ntmps48
    go_wp2_with fail
    refine (nan64 _ _).mono ?_; rintro e w1 ⟨rfl, rfl⟩
    go_wp2_with fail
    refine (nan64 _ _).mono ?_; rintro e w1 ⟨rfl, rfl⟩
    go_wp2
    go_ret
    exact ⟨rfl, rfl⟩

theorem or_any (a b c : Int) (g : Nat) (w : World) (c0 : w.cell? ⟨g, 0, none⟩ = some (.int .i64 a)) (c1 : w.cell? ⟨g, 1, none⟩ = some (.int .i64 b)) (c2 : w.cell? ⟨g, 2, none⟩ = some (.int .i64 c)) :
    Calls Try.prog 47 #[.slice (some ⟨g, 0, none⟩) 3 3] w fun e w' => e = .returned (.int .i64 (orI a b c)) ∧ w = w' := by
  have hcell : ∀ k : Nat, k < 3 → w.cell? ⟨g, k, none⟩ = some (.int .i64 ([a, b, c].getD k 0)) := by
    intro k hk
    match k, hk with
    | 0, _ => exact c0
    | 1, _ => exact c1
    | 2, _ => exact c2
  clear c0 c1 c2
  go_enter Try.func47, Try.ntmps47
  go_wp2
  go_loop [8] (fun i => ∃ k : Nat, k ≤ 3 ∧ i = .int .i64 k ∧ ∀ j, j < k → [a, b, c].getD j 0 = 0) (fun i => 3 - (intOf i).toNat)
  case atStart => exact ⟨0, by omega, rfl, fun j hj => by omega⟩
  case round =>
    obtain ⟨k, hk, rfl, hz⟩ := hrel
    by_cases h3 : k < 3
    · have hc := hcell k h3
      by_cases hv : [a, b, c].getD k 0 = 0
      · rw [hv] at hc
        have HZ : Hid (∀ j, j < k + 1 → [a, b, c].getD j 0 = 0) := fun j hj => by
          rcases Nat.lt_or_ge j k with h | h
          · exact hz j h
          · obtain rfl : j = k := by omega
            exact hv
        clear hz hcell hv
        go_wp2
        go_round
        case rel => exact ⟨k + 1, by omega, by go_num, HZ.out⟩
        case measure => simp [intOf]; omega
      · have HV : Hid (orI a b c = [a, b, c].getD k 0) := by
          show _ = _
          unfold orI
          match k, h3, hv, hz with
          | 0, _, hv, _ => rw [if_pos (by simpa using hv)]; rfl
          | 1, _, hv, hz =>
            have := hz 0 (by omega)
            rw [if_neg (by simpa using this), if_pos (by simpa using hv)]; rfl
          | 2, _, hv, hz =>
            have h0 := hz 0 (by omega)
            have h1 := hz 1 (by omega)
            rw [if_neg (by simpa using h0), if_neg (by simpa using h1)]; rfl
        generalize [a, b, c].getD k 0 = v at *
        clear hz hcell
        go_wp2
        go_ret
        exact ⟨by rw [HV.out]; rfl, rfl⟩
    · obtain rfl : k = 3 := by omega
      have HV : Hid (orI a b c = 0) := by
        show _ = _
        have h0 := hz 0 (by omega)
        have h1 := hz 1 (by omega)
        have h2 := hz 2 (by omega)
        unfold orI
        rw [if_neg (by simpa using h0), if_neg (by simpa using h1)]
        simpa using h2
      clear hz hcell
      go_wp2
      go_ret
      exact ⟨by rw [HV.out]; rfl, rfl⟩
end Go.Proofs.Ythebcaielbnhjaa
