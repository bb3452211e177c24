/- Contracts of the stream's calls of chapter 1: New, Next, Below, and the reference's Next, Below. -/
import Derived.Test.YtheipflmkjiimaaRows
import Derived.Test.YtheipflmkjiimaaDrawMath
import Derived.Test.YtheipflmkjiimaaKit
import Derived.WalkKit
import Derived.ProofKit
import Derived.WalkLawsBesides
import Derived.WalkSpells
import Derived.Below
import Derived.Outline
import Derived.Lib.Hide
namespace Go.Proofs.Ytheipflmkjiimaa
open Go.RowKit
set_option linter.unusedVariables false
set_option linter.unusedSimpArgs false

theorem new_any (s : Int) (w : World) :
    Calls Try.prog 19 #[.int .u64 s] w fun e w' => e = .returned (.agg #[.int .u64 s]) ∧ Below w.heap.size w w' := by
  go_enter Try.func19, Try.ntmps19
  go_wp2
  exact bodyPost_ret (v := .agg #[.int .u64 s]) (by simp [results, Try.results19, go_sem]) rfl ⟨rfl, (Below.refl _ _).alloc (Nat.le_refl _) _⟩

theorem next_any (s : Int) (w : World) :
    Calls Try.prog 30 #[.agg #[.int .u64 s]] w fun e w' => e = .returned (.tuple #[.int .u64 (num s), .agg #[.int .u64 (nx s)]]) ∧ Below w.heap.size w w' := by
  go_enter Try.func30, Try.ntmps30
  go_wp2
  go_region
  all_goals go_wp2
  all_goals (refine bodyPost_ret (v := .tuple #[.int .u64 (num s), .agg #[.int .u64 (nx s)]]) (by simp [results, Try.results30, go_sem, num, nx, mxA, mxB, mxC]) rfl ⟨rfl, ?_⟩)
  all_goals exact (((Below.refl _ _).alloc (Nat.le_refl _) _).alloc (by simp) _).drew
theorem rnext_any (s : Int) (w : World) :
    Calls Try.prog 31 #[.agg #[.int .u64 s]] w fun e w' => e = .returned (.tuple #[.int .u64 (num s), .agg #[.int .u64 (nx s)]]) ∧ Below w.heap.size w w' := by
  go_enter Try.func31, Try.ntmps31
  go_wp2
  refine bodyPost_ret (v := .tuple #[.int .u64 (num s), .agg #[.int .u64 (nx s)]]) (by simp [results, Try.results31, go_sem, num, nx, mxA, mxB, mxC]) rfl ⟨rfl, ?_⟩
  exact ((Below.refl _ _).alloc (Nat.le_refl _) _).alloc (by simp) _

/-- Below: nothing is drawn below 1 -/
theorem below_no (s n : Int) (h : n < 1) (w : World) :
    Calls Try.prog 27 #[.agg #[.int .u64 s], .int .i64 n] w fun e w' => e = .returned (.tuple #[.int .i64 0, .agg #[.int .u64 s]]) ∧ Below w.heap.size w w' := by
  go_enter Try.func27, Try.ntmps27
  go_wp2
  go_region
  all_goals go_wp2
  all_goals (refine bodyPost_ret (v := .tuple #[.int .i64 0, .agg #[.int .u64 s]]) (by simp [results, Try.results27, go_sem]) rfl ⟨rfl, ?_⟩)
  all_goals exact (((Below.refl _ _).alloc (Nat.le_refl _) _).alloc (by simp) _).drew
theorem below_yes (s n : Int) (h : 1 ≤ n) (hn : n ≤ 9223372036854775807) (w : World) :
    Calls Try.prog 27 #[.agg #[.int .u64 s], .int .i64 n] w fun e w' => e = .returned (.tuple #[.int .i64 (num s % n), .agg #[.int .u64 (nx s)]]) ∧ Below w.heap.size w w' := by
  have hr := num_range s
  have hlt := Int.emod_lt_of_pos (num s) (show 0 < n by omega)
  have hge := Int.emod_nonneg (num s) (show n ≠ 0 by omega)
  have hne : ¬ n = 0 := by omega
  have e1 : IntKind.u64.wrap n = n := IntWalk.u64_in _ (by omega)
  have e2 : (num s).tmod n = num s % n := tmod_pos _ _ hr.1
  have e3 : IntKind.i64.wrap (num s % n) = num s % n := IntWalk.i64_in _ (by omega)
  go_enter Try.func27, Try.ntmps27
  go_wp2_with (go_at_call 30; refine (next_any _ _).mono ?_; rintro e w' ⟨rfl, hb⟩; obtain ⟨hc, hf, hz⟩ := bcell hb; simp at hz; have hz1 : w.heap.size + 1 < w'.heap.size := (by omega); have hz0 : w.heap.size < w'.heap.size := (by omega))
  go_region
  all_goals go_wp2
  all_goals (refine bodyPost_ret (v := .tuple #[.int .i64 (num s % n), .agg #[.int .u64 (nx s)]]) (by simp [results, Try.results27, go_sem, hz1, hz0, hc, hf]) rfl ⟨rfl, ?_⟩)
  all_goals ((have zz0 := Below.size hb; (try simp at zz0); repeat (first | with_reducible exact Below.refl _ _ | with_reducible refine Below.drew ?_ | with_reducible refine below_drewN ?_ _ | with_reducible refine Below.alloc ?_ (by first | omega | (simp; done) | (simp; omega)) _ | with_reducible refine Below.setCell ?_ (by first | omega | (simp; done) | (simp; omega)) _ | (with_reducible refine Below.trans ?_ (Below.mono hb (by first | omega | (simp; done) | (simp; omega)))))))
theorem rbelow_no (s n : Int) (h : n < 1) (w : World) :
    Calls Try.prog 29 #[.agg #[.int .u64 s], .int .i64 n] w fun e w' => e = .returned (.tuple #[.int .i64 0, .agg #[.int .u64 s]]) ∧ Below w.heap.size w w' := by
  go_enter Try.func29, Try.ntmps29
  go_wp2
  go_region
  all_goals go_wp2
  all_goals (refine bodyPost_ret (v := .tuple #[.int .i64 0, .agg #[.int .u64 s]]) (by simp [results, Try.results29, go_sem]) rfl ⟨rfl, ?_⟩)
  all_goals ((repeat (first | with_reducible exact Below.refl _ _ | with_reducible refine Below.drew ?_ | with_reducible refine below_drewN ?_ _ | with_reducible refine Below.alloc ?_ (by first | omega | (simp; done) | (simp; omega)) _ | with_reducible refine Below.setCell ?_ (by first | omega | (simp; done) | (simp; omega)) _)))
theorem rbelow_yes (s n : Int) (h : 1 ≤ n) (hn : n ≤ 9223372036854775807) (w : World) :
    Calls Try.prog 29 #[.agg #[.int .u64 s], .int .i64 n] w fun e w' => e = .returned (.tuple #[.int .i64 (num s % n), .agg #[.int .u64 (nx s)]]) ∧ Below w.heap.size w w' := by
  have hr := num_range s
  have hlt := Int.emod_lt_of_pos (num s) (show 0 < n by omega)
  have hge := Int.emod_nonneg (num s) (show n ≠ 0 by omega)
  have hne : ¬ n = 0 := by omega
  have e1 : IntKind.u64.wrap n = n := IntWalk.u64_in _ (by omega)
  have e2 : (num s).tmod n = num s % n := tmod_pos _ _ hr.1
  have e3 : IntKind.i64.wrap (num s % n) = num s % n := IntWalk.i64_in _ (by omega)
  go_enter Try.func29, Try.ntmps29
  go_wp2_with (go_at_call 31; refine (rnext_any _ _).mono ?_; rintro e w' ⟨rfl, hb⟩; obtain ⟨hc, hf, hz⟩ := bcell hb; simp at hz; have hz1 : w.heap.size + 1 < w'.heap.size := (by omega); have hz0 : w.heap.size < w'.heap.size := (by omega))
  go_region
  all_goals go_wp2
  all_goals (refine bodyPost_ret (v := .tuple #[.int .i64 (num s % n), .agg #[.int .u64 (nx s)]]) (by simp [results, Try.results29, go_sem, hz1, hz0, hc, hf]) rfl ⟨rfl, ?_⟩)
  all_goals ((have zz0 := Below.size hb; (try simp at zz0); repeat (first | with_reducible exact Below.refl _ _ | with_reducible refine Below.drew ?_ | with_reducible refine below_drewN ?_ _ | with_reducible refine Below.alloc ?_ (by first | omega | (simp; done) | (simp; omega)) _ | with_reducible refine Below.setCell ?_ (by first | omega | (simp; done) | (simp; omega)) _ | (with_reducible refine Below.trans ?_ (Below.mono hb (by first | omega | (simp; done) | (simp; omega)))))))
end Go.Proofs.Ytheipflmkjiimaa
