/- Contracts of chapter 7's small calls, both programs: isKind, Right, answered, Through, Punch, Key, ref. -/
import Derived.Test.YtdpgmdkclaahdaaNbRuleMath
import Derived.Test.YtdpgmdkclaahdaaRows
import Derived.ProofKit
import Derived.WalkLawsBesides
import Derived.WalkSpells
import Derived.Outline
import Derived.WalkMore
import Derived.Laws.Strings2
import Derived.Laws.Concat
import Derived.Lib.Strings
import Derived.IntWalk
import Derived.RegionTactic
import Derived.ChangeAlike
import Derived.Deep.DeepCutAuto
import Derived.BigQuiet
import Derived.Lib.QuietBelow
import Derived.Laws.Cover2
import Derived.Laws.Cover3
import Derived.Laws.IdiomStrings
import Derived.Laws.MakeOwn
import Derived.Deep.QuietTactic
import Derived.Deep.RegionHeld3
namespace Go.Proofs.Ytdpgmdkclaahdaa.Nb
open Go.RowKit
set_option linter.unusedVariables false
set_option linter.unusedSimpArgs false

theorem isKind_any (k : Int) (w : World) : Calls Try.prog 70 #[.int .i64 k] w fun e w' => e = .returned (.bool (kiB k)) ∧ w = w' := by
  unfold kiB
  by_cases h : 0 ≤ k
  · go_enter Try.func70, Try.ntmps70
    go_wp2
    go_ret
    exact ⟨bool_ret (by first | (simp [h]; done) | (simp; intros; omega)), rfl⟩
  · go_enter Try.func70, Try.ntmps70
    go_wp2
    go_ret
    exact ⟨bool_ret (by first | (simp [h]; done) | (simp; intros; omega)), rfl⟩
theorem right_any (m f : Int) (w : World) : Calls Try.prog 55 #[.agg #[.int .i64 m, .int .i64 f]] w fun e w' => e = .returned (.bool (rightT m f)) ∧ Below w.heap.size w w' := by
  have K1 := isKind_any m
  have K2 := isKind_any f
  unfold rightT
  generalize kiB m = A at *
  generalize kiB f = B at *
  cases A
  · go_enter Try.func55, Try.ntmps55
    go_wp2_with fail
    refine (K1 _).mono ?_; rintro e w1 ⟨rfl, rfl⟩
    go_wp2
    go_ret
    exact ⟨rfl, by (repeat (first | with_reducible exact Below.refl _ _ | with_reducible refine Below.drew ?_ | with_reducible refine below_drewN ?_ _ | with_reducible refine Below.alloc ?_ (by first | omega | (simp; done) | (simp; omega)) _ | with_reducible refine Below.setCell ?_ (by first | omega | (simp; done) | (simp; omega)) _))⟩
  · go_enter Try.func55, Try.ntmps55
    go_wp2_with fail
    refine (K1 _).mono ?_; rintro e w1 ⟨rfl, rfl⟩
    go_wp2_with fail
    refine (K2 _).mono ?_; rintro e w1 ⟨rfl, rfl⟩
    go_wp2
    go_ret
    exact ⟨bool_ret (by simp), by (repeat (first | with_reducible exact Below.refl _ _ | with_reducible refine Below.drew ?_ | with_reducible refine below_drewN ?_ _ | with_reducible refine Below.alloc ?_ (by first | omega | (simp; done) | (simp; omega)) _ | with_reducible refine Below.setCell ?_ (by first | omega | (simp; done) | (simp; omega)) _))⟩
theorem key_any (m f ip port : Int) (w : World) : Calls Try.prog 57 #[.agg #[.int .i64 m, .int .i64 f], .agg #[.int .u32 ip, .int .u16 port]] w fun e w' => e = .returned (.agg #[.int .u32 (keyIP m ip), .int .u16 (keyPort m port)]) ∧ Below w.heap.size w w' := by
  have hB := Below.refl w.heap.size w
  by_cases h2 : m = 2
  · subst h2
    show Calls _ _ _ _ fun e w' => e = .returned (.agg #[.int .u32 ip, .int .u16 port]) ∧ Below w.heap.size w w'
    go_enter Try.func57, Try.ntmps57
    go_wp2
    refine bodyPost_ret (v := .agg #[.int .u32 ip, .int .u16 port]) (by simp [results, Try.results57, go_sem]) rfl ⟨rfl, ?_⟩
    (have zzh := Below.size hB; repeat (first | with_reducible exact hB | with_reducible refine Below.setCell ?_ (by first | omega | (simp; done) | (simp; omega)) _ | with_reducible refine Below.alloc ?_ (by first | omega | (simp; done) | (simp; omega)) _ | with_reducible refine Below.drew ?_))
  · have n2 : (m == 2) = false := by rw [beq_eq_false_iff_ne]; exact h2
    by_cases h1 : m = 1
    · subst h1
      show Calls _ _ _ _ fun e w' => e = .returned (.agg #[.int .u32 ip, .int .u16 0]) ∧ Below w.heap.size w w'
      go_enter Try.func57, Try.ntmps57
      go_wp2
      refine bodyPost_ret (v := .agg #[.int .u32 ip, .int .u16 0]) (by simp [results, Try.results57, go_sem]) rfl ⟨rfl, ?_⟩
      (have zzh := Below.size hB; repeat (first | with_reducible exact hB | with_reducible refine Below.setCell ?_ (by first | omega | (simp; done) | (simp; omega)) _ | with_reducible refine Below.alloc ?_ (by first | omega | (simp; done) | (simp; omega)) _ | with_reducible refine Below.drew ?_))
    · have n1 : (m == 1) = false := by rw [beq_eq_false_iff_ne]; exact h1
      rw [show keyIP m ip = 0 by unfold keyIP; rw [if_neg (by omega)], show keyPort m port = 0 by unfold keyPort; rw [if_neg h2]]
      go_enter Try.func57, Try.ntmps57
      go_wp2
      refine bodyPost_ret (v := .agg #[.int .u32 0, .int .u16 0]) (by simp [results, Try.results57, go_sem]) rfl ⟨rfl, ?_⟩
      (have zzh := Below.size hB; repeat (first | with_reducible exact hB | with_reducible refine Below.setCell ?_ (by first | omega | (simp; done) | (simp; omega)) _ | with_reducible refine Below.alloc ?_ (by first | omega | (simp; done) | (simp; omega)) _ | with_reducible refine Below.drew ?_))
end Go.Proofs.Ytdpgmdkclaahdaa.Nb