/- Contracts of chapter 9's small calls, both programs: None, later, strings.Clone. -/
import Derived.Test.YtdpgmdkclaahdaaWSmall
import Derived.Test.YtdpgmdkclaahdaaKit
import Derived.Test.YtdpgmdkclaahdaaRows
import Derived.ProofKit
import Derived.WalkLawsBesides
import Derived.WalkSpells
import Derived.Outline
import Derived.WalkMore
import Derived.Laws.Strings2
import Derived.Laws.Concat
import Derived.Lib.Strings
import Derived.IntWalk
import Derived.RegionTactic
import Derived.ChangeAlike
import Derived.Deep.DeepCutAuto
import Derived.BigQuiet
import Derived.Lib.QuietBelow
import Derived.Laws.Cover2
import Derived.Laws.Cover3
import Derived.Laws.IdiomStrings
import Derived.Laws.MakeOwn
import Derived.Deep.QuietTactic
import Derived.Deep.RegionHeld3
namespace Go.Proofs.Ytdpgmdkclaahdaa.Bg
open Go.RowKit
set_option linter.unusedVariables false
set_option linter.unusedSimpArgs false

def noneA (ip port : Int) : Bool := decide (ip = 0) || decide (port = 0)
theorem none_any (ip port : Int) (w : World) : Calls Try.prog 27 #[.agg #[.int .u32 ip, .int .u16 port]] w fun e w' => e = .returned (.bool (noneA ip port)) ∧ Below w.heap.size w w' := by
  have hB := Below.refl w.heap.size w
  unfold noneA
  by_cases h : ip = 0
  · subst h
    go_enter Try.func27, Try.ntmps27
    go_wp2
    go_ret
    refine ⟨bool_ret (by simp), ?_⟩
    (have zzh := Below.size hB; repeat (first | with_reducible exact hB | with_reducible refine Below.setCell ?_ (by first | omega | (simp; done) | (simp; omega)) _ | with_reducible refine Below.alloc ?_ (by first | omega | (simp; done) | (simp; omega)) _ | with_reducible refine Below.drew ?_))
  · have h1 : (ip == 0) = false := by rw [beq_eq_false_iff_ne]; exact h
    go_enter Try.func27, Try.ntmps27
    go_wp2
    go_ret
    refine ⟨bool_ret (by simp [h]; rfl), ?_⟩
    (have zzh := Below.size hB; repeat (first | with_reducible exact hB | with_reducible refine Below.setCell ?_ (by first | omega | (simp; done) | (simp; omega)) _ | with_reducible refine Below.alloc ?_ (by first | omega | (simp; done) | (simp; omega)) _ | with_reducible refine Below.drew ?_))
def laterP (t by_ : Int) : Int := if 4611686018427387904 < t + by_ then 4611686018427387904 else t + by_
theorem later_any (t b : Int) (ht : 0 ≤ t ∧ t ≤ 18446744073709551615) (hb : 0 ≤ b ∧ b ≤ 18446744073709551615) (w : World) :
    Calls Try.prog 53 #[.int .u64 t, .int .u64 b] w fun e w' => e = .returned (.int .u64 (laterP t b)) ∧ w' = w := by
  obtain ⟨t0, t1⟩ := ht
  obtain ⟨b0, b1⟩ := hb
  by_cases h1 : 4611686018427387904 < t
  · have e : laterP t b = 4611686018427387904 := if_pos (by omega)
    have h1' : decide (4611686018427387904 < t) = true := decide_eq_true h1
    rw [e]
    clear e
    go_enter Try.func53, Try.ntmps53
    go_wp2
    go_ret
    exact ⟨rfl, rfl⟩
  · have h1' : decide (4611686018427387904 < t) = false := decide_eq_false h1
    by_cases h2 : 4611686018427387904 - t < b
    · have e : laterP t b = 4611686018427387904 := if_pos (by omega)
      have h2' : decide (4611686018427387904 - t < b) = true := decide_eq_true h2
      rw [e]
      clear e
      go_enter Try.func53, Try.ntmps53
      go_wp2
      go_ret
      exact ⟨rfl, rfl⟩
    · have e : laterP t b = t + b := if_neg (by omega)
      have h2' : decide (4611686018427387904 - t < b) = false := decide_eq_false h2
      rw [e]
      clear e
      go_enter Try.func53, Try.ntmps53
      go_wp2
      go_ret
      exact ⟨rfl, rfl⟩
end Go.Proofs.Ytdpgmdkclaahdaa.Bg