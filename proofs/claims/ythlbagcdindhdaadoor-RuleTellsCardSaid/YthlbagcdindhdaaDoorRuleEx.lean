/- The contract of the chapter's examples. -/
import Derived.Test.YthlbagcdindhdaaDoorRulePassR
import Derived.Test.YthlbagcdindhdaaDoorRulePunchR
namespace Go.Proofs.YthlbagcdindhdaaDoor
open Go.Sort Go.RowKit Go.BigFrame
set_option linter.unusedVariables false
set_option linter.unusedSimpArgs false

set_option maxRecDepth 100000 in
set_option maxHeartbeats 4000000 in
theorem examples_yes (w : World) (ht : Tab w) : Calls Tryd.prog 8 #[] w fun e w' => e = .returned (.bool true) ∧ Below w.heap.size w w' := by
  have HT := Lib.hid ht
  clear ht
  go_enter Tryd.func8, Tryd.ntmps8
  go_upto_region 4 with fail
  have hB : Below w.heap.size w (((w.alloc (.cells #[.int .i64 0, .int .i64 0] 23)).alloc (.cells #[.int .i64 2, .int .i64 2] 23)).alloc (.cells #[.int .u32 5, .int .u16 6] 28)) := by (repeat (first | with_reducible exact Below.refl _ _ | with_reducible refine Below.drew ?_ | with_reducible refine below_drewN ?_ _ | with_reducible refine Below.alloc ?_ (by first | omega | (simp; done) | (simp; omega)) _ | with_reducible refine Below.setCell ?_ (by first | omega | (simp; done) | (simp; omega)) _))
  have A : Cs w.heap.size [.int .i64 0, .int .i64 0] (((w.alloc (.cells #[.int .i64 0, .int .i64 0] 23)).alloc (.cells #[.int .i64 2, .int .i64 2] 23)).alloc (.cells #[.int .u32 5, .int .u16 6] 28)) := ((Cs.new w [.int .i64 0, .int .i64 0] 23).alloc _).alloc _
  have B : Cs (w.heap.size + 1) [.int .i64 2, .int .i64 2] (((w.alloc (.cells #[.int .i64 0, .int .i64 0] 23)).alloc (.cells #[.int .i64 2, .int .i64 2] 23)).alloc (.cells #[.int .u32 5, .int .u16 6] 28)) := by
    have h := (Cs.new (w.alloc (.cells #[.int .i64 0, .int .i64 0] 23)) [.int .i64 2, .int .i64 2] 23).alloc (.cells #[.int .u32 5, .int .u16 6] 28)
    simp only [World.size_alloc] at h
    exact h
  have C : Cs (w.heap.size + 2) [.int .u32 5, .int .u16 6] (((w.alloc (.cells #[.int .i64 0, .int .i64 0] 23)).alloc (.cells #[.int .i64 2, .int .i64 2] 23)).alloc (.cells #[.int .u32 5, .int .u16 6] 28)) := by
    have h := Cs.new ((w.alloc (.cells #[.int .i64 0, .int .i64 0] 23)).alloc (.cells #[.int .i64 2, .int .i64 2] 23)) [.int .u32 5, .int .u16 6] 28
    simp only [World.size_alloc] at h
    exact h
  generalize (((w.alloc (.cells #[.int .i64 0, .int .i64 0] 23)).alloc (.cells #[.int .i64 2, .int .i64 2] 23)).alloc (.cells #[.int .u32 5, .int .u16 6] 28)) = w1 at *
  have A0 := cell_regrown (A.cell 0 _ rfl)
  have A1 := cell_regrown (A.cell 1 _ rfl)
  have B0 := cell_regrown (B.cell 0 _ rfl)
  have B1 := cell_regrown (B.cell 1 _ rfl)
  have C0 := cell_regrown (C.cell 0 _ rfl)
  have C1 := cell_regrown (C.cell 1 _ rfl)
  have K1 := fun d os => Calls.regrown_of (punch_any 0 0 2 2 (grow (redrawn w1 d) os))
  have K2 := fun d os => Calls.regrown_of (punch_any 2 2 2 2 (grow (redrawn w1 d) os))
  have K3 := fun d os => Calls.regrown_of (key_any 2 2 5 6 (grow (redrawn w1 d) os))
  have K4 := fun d os => Calls.regrown_of (passes_any 0 0 none 0 [] (by simp) 5 6 (grow (redrawn w1 d) os) (RdA.nil _ _ _))
  have K5 := fun d os => Calls.regrown_of (passes_any 2 2 none 0 [] (by simp) 5 6 (grow (redrawn w1 d) os) (RdA.nil _ _ _))
  have K6 := fun d os => Calls.regrown_of (word_any 2 2 (grow (redrawn w1 d) os) (HT.out.below (hB.trans ((below_regrown w1 d os).mono hB.size))))
  have K7 := fun d os => Calls.regrown_of (right_any 0 0 (grow (redrawn w1 d) os))
  have K8 := fun d os => Calls.regrown_of (through_any 2 2 0 0 (grow (redrawn w1 d) os))
  rw [show punchT 0 0 2 2 = true by decide] at K1
  rw [show punchT 2 2 2 2 = false by decide] at K2
  rw [show keyIP 2 5 = 5 by decide, show keyPort 2 6 = 6 by decide] at K3
  rw [show passT 0 [] 5 6 = true by decide] at K4
  rw [show passT 2 [] 5 6 = false by decide] at K5
  rw [show wordT 2 2 = ⟨#[98, 111, 116, 104, 47, 98, 111, 116, 104]⟩ from ba_ext _ _ (by decide)] at K6
  rw [show rightT 0 0 = true by decide] at K7
  rw [show thruT 2 2 0 0 = true by decide] at K8
  have hB := Lib.hid hB
  clear A B C HT
  simp only [List.length_nil] at K4 K5
  (refine wp_region_quiet_below (by kernel_rfl) (by kernel_rfl) ?_; (repeat (go_big_quiet_step (first | with_reducible exact K1 _ _ | with_reducible exact K2 _ _ | with_reducible exact K3 _ _ | with_reducible exact K4 _ _ | with_reducible exact K5 _ _ | with_reducible exact K6 _ _ | with_reducible exact K7 _ _ | with_reducible exact K8 _ _))); refine wpQuiet_nil ?_; intro _ hw'; obtain ⟨⟨dq, osq⟩, hw''⟩ := hw'; subst hw'')
  go_wp2
  go_ret
  exact ⟨rfl, hB.out.trans ((below_regrown w1 dq osq).mono hB.out.size)⟩
end Go.Proofs.YthlbagcdindhdaaDoor
