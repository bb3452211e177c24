/- The contract of the laws' shared head: examples. -/
import Derived.Test.YtnmnokmbnjdfoaaDoorRecThing
import Derived.Lib.QuietBelow
import Derived.BigQuiet
namespace Go.Proofs.YtnmnokmbnjdfoaaDoor
open Go.Sort Go.RowKit Go.BigFrame
set_option linter.unusedVariables false
set_option linter.unusedSimpArgs false

def exA : Rec := ⟨1, 0, 2, 1, 1⟩
def exB : Rec := ⟨1, 2, 1, 1, 1⟩
theorem exA_ok : exA.Ok := ⟨by decide, by decide, by decide⟩
theorem exB_ok : exB.Ok := ⟨by decide, by decide, by decide⟩
def exS : ByteArray := ⟨#[1, 0, 0, 0, 0, 2, 0, 0, 0, 1, 0, 1]⟩
theorem exS_put : putR exA = exS := by decide +kernel
theorem ex_put (w : World) : Calls Tryd.prog 12 #[.agg #[.int .i64 1, .int .i64 0, .int .u32 2, .int .u32 1, .int .u16 1]] w fun e w' => e = .returned (.tuple #[.string exS, .bool true]) ∧ Below w.heap.size w w' := by
  rw [← exS_put]; exact put_yes exA exA_ok (by decide +kernel) w
theorem ex_get (w : World) : Calls Tryd.prog 27 #[.string (exS ++ ⟨#[120]⟩)] w fun e w' => e = .returned (.tuple #[.agg #[.int .i64 1, .int .i64 0, .int .u32 2, .int .u32 1, .int .u16 1], .string ⟨#[120]⟩, .bool true]) ∧ Below w.heap.size w w' := by
  have h := recB_put exA ⟨#[120]⟩ exA_ok (by decide +kernel)
  rw [exS_put] at h
  have := getrec_yes (exS ++ ⟨#[120]⟩) h.2.2 (by rw [h.1]; decide +kernel) (by decide) w
  rw [h.1, h.2.1] at this
  exact this
theorem ex_over1 (w : World) : Calls Tryd.prog 18 #[.agg #[.int .i64 1, .int .i64 0, .int .u32 2, .int .u32 1, .int .u16 1], .agg #[.int .i64 1, .int .i64 2, .int .u32 1, .int .u32 1, .int .u16 1]] w fun e w' => e = .returned (.bool true) ∧ Below w.heap.size w w' := by
  have h : overR exA exB = true := by decide +kernel
  rw [← h]; exact over_rec exA exB exA_ok exB_ok w
theorem ex_over2 (w : World) : Calls Tryd.prog 18 #[.agg #[.int .i64 1, .int .i64 2, .int .u32 1, .int .u32 1, .int .u16 1], .agg #[.int .i64 1, .int .i64 0, .int .u32 2, .int .u32 1, .int .u16 1]] w fun e w' => e = .returned (.bool false) ∧ Below w.heap.size w w' := by
  have h : overR exB exA = false := by decide +kernel
  rw [← h]; exact over_rec exB exA exB_ok exA_ok w
theorem ex_join (w : World) : Calls Tryd.prog 20 #[.agg #[.int .i64 1, .int .i64 0, .int .u32 2, .int .u32 1, .int .u16 1], .agg #[.int .i64 1, .int .i64 2, .int .u32 1, .int .u32 1, .int .u16 1]] w fun e w' => e = .returned (.agg #[.int .i64 1, .int .i64 0, .int .u32 2, .int .u32 1, .int .u16 1]) ∧ Below w.heap.size w w' := by
  have := join_rec exA exB exA_ok exB_ok w
  rw [show joinR exA exB = exA by decide +kernel] at this
  exact this
theorem ex_live1 (w : World) : Calls Tryd.prog 22 #[.agg #[.int .i64 1, .int .i64 0, .int .u32 2, .int .u32 1, .int .u16 1]] w fun e w' => e = .returned (.bool true) ∧ Below w.heap.size w w' := live_any 1 0 2 1 1 w
theorem ex_live2 (w : World) : Calls Tryd.prog 22 #[.agg #[.int .i64 1, .int .i64 2, .int .u32 1, .int .u32 1, .int .u16 1]] w fun e w' => e = .returned (.bool false) ∧ Below w.heap.size w w' := live_any 1 2 1 1 1 w
theorem ex_word (w : World) (ht : Tab w) : Calls Tryd.prog 24 #[.int .i64 1] w fun e w' => e = .returned (.string ⟨#[115, 117, 115, 112, 101, 99, 116]⟩) ∧ Below w.heap.size w w' :=
  (word_any 1 w ht).mono fun e w' ⟨h1, h2⟩ => ⟨h1, h2 ▸ Below.refl _ _⟩
theorem ex_right (w : World) : Calls Tryd.prog 14 #[.agg #[.int .i64 0, .int .i64 0, .int .u32 0, .int .u32 0, .int .u16 0]] w fun e w' => e = .returned (.bool false) ∧ Below w.heap.size w w' := right_any 0 0 0 0 0 (by decide) (by decide) w

set_option maxRecDepth 100000 in
set_option maxHeartbeats 1600000 in
theorem examples_yes (w : World) (ht : Tab w) : Calls Tryd.prog 9 #[] w fun e w' => e = .returned (.bool true) ∧ Below w.heap.size w w' := by
  have HT := Lib.hid ht
  clear ht
  go_enter Tryd.func9, Tryd.ntmps9
  have A0 := Lib.hid ((Cs.new w (rcs exA) 27).alloc (.cells (rcs exB).toArray 27))
  have B0 : Hid (Cs (w.heap.size + 1) (rcs exB) ((w.alloc (.cells (rcs exA).toArray 27)).alloc (.cells (rcs exB).toArray 27))) := by
    have := Cs.new (w.alloc (.cells (rcs exA).toArray 27)) (rcs exB) 27
    simp only [World.size_alloc] at this
    exact this
  have hB0 : Hid (Below w.heap.size w ((w.alloc (.cells (rcs exA).toArray 27)).alloc (.cells (rcs exB).toArray 27))) := by show Below _ _ _; (repeat (first | with_reducible exact Below.refl _ _ | with_reducible refine Below.drew ?_ | with_reducible refine below_drewN ?_ _ | with_reducible refine Below.alloc ?_ (by first | omega | (simp; done) | (simp; omega)) _ | with_reducible refine Below.setCell ?_ (by first | omega | (simp; done) | (simp; omega)) _))
  go_wp2_with fail
  refine (ex_put _).mono ?_; rintro e w1 ⟨rfl, d1⟩
  have A1 := Lib.hid (A0.out.keep d1)
  have B1 := Lib.hid (B0.out.keep d1)
  have hB1 : Hid (Below w.heap.size w w1) := hB0.out.trans (d1.mono hB0.out.size)
  clear d1 A0 B0 hB0
  go_wp2_with fail
  refine (ex_get _).mono ?_; rintro e w2 ⟨rfl, d2⟩
  have A2 := Lib.hid (A1.out.keep d2)
  have B2 := Lib.hid (B1.out.keep d2)
  have hB2 : Hid (Below w.heap.size w w2) := hB1.out.trans (d2.mono hB1.out.size)
  clear d2 A1 B1 hB1
  go_upto_region 5 with fail
  have A3 := A2.out.alloc (.cells (rcs exA).toArray 27)
  have B3 := B2.out.alloc (.cells (rcs exA).toArray 27)
  have C3 := Cs.new w2 (rcs exA) 27
  have hB3 : Hid (Below w.heap.size w (w2.alloc (.cells (rcs exA).toArray 27))) := hB2.out.alloc hB2.out.size _
  have HT3 : Hid (Tab (w2.alloc (.cells (rcs exA).toArray 27))) := HT.out.below hB3.out
  have A3 : Cs w.heap.size (rcs exA) (w2.alloc (.cells #[.int .i64 1, .int .i64 0, .int .u32 2, .int .u32 1, .int .u16 1] 27)) := A3
  have B3 : Cs (w.heap.size + 1) (rcs exB) (w2.alloc (.cells #[.int .i64 1, .int .i64 0, .int .u32 2, .int .u32 1, .int .u16 1] 27)) := B3
  have C3 : Cs w2.heap.size (rcs exA) (w2.alloc (.cells #[.int .i64 1, .int .i64 0, .int .u32 2, .int .u32 1, .int .u16 1] 27)) := C3
  have hB3 : Hid (Below w.heap.size w (w2.alloc (.cells #[.int .i64 1, .int .i64 0, .int .u32 2, .int .u32 1, .int .u16 1] 27))) := hB3
  have HT3 : Hid (Tab (w2.alloc (.cells #[.int .i64 1, .int .i64 0, .int .u32 2, .int .u32 1, .int .u16 1] 27))) := HT3
  generalize (w2.alloc (.cells #[.int .i64 1, .int .i64 0, .int .u32 2, .int .u32 1, .int .u16 1] 27)) = w3 at *
  have a0 := cell_regrown (A3.cell 0 (.int .i64 1) rfl)
  have a1 := cell_regrown (A3.cell 1 (.int .i64 0) rfl)
  have a2 := cell_regrown (A3.cell 2 (.int .u32 2) rfl)
  have a3 := cell_regrown (A3.cell 3 (.int .u32 1) rfl)
  have a4 := cell_regrown (A3.cell 4 (.int .u16 1) rfl)
  have b0 := cell_regrown (B3.cell 0 (.int .i64 1) rfl)
  have b1 := cell_regrown (B3.cell 1 (.int .i64 2) rfl)
  have b2 := cell_regrown (B3.cell 2 (.int .u32 1) rfl)
  have b3 := cell_regrown (B3.cell 3 (.int .u32 1) rfl)
  have b4 := cell_regrown (B3.cell 4 (.int .u16 1) rfl)
  have c0 := cell_regrown (C3.cell 0 (.int .i64 1) rfl)
  have c1 := cell_regrown (C3.cell 1 (.int .i64 0) rfl)
  have c2 := cell_regrown (C3.cell 2 (.int .u32 2) rfl)
  have c3 := cell_regrown (C3.cell 3 (.int .u32 1) rfl)
  have c4 := cell_regrown (C3.cell 4 (.int .u16 1) rfl)
  clear A3 B3 C3 A2 B2 hB2 HT
  have C1 := fun d os => Calls.regrown_of (ex_over1 (grow (redrawn w3 d) os))
  have C2 := fun d os => Calls.regrown_of (ex_over2 (grow (redrawn w3 d) os))
  have C3 := fun d os => Calls.regrown_of (ex_join (grow (redrawn w3 d) os))
  have C4 := fun d os => Calls.regrown_of (ex_live1 (grow (redrawn w3 d) os))
  have C5 := fun d os => Calls.regrown_of (ex_live2 (grow (redrawn w3 d) os))
  have C6 := fun d os => Calls.regrown_of (ex_word (grow (redrawn w3 d) os) (HT3.out.below (below_regrown w3 d os)))
  have C7 := fun d os => Calls.regrown_of (ex_right (grow (redrawn w3 d) os))
  have heS : exS.toList = [1, 0, 0, 0, 0, 2, 0, 0, 0, 1, 0, 1] := by decide +kernel
  (refine wp_region_quiet_below (by kernel_rfl) (by kernel_rfl) ?_; (repeat (go_big_quiet_step (first | with_reducible exact C1 _ _ | with_reducible exact C2 _ _ | with_reducible exact C3 _ _ | with_reducible exact C4 _ _ | with_reducible exact C5 _ _ | with_reducible exact C6 _ _ | with_reducible exact C7 _ _))); refine wpQuiet_nil ?_; intro _ hw'; obtain ⟨⟨dq, osq⟩, hw''⟩ := hw'; subst hw'')
  go_wp2
  go_ret
  exact ⟨rfl, hB3.out.trans ((below_regrown w3 dq osq).mono hB3.out.size)⟩
end Go.Proofs.YtnmnokmbnjdfoaaDoor
