/- The law's examples answer true. -/
import Derived.Test.YtmhlnlippfaclaaDoorWireEx
namespace Go.Proofs.YtmhlnlippfaclaaDoor
open Go.Sort Go.RowKit Go.BigFrame
set_option linter.unusedVariables false
set_option linter.unusedSimpArgs false

theorem Tab.alloc {w : World} (h : Tab w) (o : Obj) : Tab (w.alloc o) := h.below ((Below.refl _ _).alloc (Nat.le_refl _) o)
set_option maxHeartbeats 1600000 in
theorem examples_yes (w : World) (ht : Tab w) : Calls Tryd.prog 4 #[] w fun e w' => e = .returned (.bool true) ∧ Below w.heap.size w w' := by
  obtain ⟨PA, zA, hA⟩ := put_A
  have P1 := Lib.hid put_K3
  have G1 := Lib.hid get_B
  have G2 := Lib.hid get_X
  have P2 := Lib.hid put_K0
  have HH := Lib.hid (fun w ht => has_yes 1 (by omega) (by omega) w ht)
  have P3 := Lib.hid hA
  have SS := Lib.hid (same_self 12 3 258)
  have RZ := Lib.hid right_Z
  have e1 : exB.toList = [12, 3, 0, 0, 1, 2] := by decide +kernel
  have e2 : (tabB 1).toList = [110, 114] := by decide +kernel
  have e3 : exB ++ (⟨#[120]⟩ : ByteArray) = exX := by decide +kernel
  have z1 : exB.size = 6 := rfl
  have zA' : (PA.size : Int) = 15 := by omega
  have HT := Lib.hid ht
  generalize exB = B at *
  generalize exX = X at *
  generalize tabB 1 = T at *
  clear hA zA ht
  have SX := store_cx
  have hB : Hid (Below w.heap.size w w) := Below.refl _ _
  go_enter Tryd.func4, Tryd.ntmps4
  go_wp2_with fail
  refine (P1.out _ HT.out).mono ?_; rintro e w1 ⟨rfl, d⟩
  replace HT := Lib.hid (HT.out.below d)
  replace hB : Hid (Below w.heap.size w _) := (hB.out).trans (d.mono (hB.out).size); clear d
  go_wp2_with fail
  refine (G1.out _ HT.out).mono ?_; rintro e w2 ⟨rfl, d⟩
  replace HT := Lib.hid (HT.out.below d)
  replace hB : Hid (Below w.heap.size w _) := (hB.out).trans (d.mono (hB.out).size); clear d
  have Y : Hid (Cs w2.heap.size (mcs 12 3 258) (w2.alloc (.cells #[.int .i64 12, .int .i64 3, .int .u32 258, .int .i64 0, .int .u32 0, .int .u16 0, .complex .f64 0 0, .bool false, .string ⟨#[]⟩, .slice none 0 0] 35))) := Cs.new w2 (mcs 12 3 258) 35
  go_wp2_with fail
  refine (G2.out _ (HT.out.alloc _)).mono ?_; rintro e w3 ⟨rfl, d⟩
  replace HT := Lib.hid ((HT.out.alloc _).below d)
  replace Y := Lib.hid (Y.out.keep d)
  replace hB : Hid (Below w.heap.size w _) := ((hB.out.alloc (hB.out).size _)).trans (d.mono ((hB.out.alloc (hB.out).size _)).size); clear d
  go_wp2_with fail
  refine (P2.out _ (HT.out.alloc _)).mono ?_; rintro e w4 ⟨rfl, d⟩
  replace HT := Lib.hid ((HT.out.alloc _).below d)
  replace hB : Hid (Below w.heap.size w _) := ((hB.out.alloc (hB.out).size _)).trans (d.mono ((hB.out.alloc (hB.out).size _)).size); replace Y := Lib.hid ((Y.out.alloc _).keep d); clear d
  go_wp2_with fail
  refine (HH.out _ HT.out).mono ?_; rintro e w5 ⟨rfl, rfl⟩
  go_wp2_with fail
  refine (P3.out _ HT.out).mono ?_; rintro e w6 ⟨rfl, d⟩
  replace hB : Hid (Below w.heap.size w _) := (hB.out).trans (d.mono (hB.out).size); replace Y := Lib.hid (Y.out.keep d); clear d
  have y0 := Y.out.cell 0 (.int .i64 12) rfl
  have y1 := Y.out.cell 1 (.int .i64 3) rfl
  have y2 := Y.out.cell 2 (.int .u32 258) rfl
  have y3 := Y.out.cell 3 (.int .i64 0) rfl
  have y4 := Y.out.cell 4 (.int .u32 0) rfl
  have y5 := Y.out.cell 5 (.int .u16 0) rfl
  have y6 := Y.out.cell 6 (.complex .f64 0 0) rfl
  have y7 := Y.out.cell 7 (.bool false) rfl
  have y8 := Y.out.cell 8 (.string ⟨#[]⟩) rfl
  have y9 := Y.out.cell 9 (.slice none 0 0) rfl
  clear Y P1 G1 G2 P2 HH P3 HT
  go_wp2_with fail
  refine (SS.out _).mono ?_; rintro e w7 ⟨rfl, d⟩
  replace hB : Hid (Below w.heap.size w _) := (hB.out).trans (d.mono (hB.out).size); clear d
  clear y0 y1 y2 y3 y4 y5 y6 y7 y8 y9
  go_wp2_with fail
  refine (RZ.out _).mono ?_; rintro e w8 ⟨rfl, d⟩
  replace hB : Hid (Below w.heap.size w _) := (hB.out).trans (d.mono (hB.out).size); clear d
  go_wp2
  go_ret
  exact ⟨rfl, hB.out⟩
end Go.Proofs.YtmhlnlippfaclaaDoor
