/- The contract of Get, where what is read has no field. -/
import Derived.Test.YtmhlnlippfaclaaDoorWireRead
namespace Go.Proofs.YtmhlnlippfaclaaDoor
open Go.Sort Go.RowKit Go.BigFrame
set_option linter.unusedVariables false
set_option linter.unusedSimpArgs false

set_option maxHeartbeats 800000 in
theorem get_long {s : ByteArray} (h : 1024 < s.size) (hs : s.size ≤ 9223372036854775807) (w : World) :
    Calls Tryd.prog 7 #[.string s] w fun e w' => e = .returned (.tuple #[.agg (mcs 0 0 0).toArray, .int .i64 3]) ∧ Below w.heap.size w w' := by
  have SX := store_cx
  have h' : (1024 : Int) < s.size := by omega
  go_enter Tryd.func7, Tryd.ntmps7
  go_wp2
  refine wp_scope_fwd 0 rfl ?_
  go_wp2
  simp only [Exit.jump]
  refine bodyPost_ret (v := .tuple #[.agg (mcs 0 0 0).toArray, .int .i64 3]) (by simp [results, Tryd.results7, go_sem, mcs]) rfl ⟨rfl, ?_⟩
  (repeat (first | with_reducible exact Below.refl _ _ | with_reducible refine Below.drew ?_ | with_reducible refine below_drewN ?_ _ | with_reducible refine Below.alloc ?_ (by first | omega | (simp; done) | (simp; omega)) _ | with_reducible refine Below.setCell ?_ (by first | omega | (simp; done) | (simp; omega)) _))
set_option maxHeartbeats 1600000 in
theorem get_bad {s : ByteArray} {k f q : Nat} {S : ByteArray} (hs : s.size ≤ 1024)
    (hR : ∀ w, Tab w → Calls Tryd.prog 14 #[.string s] w fun e w' => e = .returned (.agg #[.int .i64 (k : Nat), .int .i64 (f : Nat), .int .u32 (q : Nat), .int .i64 0, .int .u32 0, .int .u16 0, .complex .f64 0 0, .bool false, .string ⟨#[]⟩, .slice none 0 0]) ∧ Below w.heap.size w w')
    (hP : ∀ w, Tab w → Calls Tryd.prog 6 #[.agg #[.int .i64 (k : Nat), .int .i64 (f : Nat), .int .u32 (q : Nat), .int .i64 0, .int .u32 0, .int .u16 0, .complex .f64 0 0, .bool false, .string ⟨#[]⟩, .slice none 0 0]] w fun e w' => e = .returned (.tuple #[.string S, .bool false]) ∧ Below w.heap.size w w') (w : World) (ht : Tab w) :
    Calls Tryd.prog 7 #[.string s] w fun e w' => e = .returned (.tuple #[.agg (mcs 0 0 0).toArray, .int .i64 2]) ∧ Below w.heap.size w w' := by
  have SX := fun (a : Addr) (w : World) => store_cx a w
  have HR := Lib.hid hR
  have HP := Lib.hid hP
  have HT := Lib.hid ht
  have HT0 := Lib.hid ht
  have h' : ¬ (1024 : Int) < s.size := by omega
  clear hR hP ht
  go_enter Tryd.func7, Tryd.ntmps7
  have hB : Hid (Below w.heap.size w ((w.alloc (.cells #[.int .i64 0, .int .i64 0, .int .u32 0, .int .i64 0, .int .u32 0, .int .u16 0, .complex .f64 0 0, .bool false, .string ⟨#[]⟩, .slice none 0 0] 35)).alloc (.cells #[.int .i64 0, .int .i64 0, .int .u32 0, .int .i64 0, .int .u32 0, .int .u16 0, .complex .f64 0 0, .bool false, .string ⟨#[]⟩, .slice none 0 0] 35))) := by show Below _ _ _; (repeat (first | with_reducible exact Below.refl _ _ | with_reducible refine Below.drew ?_ | with_reducible refine below_drewN ?_ _ | with_reducible refine Below.alloc ?_ (by first | omega | (simp; done) | (simp; omega)) _ | with_reducible refine Below.setCell ?_ (by first | omega | (simp; done) | (simp; omega)) _))
  have X : Hid (Cs w.heap.size (mcs 0 0 0) ((w.alloc (.cells #[.int .i64 0, .int .i64 0, .int .u32 0, .int .i64 0, .int .u32 0, .int .u16 0, .complex .f64 0 0, .bool false, .string ⟨#[]⟩, .slice none 0 0] 35)).alloc (.cells #[.int .i64 0, .int .i64 0, .int .u32 0, .int .i64 0, .int .u32 0, .int .u16 0, .complex .f64 0 0, .bool false, .string ⟨#[]⟩, .slice none 0 0] 35))) := (Cs.new w (mcs 0 0 0) 35).alloc _
  have Y : Hid (Cs (w.heap.size + 1) (mcs 0 0 0) ((w.alloc (.cells #[.int .i64 0, .int .i64 0, .int .u32 0, .int .i64 0, .int .u32 0, .int .u16 0, .complex .f64 0 0, .bool false, .string ⟨#[]⟩, .slice none 0 0] 35)).alloc (.cells #[.int .i64 0, .int .i64 0, .int .u32 0, .int .i64 0, .int .u32 0, .int .u16 0, .complex .f64 0 0, .bool false, .string ⟨#[]⟩, .slice none 0 0] 35))) := by
    have h := Cs.new (w.alloc (.cells #[.int .i64 0, .int .i64 0, .int .u32 0, .int .i64 0, .int .u32 0, .int .u16 0, .complex .f64 0 0, .bool false, .string ⟨#[]⟩, .slice none 0 0] 35)) (mcs 0 0 0) 35
    rw [World.size_alloc] at h
    exact h
  have HT1 : Hid (Tab ((w.alloc (.cells #[.int .i64 0, .int .i64 0, .int .u32 0, .int .i64 0, .int .u32 0, .int .u16 0, .complex .f64 0 0, .bool false, .string ⟨#[]⟩, .slice none 0 0] 35)).alloc (.cells #[.int .i64 0, .int .i64 0, .int .u32 0, .int .i64 0, .int .u32 0, .int .u16 0, .complex .f64 0 0, .bool false, .string ⟨#[]⟩, .slice none 0 0] 35))) := HT.out.below hB.out
  go_wp2
  refine wp_scope_fwd 0 rfl ?_
  go_wp2_with fail
  refine (HR.out _ HT1.out).mono ?_; rintro e w1 ⟨rfl, d1⟩
  replace hB : Hid (Below w.heap.size w w1) := hB.out.trans (d1.mono hB.out.size)
  replace X := Lib.hid (X.out.keep d1)
  replace Y := Lib.hid (Y.out.keep d1)
  replace HT := Lib.hid (HT1.out.below d1)
  clear HT1 d1 HR
  have y0 := Y.out.cell 0 _ rfl
  have z0 := Y.out.free 0 _ rfl
  have y1 := Y.out.cell 1 _ rfl
  have z1 := Y.out.free 1 _ rfl
  have y2 := Y.out.cell 2 _ rfl
  have z2 := Y.out.free 2 _ rfl
  have y3 := Y.out.cell 3 _ rfl
  have z3 := Y.out.free 3 _ rfl
  have y4 := Y.out.cell 4 _ rfl
  have z4 := Y.out.free 4 _ rfl
  have y5 := Y.out.cell 5 _ rfl
  have z5 := Y.out.free 5 _ rfl
  have y6 := Y.out.cell 6 _ rfl
  have z6 := Y.out.free 6 _ rfl
  have y7 := Y.out.cell 7 _ rfl
  have z7 := Y.out.free 7 _ rfl
  have y8 := Y.out.cell 8 _ rfl
  have z8 := Y.out.free 8 _ rfl
  have y9 := Y.out.cell 9 _ rfl
  have z9 := Y.out.free 9 _ rfl
  have Y2 : Hid (Cs (w.heap.size + 1) (mcs k f q) (((((((((((w1.setCell ⟨w.heap.size + 1, 0, none⟩ (.int .i64 (k : Nat))).setCell ⟨w.heap.size + 1, 1, none⟩ (.int .i64 (f : Nat))).setCell ⟨w.heap.size + 1, 2, none⟩ (.int .u32 (q : Nat))).setCell ⟨w.heap.size + 1, 3, none⟩ (.int .i64 0)).setCell ⟨w.heap.size + 1, 4, none⟩ (.int .u32 0)).setCell ⟨w.heap.size + 1, 5, none⟩ (.int .u16 0)).setCell ⟨w.heap.size + 1, 6, none⟩ (.complex .f64 0 0)).setCell ⟨w.heap.size + 1, 7, none⟩ (.bool false)).setCell ⟨w.heap.size + 1, 8, none⟩ (.string ⟨#[]⟩)).setCell ⟨w.heap.size + 1, 9, none⟩ (.slice none 0 0)))) := (((((((((((Y.out.set 0 (.int .i64 (k : Nat)) (by simp [mcs])).set 1 (.int .i64 (f : Nat)) (by simp [mcs])).set 2 (.int .u32 (q : Nat)) (by simp [mcs])).set 3 (.int .i64 0) (by simp [mcs])).set 4 (.int .u32 0) (by simp [mcs])).set 5 (.int .u16 0) (by simp [mcs])).set 6 (.complex .f64 0 0) (by simp [mcs])).set 7 (.bool false) (by simp [mcs])).set 8 (.string ⟨#[]⟩) (by simp [mcs])).set 9 (.slice none 0 0) (by simp [mcs])))
  have X2 : Hid (Cs w.heap.size (mcs 0 0 0) (((((((((((w1.setCell ⟨w.heap.size + 1, 0, none⟩ (.int .i64 (k : Nat))).setCell ⟨w.heap.size + 1, 1, none⟩ (.int .i64 (f : Nat))).setCell ⟨w.heap.size + 1, 2, none⟩ (.int .u32 (q : Nat))).setCell ⟨w.heap.size + 1, 3, none⟩ (.int .i64 0)).setCell ⟨w.heap.size + 1, 4, none⟩ (.int .u32 0)).setCell ⟨w.heap.size + 1, 5, none⟩ (.int .u16 0)).setCell ⟨w.heap.size + 1, 6, none⟩ (.complex .f64 0 0)).setCell ⟨w.heap.size + 1, 7, none⟩ (.bool false)).setCell ⟨w.heap.size + 1, 8, none⟩ (.string ⟨#[]⟩)).setCell ⟨w.heap.size + 1, 9, none⟩ (.slice none 0 0)))) := ((((((((((X.out.far ⟨w.heap.size + 1, 0, none⟩ (.int .i64 (k : Nat)) (by simp)).far ⟨w.heap.size + 1, 1, none⟩ (.int .i64 (f : Nat)) (by simp)).far ⟨w.heap.size + 1, 2, none⟩ (.int .u32 (q : Nat)) (by simp)).far ⟨w.heap.size + 1, 3, none⟩ (.int .i64 0) (by simp)).far ⟨w.heap.size + 1, 4, none⟩ (.int .u32 0) (by simp)).far ⟨w.heap.size + 1, 5, none⟩ (.int .u16 0) (by simp)).far ⟨w.heap.size + 1, 6, none⟩ (.complex .f64 0 0) (by simp)).far ⟨w.heap.size + 1, 7, none⟩ (.bool false) (by simp)).far ⟨w.heap.size + 1, 8, none⟩ (.string ⟨#[]⟩) (by simp)).far ⟨w.heap.size + 1, 9, none⟩ (.slice none 0 0) (by simp))
  have lo : w.heap.size ≤ w.heap.size + 1 := by omega
  have hB2 : Hid (Below w.heap.size w (((((((((((w1.setCell ⟨w.heap.size + 1, 0, none⟩ (.int .i64 (k : Nat))).setCell ⟨w.heap.size + 1, 1, none⟩ (.int .i64 (f : Nat))).setCell ⟨w.heap.size + 1, 2, none⟩ (.int .u32 (q : Nat))).setCell ⟨w.heap.size + 1, 3, none⟩ (.int .i64 0)).setCell ⟨w.heap.size + 1, 4, none⟩ (.int .u32 0)).setCell ⟨w.heap.size + 1, 5, none⟩ (.int .u16 0)).setCell ⟨w.heap.size + 1, 6, none⟩ (.complex .f64 0 0)).setCell ⟨w.heap.size + 1, 7, none⟩ (.bool false)).setCell ⟨w.heap.size + 1, 8, none⟩ (.string ⟨#[]⟩)).setCell ⟨w.heap.size + 1, 9, none⟩ (.slice none 0 0)))) := ((((((((((hB.out.setCell (p := ⟨w.heap.size + 1, 0, none⟩) lo _).setCell (p := ⟨w.heap.size + 1, 1, none⟩) lo _).setCell (p := ⟨w.heap.size + 1, 2, none⟩) lo _).setCell (p := ⟨w.heap.size + 1, 3, none⟩) lo _).setCell (p := ⟨w.heap.size + 1, 4, none⟩) lo _).setCell (p := ⟨w.heap.size + 1, 5, none⟩) lo _).setCell (p := ⟨w.heap.size + 1, 6, none⟩) lo _).setCell (p := ⟨w.heap.size + 1, 7, none⟩) lo _).setCell (p := ⟨w.heap.size + 1, 8, none⟩) lo _).setCell (p := ⟨w.heap.size + 1, 9, none⟩) lo _)
  have HT2 : Hid (Tab (((((((((((w1.setCell ⟨w.heap.size + 1, 0, none⟩ (.int .i64 (k : Nat))).setCell ⟨w.heap.size + 1, 1, none⟩ (.int .i64 (f : Nat))).setCell ⟨w.heap.size + 1, 2, none⟩ (.int .u32 (q : Nat))).setCell ⟨w.heap.size + 1, 3, none⟩ (.int .i64 0)).setCell ⟨w.heap.size + 1, 4, none⟩ (.int .u32 0)).setCell ⟨w.heap.size + 1, 5, none⟩ (.int .u16 0)).setCell ⟨w.heap.size + 1, 6, none⟩ (.complex .f64 0 0)).setCell ⟨w.heap.size + 1, 7, none⟩ (.bool false)).setCell ⟨w.heap.size + 1, 8, none⟩ (.string ⟨#[]⟩)).setCell ⟨w.heap.size + 1, 9, none⟩ (.slice none 0 0)))) := HT0.out.below hB2.out
  go_wp2_with fail
  clear y0 z0 y1 z1 y2 z2 y3 z3 y4 z4 y5 z5 y6 z6 y7 z7 y8 z8 y9 z9
  clear X Y HT hB HT0
  generalize ((((((((((w1.setCell ⟨w.heap.size + 1, 0, none⟩ (.int .i64 (k : Nat))).setCell ⟨w.heap.size + 1, 1, none⟩ (.int .i64 (f : Nat))).setCell ⟨w.heap.size + 1, 2, none⟩ (.int .u32 (q : Nat))).setCell ⟨w.heap.size + 1, 3, none⟩ (.int .i64 0)).setCell ⟨w.heap.size + 1, 4, none⟩ (.int .u32 0)).setCell ⟨w.heap.size + 1, 5, none⟩ (.int .u16 0)).setCell ⟨w.heap.size + 1, 6, none⟩ (.complex .f64 0 0)).setCell ⟨w.heap.size + 1, 7, none⟩ (.bool false)).setCell ⟨w.heap.size + 1, 8, none⟩ (.string ⟨#[]⟩)).setCell ⟨w.heap.size + 1, 9, none⟩ (.slice none 0 0)) = w2 at *
  have y0 := Y2.out.cell 0 _ rfl
  have y1 := Y2.out.cell 1 _ rfl
  have y2 := Y2.out.cell 2 _ rfl
  have y3 := Y2.out.cell 3 _ rfl
  have y4 := Y2.out.cell 4 _ rfl
  have y5 := Y2.out.cell 5 _ rfl
  have y6 := Y2.out.cell 6 _ rfl
  have y7 := Y2.out.cell 7 _ rfl
  have y8 := Y2.out.cell 8 _ rfl
  have y9 := Y2.out.cell 9 _ rfl
  go_wp2_with fail
  refine (HP.out _ HT2.out).mono ?_; rintro e w3 ⟨rfl, d3⟩
  replace hB : Hid (Below w.heap.size w w3) := hB2.out.trans (d3.mono hB2.out.size)
  replace X := Lib.hid (X2.out.keep d3)
  replace Y := Lib.hid (Y2.out.keep d3)
  clear y0 y1 y2 y3 y4 y5 y6 y7 y8 y9
  clear d3 X2 Y2 hB2 HT2 HP
  have y0 := X.out.cell 0 _ rfl
  have z0 := X.out.free 0 _ rfl
  have y1 := X.out.cell 1 _ rfl
  have z1 := X.out.free 1 _ rfl
  have y2 := X.out.cell 2 _ rfl
  have z2 := X.out.free 2 _ rfl
  have y3 := X.out.cell 3 _ rfl
  have z3 := X.out.free 3 _ rfl
  have y4 := X.out.cell 4 _ rfl
  have z4 := X.out.free 4 _ rfl
  have y5 := X.out.cell 5 _ rfl
  have z5 := X.out.free 5 _ rfl
  have y6 := X.out.cell 6 _ rfl
  have z6 := X.out.free 6 _ rfl
  have y7 := X.out.cell 7 _ rfl
  have z7 := X.out.free 7 _ rfl
  have y8 := X.out.cell 8 _ rfl
  have z8 := X.out.free 8 _ rfl
  have y9 := X.out.cell 9 _ rfl
  have z9 := X.out.free 9 _ rfl
  go_wp2_with fail
  go_step3
  go_wp2
  refine ⟨rfl, ?_⟩
  go_wp2
  rw [Exit.noGoto_ret]
  refine bodyPost_ret (v := .tuple #[.agg (mcs 0 0 0).toArray, .int .i64 2]) (by simp [results, Tryd.results7, go_sem, mcs, *]) rfl ⟨rfl, ?_⟩
  have hB3 := hB.out
  (have zzh := Below.size hB3; repeat (first | with_reducible exact hB3 | with_reducible refine Below.setCell ?_ (by first | omega | (simp; done) | (simp; omega)) _ | with_reducible refine Below.alloc ?_ (by first | omega | (simp; done) | (simp; omega)) _ | with_reducible refine Below.drew ?_))
set_option maxHeartbeats 1600000 in
theorem get_other {s : ByteArray} {k f q : Nat} {S : ByteArray} (hs : s.size ≤ 1024) (hE : (S.toList == s.toList) = false)
    (hR : ∀ w, Tab w → Calls Tryd.prog 14 #[.string s] w fun e w' => e = .returned (.agg #[.int .i64 (k : Nat), .int .i64 (f : Nat), .int .u32 (q : Nat), .int .i64 0, .int .u32 0, .int .u16 0, .complex .f64 0 0, .bool false, .string ⟨#[]⟩, .slice none 0 0]) ∧ Below w.heap.size w w')
    (hP : ∀ w, Tab w → Calls Tryd.prog 6 #[.agg #[.int .i64 (k : Nat), .int .i64 (f : Nat), .int .u32 (q : Nat), .int .i64 0, .int .u32 0, .int .u16 0, .complex .f64 0 0, .bool false, .string ⟨#[]⟩, .slice none 0 0]] w fun e w' => e = .returned (.tuple #[.string S, .bool true]) ∧ Below w.heap.size w w') (w : World) (ht : Tab w) :
    Calls Tryd.prog 7 #[.string s] w fun e w' => e = .returned (.tuple #[.agg (mcs 0 0 0).toArray, .int .i64 2]) ∧ Below w.heap.size w w' := by
  have SX := fun (a : Addr) (w : World) => store_cx a w
  have HR := Lib.hid hR
  have HP := Lib.hid hP
  have HT := Lib.hid ht
  have HT0 := Lib.hid ht
  have h' : ¬ (1024 : Int) < s.size := by omega
  clear hR hP ht
  go_enter Tryd.func7, Tryd.ntmps7
  have hB : Hid (Below w.heap.size w ((w.alloc (.cells #[.int .i64 0, .int .i64 0, .int .u32 0, .int .i64 0, .int .u32 0, .int .u16 0, .complex .f64 0 0, .bool false, .string ⟨#[]⟩, .slice none 0 0] 35)).alloc (.cells #[.int .i64 0, .int .i64 0, .int .u32 0, .int .i64 0, .int .u32 0, .int .u16 0, .complex .f64 0 0, .bool false, .string ⟨#[]⟩, .slice none 0 0] 35))) := by show Below _ _ _; (repeat (first | with_reducible exact Below.refl _ _ | with_reducible refine Below.drew ?_ | with_reducible refine below_drewN ?_ _ | with_reducible refine Below.alloc ?_ (by first | omega | (simp; done) | (simp; omega)) _ | with_reducible refine Below.setCell ?_ (by first | omega | (simp; done) | (simp; omega)) _))
  have X : Hid (Cs w.heap.size (mcs 0 0 0) ((w.alloc (.cells #[.int .i64 0, .int .i64 0, .int .u32 0, .int .i64 0, .int .u32 0, .int .u16 0, .complex .f64 0 0, .bool false, .string ⟨#[]⟩, .slice none 0 0] 35)).alloc (.cells #[.int .i64 0, .int .i64 0, .int .u32 0, .int .i64 0, .int .u32 0, .int .u16 0, .complex .f64 0 0, .bool false, .string ⟨#[]⟩, .slice none 0 0] 35))) := (Cs.new w (mcs 0 0 0) 35).alloc _
  have Y : Hid (Cs (w.heap.size + 1) (mcs 0 0 0) ((w.alloc (.cells #[.int .i64 0, .int .i64 0, .int .u32 0, .int .i64 0, .int .u32 0, .int .u16 0, .complex .f64 0 0, .bool false, .string ⟨#[]⟩, .slice none 0 0] 35)).alloc (.cells #[.int .i64 0, .int .i64 0, .int .u32 0, .int .i64 0, .int .u32 0, .int .u16 0, .complex .f64 0 0, .bool false, .string ⟨#[]⟩, .slice none 0 0] 35))) := by
    have h := Cs.new (w.alloc (.cells #[.int .i64 0, .int .i64 0, .int .u32 0, .int .i64 0, .int .u32 0, .int .u16 0, .complex .f64 0 0, .bool false, .string ⟨#[]⟩, .slice none 0 0] 35)) (mcs 0 0 0) 35
    rw [World.size_alloc] at h
    exact h
  have HT1 : Hid (Tab ((w.alloc (.cells #[.int .i64 0, .int .i64 0, .int .u32 0, .int .i64 0, .int .u32 0, .int .u16 0, .complex .f64 0 0, .bool false, .string ⟨#[]⟩, .slice none 0 0] 35)).alloc (.cells #[.int .i64 0, .int .i64 0, .int .u32 0, .int .i64 0, .int .u32 0, .int .u16 0, .complex .f64 0 0, .bool false, .string ⟨#[]⟩, .slice none 0 0] 35))) := HT.out.below hB.out
  go_wp2
  refine wp_scope_fwd 0 rfl ?_
  go_wp2_with fail
  refine (HR.out _ HT1.out).mono ?_; rintro e w1 ⟨rfl, d1⟩
  replace hB : Hid (Below w.heap.size w w1) := hB.out.trans (d1.mono hB.out.size)
  replace X := Lib.hid (X.out.keep d1)
  replace Y := Lib.hid (Y.out.keep d1)
  replace HT := Lib.hid (HT1.out.below d1)
  clear HT1 d1 HR
  have y0 := Y.out.cell 0 _ rfl
  have z0 := Y.out.free 0 _ rfl
  have y1 := Y.out.cell 1 _ rfl
  have z1 := Y.out.free 1 _ rfl
  have y2 := Y.out.cell 2 _ rfl
  have z2 := Y.out.free 2 _ rfl
  have y3 := Y.out.cell 3 _ rfl
  have z3 := Y.out.free 3 _ rfl
  have y4 := Y.out.cell 4 _ rfl
  have z4 := Y.out.free 4 _ rfl
  have y5 := Y.out.cell 5 _ rfl
  have z5 := Y.out.free 5 _ rfl
  have y6 := Y.out.cell 6 _ rfl
  have z6 := Y.out.free 6 _ rfl
  have y7 := Y.out.cell 7 _ rfl
  have z7 := Y.out.free 7 _ rfl
  have y8 := Y.out.cell 8 _ rfl
  have z8 := Y.out.free 8 _ rfl
  have y9 := Y.out.cell 9 _ rfl
  have z9 := Y.out.free 9 _ rfl
  have Y2 : Hid (Cs (w.heap.size + 1) (mcs k f q) (((((((((((w1.setCell ⟨w.heap.size + 1, 0, none⟩ (.int .i64 (k : Nat))).setCell ⟨w.heap.size + 1, 1, none⟩ (.int .i64 (f : Nat))).setCell ⟨w.heap.size + 1, 2, none⟩ (.int .u32 (q : Nat))).setCell ⟨w.heap.size + 1, 3, none⟩ (.int .i64 0)).setCell ⟨w.heap.size + 1, 4, none⟩ (.int .u32 0)).setCell ⟨w.heap.size + 1, 5, none⟩ (.int .u16 0)).setCell ⟨w.heap.size + 1, 6, none⟩ (.complex .f64 0 0)).setCell ⟨w.heap.size + 1, 7, none⟩ (.bool false)).setCell ⟨w.heap.size + 1, 8, none⟩ (.string ⟨#[]⟩)).setCell ⟨w.heap.size + 1, 9, none⟩ (.slice none 0 0)))) := (((((((((((Y.out.set 0 (.int .i64 (k : Nat)) (by simp [mcs])).set 1 (.int .i64 (f : Nat)) (by simp [mcs])).set 2 (.int .u32 (q : Nat)) (by simp [mcs])).set 3 (.int .i64 0) (by simp [mcs])).set 4 (.int .u32 0) (by simp [mcs])).set 5 (.int .u16 0) (by simp [mcs])).set 6 (.complex .f64 0 0) (by simp [mcs])).set 7 (.bool false) (by simp [mcs])).set 8 (.string ⟨#[]⟩) (by simp [mcs])).set 9 (.slice none 0 0) (by simp [mcs])))
  have X2 : Hid (Cs w.heap.size (mcs 0 0 0) (((((((((((w1.setCell ⟨w.heap.size + 1, 0, none⟩ (.int .i64 (k : Nat))).setCell ⟨w.heap.size + 1, 1, none⟩ (.int .i64 (f : Nat))).setCell ⟨w.heap.size + 1, 2, none⟩ (.int .u32 (q : Nat))).setCell ⟨w.heap.size + 1, 3, none⟩ (.int .i64 0)).setCell ⟨w.heap.size + 1, 4, none⟩ (.int .u32 0)).setCell ⟨w.heap.size + 1, 5, none⟩ (.int .u16 0)).setCell ⟨w.heap.size + 1, 6, none⟩ (.complex .f64 0 0)).setCell ⟨w.heap.size + 1, 7, none⟩ (.bool false)).setCell ⟨w.heap.size + 1, 8, none⟩ (.string ⟨#[]⟩)).setCell ⟨w.heap.size + 1, 9, none⟩ (.slice none 0 0)))) := ((((((((((X.out.far ⟨w.heap.size + 1, 0, none⟩ (.int .i64 (k : Nat)) (by simp)).far ⟨w.heap.size + 1, 1, none⟩ (.int .i64 (f : Nat)) (by simp)).far ⟨w.heap.size + 1, 2, none⟩ (.int .u32 (q : Nat)) (by simp)).far ⟨w.heap.size + 1, 3, none⟩ (.int .i64 0) (by simp)).far ⟨w.heap.size + 1, 4, none⟩ (.int .u32 0) (by simp)).far ⟨w.heap.size + 1, 5, none⟩ (.int .u16 0) (by simp)).far ⟨w.heap.size + 1, 6, none⟩ (.complex .f64 0 0) (by simp)).far ⟨w.heap.size + 1, 7, none⟩ (.bool false) (by simp)).far ⟨w.heap.size + 1, 8, none⟩ (.string ⟨#[]⟩) (by simp)).far ⟨w.heap.size + 1, 9, none⟩ (.slice none 0 0) (by simp))
  have lo : w.heap.size ≤ w.heap.size + 1 := by omega
  have hB2 : Hid (Below w.heap.size w (((((((((((w1.setCell ⟨w.heap.size + 1, 0, none⟩ (.int .i64 (k : Nat))).setCell ⟨w.heap.size + 1, 1, none⟩ (.int .i64 (f : Nat))).setCell ⟨w.heap.size + 1, 2, none⟩ (.int .u32 (q : Nat))).setCell ⟨w.heap.size + 1, 3, none⟩ (.int .i64 0)).setCell ⟨w.heap.size + 1, 4, none⟩ (.int .u32 0)).setCell ⟨w.heap.size + 1, 5, none⟩ (.int .u16 0)).setCell ⟨w.heap.size + 1, 6, none⟩ (.complex .f64 0 0)).setCell ⟨w.heap.size + 1, 7, none⟩ (.bool false)).setCell ⟨w.heap.size + 1, 8, none⟩ (.string ⟨#[]⟩)).setCell ⟨w.heap.size + 1, 9, none⟩ (.slice none 0 0)))) := ((((((((((hB.out.setCell (p := ⟨w.heap.size + 1, 0, none⟩) lo _).setCell (p := ⟨w.heap.size + 1, 1, none⟩) lo _).setCell (p := ⟨w.heap.size + 1, 2, none⟩) lo _).setCell (p := ⟨w.heap.size + 1, 3, none⟩) lo _).setCell (p := ⟨w.heap.size + 1, 4, none⟩) lo _).setCell (p := ⟨w.heap.size + 1, 5, none⟩) lo _).setCell (p := ⟨w.heap.size + 1, 6, none⟩) lo _).setCell (p := ⟨w.heap.size + 1, 7, none⟩) lo _).setCell (p := ⟨w.heap.size + 1, 8, none⟩) lo _).setCell (p := ⟨w.heap.size + 1, 9, none⟩) lo _)
  have HT2 : Hid (Tab (((((((((((w1.setCell ⟨w.heap.size + 1, 0, none⟩ (.int .i64 (k : Nat))).setCell ⟨w.heap.size + 1, 1, none⟩ (.int .i64 (f : Nat))).setCell ⟨w.heap.size + 1, 2, none⟩ (.int .u32 (q : Nat))).setCell ⟨w.heap.size + 1, 3, none⟩ (.int .i64 0)).setCell ⟨w.heap.size + 1, 4, none⟩ (.int .u32 0)).setCell ⟨w.heap.size + 1, 5, none⟩ (.int .u16 0)).setCell ⟨w.heap.size + 1, 6, none⟩ (.complex .f64 0 0)).setCell ⟨w.heap.size + 1, 7, none⟩ (.bool false)).setCell ⟨w.heap.size + 1, 8, none⟩ (.string ⟨#[]⟩)).setCell ⟨w.heap.size + 1, 9, none⟩ (.slice none 0 0)))) := HT0.out.below hB2.out
  go_wp2_with fail
  clear y0 z0 y1 z1 y2 z2 y3 z3 y4 z4 y5 z5 y6 z6 y7 z7 y8 z8 y9 z9
  clear X Y HT hB HT0
  generalize ((((((((((w1.setCell ⟨w.heap.size + 1, 0, none⟩ (.int .i64 (k : Nat))).setCell ⟨w.heap.size + 1, 1, none⟩ (.int .i64 (f : Nat))).setCell ⟨w.heap.size + 1, 2, none⟩ (.int .u32 (q : Nat))).setCell ⟨w.heap.size + 1, 3, none⟩ (.int .i64 0)).setCell ⟨w.heap.size + 1, 4, none⟩ (.int .u32 0)).setCell ⟨w.heap.size + 1, 5, none⟩ (.int .u16 0)).setCell ⟨w.heap.size + 1, 6, none⟩ (.complex .f64 0 0)).setCell ⟨w.heap.size + 1, 7, none⟩ (.bool false)).setCell ⟨w.heap.size + 1, 8, none⟩ (.string ⟨#[]⟩)).setCell ⟨w.heap.size + 1, 9, none⟩ (.slice none 0 0)) = w2 at *
  have y0 := Y2.out.cell 0 _ rfl
  have y1 := Y2.out.cell 1 _ rfl
  have y2 := Y2.out.cell 2 _ rfl
  have y3 := Y2.out.cell 3 _ rfl
  have y4 := Y2.out.cell 4 _ rfl
  have y5 := Y2.out.cell 5 _ rfl
  have y6 := Y2.out.cell 6 _ rfl
  have y7 := Y2.out.cell 7 _ rfl
  have y8 := Y2.out.cell 8 _ rfl
  have y9 := Y2.out.cell 9 _ rfl
  go_wp2_with fail
  refine (HP.out _ HT2.out).mono ?_; rintro e w3 ⟨rfl, d3⟩
  replace hB : Hid (Below w.heap.size w w3) := hB2.out.trans (d3.mono hB2.out.size)
  replace X := Lib.hid (X2.out.keep d3)
  replace Y := Lib.hid (Y2.out.keep d3)
  clear y0 y1 y2 y3 y4 y5 y6 y7 y8 y9
  clear d3 X2 Y2 hB2 HT2 HP
  have y0 := X.out.cell 0 _ rfl
  have z0 := X.out.free 0 _ rfl
  have y1 := X.out.cell 1 _ rfl
  have z1 := X.out.free 1 _ rfl
  have y2 := X.out.cell 2 _ rfl
  have z2 := X.out.free 2 _ rfl
  have y3 := X.out.cell 3 _ rfl
  have z3 := X.out.free 3 _ rfl
  have y4 := X.out.cell 4 _ rfl
  have z4 := X.out.free 4 _ rfl
  have y5 := X.out.cell 5 _ rfl
  have z5 := X.out.free 5 _ rfl
  have y6 := X.out.cell 6 _ rfl
  have z6 := X.out.free 6 _ rfl
  have y7 := X.out.cell 7 _ rfl
  have z7 := X.out.free 7 _ rfl
  have y8 := X.out.cell 8 _ rfl
  have z8 := X.out.free 8 _ rfl
  have y9 := X.out.cell 9 _ rfl
  have z9 := X.out.free 9 _ rfl
  go_wp2_with fail
  go_step3
  go_wp2
  refine ⟨rfl, ?_⟩
  go_wp2
  rw [Exit.noGoto_ret]
  refine bodyPost_ret (v := .tuple #[.agg (mcs 0 0 0).toArray, .int .i64 2]) (by simp [results, Tryd.results7, go_sem, mcs, *]) rfl ⟨rfl, ?_⟩
  have hB3 := hB.out
  (have zzh := Below.size hB3; repeat (first | with_reducible exact hB3 | with_reducible refine Below.setCell ?_ (by first | omega | (simp; done) | (simp; omega)) _ | with_reducible refine Below.alloc ?_ (by first | omega | (simp; done) | (simp; omega)) _ | with_reducible refine Below.drew ?_))
set_option maxHeartbeats 1600000 in
theorem get_same {s : ByteArray} {k f q : Nat} {S : ByteArray} (hs : s.size ≤ 1024) (hE : (S.toList == s.toList) = true)
    (hR : ∀ w, Tab w → Calls Tryd.prog 14 #[.string s] w fun e w' => e = .returned (.agg #[.int .i64 (k : Nat), .int .i64 (f : Nat), .int .u32 (q : Nat), .int .i64 0, .int .u32 0, .int .u16 0, .complex .f64 0 0, .bool false, .string ⟨#[]⟩, .slice none 0 0]) ∧ Below w.heap.size w w')
    (hP : ∀ w, Tab w → Calls Tryd.prog 6 #[.agg #[.int .i64 (k : Nat), .int .i64 (f : Nat), .int .u32 (q : Nat), .int .i64 0, .int .u32 0, .int .u16 0, .complex .f64 0 0, .bool false, .string ⟨#[]⟩, .slice none 0 0]] w fun e w' => e = .returned (.tuple #[.string S, .bool true]) ∧ Below w.heap.size w w') (w : World) (ht : Tab w) :
    Calls Tryd.prog 7 #[.string s] w fun e w' => e = .returned (.tuple #[.agg (mcs k f q).toArray, .int .i64 0]) ∧ Below w.heap.size w w' := by
  have SX := fun (a : Addr) (w : World) => store_cx a w
  have HR := Lib.hid hR
  have HP := Lib.hid hP
  have HT := Lib.hid ht
  have HT0 := Lib.hid ht
  have h' : ¬ (1024 : Int) < s.size := by omega
  clear hR hP ht
  go_enter Tryd.func7, Tryd.ntmps7
  have hB : Hid (Below w.heap.size w ((w.alloc (.cells #[.int .i64 0, .int .i64 0, .int .u32 0, .int .i64 0, .int .u32 0, .int .u16 0, .complex .f64 0 0, .bool false, .string ⟨#[]⟩, .slice none 0 0] 35)).alloc (.cells #[.int .i64 0, .int .i64 0, .int .u32 0, .int .i64 0, .int .u32 0, .int .u16 0, .complex .f64 0 0, .bool false, .string ⟨#[]⟩, .slice none 0 0] 35))) := by show Below _ _ _; (repeat (first | with_reducible exact Below.refl _ _ | with_reducible refine Below.drew ?_ | with_reducible refine below_drewN ?_ _ | with_reducible refine Below.alloc ?_ (by first | omega | (simp; done) | (simp; omega)) _ | with_reducible refine Below.setCell ?_ (by first | omega | (simp; done) | (simp; omega)) _))
  have X : Hid (Cs w.heap.size (mcs 0 0 0) ((w.alloc (.cells #[.int .i64 0, .int .i64 0, .int .u32 0, .int .i64 0, .int .u32 0, .int .u16 0, .complex .f64 0 0, .bool false, .string ⟨#[]⟩, .slice none 0 0] 35)).alloc (.cells #[.int .i64 0, .int .i64 0, .int .u32 0, .int .i64 0, .int .u32 0, .int .u16 0, .complex .f64 0 0, .bool false, .string ⟨#[]⟩, .slice none 0 0] 35))) := (Cs.new w (mcs 0 0 0) 35).alloc _
  have Y : Hid (Cs (w.heap.size + 1) (mcs 0 0 0) ((w.alloc (.cells #[.int .i64 0, .int .i64 0, .int .u32 0, .int .i64 0, .int .u32 0, .int .u16 0, .complex .f64 0 0, .bool false, .string ⟨#[]⟩, .slice none 0 0] 35)).alloc (.cells #[.int .i64 0, .int .i64 0, .int .u32 0, .int .i64 0, .int .u32 0, .int .u16 0, .complex .f64 0 0, .bool false, .string ⟨#[]⟩, .slice none 0 0] 35))) := by
    have h := Cs.new (w.alloc (.cells #[.int .i64 0, .int .i64 0, .int .u32 0, .int .i64 0, .int .u32 0, .int .u16 0, .complex .f64 0 0, .bool false, .string ⟨#[]⟩, .slice none 0 0] 35)) (mcs 0 0 0) 35
    rw [World.size_alloc] at h
    exact h
  have HT1 : Hid (Tab ((w.alloc (.cells #[.int .i64 0, .int .i64 0, .int .u32 0, .int .i64 0, .int .u32 0, .int .u16 0, .complex .f64 0 0, .bool false, .string ⟨#[]⟩, .slice none 0 0] 35)).alloc (.cells #[.int .i64 0, .int .i64 0, .int .u32 0, .int .i64 0, .int .u32 0, .int .u16 0, .complex .f64 0 0, .bool false, .string ⟨#[]⟩, .slice none 0 0] 35))) := HT.out.below hB.out
  go_wp2
  refine wp_scope_fwd 0 rfl ?_
  go_wp2_with fail
  refine (HR.out _ HT1.out).mono ?_; rintro e w1 ⟨rfl, d1⟩
  replace hB : Hid (Below w.heap.size w w1) := hB.out.trans (d1.mono hB.out.size)
  replace X := Lib.hid (X.out.keep d1)
  replace Y := Lib.hid (Y.out.keep d1)
  replace HT := Lib.hid (HT1.out.below d1)
  clear HT1 d1 HR
  have y0 := Y.out.cell 0 _ rfl
  have z0 := Y.out.free 0 _ rfl
  have y1 := Y.out.cell 1 _ rfl
  have z1 := Y.out.free 1 _ rfl
  have y2 := Y.out.cell 2 _ rfl
  have z2 := Y.out.free 2 _ rfl
  have y3 := Y.out.cell 3 _ rfl
  have z3 := Y.out.free 3 _ rfl
  have y4 := Y.out.cell 4 _ rfl
  have z4 := Y.out.free 4 _ rfl
  have y5 := Y.out.cell 5 _ rfl
  have z5 := Y.out.free 5 _ rfl
  have y6 := Y.out.cell 6 _ rfl
  have z6 := Y.out.free 6 _ rfl
  have y7 := Y.out.cell 7 _ rfl
  have z7 := Y.out.free 7 _ rfl
  have y8 := Y.out.cell 8 _ rfl
  have z8 := Y.out.free 8 _ rfl
  have y9 := Y.out.cell 9 _ rfl
  have z9 := Y.out.free 9 _ rfl
  have Y2 : Hid (Cs (w.heap.size + 1) (mcs k f q) (((((((((((w1.setCell ⟨w.heap.size + 1, 0, none⟩ (.int .i64 (k : Nat))).setCell ⟨w.heap.size + 1, 1, none⟩ (.int .i64 (f : Nat))).setCell ⟨w.heap.size + 1, 2, none⟩ (.int .u32 (q : Nat))).setCell ⟨w.heap.size + 1, 3, none⟩ (.int .i64 0)).setCell ⟨w.heap.size + 1, 4, none⟩ (.int .u32 0)).setCell ⟨w.heap.size + 1, 5, none⟩ (.int .u16 0)).setCell ⟨w.heap.size + 1, 6, none⟩ (.complex .f64 0 0)).setCell ⟨w.heap.size + 1, 7, none⟩ (.bool false)).setCell ⟨w.heap.size + 1, 8, none⟩ (.string ⟨#[]⟩)).setCell ⟨w.heap.size + 1, 9, none⟩ (.slice none 0 0)))) := (((((((((((Y.out.set 0 (.int .i64 (k : Nat)) (by simp [mcs])).set 1 (.int .i64 (f : Nat)) (by simp [mcs])).set 2 (.int .u32 (q : Nat)) (by simp [mcs])).set 3 (.int .i64 0) (by simp [mcs])).set 4 (.int .u32 0) (by simp [mcs])).set 5 (.int .u16 0) (by simp [mcs])).set 6 (.complex .f64 0 0) (by simp [mcs])).set 7 (.bool false) (by simp [mcs])).set 8 (.string ⟨#[]⟩) (by simp [mcs])).set 9 (.slice none 0 0) (by simp [mcs])))
  have X2 : Hid (Cs w.heap.size (mcs 0 0 0) (((((((((((w1.setCell ⟨w.heap.size + 1, 0, none⟩ (.int .i64 (k : Nat))).setCell ⟨w.heap.size + 1, 1, none⟩ (.int .i64 (f : Nat))).setCell ⟨w.heap.size + 1, 2, none⟩ (.int .u32 (q : Nat))).setCell ⟨w.heap.size + 1, 3, none⟩ (.int .i64 0)).setCell ⟨w.heap.size + 1, 4, none⟩ (.int .u32 0)).setCell ⟨w.heap.size + 1, 5, none⟩ (.int .u16 0)).setCell ⟨w.heap.size + 1, 6, none⟩ (.complex .f64 0 0)).setCell ⟨w.heap.size + 1, 7, none⟩ (.bool false)).setCell ⟨w.heap.size + 1, 8, none⟩ (.string ⟨#[]⟩)).setCell ⟨w.heap.size + 1, 9, none⟩ (.slice none 0 0)))) := ((((((((((X.out.far ⟨w.heap.size + 1, 0, none⟩ (.int .i64 (k : Nat)) (by simp)).far ⟨w.heap.size + 1, 1, none⟩ (.int .i64 (f : Nat)) (by simp)).far ⟨w.heap.size + 1, 2, none⟩ (.int .u32 (q : Nat)) (by simp)).far ⟨w.heap.size + 1, 3, none⟩ (.int .i64 0) (by simp)).far ⟨w.heap.size + 1, 4, none⟩ (.int .u32 0) (by simp)).far ⟨w.heap.size + 1, 5, none⟩ (.int .u16 0) (by simp)).far ⟨w.heap.size + 1, 6, none⟩ (.complex .f64 0 0) (by simp)).far ⟨w.heap.size + 1, 7, none⟩ (.bool false) (by simp)).far ⟨w.heap.size + 1, 8, none⟩ (.string ⟨#[]⟩) (by simp)).far ⟨w.heap.size + 1, 9, none⟩ (.slice none 0 0) (by simp))
  have lo : w.heap.size ≤ w.heap.size + 1 := by omega
  have hB2 : Hid (Below w.heap.size w (((((((((((w1.setCell ⟨w.heap.size + 1, 0, none⟩ (.int .i64 (k : Nat))).setCell ⟨w.heap.size + 1, 1, none⟩ (.int .i64 (f : Nat))).setCell ⟨w.heap.size + 1, 2, none⟩ (.int .u32 (q : Nat))).setCell ⟨w.heap.size + 1, 3, none⟩ (.int .i64 0)).setCell ⟨w.heap.size + 1, 4, none⟩ (.int .u32 0)).setCell ⟨w.heap.size + 1, 5, none⟩ (.int .u16 0)).setCell ⟨w.heap.size + 1, 6, none⟩ (.complex .f64 0 0)).setCell ⟨w.heap.size + 1, 7, none⟩ (.bool false)).setCell ⟨w.heap.size + 1, 8, none⟩ (.string ⟨#[]⟩)).setCell ⟨w.heap.size + 1, 9, none⟩ (.slice none 0 0)))) := ((((((((((hB.out.setCell (p := ⟨w.heap.size + 1, 0, none⟩) lo _).setCell (p := ⟨w.heap.size + 1, 1, none⟩) lo _).setCell (p := ⟨w.heap.size + 1, 2, none⟩) lo _).setCell (p := ⟨w.heap.size + 1, 3, none⟩) lo _).setCell (p := ⟨w.heap.size + 1, 4, none⟩) lo _).setCell (p := ⟨w.heap.size + 1, 5, none⟩) lo _).setCell (p := ⟨w.heap.size + 1, 6, none⟩) lo _).setCell (p := ⟨w.heap.size + 1, 7, none⟩) lo _).setCell (p := ⟨w.heap.size + 1, 8, none⟩) lo _).setCell (p := ⟨w.heap.size + 1, 9, none⟩) lo _)
  have HT2 : Hid (Tab (((((((((((w1.setCell ⟨w.heap.size + 1, 0, none⟩ (.int .i64 (k : Nat))).setCell ⟨w.heap.size + 1, 1, none⟩ (.int .i64 (f : Nat))).setCell ⟨w.heap.size + 1, 2, none⟩ (.int .u32 (q : Nat))).setCell ⟨w.heap.size + 1, 3, none⟩ (.int .i64 0)).setCell ⟨w.heap.size + 1, 4, none⟩ (.int .u32 0)).setCell ⟨w.heap.size + 1, 5, none⟩ (.int .u16 0)).setCell ⟨w.heap.size + 1, 6, none⟩ (.complex .f64 0 0)).setCell ⟨w.heap.size + 1, 7, none⟩ (.bool false)).setCell ⟨w.heap.size + 1, 8, none⟩ (.string ⟨#[]⟩)).setCell ⟨w.heap.size + 1, 9, none⟩ (.slice none 0 0)))) := HT0.out.below hB2.out
  go_wp2_with fail
  clear y0 z0 y1 z1 y2 z2 y3 z3 y4 z4 y5 z5 y6 z6 y7 z7 y8 z8 y9 z9
  clear X Y HT hB HT0
  generalize ((((((((((w1.setCell ⟨w.heap.size + 1, 0, none⟩ (.int .i64 (k : Nat))).setCell ⟨w.heap.size + 1, 1, none⟩ (.int .i64 (f : Nat))).setCell ⟨w.heap.size + 1, 2, none⟩ (.int .u32 (q : Nat))).setCell ⟨w.heap.size + 1, 3, none⟩ (.int .i64 0)).setCell ⟨w.heap.size + 1, 4, none⟩ (.int .u32 0)).setCell ⟨w.heap.size + 1, 5, none⟩ (.int .u16 0)).setCell ⟨w.heap.size + 1, 6, none⟩ (.complex .f64 0 0)).setCell ⟨w.heap.size + 1, 7, none⟩ (.bool false)).setCell ⟨w.heap.size + 1, 8, none⟩ (.string ⟨#[]⟩)).setCell ⟨w.heap.size + 1, 9, none⟩ (.slice none 0 0)) = w2 at *
  have y0 := Y2.out.cell 0 _ rfl
  have y1 := Y2.out.cell 1 _ rfl
  have y2 := Y2.out.cell 2 _ rfl
  have y3 := Y2.out.cell 3 _ rfl
  have y4 := Y2.out.cell 4 _ rfl
  have y5 := Y2.out.cell 5 _ rfl
  have y6 := Y2.out.cell 6 _ rfl
  have y7 := Y2.out.cell 7 _ rfl
  have y8 := Y2.out.cell 8 _ rfl
  have y9 := Y2.out.cell 9 _ rfl
  go_wp2_with fail
  refine (HP.out _ HT2.out).mono ?_; rintro e w3 ⟨rfl, d3⟩
  replace hB : Hid (Below w.heap.size w w3) := hB2.out.trans (d3.mono hB2.out.size)
  replace X := Lib.hid (X2.out.keep d3)
  replace Y := Lib.hid (Y2.out.keep d3)
  clear y0 y1 y2 y3 y4 y5 y6 y7 y8 y9
  clear d3 X2 Y2 hB2 HT2 HP
  have y0 := X.out.cell 0 _ rfl
  have z0 := X.out.free 0 _ rfl
  have y1 := X.out.cell 1 _ rfl
  have z1 := X.out.free 1 _ rfl
  have y2 := X.out.cell 2 _ rfl
  have z2 := X.out.free 2 _ rfl
  have y3 := X.out.cell 3 _ rfl
  have z3 := X.out.free 3 _ rfl
  have y4 := X.out.cell 4 _ rfl
  have z4 := X.out.free 4 _ rfl
  have y5 := X.out.cell 5 _ rfl
  have z5 := X.out.free 5 _ rfl
  have y6 := X.out.cell 6 _ rfl
  have z6 := X.out.free 6 _ rfl
  have y7 := X.out.cell 7 _ rfl
  have z7 := X.out.free 7 _ rfl
  have y8 := X.out.cell 8 _ rfl
  have z8 := X.out.free 8 _ rfl
  have y9 := X.out.cell 9 _ rfl
  have z9 := X.out.free 9 _ rfl
  have u0 := Y.out.cell 0 _ rfl
  have u1 := Y.out.cell 1 _ rfl
  have u2 := Y.out.cell 2 _ rfl
  have u3 := Y.out.cell 3 _ rfl
  have u4 := Y.out.cell 4 _ rfl
  have u5 := Y.out.cell 5 _ rfl
  have u6 := Y.out.cell 6 _ rfl
  have u7 := Y.out.cell 7 _ rfl
  have u8 := Y.out.cell 8 _ rfl
  have u9 := Y.out.cell 9 _ rfl
  go_wp2
  simp only [Exit.jump]
  refine bodyPost_ret (v := .tuple #[.agg (mcs k f q).toArray, .int .i64 0]) (by simp [results, Tryd.results7, go_sem, mcs, *]) rfl ⟨rfl, ?_⟩
  have hB3 := hB.out
  (have zzh := Below.size hB3; repeat (first | with_reducible exact hB3 | with_reducible refine Below.setCell ?_ (by first | omega | (simp; done) | (simp; omega)) _ | with_reducible refine Below.alloc ?_ (by first | omega | (simp; done) | (simp; omega)) _ | with_reducible refine Below.drew ?_))
end Go.Proofs.YtmhlnlippfaclaaDoor
