/- The statement AddrOrder: addresses stand in one order: of two that are not the same one is ahead; it does not go round; bytes that were put stand in it, too; for every three addresses. No conditions but the row's own: the library's tables lie as the program's text lays them. -/
import Derived.Test.YtdihpiggknhojaaDoorAddrEx
import Derived.Test.YtdihpiggknhojaaDoorAddrLaid
import Derived.Test.YtdihpiggknhojaaDoorAddrSmall
import Derived.Test.YtdihpiggknhojaaDoorPackLess
import Derived.SevenTiedAt
import Derived.ChangeOld
import Derived.ChangeMaps5
import Derived.ShutString
import Derived.OpenShut
import Derived.SizedLaws
import Derived.Lib.SmallJoins
import Derived.Lib.QuietBelow
import Derived.BigQuiet
namespace Go.Proofs.YtdihpiggknhojaaDoor
open Go.Sort Go.RowKit Go.BigFrame Go.ChangeShapes Go.WideShapes Go.ChangeAt
open Go.ChangeMaps (open_string shut_string)
set_option linter.unusedVariables false
set_option linter.unusedSimpArgs false

theorem put_six (a p : Nat) (h : p < 65536) : putB a p = numB (a * 65536 + p) 6 := by
  apply ba_ext
  rw [putB, ba_append, numB_data, numB_data, numB_data]
  have e : ∀ k, dg (a * 65536 + p) (k + 2) = dg a k ++ dg p 2 := by
    intro k
    induction k with
    | zero =>
      simp only [dg, Nat.zero_add, List.nil_append]
      have e1 : (a * 65536 + p) / 256 ^ 1 % 256 = p / 256 ^ 1 % 256 := by simp; omega
      have e2 : (a * 65536 + p) / 256 ^ 0 % 256 = p / 256 ^ 0 % 256 := by simp; omega
      rw [e1, e2]
    | succ k ih =>
      have f1 : dg (a * 65536 + p) (k + 1 + 2) = UInt8.ofNat ((a * 65536 + p) / 256 ^ (k + 2) % 256) :: dg (a * 65536 + p) (k + 2) := rfl
      have f2 : dg a (k + 1) = UInt8.ofNat (a / 256 ^ k % 256) :: dg a k := rfl
      rw [f1, f2, ih, List.cons_append]
      have e3 : (a * 65536 + p) / 256 ^ (k + 2) = a / 256 ^ k := by
        have f3 : (a * 65536 + p) / 256 ^ 2 = a := by simp; omega
        rw [show 256 ^ (k + 2) = 256 ^ 2 * 256 ^ k by rw [Nat.pow_add, Nat.mul_comm], ← Nat.div_div_eq_div_mul, f3]
      rw [e3]
  exact (e 4).symm
theorem put_less (a p b q : Nat) (h1 : a < 4294967296) (h2 : p < 65536) (h3 : b < 4294967296) (h4 : q < 65536) : Op.bytesLess (putB a p).toList (putB b q).toList = decide (a * 65536 + p < b * 65536 + q) := by
  rw [put_six a p h2, put_six b q h4, numB_less _ _ _ (by simp; omega) (by simp; omega)]
  rw [Bool.eq_iff_iff]
  simp
  omega

theorem order_at {a p b q : Nat} {o : Int} (h : Hid (ordI a p b q = o)) (h1 : a < 4294967296) (h2 : p < 65536) (h3 : b < 4294967296) (h4 : q < 65536) (w : World) :
    Calls Tryd.prog 19 #[.agg #[.int .u32 a, .int .u16 p], .agg #[.int .u32 b, .int .u16 q]] w fun e w' => e = .returned (.int .i64 o) ∧ Below w.heap.size w w' := by
  rw [← h.out]
  exact order_any a p b q h1 h2 h3 h4 w
theorem put_at {a p : Nat} {A : ByteArray} (h : Hid (putB a p = A)) (h1 : a < 4294967296) (h2 : p < 65536) (w : World) :
    Calls Tryd.prog 13 #[.agg #[.int .u32 a, .int .u16 p]] w fun e w' => e = .returned (.string A) ∧ Below w.heap.size w w' := by
  rw [← h.out]
  exact put_any a p h1 h2 w

set_option maxRecDepth 100000 in
set_option maxHeartbeats 4000000 in
theorem addrOrder_lt1 (a p b q c r : Nat) (o3 o4 : Int) (h1 : a < 4294967296) (h2 : p < 65536) (h3 : b < 4294967296) (h4 : q < 65536) (h5 : c < 4294967296) (h6 : r < 65536) (ha : ¬ (a : Int) = b) (ha2 : ¬ a = b) (O1 : Hid (ordI a p b q = -1)) (O2 : Hid (ordI b q a p = 1)) (O3 : Hid (ordI b q c r = o3)) (O4 : Hid (ordI a p c r = o4)) (hz3 : 0 < o3) 
    (A B : ByteArray) (PA : Hid (putB a p = A)) (PB : Hid (putB b q = B)) (hless : Op.bytesLess A.toList B.toList = true) (w : World) (ht : Tab w) :
    Calls Tryd.prog 6 #[.agg #[.int .u32 a, .int .u16 p], .agg #[.int .u32 b, .int .u16 q], .agg #[.int .u32 c, .int .u16 r]] w fun e w' => e = .returned (.bool true) ∧ Below w.heap.size w w' := by
  have HT := Lib.hid ht
  clear ht
  have wm := IntWalk.i64_in (-1) ⟨by omega, by omega⟩
  have w1' := IntWalk.i64_in 1 ⟨by omega, by omega⟩
  have w0' := IntWalk.i64_in 0 ⟨by omega, by omega⟩
  go_enter Tryd.func6, Tryd.ntmps6
  have X0 := ((Two.new w (.int .u32 a) (.int .u16 p) 25).keep ((Below.refl _ _).alloc (Nat.le_refl _) (.cells #[.int .u32 b, .int .u16 q] 25))).keep ((Below.refl _ _).alloc (Nat.le_refl _) (.cells #[.int .u32 c, .int .u16 r] 25))
  have Y0 := (Two.new (w.alloc (.cells #[.int .u32 a, .int .u16 p] 25)) (.int .u32 b) (.int .u16 q) 25).keep ((Below.refl _ _).alloc (Nat.le_refl _) (.cells #[.int .u32 c, .int .u16 r] 25))
  have Z0 := Two.new ((w.alloc (.cells #[.int .u32 a, .int .u16 p] 25)).alloc (.cells #[.int .u32 b, .int .u16 q] 25)) (.int .u32 c) (.int .u16 r) 25
  have hB0 : Hid (Below w.heap.size w (((w.alloc (.cells #[.int .u32 a, .int .u16 p] 25)).alloc (.cells #[.int .u32 b, .int .u16 q] 25)).alloc (.cells #[.int .u32 c, .int .u16 r] 25))) := by show Below _ _ _; (repeat (first | exact Below.refl _ _ | refine Below.drew ?_ | refine below_drewN ?_ _ | refine Below.alloc ?_ (by first | omega | (simp; done) | (simp; omega)) _ | refine Below.setCell ?_ (by first | omega | (simp; done) | (simp; omega)) _))
  simp only [World.size_alloc] at Y0 Z0
  have HX := Lib.hid X0
  have HY := Lib.hid Y0
  have HZ := Lib.hid Z0
  clear X0 Y0 Z0
  go_wp2_with fail
  generalize (((w.alloc (.cells #[.int .u32 a, .int .u16 p] 25)).alloc (.cells #[.int .u32 b, .int .u16 q] 25)).alloc (.cells #[.int .u32 c, .int .u16 r] 25)) = wb at *
  refine (examples_yes _ (HT.out.below hB0.out)).mono ?_; rintro e w1 ⟨rfl, b1⟩
  have X1 := HX.out.keep b1
  have Y1 := HY.out.keep b1
  have Z1 := HZ.out.keep b1
  have hB1 : Hid (Below w.heap.size w w1) := hB0.out.trans (b1.mono hB0.out.size)
  clear b1 hB0 HX HY HZ HT
  obtain ⟨x0, x1, _, _⟩ := X1
  obtain ⟨y0, y1, _, _⟩ := Y1
  obtain ⟨z0, z1, _, _⟩ := Z1
  go_wp2_with fail
  refine (order_at O1 h1 h2 h3 h4 _).mono ?_; rintro e w2 ⟨rfl, b2⟩
  have X2 := (Two.mk x0 x1 (by assumption) (by assumption)).keep b2
  have Y2 := (Two.mk y0 y1 (by assumption) (by assumption)).keep b2
  have Z2 := (Two.mk z0 z1 (by assumption) (by assumption)).keep b2
  have hB2 : Hid (Below w.heap.size w w2) := hB1.out.trans (b2.mono hB1.out.size)
  clear b2 hB1 x0 x1 y0 y1 z0 z1
  have x0 := cell_regrown X2.c0
  have x1 := cell_regrown X2.c1
  have y0 := cell_regrown Y2.c0
  have y1 := cell_regrown Y2.c1
  have z0 := cell_regrown Z2.c0
  have z1 := cell_regrown Z2.c1
  have k0 := X2.c0
  have k1 := X2.c1
  have k2 := Y2.c0
  have k3 := Y2.c1
  clear X2 Y2 Z2
  have C2 := fun d os => Calls.regrown_of (order_at O2 h3 h4 h1 h2 (grow (redrawn w2 d) os))
  have C3 := fun d os => Calls.regrown_of (order_at O3 h3 h4 h5 h6 (grow (redrawn w2 d) os))
  have C4 := fun d os => Calls.regrown_of (order_at O4 h1 h2 h5 h6 (grow (redrawn w2 d) os))
  have CA := fun d os => Calls.regrown_of (put_at PA h1 h2 (grow (redrawn w2 d) os))
  have CB := fun d os => Calls.regrown_of (put_at PB h3 h4 (grow (redrawn w2 d) os))
  go_upto_region 5 with fail
  (refine wp_region_quiet_below (by kernel_rfl) (by kernel_rfl) ?_; (repeat (go_big_quiet_step (first | with_reducible exact C2 _ _ | with_reducible exact C3 _ _ | with_reducible exact C4 _ _ | with_reducible exact CA _ _ | with_reducible exact CB _ _))); refine wpQuiet_nil ?_; intro _ hw'; obtain ⟨⟨dq, osq⟩, hw''⟩ := hw'; subst hw'')
  go_wp2
  go_ret
  exact ⟨rfl, hB2.out.trans ((below_regrown w2 dq osq).mono hB2.out.size)⟩

set_option maxRecDepth 100000 in
set_option maxHeartbeats 4000000 in
theorem addrOrder_lt2 (a p b q c r : Nat) (o3 o4 : Int) (h1 : a < 4294967296) (h2 : p < 65536) (h3 : b < 4294967296) (h4 : q < 65536) (h5 : c < 4294967296) (h6 : r < 65536) (ha : ¬ (a : Int) = b) (ha2 : ¬ a = b) (O1 : Hid (ordI a p b q = -1)) (O2 : Hid (ordI b q a p = 1)) (O3 : Hid (ordI b q c r = o3)) (O4 : Hid (ordI a p c r = o4)) (hz3 : ¬ 0 < o3) (hz4 : o4 ≤ 0) 
    (A B : ByteArray) (PA : Hid (putB a p = A)) (PB : Hid (putB b q = B)) (hless : Op.bytesLess A.toList B.toList = true) (w : World) (ht : Tab w) :
    Calls Tryd.prog 6 #[.agg #[.int .u32 a, .int .u16 p], .agg #[.int .u32 b, .int .u16 q], .agg #[.int .u32 c, .int .u16 r]] w fun e w' => e = .returned (.bool true) ∧ Below w.heap.size w w' := by
  have HT := Lib.hid ht
  clear ht
  have wm := IntWalk.i64_in (-1) ⟨by omega, by omega⟩
  have w1' := IntWalk.i64_in 1 ⟨by omega, by omega⟩
  have w0' := IntWalk.i64_in 0 ⟨by omega, by omega⟩
  go_enter Tryd.func6, Tryd.ntmps6
  have X0 := ((Two.new w (.int .u32 a) (.int .u16 p) 25).keep ((Below.refl _ _).alloc (Nat.le_refl _) (.cells #[.int .u32 b, .int .u16 q] 25))).keep ((Below.refl _ _).alloc (Nat.le_refl _) (.cells #[.int .u32 c, .int .u16 r] 25))
  have Y0 := (Two.new (w.alloc (.cells #[.int .u32 a, .int .u16 p] 25)) (.int .u32 b) (.int .u16 q) 25).keep ((Below.refl _ _).alloc (Nat.le_refl _) (.cells #[.int .u32 c, .int .u16 r] 25))
  have Z0 := Two.new ((w.alloc (.cells #[.int .u32 a, .int .u16 p] 25)).alloc (.cells #[.int .u32 b, .int .u16 q] 25)) (.int .u32 c) (.int .u16 r) 25
  have hB0 : Hid (Below w.heap.size w (((w.alloc (.cells #[.int .u32 a, .int .u16 p] 25)).alloc (.cells #[.int .u32 b, .int .u16 q] 25)).alloc (.cells #[.int .u32 c, .int .u16 r] 25))) := by show Below _ _ _; (repeat (first | exact Below.refl _ _ | refine Below.drew ?_ | refine below_drewN ?_ _ | refine Below.alloc ?_ (by first | omega | (simp; done) | (simp; omega)) _ | refine Below.setCell ?_ (by first | omega | (simp; done) | (simp; omega)) _))
  simp only [World.size_alloc] at Y0 Z0
  have HX := Lib.hid X0
  have HY := Lib.hid Y0
  have HZ := Lib.hid Z0
  clear X0 Y0 Z0
  go_wp2_with fail
  generalize (((w.alloc (.cells #[.int .u32 a, .int .u16 p] 25)).alloc (.cells #[.int .u32 b, .int .u16 q] 25)).alloc (.cells #[.int .u32 c, .int .u16 r] 25)) = wb at *
  refine (examples_yes _ (HT.out.below hB0.out)).mono ?_; rintro e w1 ⟨rfl, b1⟩
  have X1 := HX.out.keep b1
  have Y1 := HY.out.keep b1
  have Z1 := HZ.out.keep b1
  have hB1 : Hid (Below w.heap.size w w1) := hB0.out.trans (b1.mono hB0.out.size)
  clear b1 hB0 HX HY HZ HT
  obtain ⟨x0, x1, _, _⟩ := X1
  obtain ⟨y0, y1, _, _⟩ := Y1
  obtain ⟨z0, z1, _, _⟩ := Z1
  go_wp2_with fail
  refine (order_at O1 h1 h2 h3 h4 _).mono ?_; rintro e w2 ⟨rfl, b2⟩
  have X2 := (Two.mk x0 x1 (by assumption) (by assumption)).keep b2
  have Y2 := (Two.mk y0 y1 (by assumption) (by assumption)).keep b2
  have Z2 := (Two.mk z0 z1 (by assumption) (by assumption)).keep b2
  have hB2 : Hid (Below w.heap.size w w2) := hB1.out.trans (b2.mono hB1.out.size)
  clear b2 hB1 x0 x1 y0 y1 z0 z1
  have x0 := cell_regrown X2.c0
  have x1 := cell_regrown X2.c1
  have y0 := cell_regrown Y2.c0
  have y1 := cell_regrown Y2.c1
  have z0 := cell_regrown Z2.c0
  have z1 := cell_regrown Z2.c1
  have k0 := X2.c0
  have k1 := X2.c1
  have k2 := Y2.c0
  have k3 := Y2.c1
  clear X2 Y2 Z2
  have C2 := fun d os => Calls.regrown_of (order_at O2 h3 h4 h1 h2 (grow (redrawn w2 d) os))
  have C3 := fun d os => Calls.regrown_of (order_at O3 h3 h4 h5 h6 (grow (redrawn w2 d) os))
  have C4 := fun d os => Calls.regrown_of (order_at O4 h1 h2 h5 h6 (grow (redrawn w2 d) os))
  have CA := fun d os => Calls.regrown_of (put_at PA h1 h2 (grow (redrawn w2 d) os))
  have CB := fun d os => Calls.regrown_of (put_at PB h3 h4 (grow (redrawn w2 d) os))
  have hz3d : decide (0 < o3) = false := by simpa using hz3
  go_upto_region 5 with fail
  (refine wp_region_quiet_below (by kernel_rfl) (by kernel_rfl) ?_; (repeat (go_big_quiet_step (first | with_reducible exact C2 _ _ | with_reducible exact C3 _ _ | with_reducible exact C4 _ _ | with_reducible exact CA _ _ | with_reducible exact CB _ _))); refine wpQuiet_nil ?_; intro _ hw'; obtain ⟨⟨dq, osq⟩, hw''⟩ := hw'; subst hw'')
  go_wp2
  go_ret
  exact ⟨rfl, hB2.out.trans ((below_regrown w2 dq osq).mono hB2.out.size)⟩

set_option maxRecDepth 100000 in
set_option maxHeartbeats 4000000 in
theorem addrOrder_gt0 (a p b q c r : Nat) (o3 o4 : Int) (h1 : a < 4294967296) (h2 : p < 65536) (h3 : b < 4294967296) (h4 : q < 65536) (h5 : c < 4294967296) (h6 : r < 65536) (ha : ¬ (a : Int) = b) (ha2 : ¬ a = b) (O1 : Hid (ordI a p b q = 1)) (O2 : Hid (ordI b q a p = -1)) (O3 : Hid (ordI b q c r = o3)) (O4 : Hid (ordI a p c r = o4))  
    (A B : ByteArray) (PA : Hid (putB a p = A)) (PB : Hid (putB b q = B)) (hless : Op.bytesLess A.toList B.toList = false) (w : World) (ht : Tab w) :
    Calls Tryd.prog 6 #[.agg #[.int .u32 a, .int .u16 p], .agg #[.int .u32 b, .int .u16 q], .agg #[.int .u32 c, .int .u16 r]] w fun e w' => e = .returned (.bool true) ∧ Below w.heap.size w w' := by
  have HT := Lib.hid ht
  clear ht
  have wm := IntWalk.i64_in (-1) ⟨by omega, by omega⟩
  have w1' := IntWalk.i64_in 1 ⟨by omega, by omega⟩
  have w0' := IntWalk.i64_in 0 ⟨by omega, by omega⟩
  go_enter Tryd.func6, Tryd.ntmps6
  have X0 := ((Two.new w (.int .u32 a) (.int .u16 p) 25).keep ((Below.refl _ _).alloc (Nat.le_refl _) (.cells #[.int .u32 b, .int .u16 q] 25))).keep ((Below.refl _ _).alloc (Nat.le_refl _) (.cells #[.int .u32 c, .int .u16 r] 25))
  have Y0 := (Two.new (w.alloc (.cells #[.int .u32 a, .int .u16 p] 25)) (.int .u32 b) (.int .u16 q) 25).keep ((Below.refl _ _).alloc (Nat.le_refl _) (.cells #[.int .u32 c, .int .u16 r] 25))
  have Z0 := Two.new ((w.alloc (.cells #[.int .u32 a, .int .u16 p] 25)).alloc (.cells #[.int .u32 b, .int .u16 q] 25)) (.int .u32 c) (.int .u16 r) 25
  have hB0 : Hid (Below w.heap.size w (((w.alloc (.cells #[.int .u32 a, .int .u16 p] 25)).alloc (.cells #[.int .u32 b, .int .u16 q] 25)).alloc (.cells #[.int .u32 c, .int .u16 r] 25))) := by show Below _ _ _; (repeat (first | exact Below.refl _ _ | refine Below.drew ?_ | refine below_drewN ?_ _ | refine Below.alloc ?_ (by first | omega | (simp; done) | (simp; omega)) _ | refine Below.setCell ?_ (by first | omega | (simp; done) | (simp; omega)) _))
  simp only [World.size_alloc] at Y0 Z0
  have HX := Lib.hid X0
  have HY := Lib.hid Y0
  have HZ := Lib.hid Z0
  clear X0 Y0 Z0
  go_wp2_with fail
  generalize (((w.alloc (.cells #[.int .u32 a, .int .u16 p] 25)).alloc (.cells #[.int .u32 b, .int .u16 q] 25)).alloc (.cells #[.int .u32 c, .int .u16 r] 25)) = wb at *
  refine (examples_yes _ (HT.out.below hB0.out)).mono ?_; rintro e w1 ⟨rfl, b1⟩
  have X1 := HX.out.keep b1
  have Y1 := HY.out.keep b1
  have Z1 := HZ.out.keep b1
  have hB1 : Hid (Below w.heap.size w w1) := hB0.out.trans (b1.mono hB0.out.size)
  clear b1 hB0 HX HY HZ HT
  obtain ⟨x0, x1, _, _⟩ := X1
  obtain ⟨y0, y1, _, _⟩ := Y1
  obtain ⟨z0, z1, _, _⟩ := Z1
  go_wp2_with fail
  refine (order_at O1 h1 h2 h3 h4 _).mono ?_; rintro e w2 ⟨rfl, b2⟩
  have X2 := (Two.mk x0 x1 (by assumption) (by assumption)).keep b2
  have Y2 := (Two.mk y0 y1 (by assumption) (by assumption)).keep b2
  have Z2 := (Two.mk z0 z1 (by assumption) (by assumption)).keep b2
  have hB2 : Hid (Below w.heap.size w w2) := hB1.out.trans (b2.mono hB1.out.size)
  clear b2 hB1 x0 x1 y0 y1 z0 z1
  have x0 := cell_regrown X2.c0
  have x1 := cell_regrown X2.c1
  have y0 := cell_regrown Y2.c0
  have y1 := cell_regrown Y2.c1
  have z0 := cell_regrown Z2.c0
  have z1 := cell_regrown Z2.c1
  have k0 := X2.c0
  have k1 := X2.c1
  have k2 := Y2.c0
  have k3 := Y2.c1
  clear X2 Y2 Z2
  have C2 := fun d os => Calls.regrown_of (order_at O2 h3 h4 h1 h2 (grow (redrawn w2 d) os))
  have C3 := fun d os => Calls.regrown_of (order_at O3 h3 h4 h5 h6 (grow (redrawn w2 d) os))
  have C4 := fun d os => Calls.regrown_of (order_at O4 h1 h2 h5 h6 (grow (redrawn w2 d) os))
  have CA := fun d os => Calls.regrown_of (put_at PA h1 h2 (grow (redrawn w2 d) os))
  have CB := fun d os => Calls.regrown_of (put_at PB h3 h4 (grow (redrawn w2 d) os))
  go_upto_region 5 with fail
  (refine wp_region_quiet_below (by kernel_rfl) (by kernel_rfl) ?_; (repeat (go_big_quiet_step (first | with_reducible exact C2 _ _ | with_reducible exact C3 _ _ | with_reducible exact C4 _ _ | with_reducible exact CA _ _ | with_reducible exact CB _ _))); refine wpQuiet_nil ?_; intro _ hw'; obtain ⟨⟨dq, osq⟩, hw''⟩ := hw'; subst hw'')
  go_wp2
  go_ret
  exact ⟨rfl, hB2.out.trans ((below_regrown w2 dq osq).mono hB2.out.size)⟩

set_option maxRecDepth 100000 in
set_option maxHeartbeats 4000000 in
theorem addrOrder_eqlt1 (a p q c r : Nat) (o3 o4 : Int) (h1 : a < 4294967296) (h2 : p < 65536) (h4 : q < 65536) (h5 : c < 4294967296) (h6 : r < 65536) (ha : ¬ (p : Int) = q) (ha2 : ¬ p = q) (O1 : Hid (ordI a p a q = -1)) (O2 : Hid (ordI a q a p = 1)) (O3 : Hid (ordI a q c r = o3)) (O4 : Hid (ordI a p c r = o4)) (hz3 : 0 < o3) 
    (A B : ByteArray) (PA : Hid (putB a p = A)) (PB : Hid (putB a q = B)) (hless : Op.bytesLess A.toList B.toList = true) (w : World) (ht : Tab w) :
    Calls Tryd.prog 6 #[.agg #[.int .u32 a, .int .u16 p], .agg #[.int .u32 a, .int .u16 q], .agg #[.int .u32 c, .int .u16 r]] w fun e w' => e = .returned (.bool true) ∧ Below w.heap.size w w' := by
  have HT := Lib.hid ht
  clear ht
  have wm := IntWalk.i64_in (-1) ⟨by omega, by omega⟩
  have w1' := IntWalk.i64_in 1 ⟨by omega, by omega⟩
  have w0' := IntWalk.i64_in 0 ⟨by omega, by omega⟩
  go_enter Tryd.func6, Tryd.ntmps6
  have X0 := ((Two.new w (.int .u32 a) (.int .u16 p) 25).keep ((Below.refl _ _).alloc (Nat.le_refl _) (.cells #[.int .u32 a, .int .u16 q] 25))).keep ((Below.refl _ _).alloc (Nat.le_refl _) (.cells #[.int .u32 c, .int .u16 r] 25))
  have Y0 := (Two.new (w.alloc (.cells #[.int .u32 a, .int .u16 p] 25)) (.int .u32 a) (.int .u16 q) 25).keep ((Below.refl _ _).alloc (Nat.le_refl _) (.cells #[.int .u32 c, .int .u16 r] 25))
  have Z0 := Two.new ((w.alloc (.cells #[.int .u32 a, .int .u16 p] 25)).alloc (.cells #[.int .u32 a, .int .u16 q] 25)) (.int .u32 c) (.int .u16 r) 25
  have hB0 : Hid (Below w.heap.size w (((w.alloc (.cells #[.int .u32 a, .int .u16 p] 25)).alloc (.cells #[.int .u32 a, .int .u16 q] 25)).alloc (.cells #[.int .u32 c, .int .u16 r] 25))) := by show Below _ _ _; (repeat (first | exact Below.refl _ _ | refine Below.drew ?_ | refine below_drewN ?_ _ | refine Below.alloc ?_ (by first | omega | (simp; done) | (simp; omega)) _ | refine Below.setCell ?_ (by first | omega | (simp; done) | (simp; omega)) _))
  simp only [World.size_alloc] at Y0 Z0
  have HX := Lib.hid X0
  have HY := Lib.hid Y0
  have HZ := Lib.hid Z0
  clear X0 Y0 Z0
  go_wp2_with fail
  generalize (((w.alloc (.cells #[.int .u32 a, .int .u16 p] 25)).alloc (.cells #[.int .u32 a, .int .u16 q] 25)).alloc (.cells #[.int .u32 c, .int .u16 r] 25)) = wb at *
  refine (examples_yes _ (HT.out.below hB0.out)).mono ?_; rintro e w1 ⟨rfl, b1⟩
  have X1 := HX.out.keep b1
  have Y1 := HY.out.keep b1
  have Z1 := HZ.out.keep b1
  have hB1 : Hid (Below w.heap.size w w1) := hB0.out.trans (b1.mono hB0.out.size)
  clear b1 hB0 HX HY HZ HT
  obtain ⟨x0, x1, _, _⟩ := X1
  obtain ⟨y0, y1, _, _⟩ := Y1
  obtain ⟨z0, z1, _, _⟩ := Z1
  go_wp2_with fail
  refine (order_at O1 h1 h2 h1 h4 _).mono ?_; rintro e w2 ⟨rfl, b2⟩
  have X2 := (Two.mk x0 x1 (by assumption) (by assumption)).keep b2
  have Y2 := (Two.mk y0 y1 (by assumption) (by assumption)).keep b2
  have Z2 := (Two.mk z0 z1 (by assumption) (by assumption)).keep b2
  have hB2 : Hid (Below w.heap.size w w2) := hB1.out.trans (b2.mono hB1.out.size)
  clear b2 hB1 x0 x1 y0 y1 z0 z1
  have x0 := cell_regrown X2.c0
  have x1 := cell_regrown X2.c1
  have y0 := cell_regrown Y2.c0
  have y1 := cell_regrown Y2.c1
  have z0 := cell_regrown Z2.c0
  have z1 := cell_regrown Z2.c1
  have k0 := X2.c0
  have k1 := X2.c1
  have k2 := Y2.c0
  have k3 := Y2.c1
  clear X2 Y2 Z2
  have C2 := fun d os => Calls.regrown_of (order_at O2 h1 h4 h1 h2 (grow (redrawn w2 d) os))
  have C3 := fun d os => Calls.regrown_of (order_at O3 h1 h4 h5 h6 (grow (redrawn w2 d) os))
  have C4 := fun d os => Calls.regrown_of (order_at O4 h1 h2 h5 h6 (grow (redrawn w2 d) os))
  have CA := fun d os => Calls.regrown_of (put_at PA h1 h2 (grow (redrawn w2 d) os))
  have CB := fun d os => Calls.regrown_of (put_at PB h1 h4 (grow (redrawn w2 d) os))
  go_upto_region 5 with fail
  (refine wp_region_quiet_below (by kernel_rfl) (by kernel_rfl) ?_; (repeat (go_big_quiet_step (first | with_reducible exact C2 _ _ | with_reducible exact C3 _ _ | with_reducible exact C4 _ _ | with_reducible exact CA _ _ | with_reducible exact CB _ _))); refine wpQuiet_nil ?_; intro _ hw'; obtain ⟨⟨dq, osq⟩, hw''⟩ := hw'; subst hw'')
  go_wp2
  go_ret
  exact ⟨rfl, hB2.out.trans ((below_regrown w2 dq osq).mono hB2.out.size)⟩

set_option maxRecDepth 100000 in
set_option maxHeartbeats 4000000 in
theorem addrOrder_eqlt2 (a p q c r : Nat) (o3 o4 : Int) (h1 : a < 4294967296) (h2 : p < 65536) (h4 : q < 65536) (h5 : c < 4294967296) (h6 : r < 65536) (ha : ¬ (p : Int) = q) (ha2 : ¬ p = q) (O1 : Hid (ordI a p a q = -1)) (O2 : Hid (ordI a q a p = 1)) (O3 : Hid (ordI a q c r = o3)) (O4 : Hid (ordI a p c r = o4)) (hz3 : ¬ 0 < o3) (hz4 : o4 ≤ 0) 
    (A B : ByteArray) (PA : Hid (putB a p = A)) (PB : Hid (putB a q = B)) (hless : Op.bytesLess A.toList B.toList = true) (w : World) (ht : Tab w) :
    Calls Tryd.prog 6 #[.agg #[.int .u32 a, .int .u16 p], .agg #[.int .u32 a, .int .u16 q], .agg #[.int .u32 c, .int .u16 r]] w fun e w' => e = .returned (.bool true) ∧ Below w.heap.size w w' := by
  have HT := Lib.hid ht
  clear ht
  have wm := IntWalk.i64_in (-1) ⟨by omega, by omega⟩
  have w1' := IntWalk.i64_in 1 ⟨by omega, by omega⟩
  have w0' := IntWalk.i64_in 0 ⟨by omega, by omega⟩
  go_enter Tryd.func6, Tryd.ntmps6
  have X0 := ((Two.new w (.int .u32 a) (.int .u16 p) 25).keep ((Below.refl _ _).alloc (Nat.le_refl _) (.cells #[.int .u32 a, .int .u16 q] 25))).keep ((Below.refl _ _).alloc (Nat.le_refl _) (.cells #[.int .u32 c, .int .u16 r] 25))
  have Y0 := (Two.new (w.alloc (.cells #[.int .u32 a, .int .u16 p] 25)) (.int .u32 a) (.int .u16 q) 25).keep ((Below.refl _ _).alloc (Nat.le_refl _) (.cells #[.int .u32 c, .int .u16 r] 25))
  have Z0 := Two.new ((w.alloc (.cells #[.int .u32 a, .int .u16 p] 25)).alloc (.cells #[.int .u32 a, .int .u16 q] 25)) (.int .u32 c) (.int .u16 r) 25
  have hB0 : Hid (Below w.heap.size w (((w.alloc (.cells #[.int .u32 a, .int .u16 p] 25)).alloc (.cells #[.int .u32 a, .int .u16 q] 25)).alloc (.cells #[.int .u32 c, .int .u16 r] 25))) := by show Below _ _ _; (repeat (first | exact Below.refl _ _ | refine Below.drew ?_ | refine below_drewN ?_ _ | refine Below.alloc ?_ (by first | omega | (simp; done) | (simp; omega)) _ | refine Below.setCell ?_ (by first | omega | (simp; done) | (simp; omega)) _))
  simp only [World.size_alloc] at Y0 Z0
  have HX := Lib.hid X0
  have HY := Lib.hid Y0
  have HZ := Lib.hid Z0
  clear X0 Y0 Z0
  go_wp2_with fail
  generalize (((w.alloc (.cells #[.int .u32 a, .int .u16 p] 25)).alloc (.cells #[.int .u32 a, .int .u16 q] 25)).alloc (.cells #[.int .u32 c, .int .u16 r] 25)) = wb at *
  refine (examples_yes _ (HT.out.below hB0.out)).mono ?_; rintro e w1 ⟨rfl, b1⟩
  have X1 := HX.out.keep b1
  have Y1 := HY.out.keep b1
  have Z1 := HZ.out.keep b1
  have hB1 : Hid (Below w.heap.size w w1) := hB0.out.trans (b1.mono hB0.out.size)
  clear b1 hB0 HX HY HZ HT
  obtain ⟨x0, x1, _, _⟩ := X1
  obtain ⟨y0, y1, _, _⟩ := Y1
  obtain ⟨z0, z1, _, _⟩ := Z1
  go_wp2_with fail
  refine (order_at O1 h1 h2 h1 h4 _).mono ?_; rintro e w2 ⟨rfl, b2⟩
  have X2 := (Two.mk x0 x1 (by assumption) (by assumption)).keep b2
  have Y2 := (Two.mk y0 y1 (by assumption) (by assumption)).keep b2
  have Z2 := (Two.mk z0 z1 (by assumption) (by assumption)).keep b2
  have hB2 : Hid (Below w.heap.size w w2) := hB1.out.trans (b2.mono hB1.out.size)
  clear b2 hB1 x0 x1 y0 y1 z0 z1
  have x0 := cell_regrown X2.c0
  have x1 := cell_regrown X2.c1
  have y0 := cell_regrown Y2.c0
  have y1 := cell_regrown Y2.c1
  have z0 := cell_regrown Z2.c0
  have z1 := cell_regrown Z2.c1
  have k0 := X2.c0
  have k1 := X2.c1
  have k2 := Y2.c0
  have k3 := Y2.c1
  clear X2 Y2 Z2
  have C2 := fun d os => Calls.regrown_of (order_at O2 h1 h4 h1 h2 (grow (redrawn w2 d) os))
  have C3 := fun d os => Calls.regrown_of (order_at O3 h1 h4 h5 h6 (grow (redrawn w2 d) os))
  have C4 := fun d os => Calls.regrown_of (order_at O4 h1 h2 h5 h6 (grow (redrawn w2 d) os))
  have CA := fun d os => Calls.regrown_of (put_at PA h1 h2 (grow (redrawn w2 d) os))
  have CB := fun d os => Calls.regrown_of (put_at PB h1 h4 (grow (redrawn w2 d) os))
  have hz3d : decide (0 < o3) = false := by simpa using hz3
  go_upto_region 5 with fail
  (refine wp_region_quiet_below (by kernel_rfl) (by kernel_rfl) ?_; (repeat (go_big_quiet_step (first | with_reducible exact C2 _ _ | with_reducible exact C3 _ _ | with_reducible exact C4 _ _ | with_reducible exact CA _ _ | with_reducible exact CB _ _))); refine wpQuiet_nil ?_; intro _ hw'; obtain ⟨⟨dq, osq⟩, hw''⟩ := hw'; subst hw'')
  go_wp2
  go_ret
  exact ⟨rfl, hB2.out.trans ((below_regrown w2 dq osq).mono hB2.out.size)⟩

set_option maxRecDepth 100000 in
set_option maxHeartbeats 4000000 in
theorem addrOrder_eqgt0 (a p q c r : Nat) (o3 o4 : Int) (h1 : a < 4294967296) (h2 : p < 65536) (h4 : q < 65536) (h5 : c < 4294967296) (h6 : r < 65536) (ha : ¬ (p : Int) = q) (ha2 : ¬ p = q) (O1 : Hid (ordI a p a q = 1)) (O2 : Hid (ordI a q a p = -1)) (O3 : Hid (ordI a q c r = o3)) (O4 : Hid (ordI a p c r = o4))  
    (A B : ByteArray) (PA : Hid (putB a p = A)) (PB : Hid (putB a q = B)) (hless : Op.bytesLess A.toList B.toList = false) (w : World) (ht : Tab w) :
    Calls Tryd.prog 6 #[.agg #[.int .u32 a, .int .u16 p], .agg #[.int .u32 a, .int .u16 q], .agg #[.int .u32 c, .int .u16 r]] w fun e w' => e = .returned (.bool true) ∧ Below w.heap.size w w' := by
  have HT := Lib.hid ht
  clear ht
  have wm := IntWalk.i64_in (-1) ⟨by omega, by omega⟩
  have w1' := IntWalk.i64_in 1 ⟨by omega, by omega⟩
  have w0' := IntWalk.i64_in 0 ⟨by omega, by omega⟩
  go_enter Tryd.func6, Tryd.ntmps6
  have X0 := ((Two.new w (.int .u32 a) (.int .u16 p) 25).keep ((Below.refl _ _).alloc (Nat.le_refl _) (.cells #[.int .u32 a, .int .u16 q] 25))).keep ((Below.refl _ _).alloc (Nat.le_refl _) (.cells #[.int .u32 c, .int .u16 r] 25))
  have Y0 := (Two.new (w.alloc (.cells #[.int .u32 a, .int .u16 p] 25)) (.int .u32 a) (.int .u16 q) 25).keep ((Below.refl _ _).alloc (Nat.le_refl _) (.cells #[.int .u32 c, .int .u16 r] 25))
  have Z0 := Two.new ((w.alloc (.cells #[.int .u32 a, .int .u16 p] 25)).alloc (.cells #[.int .u32 a, .int .u16 q] 25)) (.int .u32 c) (.int .u16 r) 25
  have hB0 : Hid (Below w.heap.size w (((w.alloc (.cells #[.int .u32 a, .int .u16 p] 25)).alloc (.cells #[.int .u32 a, .int .u16 q] 25)).alloc (.cells #[.int .u32 c, .int .u16 r] 25))) := by show Below _ _ _; (repeat (first | exact Below.refl _ _ | refine Below.drew ?_ | refine below_drewN ?_ _ | refine Below.alloc ?_ (by first | omega | (simp; done) | (simp; omega)) _ | refine Below.setCell ?_ (by first | omega | (simp; done) | (simp; omega)) _))
  simp only [World.size_alloc] at Y0 Z0
  have HX := Lib.hid X0
  have HY := Lib.hid Y0
  have HZ := Lib.hid Z0
  clear X0 Y0 Z0
  go_wp2_with fail
  generalize (((w.alloc (.cells #[.int .u32 a, .int .u16 p] 25)).alloc (.cells #[.int .u32 a, .int .u16 q] 25)).alloc (.cells #[.int .u32 c, .int .u16 r] 25)) = wb at *
  refine (examples_yes _ (HT.out.below hB0.out)).mono ?_; rintro e w1 ⟨rfl, b1⟩
  have X1 := HX.out.keep b1
  have Y1 := HY.out.keep b1
  have Z1 := HZ.out.keep b1
  have hB1 : Hid (Below w.heap.size w w1) := hB0.out.trans (b1.mono hB0.out.size)
  clear b1 hB0 HX HY HZ HT
  obtain ⟨x0, x1, _, _⟩ := X1
  obtain ⟨y0, y1, _, _⟩ := Y1
  obtain ⟨z0, z1, _, _⟩ := Z1
  go_wp2_with fail
  refine (order_at O1 h1 h2 h1 h4 _).mono ?_; rintro e w2 ⟨rfl, b2⟩
  have X2 := (Two.mk x0 x1 (by assumption) (by assumption)).keep b2
  have Y2 := (Two.mk y0 y1 (by assumption) (by assumption)).keep b2
  have Z2 := (Two.mk z0 z1 (by assumption) (by assumption)).keep b2
  have hB2 : Hid (Below w.heap.size w w2) := hB1.out.trans (b2.mono hB1.out.size)
  clear b2 hB1 x0 x1 y0 y1 z0 z1
  have x0 := cell_regrown X2.c0
  have x1 := cell_regrown X2.c1
  have y0 := cell_regrown Y2.c0
  have y1 := cell_regrown Y2.c1
  have z0 := cell_regrown Z2.c0
  have z1 := cell_regrown Z2.c1
  have k0 := X2.c0
  have k1 := X2.c1
  have k2 := Y2.c0
  have k3 := Y2.c1
  clear X2 Y2 Z2
  have C2 := fun d os => Calls.regrown_of (order_at O2 h1 h4 h1 h2 (grow (redrawn w2 d) os))
  have C3 := fun d os => Calls.regrown_of (order_at O3 h1 h4 h5 h6 (grow (redrawn w2 d) os))
  have C4 := fun d os => Calls.regrown_of (order_at O4 h1 h2 h5 h6 (grow (redrawn w2 d) os))
  have CA := fun d os => Calls.regrown_of (put_at PA h1 h2 (grow (redrawn w2 d) os))
  have CB := fun d os => Calls.regrown_of (put_at PB h1 h4 (grow (redrawn w2 d) os))
  go_upto_region 5 with fail
  (refine wp_region_quiet_below (by kernel_rfl) (by kernel_rfl) ?_; (repeat (go_big_quiet_step (first | with_reducible exact C2 _ _ | with_reducible exact C3 _ _ | with_reducible exact C4 _ _ | with_reducible exact CA _ _ | with_reducible exact CB _ _))); refine wpQuiet_nil ?_; intro _ hw'; obtain ⟨⟨dq, osq⟩, hw''⟩ := hw'; subst hw'')
  go_wp2
  go_ret
  exact ⟨rfl, hB2.out.trans ((below_regrown w2 dq osq).mono hB2.out.size)⟩

set_option maxRecDepth 100000 in
set_option maxHeartbeats 4000000 in
theorem addrOrder_eq1 (a p c r : Nat) (o3 o4 : Int) (h1 : a < 4294967296) (h2 : p < 65536) (h5 : c < 4294967296) (h6 : r < 65536)  (O1 : Hid (ordI a p a p = 0)) (O2 : Hid (ordI a p a p = 0)) (O3 : Hid (ordI a p c r = o3)) (O4 : Hid (ordI a p c r = o4)) (hz3 : 0 < o3) 
    (A B : ByteArray) (PA : Hid (putB a p = A)) (PB : Hid (putB a p = B)) (hless : Op.bytesLess A.toList A.toList = false) (w : World) (ht : Tab w) :
    Calls Tryd.prog 6 #[.agg #[.int .u32 a, .int .u16 p], .agg #[.int .u32 a, .int .u16 p], .agg #[.int .u32 c, .int .u16 r]] w fun e w' => e = .returned (.bool true) ∧ Below w.heap.size w w' := by
  have HT := Lib.hid ht
  clear ht
  have wm := IntWalk.i64_in (-1) ⟨by omega, by omega⟩
  have w1' := IntWalk.i64_in 1 ⟨by omega, by omega⟩
  have w0' := IntWalk.i64_in 0 ⟨by omega, by omega⟩
  go_enter Tryd.func6, Tryd.ntmps6
  have X0 := ((Two.new w (.int .u32 a) (.int .u16 p) 25).keep ((Below.refl _ _).alloc (Nat.le_refl _) (.cells #[.int .u32 a, .int .u16 p] 25))).keep ((Below.refl _ _).alloc (Nat.le_refl _) (.cells #[.int .u32 c, .int .u16 r] 25))
  have Y0 := (Two.new (w.alloc (.cells #[.int .u32 a, .int .u16 p] 25)) (.int .u32 a) (.int .u16 p) 25).keep ((Below.refl _ _).alloc (Nat.le_refl _) (.cells #[.int .u32 c, .int .u16 r] 25))
  have Z0 := Two.new ((w.alloc (.cells #[.int .u32 a, .int .u16 p] 25)).alloc (.cells #[.int .u32 a, .int .u16 p] 25)) (.int .u32 c) (.int .u16 r) 25
  have hB0 : Hid (Below w.heap.size w (((w.alloc (.cells #[.int .u32 a, .int .u16 p] 25)).alloc (.cells #[.int .u32 a, .int .u16 p] 25)).alloc (.cells #[.int .u32 c, .int .u16 r] 25))) := by show Below _ _ _; (repeat (first | exact Below.refl _ _ | refine Below.drew ?_ | refine below_drewN ?_ _ | refine Below.alloc ?_ (by first | omega | (simp; done) | (simp; omega)) _ | refine Below.setCell ?_ (by first | omega | (simp; done) | (simp; omega)) _))
  simp only [World.size_alloc] at Y0 Z0
  have HX := Lib.hid X0
  have HY := Lib.hid Y0
  have HZ := Lib.hid Z0
  clear X0 Y0 Z0
  go_wp2_with fail
  generalize (((w.alloc (.cells #[.int .u32 a, .int .u16 p] 25)).alloc (.cells #[.int .u32 a, .int .u16 p] 25)).alloc (.cells #[.int .u32 c, .int .u16 r] 25)) = wb at *
  refine (examples_yes _ (HT.out.below hB0.out)).mono ?_; rintro e w1 ⟨rfl, b1⟩
  have X1 := HX.out.keep b1
  have Y1 := HY.out.keep b1
  have Z1 := HZ.out.keep b1
  have hB1 : Hid (Below w.heap.size w w1) := hB0.out.trans (b1.mono hB0.out.size)
  clear b1 hB0 HX HY HZ HT
  obtain ⟨x0, x1, _, _⟩ := X1
  obtain ⟨y0, y1, _, _⟩ := Y1
  obtain ⟨z0, z1, _, _⟩ := Z1
  go_wp2_with fail
  refine (order_at O1 h1 h2 h1 h2 _).mono ?_; rintro e w2 ⟨rfl, b2⟩
  have X2 := (Two.mk x0 x1 (by assumption) (by assumption)).keep b2
  have Y2 := (Two.mk y0 y1 (by assumption) (by assumption)).keep b2
  have Z2 := (Two.mk z0 z1 (by assumption) (by assumption)).keep b2
  have hB2 : Hid (Below w.heap.size w w2) := hB1.out.trans (b2.mono hB1.out.size)
  clear b2 hB1 x0 x1 y0 y1 z0 z1
  have x0 := cell_regrown X2.c0
  have x1 := cell_regrown X2.c1
  have y0 := cell_regrown Y2.c0
  have y1 := cell_regrown Y2.c1
  have z0 := cell_regrown Z2.c0
  have z1 := cell_regrown Z2.c1
  have k0 := X2.c0
  have k1 := X2.c1
  have k2 := Y2.c0
  have k3 := Y2.c1
  clear X2 Y2 Z2
  have C2 := fun d os => Calls.regrown_of (order_at O2 h1 h2 h1 h2 (grow (redrawn w2 d) os))
  have C3 := fun d os => Calls.regrown_of (order_at O3 h1 h2 h5 h6 (grow (redrawn w2 d) os))
  have C4 := fun d os => Calls.regrown_of (order_at O4 h1 h2 h5 h6 (grow (redrawn w2 d) os))
  have CA := fun d os => Calls.regrown_of (put_at PA h1 h2 (grow (redrawn w2 d) os))
  have CB := fun d os => Calls.regrown_of (put_at PB h1 h2 (grow (redrawn w2 d) os))
  go_upto_region 5 with fail
  (refine wp_region_quiet_below (by kernel_rfl) (by kernel_rfl) ?_; (repeat (go_big_quiet_step (first | with_reducible exact C2 _ _ | with_reducible exact C3 _ _ | with_reducible exact C4 _ _ | with_reducible exact CA _ _ | with_reducible exact CB _ _))); refine wpQuiet_nil ?_; intro _ hw'; obtain ⟨⟨dq, osq⟩, hw''⟩ := hw'; subst hw'')
  go_wp2
  go_ret
  exact ⟨rfl, hB2.out.trans ((below_regrown w2 dq osq).mono hB2.out.size)⟩

set_option maxRecDepth 100000 in
set_option maxHeartbeats 4000000 in
theorem addrOrder_eq2 (a p c r : Nat) (o3 o4 : Int) (h1 : a < 4294967296) (h2 : p < 65536) (h5 : c < 4294967296) (h6 : r < 65536)  (O1 : Hid (ordI a p a p = 0)) (O2 : Hid (ordI a p a p = 0)) (O3 : Hid (ordI a p c r = o3)) (O4 : Hid (ordI a p c r = o4)) (hz3 : ¬ 0 < o3) (hz4 : o4 ≤ 0) 
    (A B : ByteArray) (PA : Hid (putB a p = A)) (PB : Hid (putB a p = B)) (hless : Op.bytesLess A.toList A.toList = false) (w : World) (ht : Tab w) :
    Calls Tryd.prog 6 #[.agg #[.int .u32 a, .int .u16 p], .agg #[.int .u32 a, .int .u16 p], .agg #[.int .u32 c, .int .u16 r]] w fun e w' => e = .returned (.bool true) ∧ Below w.heap.size w w' := by
  have HT := Lib.hid ht
  clear ht
  have wm := IntWalk.i64_in (-1) ⟨by omega, by omega⟩
  have w1' := IntWalk.i64_in 1 ⟨by omega, by omega⟩
  have w0' := IntWalk.i64_in 0 ⟨by omega, by omega⟩
  go_enter Tryd.func6, Tryd.ntmps6
  have X0 := ((Two.new w (.int .u32 a) (.int .u16 p) 25).keep ((Below.refl _ _).alloc (Nat.le_refl _) (.cells #[.int .u32 a, .int .u16 p] 25))).keep ((Below.refl _ _).alloc (Nat.le_refl _) (.cells #[.int .u32 c, .int .u16 r] 25))
  have Y0 := (Two.new (w.alloc (.cells #[.int .u32 a, .int .u16 p] 25)) (.int .u32 a) (.int .u16 p) 25).keep ((Below.refl _ _).alloc (Nat.le_refl _) (.cells #[.int .u32 c, .int .u16 r] 25))
  have Z0 := Two.new ((w.alloc (.cells #[.int .u32 a, .int .u16 p] 25)).alloc (.cells #[.int .u32 a, .int .u16 p] 25)) (.int .u32 c) (.int .u16 r) 25
  have hB0 : Hid (Below w.heap.size w (((w.alloc (.cells #[.int .u32 a, .int .u16 p] 25)).alloc (.cells #[.int .u32 a, .int .u16 p] 25)).alloc (.cells #[.int .u32 c, .int .u16 r] 25))) := by show Below _ _ _; (repeat (first | exact Below.refl _ _ | refine Below.drew ?_ | refine below_drewN ?_ _ | refine Below.alloc ?_ (by first | omega | (simp; done) | (simp; omega)) _ | refine Below.setCell ?_ (by first | omega | (simp; done) | (simp; omega)) _))
  simp only [World.size_alloc] at Y0 Z0
  have HX := Lib.hid X0
  have HY := Lib.hid Y0
  have HZ := Lib.hid Z0
  clear X0 Y0 Z0
  go_wp2_with fail
  generalize (((w.alloc (.cells #[.int .u32 a, .int .u16 p] 25)).alloc (.cells #[.int .u32 a, .int .u16 p] 25)).alloc (.cells #[.int .u32 c, .int .u16 r] 25)) = wb at *
  refine (examples_yes _ (HT.out.below hB0.out)).mono ?_; rintro e w1 ⟨rfl, b1⟩
  have X1 := HX.out.keep b1
  have Y1 := HY.out.keep b1
  have Z1 := HZ.out.keep b1
  have hB1 : Hid (Below w.heap.size w w1) := hB0.out.trans (b1.mono hB0.out.size)
  clear b1 hB0 HX HY HZ HT
  obtain ⟨x0, x1, _, _⟩ := X1
  obtain ⟨y0, y1, _, _⟩ := Y1
  obtain ⟨z0, z1, _, _⟩ := Z1
  go_wp2_with fail
  refine (order_at O1 h1 h2 h1 h2 _).mono ?_; rintro e w2 ⟨rfl, b2⟩
  have X2 := (Two.mk x0 x1 (by assumption) (by assumption)).keep b2
  have Y2 := (Two.mk y0 y1 (by assumption) (by assumption)).keep b2
  have Z2 := (Two.mk z0 z1 (by assumption) (by assumption)).keep b2
  have hB2 : Hid (Below w.heap.size w w2) := hB1.out.trans (b2.mono hB1.out.size)
  clear b2 hB1 x0 x1 y0 y1 z0 z1
  have x0 := cell_regrown X2.c0
  have x1 := cell_regrown X2.c1
  have y0 := cell_regrown Y2.c0
  have y1 := cell_regrown Y2.c1
  have z0 := cell_regrown Z2.c0
  have z1 := cell_regrown Z2.c1
  have k0 := X2.c0
  have k1 := X2.c1
  have k2 := Y2.c0
  have k3 := Y2.c1
  clear X2 Y2 Z2
  have C2 := fun d os => Calls.regrown_of (order_at O2 h1 h2 h1 h2 (grow (redrawn w2 d) os))
  have C3 := fun d os => Calls.regrown_of (order_at O3 h1 h2 h5 h6 (grow (redrawn w2 d) os))
  have C4 := fun d os => Calls.regrown_of (order_at O4 h1 h2 h5 h6 (grow (redrawn w2 d) os))
  have CA := fun d os => Calls.regrown_of (put_at PA h1 h2 (grow (redrawn w2 d) os))
  have CB := fun d os => Calls.regrown_of (put_at PB h1 h2 (grow (redrawn w2 d) os))
  have hz3d : decide (0 < o3) = false := by simpa using hz3
  go_upto_region 5 with fail
  (refine wp_region_quiet_below (by kernel_rfl) (by kernel_rfl) ?_; (repeat (go_big_quiet_step (first | with_reducible exact C2 _ _ | with_reducible exact C3 _ _ | with_reducible exact C4 _ _ | with_reducible exact CA _ _ | with_reducible exact CB _ _))); refine wpQuiet_nil ?_; intro _ hw'; obtain ⟨⟨dq, osq⟩, hw''⟩ := hw'; subst hw'')
  go_wp2
  go_ret
  exact ⟨rfl, hB2.out.trans ((below_regrown w2 dq osq).mono hB2.out.size)⟩

theorem ord_lt {a p b q : Nat} (h : a < b ∨ (a = b ∧ p < q)) : ordI a p b q = -1 := by unfold ordI; rw [if_neg (by omega), if_pos h]
theorem ord_gt {a p b q : Nat} (h : b < a ∨ (a = b ∧ q < p)) : ordI a p b q = 1 := by unfold ordI; rw [if_neg (by omega), if_neg (by omega)]
theorem ord_eq (a p : Nat) : ordI a p a p = 0 := by unfold ordI; rw [if_pos ⟨rfl, rfl⟩]
theorem ord_le (a p b q : Nat) : ordI a p b q ≤ 0 ↔ (a < b ∨ (a = b ∧ p ≤ q)) := by
  rcases Nat.lt_trichotomy a b with h | h | h
  · rw [ord_lt (.inl h)]; omega
  · subst h
    rcases Nat.lt_trichotomy p q with h | h | h
    · rw [ord_lt (.inr ⟨rfl, h⟩)]; omega
    · subst h; rw [ord_eq]; omega
    · rw [ord_gt (.inr ⟨rfl, h⟩)]; omega
  · rw [ord_gt (.inl h)]; omega

theorem addrOrder_run (a p b q c r : Int) (w : World) (wa : (Lit.int .u32 a).wf = true) (wp : (Lit.int .u16 p).wf = true) (wb : (Lit.int .u32 b).wf = true) (wq : (Lit.int .u16 q).wf = true) (wc : (Lit.int .u32 c).wf = true) (wr : (Lit.int .u16 r).wf = true) (ht : Tab w) :
    Calls Tryd.prog 6 #[.agg #[.int .u32 a, .int .u16 p], .agg #[.int .u32 b, .int .u16 q], .agg #[.int .u32 c, .int .u16 r]] w fun e w' => e = .returned (.bool true) ∧ Below w.heap.size w w' := by
  have ba := bounds_u32 wa
  have bp := bounds_u16 wp
  have bb := bounds_u32 wb
  have bq := bounds_u16 wq
  have bc := bounds_u32 wc
  have br := bounds_u16 wr
  obtain ⟨a, rfl⟩ := Int.eq_ofNat_of_zero_le ba.1
  obtain ⟨p, rfl⟩ := Int.eq_ofNat_of_zero_le bp.1
  obtain ⟨b, rfl⟩ := Int.eq_ofNat_of_zero_le bb.1
  obtain ⟨q, rfl⟩ := Int.eq_ofNat_of_zero_le bq.1
  obtain ⟨c, rfl⟩ := Int.eq_ofNat_of_zero_le bc.1
  obtain ⟨r, rfl⟩ := Int.eq_ofNat_of_zero_le br.1
  have h1 : a < 4294967296 := by omega
  have h2 : p < 65536 := by omega
  have h3 : b < 4294967296 := by omega
  have h4 : q < 65536 := by omega
  have h5 : c < 4294967296 := by omega
  have h6 : r < 65536 := by omega
  have hl := put_less a p b q h1 h2 h3 h4
  have t3 := ord_le b q c r
  have t4 := ord_le a p c r
  rcases Nat.lt_trichotomy a b with h | h | h
  · have hl2 : Op.bytesLess (putB a p).toList (putB b q).toList = true := by rw [hl]; simp; omega
    by_cases ho : 0 < ordI b q c r
    · exact addrOrder_lt1 a p b q c r _ _ h1 h2 h3 h4 h5 h6 (by omega) (by omega) (ord_lt (.inl h)) (ord_gt (.inl h)) rfl rfl ho _ _ rfl rfl hl2 w ht
    · exact addrOrder_lt2 a p b q c r _ _ h1 h2 h3 h4 h5 h6 (by omega) (by omega) (ord_lt (.inl h)) (ord_gt (.inl h)) rfl rfl ho (by omega) _ _ rfl rfl hl2 w ht
  · subst h
    rcases Nat.lt_trichotomy p q with h | h | h
    · have hl2 : Op.bytesLess (putB a p).toList (putB a q).toList = true := by rw [hl]; simp; omega
      by_cases ho : 0 < ordI a q c r
      · exact addrOrder_eqlt1 a p q c r _ _ h1 h2 h4 h5 h6 (by omega) (by omega) (ord_lt (.inr ⟨rfl, h⟩)) (ord_gt (.inr ⟨rfl, h⟩)) rfl rfl ho _ _ rfl rfl hl2 w ht
      · exact addrOrder_eqlt2 a p q c r _ _ h1 h2 h4 h5 h6 (by omega) (by omega) (ord_lt (.inr ⟨rfl, h⟩)) (ord_gt (.inr ⟨rfl, h⟩)) rfl rfl ho (by omega) _ _ rfl rfl hl2 w ht
    · subst h
      have hl2 : Op.bytesLess (putB a p).toList (putB a p).toList = false := by rw [hl]; simp
      by_cases ho : 0 < ordI a p c r
      · exact addrOrder_eq1 a p c r _ _ h1 h2 h5 h6 (ord_eq a p) (ord_eq a p) rfl rfl ho _ _ rfl rfl hl2 w ht
      · exact addrOrder_eq2 a p c r _ _ h1 h2 h5 h6 (ord_eq a p) (ord_eq a p) rfl rfl ho (by omega) _ _ rfl rfl hl2 w ht
    · have hl2 : Op.bytesLess (putB a p).toList (putB a q).toList = false := by rw [hl]; simp; omega
      exact addrOrder_eqgt0 a p q c r _ _ h1 h2 h4 h5 h6 (by omega) (by omega) (ord_gt (.inr ⟨rfl, h⟩)) (ord_lt (.inr ⟨rfl, h⟩)) rfl rfl _ _ rfl rfl hl2 w ht
  · have hl2 : Op.bytesLess (putB a p).toList (putB b q).toList = false := by rw [hl]; simp; omega
    exact addrOrder_gt0 a p b q c r _ _ h1 h2 h3 h4 h5 h6 (by omega) (by omega) (ord_gt (.inl h)) (ord_lt (.inl h)) rfl rfl _ _ rfl rfl hl2 w ht

theorem addrOrder_own : ownKnob Tryd.prog.godebug = none := by kernel_rfl
theorem addrOrder_laid : laidOutB Tryd.prog = true := by kernel_rfl
set_option maxRecDepth 100000 in
theorem addrOrder_lifted (os : Os) (started : os.Started) (H : Type) (enc : TypeId × Value → H) :
    ReturnsInHanded {} Tryd.checked os 6 .any (fun w args => (Rows.addrOrderSpec.pre enc Tryd.prog Tryd.f6 [] false w args ∧ laidMetH Tryd.prog seatLaid w) ∧ sizedMet enc Tryd.prog Tryd.f6 (OpenSpec.ofChange Rows.addrOrderSpec) false w args) (Rows.addrOrderSpec.post enc Tryd.prog Tryd.f6 false true false false) := by
  refine returnsInHanded_of_change_and (C := Tryd.checked) (X := fun w _ => laidMetH Tryd.prog seatLaid w) (fun _ _ _ hh h => h.of_heap hh) addrOrder_own started (by kernel_rfl) Tryd.func6
    (ChangeSpec.witness_shaped (enc := enc) (C := Tryd.checked) (os := os) (X := fun w _ => laidMetH Tryd.prog seatLaid w) false (World.doorLaid Tryd.prog seatSteps os) #[.agg #[.int .u32 0, .int .u16 0], .agg #[.int .u32 0, .int .u16 0], .agg #[.int .u32 0, .int .u16 0]] 8 rfl (World.shaped_of_RefB (by kernel_rfl) (by kernel_rfl)) (by kernel_rfl) (by kernel_rfl) (by kernel_rfl) (door_met os _)) ?_
  intro W base args ds gs before hval0 hW hcnd hsz hL _
  have hval : ∀ (j : Nat) t v, Tryd.f6.params[j]? = some t → args[j]? = some v → Value.okWide Tryd.prog W .any base t v := hval0
  have hW' := hW
  obtain ⟨p, q, hA0, hV, rfl, hfz, hnd⟩ := hW
  have hA : DataW.TrodAll enc Tryd.prog W 0 (fun _ => true) true Tryd.f6.params.toList args.toList ds p := hA0
  rw [Tryd.params6] at hA hval
  obtain ⟨v0, vs0, d0, ds0, p0, q0, hargs, rfl, rfl, h0, r0⟩ := trodAll_cons hA
  obtain ⟨v1, vs1, d1, ds1, p1, q1, rfl, rfl, rfl, h1, r1⟩ := trodAll_cons r0
  obtain ⟨v2, vs2, d2, ds2, p2, q2, rfl, rfl, rfl, h2, r2⟩ := trodAll_cons r1
  obtain ⟨rfl, rfl, rfl⟩ := trodAll_nil r2
  obtain rfl : args = #[v0, v1, v2] := by cases args; simp_all
  obtain ⟨rfl, rfl⟩ := trodVars_none hV
  have k0 := h0
  have lt0 : ∀ x ∈ p0, x.block < W.heap.size := by obtain ⟨m, hm⟩ := k0; exact DataW.trod_lt m _ _ _ hm
  obtain ⟨c0_0, c0_1, y0_0, y0_1, n0, rfl, rfl, rfl, t0_0, t0_1⟩ := Joins.open_agg2 Tryd.underlying25 (by kernel_rfl) (by kernel_rfl) (hval 0 25 v0 rfl rfl) h0
  obtain ⟨a0_0, e0_0, rfl, w0_0⟩ := DataW.trod_int Tryd.underlying22 t0_0
  obtain rfl := (List.cons.inj e0_0).1
  obtain ⟨a0_1, e0_1, rfl, w0_1⟩ := DataW.trod_int Tryd.underlying23 t0_1
  obtain rfl := (List.cons.inj e0_1).1
  have k1 := h1
  have lt1 : ∀ x ∈ p1, x.block < W.heap.size := by obtain ⟨m, hm⟩ := k1; exact DataW.trod_lt m _ _ _ hm
  obtain ⟨c1_0, c1_1, y1_0, y1_1, n1, rfl, rfl, rfl, t1_0, t1_1⟩ := Joins.open_agg2 Tryd.underlying25 (by kernel_rfl) (by kernel_rfl) (hval 1 25 v1 rfl rfl) h1
  obtain ⟨a1_0, e1_0, rfl, w1_0⟩ := DataW.trod_int Tryd.underlying22 t1_0
  obtain rfl := (List.cons.inj e1_0).1
  obtain ⟨a1_1, e1_1, rfl, w1_1⟩ := DataW.trod_int Tryd.underlying23 t1_1
  obtain rfl := (List.cons.inj e1_1).1
  have k2 := h2
  have lt2 : ∀ x ∈ p2, x.block < W.heap.size := by obtain ⟨m, hm⟩ := k2; exact DataW.trod_lt m _ _ _ hm
  obtain ⟨c2_0, c2_1, y2_0, y2_1, n2, rfl, rfl, rfl, t2_0, t2_1⟩ := Joins.open_agg2 Tryd.underlying25 (by kernel_rfl) (by kernel_rfl) (hval 2 25 v2 rfl rfl) h2
  obtain ⟨a2_0, e2_0, rfl, w2_0⟩ := DataW.trod_int Tryd.underlying22 t2_0
  obtain rfl := (List.cons.inj e2_0).1
  obtain ⟨a2_1, e2_1, rfl, w2_1⟩ := DataW.trod_int Tryd.underlying23 t2_1
  obtain rfl := (List.cons.inj e2_1).1
  clear hA0 hval0
  refine (addrOrder_run a0_0 a0_1 a1_0 a1_1 a2_0 a2_1 W w0_0 w0_1 w1_0 w1_1 w2_0 w2_1 (tab_of_laid hL)).mono fun e W' ⟨he, bel⟩ => ?_
  subst he
  exact ⟨_, rfl, _, _, _, [], _, [], hW', trodAll_mk1 (shut_bool Tryd.underlying4 _), (trodAll_cons_mk (Below.trod addrOrder_laid (by kernel_rfl) (of_decide_eq_true (by kernel_rfl)) k0 bel lt0) (trodAll_cons_mk (Below.trod addrOrder_laid (by kernel_rfl) (of_decide_eq_true (by kernel_rfl)) k1 bel lt1) (trodAll_cons_mk (Below.trod addrOrder_laid (by kernel_rfl) (of_decide_eq_true (by kernel_rfl)) k2 bel lt2) trodAll_mk0))), rfl, bel.frame _, fun h => by cases h⟩
theorem addrOrder_over : Rows.addrOrderRow.holds Tryd.pinned (OpenSpec.ofChange Rows.addrOrderSpec) :=
  OpenClaim.holds_of_wide 6 Tryd.f6 rfl rfl rfl rfl rfl rfl rfl ⟨rfl, rfl, rfl, rfl, rfl⟩ rfl rfl rfl rfl rfl (by kernel_rfl) Tryd.func6 (by kernel_rfl)
    (of_decide_eq_true (by kernel_rfl)) (by unfold Func.isWrapper; first | (rw [if_pos (by decide +kernel)]; kernel_rfl) | (rw [if_neg (by decide +kernel)]; exact ⟨rfl, rfl⟩))
    (fun os started H enc _ => addrOrder_lifted os started H enc)
theorem addrOrder_holds : Rows.AddrOrderCardSaid :=
  Claim7.holds_tied_plain_at .later [] [.data, .data, .data] true Rows.addrOrderCard.stood.harness false addrOrder_over (fun _ h => by cases h) (by kernel_rfl) (fun _ h => by cases h) addrOrder_row_tie rfl ⟨rfl, rfl⟩ (by kernel_rfl) rfl
    (fun f fn hf hfn => by
      obtain rfl : f = 6 := Option.some.inj ((show Tryd.prog.funcNamed "scuttlebutt/scuttlebuttlaw03.AddrOrder" = some 6 by kernel_rfl).symm.trans hf) |>.symm
      obtain rfl : fn = Tryd.f6 := (Option.some.inj (Tryd.func6.symm.trans hfn)).symm
      exact ⟨by kernel_rfl, fun j t ht => by
        rw [Tryd.params6] at ht
        have hm : t ∈ [25, 25, 25] := by simpa using Array.mem_of_getElem? ht
        have hall : ([25, 25, 25].all fun u => !Tryd.prog.wantsStandIn u) = true := by kernel_rfl
        exact (show Tryd.prog.wantsStandIn t = false by simpa using List.all_eq_true.1 hall t hm)⟩)
    (by kernel_rfl)
#print axioms addrOrder_holds
end Go.Proofs.YtdihpiggknhojaaDoor
