/- The chapter's examples; who is inside, who outside. -/
import Derived.Test.YtnemmnndaoaadaaBoxOne
namespace Go.Proofs.Ytnemmnndaoaadaa
open Go.Sort Go.RowKit Go.BigFrame
set_option linter.unusedVariables false
set_option linter.unusedSimpArgs false

theorem ex_out : outP 0 10 2 0 10 7 50 8 [] = (0, [⟨10, 7, 0, 0, 20000, 10, [(50, 8)]⟩]) := by kernel_rfl
theorem ex_in : inQ 2 10 5 20000 50 8 [⟨10, 7, 0, 0, 20000, 10, [(50, 8)]⟩] = ((10, 7, 0), [⟨10, 7, 0, 0, 20000, 15, [(50, 8)]⟩]) := by kernel_rfl
theorem ex_in2 : inQ 2 10 5 20000 50 9 [⟨10, 7, 0, 0, 20000, 15, [(50, 8)]⟩] = ((0, 0, 5), [⟨10, 7, 0, 0, 20000, 15, [(50, 8)]⟩]) := by kernel_rfl
theorem ex_in3 : inQ 2 10 99 20000 50 8 [⟨10, 7, 0, 0, 20000, 15, [(50, 8)]⟩] = ((0, 0, 5), []) := by kernel_rfl
set_option maxHeartbeats 6400000 in
set_option maxRecDepth 100000 in
theorem examples_yes (w : World) : Calls Try.prog 4 #[] w fun e w' => e = .returned (.bool true) ∧ Below w.heap.size w w' := by
  have N0 := new_bad 0 0 0 1 1 w (by kernel_rfl) (by omega)
  go_enter Try.func4, Try.ntmps4
  go_wp2_with fail
  refine N0.mono ?_; rintro e w1 ⟨rfl, b1⟩
  have hB := Lib.hid b1
  have N1 := newO (m := 0) (f := 2) (ip := 9) (hold := 10) (room := 2) (B := w.heap.size) (rs := []) (w := w1) b1.size (fun k hk => by simp at hk) (by kernel_rfl) (by omega)
  clear b1 N0
  go_wp2_with fail
  refine N1.mono ?_; rintro e w2 ⟨g, rfl, hb, b2⟩
  replace hB := Lib.hid (hB.out.trans (b2.mono hB.out.size))
  have HX : Hid (Cs w2.heap.size [.int .u32 10, .int .u16 7] ((w2.alloc (.cells #[.int .u32 10, .int .u16 7] 38)).alloc (.cells #[.int .u32 50, .int .u16 8] 38))) := (Cs.new w2 [.int .u32 10, .int .u16 7] 38).alloc _
  have HY : Hid (Cs (w2.heap.size + 1) [.int .u32 50, .int .u16 8] ((w2.alloc (.cells #[.int .u32 10, .int .u16 7] 38)).alloc (.cells #[.int .u32 50, .int .u16 8] 38))) := by
    have h1 := Cs.new (w2.alloc (.cells #[.int .u32 10, .int .u16 7] 38)) [.int .u32 50, .int .u16 8] 38
    simp only [World.size_alloc] at h1
    exact h1
  have hb1 := (hb.alloc (.cells #[.int .u32 10, .int .u16 7] 38)).alloc (.cells #[.int .u32 50, .int .u16 8] 38)
  simp only [World.size_alloc] at hb1
  have O1 := outO hb1 (si := 10) (sp := 7) (di := 50) (dp := 8) (now := 0) (by kernel_rfl) (by omega) ex_out (p := 20000) (by kernel_rfl)
  have hB1 : Hid (Below w.heap.size w ((w2.alloc (.cells #[.int .u32 10, .int .u16 7] 38)).alloc (.cells #[.int .u32 50, .int .u16 8] 38))) := (hB.out.alloc hB.out.size _).alloc (hB.out.alloc hB.out.size _).size _
  clear hb hb1 b2 N1 hB
  go_wp2_with fail
  refine O1.mono ?_; rintro e w3 ⟨rfl, hb, t3⟩
  have hlo := hB1.out.size
  have hX := HX.out.tr t3 (by simp)
  have hY := HY.out.tr t3 (by simp)
  have hB := hB1.out.trans ((t3.below hlo))
  have hb2 := hb.alloc (.cells #[.int .u32 9, .int .u16 20000] 38)
  have Z := Cs.new w3 [.int .u32 9, .int .u16 20000] 38
  have HX2 := Lib.hid (hX.alloc (.cells #[.int .u32 9, .int .u16 20000] 38))
  have HY2 := Lib.hid (hY.alloc (.cells #[.int .u32 9, .int .u16 20000] 38))
  have HZ2 := Lib.hid Z
  have HB2 := Lib.hid (hB.alloc hB.size (.cells #[.int .u32 9, .int .u16 20000] 38))
  have I1 := inO hb2 (si := 50) (sp := 8) (now := 5) (port := 20000) (by kernel_rfl) (by omega) ex_in
  have y0 := HY2.out.cell 0 _ rfl
  have y1 := HY2.out.cell 1 _ rfl
  have yl := HY2.out.lt
  clear O1 hb hb2 hlo hX hY hB HX HY hB1 Z t3
  go_wp2_with fail
  refine I1.mono ?_; rintro e w4 ⟨rfl, hb, t4⟩
  have hX := HX2.out.tr t4 (by simp)
  have hY := HY2.out.tr t4 (by simp)
  have hZ := HZ2.out.tr t4 (by simp)
  have hB := HB2.out.trans (t4.below HB2.out.size)
  have hb2 := hb.alloc (.cells #[.int .u32 10, .int .u16 7] 38)
  have HV := Lib.hid (Cs.new w4 [.int .u32 10, .int .u16 7] 38)
  have HX3 := Lib.hid (hX.alloc (.cells #[.int .u32 10, .int .u16 7] 38))
  have HY3 := Lib.hid (hY.alloc (.cells #[.int .u32 10, .int .u16 7] 38))
  have HZ3 := Lib.hid (hZ.alloc (.cells #[.int .u32 10, .int .u16 7] 38))
  have HB3 := Lib.hid (hB.alloc hB.size (.cells #[.int .u32 10, .int .u16 7] 38))
  have I2 := inO hb2 (si := 50) (sp := 9) (now := 5) (port := 20000) (by kernel_rfl) (by omega) ex_in2
  have z1 := HZ3.out.cell 1 _ rfl
  have zl := HZ3.out.lt
  clear I1 hb hb2 hX hY hZ hB HX2 HY2 HZ2 HB2 t4 y0 y1 yl
  go_wp2_with fail
  refine I2.mono ?_; rintro e w5 ⟨rfl, hb, t5⟩
  have hX := HX3.out.tr t5 (by simp)
  have hY := HY3.out.tr t5 (by simp)
  have hZ := HZ3.out.tr t5 (by simp)
  have hV := HV.out.tr t5 (by simp)
  have hB := HB3.out.trans (t5.below HB3.out.size)
  have hb2 := hb.alloc (.cells #[.int .u32 0, .int .u16 0] 38)
  have HV4 := Lib.hid (hV.alloc (.cells #[.int .u32 0, .int .u16 0] 38))
  have HX4 := Lib.hid (hX.alloc (.cells #[.int .u32 0, .int .u16 0] 38))
  have HY4 := Lib.hid (hY.alloc (.cells #[.int .u32 0, .int .u16 0] 38))
  have HZ4 := Lib.hid (hZ.alloc (.cells #[.int .u32 0, .int .u16 0] 38))
  have HB4 := Lib.hid (hB.alloc hB.size (.cells #[.int .u32 0, .int .u16 0] 38))
  have I3 := inO hb2 (si := 50) (sp := 8) (now := 99) (port := 20000) (by kernel_rfl) (by omega) ex_in3
  clear z1 zl
  have z1 := HZ4.out.cell 1 _ rfl
  have zl := HZ4.out.lt
  have y0 := HY4.out.cell 0 _ rfl
  have y1 := HY4.out.cell 1 _ rfl
  have yl := HY4.out.lt
  clear I2 hb hb2 hX hY hZ hB hV HX3 HY3 HZ3 HB3 HV t5
  go_wp2_with fail
  refine I3.mono ?_; rintro e w6 ⟨rfl, hb, t6⟩
  have hX := HX4.out.tr t6 (by simp)
  have hZ := HZ4.out.tr t6 (by simp)
  have hV := HV4.out.tr t6 (by simp)
  have hB := HB4.out.trans (t6.below HB4.out.size)
  have hb2 := hb.alloc (.cells #[.int .u32 0, .int .u16 0] 38)
  have HV5 := Lib.hid (hV.alloc (.cells #[.int .u32 0, .int .u16 0] 38))
  have HX5 := Lib.hid (hX.alloc (.cells #[.int .u32 0, .int .u16 0] 38))
  have HZ5 := Lib.hid (hZ.alloc (.cells #[.int .u32 0, .int .u16 0] 38))
  have HB5 := Lib.hid (hB.alloc hB.size (.cells #[.int .u32 0, .int .u16 0] 38))
  have BI := bindsO hb2
  have HBO := Lib.hid hb2
  clear z1 zl y0 y1 yl
  have z0 := HZ5.out.cell 0 _ rfl
  have z1 := HZ5.out.cell 1 _ rfl
  have zl := HZ5.out.lt
  have x0 := HX5.out.cell 0 _ rfl
  have x1 := HX5.out.cell 1 _ rfl
  have xl := HX5.out.lt
  have v0 := HV5.out.cell 0 _ rfl
  have v1 := HV5.out.cell 1 _ rfl
  have vl := HV5.out.lt
  clear I3 hb hb2 hX hZ hB hV HX4 HY4 HZ4 HB4 HV4 t6 HX5 HZ5 HV5
  go_wp2_with fail
  refine BI.mono ?_; rintro e w7 ⟨a, n, c, rfl, hp, b7⟩
  obtain rfl : n = 0 := hp.1
  have hb2 := HBO.out.keep b7
  have HB6 := Lib.hid (HB5.out.trans (b7.mono HB5.out.size))
  have RB := rebindO (ip := 7) (by omega) hb2
  clear BI hp b7 HBO HB5 hb2 z0 z1 zl x0 x1 xl v0 v1 vl
  go_wp2_with fail
  refine RB.mono ?_; rintro e w8 ⟨rfl, hb, t8⟩
  have hB := Lib.hid (HB6.out.trans (t8.below HB6.out.size))
  have IP := ipO hb
  have R0 := rebind_bad g w8
  clear RB hb t8 HB6
  go_wp2_with fail
  refine IP.mono ?_; rintro e w8 ⟨rfl, rfl⟩
  go_wp2_with fail
  refine R0.mono ?_; rintro e w9 ⟨rfl, b9⟩
  go_wp2_with fail
  go_ret
  exact ⟨rfl, hB.out.trans (b9.mono hB.out.size)⟩
end Go.Proofs.Ytnemmnndaoaadaa
