/- The chapter's examples. -/
import Derived.Test.YthebcaielbnhjaaQuLaw
namespace Go.Proofs.Ythebcaielbnhjaa
open Go.Sort Go.RowKit Go.BigFrame
set_option linter.unusedVariables false
set_option linter.unusedSimpArgs false

def exA : Rec := ⟨1, 0, 0, 1, 1⟩
def exB : Rec := ⟨2, 0, 0, 1, 1⟩
theorem exA_ok : exA.Ok := ⟨by decide, by decide, by decide⟩
theorem exB_ok : exB.Ok := ⟨by decide, by decide, by decide⟩
def exS1 : List Im := [⟨exA, 1⟩]
def exS2 : List Im := [⟨exB, 2⟩, ⟨exA, 1⟩]
def exS3 : List Im := [⟨exB, 1⟩]
theorem ex_facts : errA [] exA 1 = 0 ∧ addS 2 [] exA 1 = exS1 ∧ errA exS1 exB 2 = 0 ∧ addS 2 exS1 exB 2 = exS2 ∧ errA exS2 exA 5 = 6 ∧ addS 2 exS2 exA 5 = exS2 ∧ toldS exS2 2 = [exB, exA] ∧ someS exS2 2 = exS3 ∧ toldS exS3 9 = [exB] ∧ someS exS3 9 = [] := by decide +kernel
theorem ex_times : timesN 5 = 9 ∧ timesN 0 = 3 := by decide +kernel
set_option maxHeartbeats 1600000 in
set_option maxRecDepth 20000 in
theorem ex_any (w : World) : Calls Try.prog 9 #[] w fun e w' => e = .returned (.bool true) ∧ Below w.heap.size w w' := by
  obtain ⟨f1, f2, f3, f4, f5, f6, f7, f8, f9, f10⟩ := ex_facts
  obtain ⟨t5, t0⟩ := ex_times
  have K0 := new_l 0 (St.start w w (Below.refl _ _))
  have hr0 : roomI 0 = false := by decide
  rw [hr0] at K0
  have F1 := Lib.hid (And.intro f1 f2)
  have F2 := Lib.hid (And.intro f3 f4)
  have F3 := Lib.hid (And.intro f5 f6)
  have F4 := Lib.hid (And.intro f7 f8)
  have F5 := Lib.hid (And.intro f9 f10)
  have T5 := times_b 5 (by decide)
  have T0 := times_b 0 (by decide)
  rw [t5] at T5
  rw [t0] at T0
  clear f1 f2 f3 f4 f5 f6 f7 f8 f9 f10 t5 t0 hr0
  go_enter Try.func9, Try.ntmps9
  go_wp2_with fail
  refine K0.mono ?_; rintro e w1 ⟨p, rfl, hp⟩
  rcases hp with ⟨_, rfl, s1⟩ | ⟨h, _⟩
  rotate_left
  · cases h
  have K := newq_ok 2 (by decide) (by decide) s1
  clear K0 s1
  go_wp2_with fail
  refine K.mono ?_; rintro e w2 ⟨g, rfl, s2⟩
  have B1 : St w [hC w2.heap.size (rcs exA), hQ true g 2 ⟨none, 0, 0⟩ []] (w2.alloc (.cells #[.int .i64 1, .int .i64 0, .int .u32 0, .int .u32 1, .int .u16 1] 37)) := s2.box (rcs exA) _
  have B2 : St w [hC (w2.heap.size + 1) (rcs exB), hC w2.heap.size (rcs exA), hQ true g 2 ⟨none, 0, 0⟩ []] ((w2.alloc (.cells #[.int .i64 1, .int .i64 0, .int .u32 0, .int .u32 1, .int .u16 1] 37)).alloc (.cells #[.int .i64 2, .int .i64 0, .int .u32 0, .int .u32 1, .int .u16 1] 37)) := by
    have := B1.box (rcs exB) 37
    simp only [World.size_alloc] at this
    exact this
  have HB := Lib.hid B2
  clear K s2 B1 B2
  go_upto_region 7 with fail
  generalize ((w2.alloc (.cells #[.int .i64 1, .int .i64 0, .int .u32 0, .int .u32 1, .int .u16 1] 37)).alloc (.cells #[.int .i64 2, .int .i64 0, .int .u32 0, .int .u32 1, .int .u16 1] 37)) = w3 at *
  generalize w2.heap.size + 1 = bb at *
  generalize w2.heap.size = ba at *
  have a0 := (HB.out.cs (b := ba) (vs := rcs exA) (by simp)).cell 0 _ rfl
  have a1 := (HB.out.cs (b := ba) (vs := rcs exA) (by simp)).cell 1 _ rfl
  have a2 := (HB.out.cs (b := ba) (vs := rcs exA) (by simp)).cell 2 _ rfl
  have a3 := (HB.out.cs (b := ba) (vs := rcs exA) (by simp)).cell 3 _ rfl
  have a4 := (HB.out.cs (b := ba) (vs := rcs exA) (by simp)).cell 4 _ rfl
  have K := add_l exA exA_ok 1 [_, _] [] HB.out
  rw [F1.out.1, F1.out.2] at K
  clear HB
  go_wp2_with fail
  refine K.mono ?_; rintro e w4 ⟨rfl, v1, s⟩
  have HB := Lib.hid s
  clear K s a0 a1 a2 a3 a4
  have a0 := (HB.out.cs (b := bb) (vs := rcs exB) (by simp)).cell 0 _ rfl
  have a1 := (HB.out.cs (b := bb) (vs := rcs exB) (by simp)).cell 1 _ rfl
  have a2 := (HB.out.cs (b := bb) (vs := rcs exB) (by simp)).cell 2 _ rfl
  have a3 := (HB.out.cs (b := bb) (vs := rcs exB) (by simp)).cell 3 _ rfl
  have a4 := (HB.out.cs (b := bb) (vs := rcs exB) (by simp)).cell 4 _ rfl
  have K := add_l exB exB_ok 2 [_, _] [] HB.out
  rw [F2.out.1, F2.out.2] at K
  clear HB
  go_wp2_with fail
  refine K.mono ?_; rintro e w5 ⟨rfl, v2, s⟩
  have HB := Lib.hid s
  clear K s a0 a1 a2 a3 a4
  have a0 := (HB.out.cs (b := ba) (vs := rcs exA) (by simp)).cell 0 _ rfl
  have a1 := (HB.out.cs (b := ba) (vs := rcs exA) (by simp)).cell 1 _ rfl
  have a2 := (HB.out.cs (b := ba) (vs := rcs exA) (by simp)).cell 2 _ rfl
  have a3 := (HB.out.cs (b := ba) (vs := rcs exA) (by simp)).cell 3 _ rfl
  have a4 := (HB.out.cs (b := ba) (vs := rcs exA) (by simp)).cell 4 _ rfl
  have K := add_l exA exA_ok 5 [_, _] [] HB.out
  rw [F3.out.1, F3.out.2] at K
  clear HB
  go_wp2_with fail
  refine K.mono ?_; rintro e w6 ⟨rfl, v3, s⟩
  have K2 := some_l 2 [_, _] [] s
  rw [F4.out.1, F4.out.2] at K2
  clear K s a0 a1 a2 a3 a4
  go_wp2_with fail
  refine K2.mono ?_; rintro e w7 ⟨tl, v4, rfl, s⟩
  have K := some_l 9 [_, _, _] [] s
  rw [F5.out.1, F5.out.2] at K
  clear K2 s
  go_wp2_with fail
  refine K.mono ?_; rintro e w8 ⟨tm, v5, rfl, s⟩
  obtain ⟨bl, ol, hbo, hbl, hcc⟩ := (s.rd (T := 37) (u := tl) (L := [exB, exA]) rcs_enc (by simp)) (by simp)
  have l0 := hcc 0 exB rfl 0 _ rfl
  have l1 := hcc 0 exB rfl 1 _ rfl
  have l2 := hcc 0 exB rfl 2 _ rfl
  have l3 := hcc 0 exB rfl 3 _ rfl
  have l4 := hcc 0 exB rfl 4 _ rfl
  obtain ⟨ta, tn, tc⟩ := tl
  simp only at hbo
  subst hbo
  clear hcc
  obtain ⟨bm, om, hbo, hbm, hcc⟩ := (s.rd (T := 37) (u := tm) (L := [exB]) rcs_enc (by simp)) (by simp)
  have m0 := hcc 0 exB rfl 0 _ rfl
  have m1 := hcc 0 exB rfl 1 _ rfl
  have m2 := hcc 0 exB rfl 2 _ rfl
  have m3 := hcc 0 exB rfl 3 _ rfl
  have m4 := hcc 0 exB rfl 4 _ rfl
  obtain ⟨tma, tmn, tmc⟩ := tm
  simp only at hbo
  subst hbo
  clear hcc
  have a0 := (s.cs (b := bb) (vs := rcs exB) (by simp)).cell 0 _ rfl
  have a1 := (s.cs (b := bb) (vs := rcs exB) (by simp)).cell 1 _ rfl
  have a2 := (s.cs (b := bb) (vs := rcs exB) (by simp)).cell 2 _ rfl
  have a3 := (s.cs (b := bb) (vs := rcs exB) (by simp)).cell 3 _ rfl
  have a4 := (s.cs (b := bb) (vs := rcs exB) (by simp)).cell 4 _ rfl
  simp only [exB, Nat.zero_mul, Nat.add_zero] at l0 l1 l2 l3 l4 m0 m1 m2 m3 m4 a0 a1 a2 a3 a4
  have L := fun d os => Calls.regrown_of (len_b (g := g) (room := 2) (v := v5) (S := []) s (by simp) (grow (redrawn w8 d) os) (below_regrown w8 d os))
  have C5 := fun d os => Calls.regrown_of (T5 (grow (redrawn w8 d) os))
  have C0 := fun d os => Calls.regrown_of (T0 (grow (redrawn w8 d) os))
  have HB := Lib.hid s.below
  clear K s T5 T0
  simp only [List.length_cons, List.length_nil] at L ⊢
  go_upto_region 12 with fail
  have kl0 := cell_regrown l0
  have kl1 := cell_regrown l1
  have kl2 := cell_regrown l2
  have kl3 := cell_regrown l3
  have kl4 := cell_regrown l4
  have km0 := cell_regrown m0
  have km1 := cell_regrown m1
  have km2 := cell_regrown m2
  have km3 := cell_regrown m3
  have km4 := cell_regrown m4
  have ka0 := cell_regrown a0
  have ka1 := cell_regrown a1
  have ka2 := cell_regrown a2
  have ka3 := cell_regrown a3
  have ka4 := cell_regrown a4
  clear l0 l1 l2 l3 l4 m0 m1 m2 m3 m4 a0 a1 a2 a3 a4
  (refine wp_region_quiet_below (by kernel_rfl) (by kernel_rfl) ?_; (repeat (go_big_quiet_step (first | with_reducible exact L _ _ | with_reducible exact C5 _ _ | with_reducible exact C0 _ _))); refine wpQuiet_nil ?_; intro _ hw'; obtain ⟨⟨dq, osq⟩, hw''⟩ := hw'; subst hw'')
  have BE := Lib.hid (HB.out.trans ((below_regrown w8 dq osq).mono HB.out.size))
  clear kl0 kl1 kl2 kl3 kl4 km0 km1 km2 km3 km4 ka0 ka1 ka2 ka3 ka4 L C5 C0
  go_wp2
  go_ret
  exact ⟨rfl, BE.out⟩
end Go.Proofs.Ythebcaielbnhjaa
