/- ProbeStages: asked ahead of its time it stays; each stage lasts as long as it is to; started anew it has no nacks: for all times, and however much ahead. -/
import Derived.Test.YtdbfghpmbanfpaaPbEx
import Derived.Deep.DeepCutAuto
import Derived.ChangeOld
import Derived.ChangeMaps5
import Derived.ShutString
import Derived.OpenShut
import Derived.SizedLaws
namespace Go.Proofs.Ytdbfghpmbanfpaa
open Go.Sort Go.RowKit Go.BigFrame Go.ChangeShapes Go.WideShapes Go.Deep
set_option linter.unusedVariables false
set_option linter.unusedSimpArgs false

set_option maxHeartbeats 6400000 in
set_option maxRecDepth 100000 in
theorem stages_walk (f s T y : Int) (hf : 0 ≤ f ∧ f ≤ 65535) (hs : 0 ≤ s ∧ s ≤ 65535) (hT : 0 ≤ T ∧ T ≤ 4294967295) (hy : 0 ≤ y ∧ y ≤ 65535) (w : World) :
    Calls Try.prog 6 #[.int .u16 f, .int .u16 s, .int .u32 T, .int .u16 y] w fun e w' => e = .returned (.bool true) ∧ Below w.heap.size w w' := by
  have E := ex_any w
  obtain ⟨x1, hx1⟩ : ∃ x, f % 1000 = x := ⟨_, rfl⟩
  obtain ⟨x2, hx2⟩ : ∃ x, s % 1000 = x := ⟨_, rfl⟩
  have t1 : f.tmod 1000 = x1 := by rw [tmod_pos _ _ hf.1]; exact hx1
  have t2 : s.tmod 1000 = x2 := by rw [tmod_pos _ _ hs.1]; exact hx2
  have b1 : 0 ≤ x1 ∧ x1 < 1000 := by omega
  have b2 : 0 ≤ x2 ∧ x2 < 1000 := by omega
  have u1 := IntWalk.u16_in x1 ⟨by omega, by omega⟩
  have u2 := IntWalk.u16_in x2 ⟨by omega, by omega⟩
  have v1 := IntWalk.u64_in x1 ⟨by omega, by omega⟩
  have v2 := IntWalk.u64_in x2 ⟨by omega, by omega⟩
  have v3 := IntWalk.u64_in T ⟨by omega, by omega⟩
  have v4 := IntWalk.u64_in y ⟨by omega, by omega⟩
  obtain ⟨A, hA⟩ : ∃ A, 1 + x1 = A := ⟨_, rfl⟩
  obtain ⟨B, hB⟩ : ∃ B, 1 + x2 = B := ⟨_, rfl⟩
  obtain ⟨TA, hTA⟩ : ∃ x, T + A = x := ⟨_, rfl⟩
  obtain ⟨TB, hTB⟩ : ∃ x, TA + B = x := ⟨_, rfl⟩
  obtain ⟨r1, hr1⟩ : ∃ x, y % A = x := ⟨_, rfl⟩
  obtain ⟨r2, hr2⟩ : ∃ x, y % B = x := ⟨_, rfl⟩
  have m1 := Int.emod_nonneg y (show A ≠ 0 by omega)
  have m2 := Int.emod_lt_of_pos y (show 0 < A by omega)
  have m3 := Int.emod_nonneg y (show B ≠ 0 by omega)
  have m4 := Int.emod_lt_of_pos y (show 0 < B by omega)
  rw [hr1] at m1 m2
  rw [hr2] at m3 m4
  obtain ⟨E1, hE1⟩ : ∃ x, TA - 1 = x := ⟨_, rfl⟩
  obtain ⟨E2, hE2⟩ : ∃ x, E1 - r1 = x := ⟨_, rfl⟩
  obtain ⟨L1, hL1⟩ : ∃ x, TB - 1 = x := ⟨_, rfl⟩
  obtain ⟨L2, hL2⟩ : ∃ x, L1 - r2 = x := ⟨_, rfl⟩
  have d1 : (A == 0) = false := by rw [beq_eq_false_iff_ne]; omega
  have d2 : (B == 0) = false := by rw [beq_eq_false_iff_ne]; omega
  have t3 : y.tmod A = r1 := by rw [Int.tmod_eq_emod_of_nonneg hy.1]; exact hr1
  have t4 : y.tmod B = r2 := by rw [Int.tmod_eq_emod_of_nonneg hy.1]; exact hr2
  have u3 := IntWalk.u64_in r1 ⟨by omega, by omega⟩
  have u4 := IntWalk.u64_in r2 ⟨by omega, by omega⟩
  have k1 : IntKind.u64.wrap (1 + x1) = A := by rw [hA]; exact IntWalk.u64_in A ⟨by omega, by omega⟩
  have k2 : IntKind.u64.wrap (1 + x2) = B := by rw [hB]; exact IntWalk.u64_in B ⟨by omega, by omega⟩
  have k3 : IntKind.u64.wrap (T + A) = TA := by rw [hTA]; exact IntWalk.u64_in _ ⟨by omega, by omega⟩
  have k4 : IntKind.u64.wrap (TA + B) = TB := by rw [hTB]; exact IntWalk.u64_in _ ⟨by omega, by omega⟩
  have k5 : IntKind.u64.wrap (TA - 1) = E1 := by rw [hE1]; exact IntWalk.u64_in _ ⟨by omega, by omega⟩
  have k6 : IntKind.u64.wrap (E1 - r1) = E2 := by rw [hE2]; exact IntWalk.u64_in _ ⟨by omega, by omega⟩
  have k7 : IntKind.u64.wrap (TB - 1) = L1 := by rw [hL1]; exact IntWalk.u64_in _ ⟨by omega, by omega⟩
  have k8 : IntKind.u64.wrap (L1 - r2) = L2 := by rw [hL2]; exact IntWalk.u64_in _ ⟨by omega, by omega⟩
  have c_new : newP A B = (⟨0, 0, 0, 0, 0, A, B⟩, 0) := by
    unfold newP mayB
    rw [if_pos (by simp; omega)]
  have c_start : startP ⟨0, 0, 0, 0, 0, A, B⟩ 1 2 T = (⟨1, 1, 0, 2, TA, A, B⟩, 0) := by
    unfold startP
    rw [if_neg (by omega), if_pos rfl, ← k3]
  have c_again : startP ⟨0, 0, 0, 0, 0, A, B⟩ 9 3 T = (⟨1, 9, 0, 3, TA, A, B⟩, 0) := by
    unfold startP
    rw [if_neg (by omega), if_pos rfl, ← k3]
  have c_early : tickP ⟨1, 1, 0, 2, TA, A, B⟩ E2 = (⟨1, 1, 0, 2, TA, A, B⟩, 0) := by
    unfold tickP
    rw [if_neg (by simp), if_pos (show E2 < TA by omega)]
  have c_tick : tickP ⟨1, 1, 0, 2, TA, A, B⟩ TA = (⟨2, 1, 0, 2, TB, A, B⟩, 1) := by
    unfold tickP
    rw [if_neg (by simp), if_neg (show ¬ TA < TA by omega), if_pos rfl, ← k4]
  have c_late : tickP ⟨2, 1, 0, 2, TB, A, B⟩ L2 = (⟨2, 1, 0, 2, TB, A, B⟩, 0) := by
    unfold tickP
    rw [if_neg (by simp), if_pos (show L2 < TB by omega)]
  have c_nack : nackP ⟨2, 1, 0, 2, TB, A, B⟩ 2 = (⟨2, 1, 1, 2, TB, A, B⟩, true) := by simp [nackP, nkP, wrap64]
  have c_fail : tickP ⟨2, 1, 1, 2, TB, A, B⟩ TB = (⟨0, 0, 0, 0, 0, A, B⟩, 2) := by
    unfold tickP
    rw [if_neg (by simp), if_neg (show ¬ TB < TB by omega), if_neg (by simp)]
    rfl
  replace c_new := Lib.hid c_new
  replace c_start := Lib.hid c_start
  replace c_again := Lib.hid c_again
  replace c_early := Lib.hid c_early
  replace c_tick := Lib.hid c_tick
  replace c_late := Lib.hid c_late
  replace c_nack := Lib.hid c_nack
  replace c_fail := Lib.hid c_fail
  clear hA hB hTA hTB hr1 hr2 hE1 hE2 hL1 hL2 hx1 hx2
  go_enter Try.func6, Try.ntmps6
  go_wp2_with fail
  refine E.mono ?_; rintro e w0 ⟨rfl, b0⟩
  have S : Hid (St w [] w0) := St.start w w0 b0
  clear E b0
  have K := new_l A B (p := ⟨0, 0, 0, 0, 0, A, B⟩) (e := 0) c_new.out S.out
  go_wp2_with fail
  refine K.mono ?_; rintro e w1 ⟨rfl, s⟩
  clear K S
  have S := Lib.hid s
  clear s
  have K := start_l ⟨0, 0, 0, 0, 0, A, B⟩ 1 2 T (q := ⟨1, 1, 0, 2, TA, A, B⟩) (e := 0) c_start.out (S.out.pbox ⟨0, 0, 0, 0, 0, A, B⟩)
  go_wp2_with fail
  refine K.mono ?_; rintro e w2 ⟨rfl, s⟩
  clear K S
  have S := Lib.hid s
  clear s
  have K := tick_l ⟨1, 1, 0, 2, TA, A, B⟩ E2 (q := ⟨1, 1, 0, 2, TA, A, B⟩) (e := 0) c_early.out (S.out.pbox ⟨1, 1, 0, 2, TA, A, B⟩)
  go_wp2_with fail
  refine K.mono ?_; rintro e w3 ⟨rfl, s⟩
  clear K S
  obtain ⟨c1_0, c1_1, c1_2, c1_3, c1_4, c1_5, c1_6⟩ := s.pc (b := w2.heap.size) (p := ⟨1, 1, 0, 2, TA, A, B⟩) (by simp)
  have l1 := s.pl (b := w2.heap.size) (p := ⟨1, 1, 0, 2, TA, A, B⟩) (by simp)
  have S := Lib.hid s
  clear s
  have K := tick_l ⟨1, 1, 0, 2, TA, A, B⟩ TA (q := ⟨2, 1, 0, 2, TB, A, B⟩) (e := 1) c_tick.out (S.out.pbox ⟨1, 1, 0, 2, TA, A, B⟩)
  go_wp2_with fail
  refine K.mono ?_; rintro e w4 ⟨rfl, s⟩
  clear K S c1_0 c1_1 c1_2 c1_3 c1_4 c1_5 c1_6 l1
  have S := Lib.hid s
  clear s
  have K := tick_l ⟨2, 1, 0, 2, TB, A, B⟩ L2 (q := ⟨2, 1, 0, 2, TB, A, B⟩) (e := 0) c_late.out (S.out.pbox ⟨2, 1, 0, 2, TB, A, B⟩)
  go_wp2_with fail
  refine K.mono ?_; rintro e w5 ⟨rfl, s⟩
  clear K S
  obtain ⟨c3_0, c3_1, c3_2, c3_3, c3_4, c3_5, c3_6⟩ := s.pc (b := w4.heap.size) (p := ⟨2, 1, 0, 2, TB, A, B⟩) (by simp)
  have l3 := s.pl (b := w4.heap.size) (p := ⟨2, 1, 0, 2, TB, A, B⟩) (by simp)
  have S := Lib.hid s
  clear s
  have K := nack_l ⟨2, 1, 0, 2, TB, A, B⟩ 2 (q := ⟨2, 1, 1, 2, TB, A, B⟩) (e := true) c_nack.out (S.out.pbox ⟨2, 1, 0, 2, TB, A, B⟩)
  go_wp2_with fail
  refine K.mono ?_; rintro e w6 ⟨rfl, s⟩
  clear K S c3_0 c3_1 c3_2 c3_3 c3_4 c3_5 c3_6 l3
  have S := Lib.hid s
  clear s
  have K := tick_l ⟨2, 1, 1, 2, TB, A, B⟩ TB (q := ⟨0, 0, 0, 0, 0, A, B⟩) (e := 2) c_fail.out (S.out.pbox ⟨2, 1, 1, 2, TB, A, B⟩)
  go_wp2_with fail
  refine K.mono ?_; rintro e w7 ⟨rfl, s⟩
  clear K S
  have S := Lib.hid s
  clear s
  have K := start_l ⟨0, 0, 0, 0, 0, A, B⟩ 9 3 T (q := ⟨1, 9, 0, 3, TA, A, B⟩) (e := 0) c_again.out (S.out.pbox ⟨0, 0, 0, 0, 0, A, B⟩)
  go_wp2_with fail
  refine K.mono ?_; rintro e w8 ⟨rfl, s⟩
  clear K S
  obtain ⟨c0_0, c0_1, c0_2, c0_3, c0_4, c0_5, c0_6⟩ := s.pc (b := w1.heap.size) (p := ⟨0, 0, 0, 0, 0, A, B⟩) (by simp)
  have l0 := s.pl (b := w1.heap.size) (p := ⟨0, 0, 0, 0, 0, A, B⟩) (by simp)
  obtain ⟨c1_0, c1_1, c1_2, c1_3, c1_4, c1_5, c1_6⟩ := s.pc (b := w2.heap.size) (p := ⟨1, 1, 0, 2, TA, A, B⟩) (by simp)
  have l1 := s.pl (b := w2.heap.size) (p := ⟨1, 1, 0, 2, TA, A, B⟩) (by simp)
  obtain ⟨c2_0, c2_1, c2_2, c2_3, c2_4, c2_5, c2_6⟩ := s.pc (b := w3.heap.size) (p := ⟨1, 1, 0, 2, TA, A, B⟩) (by simp)
  have l2 := s.pl (b := w3.heap.size) (p := ⟨1, 1, 0, 2, TA, A, B⟩) (by simp)
  obtain ⟨c3_0, c3_1, c3_2, c3_3, c3_4, c3_5, c3_6⟩ := s.pc (b := w4.heap.size) (p := ⟨2, 1, 0, 2, TB, A, B⟩) (by simp)
  have l3 := s.pl (b := w4.heap.size) (p := ⟨2, 1, 0, 2, TB, A, B⟩) (by simp)
  obtain ⟨c4_0, c4_1, c4_2, c4_3, c4_4, c4_5, c4_6⟩ := s.pc (b := w5.heap.size) (p := ⟨2, 1, 0, 2, TB, A, B⟩) (by simp)
  have l4 := s.pl (b := w5.heap.size) (p := ⟨2, 1, 0, 2, TB, A, B⟩) (by simp)
  obtain ⟨c6_0, c6_1, c6_2, c6_3, c6_4, c6_5, c6_6⟩ := s.pc (b := w7.heap.size) (p := ⟨0, 0, 0, 0, 0, A, B⟩) (by simp)
  have l6 := s.pl (b := w7.heap.size) (p := ⟨0, 0, 0, 0, 0, A, B⟩) (by simp)
  have S := Lib.hid s
  clear s
  have F := Lib.hid (S.out.pbox ⟨1, 9, 0, 3, TA, A, B⟩).below
  clear S
  go_upto_region 17 with fail
  try dsimp only [List.append]
  go_wp2
  go_ret
  exact ⟨rfl, F.out⟩
theorem stages_run (f s T y : Int) (w : World) (wf : (Lit.int .u16 f).wf = true) (ws : (Lit.int .u16 s).wf = true) (wt : (Lit.int .u32 T).wf = true) (wy : (Lit.int .u16 y).wf = true) :
    Calls Try.prog 6 #[.int .u16 f, .int .u16 s, .int .u32 T, .int .u16 y] w fun e w' => e = .returned (.bool true) ∧ Below w.heap.size w w' :=
  stages_walk f s T y (bounds_u16 wf) (bounds_u16 ws) (bounds_u32 wt) (bounds_u16 wy) w
theorem probeStages_own : ownKnob Try.prog.godebug = none := by kernel_rfl
theorem probeStages_laid : laidOutB Try.prog = true := by kernel_rfl
set_option maxRecDepth 100000 in
theorem probeStages_lifted (os : Os) (started : os.Started) (H : Type) (enc : TypeId × Value → H) :
    ReturnsInHanded {} Try.checked os 6 .any (Rows.probeStagesSpec.pre6 enc Try.prog Try.f6 Rows.probeStagesRow.domain false) (Rows.probeStagesSpec.post enc Try.prog Try.f6 false true false false) := by
  refine returnsInHanded_of_change (C := Try.checked) probeStages_own started (by kernel_rfl) Try.func6
    (ChangeSpec.witness6 (enc := enc) (C := Try.checked) false ⟨#[], #[.int .u16 0, .int .u16 0, .int .u32 0, .int .u16 0], []⟩ 8 (by kernel_rfl) (by kernel_rfl) (by kernel_rfl) (by kernel_rfl)) ?_
  intro W base args ds gs before hval0 hW hcnd _
  have hval : ∀ (j : Nat) t v, Try.f6.params[j]? = some t → args[j]? = some v → Value.okWide Try.prog W .any base t v := hval0
  have hW' := hW
  obtain ⟨p, q, hA0, hV, rfl, hfz, hnd⟩ := hW
  have hA : DataW.TrodAll enc Try.prog W 0 (fun _ => true) true Try.f6.params.toList args.toList ds p := hA0
  rw [Try.params6] at hA hval
  obtain ⟨v0, vs0, d0, ds0, p0, q0, hargs, rfl, rfl, h0, r0⟩ := trodAll_cons hA
  obtain ⟨v1, vs1, d1, ds1, p1, q1, rfl, rfl, rfl, h1, r1⟩ := trodAll_cons r0
  obtain ⟨v2, vs2, d2, ds2, p2, q2, rfl, rfl, rfl, h2, r2⟩ := trodAll_cons r1
  obtain ⟨v3, vs3, d3, ds3, p3, q3, rfl, rfl, rfl, h3, r3⟩ := trodAll_cons r2
  obtain ⟨rfl, rfl, rfl⟩ := trodAll_nil r3
  obtain rfl : args = #[v0, v1, v2, v3] := by cases args; simp_all
  obtain ⟨rfl, rfl⟩ := trodVars_none hV
  obtain ⟨a0, rfl, rfl, rfl, w0⟩ := open_int Try.underlying38 (hval 0 38 v0 rfl rfl) h0
  obtain ⟨a1, rfl, rfl, rfl, w1⟩ := open_int Try.underlying38 (hval 1 38 v1 rfl rfl) h1
  obtain ⟨a2, rfl, rfl, rfl, w2⟩ := open_int Try.underlying24 (hval 2 24 v2 rfl rfl) h2
  obtain ⟨a3, rfl, rfl, rfl, w3⟩ := open_int Try.underlying38 (hval 3 38 v3 rfl rfl) h3
  clear hA0 hval0
  refine (stages_run a0 a1 a2 a3 W w0 w1 w2 w3).mono fun e W' ⟨he, bel⟩ => ?_
  subst he
  exact ⟨_, rfl, _, _, _, [], _, [], hW', trodAll_mk1 (shut_bool Try.underlying4 _), (trodAll_cons_mk (shut_int Try.underlying38 w0) (trodAll_cons_mk (shut_int Try.underlying38 w1) (trodAll_cons_mk (shut_int Try.underlying24 w2) (trodAll_cons_mk (shut_int Try.underlying38 w3) trodAll_mk0)))), rfl, bel.frame _, fun h => by cases h⟩
theorem probeStages_over : Rows.probeStagesRow.holds Try.pinned (OpenSpec.ofChange Rows.probeStagesSpec) :=
  OpenClaim.holds_of_wide 6 Try.f6 rfl rfl rfl rfl rfl rfl rfl ⟨rfl, rfl, rfl, rfl, rfl⟩ rfl rfl rfl rfl rfl (by kernel_rfl) Try.func6 (by kernel_rfl)
    (of_decide_eq_true (by kernel_rfl)) (by unfold Func.isWrapper; first | (rw [if_pos (by decide +kernel)]; kernel_rfl) | (rw [if_neg (by decide +kernel)]; exact ⟨rfl, rfl⟩))
    (fun os started H enc _ => probeStages_lifted os started H enc)
theorem probeStages_holds : Rows.ProbeStagesSaid := probeStages_over
#print axioms probeStages_holds
end Go.Proofs.Ytdbfghpmbanfpaa
