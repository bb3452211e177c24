/- DoubtLonger: who confirms makes it shorter by its part: with one half is left, with two a third, rounded up: for every time that it holds. -/
import Derived.Test.YtplllaafllcigaaDbOne
import Derived.Deep.DeepCutAuto
import Derived.ChangeOld
import Derived.ChangeMaps5
import Derived.ShutString
import Derived.OpenShut
import Derived.SizedLaws
namespace Go.Proofs.Ytplllaafllcigaa
open Go.Sort Go.RowKit Go.BigFrame Go.ChangeShapes Go.WideShapes Go.Deep
set_option linter.unusedVariables false
set_option linter.unusedSimpArgs false

set_option maxHeartbeats 3200000 in
set_option maxRecDepth 100000 in
theorem longer_walk (y : Int) (hy : 0 ≤ y ∧ y ≤ 65535) (w : World) :
    Calls Try.prog 8 #[.int .u16 y] w fun e w' => e = .returned (.bool true) ∧ Below w.heap.size w w' := by
  have E := ex_any w
  have v1 := IntWalk.u64_in y ⟨by omega, by omega⟩
  obtain ⟨h, hh⟩ : ∃ h, 1 + y = h := ⟨_, rfl⟩
  have k1 : IntKind.u64.wrap (1 + y) = h := by rw [hh]; exact IntWalk.u64_in h ⟨by omega, by omega⟩
  have b0 : 1 ≤ h ∧ h ≤ 65536 := by omega
  obtain ⟨B, hB⟩ : ∃ B, (h + 1) / 2 = B := ⟨_, rfl⟩
  obtain ⟨C, hC⟩ : ∃ C, (h + 2) / 3 = C := ⟨_, rfl⟩
  have k2 : IntKind.u64.wrap (h + 1) = h + 1 := IntWalk.u64_in _ ⟨by omega, by omega⟩
  have k3 : IntKind.u64.wrap (h + 2) = h + 2 := IntWalk.u64_in _ ⟨by omega, by omega⟩
  have k4 : IntKind.u64.wrap (100 + h) = 100 + h := IntWalk.u64_in _ ⟨by omega, by omega⟩
  have k5 : IntKind.u64.wrap (100 + B) = 100 + B := IntWalk.u64_in _ ⟨by omega, by omega⟩
  have k6 : IntKind.u64.wrap (100 + C) = 100 + C := IntWalk.u64_in _ ⟨by omega, by omega⟩
  have k7 : IntKind.u64.wrap B = B := IntWalk.u64_in _ ⟨by omega, by omega⟩
  have k8 : IntKind.u64.wrap C = C := IntWalk.u64_in _ ⟨by omega, by omega⟩
  have t1 : (h + 1).tdiv 2 = B := by rw [Int.tdiv_eq_ediv_of_nonneg (by omega)]; exact hB
  have t2 : (h + 2).tdiv 3 = C := by rw [Int.tdiv_eq_ediv_of_nonneg (by omega)]; exact hC
  have g1 : decide (100 + B ≤ 100 + h) = true := decide_eq_true (by omega)
  have g2 : decide (100 + C ≤ 100 + B) = true := decide_eq_true (by omega)
  have g3 : decide (100 < 100 + C) = true := decide_eq_true (by omega)
  have bB : B ≤ h := by omega
  have bC : C ≤ B := by omega
  have bC0 : 0 < C := by omega
  have F1 := Lib.hid (begin_one (n := 9) (inc := 0) (now := 100) (hold := h) (by decide) (by decide) (by decide) b0.1 (by omega))
  have F2 := Lib.hid (until_one (n := 9) (x := ⟨9, 0, 100, h, []⟩) (by decide) (by decide) b0.1)
  have F3 := Lib.hid (conf_one (n := 9) (x := ⟨9, 0, 100, h, []⟩) (who := 1) (by decide) (by decide) b0.1 (by decide) (by decide) (by simp))
  have F4 := Lib.hid (until_one (n := 9) (x := ⟨9, 0, 100, h, [1]⟩) (by decide) (by decide) b0.1)
  have F5 := Lib.hid (conf_one (n := 9) (x := ⟨9, 0, 100, h, [1]⟩) (who := 2) (by decide) (by decide) b0.1 (by decide) (by decide) (by simp))
  have F6 := Lib.hid (until_one (n := 9) (x := ⟨9, 0, 100, h, [1, 2]⟩) (by decide) (by decide) b0.1)
  have U1 : Hid (untilI ⟨9, 0, 100, h, []⟩ = 100 + h) := by show _ = _; simp [untilI]
  have U2 : Hid (untilI ⟨9, 0, 100, h, [1]⟩ = 100 + B) := by show _ = _; simp [untilI]; omega
  have U3 : Hid (untilI ⟨9, 0, 100, h, [1, 2]⟩ = 100 + C) := by show _ = _; simp [untilI]; omega
  clear hh hB hC
  go_enter Try.func8, Try.ntmps8
  go_wp2_with fail
  refine E.mono ?_; rintro e w0 ⟨rfl, b0'⟩
  have K := new_l (St.start w w0 b0')
  clear E b0'
  go_wp2_with fail
  refine K.mono ?_; rintro e w1 ⟨g, rfl, s⟩
  clear K
  have K := begin_l 9 0 100 h (by decide) (by omega) F1.out.1 F1.out.2 [] [] s
  clear s
  go_wp2_with fail
  refine K.mono ?_; rintro e w2 ⟨rfl, V2, s⟩
  clear K
  have K := until_l 9 (F2.out.1.trans U1.out) F2.out.2 s (g := g) (V := V2) (by simp)
  clear s
  go_wp2_with fail
  refine K.mono ?_; rintro e w3 ⟨rfl, s⟩
  clear K
  have K := conf_l 9 0 1 F3.out.1 F3.out.2 [] [] s
  clear s
  go_wp2_with fail
  refine K.mono ?_; rintro e w4 ⟨rfl, V4, s⟩
  clear K
  have K := until_l 9 (F4.out.1.trans U2.out) F4.out.2 s (g := g) (V := V4) (by exact List.mem_cons_self)
  clear s
  go_wp2_with fail
  refine K.mono ?_; rintro e w5 ⟨rfl, s⟩
  clear K
  have K := conf_l 9 0 2 F5.out.1 F5.out.2 [] [] s
  clear s
  go_wp2_with fail
  refine K.mono ?_; rintro e w6 ⟨rfl, V6, s⟩
  clear K
  have K := until_l 9 (F6.out.1.trans U3.out) F6.out.2 s (g := g) (V := V6) (by exact List.mem_cons_self)
  clear s
  go_wp2_with fail
  refine K.mono ?_; rintro e w7 ⟨rfl, s⟩
  have F := Lib.hid s.below
  clear K s
  go_wp2
  go_ret
  exact ⟨rfl, F.out⟩
theorem longer_run (y : Int) (w : World) (wy : (Lit.int .u16 y).wf = true) :
    Calls Try.prog 8 #[.int .u16 y] w fun e w' => e = .returned (.bool true) ∧ Below w.heap.size w w' :=
  longer_walk y (bounds_u16 wy) w
theorem doubtLonger_own : ownKnob Try.prog.godebug = none := by kernel_rfl
theorem doubtLonger_laid : laidOutB Try.prog = true := by kernel_rfl
set_option maxRecDepth 100000 in
theorem doubtLonger_lifted (os : Os) (started : os.Started) (H : Type) (enc : TypeId × Value → H) :
    ReturnsInHanded {} Try.checked os 8 .any (Rows.doubtLongerSpec.pre6 enc Try.prog Try.f8 Rows.doubtLongerRow.domain false) (Rows.doubtLongerSpec.post enc Try.prog Try.f8 false true false false) := by
  refine returnsInHanded_of_change (C := Try.checked) doubtLonger_own started (by kernel_rfl) Try.func8
    (ChangeSpec.witness6 (enc := enc) (C := Try.checked) false ⟨#[], #[.int .u16 0], []⟩ 8 (by kernel_rfl) (by kernel_rfl) (by kernel_rfl) (by kernel_rfl)) ?_
  intro W base args ds gs before hval0 hW hcnd _
  have hval : ∀ (j : Nat) t v, Try.f8.params[j]? = some t → args[j]? = some v → Value.okWide Try.prog W .any base t v := hval0
  have hW' := hW
  obtain ⟨p, q, hA0, hV, rfl, hfz, hnd⟩ := hW
  have hA : DataW.TrodAll enc Try.prog W 0 (fun _ => true) true Try.f8.params.toList args.toList ds p := hA0
  rw [Try.params8] at hA hval
  obtain ⟨v0, vs0, d0, ds0, p0, q0, hargs, rfl, rfl, h0, r0⟩ := trodAll_cons hA
  obtain ⟨rfl, rfl, rfl⟩ := trodAll_nil r0
  obtain rfl : args = #[v0] := by cases args; simp_all
  obtain ⟨rfl, rfl⟩ := trodVars_none hV
  obtain ⟨a0, rfl, rfl, rfl, w0⟩ := open_int Try.underlying49 (hval 0 49 v0 rfl rfl) h0
  clear hA0 hval0
  refine (longer_run a0 W w0).mono fun e W' ⟨he, bel⟩ => ?_
  subst he
  exact ⟨_, rfl, _, _, _, [], _, [], hW', trodAll_mk1 (shut_bool Try.underlying4 _), (trodAll_cons_mk (shut_int Try.underlying49 w0) trodAll_mk0), rfl, bel.frame _, fun h => by cases h⟩
theorem doubtLonger_over : Rows.doubtLongerRow.holds Try.pinned (OpenSpec.ofChange Rows.doubtLongerSpec) :=
  OpenClaim.holds_of_wide 8 Try.f8 rfl rfl rfl rfl rfl rfl rfl ⟨rfl, rfl, rfl, rfl, rfl⟩ rfl rfl rfl rfl rfl (by kernel_rfl) Try.func8 (by kernel_rfl)
    (of_decide_eq_true (by kernel_rfl)) (by unfold Func.isWrapper; first | (rw [if_pos (by decide +kernel)]; kernel_rfl) | (rw [if_neg (by decide +kernel)]; exact ⟨rfl, rfl⟩))
    (fun os started H enc _ => doubtLonger_lifted os started H enc)
theorem doubtLonger_holds : Rows.DoubtLongerSaid := doubtLonger_over
#print axioms doubtLonger_holds
end Go.Proofs.Ytplllaafllcigaa
