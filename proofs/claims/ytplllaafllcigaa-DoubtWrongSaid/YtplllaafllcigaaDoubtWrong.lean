/- DoubtWrong: who is none is not suspected; who confirms nobody, or itself, or twice, is told so, and nothing turns: for all numbers and times. -/
import Derived.Test.YtplllaafllcigaaDbOne
import Derived.Deep.DeepCutAuto
import Derived.ChangeOld
import Derived.ChangeMaps5
import Derived.ShutString
import Derived.OpenShut
import Derived.SizedLaws
namespace Go.Proofs.Ytplllaafllcigaa
open Go.Sort Go.RowKit Go.BigFrame Go.ChangeShapes Go.WideShapes Go.Deep
set_option linter.unusedVariables false
set_option linter.unusedSimpArgs false

structure WF (i who now hold : Int) (mb wb : Bool) (E F G U : Int) (k1 k2 : Nat → It) : Prop where
  e : beginE newD i 1 now hold = E
  b1 : beginD newD i 1 now hold = k1
  f : confE k1 i 1 who = F
  b2 : confD k1 i 1 who = k2
  g : confE k2 i 1 who = G
  b3 : confD k2 i 1 who = k2
  u : untilV k2 i = U
  ok : suspI k2 i = mb
  ne : E = if mb = true then 0 else 1
  nf : F = if wb = true then 1 else if mb = true then 0 else 5
  ng : G = if wb = true then 1 else if mb = true then 6 else 5
theorem wf_ex (i who now hold : Int) (hh : 0 ≤ hold) : ∃ E F G U k1 k2, WF i who now hold (!argB i now hold) (!nodeI who || (who == i)) E F G U k1 k2 := by
  cases ha : argB i now hold with
  | true =>
    have e1 := beginE_arg (k := newD) (inc := 1) ha
    have d1 : beginD newD i 1 now hold = newD := beginD_no (by rw [e1]; decide)
    have hu : suspI newD i = false := suspI_new i
    have hU : untilV newD i = 0 := by unfold untilV; rw [hu]; rfl
    cases hw : (!nodeI who || (who == i)) with
    | true =>
      have hc : nodeI who = false ∨ who = i := by
        simp only [Bool.or_eq_true, Bool.not_eq_true', beq_iff_eq] at hw; exact hw
      have f1 := conf_arg (k := newD) (inc := 1) hc
      have d2 : confD newD i 1 who = newD := confD_no (by rw [f1]; decide)
      exact ⟨1, 1, 1, 0, newD, newD, e1, d1, f1, d2, f1, d2, hU, hu, rfl, rfl, rfl⟩
    | false =>
      have hc : nodeI who = true ∧ who ≠ i := by
        simp only [Bool.or_eq_false_iff, Bool.not_eq_false', beq_eq_false_iff_ne] at hw; exact hw
      have f1 := conf_none (k := newD) (inc := 1) hc.1 hc.2 (.inl hu)
      have d2 : confD newD i 1 who = newD := confD_no (by rw [f1]; decide)
      exact ⟨1, 5, 5, 0, newD, newD, e1, d1, f1, d2, f1, d2, hU, hu, rfl, rfl, rfl⟩
  | false =>
    obtain ⟨h1, h2, h3, h4, h5⟩ := begin_arg ha
    obtain ⟨n, rfl⟩ : ∃ n : Nat, i = n := ⟨i.toNat, by omega⟩
    have hn1 : 1 ≤ n := by omega
    have hn2 : n ≤ 32 := by omega
    have h4' : 1 ≤ hold := by omega
    obtain ⟨e1, d1⟩ := begin_one (inc := 1) hn1 hn2 h3 h4' h5
    cases hw : (!nodeI who || (who == (n : Int))) with
    | true =>
      have hc : nodeI who = false ∨ who = n := by
        simp only [Bool.or_eq_true, Bool.not_eq_true', beq_iff_eq] at hw; exact hw
      obtain ⟨f1, d2⟩ := conf_one_arg (x := ⟨n, 1, now, hold, []⟩) (inc := 1) hc
      obtain ⟨hU, hu⟩ := until_one (x := ⟨n, 1, now, hold, []⟩) hn1 hn2 h4'
      exact ⟨0, 1, 1, _, _, _, e1, d1, f1, d2, f1, d2, hU, hu, rfl, rfl, rfl⟩
    | false =>
      have hc : nodeI who = true ∧ who ≠ n := by
        simp only [Bool.or_eq_false_iff, Bool.not_eq_false', beq_eq_false_iff_ne] at hw; exact hw
      obtain ⟨f1, d2⟩ := conf_one (x := ⟨n, 1, now, hold, []⟩) hn1 hn2 h4' hc.1 hc.2 (by simp)
      obtain ⟨f2, d3⟩ := conf_one_old (x := ⟨n, 1, now, hold, [who]⟩) hn1 hn2 h4' hc.1 hc.2 (by simp)
      obtain ⟨hU, hu⟩ := until_one (x := ⟨n, 1, now, hold, [who]⟩) hn1 hn2 h4'
      exact ⟨0, 0, 6, _, _, _, e1, d1, f1, d2, f2, d3, hU, hu, rfl, rfl, rfl⟩
set_option maxHeartbeats 6400000 in
set_option maxRecDepth 100000 in
theorem wrong_walk (i who now hold : Int) (hn : 0 ≤ now) (hh : 0 ≤ hold) (w : World) :
    Calls Try.prog 7 #[.int .i64 i, .int .i64 who, .int .u64 now, .int .u64 hold] w fun e w' => e = .returned (.bool true) ∧ Below w.heap.size w w' := by
  have EX := ex_any w
  obtain ⟨E, F, G, U, k1, k2, hf⟩ := wf_ex i who now hold hh
  have HF := Lib.hid hf
  clear hf
  obtain ⟨mb, hmb⟩ : ∃ mb, (!argB i now hold) = mb := ⟨_, rfl⟩
  obtain ⟨wb, hwb⟩ : ∃ wb, (!nodeI who || (who == i)) = wb := ⟨_, rfl⟩
  rw [hmb, hwb] at HF
  have HM := Lib.hid hmb
  have HW := Lib.hid hwb
  clear hmb hwb
  go_enter Try.func7, Try.ntmps7
  go_wp2_with fail
  refine EX.mono ?_; rintro e w0 ⟨rfl, b0'⟩
  have K := new_l (St.start w w0 b0')
  clear EX b0'
  go_wp2_with fail
  refine K.mono ?_; rintro e w1 ⟨g, rfl, s⟩
  have S := Lib.hid s
  clear K s
  go_upto_region 7 with fail
  go_cut [11] (fun c wx => c = .bool mb ∧ w1 = wx)
  case first =>
    by_cases c1 : 1 ≤ i
    · have d1 : decide (1 ≤ i) = true := decide_eq_true c1
      by_cases c2 : i ≤ 32
      · have d2 : decide (i ≤ 32) = true := decide_eq_true c2
        by_cases c3 : now ≤ 4611686018427387904
        · have d3 : decide (now ≤ 4611686018427387904) = true := decide_eq_true c3
          by_cases c4 : 1 ≤ hold
          · have d4 : decide (1 ≤ hold) = true := decide_eq_true c4
            by_cases c5 : hold ≤ 1000000
            · have d5 : decide (hold ≤ 1000000) = true := decide_eq_true c5
              have e1 : mb = true := by rw [← HM.out, argB_ok c1 c2 c3 c4 c5]; rfl
              subst e1
              clear c1 c2 c3 c4 c5 HM
              go_wp2_with fail
              go_meet
              exact ⟨rfl, rfl⟩
            · have d5 : decide (hold ≤ 1000000) = false := decide_eq_false c5
              have e1 : mb = false := by
                cases h : argB i now hold with
                | true => rw [← HM.out, h]; rfl
                | false => exact absurd (begin_arg h).2.2.2.2 c5
              subst e1
              clear c1 c2 c3 c4 c5 HM
              go_wp2_with fail
              go_meet
              exact ⟨rfl, rfl⟩
          · have d4 : decide (1 ≤ hold) = false := decide_eq_false c4
            have e1 : mb = false := by
              cases h : argB i now hold with
              | true => rw [← HM.out, h]; rfl
              | false => have := (begin_arg h).2.2.2.1; omega
            subst e1
            clear c1 c2 c3 c4 HM
            go_wp2_with fail
            go_meet
            exact ⟨rfl, rfl⟩
        · have d3 : decide (now ≤ 4611686018427387904) = false := decide_eq_false c3
          have e1 : mb = false := by
            cases h : argB i now hold with
            | true => rw [← HM.out, h]; rfl
            | false => exact absurd (begin_arg h).2.2.1 c3
          subst e1
          clear c1 c2 c3 HM
          go_wp2_with fail
          go_meet
          exact ⟨rfl, rfl⟩
      · have d2 : decide (i ≤ 32) = false := decide_eq_false c2
        have e1 : mb = false := by
          cases h : argB i now hold with
          | true => rw [← HM.out, h]; rfl
          | false => exact absurd (begin_arg h).2.1 c2
        subst e1
        clear c1 c2 HM
        go_wp2_with fail
        go_meet
        exact ⟨rfl, rfl⟩
    · have d1 : decide (1 ≤ i) = false := decide_eq_false c1
      have e1 : mb = false := by
        cases h : argB i now hold with
        | true => rw [← HM.out, h]; rfl
        | false => exact absurd (begin_arg h).1 c1
      subst e1
      clear c1 HM
      go_wp2_with fail
      go_meet
      exact ⟨rfl, rfl⟩
  case rest =>
    obtain ⟨rfl, rfl⟩ := hcut
    clear HM
    have K := begin_l i 1 now hold hn hh HF.out.e HF.out.b1 [] [] S.out
    clear S
    go_wp2_with fail
    refine K.mono ?_; rintro e w2 ⟨rfl, V2, s⟩
    clear K
    have K := conf_l i 1 who HF.out.f HF.out.b2 [] [] s
    clear s
    go_wp2_with fail
    refine K.mono ?_; rintro e w3 ⟨rfl, V3, s⟩
    clear K
    have K := conf_l i 1 who HF.out.g HF.out.b3 [] [] s
    clear s
    go_wp2_with fail
    refine K.mono ?_; rintro e w4 ⟨rfl, V4, s⟩
    clear K
    have K := until_l i HF.out.u HF.out.ok s (g := g) (V := V4) (by exact List.mem_cons_self)
    clear s
    go_wp2_with fail
    refine K.mono ?_; rintro e w5 ⟨rfl, s⟩
    have FB := Lib.hid s.below
    clear K s
    go_upto_region 14 with fail
    go_cut [72] (fun c wx => c = .bool wb ∧ w5 = wx)
    case first =>
      by_cases c1 : who < 1
      · have d1 : decide (who < 1) = true := decide_eq_true c1
        have e1 : wb = true := by rw [← HW.out, nodeI_no (.inl c1)]; rfl
        subst e1
        clear c1 HW HF
        go_wp2_with fail
        go_meet
        exact ⟨rfl, rfl⟩
      · have d1 : decide (who < 1) = false := decide_eq_false c1
        by_cases c2 : 32 < who
        · have d2 : decide (32 < who) = true := decide_eq_true c2
          have e1 : wb = true := by rw [← HW.out, nodeI_no (.inr c2)]; rfl
          subst e1
          clear c1 c2 HW HF
          go_wp2_with fail
          go_meet
          exact ⟨rfl, rfl⟩
        · have d2 : decide (32 < who) = false := decide_eq_false c2
          have e1 : wb = (who == i) := by rw [← HW.out, nodeI_iff.2 ⟨by omega, by omega⟩]; rfl
          subst e1
          clear c1 c2 HW HF
          go_wp2_with fail
          go_meet
          exact ⟨rfl, rfl⟩
    case rest =>
      obtain ⟨rfl, rfl⟩ := hcut
      obtain ⟨_, _, _, _, _, _, _, _, n1, n2, n3⟩ := HF.out
      clear HF HW
      cases mb
      · cases wb
        · simp only [Bool.false_eq_true, if_false] at n1 n2 n3
          subst n1 n2 n3
          go_wp2
          go_ret
          exact ⟨rfl, FB.out⟩
        · simp only [Bool.false_eq_true, if_false, if_true] at n1 n2 n3
          subst n1 n2 n3
          go_wp2
          go_ret
          exact ⟨rfl, FB.out⟩
      · cases wb
        · simp only [Bool.false_eq_true, if_false, if_true] at n1 n2 n3
          subst n1 n2 n3
          go_wp2
          go_ret
          exact ⟨rfl, FB.out⟩
        · simp only [if_true] at n1 n2 n3
          subst n1 n2 n3
          go_wp2
          go_ret
          exact ⟨rfl, FB.out⟩
theorem wrong_run (i who now hold : Int) (w : World) (wi : (Lit.int .i64 i).wf = true) (ww : (Lit.int .i64 who).wf = true) (wn : (Lit.int .u64 now).wf = true) (wh : (Lit.int .u64 hold).wf = true) :
    Calls Try.prog 7 #[.int .i64 i, .int .i64 who, .int .u64 now, .int .u64 hold] w fun e w' => e = .returned (.bool true) ∧ Below w.heap.size w w' :=
  wrong_walk i who now hold (bounds_u64 wn).1 (bounds_u64 wh).1 w
theorem doubtWrong_own : ownKnob Try.prog.godebug = none := by kernel_rfl
theorem doubtWrong_laid : laidOutB Try.prog = true := by kernel_rfl
set_option maxRecDepth 100000 in
theorem doubtWrong_lifted (os : Os) (started : os.Started) (H : Type) (enc : TypeId × Value → H) :
    ReturnsInHanded {} Try.checked os 7 .any (Rows.doubtWrongSpec.pre6 enc Try.prog Try.f7 Rows.doubtWrongRow.domain false) (Rows.doubtWrongSpec.post enc Try.prog Try.f7 false true false false) := by
  refine returnsInHanded_of_change (C := Try.checked) doubtWrong_own started (by kernel_rfl) Try.func7
    (ChangeSpec.witness6 (enc := enc) (C := Try.checked) false ⟨#[], #[.int .i64 0, .int .i64 0, .int .u64 0, .int .u64 0], []⟩ 8 (by kernel_rfl) (by kernel_rfl) (by kernel_rfl) (by kernel_rfl)) ?_
  intro W base args ds gs before hval0 hW hcnd _
  have hval : ∀ (j : Nat) t v, Try.f7.params[j]? = some t → args[j]? = some v → Value.okWide Try.prog W .any base t v := hval0
  have hW' := hW
  obtain ⟨p, q, hA0, hV, rfl, hfz, hnd⟩ := hW
  have hA : DataW.TrodAll enc Try.prog W 0 (fun _ => true) true Try.f7.params.toList args.toList ds p := hA0
  rw [Try.params7] at hA hval
  obtain ⟨v0, vs0, d0, ds0, p0, q0, hargs, rfl, rfl, h0, r0⟩ := trodAll_cons hA
  obtain ⟨v1, vs1, d1, ds1, p1, q1, rfl, rfl, rfl, h1, r1⟩ := trodAll_cons r0
  obtain ⟨v2, vs2, d2, ds2, p2, q2, rfl, rfl, rfl, h2, r2⟩ := trodAll_cons r1
  obtain ⟨v3, vs3, d3, ds3, p3, q3, rfl, rfl, rfl, h3, r3⟩ := trodAll_cons r2
  obtain ⟨rfl, rfl, rfl⟩ := trodAll_nil r3
  obtain rfl : args = #[v0, v1, v2, v3] := by cases args; simp_all
  obtain ⟨rfl, rfl⟩ := trodVars_none hV
  obtain ⟨a0, rfl, rfl, rfl, w0⟩ := open_int Try.underlying3 (hval 0 3 v0 rfl rfl) h0
  obtain ⟨a1, rfl, rfl, rfl, w1⟩ := open_int Try.underlying3 (hval 1 3 v1 rfl rfl) h1
  obtain ⟨a2, rfl, rfl, rfl, w2⟩ := open_int Try.underlying31 (hval 2 31 v2 rfl rfl) h2
  obtain ⟨a3, rfl, rfl, rfl, w3⟩ := open_int Try.underlying31 (hval 3 31 v3 rfl rfl) h3
  clear hA0 hval0
  refine (wrong_run a0 a1 a2 a3 W w0 w1 w2 w3).mono fun e W' ⟨he, bel⟩ => ?_
  subst he
  exact ⟨_, rfl, _, _, _, [], _, [], hW', trodAll_mk1 (shut_bool Try.underlying4 _), (trodAll_cons_mk (shut_int Try.underlying3 w0) (trodAll_cons_mk (shut_int Try.underlying3 w1) (trodAll_cons_mk (shut_int Try.underlying31 w2) (trodAll_cons_mk (shut_int Try.underlying31 w3) trodAll_mk0)))), rfl, bel.frame _, fun h => by cases h⟩
theorem doubtWrong_over : Rows.doubtWrongRow.holds Try.pinned (OpenSpec.ofChange Rows.doubtWrongSpec) :=
  OpenClaim.holds_of_wide 7 Try.f7 rfl rfl rfl rfl rfl rfl rfl ⟨rfl, rfl, rfl, rfl, rfl⟩ rfl rfl rfl rfl rfl (by kernel_rfl) Try.func7 (by kernel_rfl)
    (of_decide_eq_true (by kernel_rfl)) (by unfold Func.isWrapper; first | (rw [if_pos (by decide +kernel)]; kernel_rfl) | (rw [if_neg (by decide +kernel)]; exact ⟨rfl, rfl⟩))
    (fun os started H enc _ => doubtWrong_lifted os started H enc)
theorem doubtWrong_holds : Rows.DoubtWrongSaid := doubtWrong_over
#print axioms doubtWrong_holds
end Go.Proofs.Ytplllaafllcigaa
