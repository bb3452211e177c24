/- WheelBounds: a kind, or an id, out of its bounds is refused, and nothing is set: for every kind, id and time. -/
import Derived.Test.YtmnakbpjbgjnmaaWhEx
import Derived.ChangeOld
import Derived.ChangeMaps5
import Derived.ShutString
import Derived.OpenShut
import Derived.SizedLaws
namespace Go.Proofs.Ytmnakbpjbgjnmaa
open Go.Sort Go.RowKit Go.BigFrame Go.ChangeShapes Go.WideShapes Go.ChangeAt
open Go.ChangeMaps (open_string shut_string)
set_option linter.unusedVariables false
set_option linter.unusedSimpArgs false

theorem one_find (k i t : Int) : findT k i [⟨k, i, t⟩] = 0 := by unfold findT; rw [List.findIdx_cons]; simp [isT]
theorem one_has (k i t : Int) : hasT k i [⟨k, i, t⟩] = true := by unfold hasT; rw [one_find]; rfl
theorem one_at (k i t : Int) : atT k i [⟨k, i, t⟩] = t := by unfold atT; rw [one_find]; rfl
theorem one_stop (k i t : Int) : stopL k i [⟨k, i, t⟩] = [] := by unfold stopL; rw [one_find]; rfl
theorem nil_set {k i t : Int} (h : badT k i = false) : setE k i [] = 0 ∧ setL k i t [] = [⟨k, i, t⟩] := set_good h (by simp)
def BoundsPost (w : World) (e : Ending) (w' : World) : Prop := e = .returned (.bool true) ∧ Below w.heap.size w w'
set_option maxHeartbeats 6400000 in
theorem bounds_walk (k i t : Int) (w : World) (hk : (Lit.int .i64 k).wf = true) (hi : (Lit.int .i64 i).wf = true) (ht : (Lit.int .u64 t).wf = true) :
    Calls Try.prog 7 #[.int .i64 k, .int .i64 i, .int .u64 t] w (BoundsPost w) := by
  have K0 := ex_any w
  obtain ⟨t0, t1⟩ := bounds_u64 ht
  clear hk hi ht
  by_cases z0 : k < 0
  · have q0 : decide (k < 0) = true := decide_eq_true z0
    have p0 : decide (0 ≤ k) = false := decide_eq_false (by omega)
    have hb : badT k i = true := by unfold badT; simp only [q0, Bool.or_true, Bool.true_or]
    go_enter Try.func7, Try.ntmps7
    go_wp2_with fail
    refine K0.mono ?_; rintro e w1 ⟨rfl, b1⟩
    have K := new_s w w1 b1
    clear K0 b1
    go_wp2_with fail
    refine K.mono ?_; rintro e w2 ⟨g, rfl, h2⟩
    clear K
    have K := set_s h2 k i t t0 t1
    rw [(set_bad (t := t) (L := []) hb).1, (set_bad (t := t) (L := []) hb).2] at K
    clear h2
    go_wp2_with fail
    refine K.mono ?_; rintro e w3 ⟨rfl, h3⟩
    clear K
    have K := at_s h3 k i
    rw [show atT k i [] = 0 from rfl, show hasT k i [] = false from rfl] at K
    clear h3
    go_wp2_with fail
    refine K.mono ?_; rintro e w4 ⟨rfl, h4⟩
    clear K
    have K := len_s h4
    have KS := stop_s h4 k i
    rw [show hasT k i [] = false from rfl, show stopL k i [] = [] from rfl] at KS
    clear h4
    simp only [List.length_cons, List.length_nil] at K
    go_wp2_with fail
    refine K.mono ?_; rintro e w5 ⟨rfl, rfl⟩
    clear K
    go_wp2_with fail
    refine KS.mono ?_; rintro e w6 ⟨rfl, h6⟩
    have K := len_s h6
    have HB := Lib.hid h6.below
    clear KS h6
    simp only [List.length_nil] at K
    go_wp2_with fail
    refine K.mono ?_; rintro e w7 ⟨rfl, rfl⟩
    clear K
    go_wp2
    go_ret
    exact ⟨rfl, HB.out⟩
  · have q0 : decide (k < 0) = false := decide_eq_false z0
    have p0 : decide (0 ≤ k) = true := decide_eq_true (by omega)
    by_cases z1 : 15 < k
    · have q1 : decide (15 < k) = true := decide_eq_true z1
      have p1 : decide (k ≤ 15) = false := decide_eq_false (by omega)
      have hb : badT k i = true := by unfold badT; simp only [q0, q1, Bool.or_true, Bool.true_or]
      go_enter Try.func7, Try.ntmps7
      go_wp2_with fail
      refine K0.mono ?_; rintro e w1 ⟨rfl, b1⟩
      have K := new_s w w1 b1
      clear K0 b1
      go_wp2_with fail
      refine K.mono ?_; rintro e w2 ⟨g, rfl, h2⟩
      clear K
      have K := set_s h2 k i t t0 t1
      rw [(set_bad (t := t) (L := []) hb).1, (set_bad (t := t) (L := []) hb).2] at K
      clear h2
      go_wp2_with fail
      refine K.mono ?_; rintro e w3 ⟨rfl, h3⟩
      clear K
      have K := at_s h3 k i
      rw [show atT k i [] = 0 from rfl, show hasT k i [] = false from rfl] at K
      clear h3
      go_wp2_with fail
      refine K.mono ?_; rintro e w4 ⟨rfl, h4⟩
      clear K
      have K := len_s h4
      have KS := stop_s h4 k i
      rw [show hasT k i [] = false from rfl, show stopL k i [] = [] from rfl] at KS
      clear h4
      simp only [List.length_cons, List.length_nil] at K
      go_wp2_with fail
      refine K.mono ?_; rintro e w5 ⟨rfl, rfl⟩
      clear K
      go_wp2_with fail
      refine KS.mono ?_; rintro e w6 ⟨rfl, h6⟩
      have K := len_s h6
      have HB := Lib.hid h6.below
      clear KS h6
      simp only [List.length_nil] at K
      go_wp2_with fail
      refine K.mono ?_; rintro e w7 ⟨rfl, rfl⟩
      clear K
      go_wp2
      go_ret
      exact ⟨rfl, HB.out⟩
    · have q1 : decide (15 < k) = false := decide_eq_false z1
      have p1 : decide (k ≤ 15) = true := decide_eq_true (by omega)
      by_cases z2 : i < 0
      · have q2 : decide (i < 0) = true := decide_eq_true z2
        have p2 : decide (0 ≤ i) = false := decide_eq_false (by omega)
        have hb : badT k i = true := by unfold badT; simp only [q0, q1, q2, Bool.or_true, Bool.true_or]
        go_enter Try.func7, Try.ntmps7
        go_wp2_with fail
        refine K0.mono ?_; rintro e w1 ⟨rfl, b1⟩
        have K := new_s w w1 b1
        clear K0 b1
        go_wp2_with fail
        refine K.mono ?_; rintro e w2 ⟨g, rfl, h2⟩
        clear K
        have K := set_s h2 k i t t0 t1
        rw [(set_bad (t := t) (L := []) hb).1, (set_bad (t := t) (L := []) hb).2] at K
        clear h2
        go_wp2_with fail
        refine K.mono ?_; rintro e w3 ⟨rfl, h3⟩
        clear K
        have K := at_s h3 k i
        rw [show atT k i [] = 0 from rfl, show hasT k i [] = false from rfl] at K
        clear h3
        go_wp2_with fail
        refine K.mono ?_; rintro e w4 ⟨rfl, h4⟩
        clear K
        have K := len_s h4
        have KS := stop_s h4 k i
        rw [show hasT k i [] = false from rfl, show stopL k i [] = [] from rfl] at KS
        clear h4
        simp only [List.length_cons, List.length_nil] at K
        go_wp2_with fail
        refine K.mono ?_; rintro e w5 ⟨rfl, rfl⟩
        clear K
        go_wp2_with fail
        refine KS.mono ?_; rintro e w6 ⟨rfl, h6⟩
        have K := len_s h6
        have HB := Lib.hid h6.below
        clear KS h6
        simp only [List.length_nil] at K
        go_wp2_with fail
        refine K.mono ?_; rintro e w7 ⟨rfl, rfl⟩
        clear K
        go_wp2
        go_ret
        exact ⟨rfl, HB.out⟩
      · have q2 : decide (i < 0) = false := decide_eq_false z2
        have p2 : decide (0 ≤ i) = true := decide_eq_true (by omega)
        by_cases z3 : 1023 < i
        · have q3 : decide (1023 < i) = true := decide_eq_true z3
          have p3 : decide (i ≤ 1023) = false := decide_eq_false (by omega)
          have hb : badT k i = true := by unfold badT; simp only [q0, q1, q2, q3, Bool.or_true, Bool.true_or]
          go_enter Try.func7, Try.ntmps7
          go_wp2_with fail
          refine K0.mono ?_; rintro e w1 ⟨rfl, b1⟩
          have K := new_s w w1 b1
          clear K0 b1
          go_wp2_with fail
          refine K.mono ?_; rintro e w2 ⟨g, rfl, h2⟩
          clear K
          have K := set_s h2 k i t t0 t1
          rw [(set_bad (t := t) (L := []) hb).1, (set_bad (t := t) (L := []) hb).2] at K
          clear h2
          go_wp2_with fail
          refine K.mono ?_; rintro e w3 ⟨rfl, h3⟩
          clear K
          have K := at_s h3 k i
          rw [show atT k i [] = 0 from rfl, show hasT k i [] = false from rfl] at K
          clear h3
          go_wp2_with fail
          refine K.mono ?_; rintro e w4 ⟨rfl, h4⟩
          clear K
          have K := len_s h4
          have KS := stop_s h4 k i
          rw [show hasT k i [] = false from rfl, show stopL k i [] = [] from rfl] at KS
          clear h4
          simp only [List.length_cons, List.length_nil] at K
          go_wp2_with fail
          refine K.mono ?_; rintro e w5 ⟨rfl, rfl⟩
          clear K
          go_wp2_with fail
          refine KS.mono ?_; rintro e w6 ⟨rfl, h6⟩
          have K := len_s h6
          have HB := Lib.hid h6.below
          clear KS h6
          simp only [List.length_nil] at K
          go_wp2_with fail
          refine K.mono ?_; rintro e w7 ⟨rfl, rfl⟩
          clear K
          go_wp2
          go_ret
          exact ⟨rfl, HB.out⟩
        · have q3 : decide (1023 < i) = false := decide_eq_false z3
          have p3 : decide (i ≤ 1023) = true := decide_eq_true (by omega)
          have hb : badT k i = false := by unfold badT; simp only [q0, q1, q2, q3, Bool.or_false]
          go_enter Try.func7, Try.ntmps7
          go_wp2_with fail
          refine K0.mono ?_; rintro e w1 ⟨rfl, b1⟩
          have K := new_s w w1 b1
          clear K0 b1
          go_wp2_with fail
          refine K.mono ?_; rintro e w2 ⟨g, rfl, h2⟩
          clear K
          have K := set_s h2 k i t t0 t1
          rw [(nil_set (t := t) hb).1, (nil_set (t := t) hb).2] at K
          clear h2
          go_wp2_with fail
          refine K.mono ?_; rintro e w3 ⟨rfl, h3⟩
          clear K
          have K := at_s h3 k i
          rw [one_at, one_has] at K
          clear h3
          go_wp2_with fail
          refine K.mono ?_; rintro e w4 ⟨rfl, h4⟩
          clear K
          have K := len_s h4
          have KS := stop_s h4 k i
          rw [one_has, one_stop] at KS
          clear h4
          simp only [List.length_cons, List.length_nil] at K
          go_wp2_with fail
          refine K.mono ?_; rintro e w5 ⟨rfl, rfl⟩
          clear K
          go_wp2_with fail
          refine KS.mono ?_; rintro e w6 ⟨rfl, h6⟩
          have K := len_s h6
          have HB := Lib.hid h6.below
          clear KS h6
          simp only [List.length_nil] at K
          go_wp2_with fail
          refine K.mono ?_; rintro e w7 ⟨rfl, rfl⟩
          clear K
          go_wp2
          go_ret
          exact ⟨rfl, HB.out⟩
theorem wheelBounds_own : ownKnob Try.prog.godebug = none := by kernel_rfl
theorem wheelBounds_laid : laidOutB Try.prog = true := by kernel_rfl
set_option maxRecDepth 100000 in
theorem wheelBounds_lifted (os : Os) (started : os.Started) (H : Type) (enc : TypeId × Value → H) :
    ReturnsInHanded {} Try.checked os 7 .any (Rows.wheelBoundsSpec.pre6 enc Try.prog Try.f7 Rows.wheelBoundsRow.domain false) (Rows.wheelBoundsSpec.post enc Try.prog Try.f7 false true false false) := by
  refine returnsInHanded_of_change (C := Try.checked) wheelBounds_own started (by kernel_rfl) Try.func7
    (ChangeSpec.witness6 (enc := enc) (C := Try.checked) false ⟨#[], #[.int .i64 0, .int .i64 0, .int .u64 0], []⟩ 8 (by kernel_rfl) (by kernel_rfl) (by kernel_rfl) (by kernel_rfl)) ?_
  intro W base args ds gs before hval0 hW hcnd _
  have hval : ∀ (j : Nat) t v, Try.f7.params[j]? = some t → args[j]? = some v → Value.okWide Try.prog W .any base t v := hval0
  have hW' := hW
  obtain ⟨p, q, hA0, hV, rfl, hfz, hnd⟩ := hW
  have hA : DataW.TrodAll enc Try.prog W 0 (fun _ => true) true Try.f7.params.toList args.toList ds p := hA0
  rw [Try.params7] at hA hval
  obtain ⟨v0, vs0, d0, ds0, p0, q0, hargs, rfl, rfl, h0, r0⟩ := trodAll_cons hA
  obtain ⟨v1, vs1, d1, ds1, p1, q1, rfl, rfl, rfl, h1, r1⟩ := trodAll_cons r0
  obtain ⟨v2, vs2, d2, ds2, p2, q2, rfl, rfl, rfl, h2, r2⟩ := trodAll_cons r1
  obtain ⟨rfl, rfl, rfl⟩ := trodAll_nil r2
  obtain rfl : args = #[v0, v1, v2] := by cases args; simp_all
  obtain ⟨rfl, rfl⟩ := trodVars_none hV
  obtain ⟨a0, rfl, rfl, rfl, w0⟩ := open_int Try.underlying3 (hval 0 3 v0 rfl rfl) h0
  obtain ⟨a1, rfl, rfl, rfl, w1⟩ := open_int Try.underlying3 (hval 1 3 v1 rfl rfl) h1
  obtain ⟨a2, rfl, rfl, rfl, w2⟩ := open_int Try.underlying30 (hval 2 30 v2 rfl rfl) h2
  clear hA0 hval0
  refine (bounds_walk a0 a1 a2 W w0 w1 w2).mono fun e W' ⟨he, bel⟩ => ?_
  subst he
  exact ⟨_, rfl, _, _, _, [], _, [], hW', trodAll_mk1 (shut_bool Try.underlying4 _), (trodAll_cons_mk (shut_int Try.underlying3 w0) (trodAll_cons_mk (shut_int Try.underlying3 w1) (trodAll_cons_mk (shut_int Try.underlying30 w2) trodAll_mk0))), rfl, bel.frame _, fun h => by cases h⟩
theorem wheelBounds_over : Rows.wheelBoundsRow.holds Try.pinned (OpenSpec.ofChange Rows.wheelBoundsSpec) :=
  OpenClaim.holds_of_wide 7 Try.f7 rfl rfl rfl rfl rfl rfl rfl ⟨rfl, rfl, rfl, rfl, rfl⟩ rfl rfl rfl rfl rfl (by kernel_rfl) Try.func7 (by kernel_rfl)
    (of_decide_eq_true (by kernel_rfl)) (by unfold Func.isWrapper; first | (rw [if_pos (by decide +kernel)]; kernel_rfl) | (rw [if_neg (by decide +kernel)]; exact ⟨rfl, rfl⟩))
    (fun os started H enc _ => wheelBounds_lifted os started H enc)
theorem wheelBounds_holds : Rows.WheelBoundsSaid := wheelBounds_over
#print axioms wheelBounds_holds
end Go.Proofs.Ytmnakbpjbgjnmaa
