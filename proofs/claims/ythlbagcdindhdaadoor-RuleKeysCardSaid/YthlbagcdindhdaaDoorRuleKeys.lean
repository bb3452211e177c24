/- The statement RuleKeys: by nothing all addresses go by one key, by hosts those of one host, by both none with another one; for every two addresses. No conditions but the row's own: the table of words lies as the program's text lays it. -/
import Derived.Test.YthlbagcdindhdaaDoorRuleLaid
import Derived.SevenTiedAt
import Derived.ChangeOld
import Derived.ChangeMaps5
import Derived.ShutString
import Derived.OpenShut
import Derived.SizedLaws
import Derived.Lib.SmallJoins
namespace Go.Proofs.YthlbagcdindhdaaDoor
open Go.Sort Go.RowKit Go.BigFrame Go.ChangeShapes Go.WideShapes Go.ChangeAt
open Go.ChangeMaps (open_string shut_string)
set_option linter.unusedVariables false
set_option linter.unusedSimpArgs false

set_option maxRecDepth 100000 in
set_option maxHeartbeats 16000000 in
theorem ruleKeys_walk (p q r s : Int) (w : World) (ht : Tab w) :
    Calls Tryd.prog 5 #[.agg #[.int .u32 p, .int .u16 q], .agg #[.int .u32 r, .int .u16 s]] w fun e w' => e = .returned (.bool true) ∧ Below w.heap.size w w' := by
  have HT := Lib.hid ht
  clear ht
  have X : Hid (Cs w.heap.size [.int .u32 p, .int .u16 q] ((w.alloc (.cells #[.int .u32 p, .int .u16 q] 28)).alloc (.cells #[.int .u32 r, .int .u16 s] 28))) := (Cs.new w [.int .u32 p, .int .u16 q] 28).alloc _
  have Y : Hid (Cs (w.heap.size + 1) [.int .u32 r, .int .u16 s] ((w.alloc (.cells #[.int .u32 p, .int .u16 q] 28)).alloc (.cells #[.int .u32 r, .int .u16 s] 28))) := by
    have h := Cs.new (w.alloc (.cells #[.int .u32 p, .int .u16 q] 28)) [.int .u32 r, .int .u16 s] 28
    simp only [World.size_alloc] at h
    exact h
  have hB : Hid (Below w.heap.size w ((w.alloc (.cells #[.int .u32 p, .int .u16 q] 28)).alloc (.cells #[.int .u32 r, .int .u16 s] 28))) := by show Below _ _ _; (repeat (first | with_reducible exact Below.refl _ _ | with_reducible refine Below.drew ?_ | with_reducible refine below_drewN ?_ _ | with_reducible refine Below.alloc ?_ (by first | omega | (simp; done) | (simp; omega)) _ | with_reducible refine Below.setCell ?_ (by first | omega | (simp; done) | (simp; omega)) _))
  go_enter Tryd.func5, Tryd.ntmps5
  go_wp2_with fail
  refine (examples_yes _ (HT.out.below hB.out)).mono ?_; rintro e w1 ⟨rfl, d⟩
  replace hB : Hid (Below w.heap.size w _) := (hB.out).trans (d.mono (hB.out).size); replace X := Lib.hid (X.out.keep d); replace Y := Lib.hid (Y.out.keep d); clear d
  clear HT
  go_upto_region 7 with fail
  replace X := Lib.hid (((X.out.alloc (.cells #[.int .i64 0, .int .i64 0] 23)).alloc (.cells #[.int .i64 1, .int .i64 0] 23)).alloc (.cells #[.int .i64 2, .int .i64 0] 23))
  replace Y := Lib.hid (((Y.out.alloc (.cells #[.int .i64 0, .int .i64 0] 23)).alloc (.cells #[.int .i64 1, .int .i64 0] 23)).alloc (.cells #[.int .i64 2, .int .i64 0] 23))
  have F : Hid (Cs w1.heap.size [.int .i64 0, .int .i64 0] (((w1.alloc (.cells #[.int .i64 0, .int .i64 0] 23)).alloc (.cells #[.int .i64 1, .int .i64 0] 23)).alloc (.cells #[.int .i64 2, .int .i64 0] 23))) := ((Cs.new w1 [.int .i64 0, .int .i64 0] 23).alloc _).alloc _
  have G : Hid (Cs (w1.heap.size + 1) [.int .i64 1, .int .i64 0] (((w1.alloc (.cells #[.int .i64 0, .int .i64 0] 23)).alloc (.cells #[.int .i64 1, .int .i64 0] 23)).alloc (.cells #[.int .i64 2, .int .i64 0] 23))) := by
    have h := (Cs.new (w1.alloc (.cells #[.int .i64 0, .int .i64 0] 23)) [.int .i64 1, .int .i64 0] 23).alloc (.cells #[.int .i64 2, .int .i64 0] 23)
    simp only [World.size_alloc] at h
    exact h
  have H : Hid (Cs (w1.heap.size + 1 + 1) [.int .i64 2, .int .i64 0] (((w1.alloc (.cells #[.int .i64 0, .int .i64 0] 23)).alloc (.cells #[.int .i64 1, .int .i64 0] 23)).alloc (.cells #[.int .i64 2, .int .i64 0] 23))) := by
    have h := Cs.new ((w1.alloc (.cells #[.int .i64 0, .int .i64 0] 23)).alloc (.cells #[.int .i64 1, .int .i64 0] 23)) [.int .i64 2, .int .i64 0] 23
    simp only [World.size_alloc] at h
    exact h
  have hB2 : Hid (Below w.heap.size w (((w1.alloc (.cells #[.int .i64 0, .int .i64 0] 23)).alloc (.cells #[.int .i64 1, .int .i64 0] 23)).alloc (.cells #[.int .i64 2, .int .i64 0] 23))) := by
    have hb := hB.out
    show Below _ _ _
    (have zzh := Below.size hb; repeat (first | with_reducible exact hb | with_reducible refine Below.setCell ?_ (by first | omega | (simp; done) | (simp; omega)) _ | with_reducible refine Below.alloc ?_ (by first | omega | (simp; done) | (simp; omega)) _ | with_reducible refine Below.drew ?_))
  clear hB
  generalize (((w1.alloc (.cells #[.int .i64 0, .int .i64 0] 23)).alloc (.cells #[.int .i64 1, .int .i64 0] 23)).alloc (.cells #[.int .i64 2, .int .i64 0] 23)) = w4 at *
  have x0 := cell_regrown (X.out.cell 0 _ rfl)
  have x1 := cell_regrown (X.out.cell 1 _ rfl)
  have y0 := cell_regrown (Y.out.cell 0 _ rfl)
  have y1 := cell_regrown (Y.out.cell 1 _ rfl)
  have f0 := cell_regrown (F.out.cell 0 _ rfl)
  have f1 := cell_regrown (F.out.cell 1 _ rfl)
  have g0 := cell_regrown (G.out.cell 0 _ rfl)
  have g1 := cell_regrown (G.out.cell 1 _ rfl)
  have h0 := cell_regrown (H.out.cell 0 _ rfl)
  have h1 := cell_regrown (H.out.cell 1 _ rfl)
  have K1 := fun d os => Calls.regrown_of (key_any 0 0 p q (grow (redrawn w4 d) os))
  have K2 := fun d os => Calls.regrown_of (key_any 0 0 r s (grow (redrawn w4 d) os))
  have K3 := fun d os => Calls.regrown_of (key_any 1 0 p q (grow (redrawn w4 d) os))
  have K4 := fun d os => Calls.regrown_of (key_any 1 0 r s (grow (redrawn w4 d) os))
  have K5 := fun d os => Calls.regrown_of (key_any 2 0 p q (grow (redrawn w4 d) os))
  have K6 := fun d os => Calls.regrown_of (key_any 2 0 r s (grow (redrawn w4 d) os))
  simp only [show ∀ x, keyIP 0 x = 0 from fun _ => rfl, show ∀ x, keyPort 0 x = 0 from fun _ => rfl] at K1 K2
  simp only [show ∀ x, keyIP 1 x = x from fun _ => rfl, show ∀ x, keyPort 1 x = 0 from fun _ => rfl] at K3 K4
  simp only [show ∀ x, keyIP 2 x = x from fun _ => rfl, show ∀ x, keyPort 2 x = x from fun _ => rfl] at K5 K6
  clear X Y F G H
  by_cases h1 : p = r
  · by_cases h2 : q = s
    · subst h1 h2
      (refine wp_region_quiet_below (by kernel_rfl) (by kernel_rfl) ?_; (repeat (go_big_quiet_step (first | with_reducible exact K1 _ _ | with_reducible exact K2 _ _ | with_reducible exact K3 _ _ | with_reducible exact K4 _ _ | with_reducible exact K5 _ _ | with_reducible exact K6 _ _))); refine wpQuiet_nil ?_; intro _ hw'; obtain ⟨⟨dq, osq⟩, hw''⟩ := hw'; subst hw'')
      go_wp2
      go_ret
      exact ⟨rfl, hB2.out.trans ((below_regrown w4 dq osq).mono hB2.out.size)⟩
    · have e1 : (p == r) = true := by rw [beq_iff_eq]; exact h1
      have e2 : (q == s) = false := by rw [beq_eq_false_iff_ne]; exact h2
      subst h1
      (refine wp_region_quiet_below (by kernel_rfl) (by kernel_rfl) ?_; (repeat (go_big_quiet_step (first | with_reducible exact K1 _ _ | with_reducible exact K2 _ _ | with_reducible exact K3 _ _ | with_reducible exact K4 _ _ | with_reducible exact K5 _ _ | with_reducible exact K6 _ _))); refine wpQuiet_nil ?_; intro _ hw'; obtain ⟨⟨dq, osq⟩, hw''⟩ := hw'; subst hw'')
      go_wp2
      go_ret
      exact ⟨rfl, hB2.out.trans ((below_regrown w4 dq osq).mono hB2.out.size)⟩
  · have e1 : (p == r) = false := by rw [beq_eq_false_iff_ne]; exact h1
    (refine wp_region_quiet_below (by kernel_rfl) (by kernel_rfl) ?_; (repeat (go_big_quiet_step (first | with_reducible exact K1 _ _ | with_reducible exact K2 _ _ | with_reducible exact K3 _ _ | with_reducible exact K4 _ _ | with_reducible exact K5 _ _ | with_reducible exact K6 _ _))); refine wpQuiet_nil ?_; intro _ hw'; obtain ⟨⟨dq, osq⟩, hw''⟩ := hw'; subst hw'')
    go_wp2
    go_ret
    exact ⟨rfl, hB2.out.trans ((below_regrown w4 dq osq).mono hB2.out.size)⟩

theorem ruleKeys_run (p q r s : Int) (w : World) (_ : (Lit.int .u32 p).wf = true) (_ : (Lit.int .u16 q).wf = true) (_ : (Lit.int .u32 r).wf = true) (_ : (Lit.int .u16 s).wf = true) (ht : Tab w) :
    Calls Tryd.prog 5 #[.agg #[.int .u32 p, .int .u16 q], .agg #[.int .u32 r, .int .u16 s]] w fun e w' => e = .returned (.bool true) ∧ Below w.heap.size w w' :=
  ruleKeys_walk p q r s w ht


theorem ruleKeys_own : ownKnob Tryd.prog.godebug = none := by kernel_rfl
theorem ruleKeys_laid : laidOutB Tryd.prog = true := by kernel_rfl
set_option maxRecDepth 100000 in
theorem ruleKeys_lifted (os : Os) (started : os.Started) (H : Type) (enc : TypeId × Value → H) :
    ReturnsInHanded {} Tryd.checked os 5 .any (fun w args => (Rows.ruleKeysSpec.pre enc Tryd.prog Tryd.f5 [] false w args ∧ laidMetH Tryd.prog seatLaid w) ∧ sizedMet enc Tryd.prog Tryd.f5 (OpenSpec.ofChange Rows.ruleKeysSpec) false w args) (Rows.ruleKeysSpec.post enc Tryd.prog Tryd.f5 false true false false) := by
  refine returnsInHanded_of_change_and (C := Tryd.checked) (X := fun w _ => laidMetH Tryd.prog seatLaid w) (fun _ _ _ hh h => h.of_heap hh) ruleKeys_own started (by kernel_rfl) Tryd.func5
    (ChangeSpec.witness_shaped (enc := enc) (C := Tryd.checked) (os := os) (X := fun w _ => laidMetH Tryd.prog seatLaid w) false (World.doorLaid Tryd.prog seatSteps os) #[.agg #[.int .u32 0, .int .u16 0], .agg #[.int .u32 0, .int .u16 0]] 8 rfl (World.shaped_of_RefB (by kernel_rfl) (by kernel_rfl)) (by kernel_rfl) (by kernel_rfl) (by kernel_rfl) (door_met os _)) ?_
  intro W base args ds gs before hval0 hW hcnd hsz hL _
  have hval : ∀ (j : Nat) t v, Tryd.f5.params[j]? = some t → args[j]? = some v → Value.okWide Tryd.prog W .any base t v := hval0
  have hW' := hW
  obtain ⟨p, q, hA0, hV, rfl, hfz, hnd⟩ := hW
  have hA : DataW.TrodAll enc Tryd.prog W 0 (fun _ => true) true Tryd.f5.params.toList args.toList ds p := hA0
  rw [Tryd.params5] at hA hval
  obtain ⟨v0, vs0, d0, ds0, p0, q0, hargs, rfl, rfl, h0, r0⟩ := trodAll_cons hA
  obtain ⟨v1, vs1, d1, ds1, p1, q1, rfl, rfl, rfl, h1, r1⟩ := trodAll_cons r0
  obtain ⟨rfl, rfl, rfl⟩ := trodAll_nil r1
  obtain rfl : args = #[v0, v1] := by cases args; simp_all
  obtain ⟨rfl, rfl⟩ := trodVars_none hV
  have k0 := h0
  have lt0 : ∀ x ∈ p0, x.block < W.heap.size := by obtain ⟨m, hm⟩ := k0; exact DataW.trod_lt m _ _ _ hm
  obtain ⟨c0_0, c0_1, y0_0, y0_1, n0, rfl, rfl, rfl, t0_0, t0_1⟩ := Joins.open_agg2 Tryd.underlying28 (by kernel_rfl) (by kernel_rfl) (hval 0 28 v0 rfl rfl) h0
  obtain ⟨a0_0, e0_0, rfl, w0_0⟩ := DataW.trod_int Tryd.underlying25 t0_0
  obtain rfl := (List.cons.inj e0_0).1
  obtain ⟨a0_1, e0_1, rfl, w0_1⟩ := DataW.trod_int Tryd.underlying26 t0_1
  obtain rfl := (List.cons.inj e0_1).1
  have k1 := h1
  have lt1 : ∀ x ∈ p1, x.block < W.heap.size := by obtain ⟨m, hm⟩ := k1; exact DataW.trod_lt m _ _ _ hm
  obtain ⟨c1_0, c1_1, y1_0, y1_1, n1, rfl, rfl, rfl, t1_0, t1_1⟩ := Joins.open_agg2 Tryd.underlying28 (by kernel_rfl) (by kernel_rfl) (hval 1 28 v1 rfl rfl) h1
  obtain ⟨a1_0, e1_0, rfl, w1_0⟩ := DataW.trod_int Tryd.underlying25 t1_0
  obtain rfl := (List.cons.inj e1_0).1
  obtain ⟨a1_1, e1_1, rfl, w1_1⟩ := DataW.trod_int Tryd.underlying26 t1_1
  obtain rfl := (List.cons.inj e1_1).1
  clear hA0 hval0
  refine (ruleKeys_run a0_0 a0_1 a1_0 a1_1 W w0_0 w0_1 w1_0 w1_1 (tab_of_laid hL)).mono fun e W' ⟨he, bel⟩ => ?_
  subst he
  exact ⟨_, rfl, _, _, _, [], _, [], hW', trodAll_mk1 (shut_bool Tryd.underlying4 _), (trodAll_cons_mk (Below.trod ruleKeys_laid (by kernel_rfl) (of_decide_eq_true (by kernel_rfl)) k0 bel lt0) (trodAll_cons_mk (Below.trod ruleKeys_laid (by kernel_rfl) (of_decide_eq_true (by kernel_rfl)) k1 bel lt1) trodAll_mk0)), rfl, bel.frame _, fun h => by cases h⟩
theorem ruleKeys_over : Rows.ruleKeysRow.holds Tryd.pinned (OpenSpec.ofChange Rows.ruleKeysSpec) :=
  OpenClaim.holds_of_wide 5 Tryd.f5 rfl rfl rfl rfl rfl rfl rfl ⟨rfl, rfl, rfl, rfl, rfl⟩ rfl rfl rfl rfl rfl (by kernel_rfl) Tryd.func5 (by kernel_rfl)
    (of_decide_eq_true (by kernel_rfl)) (by unfold Func.isWrapper; first | (rw [if_pos (by decide +kernel)]; kernel_rfl) | (rw [if_neg (by decide +kernel)]; exact ⟨rfl, rfl⟩))
    (fun os started H enc _ => ruleKeys_lifted os started H enc)
theorem ruleKeys_holds : Rows.RuleKeysCardSaid :=
  Claim7.holds_tied_plain_at .later [] [.data] true Rows.ruleKeysCard.stood.harness false ruleKeys_over (fun _ h => by cases h) (by kernel_rfl) (fun _ h => by cases h) ruleKeys_row_tie rfl ⟨rfl, rfl⟩ (by kernel_rfl) rfl
    (fun f fn hf hfn => by
      obtain rfl : f = 5 := Option.some.inj ((show Tryd.prog.funcNamed "scuttlebutt/scuttlebuttlaw07.RuleKeys" = some 5 by kernel_rfl).symm.trans hf) |>.symm
      obtain rfl : fn = Tryd.f5 := (Option.some.inj (Tryd.func5.symm.trans hfn)).symm
      exact ⟨by kernel_rfl, fun j t ht => by
        rw [Tryd.params5] at ht
        have hm : t ∈ [28, 28] := by simpa using Array.mem_of_getElem? ht
        have hall : ([28, 28].all fun u => !Tryd.prog.wantsStandIn u) = true := by kernel_rfl
        exact (show Tryd.prog.wantsStandIn t = false by simpa using List.all_eq_true.1 hall t hm)⟩)
    (by kernel_rfl)
#print axioms ruleKeys_holds
end Go.Proofs.YthlbagcdindhdaaDoor
