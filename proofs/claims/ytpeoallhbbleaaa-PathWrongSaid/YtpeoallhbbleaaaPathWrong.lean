/- PathWrong: numbers that may not be make no table; a peer that is none has no path, and none is wanted, opened, or lost; too late nothing is done: for all numbers. -/
import Derived.Test.YtpeoallhbbleaaaPaEx
import Derived.Deep.DeepCutAuto
import Derived.ChangeOld
import Derived.ChangeMaps5
import Derived.ShutString
import Derived.OpenShut
import Derived.SizedLaws
namespace Go.Proofs.Ytpeoallhbbleaaa
open Go.Sort Go.RowKit Go.BigFrame Go.ChangeShapes Go.WideShapes Go.Deep
set_option linter.unusedVariables false
set_option linter.unusedSimpArgs false

theorem new_v {w0 w : World} {H : List Hl} (t b k h : Int) {e : Int} (he : (if mayI t b k h = true then 0 else 1) = e) (s : St w0 H w) :
    Calls Try.prog 10 #[.int .i64 t, .int .u64 b, .int .u64 k, .int .u64 h] w fun x w' => ∃ v, x = .returned (.tuple #[.pointer v, .int .i64 e]) ∧ St w0 H w' := by
  cases hm : mayI t b k h with
  | true =>
    rw [hm, if_pos rfl] at he
    subst he
    refine (newT_l hm s).mono ?_
    rintro x w' ⟨g, h1, h2⟩
    exact ⟨_, h1, h2.drop⟩
  | false =>
    rw [hm, if_neg (by decide)] at he
    subst he
    refine (new_bad t b k h hm w).mono ?_
    rintro x w' ⟨h1, rfl⟩
    exact ⟨_, h1, s⟩
def kW : Tk := newK 3 1 1 1
theorem kW_one (i : Nat) : kW = oneK kW i zP := one_new 3 1 1 1 i
/-- all that is asked of a table with nobody in it -/
structure WrF (id now : Int) (q : Bool) : Prop where
  g : wantE kW id now = if q = true then 0 else 1
  ok : isP (wantD kW id now) id = q
  m : (dueL (wantD kW id now) now).length = if q = true then 1 else 0
  lb : isP (dueD (wantD kW id now) now) id = q
  all : allP (lostD (dueD (wantD kW id now) now) id).p = []
theorem wr_yes {n : Nat} {now : Int} (h1 : 1 ≤ n) (h2 : n ≤ 32) (hn : now ≤ 4611686018427387904) : WrF n now true := by
  have w := one_want kW h1 h2 hn
  rw [← kW_one] at w
  have d : dueX kW ⟨n, 2, 0, 0, 0, now, 0⟩ now = ⟨n, 2, 1, 0, 0, now + 1 * 2 ^ 0, 0⟩ ∧ dueK kW ⟨n, 2, 0, 0, 0, now, 0⟩ now = 1 := by
    have : isD ⟨n, 2, 0, 0, 0, now, 0⟩ now = true := by unfold isD isS; simp
    unfold dueX dueK
    rw [this, if_pos rfl, if_pos rfl]
    exact ⟨rfl, rfl⟩
  have dd := one_dueD kW (i := n) ⟨n, 2, 0, 0, 0, now, 0⟩ (by omega) hn
  rw [d.1] at dd
  refine ⟨w.1, ?_, ?_, ?_, ?_⟩
  · rw [w.2, one_isP kW _ h1 h2]; rfl
  · rw [w.2, one_dueL kW _ (by omega) hn, d.2]; rfl
  · rw [w.2, dd, one_isP kW _ h1 h2]; rfl
  · rw [w.2, dd, one_lost kW _ rfl h1 h2, one_all kW zP (by omega)]; rfl
theorem wr_no {id now : Int} (h : badC id now = true) : WrF id now false := by
  have w : wantE kW id now = 1 := by unfold wantE; rw [if_pos h]
  have wd : wantD kW id now = kW := by unfold wantD; rw [w, if_neg (by decide)]
  have p : isP kW id = false := by unfold isP; show (nodeI id && false) = false; exact Bool.and_false _
  have dl : dueL kW now = [] := by
    by_cases hn : 4611686018427387904 < now
    · unfold dueL; rw [if_pos hn]
    · rw [kW_one 1, one_dueL kW zP (by decide) (by omega), (z_due kW now).2]; rfl
  have dd : dueD kW now = kW := by
    by_cases hn : 4611686018427387904 < now
    · unfold dueD; rw [if_pos hn]
    · have := one_dueD kW (i := 1) zP (by decide) (now := now) (by omega)
      rw [(z_due kW now).1, ← kW_one] at this
      exact this
  refine ⟨w, ?_, ?_, ?_, ?_⟩
  · rw [wd, p]
  · rw [wd, dl]; rfl
  · rw [wd, dd, p]
  · rw [wd, dd]
    unfold lostD
    rw [p, if_neg (by decide), kW_one 1, one_all kW zP (by decide)]; rfl
set_option maxHeartbeats 12800000 in
set_option maxRecDepth 100000 in
theorem wrong_walk (t b k h id now : Int) (hb : 0 ≤ b) (hk : 0 ≤ k) (hh : 0 ≤ h) (hn : 0 ≤ now) (w : World) :
    Calls Try.prog 8 #[.int .i64 t, .int .u64 b, .int .u64 k, .int .u64 h, .int .i64 id, .int .u64 now] w fun e w' => e = .returned (.bool true) ∧ Below w.heap.size w w' := by
  have E := ex_any w
  obtain ⟨e1, he1⟩ : ∃ e, (if mayI t b k h = true then (0 : Int) else 1) = e := ⟨_, rfl⟩
  obtain ⟨qi, hqi⟩ : ∃ q, q = (spanI b && (spanI k && spanI h)) := ⟨_, rfl⟩
  obtain ⟨qm, hqm⟩ : ∃ q, q = (nodeI id && decide (now ≤ 4611686018427387904)) := ⟨_, rfl⟩
  have HE1 := Lib.hid he1
  have HE2 : Hid (mayI t b k h = ((decide (1 ≤ t) && decide (t ≤ 8)) && qi)) := by show _ = _; rw [hqi]; rfl
  replace hqi := Lib.hid hqi
  replace hqm := Lib.hid hqm
  clear he1
  have WF : Hid (WrF id now qm) := by
    show WrF _ _ _
    rw [hqm.out]
    by_cases c : (1 ≤ id ∧ id ≤ 32) ∧ now ≤ 4611686018427387904
    · obtain ⟨n, rfl⟩ : ∃ n : Nat, id = n := ⟨id.toNat, by omega⟩
      have e : (nodeI (n : Int) && decide (now ≤ 4611686018427387904)) = true := by rw [nodeI_iff.2 c.1, decide_eq_true c.2]; rfl
      rw [e]
      exact wr_yes (by omega) (by omega) c.2
    · have e : (nodeI id && decide (now ≤ 4611686018427387904)) = false := by
        cases q : nodeI id && decide (now ≤ 4611686018427387904) with
        | false => rfl
        | true => rw [Bool.and_eq_true, nodeI_iff, decide_eq_true_eq] at q; exact absurd q c
      rw [e]
      refine wr_no ?_
      unfold badC
      cases hv : nodeI id with
      | false => rfl
      | true =>
        rw [hv, Bool.true_and] at e
        have := of_decide_eq_false e
        rw [decide_eq_true (by omega)]; rfl
  go_enter Try.func8, Try.ntmps8
  go_wp2_with fail
  refine E.mono ?_; rintro e w0 ⟨rfl, b0⟩
  have K := new_v t b k h HE1.out (St.start w w0 b0)
  clear E b0
  go_wp2_with fail
  refine K.mono ?_; rintro e w1 ⟨v0, rfl, s⟩
  clear K
  go_upto_region 5 with fail
  go_cut [16] (fun c wx => c = .bool qi ∧ w1 = wx)
  case first =>
    clear HE1 HE2 WF hqm s
    unfold spanI at hqi
    cases d1 : decide (1 ≤ b) with
    | false =>
      have hq : qi = false := by rw [hqi.out]; simp [d1]
      subst hq
      go_wp2_with fail
      go_meet
      exact ⟨rfl, rfl⟩
    | true =>
      cases d2 : decide (b ≤ 1000000) with
      | false =>
        have hq : qi = false := by rw [hqi.out]; simp [d1, d2]
        subst hq
        go_wp2_with fail
        go_meet
        exact ⟨rfl, rfl⟩
      | true =>
        cases d3 : decide (1 ≤ k) with
        | false =>
          have hq : qi = false := by rw [hqi.out]; simp [d1, d2, d3]
          subst hq
          go_wp2_with fail
          go_meet
          exact ⟨rfl, rfl⟩
        | true =>
          cases d4 : decide (k ≤ 1000000) with
          | false =>
            have hq : qi = false := by rw [hqi.out]; simp [d1, d2, d3, d4]
            subst hq
            go_wp2_with fail
            go_meet
            exact ⟨rfl, rfl⟩
          | true =>
            cases d5 : decide (1 ≤ h) with
            | false =>
              have hq : qi = false := by rw [hqi.out]; simp [d1, d2, d3, d4, d5]
              subst hq
              go_wp2_with fail
              go_meet
              exact ⟨rfl, rfl⟩
            | true =>
              cases d6 : decide (h ≤ 1000000) with
              | false =>
                have hq : qi = false := by rw [hqi.out]; simp [d1, d2, d3, d4, d5, d6]
                subst hq
                go_wp2_with fail
                go_meet
                exact ⟨rfl, rfl⟩
              | true =>
                have hq : qi = true := by rw [hqi.out]; simp [d1, d2, d3, d4, d5, d6]
                subst hq
                go_wp2_with fail
                go_meet
                exact ⟨rfl, rfl⟩
  case rest =>
  obtain ⟨rfl, rfl⟩ := hcut
  clear hqi
  have K := newT_l (t := 3) (bs := 1) (kp := 1) (hd := 1) (by decide) s
  clear s
  go_wp2_with fail
  refine K.mono ?_; rintro e w2 ⟨g, rfl, s⟩
  have s : St w [hT g kW] w2 := s
  clear K
  go_upto_region 9 with fail
  go_cut [19] (fun c wx => c = .bool qm ∧ w2 = wx)
  case first =>
    clear HE1 HE2 WF s
    unfold nodeI at hqm
    cases d1 : decide (1 ≤ id) with
    | false =>
      have hq : qm = false := by rw [hqm.out]; simp [d1]
      subst hq
      go_wp2_with fail
      go_meet
      exact ⟨rfl, rfl⟩
    | true =>
      cases d2 : decide (id ≤ 32) with
      | false =>
        have hq : qm = false := by rw [hqm.out]; simp [d1, d2]
        subst hq
        go_wp2_with fail
        go_meet
        exact ⟨rfl, rfl⟩
      | true =>
        cases d3 : decide (now ≤ 4611686018427387904) with
        | false =>
          have hq : qm = false := by rw [hqm.out]; simp [d1, d2, d3]
          subst hq
          go_wp2_with fail
          go_meet
          exact ⟨rfl, rfl⟩
        | true =>
          have hq : qm = true := by rw [hqm.out]; simp [d1, d2, d3]
          subst hq
          go_wp2_with fail
          go_meet
          exact ⟨rfl, rfl⟩
  case rest =>
  obtain ⟨rfl, rfl⟩ := hcut
  clear hqm
  obtain ⟨k1, hk1⟩ : ∃ x, wantD kW id now = x := ⟨_, rfl⟩
  obtain ⟨k2, hk2⟩ : ∃ x, dueD k1 now = x := ⟨_, rfl⟩
  obtain ⟨k3, hk3⟩ : ∃ x, lostD k2 id = x := ⟨_, rfl⟩
  obtain ⟨ge, hge⟩ : ∃ x, (if qm = true then (0 : Int) else 1) = x := ⟨_, rfl⟩
  obtain ⟨m, hmm⟩ : ∃ x, (if qm = true then 1 else 0) = x := ⟨_, rfl⟩
  obtain ⟨x, hx⟩ : ∃ x, ofX k1 id = x := ⟨_, rfl⟩
  have W := WF.out
  have Wg := W.g
  have Wok := W.ok
  have Wm := W.m
  have Wlb := W.lb
  have Wall := W.all
  rw [hk1] at Wok Wm Wlb Wall
  rw [hk2] at Wlb Wall
  rw [hk3] at Wall
  rw [hge] at Wg
  rw [hmm] at Wm
  have K := want_l id now hn Wg hk1 [] [] s
  clear s W WF
  go_wp2_with fail
  refine K.mono ?_; rintro e w3 ⟨rfl, s⟩
  clear K
  have K := of_l id Wok hx s (g := g) (k := k1) (by simp)
  clear s
  go_wp2_with fail
  refine K.mono ?_; rintro e w4 ⟨rfl, s⟩
  clear K
  obtain ⟨x1, x2, x3, x4, x5, x6, x7⟩ := x
  simp only
  have s2 := s.alloc (.cells #[.int .i64 x1, .int .i64 x2, .int .i64 x3, .int .u32 x4, .int .u16 x5, .int .u64 x6, .int .u64 x7] 61)
  clear s
  go_upto_region 12 with fail
  generalize (w4.alloc (.cells #[.int .i64 x1, .int .i64 x2, .int .i64 x3, .int .u32 x4, .int .u16 x5, .int .u64 x6, .int .u64 x7] 61)) = w5 at *
  generalize w4.heap.size = b21 at *
  have K := due_n now hn Wm hk2 [] [] s2
  clear s2
  go_wp2_with fail
  refine K.mono ?_; rintro e w6 ⟨da, dc, rfl, s⟩
  clear K
  have KL := Lib.hid (lost_l id Wlb hk3 [] [] s)
  have KA : Hid (∀ wz, St w [hT g k3] wz → Calls Try.prog 23 #[.pointer (some ⟨g, 0, none⟩)] wz fun e w' => ∃ u : Sl, e = .returned (.slice u.a 0 u.c) ∧ St w [hP u [], hT g k3] w') := fun wz st => all_l (L := []) Wall st (by simp)
  have he1 := HE1.out
  rw [HE2.out] at he1
  clear hx hk1 hk2 hk3 Wg Wok Wm Wlb Wall s HE1 HE2
  replace hge := hge.symm
  replace hmm := hmm.symm
  generalize d1 : decide (1 ≤ t) = t1 at *
  generalize d2 : decide (t ≤ 8) = t2 at *
  go_upto_region 13 with fail
  cases qm with
  | true =>
    simp only [if_true] at hge hmm
    subst hge hmm
    cases qi with
    | false =>
      obtain rfl : e1 = 1 := by simpa using he1.symm
      go_wp2_with fail
      refine KL.out.mono ?_; rintro e w7 ⟨rfl, s⟩
      have K := KA.out _ s
      clear KL KA s
      go_wp2_with fail
      refine K.mono ?_; rintro e w8 ⟨u, rfl, s⟩
      have F := Lib.hid s.below
      clear K s
      go_wp2
      refine bodyPost_ret (v := (.bool true)) (by simp [results, Try.results8, go_sem, *]) rfl ?_
      exact ⟨rfl, F.out⟩
    | true =>
      cases t1 with
      | false =>
        obtain rfl : e1 = 1 := by simpa using he1.symm
        go_wp2_with fail
        refine KL.out.mono ?_; rintro e w7 ⟨rfl, s⟩
        have K := KA.out _ s
        clear KL KA s
        go_wp2_with fail
        refine K.mono ?_; rintro e w8 ⟨u, rfl, s⟩
        have F := Lib.hid s.below
        clear K s
        go_wp2
        refine bodyPost_ret (v := (.bool true)) (by simp [results, Try.results8, go_sem, *]) rfl ?_
        exact ⟨rfl, F.out⟩
      | true =>
        cases t2 with
        | false =>
          obtain rfl : e1 = 1 := by simpa using he1.symm
          go_wp2_with fail
          refine KL.out.mono ?_; rintro e w7 ⟨rfl, s⟩
          have K := KA.out _ s
          clear KL KA s
          go_wp2_with fail
          refine K.mono ?_; rintro e w8 ⟨u, rfl, s⟩
          have F := Lib.hid s.below
          clear K s
          go_wp2
          refine bodyPost_ret (v := (.bool true)) (by simp [results, Try.results8, go_sem, *]) rfl ?_
          exact ⟨rfl, F.out⟩
        | true =>
          obtain rfl : e1 = 0 := by simpa using he1.symm
          go_wp2_with fail
          refine KL.out.mono ?_; rintro e w7 ⟨rfl, s⟩
          have K := KA.out _ s
          clear KL KA s
          go_wp2_with fail
          refine K.mono ?_; rintro e w8 ⟨u, rfl, s⟩
          have F := Lib.hid s.below
          clear K s
          go_wp2
          refine bodyPost_ret (v := (.bool true)) (by simp [results, Try.results8, go_sem, *]) rfl ?_
          exact ⟨rfl, F.out⟩
  | false =>
    simp only [Bool.false_eq_true, if_false] at hge hmm
    subst hge hmm
    cases qi with
    | false =>
      obtain rfl : e1 = 1 := by simpa using he1.symm
      go_wp2_with fail
      refine KL.out.mono ?_; rintro e w7 ⟨rfl, s⟩
      have K := KA.out _ s
      clear KL KA s
      go_wp2_with fail
      refine K.mono ?_; rintro e w8 ⟨u, rfl, s⟩
      have F := Lib.hid s.below
      clear K s
      go_wp2
      refine bodyPost_ret (v := (.bool true)) (by simp [results, Try.results8, go_sem, *]) rfl ?_
      exact ⟨rfl, F.out⟩
    | true =>
      cases t1 with
      | false =>
        obtain rfl : e1 = 1 := by simpa using he1.symm
        go_wp2_with fail
        refine KL.out.mono ?_; rintro e w7 ⟨rfl, s⟩
        have K := KA.out _ s
        clear KL KA s
        go_wp2_with fail
        refine K.mono ?_; rintro e w8 ⟨u, rfl, s⟩
        have F := Lib.hid s.below
        clear K s
        go_wp2
        refine bodyPost_ret (v := (.bool true)) (by simp [results, Try.results8, go_sem, *]) rfl ?_
        exact ⟨rfl, F.out⟩
      | true =>
        cases t2 with
        | false =>
          obtain rfl : e1 = 1 := by simpa using he1.symm
          go_wp2_with fail
          refine KL.out.mono ?_; rintro e w7 ⟨rfl, s⟩
          have K := KA.out _ s
          clear KL KA s
          go_wp2_with fail
          refine K.mono ?_; rintro e w8 ⟨u, rfl, s⟩
          have F := Lib.hid s.below
          clear K s
          go_wp2
          refine bodyPost_ret (v := (.bool true)) (by simp [results, Try.results8, go_sem, *]) rfl ?_
          exact ⟨rfl, F.out⟩
        | true =>
          obtain rfl : e1 = 0 := by simpa using he1.symm
          go_wp2_with fail
          refine KL.out.mono ?_; rintro e w7 ⟨rfl, s⟩
          have K := KA.out _ s
          clear KL KA s
          go_wp2_with fail
          refine K.mono ?_; rintro e w8 ⟨u, rfl, s⟩
          have F := Lib.hid s.below
          clear K s
          go_wp2
          refine bodyPost_ret (v := (.bool true)) (by simp [results, Try.results8, go_sem, *]) rfl ?_
          exact ⟨rfl, F.out⟩
theorem wrong_run (t b k h id now : Int) (w : World) (w1 : (Lit.int .i64 t).wf = true) (w2 : (Lit.int .u64 b).wf = true) (w3 : (Lit.int .u64 k).wf = true) (w4 : (Lit.int .u64 h).wf = true) (w5 : (Lit.int .i64 id).wf = true) (w6 : (Lit.int .u64 now).wf = true) :
    Calls Try.prog 8 #[.int .i64 t, .int .u64 b, .int .u64 k, .int .u64 h, .int .i64 id, .int .u64 now] w fun e w' => e = .returned (.bool true) ∧ Below w.heap.size w w' :=
  wrong_walk t b k h id now (bounds_u64 w2).1 (bounds_u64 w3).1 (bounds_u64 w4).1 (bounds_u64 w6).1 w
theorem pathWrong_own : ownKnob Try.prog.godebug = none := by kernel_rfl
theorem pathWrong_laid : laidOutB Try.prog = true := by kernel_rfl
set_option maxRecDepth 100000 in
theorem pathWrong_lifted (os : Os) (started : os.Started) (H : Type) (enc : TypeId × Value → H) :
    ReturnsInHanded {} Try.checked os 8 .any (Rows.pathWrongSpec.pre6 enc Try.prog Try.f8 Rows.pathWrongRow.domain false) (Rows.pathWrongSpec.post enc Try.prog Try.f8 false true false false) := by
  refine returnsInHanded_of_change (C := Try.checked) pathWrong_own started (by kernel_rfl) Try.func8
    (ChangeSpec.witness6 (enc := enc) (C := Try.checked) false ⟨#[], #[.int .i64 0, .int .u64 0, .int .u64 0, .int .u64 0, .int .i64 0, .int .u64 0], []⟩ 8 (by kernel_rfl) (by kernel_rfl) (by kernel_rfl) (by kernel_rfl)) ?_
  intro W base args ds gs before hval0 hW hcnd _
  have hval : ∀ (j : Nat) t v, Try.f8.params[j]? = some t → args[j]? = some v → Value.okWide Try.prog W .any base t v := hval0
  have hW' := hW
  obtain ⟨p, q, hA0, hV, rfl, hfz, hnd⟩ := hW
  have hA : DataW.TrodAll enc Try.prog W 0 (fun _ => true) true Try.f8.params.toList args.toList ds p := hA0
  rw [Try.params8] at hA hval
  obtain ⟨v0, vs0, d0, ds0, p0, q0, hargs, rfl, rfl, h0, r0⟩ := trodAll_cons hA
  obtain ⟨v1, vs1, d1, ds1, p1, q1, rfl, rfl, rfl, h1, r1⟩ := trodAll_cons r0
  obtain ⟨v2, vs2, d2, ds2, p2, q2, rfl, rfl, rfl, h2, r2⟩ := trodAll_cons r1
  obtain ⟨v3, vs3, d3, ds3, p3, q3, rfl, rfl, rfl, h3, r3⟩ := trodAll_cons r2
  obtain ⟨v4, vs4, d4, ds4, p4, q4, rfl, rfl, rfl, h4, r4⟩ := trodAll_cons r3
  obtain ⟨v5, vs5, d5, ds5, p5, q5, rfl, rfl, rfl, h5, r5⟩ := trodAll_cons r4
  obtain ⟨rfl, rfl, rfl⟩ := trodAll_nil r5
  obtain rfl : args = #[v0, v1, v2, v3, v4, v5] := by cases args; simp_all
  obtain ⟨rfl, rfl⟩ := trodVars_none hV
  obtain ⟨a0, rfl, rfl, rfl, w0⟩ := open_int Try.underlying3 (hval 0 3 v0 rfl rfl) h0
  obtain ⟨a1, rfl, rfl, rfl, w1⟩ := open_int Try.underlying22 (hval 1 22 v1 rfl rfl) h1
  obtain ⟨a2, rfl, rfl, rfl, w2⟩ := open_int Try.underlying22 (hval 2 22 v2 rfl rfl) h2
  obtain ⟨a3, rfl, rfl, rfl, w3⟩ := open_int Try.underlying22 (hval 3 22 v3 rfl rfl) h3
  obtain ⟨a4, rfl, rfl, rfl, w4⟩ := open_int Try.underlying3 (hval 4 3 v4 rfl rfl) h4
  obtain ⟨a5, rfl, rfl, rfl, w5⟩ := open_int Try.underlying22 (hval 5 22 v5 rfl rfl) h5
  clear hA0 hval0
  refine (wrong_run a0 a1 a2 a3 a4 a5 W w0 w1 w2 w3 w4 w5).mono fun e W' ⟨he, bel⟩ => ?_
  subst he
  exact ⟨_, rfl, _, _, _, [], _, [], hW', trodAll_mk1 (shut_bool Try.underlying4 _), (trodAll_cons_mk (shut_int Try.underlying3 w0) (trodAll_cons_mk (shut_int Try.underlying22 w1) (trodAll_cons_mk (shut_int Try.underlying22 w2) (trodAll_cons_mk (shut_int Try.underlying22 w3) (trodAll_cons_mk (shut_int Try.underlying3 w4) (trodAll_cons_mk (shut_int Try.underlying22 w5) trodAll_mk0)))))), rfl, bel.frame _, fun h => by cases h⟩
theorem pathWrong_over : Rows.pathWrongRow.holds Try.pinned (OpenSpec.ofChange Rows.pathWrongSpec) :=
  OpenClaim.holds_of_wide 8 Try.f8 rfl rfl rfl rfl rfl rfl rfl ⟨rfl, rfl, rfl, rfl, rfl⟩ rfl rfl rfl rfl rfl (by kernel_rfl) Try.func8 (by kernel_rfl)
    (of_decide_eq_true (by kernel_rfl)) (by unfold Func.isWrapper; first | (rw [if_pos (by decide +kernel)]; kernel_rfl) | (rw [if_neg (by decide +kernel)]; exact ⟨rfl, rfl⟩))
    (fun os started H enc _ => pathWrong_lifted os started H enc)
theorem pathWrong_holds : Rows.PathWrongSaid := pathWrong_over
#print axioms pathWrong_holds
end Go.Proofs.Ytpeoallhbbleaaa
