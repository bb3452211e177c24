/- QueueWrong: what is no record, or is to be told never, or too often, is refused; a queue of no room is none: for every record, every number of times, every room. -/
import Derived.Test.YthebcaielbnhjaaQuThings
import Derived.Deep.DeepCutAuto
import Derived.ChangeOld
import Derived.ChangeMaps5
import Derived.ShutString
import Derived.OpenShut
import Derived.SizedLaws
namespace Go.Proofs.Ythebcaielbnhjaa
open Go.Sort Go.RowKit Go.BigFrame Go.ChangeShapes Go.WideShapes Go.ChangeAt
open Go.ChangeMaps (open_string shut_string)
set_option linter.unusedVariables false
set_option linter.unusedSimpArgs false

theorem times_least (n : Int) (h : n ≤ 9223372036854775807) : 3 ≤ timesN n ∧ timesN n ≤ 189 := by
  have h1 := Lib.bitLen_half (max n 1).toNat (by omega) (by omega)
  have h2 := bitLen_le64 (max n 1).toNat (by omega)
  unfold timesN
  omega
theorem err_new (r : Rec) (n : Int) : errA [] r n = (if (r.right && fitT n) = true then 0 else 1) := by unfold errA badS; simp
theorem add_new (r : Rec) (n : Int) : (addS 4 [] r n).length = (if (r.right && fitT n) = true then 1 else 0) := by
  unfold addS
  rw [err_new]
  split
  · rw [if_pos rfl]; simp [restS, put_nil]
  · rw [if_neg (by decide)]; rfl
set_option maxHeartbeats 3200000 in
set_option maxRecDepth 20000 in
theorem wrong_walk (t : Th) (ht : t.r.Ok) (n room : Int) (w : World) (hn : -9223372036854775808 ≤ n ∧ n ≤ 9223372036854775807) :
    Calls Try.prog 7 #[.agg #[.int .i64 t.r.id, .int .i64 t.r.st, .int .u32 t.r.n, .int .u32 t.r.ip, .int .u16 t.r.port, .bool t.own], .int .i64 n, .int .i64 room] w fun e w' => e = .returned (.bool true) ∧ Below w.heap.size w w' := by
  have B0 : Hid (St w [hC w.heap.size (tcs t)] (w.alloc (.cells #[.int .i64 t.r.id, .int .i64 t.r.st, .int .u32 t.r.n, .int .u32 t.r.ip, .int .u16 t.r.port, .bool t.own] 39))) := (St.start w w (Below.refl _ _)).box (tcs t) _
  have E := fun w => ex_any w
  have TH := thing_any t ht
  have hrok := thR_ok ht
  go_enter Try.func7, Try.ntmps7
  go_upto_region 1 with fail
  generalize (w.alloc (.cells #[.int .i64 t.r.id, .int .i64 t.r.st, .int .u32 t.r.n, .int .u32 t.r.ip, .int .u16 t.r.port, .bool t.own] 39)) = wa at *
  go_wp2_with fail
  refine (E _).mono ?_; rintro e w1 ⟨rfl, b1⟩
  have s1 := B0.out.keep b1
  have K := new_l room s1
  obtain ⟨er, her⟩ : ∃ er, (if roomI room = true then (0 : Int) else 1) = er := ⟨_, rfl⟩
  rw [her] at K
  replace her := Lib.hid her
  clear E b1 s1 B0
  go_wp2_with fail
  refine K.mono ?_; rintro e w2 ⟨p, rfl, hp⟩
  clear K
  have S2 : Hid (St w [hC w.heap.size (tcs t)] w2) := by
    rcases hp with ⟨_, _, s⟩ | ⟨_, g, _, s⟩
    · exact s
    · exact s.drop
  go_upto_region 5 with fail
  go_cut [38] (fun c wx => c = .bool false ∧ w2 = wx)
  case first =>
    rcases hp with ⟨h, rfl, _⟩ | ⟨h, g, rfl, _⟩
    · have h' : ¬ (1 ≤ room ∧ room ≤ 64) := fun e => by rw [room_iff.2 e] at h; cases h
      have her0 : er = 1 := by rw [← her.out, h]; rfl
      subst her0
      clear h S2 TH her
      by_cases h1 : 1 ≤ room
      · have h2 : decide (room ≤ 64) = false := decide_eq_false (by omega)
        have h1' : decide (1 ≤ room) = true := decide_eq_true h1
        clear h'
        go_wp2_with fail
        go_meet
        exact ⟨rfl, rfl⟩
      · have h1' : decide (1 ≤ room) = false := decide_eq_false h1
        clear h'
        go_wp2_with fail
        go_meet
        exact ⟨rfl, rfl⟩
    · have h' := room_iff.1 h
      have her0 : er = 0 := by rw [← her.out, h]; rfl
      subst her0
      obtain ⟨h1, h2⟩ := h'
      have h1' : decide (1 ≤ room) = true := decide_eq_true h1
      have h2' : decide (room ≤ 64) = true := decide_eq_true h2
      clear h S2 TH her
      go_wp2_with fail
      go_meet
      exact ⟨rfl, rfl⟩
  case rest =>
    obtain ⟨rfl, rfl⟩ := hcut
    clear hp her
    have K := newq_ok 4 (by decide) (by decide) S2.out
    clear S2
    go_wp2_with fail
    refine K.mono ?_; rintro e w3 ⟨g, rfl, s3⟩
    have S3 := Lib.hid s3
    clear K s3
    have c0 := (S3.out.cs (b := w.heap.size) (vs := tcs t) (by simp)).cell 0 _ rfl
    have c1 := (S3.out.cs (b := w.heap.size) (vs := tcs t) (by simp)).cell 1 _ rfl
    have c2 := (S3.out.cs (b := w.heap.size) (vs := tcs t) (by simp)).cell 2 _ rfl
    have c3 := (S3.out.cs (b := w.heap.size) (vs := tcs t) (by simp)).cell 3 _ rfl
    have c4 := (S3.out.cs (b := w.heap.size) (vs := tcs t) (by simp)).cell 4 _ rfl
    have c5 := (S3.out.cs (b := w.heap.size) (vs := tcs t) (by simp)).cell 5 _ rfl
    go_wp2_with fail
    refine (TH _).mono ?_; rintro e w4 ⟨rfl, b4⟩
    have S4 : Hid (St w [hC w4.heap.size (rcs (thR t)), hQ true g 4 ⟨none, 0, 0⟩ []] (w4.alloc (.cells #[.int .i64 (thR t).id, .int .i64 (thR t).st, .int .u32 (thR t).n, .int .u32 (thR t).ip, .int .u16 (thR t).port] 37))) := ((S3.out.keep b4).sub (H' := [hQ true g 4 ⟨none, 0, 0⟩ []]) (by simp)).box (rcs (thR t)) _
    clear b4 TH S3 c0 c1 c2 c3 c4 c5
    go_upto_region 11 with fail
    generalize (w4.alloc (.cells #[.int .i64 (thR t).id, .int .i64 (thR t).st, .int .u32 (thR t).n, .int .u32 (thR t).ip, .int .u16 (thR t).port] 37)) = w5 at *
    generalize w4.heap.size = rb at *
    have R := right_rec (thR t) hrok
    obtain ⟨wt, hwt⟩ : ∃ wt, ((thR t).right && fitT n) = wt := ⟨_, rfl⟩
    have HW := Lib.hid hwt
    go_cut [13] (fun c wx => c = .bool wt ∧ St w [hC rb (rcs (thR t)), hQ true g 4 ⟨none, 0, 0⟩ []] wx)
    case first =>
      have c0 := (S4.out.cs (b := rb) (vs := rcs (thR t)) (by simp)).cell 0 _ rfl
      have c1 := (S4.out.cs (b := rb) (vs := rcs (thR t)) (by simp)).cell 1 _ rfl
      have c2 := (S4.out.cs (b := rb) (vs := rcs (thR t)) (by simp)).cell 2 _ rfl
      have c3 := (S4.out.cs (b := rb) (vs := rcs (thR t)) (by simp)).cell 3 _ rfl
      have c4 := (S4.out.cs (b := rb) (vs := rcs (thR t)) (by simp)).cell 4 _ rfl
      cases hrr : (thR t).right with
      | false =>
        rw [hrr] at R hwt
        simp only [Bool.false_and] at hwt
        subst hwt
        clear HW
        go_wp2_with fail
        refine (R _).mono ?_; rintro e w6 ⟨rfl, b6⟩
        have S6 := Lib.hid (S4.out.keep b6)
        clear b6 R
        go_wp2_with fail
        go_meet
        exact ⟨rfl, S6.out⟩
      | true =>
        rw [hrr] at R hwt
        simp only [Bool.true_and] at hwt
        by_cases h1 : 1 ≤ n
        · have h1' : decide (1 ≤ n) = true := decide_eq_true h1
          by_cases h2 : n ≤ 100
          · have h2' : decide (n ≤ 100) = true := decide_eq_true h2
            have : wt = true := by rw [← hwt]; exact fit_iff.2 ⟨h1, h2⟩
            subst this
            clear hwt HW
            go_wp2_with fail
            refine (R _).mono ?_; rintro e w6 ⟨rfl, b6⟩
            have S6 := Lib.hid (S4.out.keep b6)
            clear b6 R
            go_wp2_with fail
            go_meet
            exact ⟨rfl, S6.out⟩
          · have h2' : decide (n ≤ 100) = false := decide_eq_false h2
            have : wt = false := by rw [← hwt]; unfold fitT; rw [h1', h2']; rfl
            subst this
            clear hwt HW
            go_wp2_with fail
            refine (R _).mono ?_; rintro e w6 ⟨rfl, b6⟩
            have S6 := Lib.hid (S4.out.keep b6)
            clear b6 R
            go_wp2_with fail
            go_meet
            exact ⟨rfl, S6.out⟩
        · have h1' : decide (1 ≤ n) = false := decide_eq_false h1
          have : wt = false := by rw [← hwt]; unfold fitT; rw [h1']; rfl
          subst this
          clear hwt HW
          go_wp2_with fail
          refine (R _).mono ?_; rintro e w6 ⟨rfl, b6⟩
          have S6 := Lib.hid (S4.out.keep b6)
          clear b6 R
          go_wp2_with fail
          go_meet
          exact ⟨rfl, S6.out⟩
    case rest =>
      obtain ⟨rfl, hs⟩ := hcut
      generalize wc = w6 at *
      clear S4 R hwt
      have S6 := Lib.hid hs
      have c0 := (S6.out.cs (b := rb) (vs := rcs (thR t)) (by simp)).cell 0 _ rfl
      have c1 := (S6.out.cs (b := rb) (vs := rcs (thR t)) (by simp)).cell 1 _ rfl
      have c2 := (S6.out.cs (b := rb) (vs := rcs (thR t)) (by simp)).cell 2 _ rfl
      have c3 := (S6.out.cs (b := rb) (vs := rcs (thR t)) (by simp)).cell 3 _ rfl
      have c4 := (S6.out.cs (b := rb) (vs := rcs (thR t)) (by simp)).cell 4 _ rfl
      have K := add_l (thR t) hrok n [_] [] hs
      have hln := add_new (thR t) n
      rw [err_new, HW.out] at K
      rw [HW.out] at hln
      generalize addS 4 [] (thR t) n = S1 at *
      clear hs
      go_wp2_with fail
      refine K.mono ?_; rintro e w7 ⟨rfl, v1, s⟩
      have KL := len_l (g := g) (room := 4) (v := v1) (S := S1) s (by simp)
      rw [hln] at KL
      obtain ⟨q, hq⟩ : ∃ q, n.tmod 30 = q := ⟨_, rfl⟩
      have hq2 : q ≤ 29 := by rw [← hq]; have := Int.tmod_lt_of_pos n (show (0 : Int) < 30 by decide); omega
      obtain ⟨z1, z2⟩ := times_least q (by omega)
      have KT := times_b q (by omega)
      have HB := Lib.hid s.below
      generalize timesN q = z at *
      have z3 : decide ((3 : Int) ≤ z) = true := decide_eq_true (by omega)
      have z4 : (3 : Int) ≤ z := by omega
      clear K s c0 c1 c2 c3 c4 S6 hln
      cases wt
      · go_wp2_with fail
        refine KL.mono ?_; rintro e w8 ⟨rfl, rfl⟩
        go_wp2_with fail
        refine (KT _).mono ?_; rintro e w9 ⟨rfl, b9⟩
        have HB2 := Lib.hid (HB.out.trans (b9.mono HB.out.size))
        clear b9
        go_wp2
        go_ret
        exact ⟨rfl, HB2.out⟩
      · go_wp2_with fail
        refine KL.mono ?_; rintro e w8 ⟨rfl, rfl⟩
        go_wp2_with fail
        refine (KT _).mono ?_; rintro e w9 ⟨rfl, b9⟩
        have HB2 := Lib.hid (HB.out.trans (b9.mono HB.out.size))
        clear b9
        go_wp2
        go_ret
        exact ⟨rfl, HB2.out⟩
theorem wrong_run (i1 s1 n1 p1 q1 : Int) (o1 : Bool) (n room : Int) (w : World) (_ : (Lit.int .i64 i1).wf = true) (_ : (Lit.int .i64 s1).wf = true) (h1 : (Lit.int .u32 n1).wf = true) (g1 : (Lit.int .u32 p1).wf = true) (k1 : (Lit.int .u16 q1).wf = true) (hn : (Lit.int .i64 n).wf = true) (_ : (Lit.int .i64 room).wf = true) :
    Calls Try.prog 7 #[.agg #[.int .i64 i1, .int .i64 s1, .int .u32 n1, .int .u32 p1, .int .u16 q1, .bool o1], .int .i64 n, .int .i64 room] w fun e w' => e = .returned (.bool true) ∧ Below w.heap.size w w' := by
  obtain ⟨t1, ht1, rfl, rfl, rfl, rfl, rfl⟩ := rec_of (i := i1) (st := s1) h1 g1 k1
  have b := bounds_i64 hn
  exact wrong_walk ⟨t1, o1⟩ ht1 n room w ⟨by omega, by omega⟩
theorem queueWrong_own : ownKnob Try.prog.godebug = none := by kernel_rfl
theorem queueWrong_laid : laidOutB Try.prog = true := by kernel_rfl
set_option maxRecDepth 100000 in
theorem queueWrong_lifted (os : Os) (started : os.Started) (H : Type) (enc : TypeId × Value → H) :
    ReturnsInHanded {} Try.checked os 7 .any (Rows.queueWrongSpec.pre6 enc Try.prog Try.f7 Rows.queueWrongRow.domain false) (Rows.queueWrongSpec.post enc Try.prog Try.f7 false true false false) := by
  refine returnsInHanded_of_change (C := Try.checked) queueWrong_own started (by kernel_rfl) Try.func7
    (ChangeSpec.witness6 (enc := enc) (C := Try.checked) false ⟨#[], #[.agg #[.int .i64 0, .int .i64 0, .int .u32 0, .int .u32 0, .int .u16 0, .bool false], .int .i64 0, .int .i64 0], []⟩ 8 (by kernel_rfl) (by kernel_rfl) (by kernel_rfl) (by kernel_rfl)) ?_
  intro W base args ds gs before hval0 hW hcnd _
  have hval : ∀ (j : Nat) t v, Try.f7.params[j]? = some t → args[j]? = some v → Value.okWide Try.prog W .any base t v := hval0
  have hW' := hW
  obtain ⟨p, q, hA0, hV, rfl, hfz, hnd⟩ := hW
  have hA : DataW.TrodAll enc Try.prog W 0 (fun _ => true) true Try.f7.params.toList args.toList ds p := hA0
  rw [Try.params7] at hA hval
  obtain ⟨v0, vs0, d0, ds0, p0, q0, hargs, rfl, rfl, h0, r0⟩ := trodAll_cons hA
  obtain ⟨v1, vs1, d1, ds1, p1, q1, rfl, rfl, rfl, h1, r1⟩ := trodAll_cons r0
  obtain ⟨v2, vs2, d2, ds2, p2, q2, rfl, rfl, rfl, h2, r2⟩ := trodAll_cons r1
  obtain ⟨rfl, rfl, rfl⟩ := trodAll_nil r2
  obtain rfl : args = #[v0, v1, v2] := by cases args; simp_all
  obtain ⟨rfl, rfl⟩ := trodVars_none hV
  have k0 := h0
  have lt0 : ∀ x ∈ p0, x.block < W.heap.size := by obtain ⟨m, hm⟩ := k0; exact DataW.trod_lt m _ _ _ hm
  obtain ⟨a0_0, a0_1, a0_2, a0_3, a0_4, a0_5, rfl, w0_0, w0_1, w0_2, w0_3, w0_4⟩ := open_thing (hval 0 39 v0 rfl rfl) h0
  obtain ⟨a1, rfl, rfl, rfl, w1⟩ := open_int Try.underlying3 (hval 1 3 v1 rfl rfl) h1
  obtain ⟨a2, rfl, rfl, rfl, w2⟩ := open_int Try.underlying3 (hval 2 3 v2 rfl rfl) h2
  clear hA0 hval0
  refine (wrong_run a0_0 a0_1 a0_2 a0_3 a0_4 a0_5 a1 a2 W w0_0 w0_1 w0_2 w0_3 w0_4 w1 w2).mono fun e W' ⟨he, bel⟩ => ?_
  subst he
  exact ⟨_, rfl, _, _, _, [], _, [], hW', trodAll_mk1 (shut_bool Try.underlying4 _), (trodAll_cons_mk (Below.trod queueWrong_laid (by kernel_rfl) (of_decide_eq_true (by kernel_rfl)) k0 bel lt0) (trodAll_cons_mk (shut_int Try.underlying3 w1) (trodAll_cons_mk (shut_int Try.underlying3 w2) trodAll_mk0))), rfl, bel.frame _, fun h => by cases h⟩
theorem queueWrong_over : Rows.queueWrongRow.holds Try.pinned (OpenSpec.ofChange Rows.queueWrongSpec) :=
  OpenClaim.holds_of_wide 7 Try.f7 rfl rfl rfl rfl rfl rfl rfl ⟨rfl, rfl, rfl, rfl, rfl⟩ rfl rfl rfl rfl rfl (by kernel_rfl) Try.func7 (by kernel_rfl)
    (of_decide_eq_true (by kernel_rfl)) (by unfold Func.isWrapper; first | (rw [if_pos (by decide +kernel)]; kernel_rfl) | (rw [if_neg (by decide +kernel)]; exact ⟨rfl, rfl⟩))
    (fun os started H enc _ => queueWrong_lifted os started H enc)
theorem queueWrong_holds : Rows.QueueWrongSaid := queueWrong_over
#print axioms queueWrong_holds
end Go.Proofs.Ythebcaielbnhjaa
