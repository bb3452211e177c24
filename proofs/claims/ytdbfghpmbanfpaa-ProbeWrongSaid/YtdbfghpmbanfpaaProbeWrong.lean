/- ProbeWrong: times that may not be make no probe; a target that is none, or a time too late, starts none, and all stays as it was; idle it is not answered: for all times, targets, Seqs. -/
import Derived.Test.YtdbfghpmbanfpaaPbEx
import Derived.Deep.DeepCutAuto
import Derived.BigGuard
import Derived.BigCall
import Derived.ChangeOld
import Derived.ChangeMaps5
import Derived.ShutString
import Derived.OpenShut
import Derived.SizedLaws
namespace Go.Proofs.Ytdbfghpmbanfpaa
open Go.Sort Go.RowKit Go.BigFrame Go.ChangeShapes Go.WideShapes Go.Deep
set_option linter.unusedVariables false
set_option linter.unusedSimpArgs false

set_option maxHeartbeats 6400000 in
set_option maxRecDepth 100000 in
theorem wrong_walk (a b tg now sq : Int) (w : World) :
    Calls Try.prog 5 #[.int .u64 a, .int .u64 b, .int .i64 tg, .int .u64 now, .int .u32 sq] w fun e w' => e = .returned (.bool true) ∧ Below w.heap.size w w' := by
  have E := ex_any w
  obtain ⟨m, hm⟩ : ∃ m, (decide (1 ≤ a) && decide (a ≤ 1000000) && decide (1 ≤ b) && decide (b ≤ 1000000)) = m := ⟨_, rfl⟩
  obtain ⟨f, hf⟩ : ∃ f, (decide (1 ≤ tg) && decide (tg ≤ 32) && decide (now ≤ 4611686018427387904)) = f := ⟨_, rfl⟩
  obtain ⟨p0, e0, hN, hE⟩ : ∃ p0 e0, newP a b = (p0, e0) ∧ (if m = true then e0 = 0 else e0 = 1) := by
    refine ⟨(newP a b).1, (newP a b).2, rfl, ?_⟩
    subst hm
    unfold newP mayB
    by_cases h : (1 ≤ a ∧ a ≤ 1000000) ∧ 1 ≤ b ∧ b ≤ 1000000
    · obtain ⟨⟨h1, h2⟩, h3, h4⟩ := h
      simp [h1, h2, h3, h4, show 0 < a by omega, show 0 < b by omega]
    · have h1 : ¬ ((decide (1 ≤ a) && decide (a ≤ 1000000) && decide (1 ≤ b) && decide (b ≤ 1000000)) = true) := by simp; omega
      have h2 : ¬ ((decide (0 < a) && decide (a ≤ 1000000) && (decide (0 < b) && decide (b ≤ 1000000))) = true) := by simp; omega
      rw [if_neg h1, if_neg h2]
  obtain ⟨q, e1, hS, hQ⟩ : ∃ q e1, startP ⟨0, 0, 0, 0, 0, 3, 4⟩ tg sq now = (q, e1) ∧ (if f = true then e1 = 0 ∧ q = ⟨1, tg, 0, sq, IntKind.u64.wrap (now + 3), 3, 4⟩ else e1 = 1 ∧ q = ⟨0, 0, 0, 0, 0, 3, 4⟩) := by
    refine ⟨(startP ⟨0, 0, 0, 0, 0, 3, 4⟩ tg sq now).1, (startP ⟨0, 0, 0, 0, 0, 3, 4⟩ tg sq now).2, rfl, ?_⟩
    subst hf
    unfold startP
    by_cases h : 1 ≤ tg ∧ tg ≤ 32 ∧ now ≤ 4611686018427387904
    · obtain ⟨h1, h2, h3⟩ := h
      rw [if_pos (by simp [h1, h2, h3]), if_neg (by omega)]
      exact ⟨rfl, rfl⟩
    · rw [if_neg (by simp; omega), if_pos (by omega)]
      exact ⟨rfl, rfl⟩
  have HM := Lib.hid hm
  have HF := Lib.hid hf
  have HE := Lib.hid hE
  have HQ := Lib.hid hQ
  clear hm hf hE hQ
  go_enter Try.func5, Try.ntmps5
  go_wp2_with fail
  refine E.mono ?_; rintro e w1 ⟨rfl, b1⟩
  have K := new_l a b hN (St.start w w1 b1)
  clear E b1 hN
  go_wp2_with fail
  refine K.mono ?_; rintro e w2 ⟨rfl, s⟩
  have S := Lib.hid (s.pbox p0)
  clear K s
  go_upto_region 5 with fail
  generalize (w2.alloc (.cells #[.int .i64 p0.st, .int .i64 p0.tg, .int .i64 p0.nk, .int .u32 p0.sq, .int .u64 p0.un, .int .u64 p0.fi, .int .u64 p0.se] 26)) = wa at *
  generalize w2.heap.size = d0 at *
  go_cut [14] (fun c wx => c = .bool m ∧ wa = wx)
  case first =>
    clear S HF HE HQ hS
    by_cases h1 : 1 ≤ a
    · have h1d : decide (1 ≤ a) = true := decide_eq_true h1
      by_cases h2 : a ≤ 1000000
      · have h2d : decide (a ≤ 1000000) = true := decide_eq_true h2
        by_cases h3 : 1 ≤ b
        · have h3d : decide (1 ≤ b) = true := decide_eq_true h3
          by_cases h4 : b ≤ 1000000
          · have h4d : decide (b ≤ 1000000) = true := decide_eq_true h4
            obtain rfl : m = true := by rw [← HM.out]; simp [h1, h2, h3, h4]
            clear HM
            go_wp2_with fail
            go_meet
            exact ⟨rfl, rfl⟩
          · have h4d : decide (b ≤ 1000000) = false := decide_eq_false h4
            obtain rfl : m = false := by rw [← HM.out]; simp [h4]
            clear HM
            go_wp2_with fail
            go_meet
            exact ⟨rfl, rfl⟩
        · have h3d : decide (1 ≤ b) = false := decide_eq_false h3
          obtain rfl : m = false := by rw [← HM.out]; simp [h3]
          clear HM
          go_wp2_with fail
          go_meet
          exact ⟨rfl, rfl⟩
      · have h2d : decide (a ≤ 1000000) = false := decide_eq_false h2
        obtain rfl : m = false := by rw [← HM.out]; simp [h2]
        clear HM
        go_wp2_with fail
        go_meet
        exact ⟨rfl, rfl⟩
    · have h1d : decide (1 ≤ a) = false := decide_eq_false h1
      obtain rfl : m = false := by rw [← HM.out]; simp [h1]
      clear HM
      go_wp2_with fail
      go_meet
      exact ⟨rfl, rfl⟩
  case rest =>
    obtain ⟨rfl, rfl⟩ := hcut
    clear HM
    have K := new_l 3 4 (p := ⟨0, 0, 0, 0, 0, 3, 4⟩) (e := 0) rfl S.out
    go_wp2_with fail
    refine K.mono ?_; rintro e w3 ⟨rfl, s⟩
    clear K
    replace S := Lib.hid s
    have K := start_l _ _ _ _ hS (S.out.pbox ⟨0, 0, 0, 0, 0, 3, 4⟩)
    clear s hS
    go_wp2_with fail
    refine K.mono ?_; rintro e w4 ⟨rfl, s⟩
    replace S := Lib.hid (s.pbox q)
    clear K s
    go_upto_region 8 with fail
    generalize (w4.alloc (.cells #[.int .i64 q.st, .int .i64 q.tg, .int .i64 q.nk, .int .u32 q.sq, .int .u64 q.un, .int .u64 q.fi, .int .u64 q.se] 26)) = wb at *
    generalize w4.heap.size = d2 at *
    generalize w3.heap.size = d1 at *
    go_cut [19] (fun c wx => c = .bool f ∧ wb = wx)
    case first =>
      clear S HE HQ
      by_cases h1 : 1 ≤ tg
      · have h1d : decide (1 ≤ tg) = true := decide_eq_true h1
        by_cases h2 : tg ≤ 32
        · have h2d : decide (tg ≤ 32) = true := decide_eq_true h2
          by_cases h3 : now ≤ 4611686018427387904
          · have h3d : decide (now ≤ 4611686018427387904) = true := decide_eq_true h3
            obtain rfl : f = true := by rw [← HF.out]; simp [h1, h2, h3]
            clear HF
            go_wp2_with fail
            go_meet
            exact ⟨rfl, rfl⟩
          · have h3d : decide (now ≤ 4611686018427387904) = false := decide_eq_false h3
            obtain rfl : f = false := by rw [← HF.out]; simp [h3]
            clear HF
            go_wp2_with fail
            go_meet
            exact ⟨rfl, rfl⟩
        · have h2d : decide (tg ≤ 32) = false := decide_eq_false h2
          obtain rfl : f = false := by rw [← HF.out]; simp [h2]
          clear HF
          go_wp2_with fail
          go_meet
          exact ⟨rfl, rfl⟩
      · have h1d : decide (1 ≤ tg) = false := decide_eq_false h1
        obtain rfl : f = false := by rw [← HF.out]; simp [h1]
        clear HF
        go_wp2_with fail
        go_meet
        exact ⟨rfl, rfl⟩
    case rest =>
      obtain ⟨rfl, rfl⟩ := hcut
      clear HF
      obtain ⟨c0, c1, c2, c3, c4, c5, c6⟩ := S.out.pc (b := d1) (p := ⟨0, 0, 0, 0, 0, 3, 4⟩) (by simp)
      have K := ack_l ⟨0, 0, 0, 0, 0, 3, 4⟩ sq (q := ⟨0, 0, 0, 0, 0, 3, 4⟩) (e := false) rfl S.out
      go_wp2_with fail
      refine K.mono ?_; rintro e w5 ⟨rfl, s⟩
      clear K S c0 c1 c2 c3 c4 c5 c6
      have S := Lib.hid s
      obtain ⟨c0, c1, c2, c3, c4, c5, c6⟩ := S.out.pc (b := d1) (p := ⟨0, 0, 0, 0, 0, 3, 4⟩) (by simp)
      have l1 := S.out.pl (b := d1) (p := ⟨0, 0, 0, 0, 0, 3, 4⟩) (by simp)
      have K := nack_l ⟨0, 0, 0, 0, 0, 3, 4⟩ sq (q := ⟨0, 0, 0, 0, 0, 3, 4⟩) (e := false) rfl (S.out.pbox ⟨0, 0, 0, 0, 0, 3, 4⟩)
      clear s
      go_wp2_with fail
      refine K.mono ?_; rintro e w6 ⟨rfl, s⟩
      clear K S c0 c1 c2 c3 c4 c5 c6 l1
      have S := Lib.hid s
      obtain ⟨c0, c1, c2, c3, c4, c5, c6⟩ := S.out.pc (b := d1) (p := ⟨0, 0, 0, 0, 0, 3, 4⟩) (by simp)
      have l1 := S.out.pl (b := d1) (p := ⟨0, 0, 0, 0, 0, 3, 4⟩) (by simp)
      have K := tick_l ⟨0, 0, 0, 0, 0, 3, 4⟩ now (q := ⟨0, 0, 0, 0, 0, 3, 4⟩) (e := 0) rfl (S.out.pbox ⟨0, 0, 0, 0, 0, 3, 4⟩)
      clear s
      go_wp2_with fail
      refine K.mono ?_; rintro e w7 ⟨rfl, s⟩
      clear K S c0 c1 c2 c3 c4 c5 c6 l1
      have S := Lib.hid s
      obtain ⟨c0, c1, c2, c3, c4, c5, c6⟩ := S.out.pc (b := d1) (p := ⟨0, 0, 0, 0, 0, 3, 4⟩) (by simp)
      obtain ⟨k0, k1, k2, k3, k4, k5, k6⟩ := S.out.pc (b := d2) (p := q) (by simp)
      have l1 := S.out.pl (b := d1) (p := ⟨0, 0, 0, 0, 0, 3, 4⟩) (by simp)
      have l2 := S.out.pl (b := d2) (p := q) (by simp)
      have F := Lib.hid (S.out.pbox ⟨0, 0, 0, 0, 0, 3, 4⟩).below
      clear s S
      go_upto_region 12 with fail
      dsimp only [List.append]
      have HE := HE.out
      have HQ := HQ.out
      cases f
      · rw [if_neg (by decide)] at HQ
        obtain ⟨rfl, rfl⟩ := HQ
        cases m
        · rw [if_neg (by decide)] at HE
          subst HE
          go_wp2
          go_ret
          exact ⟨rfl, F.out⟩
        · rw [if_pos rfl] at HE
          subst HE
          go_wp2
          go_ret
          exact ⟨rfl, F.out⟩
      · rw [if_pos rfl] at HQ
        obtain ⟨rfl, rfl⟩ := HQ
        cases m
        · rw [if_neg (by decide)] at HE
          subst HE
          go_wp2
          go_ret
          exact ⟨rfl, F.out⟩
        · rw [if_pos rfl] at HE
          subst HE
          go_wp2
          go_ret
          exact ⟨rfl, F.out⟩
theorem wrong_run (a b tg now sq : Int) (w : World) (_ : (Lit.int .u64 a).wf = true) (_ : (Lit.int .u64 b).wf = true) (_ : (Lit.int .i64 tg).wf = true) (_ : (Lit.int .u64 now).wf = true) (_ : (Lit.int .u32 sq).wf = true) :
    Calls Try.prog 5 #[.int .u64 a, .int .u64 b, .int .i64 tg, .int .u64 now, .int .u32 sq] w fun e w' => e = .returned (.bool true) ∧ Below w.heap.size w w' := wrong_walk a b tg now sq w
theorem probeWrong_own : ownKnob Try.prog.godebug = none := by kernel_rfl
theorem probeWrong_laid : laidOutB Try.prog = true := by kernel_rfl
set_option maxRecDepth 100000 in
theorem probeWrong_lifted (os : Os) (started : os.Started) (H : Type) (enc : TypeId × Value → H) :
    ReturnsInHanded {} Try.checked os 5 .any (Rows.probeWrongSpec.pre6 enc Try.prog Try.f5 Rows.probeWrongRow.domain false) (Rows.probeWrongSpec.post enc Try.prog Try.f5 false true false false) := by
  refine returnsInHanded_of_change (C := Try.checked) probeWrong_own started (by kernel_rfl) Try.func5
    (ChangeSpec.witness6 (enc := enc) (C := Try.checked) false ⟨#[], #[.int .u64 0, .int .u64 0, .int .i64 0, .int .u64 0, .int .u32 0], []⟩ 8 (by kernel_rfl) (by kernel_rfl) (by kernel_rfl) (by kernel_rfl)) ?_
  intro W base args ds gs before hval0 hW hcnd _
  have hval : ∀ (j : Nat) t v, Try.f5.params[j]? = some t → args[j]? = some v → Value.okWide Try.prog W .any base t v := hval0
  have hW' := hW
  obtain ⟨p, q, hA0, hV, rfl, hfz, hnd⟩ := hW
  have hA : DataW.TrodAll enc Try.prog W 0 (fun _ => true) true Try.f5.params.toList args.toList ds p := hA0
  rw [Try.params5] at hA hval
  obtain ⟨v0, vs0, d0, ds0, p0, q0, hargs, rfl, rfl, h0, r0⟩ := trodAll_cons hA
  obtain ⟨v1, vs1, d1, ds1, p1, q1, rfl, rfl, rfl, h1, r1⟩ := trodAll_cons r0
  obtain ⟨v2, vs2, d2, ds2, p2, q2, rfl, rfl, rfl, h2, r2⟩ := trodAll_cons r1
  obtain ⟨v3, vs3, d3, ds3, p3, q3, rfl, rfl, rfl, h3, r3⟩ := trodAll_cons r2
  obtain ⟨v4, vs4, d4, ds4, p4, q4, rfl, rfl, rfl, h4, r4⟩ := trodAll_cons r3
  obtain ⟨rfl, rfl, rfl⟩ := trodAll_nil r4
  obtain rfl : args = #[v0, v1, v2, v3, v4] := by cases args; simp_all
  obtain ⟨rfl, rfl⟩ := trodVars_none hV
  obtain ⟨a0, rfl, rfl, rfl, w0⟩ := open_int Try.underlying23 (hval 0 23 v0 rfl rfl) h0
  obtain ⟨a1, rfl, rfl, rfl, w1⟩ := open_int Try.underlying23 (hval 1 23 v1 rfl rfl) h1
  obtain ⟨a2, rfl, rfl, rfl, w2⟩ := open_int Try.underlying3 (hval 2 3 v2 rfl rfl) h2
  obtain ⟨a3, rfl, rfl, rfl, w3⟩ := open_int Try.underlying23 (hval 3 23 v3 rfl rfl) h3
  obtain ⟨a4, rfl, rfl, rfl, w4⟩ := open_int Try.underlying24 (hval 4 24 v4 rfl rfl) h4
  clear hA0 hval0
  refine (wrong_run a0 a1 a2 a3 a4 W w0 w1 w2 w3 w4).mono fun e W' ⟨he, bel⟩ => ?_
  subst he
  exact ⟨_, rfl, _, _, _, [], _, [], hW', trodAll_mk1 (shut_bool Try.underlying4 _), (trodAll_cons_mk (shut_int Try.underlying23 w0) (trodAll_cons_mk (shut_int Try.underlying23 w1) (trodAll_cons_mk (shut_int Try.underlying3 w2) (trodAll_cons_mk (shut_int Try.underlying23 w3) (trodAll_cons_mk (shut_int Try.underlying24 w4) trodAll_mk0))))), rfl, bel.frame _, fun h => by cases h⟩
theorem probeWrong_over : Rows.probeWrongRow.holds Try.pinned (OpenSpec.ofChange Rows.probeWrongSpec) :=
  OpenClaim.holds_of_wide 5 Try.f5 rfl rfl rfl rfl rfl rfl rfl ⟨rfl, rfl, rfl, rfl, rfl⟩ rfl rfl rfl rfl rfl (by kernel_rfl) Try.func5 (by kernel_rfl)
    (of_decide_eq_true (by kernel_rfl)) (by unfold Func.isWrapper; first | (rw [if_pos (by decide +kernel)]; kernel_rfl) | (rw [if_neg (by decide +kernel)]; exact ⟨rfl, rfl⟩))
    (fun os started H enc _ => probeWrong_lifted os started H enc)
theorem probeWrong_holds : Rows.ProbeWrongSaid := probeWrong_over
#print axioms probeWrong_holds
end Go.Proofs.Ytdbfghpmbanfpaa
