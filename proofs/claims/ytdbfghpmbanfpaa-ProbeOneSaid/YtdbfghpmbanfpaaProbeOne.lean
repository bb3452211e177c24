/- ProbeOne: there is one probe at a time; a nack counts in the second stage alone, and ends nothing: for every number of nacks, and two targets. -/
import Derived.Test.YtdbfghpmbanfpaaPbEx
import Derived.Deep.DeepCutAuto
import Derived.ChangeOld
import Derived.ChangeMaps5
import Derived.ShutString
import Derived.OpenShut
import Derived.SizedLaws
namespace Go.Proofs.Ytdbfghpmbanfpaa
open Go.Sort Go.RowKit Go.BigFrame Go.ChangeShapes Go.WideShapes Go.Deep
set_option linter.unusedVariables false
set_option linter.unusedSimpArgs false

def mk (k : Int) : Int := if 32 < k then 32 else k
theorem nk_mk (k : Int) (h0 : 0 ≤ k) (h1 : k ≤ 1000) : nkP (mk k) = mk (k + 1) := by
  unfold nkP mk wrap64
  split <;> split <;> split <;> omega
def OneJ (x n : Int) (w : World) (d q : Nat) (iv : Value) (wr : World) : Prop := ∃ k : Int, iv = .int .i64 k ∧ 0 ≤ k ∧ k ≤ n ∧ St w [hP q ⟨1, x, 0, 1, 5, 5, 5⟩, hP d ⟨2, x, mk k, 1, 10, 5, 5⟩] wr
set_option maxHeartbeats 6400000 in
set_option maxRecDepth 100000 in
theorem one_walk (n a b : Int) (hn : 0 ≤ n ∧ n ≤ 255) (ha : 0 ≤ a ∧ a ≤ 255) (hb : 0 ≤ b ∧ b ≤ 255) (w : World) :
    Calls Try.prog 4 #[.int .u8 n, .int .u8 a, .int .u8 b] w fun e w' => e = .returned (.bool true) ∧ Below w.heap.size w w' := by
  have E := ex_any w
  obtain ⟨m, hm⟩ : ∃ x, n % 41 = x := ⟨_, rfl⟩
  obtain ⟨x1, hx1⟩ : ∃ x, a % 32 = x := ⟨_, rfl⟩
  obtain ⟨x2, hx2⟩ : ∃ x, b % 32 = x := ⟨_, rfl⟩
  have t0 : n.tmod 41 = m := by rw [tmod_pos _ _ hn.1]; exact hm
  have t1 : a.tmod 32 = x1 := by rw [tmod_pos _ _ ha.1]; exact hx1
  have t2 : b.tmod 32 = x2 := by rw [tmod_pos _ _ hb.1]; exact hx2
  have b0 : 0 ≤ m ∧ m < 41 := by omega
  have b1 : 0 ≤ x1 ∧ x1 < 32 := by omega
  have b2 : 0 ≤ x2 ∧ x2 < 32 := by omega
  have u0 := IntWalk.u8_in m ⟨by omega, by omega⟩
  have u1 := IntWalk.u8_in x1 ⟨by omega, by omega⟩
  have u2 := IntWalk.u8_in x2 ⟨by omega, by omega⟩
  have v0 := IntWalk.i64_in m ⟨by omega, by omega⟩
  have v1 := IntWalk.i64_in x1 ⟨by omega, by omega⟩
  have v2 := IntWalk.i64_in x2 ⟨by omega, by omega⟩
  obtain ⟨x, hx⟩ : ∃ y, 1 + x1 = y := ⟨_, rfl⟩
  obtain ⟨y, hy⟩ : ∃ y, 1 + x2 = y := ⟨_, rfl⟩
  have k1 : IntKind.i64.wrap (1 + x1) = x := by rw [hx]; exact IntWalk.i64_in x ⟨by omega, by omega⟩
  have k2 : IntKind.i64.wrap (1 + x2) = y := by rw [hy]; exact IntWalk.i64_in y ⟨by omega, by omega⟩
  have c_start : Hid (startP ⟨0, 0, 0, 0, 0, 5, 5⟩ x 1 0 = (⟨1, x, 0, 1, 5, 5, 5⟩, 0)) := by
    show startP _ _ _ _ = _
    unfold startP
    rw [if_neg (by omega), if_pos rfl]
    rfl
  have c_full : Hid (startP ⟨1, x, 0, 1, 5, 5, 5⟩ y 2 0 = (⟨1, x, 0, 1, 5, 5, 5⟩, 4)) := by
    show startP _ _ _ _ = _
    unfold startP
    rw [if_neg (by omega), if_neg (by simp)]
  have c_no : Hid (nackP ⟨1, x, 0, 1, 5, 5, 5⟩ 1 = (⟨1, x, 0, 1, 5, 5, 5⟩, false)) := by
    show nackP _ _ = _
    simp [nackP]
  have c_tick : Hid (tickP ⟨1, x, 0, 1, 5, 5, 5⟩ 5 = (⟨2, x, 0, 1, 10, 5, 5⟩, 1)) := by
    show tickP _ _ = _
    simp [tickP]
    rfl
  have c_nack : Hid (∀ k, 0 ≤ k → k ≤ 1000 → nackP ⟨2, x, mk k, 1, 10, 5, 5⟩ 1 = (⟨2, x, mk (k + 1), 1, 10, 5, 5⟩, true)) := by
    intro k h0 h1
    simp [nackP, nk_mk k h0 h1]
  have c_else : Hid (∀ k, nackP ⟨2, x, k, 1, 10, 5, 5⟩ 2 = (⟨2, x, k, 1, 10, 5, 5⟩, false)) := by
    intro k
    simp [nackP]
  clear hm hx1 hx2 hx hy
  go_enter Try.func4, Try.ntmps4
  go_wp2_with fail
  refine E.mono ?_; rintro e w0 ⟨rfl, b9⟩
  have K := new_l 5 5 (p := ⟨0, 0, 0, 0, 0, 5, 5⟩) (e := 0) rfl (St.start w w0 b9)
  clear E b9
  go_wp2_with fail
  refine K.mono ?_; rintro e w1 ⟨rfl, s⟩
  have S := Lib.hid s
  have K := start_l ⟨0, 0, 0, 0, 0, 5, 5⟩ x 1 0 c_start.out (S.out.pbox ⟨0, 0, 0, 0, 0, 5, 5⟩)
  clear s
  go_wp2_with fail
  refine K.mono ?_; rintro e w2 ⟨rfl, s⟩
  obtain ⟨f0, f1, f2, f3, f4, f5, f6⟩ := s.pf (b := w1.heap.size) (p := ⟨0, 0, 0, 0, 0, 5, 5⟩) (by simp)
  obtain ⟨c0, c1, c2, c3, c4, c5, c6⟩ := s.pc (b := w1.heap.size) (p := ⟨0, 0, 0, 0, 0, 5, 5⟩) (by simp)
  have l1 := s.pl (b := w1.heap.size) (p := ⟨0, 0, 0, 0, 0, 5, 5⟩) (by simp)
  replace S := Lib.hid (s.pset [] [] ⟨1, x, 0, 1, 5, 5, 5⟩)
  have K := nack_l ⟨1, x, 0, 1, 5, 5, 5⟩ 1 c_no.out S.out
  clear s
  generalize w1.heap.size = d at *
  go_wp2_with fail
  refine K.mono ?_; rintro e w3 ⟨rfl, s⟩
  clear K f0 f1 f2 f3 f4 f5 f6 c0 c1 c2 c3 c4 c5 c6 l1
  obtain ⟨c0, c1, c2, c3, c4, c5, c6⟩ := s.pc (b := d) (p := ⟨1, x, 0, 1, 5, 5, 5⟩) (by simp)
  have l1 := s.pl (b := d) (p := ⟨1, x, 0, 1, 5, 5, 5⟩) (by simp)
  replace S := Lib.hid (s.pbox ⟨1, x, 0, 1, 5, 5, 5⟩)
  have K := start_l ⟨1, x, 0, 1, 5, 5, 5⟩ y 2 0 c_full.out S.out
  clear s
  go_wp2_with fail
  refine K.mono ?_; rintro e w4 ⟨rfl, s⟩
  clear K c0 c1 c2 c3 c4 c5 c6 l1
  obtain ⟨c0, c1, c2, c3, c4, c5, c6⟩ := s.pc (b := d) (p := ⟨1, x, 0, 1, 5, 5, 5⟩) (by simp)
  have l1 := s.pl (b := d) (p := ⟨1, x, 0, 1, 5, 5, 5⟩) (by simp)
  replace S := Lib.hid (s.drop.pbox ⟨1, x, 0, 1, 5, 5, 5⟩)
  have K := tick_l ⟨1, x, 0, 1, 5, 5, 5⟩ 5 c_tick.out S.out
  clear s
  go_wp2_with fail
  refine K.mono ?_; rintro e w5 ⟨rfl, s⟩
  clear K c0 c1 c2 c3 c4 c5 c6 l1
  generalize w4.heap.size = dq at *
  obtain ⟨f0, f1, f2, f3, f4, f5, f6⟩ := s.pf (b := d) (p := ⟨1, x, 0, 1, 5, 5, 5⟩) (by simp)
  obtain ⟨c0, c1, c2, c3, c4, c5, c6⟩ := s.pc (b := d) (p := ⟨1, x, 0, 1, 5, 5, 5⟩) (by simp)
  have l1 := s.pl (b := d) (p := ⟨1, x, 0, 1, 5, 5, 5⟩) (by simp)
  replace S := Lib.hid (s.pset [_] [] ⟨2, x, 0, 1, 10, 5, 5⟩)
  clear s
  go_wp2_with fail
  go_loopw [17] (fun iv wr => OneJ x m w d dq iv wr) (fun iv _ => 41 - (intOf iv).toNat)
  case atStart => exact ⟨0, rfl, by omega, by omega, S.out⟩
  case round =>
    obtain ⟨k, rfl, k0, km, hs⟩ := hrel
    clear S f0 f1 f2 f3 f4 f5 f6 c0 c1 c2 c3 c4 c5 c6 l1
    by_cases hlt : k < m
    · have hw := IntWalk.i64_in (k + 1) ⟨by omega, by omega⟩
      have HN := Lib.hid (c_nack.out k k0 (by omega))
      obtain ⟨z, hz⟩ : ∃ z, mk k = z := ⟨_, rfl⟩
      obtain ⟨z1, hz1⟩ : ∃ z, mk (k + 1) = z := ⟨_, rfl⟩
      rw [hz] at hs HN
      rw [hz1] at HN
      have HZ := Lib.hid hz1
      clear hz hz1
      obtain ⟨c0, c1, c2, c3, c4, c5, c6⟩ := hs.pc (b := d) (p := ⟨2, x, z, 1, 10, 5, 5⟩) (by simp)
      have S := Lib.hid hs
      have K := nack_l ⟨2, x, z, 1, 10, 5, 5⟩ 1 HN.out S.out
      clear hs
      go_wp2_with fail
      refine K.mono ?_; rintro e w6 ⟨rfl, s⟩
      clear K c0 c1 c2 c3 c4 c5 c6
      obtain ⟨f0, f1, f2, f3, f4, f5, f6⟩ := s.pf (b := d) (p := ⟨2, x, z, 1, 10, 5, 5⟩) (by simp)
      obtain ⟨c0, c1, c2, c3, c4, c5, c6⟩ := s.pc (b := d) (p := ⟨2, x, z, 1, 10, 5, 5⟩) (by simp)
      have l1 := s.pl (b := d) (p := ⟨2, x, z, 1, 10, 5, 5⟩) (by simp)
      replace S := Lib.hid ((s.pset [_] [] ⟨2, x, z1, 1, 10, 5, 5⟩).alloc (.cells (pcs ⟨2, x, z1, 1, 10, 5, 5⟩).toArray 26))
      clear s
      go_wp2_with fail
      go_roundw
      case rel => exact ⟨k + 1, by go_num, by omega, by omega, by rw [HZ.out]; exact S.out⟩
      case measure => simp [intOf]; omega
    · obtain rfl : k = m := by omega
      have hge : ¬ k < k := by omega
      obtain ⟨z, hz⟩ : ∃ z, mk k = z := ⟨_, rfl⟩
      rw [hz] at hs
      have HZ := Lib.hid hz
      clear hz hlt
      obtain ⟨c0, c1, c2, c3, c4, c5, c6⟩ := hs.pc (b := d) (p := ⟨2, x, z, 1, 10, 5, 5⟩) (by simp)
      have S := Lib.hid hs
      have K := nack_l ⟨2, x, z, 1, 10, 5, 5⟩ 2 (c_else.out _) S.out
      clear hs
      go_wp2_with fail
      refine K.mono ?_; rintro e w6 ⟨rfl, s⟩
      clear K c0 c1 c2 c3 c4 c5 c6
      obtain ⟨c0, c1, c2, c3, c4, c5, c6⟩ := s.pc (b := d) (p := ⟨2, x, z, 1, 10, 5, 5⟩) (by simp)
      obtain ⟨g0, g1, g2, g3, g4, g5, g6⟩ := s.pc (b := dq) (p := ⟨1, x, 0, 1, 5, 5, 5⟩) (by simp)
      have l1 := s.pl (b := d) (p := ⟨2, x, z, 1, 10, 5, 5⟩) (by simp)
      have l2 := s.pl (b := dq) (p := ⟨1, x, 0, 1, 5, 5, 5⟩) (by simp)
      replace S := Lib.hid (s.pbox ⟨2, x, z, 1, 10, 5, 5⟩).below
      clear s
      by_cases h32 : 32 < k
      · obtain rfl : z = 32 := by rw [← HZ.out]; unfold mk; simp [h32]
        have h32d : decide (32 < k) = true := by simp [h32]
        have h32e : decide (k ≤ 32) = false := by simp; omega
        clear HZ
        go_wp2
        go_ret
        exact ⟨rfl, S.out⟩
      · have h32z : z = k := by rw [← HZ.out]; unfold mk; rw [if_neg h32]
        have h32d : decide (32 < k) = false := by simp [h32]
        have h32e : decide (k ≤ 32) = true := by simp; omega
        clear HZ
        subst h32z
        go_wp2
        go_ret
        exact ⟨rfl, S.out⟩
theorem one_run (n a b : Int) (w : World) (wn : (Lit.int .u8 n).wf = true) (wa : (Lit.int .u8 a).wf = true) (wb : (Lit.int .u8 b).wf = true) :
    Calls Try.prog 4 #[.int .u8 n, .int .u8 a, .int .u8 b] w fun e w' => e = .returned (.bool true) ∧ Below w.heap.size w w' :=
  one_walk n a b (bounds_u8 wn) (bounds_u8 wa) (bounds_u8 wb) w
theorem probeOne_own : ownKnob Try.prog.godebug = none := by kernel_rfl
theorem probeOne_laid : laidOutB Try.prog = true := by kernel_rfl
set_option maxRecDepth 100000 in
theorem probeOne_lifted (os : Os) (started : os.Started) (H : Type) (enc : TypeId × Value → H) :
    ReturnsInHanded {} Try.checked os 4 .any (Rows.probeOneSpec.pre6 enc Try.prog Try.f4 Rows.probeOneRow.domain false) (Rows.probeOneSpec.post enc Try.prog Try.f4 false true false false) := by
  refine returnsInHanded_of_change (C := Try.checked) probeOne_own started (by kernel_rfl) Try.func4
    (ChangeSpec.witness6 (enc := enc) (C := Try.checked) false ⟨#[], #[.int .u8 0, .int .u8 0, .int .u8 0], []⟩ 8 (by kernel_rfl) (by kernel_rfl) (by kernel_rfl) (by kernel_rfl)) ?_
  intro W base args ds gs before hval0 hW hcnd _
  have hval : ∀ (j : Nat) t v, Try.f4.params[j]? = some t → args[j]? = some v → Value.okWide Try.prog W .any base t v := hval0
  have hW' := hW
  obtain ⟨p, q, hA0, hV, rfl, hfz, hnd⟩ := hW
  have hA : DataW.TrodAll enc Try.prog W 0 (fun _ => true) true Try.f4.params.toList args.toList ds p := hA0
  rw [Try.params4] at hA hval
  obtain ⟨v0, vs0, d0, ds0, p0, q0, hargs, rfl, rfl, h0, r0⟩ := trodAll_cons hA
  obtain ⟨v1, vs1, d1, ds1, p1, q1, rfl, rfl, rfl, h1, r1⟩ := trodAll_cons r0
  obtain ⟨v2, vs2, d2, ds2, p2, q2, rfl, rfl, rfl, h2, r2⟩ := trodAll_cons r1
  obtain ⟨rfl, rfl, rfl⟩ := trodAll_nil r2
  obtain rfl : args = #[v0, v1, v2] := by cases args; simp_all
  obtain ⟨rfl, rfl⟩ := trodVars_none hV
  obtain ⟨a0, rfl, rfl, rfl, w0⟩ := open_int Try.underlying5 (hval 0 5 v0 rfl rfl) h0
  obtain ⟨a1, rfl, rfl, rfl, w1⟩ := open_int Try.underlying5 (hval 1 5 v1 rfl rfl) h1
  obtain ⟨a2, rfl, rfl, rfl, w2⟩ := open_int Try.underlying5 (hval 2 5 v2 rfl rfl) h2
  clear hA0 hval0
  refine (one_run a0 a1 a2 W w0 w1 w2).mono fun e W' ⟨he, bel⟩ => ?_
  subst he
  exact ⟨_, rfl, _, _, _, [], _, [], hW', trodAll_mk1 (shut_bool Try.underlying4 _), (trodAll_cons_mk (shut_int Try.underlying5 w0) (trodAll_cons_mk (shut_int Try.underlying5 w1) (trodAll_cons_mk (shut_int Try.underlying5 w2) trodAll_mk0))), rfl, bel.frame _, fun h => by cases h⟩
theorem probeOne_over : Rows.probeOneRow.holds Try.pinned (OpenSpec.ofChange Rows.probeOneSpec) :=
  OpenClaim.holds_of_wide 4 Try.f4 rfl rfl rfl rfl rfl rfl rfl ⟨rfl, rfl, rfl, rfl, rfl⟩ rfl rfl rfl rfl rfl (by kernel_rfl) Try.func4 (by kernel_rfl)
    (of_decide_eq_true (by kernel_rfl)) (by unfold Func.isWrapper; first | (rw [if_pos (by decide +kernel)]; kernel_rfl) | (rw [if_neg (by decide +kernel)]; exact ⟨rfl, rfl⟩))
    (fun os started H enc _ => probeOne_lifted os started H enc)
theorem probeOne_holds : Rows.ProbeOneSaid := probeOne_over
#print axioms probeOne_holds
end Go.Proofs.Ytdbfghpmbanfpaa
