/- QueueTimesRise: the more nodes there are the more often something is told, by three for each time that they double: for every number of nodes. -/
import Derived.Test.YthebcaielbnhjaaQuEx
import Derived.ChangeOld
import Derived.ChangeMaps5
import Derived.ShutString
import Derived.OpenShut
import Derived.SizedLaws
namespace Go.Proofs.Ythebcaielbnhjaa
open Go.Sort Go.RowKit Go.BigFrame Go.ChangeShapes Go.WideShapes Go.ChangeAt
open Go.ChangeMaps (open_string shut_string)
set_option linter.unusedVariables false
set_option linter.unusedSimpArgs false

theorem bitLen_mono : ∀ (f x y : Nat), x ≤ y → y < 2 ^ f → f ≤ 64 → Lib.bitLen x ≤ Lib.bitLen y
  | 0, x, y, h, hy, _ => by
    have : y = 0 := by simp at hy; exact hy
    have : x = 0 := by omega
    subst x y; exact Nat.le_refl _
  | f + 1, x, y, h, hy, hf => by
    have hy64 : y < 2 ^ 64 := Nat.lt_of_lt_of_le hy (Nat.pow_le_pow_right (by decide) hf)
    by_cases h0 : x = 0
    · subst h0
      have : Lib.bitLen 0 = 0 := by decide
      omega
    · rw [Lib.bitLen_half x h0 (by omega), Lib.bitLen_half y (by omega) hy64]
      have := bitLen_mono f (x / 2) (y / 2) (by omega) (by rw [Nat.pow_succ] at hy; omega) (by omega)
      omega
theorem times_rise (k : Nat) (h : k < 65537) (h1 : 1 ≤ k) : timesN (2 * (k : Int)) = timesN k + 3 ∧ timesN (2 * (k : Int) + 1) = timesN k + 3 ∧ timesN k ≤ timesN ((k : Int) + 1) ∧ timesN (-(k : Int)) = 3 ∧ timesN k ≤ 60 := by
  have e1 : (max (k : Int) 1).toNat = k := by omega
  have e2 : (max (2 * (k : Int)) 1).toNat = 2 * k := by omega
  have e3 : (max (2 * (k : Int) + 1) 1).toNat = 2 * k + 1 := by omega
  have e4 : (max ((k : Int) + 1) 1).toNat = k + 1 := by omega
  have e5 : (max (-(k : Int)) 1).toNat = 1 := by omega
  have b1 : Lib.bitLen 1 = 1 := by decide
  have b2 := Lib.bitLen_half (2 * k) (by omega) (by omega)
  have b3 := Lib.bitLen_half (2 * k + 1) (by omega) (by omega)
  rw [show 2 * k / 2 = k by omega] at b2
  rw [show (2 * k + 1) / 2 = k by omega] at b3
  have b4 := bitLen_mono 64 k (k + 1) (by omega) (by omega) (by decide)
  have b5 := Lib.bitLen_le k 20 (by decide) (by omega)
  unfold timesN
  rw [e1, e2, e3, e4, e5, b1, b2, b3]
  omega
set_option maxHeartbeats 1600000 in
set_option maxRecDepth 20000 in
theorem rise_walk (n : Int) (w : World) (hn : (Lit.int .u16 n).wf = true) :
    Calls Try.prog 8 #[.int .u16 n] w fun e w' => e = .returned (.bool true) ∧ Below w.heap.size w w' := by
  obtain ⟨n0, n1⟩ := bounds_u16 hn
  obtain ⟨k, hk⟩ : ∃ k : Nat, 1 + n = k := ⟨(1 + n).toNat, by omega⟩
  obtain ⟨t1, t2, t3, t4, t5⟩ := times_rise k (by omega) (by omega)
  have K1 := times_b (k : Int) (by omega)
  have K2 := times_b (2 * (k : Int)) (by omega)
  have K3 := times_b (2 * (k : Int) + 1) (by omega)
  have K4 := times_b ((k : Int) + 1) (by omega)
  have K5 := times_b (-(k : Int)) (by omega)
  rw [t1] at K2
  rw [t2] at K3
  rw [t4] at K5
  have hx3 : timesN k % 3 = 0 := by unfold timesN; omega
  clear t1 t2 t4
  generalize timesN ((k : Int) + 1) = y at *
  generalize timesN (k : Int) = x at *
  have a1 : (x : Int) % 3 = 0 := by omega
  have a2 : (x : Int).tmod 3 = 0 := by rw [tmod_pos _ _ (by omega)]; exact a1
  have a3 : (((x + 3 : Nat)) : Int) = (x : Int) + 3 := by omega
  rw [a3] at K2 K3
  have a4 : (x : Int) ≤ y := by omega
  have c1 := IntWalk.i64_in (2 * (k : Int)) ⟨by omega, by omega⟩
  have c2 := IntWalk.i64_in (2 * (k : Int) + 1) ⟨by omega, by omega⟩
  have c3 := IntWalk.i64_in ((k : Int) + 1) ⟨by omega, by omega⟩
  have c4 := IntWalk.i64_in (-(k : Int)) ⟨by omega, by omega⟩
  have c5 := IntWalk.i64_in ((x : Int) + 3) ⟨by omega, by omega⟩
  have c6 := IntWalk.i64_in (k : Int) ⟨by omega, by omega⟩
  have c7 := IntWalk.i64_in n ⟨by omega, by omega⟩
  have a5 : decide ((x : Int) ≤ y) = true := decide_eq_true a4
  have E := ex_any w
  clear a3 hx3 hn n1 t3
  go_enter Try.func8, Try.ntmps8
  go_wp2_with fail
  refine E.mono ?_; rintro e w1 ⟨rfl, b1⟩
  have B1 := Lib.hid b1
  clear E b1
  go_wp2_with fail
  refine (K1 _).mono ?_; rintro e w2 ⟨rfl, b2⟩
  have B2 := Lib.hid (B1.out.trans (b2.mono B1.out.size))
  clear b2
  go_wp2_with fail
  refine (K2 _).mono ?_; rintro e w3 ⟨rfl, b2⟩
  have B3 := Lib.hid (B2.out.trans (b2.mono B2.out.size))
  clear b2
  go_wp2_with fail
  refine (K3 _).mono ?_; rintro e w4 ⟨rfl, b2⟩
  have B4 := Lib.hid (B3.out.trans (b2.mono B3.out.size))
  clear b2
  go_wp2_with fail
  refine (K4 _).mono ?_; rintro e w5 ⟨rfl, b2⟩
  have B5 := Lib.hid (B4.out.trans (b2.mono B4.out.size))
  clear b2
  go_wp2_with fail
  refine (K5 _).mono ?_; rintro e w6 ⟨rfl, b2⟩
  have B6 := Lib.hid (B5.out.trans (b2.mono B5.out.size))
  clear b2
  go_wp2
  go_ret
  exact ⟨rfl, B6.out⟩
theorem queueTimesRise_own : ownKnob Try.prog.godebug = none := by kernel_rfl
theorem queueTimesRise_laid : laidOutB Try.prog = true := by kernel_rfl
set_option maxRecDepth 100000 in
theorem queueTimesRise_lifted (os : Os) (started : os.Started) (H : Type) (enc : TypeId × Value → H) :
    ReturnsInHanded {} Try.checked os 8 .any (Rows.queueTimesRiseSpec.pre6 enc Try.prog Try.f8 Rows.queueTimesRiseRow.domain false) (Rows.queueTimesRiseSpec.post enc Try.prog Try.f8 false true false false) := by
  refine returnsInHanded_of_change (C := Try.checked) queueTimesRise_own started (by kernel_rfl) Try.func8
    (ChangeSpec.witness6 (enc := enc) (C := Try.checked) false ⟨#[], #[.int .u16 0], []⟩ 8 (by kernel_rfl) (by kernel_rfl) (by kernel_rfl) (by kernel_rfl)) ?_
  intro W base args ds gs before hval0 hW hcnd _
  have hval : ∀ (j : Nat) t v, Try.f8.params[j]? = some t → args[j]? = some v → Value.okWide Try.prog W .any base t v := hval0
  have hW' := hW
  obtain ⟨p, q, hA0, hV, rfl, hfz, hnd⟩ := hW
  have hA : DataW.TrodAll enc Try.prog W 0 (fun _ => true) true Try.f8.params.toList args.toList ds p := hA0
  rw [Try.params8] at hA hval
  obtain ⟨v0, vs0, d0, ds0, p0, q0, hargs, rfl, rfl, h0, r0⟩ := trodAll_cons hA
  obtain ⟨rfl, rfl, rfl⟩ := trodAll_nil r0
  obtain rfl : args = #[v0] := by cases args; simp_all
  obtain ⟨rfl, rfl⟩ := trodVars_none hV
  obtain ⟨a0, rfl, rfl, rfl, w0⟩ := open_int Try.underlying33 (hval 0 33 v0 rfl rfl) h0
  clear hA0 hval0
  refine (rise_walk a0 W w0).mono fun e W' ⟨he, bel⟩ => ?_
  subst he
  exact ⟨_, rfl, _, _, _, [], _, [], hW', trodAll_mk1 (shut_bool Try.underlying4 _), (trodAll_cons_mk (shut_int Try.underlying33 w0) trodAll_mk0), rfl, bel.frame _, fun h => by cases h⟩
theorem queueTimesRise_over : Rows.queueTimesRiseRow.holds Try.pinned (OpenSpec.ofChange Rows.queueTimesRiseSpec) :=
  OpenClaim.holds_of_wide 8 Try.f8 rfl rfl rfl rfl rfl rfl rfl ⟨rfl, rfl, rfl, rfl, rfl⟩ rfl rfl rfl rfl rfl (by kernel_rfl) Try.func8 (by kernel_rfl)
    (of_decide_eq_true (by kernel_rfl)) (by unfold Func.isWrapper; first | (rw [if_pos (by decide +kernel)]; kernel_rfl) | (rw [if_neg (by decide +kernel)]; exact ⟨rfl, rfl⟩))
    (fun os started H enc _ => queueTimesRise_lifted os started H enc)
theorem queueTimesRise_holds : Rows.QueueTimesRiseSaid := queueTimesRise_over
#print axioms queueTimesRise_holds
end Go.Proofs.Ythebcaielbnhjaa
