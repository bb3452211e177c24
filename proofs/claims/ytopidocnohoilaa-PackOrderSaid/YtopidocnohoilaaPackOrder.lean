/- The statement PackOrder: for every two numbers and every size: numbers of one size stand as their bytes do, and another number of that size has other bytes. No conditions. -/
import Derived.Test.YtopidocnohoilaaPackEx
import Derived.Test.YtopidocnohoilaaPackLess
import Derived.ChangeOld
import Derived.ShutString
import Derived.OpenShut
namespace Go.Proofs.Ytopidocnohoilaa
open Go.RowKit Go.ChangeShapes Go.WideShapes Go.ChangeAt
set_option linter.unusedVariables false
set_option linter.unusedSimpArgs false

theorem pow_wrap (m : Nat) (h : m < 7) : IntKind.u64.wrap (2 ^ (8 * (1 + m))) = ((256 ^ (1 + m) : Nat) : Int) := by
  have h2 : m = 0 ∨ m = 1 ∨ m = 2 ∨ m = 3 ∨ m = 4 ∨ m = 5 ∨ m = 6 := by omega
  rcases h2 with rfl | rfl | rfl | rfl | rfl | rfl | rfl <;> decide

set_option maxRecDepth 100000 in
set_option maxHeartbeats 1600000 in
theorem packOrder_lo (a b : Nat) (n : Int) (m : Nat) (ha : a < 18446744073709551616) (hb : b < 18446744073709551616) (hm : n % 8 = (m : Int)) (hm7 : m < 7) (hn : 0 ≤ n ∧ n ≤ 255) (w : World) :
    Calls Try.prog 7 #[.int .u64 a, .int .u64 b, .int .u8 n] w fun e w' => e = .returned (.bool true) ∧ Below w.heap.size w w' := by
  obtain ⟨n0, n1⟩ := hn
  have hp := pow_wrap m hm7
  have h8 := pow_le8 (1 + m) (by omega)
  have h0 : 0 < 256 ^ (1 + m) := Nat.pow_pos (by omega)
  have hA : a % 256 ^ (1 + m) < 256 ^ (1 + m) := Nat.mod_lt _ h0
  have hB : b % 256 ^ (1 + m) < 256 ^ (1 + m) := Nat.mod_lt _ h0
  obtain ⟨P, hP⟩ : ∃ P : Nat, P = 256 ^ (1 + m) := ⟨_, rfl⟩
  rw [← hP] at hp h8 h0
  have hP0 : ¬ (P : Int) = 0 := by omega
  have hAP : a % P < 18446744073709551616 := by have := Nat.mod_lt a h0; omega
  have hBP : b % P < 18446744073709551616 := by have := Nat.mod_lt b h0; omega
  rw [← hP] at hA hB
  have hless := numB_less (a % P) (b % P) (1 + m) (hP ▸ hA) (hP ▸ hB)
  have hsame := numB_same (a % P) (b % P) (1 + m) (hP ▸ hA) (hP ▸ hB)
  have hsa := numB_size (a % P) (1 + m)
  clear hA hB hP
  go_enter Try.func7, Try.ntmps7
  go_wp2_with fail
  refine (examples_yes _).mono ?_; rintro e w1 ⟨rfl, b1⟩
  go_wp2_with fail
  refine (num_at _ _ (a % P) (1 + m) (by simp) (by simp) (by omega) (by omega) (by omega) _).mono ?_; rintro e w2 ⟨rfl, b2⟩
  go_wp2_with fail
  refine (num_at _ _ (b % P) (1 + m) (by simp) (by simp) (by omega) (by omega) (by omega) _).mono ?_; rintro e w3 ⟨rfl, b3⟩
  go_wp2_with fail
  go_ret
  refine ⟨rfl, ?_⟩
  (have zz0 := Below.size b3; (try simp at zz0); have zz1 := Below.size b2; (try simp at zz1); have zz2 := Below.size b1; (try simp at zz2); repeat (first | exact Below.refl _ _ | refine Below.drew ?_ | refine below_drewN ?_ _ | refine Below.alloc ?_ (by first | omega | (simp; done) | (simp; omega)) _ | refine Below.setCell ?_ (by first | omega | (simp; done) | (simp; omega)) _ | (with_reducible refine Below.trans ?_ (Below.mono b3 (by first | omega | (simp; done) | (simp; omega)))) | (with_reducible refine Below.trans ?_ (Below.mono b2 (by first | omega | (simp; done) | (simp; omega)))) | (with_reducible refine Below.trans ?_ (Below.mono b1 (by first | omega | (simp; done) | (simp; omega))))))

set_option maxRecDepth 100000 in
set_option maxHeartbeats 1600000 in
theorem packOrder_hi (a b : Nat) (n : Int) (m : Nat) (ha : a < 18446744073709551616) (hb : b < 18446744073709551616) (hm : n % 8 = (m : Int)) (hm7 : m = 7) (hn : 0 ≤ n ∧ n ≤ 255) (w : World) :
    Calls Try.prog 7 #[.int .u64 a, .int .u64 b, .int .u8 n] w fun e w' => e = .returned (.bool true) ∧ Below w.heap.size w w' := by
  obtain ⟨n0, n1⟩ := hn
  have hA : a < 256 ^ (1 + m) := by subst hm7; simpa using ha
  have hB : b < 256 ^ (1 + m) := by subst hm7; simpa using hb
  have hm8 : ¬ (1 : Int) + m < 8 := by omega
  have hless := numB_less (a) (b) (1 + m) hA hB
  have hsame := numB_same (a) (b) (1 + m) hA hB
  have hsa := numB_size (a) (1 + m)
  have HM := Lib.hid hm7
  clear hA hB hm7
  have hm7 : m < 8 := by have := HM.out; omega
  go_enter Try.func7, Try.ntmps7
  go_wp2_with fail
  refine (examples_yes _).mono ?_; rintro e w1 ⟨rfl, b1⟩
  go_wp2_with fail
  refine (num_at _ _ (a) (1 + m) (by simp) (by simp) (by omega) (by omega) (by omega) _).mono ?_; rintro e w2 ⟨rfl, b2⟩
  go_wp2_with fail
  refine (num_at _ _ (b) (1 + m) (by simp) (by simp) (by omega) (by omega) (by omega) _).mono ?_; rintro e w3 ⟨rfl, b3⟩
  go_wp2_with fail
  go_ret
  refine ⟨rfl, ?_⟩
  (have zz0 := Below.size b3; (try simp at zz0); have zz1 := Below.size b2; (try simp at zz1); have zz2 := Below.size b1; (try simp at zz2); repeat (first | exact Below.refl _ _ | refine Below.drew ?_ | refine below_drewN ?_ _ | refine Below.alloc ?_ (by first | omega | (simp; done) | (simp; omega)) _ | refine Below.setCell ?_ (by first | omega | (simp; done) | (simp; omega)) _ | (with_reducible refine Below.trans ?_ (Below.mono b3 (by first | omega | (simp; done) | (simp; omega)))) | (with_reducible refine Below.trans ?_ (Below.mono b2 (by first | omega | (simp; done) | (simp; omega)))) | (with_reducible refine Below.trans ?_ (Below.mono b1 (by first | omega | (simp; done) | (simp; omega))))))

theorem packOrder_run (a b n : Int) (w : World) (wa : (Lit.int .u64 a).wf = true) (wb : (Lit.int .u64 b).wf = true) (wn : (Lit.int .u8 n).wf = true) :
    Calls Try.prog 7 #[.int .u64 a, .int .u64 b, .int .u8 n] w fun e w' => e = .returned (.bool true) ∧ Below w.heap.size w w' := by
  have ha := bounds_u64 wa
  have hb := bounds_u64 wb
  have hn := bounds_u8 wn
  obtain ⟨A, rfl⟩ := Int.eq_ofNat_of_zero_le ha.1
  obtain ⟨B, rfl⟩ := Int.eq_ofNat_of_zero_le hb.1
  have hm : n % 8 = (((n % 8).toNat : Nat) : Int) := by omega
  by_cases h : (n % 8).toNat < 7
  · exact packOrder_lo A B n _ (by omega) (by omega) hm h hn w
  · exact packOrder_hi A B n _ (by omega) (by omega) hm (by omega) hn w

theorem packOrder_own : ownKnob Try.prog.godebug = none := by kernel_rfl
theorem packOrder_laid : laidOutB Try.prog = true := by kernel_rfl
set_option maxRecDepth 100000 in
theorem packOrder_lifted (os : Os) (started : os.Started) (H : Type) (enc : TypeId × Value → H) :
    ReturnsInHanded {} Try.checked os 7 .any (Rows.packOrderSpec.pre6 enc Try.prog Try.f7 Rows.packOrderRow.domain false) (Rows.packOrderSpec.post enc Try.prog Try.f7 false true false false) := by
  refine returnsInHanded_of_change (C := Try.checked) packOrder_own started (by kernel_rfl) Try.func7
    (ChangeSpec.witness6 (enc := enc) (C := Try.checked) false ⟨#[], #[.int .u64 0, .int .u64 0, .int .u8 0], []⟩ 8 (by kernel_rfl) (by kernel_rfl) (by kernel_rfl) (by kernel_rfl)) ?_
  intro W base args ds gs before hval0 hW hcnd _
  have hval : ∀ (j : Nat) t v, Try.f7.params[j]? = some t → args[j]? = some v → Value.okWide Try.prog W .any base t v := hval0
  have hW' := hW
  obtain ⟨p, q, hA0, hV, rfl, hfz, hnd⟩ := hW
  have hA : DataW.TrodAll enc Try.prog W 0 (fun _ => true) true Try.f7.params.toList args.toList ds p := hA0
  rw [Try.params7] at hA hval
  obtain ⟨v0, vs0, d0, ds0, p0, q0, hargs, rfl, rfl, h0, r0⟩ := trodAll_cons hA
  obtain ⟨v1, vs1, d1, ds1, p1, q1, rfl, rfl, rfl, h1, r1⟩ := trodAll_cons r0
  obtain ⟨v2, vs2, d2, ds2, p2, q2, rfl, rfl, rfl, h2, r2⟩ := trodAll_cons r1
  obtain ⟨rfl, rfl, rfl⟩ := trodAll_nil r2
  obtain rfl : args = #[v0, v1, v2] := by cases args; simp_all
  obtain ⟨rfl, rfl⟩ := trodVars_none hV
  obtain ⟨a0, rfl, rfl, rfl, w0⟩ := open_int Try.underlying25 (hval 0 25 v0 rfl rfl) h0
  obtain ⟨a1, rfl, rfl, rfl, w1⟩ := open_int Try.underlying25 (hval 1 25 v1 rfl rfl) h1
  obtain ⟨a2, rfl, rfl, rfl, w2⟩ := open_int Try.underlying5 (hval 2 5 v2 rfl rfl) h2
  clear hA0 hval0
  refine (packOrder_run a0 a1 a2 W w0 w1 w2).mono fun e W' ⟨he, bel⟩ => ?_
  subst he
  exact ⟨_, rfl, _, _, _, [], _, [], hW', trodAll_mk1 (shut_bool Try.underlying4 _), (trodAll_cons_mk (shut_int Try.underlying25 w0) (trodAll_cons_mk (shut_int Try.underlying25 w1) (trodAll_cons_mk (shut_int Try.underlying5 w2) trodAll_mk0))), rfl, bel.frame _, fun h => by cases h⟩
theorem packOrder_over : Rows.packOrderRow.holds Try.pinned (OpenSpec.ofChange Rows.packOrderSpec) :=
  OpenClaim.holds_of_wide 7 Try.f7 rfl rfl rfl rfl rfl rfl rfl ⟨rfl, rfl, rfl, rfl, rfl⟩ rfl rfl rfl rfl rfl (by kernel_rfl) Try.func7 (by kernel_rfl)
    (of_decide_eq_true (by kernel_rfl)) (by unfold Func.isWrapper; first | (rw [if_pos (by decide +kernel)]; kernel_rfl) | (rw [if_neg (by decide +kernel)]; exact ⟨rfl, rfl⟩))
    (fun os started H enc _ => packOrder_lifted os started H enc)
theorem packOrder_holds : Rows.PackOrderSaid := packOrder_over
#print axioms packOrder_holds
end Go.Proofs.Ytopidocnohoilaa
