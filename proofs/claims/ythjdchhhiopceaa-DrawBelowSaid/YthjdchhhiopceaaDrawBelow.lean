/- The statement DrawBelow: for every seed and number a draw below k = 1 + n is in its bounds, below 1 it is 0, below -k nothing is drawn. No conditions. -/
import Derived.Test.YthjdchhhiopceaaDrawSame
import Derived.ChangeOld
import Derived.ShutString
import Derived.OpenShut
namespace Go.Proofs.Ythjdchhhiopceaa
open Go.RowKit Go.ChangeShapes Go.WideShapes Go.ChangeAt
set_option linter.unusedVariables false
set_option linter.unusedSimpArgs false

set_option maxRecDepth 100000 in
set_option maxHeartbeats 800000 in
theorem drawBelow_walk (s n : Int) (hs : 0 ≤ s ∧ s ≤ 18446744073709551615) (hn : 0 ≤ n ∧ n ≤ 4294967295) (w : World) :
    Calls Try.prog 5 #[.int .u64 s, .int .u32 n] w fun e w' => e = .returned (.bool true) ∧ Below w.heap.size w w' := by
  obtain ⟨n0, n1⟩ := hn
  have hm0 := Int.emod_nonneg (num s) (show 1 + n ≠ 0 by omega)
  have hm1 := Int.emod_lt_of_pos (num s) (show 0 < 1 + n by omega)
  have hr := num_range s
  go_enter Try.func5, Try.ntmps5
  go_wp2_with fail
  refine (examples_yes _).mono ?_; rintro e w1 ⟨rfl, b1⟩
  go_wp2_with fail
  refine (new_any _ _).mono ?_; rintro e w2 ⟨rfl, b2⟩
  go_wp2_with fail
  refine (below_yes _ _ (by omega) (by omega) _).mono ?_; rintro e w3 ⟨rfl, b3⟩
  go_wp2_with fail
  refine (new_any _ _).mono ?_; rintro e w4 ⟨rfl, b4⟩; obtain ⟨hc4, hf4, hz4⟩ := bcell b4; (try simp at hz4); have kc4_0 := fun o => hc4 (w3.heap.size) o (by first | omega | (simp; done) | (simp; omega)); have kf4_0 := fun o => hf4 (w3.heap.size) o (by first | omega | (simp; done) | (simp; omega)); have kl4_0 : w3.heap.size < w4.heap.size := (by omega); clear hc4 hf4
  go_wp2_with fail
  refine (next_any _ _).mono ?_; rintro e w5 ⟨rfl, b5⟩; obtain ⟨hc5, hf5, hz5⟩ := bcell b5; (try simp at hz5); have kc5_0 := fun o => hc5 (w3.heap.size) o (by first | omega | (simp; done) | (simp; omega)); have kf5_0 := fun o => hf5 (w3.heap.size) o (by first | omega | (simp; done) | (simp; omega)); have kl5_0 : w3.heap.size < w5.heap.size := (by omega); clear hc5 hf5
  go_wp2_with fail
  refine (new_any _ _).mono ?_; rintro e w6 ⟨rfl, b6⟩; obtain ⟨hc6, hf6, hz6⟩ := bcell b6; (try simp at hz6); have kc6_0 := fun o => hc6 (w3.heap.size) o (by first | omega | (simp; done) | (simp; omega)); have kf6_0 := fun o => hf6 (w3.heap.size) o (by first | omega | (simp; done) | (simp; omega)); have kl6_0 : w3.heap.size < w6.heap.size := (by omega); have kc6_1 := fun o => hc6 (w5.heap.size) o (by first | omega | (simp; done) | (simp; omega)); have kf6_1 := fun o => hf6 (w5.heap.size) o (by first | omega | (simp; done) | (simp; omega)); have kl6_1 : w5.heap.size < w6.heap.size := (by omega); clear hc6 hf6
  go_wp2_with fail
  refine (below_yes _ _ (by omega) (by omega) _).mono ?_; rintro e w7 ⟨rfl, b7⟩; obtain ⟨hc7, hf7, hz7⟩ := bcell b7; (try simp at hz7); have kc7_0 := fun o => hc7 (w3.heap.size) o (by first | omega | (simp; done) | (simp; omega)); have kf7_0 := fun o => hf7 (w3.heap.size) o (by first | omega | (simp; done) | (simp; omega)); have kl7_0 : w3.heap.size < w7.heap.size := (by omega); have kc7_1 := fun o => hc7 (w5.heap.size) o (by first | omega | (simp; done) | (simp; omega)); have kf7_1 := fun o => hf7 (w5.heap.size) o (by first | omega | (simp; done) | (simp; omega)); have kl7_1 : w5.heap.size < w7.heap.size := (by omega); clear hc7 hf7
  go_wp2_with fail
  refine (new_any _ _).mono ?_; rintro e w8 ⟨rfl, b8⟩; obtain ⟨hc8, hf8, hz8⟩ := bcell b8; (try simp at hz8); have kc8_0 := fun o => hc8 (w3.heap.size) o (by first | omega | (simp; done) | (simp; omega)); have kf8_0 := fun o => hf8 (w3.heap.size) o (by first | omega | (simp; done) | (simp; omega)); have kl8_0 : w3.heap.size < w8.heap.size := (by omega); have kc8_1 := fun o => hc8 (w5.heap.size) o (by first | omega | (simp; done) | (simp; omega)); have kf8_1 := fun o => hf8 (w5.heap.size) o (by first | omega | (simp; done) | (simp; omega)); have kl8_1 : w5.heap.size < w8.heap.size := (by omega); clear hc8 hf8
  go_wp2_with fail
  refine (below_no _ _ (by omega) _).mono ?_; rintro e w9 ⟨rfl, b9⟩; obtain ⟨hc9, hf9, hz9⟩ := bcell b9; (try simp at hz9); have kc9_0 := fun o => hc9 (w3.heap.size) o (by first | omega | (simp; done) | (simp; omega)); have kf9_0 := fun o => hf9 (w3.heap.size) o (by first | omega | (simp; done) | (simp; omega)); have kl9_0 : w3.heap.size < w9.heap.size := (by omega); have kc9_1 := fun o => hc9 (w5.heap.size) o (by first | omega | (simp; done) | (simp; omega)); have kf9_1 := fun o => hf9 (w5.heap.size) o (by first | omega | (simp; done) | (simp; omega)); have kl9_1 : w5.heap.size < w9.heap.size := (by omega); clear hc9 hf9
  go_wp2_with fail
  go_ret
  refine ⟨rfl, ?_⟩
  (have zz0 := Below.size b9; (try simp at zz0); have zz1 := Below.size b8; (try simp at zz1); have zz2 := Below.size b7; (try simp at zz2); have zz3 := Below.size b6; (try simp at zz3); have zz4 := Below.size b5; (try simp at zz4); have zz5 := Below.size b4; (try simp at zz5); have zz6 := Below.size b3; (try simp at zz6); have zz7 := Below.size b2; (try simp at zz7); have zz8 := Below.size b1; (try simp at zz8); repeat (first | exact Below.refl _ _ | refine Below.drew ?_ | refine below_drewN ?_ _ | refine Below.alloc ?_ (by first | omega | (simp; done) | (simp; omega)) _ | refine Below.setCell ?_ (by first | omega | (simp; done) | (simp; omega)) _ | (with_reducible refine Below.trans ?_ (Below.mono b9 (by first | omega | (simp; done) | (simp; omega)))) | (with_reducible refine Below.trans ?_ (Below.mono b8 (by first | omega | (simp; done) | (simp; omega)))) | (with_reducible refine Below.trans ?_ (Below.mono b7 (by first | omega | (simp; done) | (simp; omega)))) | (with_reducible refine Below.trans ?_ (Below.mono b6 (by first | omega | (simp; done) | (simp; omega)))) | (with_reducible refine Below.trans ?_ (Below.mono b5 (by first | omega | (simp; done) | (simp; omega)))) | (with_reducible refine Below.trans ?_ (Below.mono b4 (by first | omega | (simp; done) | (simp; omega)))) | (with_reducible refine Below.trans ?_ (Below.mono b3 (by first | omega | (simp; done) | (simp; omega)))) | (with_reducible refine Below.trans ?_ (Below.mono b2 (by first | omega | (simp; done) | (simp; omega)))) | (with_reducible refine Below.trans ?_ (Below.mono b1 (by first | omega | (simp; done) | (simp; omega))))))

theorem drawBelow_run (s n : Int) (w : World) (ws : (Lit.int .u64 s).wf = true) (wn : (Lit.int .u32 n).wf = true) :
    Calls Try.prog 5 #[.int .u64 s, .int .u32 n] w fun e w' => e = .returned (.bool true) ∧ Below w.heap.size w w' :=
  drawBelow_walk s n (bounds_u64 ws) (bounds_u32 wn) w

theorem drawBelow_own : ownKnob Try.prog.godebug = none := by kernel_rfl
theorem drawBelow_laid : laidOutB Try.prog = true := by kernel_rfl
set_option maxRecDepth 100000 in
theorem drawBelow_lifted (os : Os) (started : os.Started) (H : Type) (enc : TypeId × Value → H) :
    ReturnsInHanded {} Try.checked os 5 .any (Rows.drawBelowSpec.pre6 enc Try.prog Try.f5 Rows.drawBelowRow.domain false) (Rows.drawBelowSpec.post enc Try.prog Try.f5 false true false false) := by
  refine returnsInHanded_of_change (C := Try.checked) drawBelow_own started (by kernel_rfl) Try.func5
    (ChangeSpec.witness6 (enc := enc) (C := Try.checked) false ⟨#[], #[.int .u64 0, .int .u32 0], []⟩ 8 (by kernel_rfl) (by kernel_rfl) (by kernel_rfl) (by kernel_rfl)) ?_
  intro W base args ds gs before hval0 hW hcnd _
  have hval : ∀ (j : Nat) t v, Try.f5.params[j]? = some t → args[j]? = some v → Value.okWide Try.prog W .any base t v := hval0
  have hW' := hW
  obtain ⟨p, q, hA0, hV, rfl, hfz, hnd⟩ := hW
  have hA : DataW.TrodAll enc Try.prog W 0 (fun _ => true) true Try.f5.params.toList args.toList ds p := hA0
  rw [Try.params5] at hA hval
  obtain ⟨v0, vs0, d0, ds0, p0, q0, hargs, rfl, rfl, h0, r0⟩ := trodAll_cons hA
  obtain ⟨v1, vs1, d1, ds1, p1, q1, rfl, rfl, rfl, h1, r1⟩ := trodAll_cons r0
  obtain ⟨rfl, rfl, rfl⟩ := trodAll_nil r1
  obtain rfl : args = #[v0, v1] := by cases args; simp_all
  obtain ⟨rfl, rfl⟩ := trodVars_none hV
  obtain ⟨a0, rfl, rfl, rfl, w0⟩ := open_int Try.underlying22 (hval 0 22 v0 rfl rfl) h0
  obtain ⟨a1, rfl, rfl, rfl, w1⟩ := open_int Try.underlying48 (hval 1 48 v1 rfl rfl) h1
  clear hA0 hval0
  refine (drawBelow_run a0 a1 W w0 w1).mono fun e W' ⟨he, bel⟩ => ?_
  subst he
  exact ⟨_, rfl, _, _, _, [], _, [], hW', trodAll_mk1 (shut_bool Try.underlying4 _), (trodAll_cons_mk (shut_int Try.underlying22 w0) (trodAll_cons_mk (shut_int Try.underlying48 w1) trodAll_mk0)), rfl, bel.frame _, fun h => by cases h⟩
theorem drawBelow_over : Rows.drawBelowRow.holds Try.pinned (OpenSpec.ofChange Rows.drawBelowSpec) :=
  OpenClaim.holds_of_wide 5 Try.f5 rfl rfl rfl rfl rfl rfl rfl ⟨rfl, rfl, rfl, rfl, rfl⟩ rfl rfl rfl rfl rfl (by kernel_rfl) Try.func5 (by kernel_rfl)
    (of_decide_eq_true (by kernel_rfl)) (by unfold Func.isWrapper; first | (rw [if_pos (by decide +kernel)]; kernel_rfl) | (rw [if_neg (by decide +kernel)]; exact ⟨rfl, rfl⟩))
    (fun os started H enc _ => drawBelow_lifted os started H enc)
theorem drawBelow_holds : Rows.DrawBelowSaid := drawBelow_over
#print axioms drawBelow_holds
end Go.Proofs.Ythjdchhhiopceaa
