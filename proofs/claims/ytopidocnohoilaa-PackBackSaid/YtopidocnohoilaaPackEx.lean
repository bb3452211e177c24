/- The contracts of same and of examples. -/
import Derived.Test.YtopidocnohoilaaPackText
namespace Go.Proofs.Ytopidocnohoilaa
open Go.RowKit
set_option linter.unusedVariables false
set_option linter.unusedSimpArgs false

theorem same_yes (s : ByteArray) (b : Bool) (w : World) : Calls Try.prog 13 #[.agg #[.string s, .bool b], .agg #[.string s, .bool b]] w fun e w' => e = .returned (.bool true) ∧ Below w.heap.size w w' := by
  go_enter Try.func13, Try.ntmps13
  go_wp2
  go_ret
  exact ⟨rfl, by (repeat (first | exact Below.refl _ _ | refine Below.drew ?_ | refine below_drewN ?_ _ | refine Below.alloc ?_ (by first | omega | (simp; done) | (simp; omega)) _ | refine Below.setCell ?_ (by first | omega | (simp; done) | (simp; omega)) _))⟩

theorem ex1 : txB ⟨#[97, 98]⟩ = ⟨#[2, 97, 98]⟩ := by decide +kernel
theorem ex2 : Hid (rdn ⟨#[1, 2, 120]⟩ false 2 = (258, ⟨#[120]⟩, false)) := by show _ = _; decide +kernel
theorem ex3 : Hid (rdn ⟨#[120]⟩ false 2 = (0, ⟨#[]⟩, true)) := by show _ = _; decide +kernel
theorem ex4 : Hid (rtx ⟨#[2, 97, 98, 99]⟩ false = (⟨#[97, 98]⟩, ⟨#[99]⟩, false)) := by show _ = _; decide +kernel
theorem ex5 : numB 258 2 = ⟨#[1, 2]⟩ := by decide +kernel

set_option maxRecDepth 100000 in
set_option maxHeartbeats 1600000 in
theorem examples_yes (w : World) : Calls Try.prog 8 #[] w fun e w' => e = .returned (.bool true) ∧ Below w.heap.size w w' := by
  go_enter Try.func8, Try.ntmps8
  go_wp2_with fail
  refine (txt_yes _ (by decide) _).mono ?_; rintro e w1 ⟨rfl, b1⟩; rw [ex1]
  go_wp2_with fail
  refine (read_any _ _).mono ?_; rintro e w2 ⟨rfl, b2⟩
  go_wp2_with fail
  refine (num_is ex2 (by decide) _).mono ?_; rintro e w3 ⟨rfl, b3⟩
  go_wp2_with fail
  refine (num_is ex3 (by decide) _).mono ?_; rintro e w4 ⟨rfl, b4⟩; obtain ⟨hc4, hf4, hz4⟩ := bcell b4; (try simp at hz4); have kc4_0 := fun o => hc4 (w3.heap.size) o (by first | omega | (simp; done) | (simp; omega)); have kf4_0 := fun o => hf4 (w3.heap.size) o (by first | omega | (simp; done) | (simp; omega)); have kl4_0 : w3.heap.size < w4.heap.size := (by omega); clear hc4 hf4
  go_wp2_with fail
  refine (read_any _ _).mono ?_; rintro e w5 ⟨rfl, b5⟩; obtain ⟨hc5, hf5, hz5⟩ := bcell b5; (try simp at hz5); have kc5_0 := fun o => hc5 (w3.heap.size) o (by first | omega | (simp; done) | (simp; omega)); have kf5_0 := fun o => hf5 (w3.heap.size) o (by first | omega | (simp; done) | (simp; omega)); have kl5_0 : w3.heap.size < w5.heap.size := (by omega); have kc5_1 := fun o => hc5 (w4.heap.size) o (by first | omega | (simp; done) | (simp; omega)); have kf5_1 := fun o => hf5 (w4.heap.size) o (by first | omega | (simp; done) | (simp; omega)); have kl5_1 : w4.heap.size < w5.heap.size := (by omega); clear hc5 hf5
  go_wp2_with fail
  refine (txr_is ex4 (by decide) _).mono ?_; rintro e w6 ⟨rfl, b6⟩; obtain ⟨hc6, hf6, hz6⟩ := bcell b6; (try simp at hz6); have kc6_0 := fun o => hc6 (w3.heap.size) o (by first | omega | (simp; done) | (simp; omega)); have kf6_0 := fun o => hf6 (w3.heap.size) o (by first | omega | (simp; done) | (simp; omega)); have kl6_0 : w3.heap.size < w6.heap.size := (by omega); have kc6_1 := fun o => hc6 (w4.heap.size) o (by first | omega | (simp; done) | (simp; omega)); have kf6_1 := fun o => hf6 (w4.heap.size) o (by first | omega | (simp; done) | (simp; omega)); have kl6_1 : w4.heap.size < w6.heap.size := (by omega); clear hc6 hf6
  go_wp2_with fail
  refine (num_at _ _ 258 2 (by rfl) (by rfl) (by omega) (by omega) (by omega) _).mono ?_; rintro e w7 ⟨rfl, b7⟩; rw [ex5]; obtain ⟨hc7, hf7, hz7⟩ := bcell b7; (try simp at hz7); have kc7_0 := fun o => hc7 (w3.heap.size) o (by first | omega | (simp; done) | (simp; omega)); have kf7_0 := fun o => hf7 (w3.heap.size) o (by first | omega | (simp; done) | (simp; omega)); have kl7_0 : w3.heap.size < w7.heap.size := (by omega); have kc7_1 := fun o => hc7 (w4.heap.size) o (by first | omega | (simp; done) | (simp; omega)); have kf7_1 := fun o => hf7 (w4.heap.size) o (by first | omega | (simp; done) | (simp; omega)); have kl7_1 : w4.heap.size < w7.heap.size := (by omega); have kc7_2 := fun o => hc7 (w6.heap.size) o (by first | omega | (simp; done) | (simp; omega)); have kf7_2 := fun o => hf7 (w6.heap.size) o (by first | omega | (simp; done) | (simp; omega)); have kl7_2 : w6.heap.size < w7.heap.size := (by omega); clear hc7 hf7
  go_wp2_with fail
  refine (num_no _ _ (by omega) _).mono ?_; rintro e w8 ⟨rfl, b8⟩; obtain ⟨hc8, hf8, hz8⟩ := bcell b8; (try simp at hz8); have kc8_0 := fun o => hc8 (w3.heap.size) o (by first | omega | (simp; done) | (simp; omega)); have kf8_0 := fun o => hf8 (w3.heap.size) o (by first | omega | (simp; done) | (simp; omega)); have kl8_0 : w3.heap.size < w8.heap.size := (by omega); have kc8_1 := fun o => hc8 (w4.heap.size) o (by first | omega | (simp; done) | (simp; omega)); have kf8_1 := fun o => hf8 (w4.heap.size) o (by first | omega | (simp; done) | (simp; omega)); have kl8_1 : w4.heap.size < w8.heap.size := (by omega); have kc8_2 := fun o => hc8 (w6.heap.size) o (by first | omega | (simp; done) | (simp; omega)); have kf8_2 := fun o => hf8 (w6.heap.size) o (by first | omega | (simp; done) | (simp; omega)); have kl8_2 : w6.heap.size < w8.heap.size := (by omega); clear hc8 hf8
  go_wp2_with fail
  refine (read_any _ _).mono ?_; rintro e w9 ⟨rfl, b9⟩; obtain ⟨hc9, hf9, hz9⟩ := bcell b9; (try simp at hz9); have kc9_0 := fun o => hc9 (w3.heap.size) o (by first | omega | (simp; done) | (simp; omega)); have kf9_0 := fun o => hf9 (w3.heap.size) o (by first | omega | (simp; done) | (simp; omega)); have kl9_0 : w3.heap.size < w9.heap.size := (by omega); have kc9_1 := fun o => hc9 (w4.heap.size) o (by first | omega | (simp; done) | (simp; omega)); have kf9_1 := fun o => hf9 (w4.heap.size) o (by first | omega | (simp; done) | (simp; omega)); have kl9_1 : w4.heap.size < w9.heap.size := (by omega); have kc9_2 := fun o => hc9 (w6.heap.size) o (by first | omega | (simp; done) | (simp; omega)); have kf9_2 := fun o => hf9 (w6.heap.size) o (by first | omega | (simp; done) | (simp; omega)); have kl9_2 : w6.heap.size < w9.heap.size := (by omega); clear hc9 hf9
  go_wp2_with fail
  refine (done_emp _ (by rw [ByteArray.toList_eq]) _).mono ?_; rintro e w10 ⟨rfl, b10⟩; obtain ⟨hc10, hf10, hz10⟩ := bcell b10; (try simp at hz10); have kc10_0 := fun o => hc10 (w3.heap.size) o (by first | omega | (simp; done) | (simp; omega)); have kf10_0 := fun o => hf10 (w3.heap.size) o (by first | omega | (simp; done) | (simp; omega)); have kl10_0 : w3.heap.size < w10.heap.size := (by omega); have kc10_1 := fun o => hc10 (w4.heap.size) o (by first | omega | (simp; done) | (simp; omega)); have kf10_1 := fun o => hf10 (w4.heap.size) o (by first | omega | (simp; done) | (simp; omega)); have kl10_1 : w4.heap.size < w10.heap.size := (by omega); have kc10_2 := fun o => hc10 (w6.heap.size) o (by first | omega | (simp; done) | (simp; omega)); have kf10_2 := fun o => hf10 (w6.heap.size) o (by first | omega | (simp; done) | (simp; omega)); have kl10_2 : w6.heap.size < w10.heap.size := (by omega); clear hc10 hf10
  go_wp2_with fail
  refine (done_bad _ _).mono ?_; rintro e w11 ⟨rfl, b11⟩
  go_wp2_with fail
  go_ret
  refine ⟨rfl, ?_⟩
  (have zz0 := Below.size b11; (try simp at zz0); have zz1 := Below.size b10; (try simp at zz1); have zz2 := Below.size b9; (try simp at zz2); have zz3 := Below.size b8; (try simp at zz3); have zz4 := Below.size b7; (try simp at zz4); have zz5 := Below.size b6; (try simp at zz5); have zz6 := Below.size b5; (try simp at zz6); have zz7 := Below.size b4; (try simp at zz7); have zz8 := Below.size b3; (try simp at zz8); have zz9 := Below.size b2; (try simp at zz9); have zz10 := Below.size b1; (try simp at zz10); repeat (first | exact Below.refl _ _ | refine Below.drew ?_ | refine below_drewN ?_ _ | refine Below.alloc ?_ (by first | omega | (simp; done) | (simp; omega)) _ | refine Below.setCell ?_ (by first | omega | (simp; done) | (simp; omega)) _ | (with_reducible refine Below.trans ?_ (Below.mono b11 (by first | omega | (simp; done) | (simp; omega)))) | (with_reducible refine Below.trans ?_ (Below.mono b10 (by first | omega | (simp; done) | (simp; omega)))) | (with_reducible refine Below.trans ?_ (Below.mono b9 (by first | omega | (simp; done) | (simp; omega)))) | (with_reducible refine Below.trans ?_ (Below.mono b8 (by first | omega | (simp; done) | (simp; omega)))) | (with_reducible refine Below.trans ?_ (Below.mono b7 (by first | omega | (simp; done) | (simp; omega)))) | (with_reducible refine Below.trans ?_ (Below.mono b6 (by first | omega | (simp; done) | (simp; omega)))) | (with_reducible refine Below.trans ?_ (Below.mono b5 (by first | omega | (simp; done) | (simp; omega)))) | (with_reducible refine Below.trans ?_ (Below.mono b4 (by first | omega | (simp; done) | (simp; omega)))) | (with_reducible refine Below.trans ?_ (Below.mono b3 (by first | omega | (simp; done) | (simp; omega)))) | (with_reducible refine Below.trans ?_ (Below.mono b2 (by first | omega | (simp; done) | (simp; omega)))) | (with_reducible refine Below.trans ?_ (Below.mono b1 (by first | omega | (simp; done) | (simp; omega))))))
end Go.Proofs.Ytopidocnohoilaa
