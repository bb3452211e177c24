/- The contract of the reference's Punch. -/
import Derived.Test.YthlbagcdindhdaaDoorRuleThru
namespace Go.Proofs.YthlbagcdindhdaaDoor
open Go.RowKit
set_option linter.unusedVariables false
set_option linter.unusedSimpArgs false

set_option maxHeartbeats 4000000 in
theorem rpunch_any (m f n g : Int) (w : World) : Calls Tryd.prog 19 #[.agg #[.int .i64 m, .int .i64 f], .agg #[.int .i64 n, .int .i64 g]] w fun e w' => e = .returned (.bool (punchT m f n g)) ∧ Below w.heap.size w w' := by
  have T1 := rthrough_any m f n g
  have T2 := rthrough_any n g m f
  unfold punchT ansT
  generalize thruT m f n g = A at *
  generalize thruT n g m f = B at *
  have en : decide (n = 0) = (n == 0) := by rw [Bool.eq_iff_iff]; simp
  have em : decide (m = 0) = (m == 0) := by rw [Bool.eq_iff_iff]; simp
  have ef : decide (f = 2) = (f == 2) := by rw [Bool.eq_iff_iff]; simp
  have eg : decide (g = 2) = (g == 2) := by rw [Bool.eq_iff_iff]; simp
  rw [en, em, ef, eg]
  clear en em ef eg
  obtain ⟨r, HG0⟩ : ∃ r, ((A && ((n == 0) || !(f == 2))) || (B && ((m == 0) || !(g == 2)))) = r := ⟨_, rfl⟩
  rw [HG0]
  have HG := Lib.hid HG0
  clear HG0
  have cn : n = 0 ∨ (¬ n = 0 ∧ (n == 0) = false) := by by_cases h : n = 0; exact .inl h; exact .inr ⟨h, by rw [beq_eq_false_iff_ne]; exact h⟩
  have cm : m = 0 ∨ (¬ m = 0 ∧ (m == 0) = false) := by by_cases h : m = 0; exact .inl h; exact .inr ⟨h, by rw [beq_eq_false_iff_ne]; exact h⟩
  have cf : f = 2 ∨ (¬ f = 2 ∧ (f == 2) = false) := by by_cases h : f = 2; exact .inl h; exact .inr ⟨h, by rw [beq_eq_false_iff_ne]; exact h⟩
  have cg : g = 2 ∨ (¬ g = 2 ∧ (g == 2) = false) := by by_cases h : g = 2; exact .inl h; exact .inr ⟨h, by rw [beq_eq_false_iff_ne]; exact h⟩
  go_enter Tryd.func19, Tryd.ntmps19
  go_wp2_with fail
  refine (T1 _).mono ?_; rintro e w1 ⟨rfl, b1⟩; obtain ⟨hc1, hf1, hz1⟩ := bcell b1; (try simp at hz1); have kc1_0 := fun o => hc1 (w.heap.size) o (by first | omega | (simp; done) | (simp; omega)); have kf1_0 := fun o => hf1 (w.heap.size) o (by first | omega | (simp; done) | (simp; omega)); have kl1_0 : w.heap.size < w1.heap.size := (by omega); have kc1_1 := fun o => hc1 (w.heap.size + 1) o (by first | omega | (simp; done) | (simp; omega)); have kf1_1 := fun o => hf1 (w.heap.size + 1) o (by first | omega | (simp; done) | (simp; omega)); have kl1_1 : w.heap.size + 1 < w1.heap.size := (by omega); clear hc1 hf1
  go_wp2_with fail
  refine (T2 _).mono ?_; rintro e w2 ⟨rfl, b2⟩; obtain ⟨hc2, hf2, hz2⟩ := bcell b2; (try simp at hz2); have kc2_0 := fun o => hc2 (w.heap.size) o (by first | omega | (simp; done) | (simp; omega)); have kf2_0 := fun o => hf2 (w.heap.size) o (by first | omega | (simp; done) | (simp; omega)); have kl2_0 : w.heap.size < w2.heap.size := (by omega); have kc2_1 := fun o => hc2 (w.heap.size + 1) o (by first | omega | (simp; done) | (simp; omega)); have kf2_1 := fun o => hf2 (w.heap.size + 1) o (by first | omega | (simp; done) | (simp; omega)); have kl2_1 : w.heap.size + 1 < w2.heap.size := (by omega); clear hc2 hf2
  have hB : Hid (Below w.heap.size w w2) := by show Below _ _ _; (have zz0 := Below.size b2; (try simp at zz0); have zz1 := Below.size b1; (try simp at zz1); repeat (first | with_reducible exact Below.refl _ _ | with_reducible refine Below.drew ?_ | with_reducible refine below_drewN ?_ _ | with_reducible refine Below.alloc ?_ (by first | omega | (simp; done) | (simp; omega)) _ | with_reducible refine Below.setCell ?_ (by first | omega | (simp; done) | (simp; omega)) _ | (with_reducible refine Below.trans ?_ (Below.mono b2 (by first | omega | (simp; done) | (simp; omega)))) | (with_reducible refine Below.trans ?_ (Below.mono b1 (by first | omega | (simp; done) | (simp; omega))))))
  clear T1 T2 b1 b2
  rcases cn with rfl | ⟨hn', hn⟩ <;> rcases cm with rfl | ⟨hm', hm⟩ <;> rcases cf with rfl | ⟨hf', hf⟩ <;> rcases cg with rfl | ⟨hg', hg⟩ <;> cases A <;> cases B <;>
  · (try rw [hn] at HG)
    (try rw [hm] at HG)
    (try rw [hf] at HG)
    (try rw [hg] at HG)
    go_wp2
    go_ret
    exact ⟨bool_ret (by rw [← HG.out]; first | rfl | (simp only [bne, hg]; rfl) | (simp only [bne, hf]; rfl) | (simp only [hn]; rfl) | (simp only [hm]; rfl)), hB.out⟩
end Go.Proofs.YthlbagcdindhdaaDoor
