/- The contracts of same and of examples. -/
import Derived.Test.YthjdchhhiopceaaDrawSome
import Derived.Deep.QuietTactic
import Derived.BigQuiet
namespace Go.Proofs.Ythjdchhhiopceaa
open Go.RowKit
set_option linter.unusedVariables false
set_option linter.unusedSimpArgs false

set_option maxRecDepth 100000 in
set_option maxHeartbeats 800000 in
theorem same_yes (A B : Option Addr) (n c d : Nat) (zs : List Int) (hl : n ≤ 100000) (hn : Hid (zs.length = n)) (w : World) (ha : Rd .i64 w w.heap.size A zs) (hb : Rd .i64 w w.heap.size B zs) :
    Calls Try.prog 18 #[.slice A n c, .slice B n d] w fun e w' => e = .returned (.bool true) ∧ Below w.heap.size w w' := by
  rcases Nat.eq_zero_or_pos n with h0 | h0
  · subst h0
    go_enter Try.func18, Try.ntmps18
    go_wp2
    go_loopw [5] (fun i wr => i = .int .i64 0 ∧ w = wr) (fun i _ => (intOf i).toNat)
    case atStart => exact ⟨rfl, rfl⟩
    case round =>
      obtain ⟨rfl, rfl⟩ := hrel
      go_wp2
      go_ret
      exact ⟨rfl, Below.refl _ _⟩
  · obtain ⟨b1, o1, rfl, hb1, hc1⟩ := ha (by rw [hn.out]; exact h0)
    obtain ⟨b2, o2, rfl, hb2, hc2⟩ := hb (by rw [hn.out]; exact h0)
    have H1 := Lib.hid hc1
    have H2 := Lib.hid hc2
    clear hc1 hc2 ha hb
    go_enter Try.func18, Try.ntmps18
    go_wp2
    go_loopw [5] (fun i wr => ∃ k : Nat, k ≤ n ∧ i = .int .i64 k ∧ Below w.heap.size w wr) (fun i _ => n - (intOf i).toNat)
    case atStart => exact ⟨0, Nat.zero_le _, rfl, Below.refl _ _⟩
    case round =>
      obtain ⟨k, hk, rfl, hbel⟩ := hrel
      have HB := Lib.hid hbel
      clear hbel
      by_cases hlt : k < n
      · have c1 : wr.cell? ⟨b1, o1 + k, none⟩ = some (.int .i64 (zs.getD k 0)) := (HB.out.cell (p := ⟨b1, o1 + k, none⟩) hb1).trans (H1.out k (by rw [hn.out]; exact hlt))
        have c2 : wr.cell? ⟨b2, o2 + k, none⟩ = some (.int .i64 (zs.getD k 0)) := (HB.out.cell (p := ⟨b2, o2 + k, none⟩) hb2).trans (H2.out k (by rw [hn.out]; exact hlt))
        have hkn : (k : Int) < n := by omega
        have hk0 : (0 : Int) ≤ k := by omega
        go_wp2
        go_quiet (fail)
        go_wp2
        go_roundw
        case rel => exact ⟨k + 1, by omega, by go_num, by (have hb := HB.out; (have zz0 := Below.size hb; (try simp at zz0); repeat (first | exact Below.refl _ _ | refine Below.drew ?_ | refine below_drewN ?_ _ | refine Below.alloc ?_ (by first | omega | (simp; done) | (simp; omega)) _ | refine Below.setCell ?_ (by first | omega | (simp; done) | (simp; omega)) _ | (with_reducible refine Below.trans ?_ (Below.mono hb (by first | omega | (simp; done) | (simp; omega)))))))⟩
        case measure => simp [intOf] <;> omega
      · go_wp2
        go_ret
        exact ⟨rfl, HB.out⟩

theorem num0 : num 0 = 16294208416658607535 := by decide +kernel
theorem nx0 : nx 0 = 11400714819323198485 := by decide +kernel

set_option maxRecDepth 100000 in
set_option maxHeartbeats 800000 in
theorem examples_yes (w : World) : Calls Try.prog 8 #[] w fun e w' => e = .returned (.bool true) ∧ Below w.heap.size w w' := by
  go_enter Try.func8, Try.ntmps8
  go_wp2_with fail
  refine (new_any _ _).mono ?_; rintro e w1 ⟨rfl, b1⟩
  go_wp2_with fail
  refine (next_any _ _).mono ?_; rintro e w2 ⟨rfl, b2⟩; rw [num0, nx0]
  go_wp2_with fail
  refine (new_any _ _).mono ?_; rintro e w3 ⟨rfl, b3⟩; obtain ⟨hc3, hf3, hz3⟩ := bcell b3; (try simp at hz3); have kc3_0 := fun o => hc3 (w2.heap.size) o (by first | omega | (simp; done) | (simp; omega)); have kf3_0 := fun o => hf3 (w2.heap.size) o (by first | omega | (simp; done) | (simp; omega)); have kl3_0 : w2.heap.size < w3.heap.size := (by omega); clear hc3 hf3
  go_wp2_with fail
  refine (below_no _ _ (by omega) _).mono ?_; rintro e w4 ⟨rfl, b4⟩; obtain ⟨hc4, hf4, hz4⟩ := bcell b4; (try simp at hz4); have kc4_0 := fun o => hc4 (w2.heap.size) o (by first | omega | (simp; done) | (simp; omega)); have kf4_0 := fun o => hf4 (w2.heap.size) o (by first | omega | (simp; done) | (simp; omega)); have kl4_0 : w2.heap.size < w4.heap.size := (by omega); clear hc4 hf4
  go_wp2_with fail
  refine (new_any _ _).mono ?_; rintro e w5 ⟨rfl, b5⟩; obtain ⟨hc5, hf5, hz5⟩ := bcell b5; (try simp at hz5); have kc5_0 := fun o => hc5 (w2.heap.size) o (by first | omega | (simp; done) | (simp; omega)); have kf5_0 := fun o => hf5 (w2.heap.size) o (by first | omega | (simp; done) | (simp; omega)); have kl5_0 : w2.heap.size < w5.heap.size := (by omega); have kc5_1 := fun o => hc5 (w4.heap.size) o (by first | omega | (simp; done) | (simp; omega)); have kf5_1 := fun o => hf5 (w4.heap.size) o (by first | omega | (simp; done) | (simp; omega)); have kl5_1 : w4.heap.size < w5.heap.size := (by omega); clear hc5 hf5
  go_wp2_with fail
  refine (mix_ans 7 _ 3 3 [1, 2, 3] (by omega) (by omega) rfl _ ?r1).mono ?_; rotate_right; rintro e w6 ⟨g, rfl, h6, b6⟩; obtain ⟨hc6, hf6, hz6⟩ := bcell b6; (try simp at hz6); have kc6_0 := fun o => hc6 (w2.heap.size) o (by first | omega | (simp; done) | (simp; omega)); have kf6_0 := fun o => hf6 (w2.heap.size) o (by first | omega | (simp; done) | (simp; omega)); have kl6_0 : w2.heap.size < w6.heap.size := (by omega); have kc6_1 := fun o => hc6 (w4.heap.size) o (by first | omega | (simp; done) | (simp; omega)); have kf6_1 := fun o => hf6 (w4.heap.size) o (by first | omega | (simp; done) | (simp; omega)); have kl6_1 : w4.heap.size < w6.heap.size := (by omega); clear hc6 hf6
  case r1 => exact Rd.of_alloc _ _ _ _ rfl
  obtain ⟨g6, o6, e6, l6, c6⟩ := h6.2.1 (by decide)
  injection e6 with e6
  injection e6 with e6 e7
  subst e6 e7
  have d6 := c6 0 (by decide)
  go_wp2_with fail
  refine (new_any _ _).mono ?_; rintro e w7 ⟨rfl, b7⟩; obtain ⟨hc7, hf7, hz7⟩ := bcell b7; (try simp at hz7); have kc7_0 := fun o => hc7 (w2.heap.size) o (by first | omega | (simp; done) | (simp; omega)); have kf7_0 := fun o => hf7 (w2.heap.size) o (by first | omega | (simp; done) | (simp; omega)); have kl7_0 : w2.heap.size < w7.heap.size := (by omega); have kc7_1 := fun o => hc7 (w4.heap.size) o (by first | omega | (simp; done) | (simp; omega)); have kf7_1 := fun o => hf7 (w4.heap.size) o (by first | omega | (simp; done) | (simp; omega)); have kl7_1 : w4.heap.size < w7.heap.size := (by omega); have kc7_2 := fun o => hc7 (g) o (by first | omega | (simp; done) | (simp; omega)); have kf7_2 := fun o => hf7 (g) o (by first | omega | (simp; done) | (simp; omega)); have kl7_2 : g < w7.heap.size := (by omega); clear hc7 hf7
  go_wp2_with fail
  refine (some_mid 7 _ 3 3 [1, 2, 3] 2 (by omega) (by omega) (by omega) rfl _ ?r2).mono ?_; rotate_right; rintro e w8 ⟨A8, c8, rfl, h8, b8⟩; obtain ⟨hc8, hf8, hz8⟩ := bcell b8; (try simp at hz8); have kc8_0 := fun o => hc8 (w2.heap.size) o (by first | omega | (simp; done) | (simp; omega)); have kf8_0 := fun o => hf8 (w2.heap.size) o (by first | omega | (simp; done) | (simp; omega)); have kl8_0 : w2.heap.size < w8.heap.size := (by omega); have kc8_1 := fun o => hc8 (w4.heap.size) o (by first | omega | (simp; done) | (simp; omega)); have kf8_1 := fun o => hf8 (w4.heap.size) o (by first | omega | (simp; done) | (simp; omega)); have kl8_1 : w4.heap.size < w8.heap.size := (by omega); have kc8_2 := fun o => hc8 (g) o (by first | omega | (simp; done) | (simp; omega)); have kf8_2 := fun o => hf8 (g) o (by first | omega | (simp; done) | (simp; omega)); have kl8_2 : g < w8.heap.size := (by omega); clear hc8 hf8
  case r2 => exact Rd.of_alloc _ _ _ _ rfl
  obtain ⟨g8, o8, rfl, l8, k8⟩ := h8.2.1 (by decide)
  have d8 := k8 0 (by decide)
  go_wp2_with fail
  have ev : ((mixL 7 [1, 2, 3]).1.take 2).getD 0 0 = (mixL 7 [1, 2, 3]).1.getD 0 0 := by simp [List.getElem?_take]
  rw [ev] at d8
  generalize (mixL 7 [1, 2, 3]).1.getD 0 0 = v0 at d6 d8
  generalize (mixL 7 [1, 2, 3]).2 = s9
  clear ev
  simp only [Nat.add_zero] at d6 d8
  go_quiet (fail)
  go_wp2
  go_ret
  refine ⟨rfl, ?_⟩
  (have zz0 := Below.size b8; (try simp at zz0); have zz1 := Below.size b7; (try simp at zz1); have zz2 := Below.size b6; (try simp at zz2); have zz3 := Below.size b5; (try simp at zz3); have zz4 := Below.size b4; (try simp at zz4); have zz5 := Below.size b3; (try simp at zz5); have zz6 := Below.size b2; (try simp at zz6); have zz7 := Below.size b1; (try simp at zz7); repeat (first | exact Below.refl _ _ | refine Below.drew ?_ | refine below_drewN ?_ _ | refine Below.alloc ?_ (by first | omega | (simp; done) | (simp; omega)) _ | refine Below.setCell ?_ (by first | omega | (simp; done) | (simp; omega)) _ | (with_reducible refine Below.trans ?_ (Below.mono b8 (by first | omega | (simp; done) | (simp; omega)))) | (with_reducible refine Below.trans ?_ (Below.mono b7 (by first | omega | (simp; done) | (simp; omega)))) | (with_reducible refine Below.trans ?_ (Below.mono b6 (by first | omega | (simp; done) | (simp; omega)))) | (with_reducible refine Below.trans ?_ (Below.mono b5 (by first | omega | (simp; done) | (simp; omega)))) | (with_reducible refine Below.trans ?_ (Below.mono b4 (by first | omega | (simp; done) | (simp; omega)))) | (with_reducible refine Below.trans ?_ (Below.mono b3 (by first | omega | (simp; done) | (simp; omega)))) | (with_reducible refine Below.trans ?_ (Below.mono b2 (by first | omega | (simp; done) | (simp; omega)))) | (with_reducible refine Below.trans ?_ (Below.mono b1 (by first | omega | (simp; done) | (simp; omega))))))
end Go.Proofs.Ythjdchhhiopceaa
