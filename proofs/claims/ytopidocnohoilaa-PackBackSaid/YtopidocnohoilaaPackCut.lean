/- Plain mathematics: what was put, cut anywhere, is bad. No program is read here. -/
import Derived.Test.YtopidocnohoilaaPackMath
namespace Go.Proofs.Ytopidocnohoilaa
set_option linter.unusedVariables false
set_option linter.unusedSimpArgs false

theorem extract_size (s : ByteArray) (q : Nat) (h : q ≤ s.size) : (s.extract 0 q).size = q := by
  have h1 := congrArg List.length (Lib.extract_data s 0 q)
  have h2 := ba_len s
  have h3 := ba_len (s.extract 0 q)
  rw [List.length_take, List.length_drop] at h1
  omega
theorem ba_cut_in (a b : ByteArray) (q : Nat) (h : a.size ≤ q) : (a ++ b).extract 0 q = a ++ b.extract 0 (q - a.size) := by
  apply ba_ext
  have ha := ba_len a
  rw [Lib.extract_data, ba_append, ba_append, Lib.extract_data, List.drop_zero, List.drop_zero, Nat.sub_zero, Nat.sub_zero, List.take_append, List.take_of_length_le (by omega), ha]
theorem ba_cut_left (a b : ByteArray) (q : Nat) (h : q ≤ a.size) : (a ++ b).extract 0 q = a.extract 0 q := by
  apply ba_ext
  have ha := ba_len a
  rw [Lib.extract_data, Lib.extract_data, ba_append, List.drop_zero, List.drop_zero, List.take_append_of_le_length (by omega)]
theorem rtx_cut (S : ByteArray) (q : Nat) (hS : S.size ≤ 255) (h : q < 1 + S.size) : rtx ((txB S).extract 0 q) false = (emp, emp, true) := by
  have hz := txB_size S
  rcases Nat.eq_zero_or_pos q with h0 | h0
  · have e : rdn ((txB S).extract 0 q) false 1 = (0, emp, true) := rdn_short _ _ _ (by rw [extract_size _ _ (by omega)]; omega)
    unfold rtx
    rw [e]
    simp
  · have hn := numB_size S.size 1
    have e : rdn ((txB S).extract 0 q) false 1 = (S.size, S.extract 0 (q - 1), false) := by
      have h1 := ba_cut_in (numB S.size 1) S q (by omega)
      rw [hn] at h1
      rw [txB, h1]
      exact rdn_put S.size 1 _ (by omega) (by omega) (by simp; omega)
    unfold rtx
    rw [e]
    rw [if_neg]
    intro hc
    have hc2 : S.size ≤ (S.extract 0 (q - 1)).size := hc.2
    rw [extract_size _ _ (by omega)] at hc2
    omega
theorem cut_bad (A k b q : Nat) (S : ByteArray) (hk : 1 ≤ k) (hk8 : k ≤ 8) (hA : A < 256 ^ k) (hS : S.size ≤ 255) (hq : q < k + (1 + S.size) + 8) :
    ∃ v1 s1 b1 v2 s2 b2, rdn ((numB A k ++ (txB S ++ numB b 8)).extract 0 q) false (k : Int) = (v1, s1, b1) ∧ rtx s1 b1 = (v2, s2, b2) ∧ rdn s2 b2 8 = (0, emp, true) ∧ s1.size ≤ q ∧ s2.size ≤ q := by
  have hn := numB_size A k
  have h8 := numB_size b 8
  have hz := txB_size S
  by_cases h1 : q < k
  · refine ⟨0, emp, true, emp, emp, true, rdn_short _ _ _ ?_, rtx_bad _, rdn_bad _ _, Nat.zero_le _, Nat.zero_le _⟩
    rw [extract_size _ _ (by simp; omega)]
    omega
  · rw [ba_cut_in _ _ _ (by omega), hn]
    have e1 := rdn_put A k ((txB S ++ numB b 8).extract 0 (q - k)) hk hk8 hA
    have z1 := extract_size (txB S ++ numB b 8) (q - k) (by simp; omega)
    by_cases h2 : q - k < 1 + S.size
    · refine ⟨_, _, _, emp, emp, true, e1, ?_, rdn_bad _ _, by omega, Nat.zero_le _⟩
      rw [ba_cut_left _ _ _ (by omega)]
      exact rtx_cut S _ hS h2
    · have e2 := ba_cut_in (txB S) (numB b 8) (q - k) (by omega)
      rw [hz] at e2
      have z2 := extract_size (numB b 8) (q - k - (1 + S.size)) (by omega)
      refine ⟨_, _, _, S, (numB b 8).extract 0 (q - k - (1 + S.size)), false, e1, ?_, rdn_short _ _ _ (by rw [z2]; omega), by omega, by omega⟩
      rw [e2]
      exact rtx_put S _ hS
end Go.Proofs.Ytopidocnohoilaa
