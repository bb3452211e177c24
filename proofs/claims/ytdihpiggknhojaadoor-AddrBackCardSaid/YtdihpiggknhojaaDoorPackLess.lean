/- Plain mathematics: numbers of one size stand as their bytes do. No program is read here. -/
import Derived.Test.YtdihpiggknhojaaDoorPackMath
import Derived.Laws.Cover1
namespace Go.Proofs.YtdihpiggknhojaaDoor
set_option linter.unusedVariables false
set_option linter.unusedSimpArgs false

theorem two_parts (M hA hB rA rB : Nat) (h1 : rA < M) (h2 : rB < M) : (rA + M * hA < rB + M * hB) ↔ (hA < hB ∨ (hA = hB ∧ rA < rB)) := by
  rcases Nat.lt_trichotomy hA hB with h | h | h
  · have : M * (hA + 1) ≤ M * hB := Nat.mul_le_mul_left _ h
    rw [Nat.mul_succ] at this
    exact ⟨fun _ => .inl h, fun _ => by omega⟩
  · subst h
    exact ⟨fun _ => .inr ⟨rfl, by omega⟩, fun h => by omega⟩
  · have : M * (hB + 1) ≤ M * hA := Nat.mul_le_mul_left _ h
    rw [Nat.mul_succ] at this
    exact ⟨fun _ => by omega, fun _ => by omega⟩
theorem dg_less (A B k : Nat) : Op.bytesLess (dg A k) (dg B k) = decide (A % 256 ^ k < B % 256 ^ k) := by
  induction k with
  | zero => simp [dg, Op.bytesLess, Nat.mod_one]
  | succ k ih =>
    have hM : 0 < 256 ^ k := Nat.pow_pos (by omega)
    have hA : A / 256 ^ k % 256 < 256 := Nat.mod_lt _ (by omega)
    have hB : B / 256 ^ k % 256 < 256 := Nat.mod_lt _ (by omega)
    rw [dg, dg, Op.bytesLess, ih, Nat.pow_succ, Nat.mod_mul, Nat.mod_mul, Bool.eq_iff_iff]
    have h := two_parts (256 ^ k) (A / 256 ^ k % 256) (B / 256 ^ k % 256) (A % 256 ^ k) (B % 256 ^ k) (Nat.mod_lt _ hM) (Nat.mod_lt _ hM)
    simp only [Bool.or_eq_true, Bool.and_eq_true, decide_eq_true_eq, beq_iff_eq]
    rw [h, UInt8.lt_iff_toNat_lt, ← UInt8.toNat_inj, ofNat_toNat _ hA, ofNat_toNat _ hB]
theorem dg_same (A B k : Nat) (hA : A < 256 ^ k) (hB : B < 256 ^ k) : (dg A k == dg B k) = decide (A = B) := by
  rw [Bool.eq_iff_iff]
  simp only [beq_iff_eq, decide_eq_true_eq]
  constructor
  · intro h
    have h1 := valF_dg A k 0
    have h2 := valF_dg B k 0
    rw [h, h2, Nat.mod_eq_of_lt hA, Nat.mod_eq_of_lt hB] at h1
    omega
  · rintro rfl; rfl
theorem numB_less (A B k : Nat) (hA : A < 256 ^ k) (hB : B < 256 ^ k) : Op.bytesLess (numB A k).toList (numB B k).toList = decide ((A : Int) < B) := by
  rw [ByteArray.toList_eq, ByteArray.toList_eq, numB_data, numB_data, dg_less, Nat.mod_eq_of_lt hA, Nat.mod_eq_of_lt hB]
  simp
theorem numB_same (A B k : Nat) (hA : A < 256 ^ k) (hB : B < 256 ^ k) : ((numB A k).toList == (numB B k).toList) = decide ((A : Int) = B) := by
  rw [ByteArray.toList_eq, ByteArray.toList_eq, numB_data, numB_data, dg_same A B k hA hB]
  simp
  omega
end Go.Proofs.YtdihpiggknhojaaDoor
