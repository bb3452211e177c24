/- Bits of a number as a list; rows of values by their index. -/
import Derived.Test.YtheipflmkjiimaaRiEx
namespace Go.Proofs.Ytheipflmkjiimaa
open Go.Sort Go.RowKit Go.BigFrame
set_option linter.unusedVariables false
set_option linter.unusedSimpArgs false

/-- is bit k of x set? -/
def bitOn (x : Int) (k : Nat) : Bool := decide (x / 2 ^ k % 2 = 1)
/-- the numbers below n whose bit is set -/
def bitsTo (x : Int) : Nat → List Int
  | 0 => []
  | k + 1 => if bitOn x k then bitsTo x k ++ [(k : Int)] else bitsTo x k
theorem bits_mem (x : Int) : ∀ (n : Nat) (y : Int), y ∈ bitsTo x n ↔ ∃ k : Nat, k < n ∧ bitOn x k = true ∧ y = k
  | 0, y => by simp [bitsTo]
  | n + 1, y => by
    have ih := bits_mem x n y
    unfold bitsTo
    constructor
    · intro h
      split at h
      · rename_i hb
        rcases List.mem_append.1 h with h | h
        · obtain ⟨k, h1, h2⟩ := ih.1 h; exact ⟨k, by omega, h2⟩
        · exact ⟨n, by omega, hb, by simpa using h⟩
      · obtain ⟨k, h1, h2⟩ := ih.1 h; exact ⟨k, by omega, h2⟩
    · rintro ⟨k, h1, h2, rfl⟩
      by_cases hk : k = n
      · subst hk; rw [if_pos h2]; simp
      · have := ih.2 ⟨k, by omega, h2, rfl⟩
        split
        · exact List.mem_append.2 (.inl this)
        · exact this
theorem bits_nodup (x : Int) : ∀ n, (bitsTo x n).Nodup
  | 0 => by simp [bitsTo]
  | n + 1 => by
    have ih := bits_nodup x n
    unfold bitsTo
    split
    · rw [List.nodup_append]
      refine ⟨ih, by simp, fun a ha b hb => ?_⟩
      obtain ⟨k, h1, _, rfl⟩ := (bits_mem x n a).1 ha
      simp at hb
      omega
    · exact ih
theorem bits_len (x : Int) : ∀ n, (bitsTo x n).length ≤ n
  | 0 => by simp [bitsTo]
  | n + 1 => by
    have := bits_len x n
    unfold bitsTo
    split
    · simp; omega
    · omega
theorem bit_yes {x : Int} {k : Nat} (hx : 0 ≤ x) (h : bitOn x k = true) : ((x / 2 ^ k).tmod 2 == 1) = true ∧ ((x / 2 ^ k).tmod 2 == 0) = false := by
  have h1 : 0 ≤ x / 2 ^ k := Int.ediv_nonneg hx (Int.pow_nonneg (by decide))
  have h2 : x / 2 ^ k % 2 = 1 := of_decide_eq_true h
  rw [tmod_pos _ _ h1, h2]; exact ⟨rfl, rfl⟩
theorem bit_no {x : Int} {k : Nat} (hx : 0 ≤ x) (h : bitOn x k = false) : ((x / 2 ^ k).tmod 2 == 1) = false ∧ ((x / 2 ^ k).tmod 2 == 0) = true := by
  have h1 : 0 ≤ x / 2 ^ k := Int.ediv_nonneg hx (Int.pow_nonneg (by decide))
  have h2 : ¬ x / 2 ^ k % 2 = 1 := of_decide_eq_false h
  have h3 : x / 2 ^ k % 2 = 0 := by omega
  rw [tmod_pos _ _ h1, h3]; exact ⟨rfl, rfl⟩
theorem St.setc {w0 w : World} {b : Nat} {vs : List Value} (H1 H2 : List Hl) (s : St w0 (H1 ++ hC b vs :: H2) w) (i : Nat) (v : Value) (hi : i < vs.length) : St w0 (H1 ++ hC b (vs.set i v) :: H2) (w.setCell ⟨b, i, none⟩ v) :=
  s.aft (h' := hC b (vs.set i v)) (Touch.set (F := fun k => k = b) (Touch.refl _ _) (fun _ => rfl) _) ((s.cs (by simp)).set i v hi) (fun k hk => .inl hk)
theorem St.perm {w0 w : World} {H H' : List Hl} (s : St w0 H w) (hp : H'.Perm H) : St w0 H' w :=
  ⟨fun h hm => s.all h (hp.subset hm), hp.symm.pairwise s.apart (fun hab b h1 h2 => hab b h2 h1), s.below⟩
/-- a row of n values -/
def rowF (n : Nat) (f : Nat → Value) : List Value := (List.range n).map f
theorem rowF_congr {n : Nat} {a b : Nat → Value} (h : ∀ k, k < n → a k = b k) : rowF n a = rowF n b := List.map_congr_left fun k hk => h k (by simpa using hk)
theorem rowF_len (n : Nat) (f : Nat → Value) : (rowF n f).length = n := by simp [rowF]
theorem rowF_set (n : Nat) (f : Nat → Value) (p : Nat) (x : Value) : (rowF n f).set p x = rowF n (fun k => if k = p then x else f k) := by
  unfold rowF
  refine List.ext_getElem (by simp) fun i h1 h2 => ?_
  rw [List.getElem_set]
  by_cases h : p = i
  · subst h; simp
  · rw [if_neg h]
    have : ¬ i = p := fun e => h e.symm
    simp [this]
theorem rowF_at (n : Nat) (f : Nat → Value) (p : Nat) (hp : p < n) : (rowF n f)[p]? = some (f p) := by
  unfold rowF
  rw [List.getElem?_map, List.getElem?_range hp]; rfl
theorem rowF_const (n : Nat) (x : Value) : rowF n (fun _ => x) = List.replicate n x := by
  unfold rowF
  rw [List.map_const', List.length_range]
end Go.Proofs.Ytheipflmkjiimaa
