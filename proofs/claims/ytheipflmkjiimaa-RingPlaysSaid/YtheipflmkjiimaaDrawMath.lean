/- Plain mathematics of chapter 1: the stream's step and spread, that the spread is one to one, and the mixing of a list. No program is read here. -/
import Derived.Laws.Bits64
import Derived.IntWalk
namespace Go.Proofs.Ytheipflmkjiimaa
set_option linter.unusedVariables false
set_option linter.unusedSimpArgs false

/-- the next state -/
def nx (s : Int) : Int := IntKind.u64.wrap (s + 11400714819323198485)
def mxA (x : Int) : Int := IntKind.u64.wrap (bits BinOp.xor IntKind.u64 x (x / 1073741824) * 13787848793156543929)
def mxB (x : Int) : Int := IntKind.u64.wrap (bits BinOp.xor IntKind.u64 x (x / 134217728) * 10723151780598845931)
def mxC (x : Int) : Int := bits BinOp.xor IntKind.u64 x (x / 2147483648)
/-- the number that is drawn -/
def num (s : Int) : Int := mxC (mxB (mxA (nx s)))

def M64 : Nat := 18446744073709551616

theorem wrap_range (n : Int) : 0 ≤ IntKind.u64.wrap n ∧ IntKind.u64.wrap n ≤ 18446744073709551615 := by
  rw [IntKind.wrap_u64]; omega
theorem nx_range (s : Int) : 0 ≤ nx s ∧ nx s ≤ 18446744073709551615 := wrap_range _

theorem up (x : Int) (h : 0 ≤ x ∧ x ≤ 18446744073709551615) : ∃ X : Nat, x = (X : Int) ∧ X < 18446744073709551616 := ⟨x.toNat, by omega, by omega⟩

theorem xs_nat (X k : Nat) (hX : X < 18446744073709551616) : bits .xor .u64 (X : Int) ((X : Int) / ((2 ^ k : Nat) : Int)) = ((X ^^^ X / 2 ^ k : Nat) : Int) := xorShift_u64 X (2 ^ k) hX

theorem xor_div_lt (X s : Nat) (hX : X < 18446744073709551616) : X ^^^ X / s < 18446744073709551616 := by
  have h := Nat.xor_lt_two_pow (n := 64) (x := X) (y := X / s) hX (Nat.lt_of_le_of_lt (Nat.div_le_self _ _) hX)
  exact h

theorem mxC_nat (X : Nat) (hX : X < 18446744073709551616) : mxC (X : Int) = ((X ^^^ X / 2147483648 : Nat) : Int) := xorShift_u64 X 2147483648 hX
theorem mxA_nat (X : Nat) (hX : X < 18446744073709551616) : mxA (X : Int) = (((X ^^^ X / 1073741824) * 13787848793156543929 % 18446744073709551616 : Nat) : Int) := by
  unfold mxA
  rw [show (1073741824 : Int) = ((1073741824 : Nat) : Int) from rfl, xorShift_u64 X 1073741824 hX, IntKind.wrap_u64]
  omega
theorem mxB_nat (X : Nat) (hX : X < 18446744073709551616) : mxB (X : Int) = (((X ^^^ X / 134217728) * 10723151780598845931 % 18446744073709551616 : Nat) : Int) := by
  unfold mxB
  rw [show (134217728 : Int) = ((134217728 : Nat) : Int) from rfl, xorShift_u64 X 134217728 hX, IntKind.wrap_u64]
  omega
theorem mxA_range (x : Int) : 0 ≤ mxA x ∧ mxA x ≤ 18446744073709551615 := wrap_range _
theorem mxB_range (x : Int) : 0 ≤ mxB x ∧ mxB x ≤ 18446744073709551615 := wrap_range _
theorem mxC_range (x : Int) (h : 0 ≤ x ∧ x ≤ 18446744073709551615) : 0 ≤ mxC x ∧ mxC x ≤ 18446744073709551615 := by
  obtain ⟨X, rfl, hX⟩ := up x h
  rw [mxC_nat X hX]
  have := xor_div_lt X 2147483648 hX
  omega
theorem num_range (s : Int) : 0 ≤ num s ∧ num s ≤ 18446744073709551615 := mxC_range _ (mxB_range _)

/-- exclusive-or with itself shifted right is one to one -/
theorem xs_inj (k : Nat) (hk : 0 < k) (X Y : Nat) (hX : X < 2 ^ 64) (hY : Y < 2 ^ 64) (h : X ^^^ X / 2 ^ k = Y ^^^ Y / 2 ^ k) : X = Y := by
  have key : ∀ d i, 64 ≤ i + d → X.testBit i = Y.testBit i := by
    intro d
    induction d with
    | zero =>
      intro i hi
      have hp : 2 ^ 64 ≤ 2 ^ i := Nat.pow_le_pow_right (by omega) (by omega)
      rw [Nat.testBit_lt_two_pow (by omega), Nat.testBit_lt_two_pow (by omega)]
    | succ d ih =>
      intro i hi
      have h1 := congrArg (fun n => n.testBit i) h
      simp only [Nat.testBit_xor, Nat.testBit_div_two_pow] at h1
      rw [ih (i + k) (by omega)] at h1
      cases hx : X.testBit i <;> cases hy : Y.testBit i <;> cases hz : Y.testBit (i + k) <;> simp_all
  exact Nat.eq_of_testBit_eq fun i => key 64 i (by omega)

theorem mul_inj (C D X Y : Nat) (hCD : C * D % 18446744073709551616 = 1) (hX : X < 18446744073709551616) (hY : Y < 18446744073709551616)
    (h : X * C % 18446744073709551616 = Y * C % 18446744073709551616) : X = Y := by
  have e : ∀ Z, Z < 18446744073709551616 → (Z * C % 18446744073709551616) * D % 18446744073709551616 = Z := by
    intro Z hZ
    rw [Nat.mod_mul_mod, Nat.mul_assoc, Nat.mul_mod, hCD, Nat.mul_one, Nat.mod_mod, Nat.mod_eq_of_lt hZ]
  rw [← e X hX, ← e Y hY, h]

theorem nx_inj (a b : Int) (ha : 0 ≤ a ∧ a ≤ 18446744073709551615) (hb : 0 ≤ b ∧ b ≤ 18446744073709551615) (h : nx a = nx b) : a = b := by
  unfold nx at h
  rw [IntKind.wrap_u64, IntKind.wrap_u64] at h
  omega

theorem xsC_inj (X Y : Nat) (hX : X < 18446744073709551616) (hY : Y < 18446744073709551616) (h : X ^^^ X / 2147483648 = Y ^^^ Y / 2147483648) : X = Y := xs_inj 31 (by omega) X Y hX hY h
theorem xsB_inj (X Y : Nat) (hX : X < 18446744073709551616) (hY : Y < 18446744073709551616) (h : X ^^^ X / 134217728 = Y ^^^ Y / 134217728) : X = Y := xs_inj 27 (by omega) X Y hX hY h
theorem xsA_inj (X Y : Nat) (hX : X < 18446744073709551616) (hY : Y < 18446744073709551616) (h : X ^^^ X / 1073741824 = Y ^^^ Y / 1073741824) : X = Y := xs_inj 30 (by omega) X Y hX hY h
theorem mxC_inj (a b : Int) (ha : 0 ≤ a ∧ a ≤ 18446744073709551615) (hb : 0 ≤ b ∧ b ≤ 18446744073709551615) (h : mxC a = mxC b) : a = b := by
  obtain ⟨X, rfl, hX⟩ := up a ha
  obtain ⟨Y, rfl, hY⟩ := up b hb
  rw [mxC_nat X hX, mxC_nat Y hY] at h
  rw [xsC_inj X Y hX hY (by exact_mod_cast h)]
theorem mxB_inj (a b : Int) (ha : 0 ≤ a ∧ a ≤ 18446744073709551615) (hb : 0 ≤ b ∧ b ≤ 18446744073709551615) (h : mxB a = mxB b) : a = b := by
  obtain ⟨X, rfl, hX⟩ := up a ha
  obtain ⟨Y, rfl, hY⟩ := up b hb
  rw [mxB_nat X hX, mxB_nat Y hY] at h
  have h2 := mul_inj 10723151780598845931 3573116690164977347 (X ^^^ X / 134217728) (Y ^^^ Y / 134217728) (by decide) (xor_div_lt X _ hX) (xor_div_lt Y _ hY) (by exact_mod_cast h)
  rw [xsB_inj X Y hX hY h2]
theorem mxA_inj (a b : Int) (ha : 0 ≤ a ∧ a ≤ 18446744073709551615) (hb : 0 ≤ b ∧ b ≤ 18446744073709551615) (h : mxA a = mxA b) : a = b := by
  obtain ⟨X, rfl, hX⟩ := up a ha
  obtain ⟨Y, rfl, hY⟩ := up b hb
  rw [mxA_nat X hX, mxA_nat Y hY] at h
  have h2 := mul_inj 13787848793156543929 10871156337175269513 (X ^^^ X / 1073741824) (Y ^^^ Y / 1073741824) (by decide) (xor_div_lt X _ hX) (xor_div_lt Y _ hY) (by exact_mod_cast h)
  rw [xsA_inj X Y hX hY h2]

theorem num_inj (a b : Int) (ha : 0 ≤ a ∧ a ≤ 18446744073709551615) (hb : 0 ≤ b ∧ b ≤ 18446744073709551615) (h : num a = num b) : a = b :=
  nx_inj a b ha hb (mxA_inj _ _ (nx_range a) (nx_range b) (mxB_inj _ _ (mxA_range _) (mxA_range _) (mxC_inj _ _ (mxB_range _) (mxB_range _) h)))

/-- the steps of two streams are the same -/
theorem nx_step (a b : Int) (ha : 0 ≤ a ∧ a ≤ 18446744073709551615) (hb : 0 ≤ b ∧ b ≤ 18446744073709551615) : IntKind.u64.wrap (nx a - a) = IntKind.u64.wrap (nx b - b) := by
  unfold nx
  rw [IntKind.wrap_u64, IntKind.wrap_u64, IntKind.wrap_u64, IntKind.wrap_u64]
  omega

/-- what stands at i and at j is exchanged -/
def swp (l : List Int) (i j : Nat) : List Int := (l.set i (l.getD j 0)).set j (l.getD i 0)
theorem swp_length (l : List Int) (i j : Nat) : (swp l i j).length = l.length := by simp [swp]
/-- the mixing from place p down -/
def mixTo : Nat → Int → List Int → List Int × Int
  | 0, s, l => (l, s)
  | p + 1, s, l => mixTo p (nx s) (swp l (p + 1) (num s % ((p : Int) + 2)).toNat)
def mixL (s : Int) (l : List Int) : List Int × Int := mixTo (l.length - 1) s l
theorem mixTo_length (p : Nat) : ∀ s l, (mixTo p s l).1.length = l.length := by
  induction p with
  | zero => intro s l; rfl
  | succ p ih => intro s l; rw [mixTo, ih, swp_length]
theorem mixL_length (s : Int) (l : List Int) : (mixL s l).1.length = l.length := mixTo_length _ _ _
theorem mixTo_state (p : Nat) : ∀ s l, 0 ≤ s ∧ s ≤ 18446744073709551615 → 0 ≤ (mixTo p s l).2 ∧ (mixTo p s l).2 ≤ 18446744073709551615 := by
  induction p with
  | zero => intro s l h; exact h
  | succ p ih => intro s l _; rw [mixTo]; exact ih _ _ (nx_range s)
/-- the place that is drawn, as a number -/
theorem pick_nat (s : Int) (p : Nat) : ∃ k : Nat, num s % ((p : Int) + 2) = (k : Int) ∧ k < p + 2 := by
  have h1 := Int.emod_nonneg (num s) (show (p : Int) + 2 ≠ 0 by omega)
  have h2 := Int.emod_lt_of_pos (num s) (show 0 < (p : Int) + 2 by omega)
  exact ⟨(num s % ((p : Int) + 2)).toNat, by omega, by omega⟩
theorem mixTo_succ (p : Nat) (s : Int) (l : List Int) (k : Nat) (hk : num s % ((p : Int) + 2) = (k : Int)) : mixTo (p + 1) s l = mixTo p (nx s) (swp l (p + 1) k) := by
  rw [mixTo, hk, Int.toNat_natCast]


theorem swp_perm (l : List Int) (i j : Nat) (hi : i < l.length) (hj : j < l.length) : (swp l i j).Perm l := by
  unfold swp
  have h2 : j < (l.set i (l.getD j 0)).length := by simpa using hj
  by_cases hij : i = j
  · subst hij
    have e : l.getD i 0 = l[i] := by simp [List.getD_eq_getElem?_getD, hi]
    rw [e, List.set_set, List.set_getElem_self]
  · have e1 : ((l.set i (l.getD j 0)).set j (l.getD i 0)) = (l.set j (l.getD i 0)).set i (l.getD j 0) := List.set_comm _ _ hij
    refine (List.perm_iff_count.2 fun a => ?_)
    have c1 := List.count_set (a := l.getD i 0) (b := a) (l := l.set i (l.getD j 0)) h2
    have c2 := List.count_set (a := l.getD j 0) (b := a) (l := l) hi
    have e2 : (l.set i (l.getD j 0))[j] = l[j] := List.getElem_set_ne (by omega) _
    have ei : l.getD i 0 = l[i] := by simp [List.getD_eq_getElem?_getD, hi]
    have ej : l.getD j 0 = l[j] := by simp [List.getD_eq_getElem?_getD, hj]
    have pi : (l[i] == a) = true → 0 < l.count a := fun h => List.count_pos_iff.2 (by rw [← beq_iff_eq.1 h]; exact List.getElem_mem hi)
    have pj : (l[j] == a) = true → 0 < l.count a := fun h => List.count_pos_iff.2 (by rw [← beq_iff_eq.1 h]; exact List.getElem_mem hj)
    rw [c1, c2, e2, ei, ej]
    by_cases ha : (l[i] == a) = true
    · by_cases hb : (l[j] == a) = true
      · simp [ha, hb]; have := pi ha; omega
      · simp [ha, hb]; have := pi ha; omega
    · by_cases hb : (l[j] == a) = true
      · simp [ha, hb]
      · simp [ha, hb]
theorem mixTo_perm (p : Nat) : ∀ s l, p < l.length ∨ p = 0 → (mixTo p s l).1.Perm l := by
  induction p with
  | zero => intro s l _; exact List.Perm.refl _
  | succ p ih =>
    intro s l h
    obtain ⟨k, hk, hkl⟩ := pick_nat s p
    rw [mixTo_succ p s l k hk]
    refine (ih _ _ (by rw [swp_length]; omega)).trans (swp_perm l _ _ (by omega) (by omega))
theorem mixL_perm (s : Int) (l : List Int) : (mixL s l).1.Perm l := by
  unfold mixL
  refine mixTo_perm _ _ _ ?_
  cases l with
  | nil => exact .inr rfl
  | cons x l => exact .inl (by simp)
end Go.Proofs.Ytheipflmkjiimaa
