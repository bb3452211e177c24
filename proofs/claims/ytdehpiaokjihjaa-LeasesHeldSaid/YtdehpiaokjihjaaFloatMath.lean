/- Plain mathematics: float64 words that are whole numbers. No program is read here. -/
import Derived.Laws.Cover2
import Derived.Laws.FloatArith
namespace Go.Proofs.Ytdehpiaokjihjaa
set_option linter.unusedVariables false
set_option linter.unusedSimpArgs false

/-- float64(n) -/
def fI (n : Int) : Nat := floatOfInt .f64 n
/-- the word x is the whole number n (a zero may have either sign) -/
def IsI (x : Nat) (n : Int) : Prop := ∃ (s : Bool) (m j : Nat), Ieee.double.read x = .number s m (-(j : Int)) ∧ m = n.natAbs * 2 ^ j ∧ j ≤ 1074 ∧ (n ≠ 0 → s = decide (n < 0))

theorem signed_is {s : Bool} {m j : Nat} {n : Int} (hm : m = n.natAbs * 2 ^ j) (hs : n ≠ 0 → s = decide (n < 0)) (u : Nat) : Ieee.signed s m u = n * 2 ^ (j + u) := by
  unfold Ieee.signed
  rw [Nat.shiftLeft_eq, hm, Nat.mul_assoc, ← Nat.pow_add]
  by_cases h0 : n = 0
  · subst h0; cases s <;> simp
  · have hs := hs h0
    by_cases hn : n < 0
    · rw [hs, if_pos (by simpa using hn)]
      have e : (n.natAbs : Int) = -n := by omega
      rw [Int.natCast_mul, e, Int.natCast_pow, Int.neg_mul, Int.neg_neg]
      rfl
    · rw [hs, if_neg (by simpa using hn)]
      have e : (n.natAbs : Int) = n := by omega
      rw [Int.natCast_mul, e, Int.natCast_pow]
      rfl
theorem compare_scale (a b : Int) (k : Nat) : compare (a * 2 ^ k) (b * 2 ^ k) = compare a b := by
  have hp : (0 : Int) < 2 ^ k := Int.pow_pos (by omega)
  rcases Int.lt_trichotomy a b with h | h | h
  · have h2 : a * 2 ^ k < b * 2 ^ k := Int.mul_lt_mul_of_pos_right h hp
    rw [Int.compare_eq_lt.2 h2, Int.compare_eq_lt.2 h]
  · subst h; simp
  · have h2 : b * 2 ^ k < a * 2 ^ k := Int.mul_lt_mul_of_pos_right h hp
    rw [Int.compare_eq_gt.2 h2, Int.compare_eq_gt.2 h]
theorem min_neg (i j : Nat) : min (-(i : Int)) (-(j : Int)) = -((max i j : Nat) : Int) := by omega
theorem gap_l (i j : Nat) : (-(i : Int) - -((max i j : Nat) : Int)).toNat = max i j - i := by omega
theorem gap_r (i j : Nat) : (-(j : Int) - -((max i j : Nat) : Int)).toNat = max i j - j := by omega
theorem IsI.order {x y : Nat} {a b : Int} (hx : IsI x a) (hy : IsI y b) : Ieee.double.order x y = some (compare a b) := by
  obtain ⟨s, m, i, h1, h2, h3, h4⟩ := hx
  obtain ⟨t, n, j, g1, g2, g3, g4⟩ := hy
  unfold Ieee.Format.order Ieee.Datum.order
  rw [h1, g1]
  simp only [min_neg, gap_l, gap_r]
  rw [signed_is h2 h4, signed_is g2 g4]
  have e1 : i + (max i j - i) = max i j := by omega
  have e2 : j + (max i j - j) = max i j := by omega
  rw [e1, e2, compare_scale]
theorem log2_shift (k j : Nat) (hk : 0 < k) : (k * 2 ^ j).log2 = k.log2 + j := by
  have hne : k * 2 ^ j ≠ 0 := Nat.mul_ne_zero (by omega) (by have := Nat.pow_pos (n := j) (show 0 < 2 by omega); omega)
  rw [Nat.log2_eq_iff hne]
  have h1 := Nat.log2_self_le (show k ≠ 0 by omega)
  have h2 := Nat.lt_log2_self (n := k)
  constructor
  · rw [Nat.pow_add]; exact Nat.mul_le_mul_right _ h1
  · rw [show k.log2 + j + 1 = (k.log2 + 1) + j by omega, Nat.pow_add]
    exact Nat.mul_lt_mul_of_pos_right h2 (Nat.pow_pos (by omega))
/-- cutting exact digits off -/
theorem cut_exact (way : Ieee.Toward) (neg : Bool) (k d : Nat) : way.cut neg (k * 2 ^ d) d = k := by
  unfold Ieee.Toward.cut
  rcases Nat.eq_zero_or_pos k with h0 | h0
  · subst h0
    have hp : 0 < 1 <<< min d ((0 * 2 ^ d).log2 + 2) := by rw [Nat.shiftLeft_eq]; exact Nat.mul_pos (by omega) (Nat.pow_pos (by omega))
    cases way <;> simp <;> omega
  · have hm : min d ((k * 2 ^ d).log2 + 2) = d := by rw [log2_shift k d h0]; omega
    rw [hm, Nat.shiftLeft_eq, Nat.one_mul]
    have hp : 0 < 2 ^ d := Nat.pow_pos (by omega)
    have h1 : k * 2 ^ d / 2 ^ d = k := Nat.mul_div_cancel _ hp
    have h2 : k * 2 ^ d % 2 ^ d = 0 := Nat.mul_mod_left _ _
    simp only [h1, h2]
    cases way <;> simp <;> omega
theorem IsI.toInt {x : Nat} {n : Int} (hx : IsI x n) : (Ieee.double.read x).toInt .zero = some n := by
  obtain ⟨s, m, j, h1, h2, h3, h4⟩ := hx
  unfold Ieee.Datum.toInt Ieee.Datum.integral
  rw [h1]
  have e1 : (-(j : Int)).toNat = 0 := by omega
  have e2 : (- -(j : Int)).toNat = j := by omega
  simp only [e1, e2, Nat.shiftLeft_zero]
  rw [h2, cut_exact]
  have := signed_is (s := s) (m := n.natAbs) (j := 0) (n := n) (by simp) h4 0
  rw [this]; simp
theorem IsI.int {x : Nat} {n : Int} (hx : IsI x n) (h : -9223372036854775808 ≤ n ∧ n ≤ 9223372036854775807) : floatToIntVal .f64 x .i64 = some n := by
  unfold floatToIntVal FloatKind.decode
  have := hx.toInt
  have e : FloatKind.f64.format = Ieee.double := rfl
  rw [e, this]
  exact if_pos h

/-- the rung of a whole number above 0 -/
def rg (k : Nat) : Nat := (1074 - (52 - k.log2)) * 4503599627370496 + k * 2 ^ (52 - k.log2)
theorem log2_52 {k : Nat} (hk : 0 < k) (h : k < 9007199254740992) : k.log2 ≤ 52 := by
  have h1 := Nat.log2_self_le (show k ≠ 0 by omega)
  rcases Nat.lt_or_ge 52 k.log2 with h2 | h2
  · have : 2 ^ 53 ≤ 2 ^ k.log2 := Nat.pow_le_pow_right (by omega) h2
    have e : (2 : Nat) ^ 53 = 9007199254740992 := by decide
    omega
  · exact h2
theorem kept_bounds {k : Nat} (hk : 0 < k) (h : k < 9007199254740992) : 4503599627370496 ≤ k * 2 ^ (52 - k.log2) ∧ k * 2 ^ (52 - k.log2) < 9007199254740992 := by
  have hl := log2_52 hk h
  have h1 := Nat.log2_self_le (show k ≠ 0 by omega)
  have h2 := Nat.lt_log2_self (n := k)
  have hp : 0 < 2 ^ (52 - k.log2) := Nat.pow_pos (by omega)
  have e : (2 : Nat) ^ 52 = 4503599627370496 := by decide
  have e2 : (2 : Nat) ^ 53 = 9007199254740992 := by decide
  constructor
  · have := Nat.mul_le_mul_right (2 ^ (52 - k.log2)) h1
    rw [← Nat.pow_add, show k.log2 + (52 - k.log2) = 52 by omega, e] at this
    exact this
  · have := Nat.mul_lt_mul_of_pos_right h2 hp
    rw [← Nat.pow_add, show k.log2 + 1 + (52 - k.log2) = 53 by omega, e2] at this
    exact this
theorem near_open (neg : Bool) (k j d : Nat) (hk : 0 < k) (hL : k.log2 + d = 52) : Ieee.double.nearest neg (k * 2 ^ j) (-(j : Int)) = Ieee.double.word neg (min ((-(d : Int) - -1074).toNat * Ieee.double.binade + Ieee.Toward.even.cut neg ((k * 2 ^ j) <<< (-(j : Int) - -(d : Int)).toNat) (-(d : Int) - -(j : Int)).toNat) Ieee.double.infRung) := by
  have hne : ¬ k * 2 ^ j = 0 := Nat.mul_ne_zero (by omega) (by have := Nat.pow_pos (n := j) (show 0 < 2 by omega); omega)
  have hlast : max (-(j : Int) + ((k.log2 + j : Nat) : Int) - ((52 : Nat) : Int)) (-1074) = -(d : Int) := by omega
  have e1 : Ieee.double.leastPlace = -1074 := by decide
  rw [← log2_shift k j hk, ← e1] at hlast
  generalize k * 2 ^ j = M at *
  unfold Ieee.Format.nearest
  rw [if_neg hne]
  show Ieee.double.word neg (min ((max (-(j : Int) + (M.log2 : Int) - ((52 : Nat) : Int)) Ieee.double.leastPlace - Ieee.double.leastPlace).toNat * Ieee.double.binade + Ieee.Toward.even.cut neg (M <<< (-(j : Int) - max (-(j : Int) + (M.log2 : Int) - ((52 : Nat) : Int)) Ieee.double.leastPlace).toNat) (max (-(j : Int) + (M.log2 : Int) - ((52 : Nat) : Int)) Ieee.double.leastPlace - -(j : Int)).toNat) Ieee.double.infRung) = _
  rw [hlast, e1]
theorem kept_is (neg : Bool) (k j d : Nat) : Ieee.Toward.even.cut neg ((k * 2 ^ j) <<< (-(j : Int) - -(d : Int)).toNat) (-(d : Int) - -(j : Int)).toNat = k * 2 ^ d := by
  rcases Nat.lt_or_ge d j with c | c
  · rw [show (-(j : Int) - -(d : Int)).toNat = 0 by omega, show (-(d : Int) - -(j : Int)).toNat = j - d by omega, Nat.shiftLeft_zero]
    have : k * 2 ^ j = (k * 2 ^ d) * 2 ^ (j - d) := by rw [Nat.mul_assoc, ← Nat.pow_add, show d + (j - d) = j by omega]
    rw [this, cut_exact]
  · rw [show (-(j : Int) - -(d : Int)).toNat = d - j by omega, show (-(d : Int) - -(j : Int)).toNat = 0 by omega, Nat.shiftLeft_eq]
    have : k * 2 ^ j * 2 ^ (d - j) = (k * 2 ^ d) * 2 ^ 0 := by rw [Nat.mul_assoc, ← Nat.pow_add, show j + (d - j) = d by omega, Nat.pow_zero, Nat.mul_one]
    rw [this, cut_exact]
theorem last_step (d m : Nat) (hd : d ≤ 52) (h1 : 4503599627370496 ≤ m) (h2 : m < 9007199254740992) : min ((1074 - d) * 4503599627370496 + m) 9218868437227405312 = (1074 - d) * 4503599627370496 + m := by omega
theorem binade_is : Ieee.double.binade = 4503599627370496 := by decide
theorem infRung_is : Ieee.double.infRung = 9218868437227405312 := by decide
theorem nearest_is (neg : Bool) (k j : Nat) (hk : 0 < k) (h : k < 9007199254740992) : Ieee.double.nearest neg (k * 2 ^ j) (-(j : Int)) = Ieee.double.word neg (rg k) := by
  have hl := log2_52 hk h
  have hb := kept_bounds hk h
  rw [near_open neg k j (52 - k.log2) hk (by omega), kept_is]
  have e4 : (-((52 - k.log2 : Nat) : Int) - -1074).toNat = 1074 - (52 - k.log2) := by omega
  rw [binade_is, infRung_is, e4, last_step _ _ (by omega) hb.1 hb.2]
  rfl
theorem read_word (neg : Bool) (k : Nat) (hk : 0 < k) (h : k < 9007199254740992) : Ieee.double.read (Ieee.double.word neg (rg k)) = .number neg (k * 2 ^ (52 - k.log2)) (-((52 - k.log2 : Nat) : Int)) := by
  have hb := kept_bounds hk h
  have hl := log2_52 hk h
  obtain ⟨d, hd⟩ : ∃ d, 52 - k.log2 = d := ⟨_, rfl⟩
  have hr : rg k = (1074 - d) * 4503599627370496 + k * 2 ^ d := by unfold rg; rw [hd]
  rw [hd] at hb ⊢
  generalize k * 2 ^ d = m at *
  have hd52 : d ≤ 52 := by omega
  have e1 : Ieee.double.leastPlace = -1074 := by decide
  have e2 : Ieee.double.binade = 4503599627370496 := by decide
  have e3 : Ieee.double.infRung = 9218868437227405312 := by decide
  have e4 : Ieee.double.signWeight = 9223372036854775808 := by decide
  unfold Ieee.Format.read
  rw [e1, e2, e3, e4]
  have hw : Ieee.double.word neg (rg k) = (if neg then 9223372036854775808 else 0) + rg k := by
    unfold Ieee.Format.word
    rw [e4]
    cases neg <;> simp
  have hlt : rg k < 9218868437227405312 := by omega
  have hge : 4503599627370496 ≤ rg k := by omega
  have n1 : (Ieee.double.word neg (rg k)) / 9223372036854775808 % 2 = if neg then 1 else 0 := by
    rw [hw]; cases neg
    · simp; omega
    · simp; omega
  have n2 : (Ieee.double.word neg (rg k)) % 9223372036854775808 = rg k := by
    rw [hw]; cases neg
    · simp; omega
    · simp; omega
  have n3 : ((Ieee.double.word neg (rg k)) / 9223372036854775808 % 2 == 1) = neg := by rw [n1]; cases neg <;> rfl
  simp only [n2, n3]
  rw [if_neg (by omega), if_pos hlt]
  have q1 : rg k % 4503599627370496 = m - 4503599627370496 := by rw [hr]; omega
  have q2 : rg k / 4503599627370496 = 1075 - d := by rw [hr]; omega
  rw [q1, q2]
  have a1 : 4503599627370496 + (m - 4503599627370496) = m := by omega
  rw [a1]
  have a2 : (-1074 : Int) + ((1075 - d - 1 : Nat) : Int) = -(d : Int) := by omega
  rw [a2]
theorem word_isI (n : Int) (h0 : n ≠ 0) (h : n.natAbs < 9007199254740992) : IsI (Ieee.double.word (decide (n < 0)) (rg n.natAbs)) n :=
  ⟨_, _, _, read_word _ n.natAbs (by omega) h, rfl, by have := log2_52 (k := n.natAbs) (by omega) h; omega, fun _ => rfl⟩
theorem z_mul (j : Nat) : 0 = (0 : Int).natAbs * 2 ^ j := by simp
theorem zero_gen (neg : Bool) (j : Nat) (hj : j ≤ 1074) (h : Ieee.double.read (Ieee.double.word neg 0) = .number neg 0 (-(j : Int))) : IsI (Ieee.double.word neg 0) 0 :=
  ⟨neg, 0, j, h, z_mul j, hj, fun h => absurd rfl h⟩
theorem zero_isI (neg : Bool) : IsI (Ieee.double.word neg 0) 0 :=
  zero_gen neg 1074 (Nat.le_refl _) (by cases neg <;> decide +kernel)
theorem fI_word (n : Int) (h0 : n ≠ 0) (h : n.natAbs < 9007199254740992) : fI n = Ieee.double.word (decide (n < 0)) (rg n.natAbs) := by
  have := nearest_is (decide (n < 0)) n.natAbs 0 (by omega) h
  simp only [Nat.pow_zero, Nat.mul_one] at this
  rw [← this]
  rfl
theorem fI_isI (n : Int) (h : n.natAbs < 9007199254740992) : IsI (fI n) n := by
  by_cases h0 : n = 0
  · subst h0
    exact zero_isI false
  · rw [fI_word n h0 h]; exact word_isI n h0 h
/-- what is written of a whole number, however its place is told -/
theorem write_isI (neg : Bool) (n : Int) (j : Nat) (h : n.natAbs < 9007199254740992) (hs : n ≠ 0 → neg = decide (n < 0)) : IsI (Ieee.double.write (.number neg (n.natAbs * 2 ^ j) (-(j : Int)))) n ∧ (n ≠ 0 → Ieee.double.write (.number neg (n.natAbs * 2 ^ j) (-(j : Int))) = fI n) := by
  by_cases h0 : n = 0
  · subst h0
    refine ⟨?_, fun h => absurd rfl h⟩
    have : Ieee.double.write (.number neg ((0 : Int).natAbs * 2 ^ j) (-(j : Int))) = Ieee.double.word neg 0 := by
      simp [Ieee.Format.write, Ieee.Format.nearest]
    rw [this]
    exact zero_isI neg
  · have e : Ieee.double.write (.number neg (n.natAbs * 2 ^ j) (-(j : Int))) = fI n := by
      rw [fI_word n h0 h, ← hs h0]
      exact nearest_is neg n.natAbs j (by omega) h
    exact ⟨by rw [e]; exact fI_isI n h, fun _ => e⟩
theorem natAbs_scale (n : Int) (k : Nat) : (n * 2 ^ k).natAbs = n.natAbs * 2 ^ k := by rw [Int.natAbs_mul, Int.natAbs_pow]; rfl
theorem scale_zero (n : Int) (k : Nat) : n * 2 ^ k = 0 ↔ n = 0 := by
  have hp : (2 : Int) ^ k ≠ 0 := by have := Int.pow_pos (n := 2) (m := k) (by omega); omega
  constructor
  · intro h; rcases Int.mul_eq_zero.1 h with h | h
    · exact h
    · exact absurd h hp
  · rintro rfl; simp
theorem scale_neg (n : Int) (k : Nat) : n * 2 ^ k < 0 ↔ n < 0 := by
  have hp : (0 : Int) < 2 ^ k := Int.pow_pos (by omega)
  constructor
  · intro h
    rcases Int.lt_or_le n 0 with c | c
    · exact c
    · have := Int.mul_nonneg c (Int.le_of_lt hp); omega
  · intro h; exact Int.mul_neg_of_neg_of_pos h hp
theorem IsI.add {x y : Nat} {a b : Int} (hx : IsI x a) (hy : IsI y b) (h : (a + b).natAbs < 9007199254740992) : ∃ z, Ieee.double.add x y = some z ∧ IsI z (a + b) ∧ (a + b ≠ 0 → z = fI (a + b)) := by
  obtain ⟨s, m, i, h1, h2, h3, h4⟩ := hx
  obtain ⟨t, n, j, g1, g2, g3, g4⟩ := hy
  unfold Ieee.Format.add Ieee.Datum.sum
  rw [h1, g1]
  simp only [min_neg, gap_l, gap_r]
  rw [signed_is h2 h4, signed_is g2 g4]
  have e1 : i + (max i j - i) = max i j := by omega
  have e2 : j + (max i j - j) = max i j := by omega
  rw [e1, e2, ← Int.add_mul, natAbs_scale]
  refine ⟨_, rfl, write_isI _ (a + b) (max i j) h fun h0 => ?_⟩
  rw [if_neg (by rw [scale_zero]; exact h0)]
  simp only [scale_neg]
theorem IsI.neg {x : Nat} {a : Int} (hx : IsI x a) : ∃ (s : Bool) (m j : Nat), (Ieee.double.read x).opposite = .number s m (-(j : Int)) ∧ m = (-a).natAbs * 2 ^ j ∧ j ≤ 1074 ∧ (-a ≠ 0 → s = decide (-a < 0)) := by
  obtain ⟨s, m, i, h1, h2, h3, h4⟩ := hx
  refine ⟨!s, m, i, by rw [h1]; rfl, by rw [Int.natAbs_neg]; exact h2, h3, fun h0 => ?_⟩
  rw [h4 (by omega)]
  rcases Int.lt_trichotomy a 0 with c | c | c
  · rw [decide_eq_true c, decide_eq_false (by omega)]; rfl
  · omega
  · rw [decide_eq_false (show ¬ a < 0 by omega), decide_eq_true (show -a < 0 by omega)]; rfl
theorem IsI.sub {x y : Nat} {a b : Int} (hx : IsI x a) (hy : IsI y b) (h : (a - b).natAbs < 9007199254740992) : ∃ z, Ieee.double.sub x y = some z ∧ IsI z (a - b) ∧ (a - b ≠ 0 → z = fI (a - b)) := by
  obtain ⟨s, m, i, h1, h2, h3, h4⟩ := hx
  obtain ⟨t, n, j, g1, g2, g3, g4⟩ := hy.neg
  unfold Ieee.Format.sub Ieee.Datum.sum
  rw [h1, g1]
  simp only [min_neg, gap_l, gap_r]
  rw [signed_is h2 h4, signed_is g2 g4]
  have e1 : i + (max i j - i) = max i j := by omega
  have e2 : j + (max i j - j) = max i j := by omega
  rw [e1, e2, ← Int.add_mul, natAbs_scale]
  refine ⟨_, rfl, write_isI _ (a - b) (max i j) h fun h0 => ?_⟩
  rw [if_neg (by rw [scale_zero]; exact h0)]
  simp only [scale_neg]
  rfl
theorem IsI.mul {x y : Nat} {a b : Int} (hx : IsI x a) (hy : IsI y b) (h : (a * b).natAbs < 9007199254740992) : ∃ z, Ieee.double.mul x y = some z ∧ IsI z (a * b) ∧ (a * b ≠ 0 → z = fI (a * b)) := by
  obtain ⟨s, m, i, h1, h2, h3, h4⟩ := hx
  obtain ⟨t, n, j, g1, g2, g3, g4⟩ := hy
  unfold Ieee.Format.mul Ieee.Datum.product
  rw [h1, g1]
  have e : m * n = (a * b).natAbs * 2 ^ (i + j) := by
    rw [h2, g2, Int.natAbs_mul, Nat.pow_add, Nat.mul_mul_mul_comm]
  have e2 : -(i : Int) + -(j : Int) = -((i + j : Nat) : Int) := by omega
  simp only [e, e2]
  refine ⟨_, rfl, write_isI _ (a * b) (i + j) h fun h0 => ?_⟩
  have ha : a ≠ 0 := fun c => h0 (by rw [c]; simp)
  have hb : b ≠ 0 := fun c => h0 (by rw [c]; simp)
  rw [h4 ha, g4 hb]
  rcases Int.lt_or_gt_of_ne ha with ca | ca <;> rcases Int.lt_or_gt_of_ne hb with cb | cb
  · rw [decide_eq_true ca, decide_eq_true cb, decide_eq_false (by have := Int.mul_pos_of_neg_of_neg ca cb; omega)]; rfl
  · rw [decide_eq_true ca, decide_eq_false (show ¬ b < 0 by omega), decide_eq_true (Int.mul_neg_of_neg_of_pos ca cb)]; rfl
  · rw [decide_eq_false (show ¬ a < 0 by omega), decide_eq_true cb, decide_eq_true (Int.mul_neg_of_pos_of_neg ca cb)]; rfl
  · rw [decide_eq_false (show ¬ a < 0 by omega), decide_eq_false (show ¬ b < 0 by omega), decide_eq_false (by have := Int.mul_pos ca cb; omega)]; rfl
end Go.Proofs.Ytdehpiaokjihjaa
