/- Contracts of places, at whole numbers in the bounds: isPart, Right, Near, Far. -/
import Derived.Test.YtdehpiaokjihjaaLsSmall
import Derived.Test.YtdehpiaokjihjaaFloatMath
import Derived.Laws.ComplexArith
namespace Go.Proofs.Ytdehpiaokjihjaa
open Go.Sort Go.RowKit Go.BigFrame
set_option linter.unusedVariables false
set_option linter.unusedSimpArgs false

/-- a word that is a whole number in the bounds -/
structure Part (x : Nat) (n : Int) : Prop where
  lo : (FloatKind.f64.format.order 13920209183539462144 x == some .lt || FloatKind.f64.format.order 13920209183539462144 x == some .eq) = true
  hi : (FloatKind.f64.format.order x 4696837146684686336 == some .lt || FloatKind.f64.format.order x 4696837146684686336 == some .eq) = true
  int : floatToIntVal .f64 x .i64 = some n
  same : (FloatKind.f64.format.order x (floatOfInt .f64 n) == some .eq) = true
theorem low_is : IsI 13920209183539462144 (-1000000) := by
  have := fI_isI (-1000000) (by decide)
  rwa [show fI (-1000000) = 13920209183539462144 by kernel_rfl] at this
theorem high_is : IsI 4696837146684686336 1000000 := by
  have := fI_isI 1000000 (by decide)
  rwa [show fI 1000000 = 4696837146684686336 by kernel_rfl] at this
theorem cmp_le {a b : Int} (h : a ≤ b) : (some (compare a b) == some Ordering.lt || some (compare a b) == some Ordering.eq) = true := by
  rcases Int.lt_or_eq_of_le h with h | h
  · rw [Int.compare_eq_lt.2 h]; rfl
  · rw [Int.compare_eq_eq.2 h]; rfl
theorem whole_part {x : Nat} {n : Int} (h : IsI x n) (h0 : -1000000 ≤ n) (h1 : n ≤ 1000000) : Part x n := by
  refine ⟨?_, ?_, h.int ⟨by omega, by omega⟩, ?_⟩
  · rw [show FloatKind.f64.format.order 13920209183539462144 x = some (compare (-1000000) n) from low_is.order h]; exact cmp_le h0
  · rw [show FloatKind.f64.format.order x 4696837146684686336 = some (compare n 1000000) from h.order high_is]; exact cmp_le h1
  · rw [show FloatKind.f64.format.order x (floatOfInt .f64 n) = some (compare n n) from h.order (fI_isI n (by omega)), Int.compare_eq_eq.2 rfl]; rfl
theorem isPart_yes {x : Nat} {n : Int} (h : Part x n) (w : World) : Calls Try.prog 38 #[.float .f64 x] w fun e w' => e = .returned (.bool true) ∧ w = w' := by
  obtain ⟨lo, hi, int, same⟩ := h
  have cv := fun w => run_convert_float_int (P := Try.prog) w 51 3 .f64 .i64 x n (by kernel_rfl) Try.underlying3 int
  clear int
  go_enter Try.func38, Try.ntmps38
  go_wp2
  go_ret
  exact ⟨rfl, rfl⟩
theorem right_of {x y : Nat} {n m : Int} (hx : Part x n) (hy : Part y m) (w : World) : Calls Try.prog 35 #[.complex .f64 x y] w fun e w' => e = .returned (.bool true) ∧ w = w' := by
  have X := fun w => isPart_yes hx w
  have Y := fun w => isPart_yes hy w
  clear hx hy
  go_enter Try.func35, Try.ntmps35
  go_wp2_with fail
  refine (X _).mono ?_; rintro e w1 ⟨rfl, rfl⟩
  go_wp2_with fail
  refine (Y _).mono ?_; rintro e w1 ⟨rfl, rfl⟩
  go_wp2
  go_ret
  exact ⟨rfl, rfl⟩
theorem near_of {x y : Nat} {n m : Int} (hx : Part x n) (hy : Part y m) (w : World) : Calls Try.prog 32 #[.complex .f64 x y] w fun e w' => e = .returned (.complex .f64 (fI n) (fI m)) ∧ w = w' := by
  have R := fun w => right_of hx hy w
  have cx := fun w => run_convert_float_int (P := Try.prog) w 51 3 .f64 .i64 x n (by kernel_rfl) Try.underlying3 hx.int
  have cy := fun w => run_convert_float_int (P := Try.prog) w 51 3 .f64 .i64 y m (by kernel_rfl) Try.underlying3 hy.int
  clear hx hy
  go_enter Try.func32, Try.ntmps32
  go_wp2_with fail
  refine (R _).mono ?_; rintro e w1 ⟨rfl, rfl⟩
  go_wp2
  go_ret
  exact ⟨rfl, rfl⟩
/-- a place of whole numbers in the bounds -/
structure Pl (x y : Nat) (n m : Int) : Prop where
  x : Part x n
  y : Part y m
  nb : -1000000 ≤ n ∧ n ≤ 1000000
  mb : -1000000 ≤ m ∧ m ≤ 1000000
theorem pl_of {x y : Nat} {n m : Int} (hx : IsI x n) (hy : IsI y m) (h1 : -1000000 ≤ n ∧ n ≤ 1000000) (h2 : -1000000 ≤ m ∧ m ≤ 1000000) : Pl x y n m := ⟨whole_part hx h1.1 h1.2, whole_part hy h2.1 h2.2, h1, h2⟩
theorem IsI.uint {x : Nat} {n : Int} (hx : IsI x n) (h : 0 ≤ n ∧ n ≤ 9223372036854775807) : floatToIntVal .f64 x .u64 = some n := by
  unfold floatToIntVal FloatKind.decode
  have := hx.toInt
  have e : FloatKind.f64.format = Ieee.double := rfl
  rw [e, this]
  exact if_pos ⟨h.1, by show n ≤ 18446744073709551615; omega⟩
def farI (a b c d : Int) : Int := (a - c) * (a - c) + (b - d) * (b - d)
theorem sq_le {a : Int} (h : -2000000 ≤ a ∧ a ≤ 2000000) : 0 ≤ a * a ∧ a * a ≤ 4000000000000 := by
  obtain ⟨n, rfl | rfl⟩ := Int.eq_nat_or_neg a
  · have : n ≤ 2000000 := by omega
    have := Nat.mul_le_mul this this
    constructor
    · exact Int.mul_nonneg (by omega) (by omega)
    · have h3 : ((n * n : Nat) : Int) ≤ 4000000000000 := by omega
      simpa using h3
  · have : n ≤ 2000000 := by omega
    have := Nat.mul_le_mul this this
    rw [Int.neg_mul_neg]
    constructor
    · exact Int.mul_nonneg (by omega) (by omega)
    · have h3 : ((n * n : Nat) : Int) ≤ 4000000000000 := by omega
      simpa using h3
set_option maxHeartbeats 1600000 in
theorem far_of {x y u v : Nat} {a b c d : Int} (hp : Pl x y a b) (hq : Pl u v c d) (w : World) :
    Calls Try.prog 28 #[.complex .f64 x y, .complex .f64 u v] w fun e w' => e = .returned (.int .u64 (farI a b c d)) ∧ w = w' := by
  have N1 := fun w => near_of hp.x hp.y w
  have N2 := fun w => near_of hq.x hq.y w
  have q1 := hp.nb; have q2 := hp.mb; have q3 := hq.nb; have q4 := hq.mb
  have s1 := sq_le (a := a - c) ⟨by omega, by omega⟩
  have s2 := sq_le (a := b - d) ⟨by omega, by omega⟩
  obtain ⟨z1, e1, i1, -⟩ := (fI_isI a (by omega)).sub (fI_isI c (by omega)) (by omega)
  obtain ⟨z2, e2, i2, -⟩ := (fI_isI b (by omega)).sub (fI_isI d (by omega)) (by omega)
  obtain ⟨z3, e3, i3, -⟩ := i1.mul i1 (by omega)
  obtain ⟨z4, e4, i4, -⟩ := i2.mul i2 (by omega)
  obtain ⟨z5, e5, i5, -⟩ := i3.add i4 (by omega)
  have i6 := i5.uint ⟨by omega, by omega⟩
  have cs : cSumBits .sub .f64 (fI a) (fI b) (fI c) (fI d) = some (z1, z2) := by
    unfold cSumBits
    rw [show floatBits .sub .f64 (fI a) (fI c) = some z1 from e1, show floatBits .sub .f64 (fI b) (fI d) = some z2 from e2]; rfl
  have r1 := fun w => run_complex_sum (P := Try.prog) w .sub (.inr rfl) 50 .f64 (fI a) (fI b) (fI c) (fI d) z1 z2 cs
  have r3 := fun w => run_float_arith (P := Try.prog) w .mul 51 .f64 z1 z1 z3 e3
  have r4 := fun w => run_float_arith (P := Try.prog) w .mul 51 .f64 z2 z2 z4 e4
  have r5 := fun w => run_float_arith (P := Try.prog) w .add 51 .f64 z3 z4 z5 e5
  have r6 := fun w => run_convert_float_int (P := Try.prog) w 51 24 .f64 .u64 z5 _ (by kernel_rfl) Try.underlying24 i6
  unfold farI
  generalize (a - c) * (a - c) + (b - d) * (b - d) = F at *
  clear e1 e2 e3 e4 e5 i1 i2 i3 i4 i5 i6 cs hp hq q1 q2 q3 q4 s1 s2
  generalize fI a = fa at *
  generalize fI b = fb at *
  generalize fI c = fc at *
  generalize fI d = fd at *
  go_enter Try.func28, Try.ntmps28
  go_wp2_with fail
  refine (N1 _).mono ?_; rintro e w1 ⟨rfl, rfl⟩
  go_wp2_with fail
  refine (N2 _).mono ?_; rintro e w1 ⟨rfl, rfl⟩
  go_wp2
  go_ret
  exact ⟨rfl, rfl⟩
end Go.Proofs.Ytdehpiaokjihjaa
