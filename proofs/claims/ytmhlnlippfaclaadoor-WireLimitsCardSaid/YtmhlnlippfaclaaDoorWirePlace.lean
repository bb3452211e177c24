/- Contracts of places, at the two places of the chapter's examples: 0, and 1-1i. -/
import Derived.Test.YtmhlnlippfaclaaDoorWireSmall
namespace Go.Proofs.YtmhlnlippfaclaaDoor
open Go.Sort Go.RowKit Go.BigFrame
set_option linter.unusedVariables false
set_option linter.unusedSimpArgs false

def f1 : Nat := 4607182418800017408
def fm1 : Nat := 13830554455654793216
/-- what is known of a place's calls: is it right, has it a -0, is it 0, its bytes -/
structure Pl (re im : Nat) (pr pm pz : Bool) (pb : ByteArray) : Prop where
  right : ∀ w, Calls Tryd.prog 30 #[.complex .f64 re im] w fun e w' => e = .returned (.bool pr) ∧ w = w'
  minus : ∀ w, Calls Tryd.prog 38 #[.complex .f64 re im] w fun e w' => e = .returned (.bool pm) ∧ w = w'
  zero : ((FloatKind.f64.format.order re 0 == some .eq) && (FloatKind.f64.format.order im 0 == some .eq)) = pz
  put : pr = true → ∀ w, Calls Tryd.prog 22 #[.complex .f64 re im] w fun e w' => e = .returned (.tuple #[.string pb, .bool true]) ∧ Below w.heap.size w w'
theorem signbit_any (x : Nat) (hx : x < 9223372036854775808) (w : World) : Calls Tryd.prog 50 #[.float .f64 x] w fun e w' => e = .returned (.bool false) ∧ w = w' := by
  have c := IntWalk.i64_in (x : Int) ⟨by omega, by omega⟩
  have n : ¬ ((x : Int) < 0) := by omega
  go_enter Tryd.func50, Tryd.ntmps50
  go_wp2
  rw [run_callFunc_extern Tryd.func52 (by kernel_rfl) (by kernel_rfl) (by kernel_rfl) (e := Extern.MathFloatBits.float64bits) (by kernel_rfl)]
  rw [show (Extern.MathFloatBits.float64bits #[.float .f64 x]).run Tryd.prog w = .ok (.int .u64 (x : Int)) w from rfl]
  simp only [Result.andThen]
  rw [Oper.upon_value]
  go_wp2
  go_ret
  exact ⟨rfl, rfl⟩
theorem isMinus_no (x : Nat) (h : (FloatKind.f64.format.order x 0 == some .eq) = false) (w : World) : Calls Tryd.prog 45 #[.float .f64 x] w fun e w' => e = .returned (.bool false) ∧ w = w' := by
  go_enter Tryd.func45, Tryd.ntmps45
  go_wp2
  go_ret
  exact ⟨rfl, rfl⟩
theorem isMinus_zero (w : World) : Calls Tryd.prog 45 #[.float .f64 0] w fun e w' => e = .returned (.bool false) ∧ w = w' := by
  have h : (FloatKind.f64.format.order 0 0 == some .eq) = true := by kernel_rfl
  have S := signbit_any 0 (by decide)
  go_enter Tryd.func45, Tryd.ntmps45
  go_wp2_with fail
  refine (S _).mono ?_; rintro e w1 ⟨rfl, rfl⟩
  go_wp2
  go_ret
  exact ⟨rfl, rfl⟩
theorem hasMinus_of {x y : Nat} (hx : ∀ w, Calls Tryd.prog 45 #[.float .f64 x] w fun e w' => e = .returned (.bool false) ∧ w = w')
    (hy : ∀ w, Calls Tryd.prog 45 #[.float .f64 y] w fun e w' => e = .returned (.bool false) ∧ w = w') (w : World) :
    Calls Tryd.prog 38 #[.complex .f64 x y] w fun e w' => e = .returned (.bool false) ∧ w = w' := by
  go_enter Tryd.func38, Tryd.ntmps38
  go_wp2_with fail
  refine (hx _).mono ?_; rintro e w1 ⟨rfl, rfl⟩
  go_wp2_with fail
  refine (hy _).mono ?_; rintro e w1 ⟨rfl, rfl⟩
  go_wp2
  go_ret
  exact ⟨rfl, rfl⟩
/-- a word that is a whole number in the bounds -/
structure Part (x : Nat) (n : Int) : Prop where
  lo : (FloatKind.f64.format.order 13920209183539462144 x == some .lt || FloatKind.f64.format.order 13920209183539462144 x == some .eq) = true
  hi : (FloatKind.f64.format.order x 4696837146684686336 == some .lt || FloatKind.f64.format.order x 4696837146684686336 == some .eq) = true
  int : floatToIntVal .f64 x .i64 = some n
  same : (FloatKind.f64.format.order x (floatOfInt .f64 n) == some .eq) = true
theorem isPart_yes {x : Nat} {n : Int} (h : Part x n) (w : World) : Calls Tryd.prog 41 #[.float .f64 x] w fun e w' => e = .returned (.bool true) ∧ w = w' := by
  obtain ⟨lo, hi, int, same⟩ := h
  have cv := fun w => run_convert_float_int (P := Tryd.prog) w 69 3 .f64 .i64 x n (by kernel_rfl) Tryd.underlying3 int
  clear int
  go_enter Tryd.func41, Tryd.ntmps41
  go_wp2
  go_ret
  exact ⟨rfl, rfl⟩
theorem right_of {x y : Nat} {n m : Int} (hx : Part x n) (hy : Part y m) (w : World) : Calls Tryd.prog 30 #[.complex .f64 x y] w fun e w' => e = .returned (.bool true) ∧ w = w' := by
  have X := fun w => isPart_yes hx w
  have Y := fun w => isPart_yes hy w
  clear hx hy
  go_enter Tryd.func30, Tryd.ntmps30
  go_wp2_with fail
  refine (X _).mono ?_; rintro e w1 ⟨rfl, rfl⟩
  go_wp2_with fail
  refine (Y _).mono ?_; rintro e w1 ⟨rfl, rfl⟩
  go_wp2
  go_ret
  exact ⟨rfl, rfl⟩
/-- a part's number, as it is put -/
structure PutN (x N : Nat) : Prop where
  sum : ∃ r, floatBits .add .f64 x 4696837146684686336 = some r ∧ floatToIntVal .f64 r .u64 = some (N : Int)
  lt : N < 18446744073709551616
theorem putPart_of {x N : Nat} (h : PutN x N) (w : World) : Calls Tryd.prog 31 #[.float .f64 x] w fun e w' => e = .returned (.string (numB N 4)) ∧ Below w.heap.size w w' := by
  obtain ⟨⟨r, h1, h2⟩, h3⟩ := h
  have sm := fun w t => run_float_arith (P := Tryd.prog) w .add t .f64 x 4696837146684686336 r h1
  have cv := fun w => run_convert_float_int (P := Tryd.prog) w 69 48 .f64 .u64 r N (by kernel_rfl) Tryd.underlying48 h2
  have NN := fun w => num_at (N : Int) (4 : Int) N 4 rfl rfl h3 (by omega) (by omega) w
  clear h1 h2 h3
  generalize numB N 4 = B at *
  go_enter Tryd.func31, Tryd.ntmps31
  go_wp2_with fail
  refine (NN _).mono ?_; rintro e w1 ⟨rfl, b1⟩
  go_wp2
  go_ret
  exact ⟨rfl, by (have zz0 := Below.size b1; (try simp at zz0); repeat (first | with_reducible exact Below.refl _ _ | with_reducible refine Below.drew ?_ | with_reducible refine below_drewN ?_ _ | with_reducible refine Below.alloc ?_ (by first | omega | (simp; done) | (simp; omega)) _ | with_reducible refine Below.setCell ?_ (by first | omega | (simp; done) | (simp; omega)) _ | (with_reducible refine Below.trans ?_ (Below.mono b1 (by first | omega | (simp; done) | (simp; omega))))))⟩
theorem put_of {x y N M : Nat} {n m : Int} (px : Part x n) (py : Part y m) (hx : PutN x N) (hy : PutN y M) (w : World) :
    Calls Tryd.prog 22 #[.complex .f64 x y] w fun e w' => e = .returned (.tuple #[.string (numB N 4 ++ numB M 4), .bool true]) ∧ Below w.heap.size w w' := by
  have R := fun w => right_of px py w
  have X := fun w => putPart_of hx w
  have Y := fun w => putPart_of hy w
  have z1 := numB_size N 4
  have z2 := numB_size M 4
  clear px py hx hy
  generalize numB N 4 = A1 at *
  generalize numB M 4 = A2 at *
  go_enter Tryd.func22, Tryd.ntmps22
  go_wp2_with fail
  refine (R _).mono ?_; rintro e w1 ⟨rfl, rfl⟩
  go_wp2_with fail
  refine (X _).mono ?_; rintro e w1 ⟨rfl, b1⟩
  go_wp2_with fail
  refine (Y _).mono ?_; rintro e w2 ⟨rfl, b2⟩
  go_wp2
  refine bodyPost_ret (v := .tuple #[.string (A1 ++ A2), .bool true]) (by simp [results, Tryd.results22, go_sem]) rfl ⟨rfl, ?_⟩
  (have zz0 := Below.size b2; (try simp at zz0); have zz1 := Below.size b1; (try simp at zz1); repeat (first | with_reducible exact Below.refl _ _ | with_reducible refine Below.drew ?_ | with_reducible refine below_drewN ?_ _ | with_reducible refine Below.alloc ?_ (by first | omega | (simp; done) | (simp; omega)) _ | with_reducible refine Below.setCell ?_ (by first | omega | (simp; done) | (simp; omega)) _ | (with_reducible refine Below.trans ?_ (Below.mono b2 (by first | omega | (simp; done) | (simp; omega)))) | (with_reducible refine Below.trans ?_ (Below.mono b1 (by first | omega | (simp; done) | (simp; omega))))))
theorem part_0 : Part 0 0 := ⟨by kernel_rfl, by kernel_rfl, by kernel_rfl, by kernel_rfl⟩
theorem part_1 : Part f1 1 := ⟨by kernel_rfl, by kernel_rfl, by kernel_rfl, by kernel_rfl⟩
theorem part_m1 : Part fm1 (-1) := ⟨by kernel_rfl, by kernel_rfl, by kernel_rfl, by kernel_rfl⟩
theorem pl_zero : Pl 0 0 true false true (numB 1000000 4 ++ numB 1000000 4) :=
  ⟨fun w => right_of part_0 part_0 w, fun w => hasMinus_of isMinus_zero isMinus_zero w, by kernel_rfl, fun _ w => put_of part_0 part_0 ⟨⟨4696837146684686336, by kernel_rfl, by kernel_rfl⟩, by decide⟩ ⟨⟨4696837146684686336, by kernel_rfl, by kernel_rfl⟩, by decide⟩ w⟩
theorem pl_one : Pl f1 fm1 true false false (numB 1000001 4 ++ numB 999999 4) :=
  ⟨fun w => right_of part_1 part_m1 w, fun w => hasMinus_of (fun w => isMinus_no f1 (by kernel_rfl) w) (fun w => isMinus_no fm1 (by kernel_rfl) w) w, by kernel_rfl,
    fun _ w => put_of part_1 part_m1 ⟨⟨FloatKind.f64.nearest 1000001, by kernel_rfl, by kernel_rfl⟩, by decide⟩ ⟨⟨FloatKind.f64.nearest 999999, by kernel_rfl, by kernel_rfl⟩, by decide⟩ w⟩
end Go.Proofs.YtmhlnlippfaclaaDoor
