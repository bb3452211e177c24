/- The chapter's examples. -/
import Derived.Test.YtmhlnlippfaclaaDoorWireSame
namespace Go.Proofs.YtmhlnlippfaclaaDoor
open Go.Sort Go.RowKit Go.BigFrame
set_option linter.unusedVariables false
set_option linter.unusedSimpArgs false

theorem okAll_nil : OkAll [] := fun _ h => by cases h
theorem m0_ok (k f q : Nat) (hk : k < 17) (hq : q < 4294967296) : (m0 k f q).Ok := ⟨hk, hq, by show 0 < _; omega, by show 0 < _; omega, okAll_nil, by show 0 ≤ _; omega, by show 0 ≤ _; omega, pl_zero, by show (numB 1000000 4 ++ numB 1000000 4).size ≤ 100; simp [ByteArray.size_append, numB_size]⟩
theorem m0_at (k f q : Nat) (w : World) (ht : Tab w) : (m0 k f q).At w := ⟨RdR.nil _ _ _, ht⟩
def exB : ByteArray := ⟨#[12, 3, 0, 0, 1, 2]⟩
def exX : ByteArray := ⟨#[12, 3, 0, 0, 1, 2, 120]⟩
theorem ex_right : (m0 12 3 258).right = true := by kernel_rfl
theorem ex_put : (m0 12 3 258).putUp 6 = exB := by kernel_rfl
theorem put_K3 (w : World) (ht : Tab w) : Calls Tryd.prog 6 #[.agg #[.int .i64 12, .int .i64 3, .int .u32 258, .int .i64 0, .int .u32 0, .int .u16 0, .complex .f64 0 0, .bool false, .string ⟨#[]⟩, .slice none 0 0]] w fun e w' => e = .returned (.tuple #[.string exB, .bool true]) ∧ Below w.heap.size w w' := by
  have h := put_some (m0 12 3 258) (m0_ok 12 3 258 (by omega) (by omega)) ex_right (by rw [ex_put]; decide) w (m0_at _ _ _ w ht)
  rw [ex_put] at h
  exact h
theorem put_K0 (w : World) (ht : Tab w) : Calls Tryd.prog 6 #[.agg #[.int .i64 12, .int .i64 0, .int .u32 0, .int .i64 0, .int .u32 0, .int .u16 0, .complex .f64 0 0, .bool false, .string ⟨#[]⟩, .slice none 0 0]] w fun e w' => e = .returned (.tuple #[.string ⟨#[]⟩, .bool false]) ∧ Below w.heap.size w w' :=
  put_none (m0 12 0 0) (m0_ok 12 0 0 (by omega) (by omega)) (by kernel_rfl) w (m0_at _ _ _ w ht)
theorem put_Z (w : World) (ht : Tab w) : Calls Tryd.prog 6 #[.agg #[.int .i64 0, .int .i64 0, .int .u32 0, .int .i64 0, .int .u32 0, .int .u16 0, .complex .f64 0 0, .bool false, .string ⟨#[]⟩, .slice none 0 0]] w fun e w' => e = .returned (.tuple #[.string ⟨#[]⟩, .bool false]) ∧ Below w.heap.size w w' :=
  put_none (m0 0 0 0) (m0_ok 0 0 0 (by omega) (by omega)) (by kernel_rfl) w (m0_at _ _ _ w ht)
theorem right_Z (w : World) : Calls Tryd.prog 10 #[.agg #[.int .i64 0, .int .i64 0, .int .u32 0, .int .i64 0, .int .u32 0, .int .u16 0, .complex .f64 0 0, .bool false, .string ⟨#[]⟩, .slice none 0 0]] w fun e w' => e = .returned (.bool false) ∧ Below w.heap.size w w' :=
  right_nokind (m0 0 0 0) (by kernel_rfl) w
def mA : Ms := ⟨2, 1, 0, 0, 0, 0, f1, fm1, false, ⟨#[]⟩, none, 0, [], true, false, false, numB 1000001 4 ++ numB 999999 4⟩
theorem mA_put : ∃ B : ByteArray, mA.putUp 6 = B ∧ B.size = 15 := ⟨_, rfl, by kernel_rfl⟩
theorem put_A : ∃ B : ByteArray, B.size = 15 ∧ ∀ (w : World) (ht : Tab w), Calls Tryd.prog 6 #[.agg #[.int .i64 2, .int .i64 1, .int .u32 0, .int .i64 0, .int .u32 0, .int .u16 0, .complex .f64 4607182418800017408 13830554455654793216, .bool false, .string ⟨#[]⟩, .slice none 0 0]] w fun e w' => e = .returned (.tuple #[.string B, .bool true]) ∧ Below w.heap.size w w' := by
  obtain ⟨B, hB, hz⟩ := mA_put
  refine ⟨B, hz, fun w ht => ?_⟩
  have h := put_some mA ⟨by show 2 < 17; omega, by show 0 < _; omega, by show 0 < _; omega, by show 0 < _; omega, okAll_nil, by show 0 ≤ _; omega, by show 0 ≤ _; omega, pl_one, by show (numB 1000001 4 ++ numB 999999 4).size ≤ 100; simp [ByteArray.size_append, numB_size]⟩ (by kernel_rfl) (by rw [hB, hz]; omega) w ⟨RdR.nil _ _ _, ht⟩
  rw [hB] at h
  exact h
/-- the three numbers that bytes begin with -/
theorem three_of (s : ByteArray) (h : 6 ≤ s.size) (hs : s.size ≤ 9223372036854775807) : Three s (valB s 1) (valB (s.extract 1 s.size) 1) (valB ((s.extract 1 s.size).extract 1 (s.extract 1 s.size).size) 4) := by
  have e1 : (s.extract 1 s.size).size = s.size - 1 := by rw [ByteArray.size_extract]; omega
  have e2 : ((s.extract 1 s.size).extract 1 (s.extract 1 s.size).size).size = s.size - 2 := by rw [ByteArray.size_extract]; omega
  refine ⟨⟨_, _, _, _, _, _, rdn_yes ⟨rfl, by omega, by omega, by omega⟩, rdn_yes ⟨rfl, by omega, by omega, ?_⟩, rdn_yes ⟨rfl, by omega, by omega, ?_⟩, ?_, ?_⟩, ?_, ?_, ?_, hs⟩
  · show (1 : Int) ≤ ((s.extract 1 s.size).size : Nat); omega
  · show (4 : Int) ≤ (((s.extract 1 s.size).extract 1 (s.extract 1 s.size).size).size : Nat); omega
  · show (s.extract 1 s.size).size ≤ _; omega
  · show ((s.extract 1 s.size).extract 1 (s.extract 1 s.size).size).size ≤ _; omega
  · exact valB_lt _ 1
  · exact valB_lt _ 1
  · exact valB_lt _ 4
theorem three_B : Three exB 12 3 258 := three_of exB (by decide) (by decide)
theorem three_X : Three exX 12 3 258 := three_of exX (by decide) (by decide)
theorem bare_12 : ∀ j, j < 6 → hasB 12 j = false := by decide
theorem get_B (w : World) (ht : Tab w) : Calls Tryd.prog 7 #[.string exB] w fun e w' => e = .returned (.tuple #[.agg #[.int .i64 12, .int .i64 3, .int .u32 258, .int .i64 0, .int .u32 0, .int .u16 0, .complex .f64 0 0, .bool false, .string ⟨#[]⟩, .slice none 0 0], .int .i64 0]) ∧ Below w.heap.size w w' :=
  get_same (k := 12) (f := 3) (q := 258) (by decide) (by decide +kernel) (fun w h => read_bare three_B (by decide) (by omega) bare_12 w h) (fun w h => put_K3 w h) w ht
theorem get_X (w : World) (ht : Tab w) : Calls Tryd.prog 7 #[.string exX] w fun e w' => e = .returned (.tuple #[.agg #[.int .i64 0, .int .i64 0, .int .u32 0, .int .i64 0, .int .u32 0, .int .u16 0, .complex .f64 0 0, .bool false, .string ⟨#[]⟩, .slice none 0 0], .int .i64 2]) ∧ Below w.heap.size w w' :=
  get_other (k := 12) (f := 3) (q := 258) (by decide) (by decide +kernel) (fun w h => read_bare three_X (by decide) (by omega) bare_12 w h) (fun w h => put_K3 w h) w ht
end Go.Proofs.YtmhlnlippfaclaaDoor
