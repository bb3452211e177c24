/- The contract of the law's helper thing; zeros; the law's two slices that grow. -/
import Derived.Test.YtmhlnlippfaclaaDoorWireExamples
import Derived.Deep.AppendLies
import Derived.Deep.OwnRows
namespace Go.Proofs.YtmhlnlippfaclaaDoor
open Go.Sort Go.RowKit Go.BigFrame
set_option linter.unusedVariables false
set_option linter.unusedSimpArgs false

theorem wrap_lo (n : Int) : 0 ≤ IntKind.u64.wrap n := by
  simp [IntKind.wrap, IntKind.signed]
  exact Int.emod_nonneg _ (by decide)
theorem thing_own (a : Rec) (ha : a.Ok) : ∃ b : Rec, b.Ok ∧ b.right = true ∧ ∀ w : World,
    Calls Tryd.prog 5 #[.agg #[.int .i64 a.id, .int .i64 a.st, .int .u32 a.n, .int .u32 a.ip, .int .u16 a.port, .bool true]] w fun e w' => e = .returned (.agg #[.int .i64 b.id, .int .i64 b.st, .int .u32 b.n, .int .u32 b.ip, .int .u16 b.port]) ∧ Below w.heap.size w w' := by
  obtain ⟨i, st, n, ip, port⟩ := a
  have hn := ha.n
  have hip := ha.ip
  simp only at *
  clear ha
  have hu := wrap_lo i
  have hv := wrap_lo st
  obtain ⟨q, hq⟩ : ∃ q, IntKind.u64.wrap i % 6 = q := ⟨_, rfl⟩
  obtain ⟨p, hp⟩ : ∃ p, IntKind.u64.wrap st % 4 = p := ⟨_, rfl⟩
  have hq2 : (IntKind.u64.wrap i).tmod 6 = q := by rw [tmod_pos _ _ hu]; exact hq
  have hp2 : (IntKind.u64.wrap st).tmod 4 = p := by rw [tmod_pos _ _ hv]; exact hp
  have q0 : 0 ≤ q ∧ q < 6 := by omega
  have p0 : 0 ≤ p ∧ p < 4 := by omega
  obtain ⟨m, hm⟩ : ∃ m, n % 5 = m := ⟨_, rfl⟩
  obtain ⟨k, hk⟩ : ∃ k, ip % 3 = k := ⟨_, rfl⟩
  have m1 : (n : Int) % 5 = (m : Int) := by omega
  have m2 : (n : Int).tmod 5 = (m : Int) := by rw [tmod_pos _ _ (by omega)]; exact m1
  have k1 : (ip : Int) % 3 = (k : Int) := by omega
  have k2 : (ip : Int).tmod 3 = (k : Int) := by rw [tmod_pos _ _ (by omega)]; exact k1
  have m3 : m < 5 := by omega
  have k3 : k < 3 := by omega
  refine ⟨⟨1 + q, p, m, 1 + k, 7⟩, ⟨by show m < _; omega, by show 1 + k < _; omega, by show (7 : Nat) < _; omega⟩, ?_, fun w => ?_⟩
  · unfold Rec.right rightI stI noneI
    simp
    omega
  · have c1 := IntWalk.i64_in q ⟨by omega, by omega⟩
    have c2 := IntWalk.i64_in p ⟨by omega, by omega⟩
    have c3 := IntWalk.i64_in (1 + q) ⟨by omega, by omega⟩
    have c4 := IntWalk.u32_in (1 + (k : Int)) ⟨by omega, by omega⟩
    have e1 : (((1 + k : Nat) : Nat) : Int) = 1 + (k : Int) := by omega
    have e7 : (((7 : Nat) : Nat) : Int) = 7 := rfl
    clear hm hk
    show Calls _ _ _ _ fun e w' => e = .returned (.agg #[.int .i64 (1 + q), .int .i64 p, .int .u32 m, .int .u32 ((1 + k : Nat) : Int), .int .u16 ((7 : Nat) : Int)]) ∧ Below w.heap.size w w'
    rw [e1, e7]
    go_enter Tryd.func5, Tryd.ntmps5
    go_wp2
    refine bodyPost_ret (v := .agg #[.int .i64 (1 + q), .int .i64 p, .int .u32 m, .int .u32 (1 + (k : Int)), .int .u16 7]) (by simp [results, Tryd.results5, go_sem]) rfl ⟨rfl, ?_⟩
    have hB := Below.refl w.heap.size w
    (have zzh := Below.size hB; repeat (first | with_reducible exact hB | with_reducible refine Below.setCell ?_ (by first | omega | (simp; done) | (simp; omega)) _ | with_reducible refine Below.alloc ?_ (by first | omega | (simp; done) | (simp; omega)) _ | with_reducible refine Below.drew ?_))
/-- bytes that are all 0 -/
def zeros (n : Nat) : ByteArray := ⟨(List.replicate n (0 : UInt8)).toArray⟩
theorem zeros_list (n : Nat) : (zeros n).data.toList = List.replicate n 0 := by simp [zeros]
theorem zeros_size (n : Nat) : (zeros n).size = n := by rw [← ba_len, zeros_list, List.length_replicate]
theorem conv_zeros (W : World) (n : Nat) : (convert 31 9 (.slice (some ⟨W.heap.size, 0, none⟩) n n)).run Tryd.prog (W.alloc (.cells (madeCells #[.int .u8 0] n) 5)) = .ok (.string (zeros n)) (W.alloc (.cells (madeCells #[.int .u8 0] n) 5)) := by
  have hrow := World.rowIs_made W (.int .u8 0) n 5
  have h := run_convert_bytes_back (P := Tryd.prog) (W.alloc (.cells (madeCells #[.int .u8 0] n) 5)) 31 9 5 ⟨W.heap.size, 0, none⟩ n (List.replicate n 0) Tryd.underlying31 Tryd.underlying5 Tryd.underlying9 (fun j hj => by
    rw [List.length_replicate] at hj
    have hc := hrow.cell hj
    rw [add_at, Nat.zero_add, hc]
    simp [hj])
  rw [List.length_replicate] at h
  exact h
theorem valF_zero (n : Nat) : valF 0 (List.replicate n 0) = 0 := by
  induction n with
  | zero => rfl
  | succ n ih => rw [List.replicate_succ]; simpa [valF] using ih
theorem valB_of_zero {s : ByteArray} {n : Nat} (h : s.data.toList = List.replicate n 0) (k : Nat) : valB s k = 0 := by
  unfold valB
  rw [h, List.take_replicate]
  exact valF_zero _
theorem extract_zero {s : ByteArray} {n : Nat} (h : s.data.toList = List.replicate n 0) (k : Nat) : ∃ m, (s.extract k s.size).data.toList = List.replicate m 0 := by
  rw [Lib.extract_data, h, List.drop_replicate, List.take_replicate]
  exact ⟨_, rfl⟩
theorem three_zeros (n : Nat) (h : 6 ≤ n) (hn : n ≤ 9223372036854775807) : Three (zeros n) 0 0 0 := by
  have h3 := three_of (zeros n) (by rw [zeros_size]; exact h) (by rw [zeros_size]; exact hn)
  obtain ⟨m1, e1⟩ := extract_zero (zeros_list n) 1
  obtain ⟨m2, e2⟩ := extract_zero e1 1
  rw [valB_of_zero (zeros_list n), valB_of_zero e1, valB_of_zero e2] at h3
  exact h3
theorem get_zeros (n : Nat) (h : 6 ≤ n) (hn : n ≤ 1024) (w : World) (ht : Tab w) : Calls Tryd.prog 7 #[.string (zeros n)] w fun e w' => e = .returned (.tuple #[.agg #[.int .i64 0, .int .i64 0, .int .u32 0, .int .i64 0, .int .u32 0, .int .u16 0, .complex .f64 0 0, .bool false, .string ⟨#[]⟩, .slice none 0 0], .int .i64 2]) ∧ Below w.heap.size w w' :=
  get_bad (k := 0) (f := 0) (q := 0) (by rw [zeros_size]; exact hn) (fun w h2 => read_nokind (three_zeros n h (by omega)) (by decide) w) (fun w h => put_Z w h) w ht
theorem get_zeros_long (n : Nat) (h : 1024 < n) (hn : n ≤ 9223372036854775807) (w : World) : Calls Tryd.prog 7 #[.string (zeros n)] w fun e w' => e = .returned (.tuple #[.agg #[.int .i64 0, .int .i64 0, .int .u32 0, .int .i64 0, .int .u32 0, .int .u16 0, .complex .f64 0 0, .bool false, .string ⟨#[]⟩, .slice none 0 0], .int .i64 3]) ∧ Below w.heap.size w w' :=
  get_long (by rw [zeros_size]; exact h) (by rw [zeros_size]; exact hn) w
end Go.Proofs.YtmhlnlippfaclaaDoor
