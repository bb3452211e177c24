/- Contracts of chapter 2's Text, Read, and the reader's Number, Text, Done (both programs). -/
import Derived.Test.YtmhlnlippfaclaaDoorPackNum
import Derived.ScopeJumps
import Derived.RegionTactic
import Derived.ChangeAlike
namespace Go.Proofs.YtmhlnlippfaclaaDoor
open Go.RowKit
set_option linter.unusedVariables false
set_option linter.unusedSimpArgs false

theorem num_at (n z : Int) (N k : Nat) (hN : n = N) (hz : z = k) (hn : N < 18446744073709551616) (h1 : 1 ≤ k) (h8 : k ≤ 8) (w : World) :
    Calls Tryd.prog 11 #[.int .u64 n, .int .i64 z] w fun e w' => e = .returned (.string (numB N k)) ∧ Below w.heap.size w w' := by
  subst hN hz
  exact num_yes N k hn h1 h8 w





theorem read_any (s : ByteArray) (w : World) : Calls Tryd.prog 24 #[.string s] w fun e w' => e = .returned (.agg #[.string s, .bool false]) ∧ Below w.heap.size w w' := by
  go_enter Tryd.func24, Tryd.ntmps24
  go_wp2
  exact bodyPost_ret (v := .agg #[.string s, .bool false]) (by simp [results, Tryd.results24, go_sem]) rfl ⟨rfl, (Below.refl _ _).alloc (Nat.le_refl _) _⟩

/-- no number is read: the reader is bad -/
theorem rnum_bad1 (s : ByteArray) (z : Int) (w : World) :
    Calls Tryd.prog 25 #[.agg #[.string s, .bool true], .int .i64 z] w fun e w' => e = .returned (.tuple #[.int .u64 0, .agg #[.string ⟨#[]⟩, .bool true]]) ∧ Below w.heap.size w w' := by
  go_enter Tryd.func25, Tryd.ntmps25
  go_wp2
  refine wp_scope_fwd 0 rfl ?_
  go_wp2_with fail
  go_step3
  go_wp2
  refine ⟨rfl, ?_⟩
  go_wp2
  rw [Exit.noGoto_ret]
  refine bodyPost_ret (v := .tuple #[.int .u64 0, .agg #[.string ⟨#[]⟩, .bool true]]) (by simp [results, Tryd.results25, go_sem]) rfl ⟨rfl, ?_⟩
  (repeat (first | with_reducible exact Below.refl _ _ | with_reducible refine Below.drew ?_ | with_reducible refine below_drewN ?_ _ | with_reducible refine Below.alloc ?_ (by first | omega | (simp; done) | (simp; omega)) _ | with_reducible refine Below.setCell ?_ (by first | omega | (simp; done) | (simp; omega)) _))
/-- no number is read: no size -/
theorem rnum_bad2 (s : ByteArray) (z : Int) (hz : ¬ (1 ≤ z ∧ z ≤ 8)) (w : World) :
    Calls Tryd.prog 25 #[.agg #[.string s, .bool false], .int .i64 z] w fun e w' => e = .returned (.tuple #[.int .u64 0, .agg #[.string ⟨#[]⟩, .bool true]]) ∧ Below w.heap.size w w' := by
  go_enter Tryd.func25, Tryd.ntmps25
  go_wp2
  refine wp_scope_fwd 0 rfl ?_
  go_wp2_with fail
  refine (hasSize_no _ hz _).mono ?_; rintro e w1 ⟨rfl, rfl⟩
  clear hz
  go_wp2_with fail
  go_step3
  go_wp2
  refine ⟨rfl, ?_⟩
  go_wp2
  rw [Exit.noGoto_ret]
  refine bodyPost_ret (v := .tuple #[.int .u64 0, .agg #[.string ⟨#[]⟩, .bool true]]) (by simp [results, Tryd.results25, go_sem]) rfl ⟨rfl, ?_⟩
  (repeat (first | with_reducible exact Below.refl _ _ | with_reducible refine Below.drew ?_ | with_reducible refine below_drewN ?_ _ | with_reducible refine Below.alloc ?_ (by first | omega | (simp; done) | (simp; omega)) _ | with_reducible refine Below.setCell ?_ (by first | omega | (simp; done) | (simp; omega)) _))
/-- no number is read: too short -/
theorem rnum_bad3 (s : ByteArray) (z : Int) (hz1 : 1 ≤ z) (hz8 : z ≤ 8) (hlt : (s.size : Int) < z) (w : World) :
    Calls Tryd.prog 25 #[.agg #[.string s, .bool false], .int .i64 z] w fun e w' => e = .returned (.tuple #[.int .u64 0, .agg #[.string ⟨#[]⟩, .bool true]]) ∧ Below w.heap.size w w' := by
  go_enter Tryd.func25, Tryd.ntmps25
  go_wp2
  refine wp_scope_fwd 0 rfl ?_
  go_wp2_with fail
  refine (hasSize_yes _ hz1 hz8 _).mono ?_; rintro e w1 ⟨rfl, rfl⟩
  go_wp2_with fail
  go_step3
  go_wp2
  refine ⟨rfl, ?_⟩
  go_wp2
  rw [Exit.noGoto_ret]
  refine bodyPost_ret (v := .tuple #[.int .u64 0, .agg #[.string ⟨#[]⟩, .bool true]]) (by simp [results, Tryd.results25, go_sem]) rfl ⟨rfl, ?_⟩
  (repeat (first | with_reducible exact Below.refl _ _ | with_reducible refine Below.drew ?_ | with_reducible refine below_drewN ?_ _ | with_reducible refine Below.alloc ?_ (by first | omega | (simp; done) | (simp; omega)) _ | with_reducible refine Below.setCell ?_ (by first | omega | (simp; done) | (simp; omega)) _))
set_option maxHeartbeats 800000 in
theorem rnum_ok (s : ByteArray) (k : Nat) (h1 : 1 ≤ k) (h8 : k ≤ 8) (hk : k ≤ s.size) (hs : s.size ≤ 9223372036854775807) (w : World) :
    Calls Tryd.prog 25 #[.agg #[.string s, .bool false], .int .i64 k] w fun e w' => e = .returned (.tuple #[.int .u64 (valB s k), .agg #[.string (s.extract k s.size), .bool false]]) ∧ Below w.heap.size w w' := by
  go_enter Tryd.func25, Tryd.ntmps25
  go_wp2
  refine wp_scope_fwd 0 rfl ?_
  go_wp2_with fail
  refine (hasSize_yes _ (by omega) (by omega) _).mono ?_; rintro e w1 ⟨rfl, rfl⟩
  go_wp2_with fail
  go_loop [6, 23] (fun n i => ∃ j : Nat, j ≤ k ∧ i = .int .i64 j ∧ n = .int .u64 (valB s j)) (fun _ i => k - (intOf i).toNat)
  case atStart => exact ⟨0, Nat.zero_le _, rfl, by rw [valB_zero]; rfl⟩
  case round =>
    obtain ⟨j, hj, rfl, rfl⟩ := hrel
    by_cases hlt : j < k
    · have hjs : j < s.size := by omega
      have hv := valB_56 s j (by omega)
      have HV := Lib.hid (valB_succ s j hjs)
      have hc : s[j].toNat < 256 := s[j].toNat_lt
      have ho := or_step (valB s j) s[j].toNat (by omega) (by omega) (by omega) (by omega)
      go_wp2
      go_round
      case rel => exact ⟨j + 1, by omega, by go_num, by rw [HV.out]; rfl⟩
      case measure => simp [intOf]; omega
    · obtain rfl : j = k := by omega
      have hj0 : (0 : Int) ≤ j := by omega
      have hjs : (j : Int) ≤ s.size := by omega
      go_wp2
      go_region
      all_goals go_wp2
      all_goals simp only [Exit.jump]
      all_goals (refine bodyPost_ret (v := .tuple #[.int .u64 (valB s j), .agg #[.string (s.extract j s.size), .bool false]]) (by simp [results, Tryd.results25, go_sem]) rfl ⟨rfl, ?_⟩)
      all_goals (repeat (first | with_reducible exact Below.refl _ _ | with_reducible refine Below.drew ?_ | with_reducible refine below_drewN ?_ _ | with_reducible refine Below.alloc ?_ (by first | omega | (simp; done) | (simp; omega)) _ | with_reducible refine Below.setCell ?_ (by first | omega | (simp; done) | (simp; omega)) _))
end Go.Proofs.YtmhlnlippfaclaaDoor
