/- Contracts of the reader's calls as one: Number, Text, Done of both programs, by what is read ('rdn', 'rtx'). -/
import Derived.Test.YtnmnokmbnjdfoaaDoorPackRead
import Derived.Deep.QuietTactic
import Derived.BigQuiet
namespace Go.Proofs.YtnmnokmbnjdfoaaDoor
open Go.RowKit
set_option linter.unusedVariables false
set_option linter.unusedSimpArgs false

theorem rrnum_bad1 (s : ByteArray) (z : Int)  (w : World) :
    Calls Tryd.prog 45 #[.agg #[.string s, .bool true], .int .i64 z] w fun e w' => e = .returned (.tuple #[.int .u64 0, .agg #[.string ⟨#[]⟩, .bool true]]) ∧ Below w.heap.size w w' := by
  go_enter Tryd.func45, Tryd.ntmps45
  go_wp2
  refine bodyPost_ret (v := .tuple #[.int .u64 0, .agg #[.string ⟨#[]⟩, .bool true]]) (by simp [results, Tryd.results45, go_sem]) rfl ⟨rfl, ?_⟩
  (repeat (first | with_reducible exact Below.refl _ _ | with_reducible refine Below.drew ?_ | with_reducible refine below_drewN ?_ _ | with_reducible refine Below.alloc ?_ (by first | omega | (simp; done) | (simp; omega)) _ | with_reducible refine Below.setCell ?_ (by first | omega | (simp; done) | (simp; omega)) _))
theorem rrnum_bad2 (s : ByteArray) (z : Int) (hz : z < 1) (w : World) :
    Calls Tryd.prog 45 #[.agg #[.string s, .bool false], .int .i64 z] w fun e w' => e = .returned (.tuple #[.int .u64 0, .agg #[.string ⟨#[]⟩, .bool true]]) ∧ Below w.heap.size w w' := by
  go_enter Tryd.func45, Tryd.ntmps45
  go_wp2
  refine bodyPost_ret (v := .tuple #[.int .u64 0, .agg #[.string ⟨#[]⟩, .bool true]]) (by simp [results, Tryd.results45, go_sem]) rfl ⟨rfl, ?_⟩
  (repeat (first | with_reducible exact Below.refl _ _ | with_reducible refine Below.drew ?_ | with_reducible refine below_drewN ?_ _ | with_reducible refine Below.alloc ?_ (by first | omega | (simp; done) | (simp; omega)) _ | with_reducible refine Below.setCell ?_ (by first | omega | (simp; done) | (simp; omega)) _))
theorem rrnum_bad2b (s : ByteArray) (z : Int) (hz : ¬ z < 1) (hz8 : 8 < z) (w : World) :
    Calls Tryd.prog 45 #[.agg #[.string s, .bool false], .int .i64 z] w fun e w' => e = .returned (.tuple #[.int .u64 0, .agg #[.string ⟨#[]⟩, .bool true]]) ∧ Below w.heap.size w w' := by
  go_enter Tryd.func45, Tryd.ntmps45
  go_wp2
  refine bodyPost_ret (v := .tuple #[.int .u64 0, .agg #[.string ⟨#[]⟩, .bool true]]) (by simp [results, Tryd.results45, go_sem]) rfl ⟨rfl, ?_⟩
  (repeat (first | with_reducible exact Below.refl _ _ | with_reducible refine Below.drew ?_ | with_reducible refine below_drewN ?_ _ | with_reducible refine Below.alloc ?_ (by first | omega | (simp; done) | (simp; omega)) _ | with_reducible refine Below.setCell ?_ (by first | omega | (simp; done) | (simp; omega)) _))
theorem rrnum_bad3 (s : ByteArray) (z : Int) (hz1 : 1 ≤ z) (hz8 : z ≤ 8) (hlt : (s.size : Int) < z) (w : World) :
    Calls Tryd.prog 45 #[.agg #[.string s, .bool false], .int .i64 z] w fun e w' => e = .returned (.tuple #[.int .u64 0, .agg #[.string ⟨#[]⟩, .bool true]]) ∧ Below w.heap.size w w' := by
  have n1 : ¬ z < 1 := by omega
  go_enter Tryd.func45, Tryd.ntmps45
  go_wp2
  refine bodyPost_ret (v := .tuple #[.int .u64 0, .agg #[.string ⟨#[]⟩, .bool true]]) (by simp [results, Tryd.results45, go_sem]) rfl ⟨rfl, ?_⟩
  (repeat (first | with_reducible exact Below.refl _ _ | with_reducible refine Below.drew ?_ | with_reducible refine below_drewN ?_ _ | with_reducible refine Below.alloc ?_ (by first | omega | (simp; done) | (simp; omega)) _ | with_reducible refine Below.setCell ?_ (by first | omega | (simp; done) | (simp; omega)) _))

set_option maxHeartbeats 800000 in
theorem rrnum_ok (s : ByteArray) (k : Nat) (h1 : 1 ≤ k) (h8 : k ≤ 8) (hk : k ≤ s.size) (hs : s.size ≤ 9223372036854775807) (w : World) :
    Calls Tryd.prog 45 #[.agg #[.string s, .bool false], .int .i64 k] w fun e w' => e = .returned (.tuple #[.int .u64 (valB s k), .agg #[.string (s.extract k s.size), .bool false]]) ∧ Below w.heap.size w w' := by
  have n1 : ¬ (k : Int) < 1 := by omega
  have n8 : ¬ 8 < (k : Int) := by omega
  have ns : ¬ (s.size : Int) < k := by omega
  go_enter Tryd.func45, Tryd.ntmps45
  go_wp2
  go_loop [6, 7] (fun n i => ∃ j : Nat, j ≤ k ∧ i = .int .i64 j ∧ n = .int .u64 (valB s j)) (fun _ i => k - (intOf i).toNat)
  case atStart => exact ⟨0, Nat.zero_le _, rfl, by rw [valB_zero]; rfl⟩
  case round =>
    obtain ⟨j, hj, rfl, rfl⟩ := hrel
    by_cases hlt : j < k
    · have hjs : j < s.size := by omega
      have hv := valB_56 s j (by omega)
      have HV := Lib.hid (valB_succ s j hjs)
      have hc : s[j].toNat < 256 := s[j].toNat_lt
      have ho := or_step (valB s j) s[j].toNat (by omega) (by omega) (by omega) (by omega)
      go_wp2
      go_round
      case rel => exact ⟨j + 1, by omega, by go_num, by rw [HV.out]; rfl⟩
      case measure => simp [intOf]; omega
    · obtain rfl : j = k := by omega
      have hj0 : (0 : Int) ≤ j := by omega
      have hjs : (j : Int) ≤ s.size := by omega
      go_wp2
      go_region
      all_goals go_wp2
      all_goals (refine bodyPost_ret (v := .tuple #[.int .u64 (valB s j), .agg #[.string (s.extract j s.size), .bool false]]) (by simp [results, Tryd.results45, go_sem]) rfl ⟨rfl, ?_⟩)
      all_goals (repeat (first | with_reducible exact Below.refl _ _ | with_reducible refine Below.drew ?_ | with_reducible refine below_drewN ?_ _ | with_reducible refine Below.alloc ?_ (by first | omega | (simp; done) | (simp; omega)) _ | with_reducible refine Below.setCell ?_ (by first | omega | (simp; done) | (simp; omega)) _))

theorem num_is {s s' : ByteArray} {b b' : Bool} {z : Int} {v : Nat} (h : Hid (rdn s b z = (v, s', b'))) (hs : s.size ≤ 9223372036854775807) (w : World) :
    Calls Tryd.prog 42 #[.agg #[.string s, .bool b], .int .i64 z] w fun e w' => e = .returned (.tuple #[.int .u64 v, .agg #[.string s', .bool b']]) ∧ Below w.heap.size w w' := by
  have h := h.out
  by_cases ho : okN s b z
  · rw [rdn_yes ho] at h
    injection h with h1 h
    injection h with h2 h3
    subst h1 h2 h3
    obtain ⟨rfl, h5, h6, h7⟩ := ho
    obtain ⟨k, rfl⟩ : ∃ k : Nat, z = k := ⟨z.toNat, by omega⟩
    rw [Int.toNat_natCast]
    exact rnum_ok s k (by omega) (by omega) (by omega) hs w
  · rw [rdn_no ho] at h
    injection h with h1 h
    injection h with h2 h3
    subst h1 h2 h3
    cases b
    · by_cases hz : 1 ≤ z ∧ z ≤ 8
      · exact rnum_bad3 s z hz.1 hz.2 (by unfold okN at ho; simp at ho; omega) w
      · exact rnum_bad2 s z hz w
    · exact rnum_bad1 s z w

theorem rnum_is {s s' : ByteArray} {b b' : Bool} {z : Int} {v : Nat} (h : Hid (rdn s b z = (v, s', b'))) (hs : s.size ≤ 9223372036854775807) (w : World) :
    Calls Tryd.prog 45 #[.agg #[.string s, .bool b], .int .i64 z] w fun e w' => e = .returned (.tuple #[.int .u64 v, .agg #[.string s', .bool b']]) ∧ Below w.heap.size w w' := by
  have h := h.out
  by_cases ho : okN s b z
  · rw [rdn_yes ho] at h
    injection h with h1 h
    injection h with h2 h3
    subst h1 h2 h3
    obtain ⟨rfl, h5, h6, h7⟩ := ho
    obtain ⟨k, rfl⟩ : ∃ k : Nat, z = k := ⟨z.toNat, by omega⟩
    rw [Int.toNat_natCast]
    exact rrnum_ok s k (by omega) (by omega) (by omega) hs w
  · rw [rdn_no ho] at h
    injection h with h1 h
    injection h with h2 h3
    subst h1 h2 h3
    cases b
    · by_cases hz : 1 ≤ z ∧ z ≤ 8
      · exact rrnum_bad3 s z hz.1 hz.2 (by unfold okN at ho; simp at ho; omega) w
      · by_cases hz1 : z < 1
        · exact rrnum_bad2 s z hz1 w
        · exact rrnum_bad2b s z hz1 (by omega) w
    · exact rrnum_bad1 s z w
end Go.Proofs.YtnmnokmbnjdfoaaDoor
