/- The contract of bend: a text with a byte another one. -/
import Derived.Test.YtnmnokmbnjdfoaaDoorRecLaid
import Derived.Laws.BitsAllLaws
import Derived.Laws.IdiomStrings
import Derived.Lib.ConvBytes
import Derived.BigRegion
namespace Go.Proofs.YtnmnokmbnjdfoaaDoor
open Go.RowKit
set_option linter.unusedVariables false
set_option linter.unusedSimpArgs false

theorem bend_world (w : World) (s : ByteArray) : ∃ cap W1, (convert 9 70 (.string s)).run Tryd.prog w = .ok (.slice (some ⟨w.heap.size, 0, none⟩) s.size cap) W1 ∧ Below w.heap.size w W1 ∧ w.heap.size < W1.heap.size ∧
    (∀ j (h : j < s.size), W1.cell? ⟨w.heap.size, j, none⟩ = some (.int .u8 (s[j].toNat : Int))) ∧ (∀ j, j < s.size → W1.frozen? ⟨w.heap.size, j, none⟩ = false) := by
  refine ⟨_, _, Lib.run_convert_string_bytes w 9 70 5 s Tryd.underlying9 Tryd.underlying70 Tryd.underlying5, ?_, ?_, ?_, ?_⟩
  · exact ⟨rfl, rfl, rfl, by rw [Lib.bytesWorld_size]; omega, fun k hk => Lib.bytesWorld_at_old w _ s k hk⟩
  · rw [Lib.bytesWorld_size]; omega
  · intro j hj
    rw [Lib.bytesWorld_cell w _ s j hj]
    have hl : j < s.data.toList.length := by rw [ba_len]; exact hj
    rw [List.getD_eq_getElem?_getD, List.getElem?_eq_getElem hl]
    rfl
  · intro j hj
    have hh := Lib.bytesWorld_at_new w 5 s
    have hsz : s.size ≤ (Lib.bytesCells w 5 s).size := by
      have e : s.size = s.data.size := rfl
      simp only [Lib.bytesCells, Array.size_append, Array.size_map, ← e]
      omega
    simp only [World.frozen?, hh]
    simp
    omega
/-- the bytes with one of them another one, read back -/
theorem bend_back (W : World) (s : ByteArray) (g cap idx x : Nat) (hx : x < 256) (hi : idx < s.size) (hlt : g < W.heap.size) (hc : ∀ j (h : j < s.size), W.cell? ⟨g, j, none⟩ = some (.int .u8 (s[j].toNat : Int))) :
    ∃ S, S.size = s.size ∧ (convert 70 9 (.slice (some ⟨g, 0, none⟩) s.size cap)).run Tryd.prog ((W.setCell ⟨g, idx, none⟩ (.int .u8 (x : Int))).drew) = .ok (.string S) ((W.setCell ⟨g, idx, none⟩ (.int .u8 (x : Int))).drew) := by
  refine ⟨⟨(s.data.toList.set idx (UInt8.ofNat x)).toArray⟩, by show (List.toArray _).size = _; rw [List.size_toArray, List.length_set, ba_len], ?_⟩
  have hl : (s.data.toList.set idx (UInt8.ofNat x)).length = s.size := by rw [List.length_set, ba_len]
  have h := run_convert_bytes_back (P := Tryd.prog) ((W.setCell ⟨g, idx, none⟩ (.int .u8 (x : Int))).drew) 70 9 5 ⟨g, 0, none⟩ cap (s.data.toList.set idx (UInt8.ofNat x)) Tryd.underlying70 Tryd.underlying5 Tryd.underlying9 (fun j hj => by
    have hj2 : j < s.size := by rw [hl] at hj; exact hj
    have e1 : ((⟨g, 0, none⟩ : Addr).add j) = ⟨g, j, none⟩ := by rw [add_at, Nat.zero_add]
    rw [e1]
    have hcj := hc j hj2
    by_cases hji : j = idx
    · subst hji
      have hcell : (W.setCell ⟨g, j, none⟩ (.int .u8 (x : Int))).cell? ⟨g, j, none⟩ = some (.int .u8 (x : Int)) := by go_simp
      have e2 : (s.data.toList.set j (UInt8.ofNat x))[j] = UInt8.ofNat x := by simp
      rw [e2, ofNat_toNat x hx]
      exact hcell
    · have hcell : (W.setCell ⟨g, idx, none⟩ (.int .u8 (x : Int))).cell? ⟨g, j, none⟩ = W.cell? ⟨g, j, none⟩ := by
        have := Ne.symm hji
        go_simp
      have e2 : (s.data.toList.set idx (UInt8.ofNat x))[j] = s[j] := by
        rw [List.getElem_set_ne (Ne.symm hji)]
        rfl
      rw [e2]
      exact hcell.trans hcj)
  rw [hl] at h
  exact h
theorem drop_get1 (s : ByteArray) (h : 0 < s.size) : s.data.toList = s[0] :: s.data.toList.tail := by
  have hl : 0 < s.data.toList.length := by rw [ba_len]; exact h
  cases hd : s.data.toList with
  | nil => rw [hd] at hl; simp at hl
  | cons c l =>
    have e : s[0] = c := by
      have : s[0] = s.data.toList[0]'hl := by simp; rfl
      rw [this]; simp [hd]
    rw [e]; rfl

set_option maxRecDepth 100000 in
set_option maxHeartbeats 1600000 in
theorem bend_pos (s : ByteArray) (at_ : Int) (k by_ : Nat) (hs : 0 < s.size) (hs2 : s.size ≤ 9223372036854775807) (hb : by_ < 256) (hat : at_ = (k : Int)) (hk : k < 9223372036854775808) (w : World) :
    Calls Tryd.prog 26 #[.string s, .int .i64 at_, .int .u8 (by_ : Int)] w fun e w' => ∃ S, e = .returned (.string S) ∧ S.size = s.size ∧ Below w.heap.size w w' := by
  obtain ⟨cap, W1, hcv, hB, hgz, hcell, hfr⟩ := bend_world w s
  obtain ⟨idx, hidx⟩ : ∃ idx, k % s.size = idx := ⟨_, rfl⟩
  have hi : idx < s.size := by rw [← hidx]; exact Nat.mod_lt _ hs
  have hi0 : (0 : Int) ≤ idx := by omega
  have hii : (idx : Int) < s.size := by omega
  have hmod : (k : Int) % (s.size : Int) = (idx : Int) := by rw [← hidx]; simp
  have hmod2 : ((k : Int)).tmod (s.size : Int) = (idx : Int) := by rw [tmod_pos _ _ (by omega)]; exact hmod
  have hs0 : ¬ (s.size : Int) = 0 := by omega
  have he : s.toList.isEmpty = false := by
    have := drop_get1 s hs
    rw [ByteArray.toList_eq, this]; rfl
  have c0 := hcell idx hi
  have f0 := hfr idx hi
  have hc256 : s[idx].toNat < 256 := s[idx].toNat_lt
  have hxo := u8_xor_nat s[idx].toNat by_ hc256 hb
  obtain ⟨x, hx⟩ : ∃ x, s[idx].toNat ^^^ by_ = x := ⟨_, rfl⟩
  rw [hx] at hxo
  have hx256 : x < 256 := by rw [← hx]; exact Nat.xor_lt_two_pow (n := 8) (by omega) (by omega)
  obtain ⟨S, hSz, hbk⟩ := bend_back W1 s w.heap.size cap idx x hx256 hi hgz hcell
  have HB := Lib.hid hB
  have HSz := Lib.hid hSz
  clear hcell hfr hx hidx hB hSz
  subst hat
  have hk0 : ¬ (k : Int) < 0 := by omega
  go_enter Tryd.func26, Tryd.ntmps26
  go_wp2
  go_region
  all_goals go_wp2
  all_goals go_ret
  all_goals exact ⟨S, rfl, HSz.out, by first | exact (HB.out.setCell (Nat.le_refl _) _).drew | exact HB.out.setCell (Nat.le_refl _) _⟩

set_option maxRecDepth 100000 in
set_option maxHeartbeats 1600000 in
theorem bend_neg (s : ByteArray) (at_ : Int) (k by_ : Nat) (hs : 0 < s.size) (hs2 : s.size ≤ 9223372036854775807) (hb : by_ < 256) (hat : at_ < 0) (hat2 : -9223372036854775808 ≤ at_) (hk : -(at_ + 1) = (k : Int)) (w : World) :
    Calls Tryd.prog 26 #[.string s, .int .i64 at_, .int .u8 (by_ : Int)] w fun e w' => ∃ S, e = .returned (.string S) ∧ S.size = s.size ∧ Below w.heap.size w w' := by
  obtain ⟨cap, W1, hcv, hB, hgz, hcell, hfr⟩ := bend_world w s
  obtain ⟨idx, hidx⟩ : ∃ idx, k % s.size = idx := ⟨_, rfl⟩
  have hi : idx < s.size := by rw [← hidx]; exact Nat.mod_lt _ hs
  have hi0 : (0 : Int) ≤ idx := by omega
  have hii : (idx : Int) < s.size := by omega
  have hmod : (k : Int) % (s.size : Int) = (idx : Int) := by rw [← hidx]; simp
  have hmod2 : ((k : Int)).tmod (s.size : Int) = (idx : Int) := by rw [tmod_pos _ _ (by omega)]; exact hmod
  have hs0 : ¬ (s.size : Int) = 0 := by omega
  have he : s.toList.isEmpty = false := by
    have := drop_get1 s hs
    rw [ByteArray.toList_eq, this]; rfl
  have c0 := hcell idx hi
  have f0 := hfr idx hi
  have hc256 : s[idx].toNat < 256 := s[idx].toNat_lt
  have hxo := u8_xor_nat s[idx].toNat by_ hc256 hb
  obtain ⟨x, hx⟩ : ∃ x, s[idx].toNat ^^^ by_ = x := ⟨_, rfl⟩
  rw [hx] at hxo
  have hx256 : x < 256 := by rw [← hx]; exact Nat.xor_lt_two_pow (n := 8) (by omega) (by omega)
  obtain ⟨S, hSz, hbk⟩ := bend_back W1 s w.heap.size cap idx x hx256 hi hgz hcell
  have HB := Lib.hid hB
  have HSz := Lib.hid hSz
  clear hcell hfr hx hidx hB hSz
  have hw1 := IntWalk.i64_in (at_ + 1) ⟨by omega, by omega⟩
  have hw2 : IntKind.i64.wrap (-(at_ + 1)) = (k : Int) := by rw [hk]; exact IntWalk.i64_in _ ⟨by omega, by omega⟩
  go_enter Tryd.func26, Tryd.ntmps26
  go_wp2
  go_region
  all_goals go_wp2
  all_goals go_ret
  all_goals exact ⟨S, rfl, HSz.out, by first | exact (HB.out.setCell (Nat.le_refl _) _).drew | exact HB.out.setCell (Nat.le_refl _) _⟩
theorem bend_emp (s : ByteArray) (at_ b : Int) (hs : s.size = 0) (w : World) :
    Calls Tryd.prog 26 #[.string s, .int .i64 at_, .int .u8 b] w fun e w' => ∃ S, e = .returned (.string S) ∧ S.size = s.size ∧ Below w.heap.size w w' := by
  have he : s.toList = [] := by
    rw [ByteArray.toList_eq]
    exact List.length_eq_zero_iff.1 (by rw [ba_len]; exact hs)
  go_enter Tryd.func26, Tryd.ntmps26
  go_wp2
  go_ret
  exact ⟨s, rfl, rfl, Below.refl _ _⟩
theorem bend_any (s : ByteArray) (at_ b : Int) (hs2 : s.size ≤ 9223372036854775807) (ha : (Lit.int .i64 at_).wf = true) (hb : (Lit.int .u8 b).wf = true) (w : World) :
    Calls Tryd.prog 26 #[.string s, .int .i64 at_, .int .u8 b] w fun e w' => ∃ S, e = .returned (.string S) ∧ S.size = s.size ∧ Below w.heap.size w w' := by
  have bb := bounds_u8 hb
  have ba := bounds_i64 ha
  obtain ⟨b, rfl⟩ := Int.eq_ofNat_of_zero_le bb.1
  rcases Nat.eq_zero_or_pos s.size with h0 | h0
  · exact bend_emp s at_ b h0 w
  · by_cases hp : 0 ≤ at_
    · obtain ⟨k, rfl⟩ := Int.eq_ofNat_of_zero_le hp
      exact bend_pos s _ k b h0 hs2 (by omega) rfl (by omega) w
    · obtain ⟨k, hk⟩ := Int.eq_ofNat_of_zero_le (show 0 ≤ -(at_ + 1) by omega)
      exact bend_neg s at_ k b h0 hs2 (by omega) (by omega) (by omega) hk w
end Go.Proofs.YtnmnokmbnjdfoaaDoor
