/- Plain mathematics: what bytes are as a record. No program is read here. -/
import Derived.Test.YtnmnokmbnjdfoaaDoorRecPut
import Derived.Test.YtnmnokmbnjdfoaaDoorAddrGet
namespace Go.Proofs.YtnmnokmbnjdfoaaDoor
open Go.RowKit
set_option linter.unusedVariables false
set_option linter.unusedSimpArgs false

/-- what stands behind the first k bytes -/
def dr (s : ByteArray) (k : Nat) : ByteArray := s.extract k s.size
theorem dr_data (s : ByteArray) (k : Nat) : (dr s k).data.toList = s.data.toList.drop k := by
  unfold dr
  rw [Lib.extract_data, List.take_of_length_le (by rw [List.length_drop, ba_len]; omega)]
theorem dr_size (s : ByteArray) (k : Nat) : (dr s k).size = s.size - k := by rw [← ba_len, dr_data, List.length_drop, ba_len]
theorem dr_dr (s : ByteArray) (a b : Nat) : dr (dr s a) b = dr s (a + b) := by
  apply ba_ext
  rw [dr_data, dr_data, dr_data, List.drop_drop]
theorem ex_data (s : ByteArray) (a n : Nat) : (s.extract a (a + n)).data.toList = (s.data.toList.drop a).take n := by
  rw [Lib.extract_data]
  congr 1
  omega
theorem rdn_dr (s : ByteArray) (k : Nat) (h1 : 1 ≤ k) (h8 : k ≤ 8) (h : k ≤ s.size) : rdn s false k = (valB s k, dr s k, false) := by
  rw [rdn_yes ⟨rfl, by omega, by omega, by omega⟩, Int.toNat_natCast]
  rfl
def recB (s : ByteArray) : Rec := ⟨valB s 1, valB (dr s 1) 1, valB (dr s 2) 4, valB (dr s 6) 4, valB (dr s 10) 2⟩
def getR (s : ByteArray) : Option Rec := if 12 ≤ s.size ∧ (recB s).right = true then some (recB s) else none
theorem recB_ok (s : ByteArray) : (recB s).Ok := by
  have h1 := valB_lt (dr s 2) 4
  have h2 := valB_lt (dr s 6) 4
  have h3 := valB_lt (dr s 10) 2
  exact ⟨by simpa [recB] using h1, by simpa [recB] using h2, by simpa [recB] using h3⟩
theorem addr_data (s : ByteArray) : ((dr s 6).extract 0 6).data.toList = (s.data.toList.drop 6).take 6 := by
  have := ex_data (dr s 6) 0 6
  simp only [Nat.zero_add] at this
  rw [this, dr_data, List.drop_zero]
theorem addr_size (s : ByteArray) (h : 12 ≤ s.size) : ((dr s 6).extract 0 6).size = 6 := by
  rw [← ba_len, addr_data, List.length_take, List.length_drop, ba_len]; omega
theorem addr_same (s : ByteArray) : s.extract 6 12 = (dr s 6).extract 0 6 := by
  apply ba_ext
  rw [addr_data]
  exact ex_data s 6 6
theorem addr_get (s : ByteArray) (h : 12 ≤ s.size) : getI ((dr s 6).extract 0 6) = some (valB (dr s 6) 4, valB (dr s 10) 2) := by
  unfold getI
  rw [if_pos (addr_size s h)]
  have e1 : valB ((dr s 6).extract 0 6) 4 = valB (dr s 6) 4 := by
    unfold valB
    rw [addr_data, dr_data, List.take_take]
    congr 1
  have e2 : valB (((dr s 6).extract 0 6).extract 4 ((dr s 6).extract 0 6).size) 2 = valB (dr s 10) 2 := by
    unfold valB
    rw [Lib.extract_data, addr_size s h, addr_data, dr_data, List.take_take, List.drop_take, List.take_take, List.drop_drop]
    congr 1
  rw [e1, e2]
theorem inc_rdn (s : ByteArray) (h : 12 ≤ s.size) : ∃ s', rdn (s.extract 2 6) false 4 = (valB (dr s 2) 4, s', false) ∧ s'.size ≤ s.size := by
  have hz : (s.extract 2 6).size = 4 := by
    rw [← ba_len, show (6 : Nat) = 2 + 4 from rfl, ex_data, List.length_take, List.length_drop, ba_len]; omega
  have hr := rdn_dr (s.extract 2 6) 4 (by omega) (by omega) (by omega)
  have e : valB (s.extract 2 6) 4 = valB (dr s 2) 4 := by
    unfold valB
    rw [show (6 : Nat) = 2 + 4 from rfl, ex_data, dr_data, List.take_take]
    congr 1
  rw [e] at hr
  exact ⟨dr (s.extract 2 6) 4, hr, by rw [dr_size]; omega⟩
theorem at_zero (s : ByteArray) (h : 0 < s.size) : s[0].toNat = valB s 1 := by
  have h2 := valB_succ s 0 h
  rw [valB_zero, Nat.zero_mul, Nat.zero_add, Nat.zero_add] at h2
  exact h2.symm
theorem at_one (s : ByteArray) (h : 1 < s.size) : s[1].toNat = valB (dr s 1) 1 := by
  have h1 : 0 < (dr s 1).size := by rw [dr_size]; omega
  rw [← at_zero (dr s 1) h1]
  have hl : 1 < s.data.toList.length := by rw [ba_len]; omega
  have hl2 : 0 < (dr s 1).data.toList.length := by rw [ba_len]; omega
  have e1 : s[1] = s.data.toList[1] := by simp; rfl
  have e2 : (dr s 1)[0] = (dr s 1).data.toList[0] := by simp; rfl
  rw [e1, e2]
  simp only [dr_data]
  rw [List.getElem_drop]
/-- what the program's reader finds in twelve bytes or more -/
theorem long_facts (s : ByteArray) (h : 12 ≤ s.size) : ∃ s1 s2 s3 A, Hid (rdn s false 1 = ((recB s).id.toNat, s1, false)) ∧ Hid (rdn s1 false 1 = ((recB s).st.toNat, s2, false)) ∧ Hid (rdn s2 false 4 = ((recB s).n, s3, false)) ∧
    s1.size ≤ s.size ∧ s2.size ≤ s.size ∧ s3.size = s.size - 6 ∧ Hid (s3.extract 0 6 = A) ∧ A.size = 6 ∧ Hid (getI A = some ((recB s).ip, (recB s).port)) ∧ Hid (s3.extract 6 s3.size = dr s 12) ∧ (recB s).id.toNat < 256 ∧ (recB s).st.toNat < 256 ∧ 0 ≤ (recB s).id ∧ 0 ≤ (recB s).st := by
  have z1 := dr_size s 1
  have z2 := dr_size s 2
  have z6 := dr_size s 6
  refine ⟨dr s 1, dr s 2, dr s 6, _, rdn_dr s 1 (by omega) (by omega) (by omega), ?_, ?_, by omega, by omega, z6, rfl, addr_size s h, addr_get s h, ?_, ?_, ?_, ?_, ?_⟩
  · have := rdn_dr (dr s 1) 1 (by omega) (by omega) (by omega)
    rw [dr_dr] at this
    exact this
  · have := rdn_dr (dr s 2) 4 (by omega) (by omega) (by omega)
    rw [dr_dr] at this
    exact this
  · show _ = _
    rw [← dr_dr s 6 6]; rfl
  · simpa [recB] using valB_lt s 1
  · simpa [recB] using valB_lt (dr s 1) 1
  · simp [recB]
  · simp [recB]
theorem rdn_u32 {s s' : ByteArray} {b b' : Bool} {v : Nat} (h : rdn s b 4 = (v, s', b')) : v < 4294967296 := by
  by_cases ho : okN s b 4
  · rw [rdn_yes ho] at h
    injection h with h1 h
    have := valB_lt s 4
    have e : (4 : Int).toNat = 4 := rfl
    rw [e] at h1
    rw [← h1]
    simpa using this
  · rw [rdn_no ho] at h
    injection h with h1 h
    omega
/-- in less -/
theorem short_facts (s : ByteArray) (h : s.size < 12) : ∃ v1 s1 b1 v2 s2 b2 v3 s3 b3, Hid (rdn s false 1 = (v1, s1, b1)) ∧ Hid (rdn s1 b1 1 = (v2, s2, b2)) ∧ Hid (rdn s2 b2 4 = (v3, s3, b3)) ∧
    s1.size ≤ s.size ∧ s2.size ≤ s.size ∧ s3.size < 6 ∧ v1 < 256 ∧ v2 < 256 ∧ v3 < 4294967296 := by
  obtain ⟨v1, s1, b1, h1⟩ : ∃ v1 s1 b1, rdn s false 1 = (v1, s1, b1) := ⟨_, _, _, rfl⟩
  obtain ⟨v2, s2, b2, h2⟩ : ∃ v2 s2 b2, rdn s1 b1 1 = (v2, s2, b2) := ⟨_, _, _, rfl⟩
  obtain ⟨v3, s3, b3, h3⟩ : ∃ v3 s3 b3, rdn s2 b2 4 = (v3, s3, b3) := ⟨_, _, _, rfl⟩
  have r1 := rdn_one h1
  have r2 := rdn_one h2
  refine ⟨v1, s1, b1, v2, s2, b2, v3, s3, b3, h1, h2, h3, r1.2, Nat.le_trans r2.2 r1.2, ?_, r1.1, r2.1, rdn_u32 h3⟩
  have em : emp.size = 0 := rfl
  by_cases c1 : 1 ≤ s.size
  · rw [show (1 : Int) = ((1 : Nat) : Int) from rfl, rdn_dr s 1 (by omega) (by omega) c1] at h1
    injection h1 with _ h1
    injection h1 with e1 e2
    subst e1 e2
    have z1 := dr_size s 1
    by_cases c2 : 1 ≤ (dr s 1).size
    · rw [show (1 : Int) = ((1 : Nat) : Int) from rfl, rdn_dr _ 1 (by omega) (by omega) c2] at h2
      injection h2 with _ h2
      injection h2 with e1 e2
      subst e1 e2
      have z2 := dr_size (dr s 1) 1
      by_cases c3 : 4 ≤ (dr (dr s 1) 1).size
      · rw [show (4 : Int) = ((4 : Nat) : Int) from rfl, rdn_dr _ 4 (by omega) (by omega) c3] at h3
        injection h3 with _ h3
        injection h3 with e1 e2
        subst e1 e2
        have z3 := dr_size (dr (dr s 1) 1) 4
        omega
      · rw [rdn_short _ _ _ (by omega)] at h3
        injection h3 with _ h3
        injection h3 with e1 e2
        subst e1
        omega
    · rw [rdn_short _ _ _ (by omega)] at h2
      injection h2 with _ h2
      injection h2 with e1 e2
      subst e1 e2
      rw [rdn_bad] at h3
      injection h3 with _ h3
      injection h3 with e1 e2
      subst e1
      omega
  · rw [rdn_short _ _ _ (by omega)] at h1
    injection h1 with _ h1
    injection h1 with e1 e2
    subst e1 e2
    rw [rdn_bad] at h2
    injection h2 with _ h2
    injection h2 with e1 e2
    subst e1 e2
    rw [rdn_bad] at h3
    injection h3 with _ h3
    injection h3 with e1 e2
    subst e1
    omega
/-- what was put is got -/
theorem dg_drop2 (n j k m : Nat) (h : m = j + k) : (dg n m).drop j = dg n k := by subst h; exact dg_drop n j k
theorem recB_put (a : Rec) (t : ByteArray) (ha : a.Ok) (hr : a.right = true) : recB (putR a ++ t) = a ∧ dr (putR a ++ t) 12 = t ∧ 12 ≤ (putR a ++ t).size := by
  have hf := right_facts hr
  have hsz := putR_size a
  have e : (putR a ++ t).data.toList = dg a.id.toNat 1 ++ (dg a.st.toNat 1 ++ (dg a.n 4 ++ (dg a.ip 4 ++ (dg a.port 2 ++ t.data.toList)))) := by
    rw [putR, putB]; simp only [ba_append, numB_data, List.append_assoc]
  have l1 := dg_length a.id.toNat 1
  have l2 := dg_length a.st.toNat 1
  have l3 := dg_length a.n 4
  have l4 := dg_length a.ip 4
  have l5 := dg_length a.port 2
  have d1 : (putR a ++ t).data.toList.drop 1 = dg a.st.toNat 1 ++ (dg a.n 4 ++ (dg a.ip 4 ++ (dg a.port 2 ++ t.data.toList))) := by
    rw [e, List.drop_append_of_le_length (by omega), List.drop_of_length_le (by omega)]; rfl
  have d2 : (putR a ++ t).data.toList.drop 2 = dg a.n 4 ++ (dg a.ip 4 ++ (dg a.port 2 ++ t.data.toList)) := by
    rw [show (2 : Nat) = 1 + 1 from rfl, ← List.drop_drop, d1, List.drop_append_of_le_length (by omega), List.drop_of_length_le (by omega)]; rfl
  have d6 : (putR a ++ t).data.toList.drop 6 = dg a.ip 4 ++ (dg a.port 2 ++ t.data.toList) := by
    rw [show (6 : Nat) = 2 + 4 from rfl, ← List.drop_drop, d2, List.drop_append_of_le_length (by omega), List.drop_of_length_le (by omega)]; rfl
  have d10 : (putR a ++ t).data.toList.drop 10 = dg a.port 2 ++ t.data.toList := by
    rw [show (10 : Nat) = 6 + 4 from rfl, ← List.drop_drop, d6, List.drop_append_of_le_length (by omega), List.drop_of_length_le (by omega)]; rfl
  have d12 : (putR a ++ t).data.toList.drop 12 = t.data.toList := by
    rw [show (12 : Nat) = 10 + 2 from rfl, ← List.drop_drop, d10, List.drop_append_of_le_length (by omega), List.drop_of_length_le (by omega)]; rfl
  have v : ∀ (x k : Nat) (r : List UInt8), valF 0 ((dg x k ++ r).take k) = x % 256 ^ k := by
    intro x k r
    rw [List.take_append_of_le_length (by rw [dg_length]; omega), List.take_of_length_le (by rw [dg_length]; omega), valF_dg]
    omega
  refine ⟨?_, ?_, by simp [hsz]⟩
  · have i1 : valB (putR a ++ t) 1 = a.id.toNat := by unfold valB; rw [e, v, Nat.mod_eq_of_lt (by simp; omega)]
    have i2 : valB (dr (putR a ++ t) 1) 1 = a.st.toNat := by unfold valB; rw [dr_data, d1, v, Nat.mod_eq_of_lt (by simp; omega)]
    have i3 : valB (dr (putR a ++ t) 2) 4 = a.n := by unfold valB; rw [dr_data, d2, v, Nat.mod_eq_of_lt (by simpa using ha.n)]
    have i4 : valB (dr (putR a ++ t) 6) 4 = a.ip := by unfold valB; rw [dr_data, d6, v, Nat.mod_eq_of_lt (by simpa using ha.ip)]
    have i5 : valB (dr (putR a ++ t) 10) 2 = a.port := by unfold valB; rw [dr_data, d10, v, Nat.mod_eq_of_lt (by simpa using ha.port)]
    unfold recB
    rw [i1, i2, i3, i4, i5]
    obtain ⟨i, st, n, ip, port⟩ := a
    simp at *
    omega
  · apply ba_ext
    rw [dr_data, d12]
theorem getR_put (a : Rec) (t : ByteArray) (ha : a.Ok) (hr : a.right = true) : getR (putR a ++ t) = some a := by
  obtain ⟨h1, h2, h3⟩ := recB_put a t ha hr
  unfold getR
  rw [if_pos ⟨h3, by rw [h1]; exact hr⟩, h1]
theorem getR_short {s : ByteArray} (h : s.size < 12) : getR s = none := by unfold getR; rw [if_neg (by omega)]
end Go.Proofs.YtnmnokmbnjdfoaaDoor
