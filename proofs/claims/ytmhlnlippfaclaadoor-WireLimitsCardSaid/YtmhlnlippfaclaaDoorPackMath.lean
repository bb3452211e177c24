/- Plain mathematics of chapter 2: the bytes of a number, the number of bytes, what a reader reads. No program is read here. -/
import Derived.Laws.Strings2
import Derived.Laws.Concat
import Derived.Lib.Strings
import Derived.Lib.EndianBits
import Derived.IntWalk
namespace Go.Proofs.YtmhlnlippfaclaaDoor
set_option linter.unusedVariables false
set_option linter.unusedSimpArgs false

/-- the lowest k bytes of n, the highest first -/
def dg (n : Nat) : Nat → List UInt8
  | 0 => []
  | k + 1 => UInt8.ofNat (n / 256 ^ k % 256) :: dg n k
theorem dg_length (n k : Nat) : (dg n k).length = k := by
  induction k with
  | zero => rfl
  | succ k ih => simp [dg, ih]
theorem dg_drop (n j k : Nat) : (dg n (j + k)).drop j = dg n k := by
  induction j with
  | zero => simp
  | succ j ih => rw [show j + 1 + k = (j + k) + 1 from by omega, dg, List.drop_succ_cons, ih]
theorem dg_mod (n k : Nat) (h : k ≤ 8) : dg (n % 18446744073709551616) k = dg n k := by
  induction k with
  | zero => rfl
  | succ k ih =>
    rw [dg, dg, ih (by omega)]
    have e : n % 18446744073709551616 / 256 ^ k % 256 = n / 256 ^ k % 256 := by
      have h2 : k = 0 ∨ k = 1 ∨ k = 2 ∨ k = 3 ∨ k = 4 ∨ k = 5 ∨ k = 6 ∨ k = 7 := by omega
      rcases h2 with rfl | rfl | rfl | rfl | rfl | rfl | rfl | rfl <;> (simp; try omega)
    rw [e]
/-- the number of bytes, the highest first -/
def valF (a : Nat) (l : List UInt8) : Nat := l.foldl (fun n c => n * 256 + c.toNat) a
theorem valF_snoc (a : Nat) (l : List UInt8) (c : UInt8) : valF a (l ++ [c]) = valF a l * 256 + c.toNat := by simp [valF]
theorem valF_lt (l : List UInt8) : ∀ a, valF a l < (a + 1) * 256 ^ l.length := by
  induction l with
  | nil => intro a; simp [valF]
  | cons c l ih =>
    intro a
    have h := ih (a * 256 + c.toNat)
    have hc : c.toNat < 256 := c.toNat_lt
    refine Nat.lt_of_lt_of_le h ?_
    rw [List.length_cons, Nat.pow_succ, Nat.mul_comm (256 ^ l.length) 256, ← Nat.mul_assoc]
    exact Nat.mul_le_mul_right _ (by omega)
theorem ofNat_toNat (x : Nat) (h : x < 256) : (UInt8.ofNat x).toNat = x := by simp; omega
theorem valF_dg (n k : Nat) : ∀ a, valF a (dg n k) = a * 256 ^ k + n % 256 ^ k := by
  induction k with
  | zero => intro a; simp [valF, dg, Nat.mod_one]
  | succ k ih =>
    intro a
    have h := ih (a * 256 + (UInt8.ofNat (n / 256 ^ k % 256)).toNat)
    have e : valF a (dg n (k + 1)) = valF (a * 256 + (UInt8.ofNat (n / 256 ^ k % 256)).toNat) (dg n k) := rfl
    rw [e, h, ofNat_toNat _ (Nat.mod_lt _ (by omega)), Nat.pow_succ, Nat.mod_mul, Nat.add_mul, Nat.mul_comm (256 ^ k) 256, Nat.mul_assoc, Nat.mul_comm (256 ^ k) (n / 256 ^ k % 256)]
    omega

/-- the number of the first k bytes of s -/
def valB (s : ByteArray) (k : Nat) : Nat := valF 0 (s.data.toList.take k)
theorem valB_zero (s : ByteArray) : valB s 0 = 0 := by simp [valB, valF]
theorem valB_succ (s : ByteArray) (k : Nat) (h : k < s.size) : valB s (k + 1) = valB s k * 256 + s[k].toNat := by
  unfold valB
  have e : s.data.toList.take (k + 1) = s.data.toList.take k ++ [s[k]] := by
    rw [List.take_succ_eq_append_getElem (by simpa using h)]; rfl
  rw [e, valF_snoc]
theorem valB_lt (s : ByteArray) (k : Nat) : valB s k < 256 ^ k := by
  have h := valF_lt (s.data.toList.take k) 0
  unfold valB
  refine Nat.lt_of_lt_of_le h ?_
  simp only [Nat.zero_add, Nat.one_mul]
  exact Nat.pow_le_pow_right (by omega) (List.length_take_le _ _)
theorem pow_le8 (k : Nat) (h : k ≤ 8) : 256 ^ k ≤ 18446744073709551616 := by
  have := Nat.pow_le_pow_right (n := 256) (by omega) h
  simpa using this
theorem valB_64 (s : ByteArray) (k : Nat) (h : k ≤ 8) : valB s k < 18446744073709551616 := Nat.lt_of_lt_of_le (valB_lt s k) (pow_le8 k h)
theorem valB_56 (s : ByteArray) (k : Nat) (h : k < 8) : valB s k < 72057594037927936 := by
  have := Nat.pow_le_pow_right (n := 256) (by omega) (show k ≤ 7 by omega)
  have h2 := valB_lt s k
  simp at this
  omega
/-- one byte more: 'n<<8 | c' -/
theorem or_step (n c : Int) (h0 : 0 ≤ n) (h1 : n < 72057594037927936) (c0 : 0 ≤ c) (c1 : c < 256) : bits .or .u64 (n * 256) c = n * 256 + c :=
  bits_join .u64 64 (by decide) wraps_u64 8 (n * 256) c (by omega) (by omega) (by omega) c0 (by omega) (by omega)

/-- the string of a number's bytes -/
def numB (n k : Nat) : ByteArray := ⟨(dg n k).toArray⟩
theorem numB_size (n k : Nat) : (numB n k).size = k := by simp [numB, ByteArray.size, dg_length]
theorem numB_data (n k : Nat) : (numB n k).data.toList = dg n k := rfl
def emp : ByteArray := ⟨#[]⟩

theorem ba_ext (a b : ByteArray) (h : a.data.toList = b.data.toList) : a = b := by
  cases a with | mk a => cases b with | mk b => simp at h; rw [h]
theorem ba_append (a b : ByteArray) : (a ++ b).data.toList = a.data.toList ++ b.data.toList := by simp [ByteArray.data_append]
theorem ba_len (a : ByteArray) : a.data.toList.length = a.size := by rw [Lib.size_eq]
theorem ba_assoc (a b c : ByteArray) : a ++ b ++ c = a ++ (b ++ c) := ba_ext _ _ (by simp [ba_append])
theorem ba_cut (a b : ByteArray) (k : Nat) (h : a.size = k) : (a ++ b).extract k (a ++ b).size = b := by
  apply ba_ext
  have e : (a ++ b).size = a.size + b.size := by simp
  rw [Lib.extract_data, ba_append, e, h]
  have ha := ba_len a
  have hb := ba_len b
  rw [List.drop_append_of_le_length (by omega), List.drop_of_length_le (by omega), List.nil_append, List.take_of_length_le (by omega)]
theorem ba_head (a b : ByteArray) (k : Nat) (h : a.size = k) : (a ++ b).extract 0 k = a := by
  apply ba_ext
  have ha := ba_len a
  rw [Lib.extract_data, ba_append, List.drop_zero, Nat.sub_zero, List.take_append_of_le_length (by omega), List.take_of_length_le (by omega)]
theorem ba_nil (a : ByteArray) : a ++ emp = a := ba_ext _ _ (by simp [ba_append, emp])
theorem valB_append (a b : ByteArray) (k : Nat) (h : a.size = k) : valB (a ++ b) k = valB a k := by
  have ha := ba_len a
  unfold valB
  rw [ba_append, List.take_append_of_le_length (by omega)]
theorem valB_num (n k : Nat) : valB (numB n k) k = n % 256 ^ k := by
  unfold valB
  rw [numB_data, List.take_of_length_le (by rw [dg_length]; omega), valF_dg]
  omega

/-- may a reader of rest s, bad or not, read a number of z bytes? -/
def okN (s : ByteArray) (b : Bool) (z : Int) : Prop := b = false ∧ 1 ≤ z ∧ z ≤ 8 ∧ z ≤ s.size
instance (s : ByteArray) (b : Bool) (z : Int) : Decidable (okN s b z) := by unfold okN; infer_instance
/-- what is read: the number, the rest, bad or not -/
def rdn (s : ByteArray) (b : Bool) (z : Int) : Nat × ByteArray × Bool := if okN s b z then (valB s z.toNat, s.extract z.toNat s.size, false) else (0, emp, true)
theorem rdn_yes {s : ByteArray} {b : Bool} {z : Int} (h : okN s b z) : rdn s b z = (valB s z.toNat, s.extract z.toNat s.size, false) := if_pos h
theorem rdn_no {s : ByteArray} {b : Bool} {z : Int} (h : ¬ okN s b z) : rdn s b z = (0, emp, true) := if_neg h
/-- what is read of a text: the text, the rest, bad or not -/
def rtx (s : ByteArray) (b : Bool) : ByteArray × ByteArray × Bool :=
  if (rdn s b 1).2.2 = false ∧ (rdn s b 1).1 ≤ (rdn s b 1).2.1.size then ((rdn s b 1).2.1.extract 0 (rdn s b 1).1, (rdn s b 1).2.1.extract (rdn s b 1).1 (rdn s b 1).2.1.size, false) else (emp, emp, true)

theorem rdn_bad (s : ByteArray) (z : Int) : rdn s true z = (0, emp, true) := rdn_no (by simp [okN])
theorem rdn_short (s : ByteArray) (b : Bool) (z : Int) (h : (s.size : Int) < z) : rdn s b z = (0, emp, true) := rdn_no (by unfold okN; omega)
theorem rtx_bad (s : ByteArray) : rtx s true = (emp, emp, true) := by simp [rtx, rdn_bad]
/-- a number that was put is read -/
theorem rdn_put (n k : Nat) (y : ByteArray) (h1 : 1 ≤ k) (h8 : k ≤ 8) (hn : n < 256 ^ k) : rdn (numB n k ++ y) false (k : Int) = (n, y, false) := by
  have hs := numB_size n k
  rw [rdn_yes ⟨rfl, by omega, by omega, by simp [hs]; omega⟩, Int.toNat_natCast, valB_append _ _ _ hs, valB_num, ba_cut _ _ _ hs, Nat.mod_eq_of_lt hn]
/-- a text behind its length -/
def txB (s : ByteArray) : ByteArray := numB s.size 1 ++ s
theorem txB_size (s : ByteArray) : (txB s).size = 1 + s.size := by simp [txB, numB_size]
theorem rtx_put (s y : ByteArray) (h : s.size ≤ 255) : rtx (txB s ++ y) false = (s, y, false) := by
  have e : rdn (txB s ++ y) false 1 = (s.size, s ++ y, false) := by
    rw [txB, ba_assoc]
    exact rdn_put s.size 1 (s ++ y) (by omega) (by omega) (by simp; omega)
  unfold rtx
  rw [e]
  rw [if_pos ⟨rfl, by simp⟩]
  simp only [ba_head _ _ _ rfl, ba_cut _ _ _ rfl]
theorem ba_full (s : ByteArray) : s.extract 0 s.size = s := by
  have := ba_head s emp s.size rfl
  rwa [ba_nil] at this
theorem extract_le (s : ByteArray) (a b : Nat) (h : b ≤ s.size) : (s.extract a b).size ≤ s.size := by
  have := Lib.extract_data s a b
  have h2 := congrArg List.length this
  rw [ba_len, List.length_take] at h2
  omega
theorem rdn_one {s s' : ByteArray} {b b' : Bool} {v : Nat} (h : rdn s b 1 = (v, s', b')) : v < 256 ∧ s'.size ≤ s.size := by
  by_cases ho : okN s b 1
  · rw [rdn_yes ho] at h
    injection h with h1 h
    injection h with h2 h3
    subst h1 h2
    exact ⟨by simpa using valB_lt s 1, extract_le _ _ _ (Nat.le_refl _)⟩
  · rw [rdn_no ho] at h
    injection h with h1 h
    injection h with h2 h3
    subst h1 h2
    exact ⟨by omega, Nat.zero_le _⟩
theorem rdn_size {s s' : ByteArray} {b b' : Bool} {z : Int} {v : Nat} (h : rdn s b z = (v, s', b')) : v < 18446744073709551616 ∧ s'.size ≤ s.size := by
  by_cases ho : okN s b z
  · rw [rdn_yes ho] at h
    injection h with h1 h
    injection h with h2 h3
    subst h1 h2
    obtain ⟨_, h5, h6, _⟩ := ho
    exact ⟨valB_64 s _ (by omega), extract_le _ _ _ (Nat.le_refl _)⟩
  · rw [rdn_no ho] at h
    injection h with h1 h
    injection h with h2 h3
    subst h1 h2
    exact ⟨by omega, Nat.zero_le _⟩
theorem rtx_size {s t s' : ByteArray} {b b' : Bool} (h : rtx s b = (t, s', b')) : t.size ≤ s.size ∧ s'.size ≤ s.size := by
  obtain ⟨v, s1, b1, h1⟩ : ∃ v s1 b1, rdn s b 1 = (v, s1, b1) := ⟨_, _, _, rfl⟩
  have h2 := (rdn_one h1).2
  unfold rtx at h
  rw [h1] at h
  by_cases hc : b1 = false ∧ v ≤ s1.size
  · rw [if_pos hc] at h
    injection h with h3 h
    injection h with h4 h5
    subst h3 h4
    exact ⟨Nat.le_trans (extract_le _ _ _ hc.2) h2, Nat.le_trans (extract_le _ _ _ (Nat.le_refl _)) h2⟩
  · rw [if_neg hc] at h
    injection h with h3 h
    injection h with h4 h5
    subst h3 h4
    exact ⟨Nat.zero_le _, Nat.zero_le _⟩
end Go.Proofs.YtmhlnlippfaclaaDoor
