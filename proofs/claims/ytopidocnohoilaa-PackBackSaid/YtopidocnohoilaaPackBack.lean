/- The statement PackBack: for every two numbers, size, texts and cut: what was put one behind the other is read so, and what stands behind it is left; cut anywhere it is bad. No conditions. -/
import Derived.Test.YtopidocnohoilaaPackEx
import Derived.Test.YtopidocnohoilaaPackCut
import Derived.ChangeOld
import Derived.ChangeMaps5
import Derived.ShutString
import Derived.OpenShut
import Derived.SizedLaws
namespace Go.Proofs.Ytopidocnohoilaa
open Go.RowKit Go.ChangeShapes Go.WideShapes Go.ChangeAt
open Go.ChangeMaps (open_string shut_string)
set_option linter.unusedVariables false
set_option linter.unusedSimpArgs false

theorem pow_wrap (m : Nat) (h : m < 7) : IntKind.u64.wrap (2 ^ (8 * (1 + m))) = ((256 ^ (1 + m) : Nat) : Int) := by
  have h2 : m = 0 ∨ m = 1 ∨ m = 2 ∨ m = 3 ∨ m = 4 ∨ m = 5 ∨ m = 6 := by omega
  rcases h2 with rfl | rfl | rfl | rfl | rfl | rfl | rfl <;> decide

/-- all that the law's readers read -/
theorem back_facts (A b m q : Nat) (S rest : ByteArray) (hm : m < 8) (hA : A < 256 ^ (1 + m)) (hb : b < 256 ^ 8) (hS : S.size ≤ 255) (hq : q < (1 + m) + (1 + S.size) + 8) :
    ∃ R1 R2, Hid (rdn (numB A (1 + m) ++ txB S ++ numB b 8 ++ rest) false (1 + (m : Int)) = (A, R1, false)) ∧ Hid (rtx R1 false = (S, R2, false)) ∧ Hid (rdn R2 false 8 = (b, rest, false)) ∧ R1.size ≤ 400 + rest.size ∧ R2.size ≤ 400 + rest.size ∧
    ∃ v1 s1 b1 v2 s2 b2, Hid (rdn ((numB A (1 + m) ++ txB S ++ numB b 8).extract 0 q) false (1 + (m : Int)) = (v1, s1, b1)) ∧ Hid (rtx s1 b1 = (v2, s2, b2)) ∧ Hid (rdn s2 b2 8 = (0, ⟨#[]⟩, true)) ∧ s1.size ≤ 400 ∧ s2.size ≤ 400 := by
  have hk : ((1 + m : Nat) : Int) = 1 + (m : Int) := by omega
  have e1 := rdn_put A (1 + m) (txB S ++ (numB b 8 ++ rest)) (by omega) (by omega) hA
  have e3 := rdn_put b 8 rest (by omega) (by omega) hb
  have hz := txB_size S
  have h8 := numB_size b 8
  obtain ⟨v1, s1, b1, v2, s2, b2, c1, c2, c3, z1, z2⟩ := cut_bad A (1 + m) b q S (by omega) (by omega) hA hS hq
  rw [hk] at e1 c1
  refine ⟨txB S ++ (numB b 8 ++ rest), numB b 8 ++ rest, ?_, rtx_put S _ hS, e3, by simp; omega, by simp; omega, v1, s1, b1, v2, s2, b2, ?_, c2, c3, by omega, by omega⟩
  · show rdn _ _ _ = _
    rw [ba_assoc, ba_assoc]
    exact e1
  · show rdn _ _ _ = _
    rw [ba_assoc]
    exact c1

set_option maxRecDepth 100000 in
set_option maxHeartbeats 4000000 in
theorem packBack_lo_le (a b : Nat) (n : Int) (m : Nat) (s rest S : ByteArray) (cut : Nat) (ha : a < 18446744073709551616) (hb : b < 18446744073709551616) (hm : n % 8 = (m : Int)) (hm7 : m < 7) (hn : 0 ≤ n ∧ n ≤ 255)
    (hs : s.size ≤ 140737488355327) (hrest : rest.size ≤ 140737488355327) (hcut : cut ≤ 65535) (h200 : s.size ≤ 200) (hS : s.extract 0 s.size = S) (w : World) :
    Calls Try.prog 4 #[.int .u64 a, .int .u64 b, .int .u8 n, .string s, .string rest, .int .u16 cut] w fun e w' => e = .returned (.bool true) ∧ Below w.heap.size w w' := by
  obtain ⟨n0, n1⟩ := hn
  have hL2 : s.size ≤ 200 := h200
  have hLs : s.size ≤ s.size := Nat.le_refl _
  have hp := pow_wrap m hm7
  have h8 := pow_le8 (1 + m) (by omega)
  have h0 : 0 < 256 ^ (1 + m) := Nat.pow_pos (by omega)
  have hA0 : a % 256 ^ (1 + m) < 256 ^ (1 + m) := Nat.mod_lt _ h0
  obtain ⟨P, hP⟩ : ∃ P : Nat, P = 256 ^ (1 + m) := ⟨_, rfl⟩
  have hA : a % P < 256 ^ (1 + m) := by rw [hP]; exact hA0
  clear hA0
  rw [← hP] at hp h8 h0
  have hP0 : ¬ (P : Int) = 0 := by omega
  have hAP : a % P < 18446744073709551616 := by have := Nat.mod_lt a h0; omega
  have hSz : S.size = s.size := by rw [← hS]; exact extract_size s _ hLs
  have hb8 : b < 256 ^ 8 := by simpa using hb
  obtain ⟨T, hT0⟩ : ∃ T, T = (1 + m) + (1 + s.size) + 8 := ⟨_, rfl⟩
  have hT1 : 0 < T := by omega
  have hT2 : T ≤ 400 := by omega
  obtain ⟨R1, R2, e1, e2, e3, z1, z2, v1, s1, b1, v2, s2, b2, c1, c2, c3, z3, z4⟩ := back_facts (a % P) b m (cut % T) S rest (by omega) (hA) hb8 (by omega) (by rw [hSz, ← hT0]; exact Nat.mod_lt _ hT1)
  obtain ⟨X, hX⟩ : ∃ X, numB (a % P) (1 + m) ++ txB S ++ numB b 8 = X := ⟨_, rfl⟩
  have hXz : X.size = T := by
    have h1 := numB_size (a % P) (1 + m)
    have h2 := txB_size S
    have h3 := numB_size b 8
    rw [← hX]
    simp
    omega
  have hXe : X.toList.isEmpty = false := by
    have h1 := ba_len X
    rw [ByteArray.toList_eq]
    cases hd : X.data.toList with
    | nil => rw [hd] at h1; simp at h1; omega
    | cons x l => rfl
  rw [hX] at e1 c1
  have ns := numB_size (a % P) (1 + m)
  have nt := txB_size S
  have nb := numB_size b 8
  have hdn : Hid (dn rest false = rest.toList.isEmpty) := by
    show _ = _
    unfold dn
    rw [Bool.eq_iff_iff]
    simp
  have hem : (⟨#[]⟩ : ByteArray).size ≤ 9223372036854775807 := by decide
  have e4 : Hid (rdn ⟨#[]⟩ true 1 = (0, ⟨#[]⟩, true)) := rdn_bad _ _
  have HT := Lib.hid hT0
  have hTi : (0 : Int) < T := by omega
  have hTn : ¬ (T : Int) = 0 := by omega
  have hq1 : cut % T ≤ T := Nat.le_of_lt (Nat.mod_lt _ hT1)
  have hq0 : (cut % T) ≤ X.size := by rw [hXz]; exact hq1
  have hcs : (X.extract 0 (cut % T)).size = cut % T := extract_size _ _ hq0
  have hq2 : (cut : Int) % T ≤ T := by omega
  have hq3 : (0 : Int) ≤ (cut : Int) % T := by omega
  clear hT0 hq0 hA
  clear hP hLs hL2
  go_enter Try.func4, Try.ntmps4
  go_wp2_with fail
  refine (examples_yes _).mono ?_; rintro e w1 ⟨rfl, b1⟩
  go_wp2_with fail
  refine (txt_yes _ (by omega) _).mono ?_; rintro e w2 ⟨rfl, d2⟩
  go_wp2_with fail
  refine (num_at _ _ (a % P) (1 + m) (by simp) (by simp) (by omega) (by omega) (by omega) _).mono ?_; rintro e w3 ⟨rfl, d3⟩
  go_wp2_with fail
  refine (num_at _ _ b 8 (by rfl) (by rfl) (by omega) (by omega) (by omega) _).mono ?_; rintro e w4 ⟨rfl, d4⟩
  go_wp2_with fail
  refine (read_any _ _).mono ?_; rintro e w5 ⟨rfl, d5⟩
  go_wp2_with fail
  refine (num_is e1 (by simp; omega) _).mono ?_; rintro e w6 ⟨rfl, d6⟩
  go_wp2_with fail
  refine (txr_is e2 (by omega) _).mono ?_; rintro e w7 ⟨rfl, d7⟩; obtain ⟨hc7, hf7, hz7⟩ := bcell d7; (try simp at hz7); have kc7_0 := fun o => hc7 (w6.heap.size) o (by first | omega | (simp; done) | (simp; omega)); have kf7_0 := fun o => hf7 (w6.heap.size) o (by first | omega | (simp; done) | (simp; omega)); have kl7_0 : w6.heap.size < w7.heap.size := (by omega); clear hc7 hf7
  go_wp2_with fail
  refine (num_is e3 (by omega) _).mono ?_; rintro e w8 ⟨rfl, d8⟩; obtain ⟨hc8, hf8, hz8⟩ := bcell d8; (try simp at hz8); have kc8_0 := fun o => hc8 (w6.heap.size) o (by first | omega | (simp; done) | (simp; omega)); have kf8_0 := fun o => hf8 (w6.heap.size) o (by first | omega | (simp; done) | (simp; omega)); have kl8_0 : w6.heap.size < w8.heap.size := (by omega); have kc8_1 := fun o => hc8 (w7.heap.size) o (by first | omega | (simp; done) | (simp; omega)); have kf8_1 := fun o => hf8 (w7.heap.size) o (by first | omega | (simp; done) | (simp; omega)); have kl8_1 : w7.heap.size < w8.heap.size := (by omega); clear hc8 hf8
  go_wp2_with fail
  refine (read_any _ _).mono ?_; rintro e w9 ⟨rfl, d9⟩; obtain ⟨hc9, hf9, hz9⟩ := bcell d9; (try simp at hz9); have kc9_0 := fun o => hc9 (w8.heap.size) o (by first | omega | (simp; done) | (simp; omega)); have kf9_0 := fun o => hf9 (w8.heap.size) o (by first | omega | (simp; done) | (simp; omega)); have kl9_0 : w8.heap.size < w9.heap.size := (by omega); clear hc9 hf9
  go_wp2_with fail
  refine (num_is c1 (by omega) _).mono ?_; rintro e w10 ⟨rfl, d10⟩; obtain ⟨hc10, hf10, hz10⟩ := bcell d10; (try simp at hz10); have kc10_0 := fun o => hc10 (w8.heap.size) o (by first | omega | (simp; done) | (simp; omega)); have kf10_0 := fun o => hf10 (w8.heap.size) o (by first | omega | (simp; done) | (simp; omega)); have kl10_0 : w8.heap.size < w10.heap.size := (by omega); clear hc10 hf10
  go_wp2_with fail
  refine (txr_is c2 (by omega) _).mono ?_; rintro e w11 ⟨rfl, d11⟩; obtain ⟨hc11, hf11, hz11⟩ := bcell d11; (try simp at hz11); have kc11_0 := fun o => hc11 (w8.heap.size) o (by first | omega | (simp; done) | (simp; omega)); have kf11_0 := fun o => hf11 (w8.heap.size) o (by first | omega | (simp; done) | (simp; omega)); have kl11_0 : w8.heap.size < w11.heap.size := (by omega); have kc11_1 := fun o => hc11 (w10.heap.size) o (by first | omega | (simp; done) | (simp; omega)); have kf11_1 := fun o => hf11 (w10.heap.size) o (by first | omega | (simp; done) | (simp; omega)); have kl11_1 : w10.heap.size < w11.heap.size := (by omega); clear hc11 hf11
  go_wp2_with fail
  refine (num_is c3 (by omega) _).mono ?_; rintro e w12 ⟨rfl, d12⟩; obtain ⟨hc12, hf12, hz12⟩ := bcell d12; (try simp at hz12); have kc12_0 := fun o => hc12 (w8.heap.size) o (by first | omega | (simp; done) | (simp; omega)); have kf12_0 := fun o => hf12 (w8.heap.size) o (by first | omega | (simp; done) | (simp; omega)); have kl12_0 : w8.heap.size < w12.heap.size := (by omega); have kc12_1 := fun o => hc12 (w11.heap.size) o (by first | omega | (simp; done) | (simp; omega)); have kf12_1 := fun o => hf12 (w11.heap.size) o (by first | omega | (simp; done) | (simp; omega)); have kl12_1 : w11.heap.size < w12.heap.size := (by omega); clear hc12 hf12
  go_wp2_with fail
  refine (num_is e4 hem _).mono ?_; rintro e w13 ⟨rfl, d13⟩; obtain ⟨hc13, hf13, hz13⟩ := bcell d13; (try simp at hz13); have kc13_0 := fun o => hc13 (w8.heap.size) o (by first | omega | (simp; done) | (simp; omega)); have kf13_0 := fun o => hf13 (w8.heap.size) o (by first | omega | (simp; done) | (simp; omega)); have kl13_0 : w8.heap.size < w13.heap.size := (by omega); have kc13_1 := fun o => hc13 (w12.heap.size) o (by first | omega | (simp; done) | (simp; omega)); have kf13_1 := fun o => hf13 (w12.heap.size) o (by first | omega | (simp; done) | (simp; omega)); have kl13_1 : w12.heap.size < w13.heap.size := (by omega); clear hc13 hf13
  go_wp2_with fail
  refine (done_is hdn _).mono ?_; rintro e w14 ⟨rfl, d14⟩; obtain ⟨hc14, hf14, hz14⟩ := bcell d14; (try simp at hz14); have kc14_0 := fun o => hc14 (w8.heap.size) o (by first | omega | (simp; done) | (simp; omega)); have kf14_0 := fun o => hf14 (w8.heap.size) o (by first | omega | (simp; done) | (simp; omega)); have kl14_0 : w8.heap.size < w14.heap.size := (by omega); have kc14_1 := fun o => hc14 (w12.heap.size) o (by first | omega | (simp; done) | (simp; omega)); have kf14_1 := fun o => hf14 (w12.heap.size) o (by first | omega | (simp; done) | (simp; omega)); have kl14_1 : w12.heap.size < w14.heap.size := (by omega); have kc14_2 := fun o => hc14 (w13.heap.size) o (by first | omega | (simp; done) | (simp; omega)); have kf14_2 := fun o => hf14 (w13.heap.size) o (by first | omega | (simp; done) | (simp; omega)); have kl14_2 : w13.heap.size < w14.heap.size := (by omega); clear hc14 hf14
  go_wp2_with fail
  refine (done_bad _ _).mono ?_; rintro e w15 ⟨rfl, d15⟩
  go_wp2_with fail
  go_ret
  refine ⟨rfl, ?_⟩
  (have zz0 := Below.size d15; (try simp at zz0); have zz1 := Below.size d14; (try simp at zz1); have zz2 := Below.size d13; (try simp at zz2); have zz3 := Below.size d12; (try simp at zz3); have zz4 := Below.size d11; (try simp at zz4); have zz5 := Below.size d10; (try simp at zz5); have zz6 := Below.size d9; (try simp at zz6); have zz7 := Below.size d8; (try simp at zz7); have zz8 := Below.size d7; (try simp at zz8); have zz9 := Below.size d6; (try simp at zz9); have zz10 := Below.size d5; (try simp at zz10); have zz11 := Below.size d4; (try simp at zz11); have zz12 := Below.size d3; (try simp at zz12); have zz13 := Below.size d2; (try simp at zz13); have zz14 := Below.size b1; (try simp at zz14); repeat (first | exact Below.refl _ _ | refine Below.drew ?_ | refine below_drewN ?_ _ | refine Below.alloc ?_ (by first | omega | (simp; done) | (simp; omega)) _ | refine Below.setCell ?_ (by first | omega | (simp; done) | (simp; omega)) _ | (with_reducible refine Below.trans ?_ (Below.mono d15 (by first | omega | (simp; done) | (simp; omega)))) | (with_reducible refine Below.trans ?_ (Below.mono d14 (by first | omega | (simp; done) | (simp; omega)))) | (with_reducible refine Below.trans ?_ (Below.mono d13 (by first | omega | (simp; done) | (simp; omega)))) | (with_reducible refine Below.trans ?_ (Below.mono d12 (by first | omega | (simp; done) | (simp; omega)))) | (with_reducible refine Below.trans ?_ (Below.mono d11 (by first | omega | (simp; done) | (simp; omega)))) | (with_reducible refine Below.trans ?_ (Below.mono d10 (by first | omega | (simp; done) | (simp; omega)))) | (with_reducible refine Below.trans ?_ (Below.mono d9 (by first | omega | (simp; done) | (simp; omega)))) | (with_reducible refine Below.trans ?_ (Below.mono d8 (by first | omega | (simp; done) | (simp; omega)))) | (with_reducible refine Below.trans ?_ (Below.mono d7 (by first | omega | (simp; done) | (simp; omega)))) | (with_reducible refine Below.trans ?_ (Below.mono d6 (by first | omega | (simp; done) | (simp; omega)))) | (with_reducible refine Below.trans ?_ (Below.mono d5 (by first | omega | (simp; done) | (simp; omega)))) | (with_reducible refine Below.trans ?_ (Below.mono d4 (by first | omega | (simp; done) | (simp; omega)))) | (with_reducible refine Below.trans ?_ (Below.mono d3 (by first | omega | (simp; done) | (simp; omega)))) | (with_reducible refine Below.trans ?_ (Below.mono d2 (by first | omega | (simp; done) | (simp; omega)))) | (with_reducible refine Below.trans ?_ (Below.mono b1 (by first | omega | (simp; done) | (simp; omega))))))

set_option maxRecDepth 100000 in
set_option maxHeartbeats 4000000 in
theorem packBack_lo_gt (a b : Nat) (n : Int) (m : Nat) (s rest S : ByteArray) (cut : Nat) (ha : a < 18446744073709551616) (hb : b < 18446744073709551616) (hm : n % 8 = (m : Int)) (hm7 : m < 7) (hn : 0 ≤ n ∧ n ≤ 255)
    (hs : s.size ≤ 140737488355327) (hrest : rest.size ≤ 140737488355327) (hcut : cut ≤ 65535) (h200 : 200 < s.size) (hS : s.extract 0 200 = S) (w : World) :
    Calls Try.prog 4 #[.int .u64 a, .int .u64 b, .int .u8 n, .string s, .string rest, .int .u16 cut] w fun e w' => e = .returned (.bool true) ∧ Below w.heap.size w w' := by
  obtain ⟨n0, n1⟩ := hn
  have hL2 : 200 ≤ 200 := Nat.le_refl _
  have hLs : 200 ≤ s.size := by omega
  have hp := pow_wrap m hm7
  have h8 := pow_le8 (1 + m) (by omega)
  have h0 : 0 < 256 ^ (1 + m) := Nat.pow_pos (by omega)
  have hA0 : a % 256 ^ (1 + m) < 256 ^ (1 + m) := Nat.mod_lt _ h0
  obtain ⟨P, hP⟩ : ∃ P : Nat, P = 256 ^ (1 + m) := ⟨_, rfl⟩
  have hA : a % P < 256 ^ (1 + m) := by rw [hP]; exact hA0
  clear hA0
  rw [← hP] at hp h8 h0
  have hP0 : ¬ (P : Int) = 0 := by omega
  have hAP : a % P < 18446744073709551616 := by have := Nat.mod_lt a h0; omega
  have hSz : S.size = 200 := by rw [← hS]; exact extract_size s _ hLs
  have hb8 : b < 256 ^ 8 := by simpa using hb
  obtain ⟨T, hT0⟩ : ∃ T, T = (1 + m) + (1 + 200) + 8 := ⟨_, rfl⟩
  have hT1 : 0 < T := by omega
  have hT2 : T ≤ 400 := by omega
  obtain ⟨R1, R2, e1, e2, e3, z1, z2, v1, s1, b1, v2, s2, b2, c1, c2, c3, z3, z4⟩ := back_facts (a % P) b m (cut % T) S rest (by omega) (hA) hb8 (by omega) (by rw [hSz, ← hT0]; exact Nat.mod_lt _ hT1)
  obtain ⟨X, hX⟩ : ∃ X, numB (a % P) (1 + m) ++ txB S ++ numB b 8 = X := ⟨_, rfl⟩
  have hXz : X.size = T := by
    have h1 := numB_size (a % P) (1 + m)
    have h2 := txB_size S
    have h3 := numB_size b 8
    rw [← hX]
    simp
    omega
  have hXe : X.toList.isEmpty = false := by
    have h1 := ba_len X
    rw [ByteArray.toList_eq]
    cases hd : X.data.toList with
    | nil => rw [hd] at h1; simp at h1; omega
    | cons x l => rfl
  rw [hX] at e1 c1
  have ns := numB_size (a % P) (1 + m)
  have nt := txB_size S
  have nb := numB_size b 8
  have hdn : Hid (dn rest false = rest.toList.isEmpty) := by
    show _ = _
    unfold dn
    rw [Bool.eq_iff_iff]
    simp
  have hem : (⟨#[]⟩ : ByteArray).size ≤ 9223372036854775807 := by decide
  have e4 : Hid (rdn ⟨#[]⟩ true 1 = (0, ⟨#[]⟩, true)) := rdn_bad _ _
  have HT := Lib.hid hT0
  have hTi : (0 : Int) < T := by omega
  have hTn : ¬ (T : Int) = 0 := by omega
  have hq1 : cut % T ≤ T := Nat.le_of_lt (Nat.mod_lt _ hT1)
  have hq0 : (cut % T) ≤ X.size := by rw [hXz]; exact hq1
  have hcs : (X.extract 0 (cut % T)).size = cut % T := extract_size _ _ hq0
  have hq2 : (cut : Int) % T ≤ T := by omega
  have hq3 : (0 : Int) ≤ (cut : Int) % T := by omega
  clear hT0 hq0 hA
  clear hP hLs hL2
  go_enter Try.func4, Try.ntmps4
  go_wp2_with fail
  refine (examples_yes _).mono ?_; rintro e w1 ⟨rfl, b1⟩
  go_wp2_with fail
  refine (txt_yes _ (by omega) _).mono ?_; rintro e w2 ⟨rfl, d2⟩
  go_wp2_with fail
  refine (num_at _ _ (a % P) (1 + m) (by simp) (by simp) (by omega) (by omega) (by omega) _).mono ?_; rintro e w3 ⟨rfl, d3⟩
  go_wp2_with fail
  refine (num_at _ _ b 8 (by rfl) (by rfl) (by omega) (by omega) (by omega) _).mono ?_; rintro e w4 ⟨rfl, d4⟩
  go_wp2_with fail
  refine (read_any _ _).mono ?_; rintro e w5 ⟨rfl, d5⟩
  go_wp2_with fail
  refine (num_is e1 (by simp; omega) _).mono ?_; rintro e w6 ⟨rfl, d6⟩
  go_wp2_with fail
  refine (txr_is e2 (by omega) _).mono ?_; rintro e w7 ⟨rfl, d7⟩; obtain ⟨hc7, hf7, hz7⟩ := bcell d7; (try simp at hz7); have kc7_0 := fun o => hc7 (w6.heap.size) o (by first | omega | (simp; done) | (simp; omega)); have kf7_0 := fun o => hf7 (w6.heap.size) o (by first | omega | (simp; done) | (simp; omega)); have kl7_0 : w6.heap.size < w7.heap.size := (by omega); clear hc7 hf7
  go_wp2_with fail
  refine (num_is e3 (by omega) _).mono ?_; rintro e w8 ⟨rfl, d8⟩; obtain ⟨hc8, hf8, hz8⟩ := bcell d8; (try simp at hz8); have kc8_0 := fun o => hc8 (w6.heap.size) o (by first | omega | (simp; done) | (simp; omega)); have kf8_0 := fun o => hf8 (w6.heap.size) o (by first | omega | (simp; done) | (simp; omega)); have kl8_0 : w6.heap.size < w8.heap.size := (by omega); have kc8_1 := fun o => hc8 (w7.heap.size) o (by first | omega | (simp; done) | (simp; omega)); have kf8_1 := fun o => hf8 (w7.heap.size) o (by first | omega | (simp; done) | (simp; omega)); have kl8_1 : w7.heap.size < w8.heap.size := (by omega); clear hc8 hf8
  go_wp2_with fail
  refine (read_any _ _).mono ?_; rintro e w9 ⟨rfl, d9⟩; obtain ⟨hc9, hf9, hz9⟩ := bcell d9; (try simp at hz9); have kc9_0 := fun o => hc9 (w8.heap.size) o (by first | omega | (simp; done) | (simp; omega)); have kf9_0 := fun o => hf9 (w8.heap.size) o (by first | omega | (simp; done) | (simp; omega)); have kl9_0 : w8.heap.size < w9.heap.size := (by omega); clear hc9 hf9
  go_wp2_with fail
  refine (num_is c1 (by omega) _).mono ?_; rintro e w10 ⟨rfl, d10⟩; obtain ⟨hc10, hf10, hz10⟩ := bcell d10; (try simp at hz10); have kc10_0 := fun o => hc10 (w8.heap.size) o (by first | omega | (simp; done) | (simp; omega)); have kf10_0 := fun o => hf10 (w8.heap.size) o (by first | omega | (simp; done) | (simp; omega)); have kl10_0 : w8.heap.size < w10.heap.size := (by omega); clear hc10 hf10
  go_wp2_with fail
  refine (txr_is c2 (by omega) _).mono ?_; rintro e w11 ⟨rfl, d11⟩; obtain ⟨hc11, hf11, hz11⟩ := bcell d11; (try simp at hz11); have kc11_0 := fun o => hc11 (w8.heap.size) o (by first | omega | (simp; done) | (simp; omega)); have kf11_0 := fun o => hf11 (w8.heap.size) o (by first | omega | (simp; done) | (simp; omega)); have kl11_0 : w8.heap.size < w11.heap.size := (by omega); have kc11_1 := fun o => hc11 (w10.heap.size) o (by first | omega | (simp; done) | (simp; omega)); have kf11_1 := fun o => hf11 (w10.heap.size) o (by first | omega | (simp; done) | (simp; omega)); have kl11_1 : w10.heap.size < w11.heap.size := (by omega); clear hc11 hf11
  go_wp2_with fail
  refine (num_is c3 (by omega) _).mono ?_; rintro e w12 ⟨rfl, d12⟩; obtain ⟨hc12, hf12, hz12⟩ := bcell d12; (try simp at hz12); have kc12_0 := fun o => hc12 (w8.heap.size) o (by first | omega | (simp; done) | (simp; omega)); have kf12_0 := fun o => hf12 (w8.heap.size) o (by first | omega | (simp; done) | (simp; omega)); have kl12_0 : w8.heap.size < w12.heap.size := (by omega); have kc12_1 := fun o => hc12 (w11.heap.size) o (by first | omega | (simp; done) | (simp; omega)); have kf12_1 := fun o => hf12 (w11.heap.size) o (by first | omega | (simp; done) | (simp; omega)); have kl12_1 : w11.heap.size < w12.heap.size := (by omega); clear hc12 hf12
  go_wp2_with fail
  refine (num_is e4 hem _).mono ?_; rintro e w13 ⟨rfl, d13⟩; obtain ⟨hc13, hf13, hz13⟩ := bcell d13; (try simp at hz13); have kc13_0 := fun o => hc13 (w8.heap.size) o (by first | omega | (simp; done) | (simp; omega)); have kf13_0 := fun o => hf13 (w8.heap.size) o (by first | omega | (simp; done) | (simp; omega)); have kl13_0 : w8.heap.size < w13.heap.size := (by omega); have kc13_1 := fun o => hc13 (w12.heap.size) o (by first | omega | (simp; done) | (simp; omega)); have kf13_1 := fun o => hf13 (w12.heap.size) o (by first | omega | (simp; done) | (simp; omega)); have kl13_1 : w12.heap.size < w13.heap.size := (by omega); clear hc13 hf13
  go_wp2_with fail
  refine (done_is hdn _).mono ?_; rintro e w14 ⟨rfl, d14⟩; obtain ⟨hc14, hf14, hz14⟩ := bcell d14; (try simp at hz14); have kc14_0 := fun o => hc14 (w8.heap.size) o (by first | omega | (simp; done) | (simp; omega)); have kf14_0 := fun o => hf14 (w8.heap.size) o (by first | omega | (simp; done) | (simp; omega)); have kl14_0 : w8.heap.size < w14.heap.size := (by omega); have kc14_1 := fun o => hc14 (w12.heap.size) o (by first | omega | (simp; done) | (simp; omega)); have kf14_1 := fun o => hf14 (w12.heap.size) o (by first | omega | (simp; done) | (simp; omega)); have kl14_1 : w12.heap.size < w14.heap.size := (by omega); have kc14_2 := fun o => hc14 (w13.heap.size) o (by first | omega | (simp; done) | (simp; omega)); have kf14_2 := fun o => hf14 (w13.heap.size) o (by first | omega | (simp; done) | (simp; omega)); have kl14_2 : w13.heap.size < w14.heap.size := (by omega); clear hc14 hf14
  go_wp2_with fail
  refine (done_bad _ _).mono ?_; rintro e w15 ⟨rfl, d15⟩
  go_wp2_with fail
  go_ret
  refine ⟨rfl, ?_⟩
  (have zz0 := Below.size d15; (try simp at zz0); have zz1 := Below.size d14; (try simp at zz1); have zz2 := Below.size d13; (try simp at zz2); have zz3 := Below.size d12; (try simp at zz3); have zz4 := Below.size d11; (try simp at zz4); have zz5 := Below.size d10; (try simp at zz5); have zz6 := Below.size d9; (try simp at zz6); have zz7 := Below.size d8; (try simp at zz7); have zz8 := Below.size d7; (try simp at zz8); have zz9 := Below.size d6; (try simp at zz9); have zz10 := Below.size d5; (try simp at zz10); have zz11 := Below.size d4; (try simp at zz11); have zz12 := Below.size d3; (try simp at zz12); have zz13 := Below.size d2; (try simp at zz13); have zz14 := Below.size b1; (try simp at zz14); repeat (first | exact Below.refl _ _ | refine Below.drew ?_ | refine below_drewN ?_ _ | refine Below.alloc ?_ (by first | omega | (simp; done) | (simp; omega)) _ | refine Below.setCell ?_ (by first | omega | (simp; done) | (simp; omega)) _ | (with_reducible refine Below.trans ?_ (Below.mono d15 (by first | omega | (simp; done) | (simp; omega)))) | (with_reducible refine Below.trans ?_ (Below.mono d14 (by first | omega | (simp; done) | (simp; omega)))) | (with_reducible refine Below.trans ?_ (Below.mono d13 (by first | omega | (simp; done) | (simp; omega)))) | (with_reducible refine Below.trans ?_ (Below.mono d12 (by first | omega | (simp; done) | (simp; omega)))) | (with_reducible refine Below.trans ?_ (Below.mono d11 (by first | omega | (simp; done) | (simp; omega)))) | (with_reducible refine Below.trans ?_ (Below.mono d10 (by first | omega | (simp; done) | (simp; omega)))) | (with_reducible refine Below.trans ?_ (Below.mono d9 (by first | omega | (simp; done) | (simp; omega)))) | (with_reducible refine Below.trans ?_ (Below.mono d8 (by first | omega | (simp; done) | (simp; omega)))) | (with_reducible refine Below.trans ?_ (Below.mono d7 (by first | omega | (simp; done) | (simp; omega)))) | (with_reducible refine Below.trans ?_ (Below.mono d6 (by first | omega | (simp; done) | (simp; omega)))) | (with_reducible refine Below.trans ?_ (Below.mono d5 (by first | omega | (simp; done) | (simp; omega)))) | (with_reducible refine Below.trans ?_ (Below.mono d4 (by first | omega | (simp; done) | (simp; omega)))) | (with_reducible refine Below.trans ?_ (Below.mono d3 (by first | omega | (simp; done) | (simp; omega)))) | (with_reducible refine Below.trans ?_ (Below.mono d2 (by first | omega | (simp; done) | (simp; omega)))) | (with_reducible refine Below.trans ?_ (Below.mono b1 (by first | omega | (simp; done) | (simp; omega))))))

set_option maxRecDepth 100000 in
set_option maxHeartbeats 4000000 in
theorem packBack_hi_le (a b : Nat) (n : Int) (m : Nat) (s rest S : ByteArray) (cut : Nat) (ha : a < 18446744073709551616) (hb : b < 18446744073709551616) (hm : n % 8 = (m : Int)) (hm7 : m = 7) (hn : 0 ≤ n ∧ n ≤ 255)
    (hs : s.size ≤ 140737488355327) (hrest : rest.size ≤ 140737488355327) (hcut : cut ≤ 65535) (h200 : s.size ≤ 200) (hS : s.extract 0 s.size = S) (w : World) :
    Calls Try.prog 4 #[.int .u64 a, .int .u64 b, .int .u8 n, .string s, .string rest, .int .u16 cut] w fun e w' => e = .returned (.bool true) ∧ Below w.heap.size w w' := by
  obtain ⟨n0, n1⟩ := hn
  have hL2 : s.size ≤ 200 := h200
  have hLs : s.size ≤ s.size := Nat.le_refl _
  have hA : a < 256 ^ (1 + m) := by subst hm7; simpa using ha
  have hm8 : ¬ (1 : Int) + m < 8 := by omega
  have hSz : S.size = s.size := by rw [← hS]; exact extract_size s _ hLs
  have hb8 : b < 256 ^ 8 := by simpa using hb
  obtain ⟨T, hT0⟩ : ∃ T, T = (1 + m) + (1 + s.size) + 8 := ⟨_, rfl⟩
  have hT1 : 0 < T := by omega
  have hT2 : T ≤ 400 := by omega
  obtain ⟨R1, R2, e1, e2, e3, z1, z2, v1, s1, b1, v2, s2, b2, c1, c2, c3, z3, z4⟩ := back_facts (a) b m (cut % T) S rest (by omega) (hA) hb8 (by omega) (by rw [hSz, ← hT0]; exact Nat.mod_lt _ hT1)
  obtain ⟨X, hX⟩ : ∃ X, numB (a) (1 + m) ++ txB S ++ numB b 8 = X := ⟨_, rfl⟩
  have hXz : X.size = T := by
    have h1 := numB_size (a) (1 + m)
    have h2 := txB_size S
    have h3 := numB_size b 8
    rw [← hX]
    simp
    omega
  have hXe : X.toList.isEmpty = false := by
    have h1 := ba_len X
    rw [ByteArray.toList_eq]
    cases hd : X.data.toList with
    | nil => rw [hd] at h1; simp at h1; omega
    | cons x l => rfl
  rw [hX] at e1 c1
  have ns := numB_size (a) (1 + m)
  have nt := txB_size S
  have nb := numB_size b 8
  have hdn : Hid (dn rest false = rest.toList.isEmpty) := by
    show _ = _
    unfold dn
    rw [Bool.eq_iff_iff]
    simp
  have hem : (⟨#[]⟩ : ByteArray).size ≤ 9223372036854775807 := by decide
  have e4 : Hid (rdn ⟨#[]⟩ true 1 = (0, ⟨#[]⟩, true)) := rdn_bad _ _
  have HT := Lib.hid hT0
  have hTi : (0 : Int) < T := by omega
  have hTn : ¬ (T : Int) = 0 := by omega
  have hq1 : cut % T ≤ T := Nat.le_of_lt (Nat.mod_lt _ hT1)
  have hq0 : (cut % T) ≤ X.size := by rw [hXz]; exact hq1
  have hcs : (X.extract 0 (cut % T)).size = cut % T := extract_size _ _ hq0
  have hq2 : (cut : Int) % T ≤ T := by omega
  have hq3 : (0 : Int) ≤ (cut : Int) % T := by omega
  clear hT0 hq0 hA
  have HM := Lib.hid hm7
  clear hm7
  have hm7 : m < 8 := by have := HM.out; omega
  clear hLs hL2
  go_enter Try.func4, Try.ntmps4
  go_wp2_with fail
  refine (examples_yes _).mono ?_; rintro e w1 ⟨rfl, b1⟩
  go_wp2_with fail
  refine (txt_yes _ (by omega) _).mono ?_; rintro e w2 ⟨rfl, d2⟩
  go_wp2_with fail
  refine (num_at _ _ (a) (1 + m) (by simp) (by simp) (by omega) (by omega) (by omega) _).mono ?_; rintro e w3 ⟨rfl, d3⟩
  go_wp2_with fail
  refine (num_at _ _ b 8 (by rfl) (by rfl) (by omega) (by omega) (by omega) _).mono ?_; rintro e w4 ⟨rfl, d4⟩
  go_wp2_with fail
  refine (read_any _ _).mono ?_; rintro e w5 ⟨rfl, d5⟩
  go_wp2_with fail
  refine (num_is e1 (by simp; omega) _).mono ?_; rintro e w6 ⟨rfl, d6⟩
  go_wp2_with fail
  refine (txr_is e2 (by omega) _).mono ?_; rintro e w7 ⟨rfl, d7⟩; obtain ⟨hc7, hf7, hz7⟩ := bcell d7; (try simp at hz7); have kc7_0 := fun o => hc7 (w6.heap.size) o (by first | omega | (simp; done) | (simp; omega)); have kf7_0 := fun o => hf7 (w6.heap.size) o (by first | omega | (simp; done) | (simp; omega)); have kl7_0 : w6.heap.size < w7.heap.size := (by omega); clear hc7 hf7
  go_wp2_with fail
  refine (num_is e3 (by omega) _).mono ?_; rintro e w8 ⟨rfl, d8⟩; obtain ⟨hc8, hf8, hz8⟩ := bcell d8; (try simp at hz8); have kc8_0 := fun o => hc8 (w6.heap.size) o (by first | omega | (simp; done) | (simp; omega)); have kf8_0 := fun o => hf8 (w6.heap.size) o (by first | omega | (simp; done) | (simp; omega)); have kl8_0 : w6.heap.size < w8.heap.size := (by omega); have kc8_1 := fun o => hc8 (w7.heap.size) o (by first | omega | (simp; done) | (simp; omega)); have kf8_1 := fun o => hf8 (w7.heap.size) o (by first | omega | (simp; done) | (simp; omega)); have kl8_1 : w7.heap.size < w8.heap.size := (by omega); clear hc8 hf8
  go_wp2_with fail
  refine (read_any _ _).mono ?_; rintro e w9 ⟨rfl, d9⟩; obtain ⟨hc9, hf9, hz9⟩ := bcell d9; (try simp at hz9); have kc9_0 := fun o => hc9 (w8.heap.size) o (by first | omega | (simp; done) | (simp; omega)); have kf9_0 := fun o => hf9 (w8.heap.size) o (by first | omega | (simp; done) | (simp; omega)); have kl9_0 : w8.heap.size < w9.heap.size := (by omega); clear hc9 hf9
  go_wp2_with fail
  refine (num_is c1 (by omega) _).mono ?_; rintro e w10 ⟨rfl, d10⟩; obtain ⟨hc10, hf10, hz10⟩ := bcell d10; (try simp at hz10); have kc10_0 := fun o => hc10 (w8.heap.size) o (by first | omega | (simp; done) | (simp; omega)); have kf10_0 := fun o => hf10 (w8.heap.size) o (by first | omega | (simp; done) | (simp; omega)); have kl10_0 : w8.heap.size < w10.heap.size := (by omega); clear hc10 hf10
  go_wp2_with fail
  refine (txr_is c2 (by omega) _).mono ?_; rintro e w11 ⟨rfl, d11⟩; obtain ⟨hc11, hf11, hz11⟩ := bcell d11; (try simp at hz11); have kc11_0 := fun o => hc11 (w8.heap.size) o (by first | omega | (simp; done) | (simp; omega)); have kf11_0 := fun o => hf11 (w8.heap.size) o (by first | omega | (simp; done) | (simp; omega)); have kl11_0 : w8.heap.size < w11.heap.size := (by omega); have kc11_1 := fun o => hc11 (w10.heap.size) o (by first | omega | (simp; done) | (simp; omega)); have kf11_1 := fun o => hf11 (w10.heap.size) o (by first | omega | (simp; done) | (simp; omega)); have kl11_1 : w10.heap.size < w11.heap.size := (by omega); clear hc11 hf11
  go_wp2_with fail
  refine (num_is c3 (by omega) _).mono ?_; rintro e w12 ⟨rfl, d12⟩; obtain ⟨hc12, hf12, hz12⟩ := bcell d12; (try simp at hz12); have kc12_0 := fun o => hc12 (w8.heap.size) o (by first | omega | (simp; done) | (simp; omega)); have kf12_0 := fun o => hf12 (w8.heap.size) o (by first | omega | (simp; done) | (simp; omega)); have kl12_0 : w8.heap.size < w12.heap.size := (by omega); have kc12_1 := fun o => hc12 (w11.heap.size) o (by first | omega | (simp; done) | (simp; omega)); have kf12_1 := fun o => hf12 (w11.heap.size) o (by first | omega | (simp; done) | (simp; omega)); have kl12_1 : w11.heap.size < w12.heap.size := (by omega); clear hc12 hf12
  go_wp2_with fail
  refine (num_is e4 hem _).mono ?_; rintro e w13 ⟨rfl, d13⟩; obtain ⟨hc13, hf13, hz13⟩ := bcell d13; (try simp at hz13); have kc13_0 := fun o => hc13 (w8.heap.size) o (by first | omega | (simp; done) | (simp; omega)); have kf13_0 := fun o => hf13 (w8.heap.size) o (by first | omega | (simp; done) | (simp; omega)); have kl13_0 : w8.heap.size < w13.heap.size := (by omega); have kc13_1 := fun o => hc13 (w12.heap.size) o (by first | omega | (simp; done) | (simp; omega)); have kf13_1 := fun o => hf13 (w12.heap.size) o (by first | omega | (simp; done) | (simp; omega)); have kl13_1 : w12.heap.size < w13.heap.size := (by omega); clear hc13 hf13
  go_wp2_with fail
  refine (done_is hdn _).mono ?_; rintro e w14 ⟨rfl, d14⟩; obtain ⟨hc14, hf14, hz14⟩ := bcell d14; (try simp at hz14); have kc14_0 := fun o => hc14 (w8.heap.size) o (by first | omega | (simp; done) | (simp; omega)); have kf14_0 := fun o => hf14 (w8.heap.size) o (by first | omega | (simp; done) | (simp; omega)); have kl14_0 : w8.heap.size < w14.heap.size := (by omega); have kc14_1 := fun o => hc14 (w12.heap.size) o (by first | omega | (simp; done) | (simp; omega)); have kf14_1 := fun o => hf14 (w12.heap.size) o (by first | omega | (simp; done) | (simp; omega)); have kl14_1 : w12.heap.size < w14.heap.size := (by omega); have kc14_2 := fun o => hc14 (w13.heap.size) o (by first | omega | (simp; done) | (simp; omega)); have kf14_2 := fun o => hf14 (w13.heap.size) o (by first | omega | (simp; done) | (simp; omega)); have kl14_2 : w13.heap.size < w14.heap.size := (by omega); clear hc14 hf14
  go_wp2_with fail
  refine (done_bad _ _).mono ?_; rintro e w15 ⟨rfl, d15⟩
  go_wp2_with fail
  go_ret
  refine ⟨rfl, ?_⟩
  (have zz0 := Below.size d15; (try simp at zz0); have zz1 := Below.size d14; (try simp at zz1); have zz2 := Below.size d13; (try simp at zz2); have zz3 := Below.size d12; (try simp at zz3); have zz4 := Below.size d11; (try simp at zz4); have zz5 := Below.size d10; (try simp at zz5); have zz6 := Below.size d9; (try simp at zz6); have zz7 := Below.size d8; (try simp at zz7); have zz8 := Below.size d7; (try simp at zz8); have zz9 := Below.size d6; (try simp at zz9); have zz10 := Below.size d5; (try simp at zz10); have zz11 := Below.size d4; (try simp at zz11); have zz12 := Below.size d3; (try simp at zz12); have zz13 := Below.size d2; (try simp at zz13); have zz14 := Below.size b1; (try simp at zz14); repeat (first | exact Below.refl _ _ | refine Below.drew ?_ | refine below_drewN ?_ _ | refine Below.alloc ?_ (by first | omega | (simp; done) | (simp; omega)) _ | refine Below.setCell ?_ (by first | omega | (simp; done) | (simp; omega)) _ | (with_reducible refine Below.trans ?_ (Below.mono d15 (by first | omega | (simp; done) | (simp; omega)))) | (with_reducible refine Below.trans ?_ (Below.mono d14 (by first | omega | (simp; done) | (simp; omega)))) | (with_reducible refine Below.trans ?_ (Below.mono d13 (by first | omega | (simp; done) | (simp; omega)))) | (with_reducible refine Below.trans ?_ (Below.mono d12 (by first | omega | (simp; done) | (simp; omega)))) | (with_reducible refine Below.trans ?_ (Below.mono d11 (by first | omega | (simp; done) | (simp; omega)))) | (with_reducible refine Below.trans ?_ (Below.mono d10 (by first | omega | (simp; done) | (simp; omega)))) | (with_reducible refine Below.trans ?_ (Below.mono d9 (by first | omega | (simp; done) | (simp; omega)))) | (with_reducible refine Below.trans ?_ (Below.mono d8 (by first | omega | (simp; done) | (simp; omega)))) | (with_reducible refine Below.trans ?_ (Below.mono d7 (by first | omega | (simp; done) | (simp; omega)))) | (with_reducible refine Below.trans ?_ (Below.mono d6 (by first | omega | (simp; done) | (simp; omega)))) | (with_reducible refine Below.trans ?_ (Below.mono d5 (by first | omega | (simp; done) | (simp; omega)))) | (with_reducible refine Below.trans ?_ (Below.mono d4 (by first | omega | (simp; done) | (simp; omega)))) | (with_reducible refine Below.trans ?_ (Below.mono d3 (by first | omega | (simp; done) | (simp; omega)))) | (with_reducible refine Below.trans ?_ (Below.mono d2 (by first | omega | (simp; done) | (simp; omega)))) | (with_reducible refine Below.trans ?_ (Below.mono b1 (by first | omega | (simp; done) | (simp; omega))))))

set_option maxRecDepth 100000 in
set_option maxHeartbeats 4000000 in
theorem packBack_hi_gt (a b : Nat) (n : Int) (m : Nat) (s rest S : ByteArray) (cut : Nat) (ha : a < 18446744073709551616) (hb : b < 18446744073709551616) (hm : n % 8 = (m : Int)) (hm7 : m = 7) (hn : 0 ≤ n ∧ n ≤ 255)
    (hs : s.size ≤ 140737488355327) (hrest : rest.size ≤ 140737488355327) (hcut : cut ≤ 65535) (h200 : 200 < s.size) (hS : s.extract 0 200 = S) (w : World) :
    Calls Try.prog 4 #[.int .u64 a, .int .u64 b, .int .u8 n, .string s, .string rest, .int .u16 cut] w fun e w' => e = .returned (.bool true) ∧ Below w.heap.size w w' := by
  obtain ⟨n0, n1⟩ := hn
  have hL2 : 200 ≤ 200 := Nat.le_refl _
  have hLs : 200 ≤ s.size := by omega
  have hA : a < 256 ^ (1 + m) := by subst hm7; simpa using ha
  have hm8 : ¬ (1 : Int) + m < 8 := by omega
  have hSz : S.size = 200 := by rw [← hS]; exact extract_size s _ hLs
  have hb8 : b < 256 ^ 8 := by simpa using hb
  obtain ⟨T, hT0⟩ : ∃ T, T = (1 + m) + (1 + 200) + 8 := ⟨_, rfl⟩
  have hT1 : 0 < T := by omega
  have hT2 : T ≤ 400 := by omega
  obtain ⟨R1, R2, e1, e2, e3, z1, z2, v1, s1, b1, v2, s2, b2, c1, c2, c3, z3, z4⟩ := back_facts (a) b m (cut % T) S rest (by omega) (hA) hb8 (by omega) (by rw [hSz, ← hT0]; exact Nat.mod_lt _ hT1)
  obtain ⟨X, hX⟩ : ∃ X, numB (a) (1 + m) ++ txB S ++ numB b 8 = X := ⟨_, rfl⟩
  have hXz : X.size = T := by
    have h1 := numB_size (a) (1 + m)
    have h2 := txB_size S
    have h3 := numB_size b 8
    rw [← hX]
    simp
    omega
  have hXe : X.toList.isEmpty = false := by
    have h1 := ba_len X
    rw [ByteArray.toList_eq]
    cases hd : X.data.toList with
    | nil => rw [hd] at h1; simp at h1; omega
    | cons x l => rfl
  rw [hX] at e1 c1
  have ns := numB_size (a) (1 + m)
  have nt := txB_size S
  have nb := numB_size b 8
  have hdn : Hid (dn rest false = rest.toList.isEmpty) := by
    show _ = _
    unfold dn
    rw [Bool.eq_iff_iff]
    simp
  have hem : (⟨#[]⟩ : ByteArray).size ≤ 9223372036854775807 := by decide
  have e4 : Hid (rdn ⟨#[]⟩ true 1 = (0, ⟨#[]⟩, true)) := rdn_bad _ _
  have HT := Lib.hid hT0
  have hTi : (0 : Int) < T := by omega
  have hTn : ¬ (T : Int) = 0 := by omega
  have hq1 : cut % T ≤ T := Nat.le_of_lt (Nat.mod_lt _ hT1)
  have hq0 : (cut % T) ≤ X.size := by rw [hXz]; exact hq1
  have hcs : (X.extract 0 (cut % T)).size = cut % T := extract_size _ _ hq0
  have hq2 : (cut : Int) % T ≤ T := by omega
  have hq3 : (0 : Int) ≤ (cut : Int) % T := by omega
  clear hT0 hq0 hA
  have HM := Lib.hid hm7
  clear hm7
  have hm7 : m < 8 := by have := HM.out; omega
  clear hLs hL2
  go_enter Try.func4, Try.ntmps4
  go_wp2_with fail
  refine (examples_yes _).mono ?_; rintro e w1 ⟨rfl, b1⟩
  go_wp2_with fail
  refine (txt_yes _ (by omega) _).mono ?_; rintro e w2 ⟨rfl, d2⟩
  go_wp2_with fail
  refine (num_at _ _ (a) (1 + m) (by simp) (by simp) (by omega) (by omega) (by omega) _).mono ?_; rintro e w3 ⟨rfl, d3⟩
  go_wp2_with fail
  refine (num_at _ _ b 8 (by rfl) (by rfl) (by omega) (by omega) (by omega) _).mono ?_; rintro e w4 ⟨rfl, d4⟩
  go_wp2_with fail
  refine (read_any _ _).mono ?_; rintro e w5 ⟨rfl, d5⟩
  go_wp2_with fail
  refine (num_is e1 (by simp; omega) _).mono ?_; rintro e w6 ⟨rfl, d6⟩
  go_wp2_with fail
  refine (txr_is e2 (by omega) _).mono ?_; rintro e w7 ⟨rfl, d7⟩; obtain ⟨hc7, hf7, hz7⟩ := bcell d7; (try simp at hz7); have kc7_0 := fun o => hc7 (w6.heap.size) o (by first | omega | (simp; done) | (simp; omega)); have kf7_0 := fun o => hf7 (w6.heap.size) o (by first | omega | (simp; done) | (simp; omega)); have kl7_0 : w6.heap.size < w7.heap.size := (by omega); clear hc7 hf7
  go_wp2_with fail
  refine (num_is e3 (by omega) _).mono ?_; rintro e w8 ⟨rfl, d8⟩; obtain ⟨hc8, hf8, hz8⟩ := bcell d8; (try simp at hz8); have kc8_0 := fun o => hc8 (w6.heap.size) o (by first | omega | (simp; done) | (simp; omega)); have kf8_0 := fun o => hf8 (w6.heap.size) o (by first | omega | (simp; done) | (simp; omega)); have kl8_0 : w6.heap.size < w8.heap.size := (by omega); have kc8_1 := fun o => hc8 (w7.heap.size) o (by first | omega | (simp; done) | (simp; omega)); have kf8_1 := fun o => hf8 (w7.heap.size) o (by first | omega | (simp; done) | (simp; omega)); have kl8_1 : w7.heap.size < w8.heap.size := (by omega); clear hc8 hf8
  go_wp2_with fail
  refine (read_any _ _).mono ?_; rintro e w9 ⟨rfl, d9⟩; obtain ⟨hc9, hf9, hz9⟩ := bcell d9; (try simp at hz9); have kc9_0 := fun o => hc9 (w8.heap.size) o (by first | omega | (simp; done) | (simp; omega)); have kf9_0 := fun o => hf9 (w8.heap.size) o (by first | omega | (simp; done) | (simp; omega)); have kl9_0 : w8.heap.size < w9.heap.size := (by omega); clear hc9 hf9
  go_wp2_with fail
  refine (num_is c1 (by omega) _).mono ?_; rintro e w10 ⟨rfl, d10⟩; obtain ⟨hc10, hf10, hz10⟩ := bcell d10; (try simp at hz10); have kc10_0 := fun o => hc10 (w8.heap.size) o (by first | omega | (simp; done) | (simp; omega)); have kf10_0 := fun o => hf10 (w8.heap.size) o (by first | omega | (simp; done) | (simp; omega)); have kl10_0 : w8.heap.size < w10.heap.size := (by omega); clear hc10 hf10
  go_wp2_with fail
  refine (txr_is c2 (by omega) _).mono ?_; rintro e w11 ⟨rfl, d11⟩; obtain ⟨hc11, hf11, hz11⟩ := bcell d11; (try simp at hz11); have kc11_0 := fun o => hc11 (w8.heap.size) o (by first | omega | (simp; done) | (simp; omega)); have kf11_0 := fun o => hf11 (w8.heap.size) o (by first | omega | (simp; done) | (simp; omega)); have kl11_0 : w8.heap.size < w11.heap.size := (by omega); have kc11_1 := fun o => hc11 (w10.heap.size) o (by first | omega | (simp; done) | (simp; omega)); have kf11_1 := fun o => hf11 (w10.heap.size) o (by first | omega | (simp; done) | (simp; omega)); have kl11_1 : w10.heap.size < w11.heap.size := (by omega); clear hc11 hf11
  go_wp2_with fail
  refine (num_is c3 (by omega) _).mono ?_; rintro e w12 ⟨rfl, d12⟩; obtain ⟨hc12, hf12, hz12⟩ := bcell d12; (try simp at hz12); have kc12_0 := fun o => hc12 (w8.heap.size) o (by first | omega | (simp; done) | (simp; omega)); have kf12_0 := fun o => hf12 (w8.heap.size) o (by first | omega | (simp; done) | (simp; omega)); have kl12_0 : w8.heap.size < w12.heap.size := (by omega); have kc12_1 := fun o => hc12 (w11.heap.size) o (by first | omega | (simp; done) | (simp; omega)); have kf12_1 := fun o => hf12 (w11.heap.size) o (by first | omega | (simp; done) | (simp; omega)); have kl12_1 : w11.heap.size < w12.heap.size := (by omega); clear hc12 hf12
  go_wp2_with fail
  refine (num_is e4 hem _).mono ?_; rintro e w13 ⟨rfl, d13⟩; obtain ⟨hc13, hf13, hz13⟩ := bcell d13; (try simp at hz13); have kc13_0 := fun o => hc13 (w8.heap.size) o (by first | omega | (simp; done) | (simp; omega)); have kf13_0 := fun o => hf13 (w8.heap.size) o (by first | omega | (simp; done) | (simp; omega)); have kl13_0 : w8.heap.size < w13.heap.size := (by omega); have kc13_1 := fun o => hc13 (w12.heap.size) o (by first | omega | (simp; done) | (simp; omega)); have kf13_1 := fun o => hf13 (w12.heap.size) o (by first | omega | (simp; done) | (simp; omega)); have kl13_1 : w12.heap.size < w13.heap.size := (by omega); clear hc13 hf13
  go_wp2_with fail
  refine (done_is hdn _).mono ?_; rintro e w14 ⟨rfl, d14⟩; obtain ⟨hc14, hf14, hz14⟩ := bcell d14; (try simp at hz14); have kc14_0 := fun o => hc14 (w8.heap.size) o (by first | omega | (simp; done) | (simp; omega)); have kf14_0 := fun o => hf14 (w8.heap.size) o (by first | omega | (simp; done) | (simp; omega)); have kl14_0 : w8.heap.size < w14.heap.size := (by omega); have kc14_1 := fun o => hc14 (w12.heap.size) o (by first | omega | (simp; done) | (simp; omega)); have kf14_1 := fun o => hf14 (w12.heap.size) o (by first | omega | (simp; done) | (simp; omega)); have kl14_1 : w12.heap.size < w14.heap.size := (by omega); have kc14_2 := fun o => hc14 (w13.heap.size) o (by first | omega | (simp; done) | (simp; omega)); have kf14_2 := fun o => hf14 (w13.heap.size) o (by first | omega | (simp; done) | (simp; omega)); have kl14_2 : w13.heap.size < w14.heap.size := (by omega); clear hc14 hf14
  go_wp2_with fail
  refine (done_bad _ _).mono ?_; rintro e w15 ⟨rfl, d15⟩
  go_wp2_with fail
  go_ret
  refine ⟨rfl, ?_⟩
  (have zz0 := Below.size d15; (try simp at zz0); have zz1 := Below.size d14; (try simp at zz1); have zz2 := Below.size d13; (try simp at zz2); have zz3 := Below.size d12; (try simp at zz3); have zz4 := Below.size d11; (try simp at zz4); have zz5 := Below.size d10; (try simp at zz5); have zz6 := Below.size d9; (try simp at zz6); have zz7 := Below.size d8; (try simp at zz7); have zz8 := Below.size d7; (try simp at zz8); have zz9 := Below.size d6; (try simp at zz9); have zz10 := Below.size d5; (try simp at zz10); have zz11 := Below.size d4; (try simp at zz11); have zz12 := Below.size d3; (try simp at zz12); have zz13 := Below.size d2; (try simp at zz13); have zz14 := Below.size b1; (try simp at zz14); repeat (first | exact Below.refl _ _ | refine Below.drew ?_ | refine below_drewN ?_ _ | refine Below.alloc ?_ (by first | omega | (simp; done) | (simp; omega)) _ | refine Below.setCell ?_ (by first | omega | (simp; done) | (simp; omega)) _ | (with_reducible refine Below.trans ?_ (Below.mono d15 (by first | omega | (simp; done) | (simp; omega)))) | (with_reducible refine Below.trans ?_ (Below.mono d14 (by first | omega | (simp; done) | (simp; omega)))) | (with_reducible refine Below.trans ?_ (Below.mono d13 (by first | omega | (simp; done) | (simp; omega)))) | (with_reducible refine Below.trans ?_ (Below.mono d12 (by first | omega | (simp; done) | (simp; omega)))) | (with_reducible refine Below.trans ?_ (Below.mono d11 (by first | omega | (simp; done) | (simp; omega)))) | (with_reducible refine Below.trans ?_ (Below.mono d10 (by first | omega | (simp; done) | (simp; omega)))) | (with_reducible refine Below.trans ?_ (Below.mono d9 (by first | omega | (simp; done) | (simp; omega)))) | (with_reducible refine Below.trans ?_ (Below.mono d8 (by first | omega | (simp; done) | (simp; omega)))) | (with_reducible refine Below.trans ?_ (Below.mono d7 (by first | omega | (simp; done) | (simp; omega)))) | (with_reducible refine Below.trans ?_ (Below.mono d6 (by first | omega | (simp; done) | (simp; omega)))) | (with_reducible refine Below.trans ?_ (Below.mono d5 (by first | omega | (simp; done) | (simp; omega)))) | (with_reducible refine Below.trans ?_ (Below.mono d4 (by first | omega | (simp; done) | (simp; omega)))) | (with_reducible refine Below.trans ?_ (Below.mono d3 (by first | omega | (simp; done) | (simp; omega)))) | (with_reducible refine Below.trans ?_ (Below.mono d2 (by first | omega | (simp; done) | (simp; omega)))) | (with_reducible refine Below.trans ?_ (Below.mono b1 (by first | omega | (simp; done) | (simp; omega))))))

theorem packBack_run (a b n : Int) (s rest : ByteArray) (cut : Int) (w : World) (wa : (Lit.int .u64 a).wf = true) (wb : (Lit.int .u64 b).wf = true) (wn : (Lit.int .u8 n).wf = true) (ws : s.size ≤ 140737488355327) (wr : rest.size ≤ 140737488355327) (wc : (Lit.int .u16 cut).wf = true) :
    Calls Try.prog 4 #[.int .u64 a, .int .u64 b, .int .u8 n, .string s, .string rest, .int .u16 cut] w fun e w' => e = .returned (.bool true) ∧ Below w.heap.size w w' := by
  have ha := bounds_u64 wa
  have hb := bounds_u64 wb
  have hn := bounds_u8 wn
  have hc := bounds_u16 wc
  obtain ⟨A, rfl⟩ := Int.eq_ofNat_of_zero_le ha.1
  obtain ⟨B, rfl⟩ := Int.eq_ofNat_of_zero_le hb.1
  obtain ⟨C, rfl⟩ := Int.eq_ofNat_of_zero_le hc.1
  have hm : n % 8 = (((n % 8).toNat : Nat) : Int) := by omega
  by_cases h2 : s.size ≤ 200 <;> by_cases h : (n % 8).toNat < 7
  · exact packBack_lo_le A B n _ s rest _ C (by omega) (by omega) hm h hn ws wr (by omega) h2 rfl w
  · exact packBack_hi_le A B n _ s rest _ C (by omega) (by omega) hm (by omega) hn ws wr (by omega) h2 rfl w
  · exact packBack_lo_gt A B n _ s rest _ C (by omega) (by omega) hm h hn ws wr (by omega) (by omega) rfl w
  · exact packBack_hi_gt A B n _ s rest _ C (by omega) (by omega) hm (by omega) hn ws wr (by omega) (by omega) rfl w

theorem packBack_own : ownKnob Try.prog.godebug = none := by kernel_rfl
theorem packBack_laid : laidOutB Try.prog = true := by kernel_rfl
set_option maxRecDepth 100000 in
theorem packBack_lifted (os : Os) (started : os.Started) (H : Type) (enc : TypeId × Value → H) :
    ReturnsInHanded {} Try.checked os 4 .any (Rows.packBackSpec.pre6 enc Try.prog Try.f4 Rows.packBackRow.domain false) (Rows.packBackSpec.post enc Try.prog Try.f4 false true false false) := by
  refine returnsInHanded_of_change_sized (C := Try.checked) packBack_own started (by kernel_rfl) Try.func4
    (ChangeSpec.witness6 (enc := enc) (C := Try.checked) false ⟨#[], #[.int .u64 0, .int .u64 0, .int .u8 0, .string ⟨#[]⟩, .string ⟨#[]⟩, .int .u16 0], []⟩ 8 (by kernel_rfl) (by kernel_rfl) (by kernel_rfl) (by kernel_rfl)) ?_
  intro W base args ds gs before hval0 hW hcnd hsz _
  have hval : ∀ (j : Nat) t v, Try.f4.params[j]? = some t → args[j]? = some v → Value.okWide Try.prog W .any base t v := hval0
  have hW' := hW
  obtain ⟨p, q, hA0, hV, rfl, hfz, hnd⟩ := hW
  have hA : DataW.TrodAll enc Try.prog W 0 (fun _ => true) true Try.f4.params.toList args.toList ds p := hA0
  rw [Try.params4] at hA hval
  obtain ⟨v0, vs0, d0, ds0, p0, q0, hargs, rfl, rfl, h0, r0⟩ := trodAll_cons hA
  obtain ⟨v1, vs1, d1, ds1, p1, q1, rfl, rfl, rfl, h1, r1⟩ := trodAll_cons r0
  obtain ⟨v2, vs2, d2, ds2, p2, q2, rfl, rfl, rfl, h2, r2⟩ := trodAll_cons r1
  obtain ⟨v3, vs3, d3, ds3, p3, q3, rfl, rfl, rfl, h3, r3⟩ := trodAll_cons r2
  obtain ⟨v4, vs4, d4, ds4, p4, q4, rfl, rfl, rfl, h4, r4⟩ := trodAll_cons r3
  obtain ⟨v5, vs5, d5, ds5, p5, q5, rfl, rfl, rfl, h5, r5⟩ := trodAll_cons r4
  obtain ⟨rfl, rfl, rfl⟩ := trodAll_nil r5
  obtain rfl : args = #[v0, v1, v2, v3, v4, v5] := by cases args; simp_all
  obtain ⟨rfl, rfl⟩ := trodVars_none hV
  obtain ⟨a0, rfl, rfl, rfl, w0⟩ := open_int Try.underlying25 (hval 0 25 v0 rfl rfl) h0
  obtain ⟨a1, rfl, rfl, rfl, w1⟩ := open_int Try.underlying25 (hval 1 25 v1 rfl rfl) h1
  obtain ⟨a2, rfl, rfl, rfl, w2⟩ := open_int Try.underlying5 (hval 2 5 v2 rfl rfl) h2
  obtain ⟨a3, rfl, rfl, rfl, m3⟩ := open_string Try.underlying9 (hval 3 9 v3 rfl rfl) h3
  obtain ⟨a4, rfl, rfl, rfl, m4⟩ := open_string Try.underlying9 (hval 4 9 v4 rfl rfl) h4
  obtain ⟨a5, rfl, rfl, rfl, w5⟩ := open_int Try.underlying26 (hval 5 26 v5 rfl rfl) h5
  have w3 : a3.size ≤ 140737488355327 := by
    have h := sized_string (j := 3) (t := 9) (bytes := a3.data.toList) hsz rfl rfl
    have h2 := reachBytes_lt
    have h3 := Lib.size_eq a3
    omega
  have w4 : a4.size ≤ 140737488355327 := by
    have h := sized_string (j := 4) (t := 9) (bytes := a4.data.toList) hsz rfl rfl
    have h2 := reachBytes_lt
    have h3 := Lib.size_eq a4
    omega
  clear hA0 hval0
  refine (packBack_run a0 a1 a2 a3 a4 a5 W w0 w1 w2 w3 w4 w5).mono fun e W' ⟨he, bel⟩ => ?_
  subst he
  exact ⟨_, rfl, _, _, _, [], _, [], hW', trodAll_mk1 (shut_bool Try.underlying4 _), (trodAll_cons_mk (shut_int Try.underlying25 w0) (trodAll_cons_mk (shut_int Try.underlying25 w1) (trodAll_cons_mk (shut_int Try.underlying5 w2) (trodAll_cons_mk (shut_string Try.underlying9 m3) (trodAll_cons_mk (shut_string Try.underlying9 m4) (trodAll_cons_mk (shut_int Try.underlying26 w5) trodAll_mk0)))))), rfl, bel.frame _, fun h => by cases h⟩
theorem packBack_over : Rows.packBackRow.holds Try.pinned (OpenSpec.ofChange Rows.packBackSpec) :=
  OpenClaim.holds_of_wide 4 Try.f4 rfl rfl rfl rfl rfl rfl rfl ⟨rfl, rfl, rfl, rfl, rfl⟩ rfl rfl rfl rfl rfl (by kernel_rfl) Try.func4 (by kernel_rfl)
    (of_decide_eq_true (by kernel_rfl)) (by unfold Func.isWrapper; first | (rw [if_pos (by decide +kernel)]; kernel_rfl) | (rw [if_neg (by decide +kernel)]; exact ⟨rfl, rfl⟩))
    (fun os started H enc _ => packBack_lifted os started H enc)
theorem packBack_holds : Rows.PackBackSaid := packBack_over
#print axioms packBack_holds
end Go.Proofs.Ytopidocnohoilaa
