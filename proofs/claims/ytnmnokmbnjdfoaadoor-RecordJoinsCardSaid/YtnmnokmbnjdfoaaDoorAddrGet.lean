/- Contracts of Get (both programs). -/
import Derived.Test.YtnmnokmbnjdfoaaDoorAddrSmall
namespace Go.Proofs.YtnmnokmbnjdfoaaDoor
open Go.RowKit
set_option linter.unusedVariables false
set_option linter.unusedSimpArgs false

/-- the address that bytes are -/
def getI (s : ByteArray) : Option (Nat × Nat) := if s.size = 6 then some (valB s 4, valB (s.extract 4 s.size) 2) else none
theorem get_facts (s : ByteArray) : ∃ v1 s1 b1 v2 s2 b2, Hid (rdn s false 4 = (v1, s1, b1)) ∧ Hid (rdn s1 b1 2 = (v2, s2, b2)) ∧ s1.size ≤ s.size ∧ s2.size ≤ s.size ∧
    ((getI s = some (v1, v2) ∧ b2 = false ∧ s2.size = 0 ∧ v1 < 4294967296 ∧ v2 < 65536) ∨ (getI s = none ∧ (b2 = true ∨ s2.size ≠ 0))) := by
  obtain ⟨v1, s1, b1, h1⟩ : ∃ v1 s1 b1, rdn s false 4 = (v1, s1, b1) := ⟨_, _, _, rfl⟩
  obtain ⟨v2, s2, b2, h2⟩ : ∃ v2 s2 b2, rdn s1 b1 2 = (v2, s2, b2) := ⟨_, _, _, rfl⟩
  refine ⟨v1, s1, b1, v2, s2, b2, h1, h2, (rdn_size h1).2, Nat.le_trans (rdn_size h2).2 (rdn_size h1).2, ?_⟩
  unfold getI
  by_cases ho : okN s false 4
  · rw [rdn_yes ho] at h1
    injection h1 with e1 h1
    injection h1 with e2 e3
    have hs4 : 4 ≤ s.size := by obtain ⟨_, _, _, h⟩ := ho; omega
    have z1 : s1.size = s.size - 4 := by
      rw [← e2]
      have := congrArg List.length (Lib.extract_data s (4 : Int).toNat s.size)
      rw [ba_len, List.length_take, List.length_drop, ba_len] at this
      rw [this]
      have e4 : (4 : Int).toNat = 4 := rfl
      omega
    by_cases ho2 : okN s1 b1 2
    · rw [rdn_yes ho2] at h2
      injection h2 with f1 h2
      injection h2 with f2 f3
      have hs2 : 2 ≤ s1.size := by obtain ⟨_, _, _, h⟩ := ho2; omega
      have z2 : s2.size = s1.size - 2 := by
        rw [← f2]
        have := congrArg List.length (Lib.extract_data s1 (2 : Int).toNat s1.size)
        rw [ba_len, List.length_take, List.length_drop, ba_len] at this
        rw [this]
        have e4 : (2 : Int).toNat = 2 := rfl
        omega
      by_cases h6 : s.size = 6
      · left
        rw [if_pos h6]
        have l1 := valB_lt s (4 : Int).toNat
        have l2 := valB_lt s1 (2 : Int).toNat
        rw [e1] at l1
        rw [f1] at l2
        have e4 : (4 : Int).toNat = 4 := rfl
        have e5 : (2 : Int).toNat = 2 := rfl
        rw [e4] at l1 e1 e2
        rw [e5] at l2 f1
        refine ⟨by rw [e2, e1, f1], f3.symm, by omega, by simpa using l1, by simpa using l2⟩
      · right
        rw [if_neg h6]
        exact ⟨rfl, .inr (by omega)⟩
    · rw [rdn_no ho2] at h2
      injection h2 with f1 h2
      injection h2 with f2 f3
      right
      refine ⟨?_, .inl f3.symm⟩
      rw [if_neg]
      intro h6
      apply ho2
      refine ⟨e3.symm, by omega, by omega, by omega⟩
  · rw [rdn_no ho] at h1
    injection h1 with e1 h1
    injection h1 with e2 e3
    subst e3
    rw [rdn_bad] at h2
    injection h2 with f1 h2
    injection h2 with f2 f3
    right
    refine ⟨?_, .inl f3.symm⟩
    rw [if_neg]
    intro h6
    exact ho ⟨rfl, by omega, by omega, by omega⟩

theorem get_yes {s : ByteArray} {ip port : Nat} (h : getI s = some (ip, port)) (hs : s.size ≤ 9223372036854775807) (w : World) :
    Calls Tryd.prog 43 #[.string s] w fun e w' => e = .returned (.tuple #[.agg #[.int .u32 ip, .int .u16 port], .bool true]) ∧ Below w.heap.size w w' := by
  obtain ⟨v1, s1, b1, v2, s2, b2, h1, h2, z1, z2, hh⟩ := get_facts s
  rw [h] at hh
  rcases hh with ⟨e, rfl, e2, l1, l2⟩ | ⟨e, _⟩
  · injection e with e
    injection e with e3 e4
    subst e3 e4
    clear h
    have w1' := IntWalk.u32_in (ip : Int) ⟨by omega, by omega⟩
    have w2' := IntWalk.u16_in (port : Int) ⟨by omega, by omega⟩
    have he : s2.toList = [] := by
      rw [ByteArray.toList_eq]
      exact List.length_eq_zero_iff.1 (by rw [ba_len]; exact e2)
    go_enter Tryd.func43, Tryd.ntmps43
    go_wp2_with fail
    refine (read_any _ _).mono ?_; rintro e w2 ⟨rfl, d2⟩; obtain ⟨hc2, hf2, hz2⟩ := bcell d2; (try simp at hz2); have kc2_0 := fun o => hc2 (w.heap.size) o (by first | omega | (simp; done) | (simp; omega)); have kf2_0 := fun o => hf2 (w.heap.size) o (by first | omega | (simp; done) | (simp; omega)); have kl2_0 : w.heap.size < w2.heap.size := (by omega); clear hc2 hf2
    go_wp2_with fail
    refine (num_is h1 (by omega) _).mono ?_; rintro e w3 ⟨rfl, d3⟩; obtain ⟨hc3, hf3, hz3⟩ := bcell d3; (try simp at hz3); have kc3_0 := fun o => hc3 (w.heap.size) o (by first | omega | (simp; done) | (simp; omega)); have kf3_0 := fun o => hf3 (w.heap.size) o (by first | omega | (simp; done) | (simp; omega)); have kl3_0 : w.heap.size < w3.heap.size := (by omega); clear hc3 hf3
    go_wp2_with fail
    refine (num_is h2 (by omega) _).mono ?_; rintro e w4 ⟨rfl, d4⟩; obtain ⟨hc4, hf4, hz4⟩ := bcell d4; (try simp at hz4); have kc4_0 := fun o => hc4 (w.heap.size) o (by first | omega | (simp; done) | (simp; omega)); have kf4_0 := fun o => hf4 (w.heap.size) o (by first | omega | (simp; done) | (simp; omega)); have kl4_0 : w.heap.size < w4.heap.size := (by omega); clear hc4 hf4
    go_wp2_with fail
    refine (done_emp _ he _).mono ?_; rintro e w5 ⟨rfl, d5⟩; obtain ⟨hc5, hf5, hz5⟩ := bcell d5; (try simp at hz5); have kc5_0 := fun o => hc5 (w.heap.size) o (by first | omega | (simp; done) | (simp; omega)); have kf5_0 := fun o => hf5 (w.heap.size) o (by first | omega | (simp; done) | (simp; omega)); have kl5_0 : w.heap.size < w5.heap.size := (by omega); clear hc5 hf5
    go_wp2
    refine bodyPost_ret (v := .tuple #[.agg #[.int .u32 ip, .int .u16 port], .bool true]) (by simp [results, Tryd.results43, go_sem, *]) rfl ⟨rfl, ?_⟩
    (have zz0 := Below.size d5; (try simp at zz0); have zz1 := Below.size d4; (try simp at zz1); have zz2 := Below.size d3; (try simp at zz2); have zz3 := Below.size d2; (try simp at zz3); repeat (first | with_reducible exact Below.refl _ _ | with_reducible refine Below.drew ?_ | with_reducible refine below_drewN ?_ _ | with_reducible refine Below.alloc ?_ (by first | omega | (simp; done) | (simp; omega)) _ | with_reducible refine Below.setCell ?_ (by first | omega | (simp; done) | (simp; omega)) _ | (with_reducible refine Below.trans ?_ (Below.mono d5 (by first | omega | (simp; done) | (simp; omega)))) | (with_reducible refine Below.trans ?_ (Below.mono d4 (by first | omega | (simp; done) | (simp; omega)))) | (with_reducible refine Below.trans ?_ (Below.mono d3 (by first | omega | (simp; done) | (simp; omega)))) | (with_reducible refine Below.trans ?_ (Below.mono d2 (by first | omega | (simp; done) | (simp; omega))))))
  · cases e
theorem get_no {s : ByteArray} (h : getI s = none) (hs : s.size ≤ 9223372036854775807) (w : World) :
    Calls Tryd.prog 43 #[.string s] w fun e w' => e = .returned (.tuple #[.agg #[.int .u32 0, .int .u16 0], .bool false]) ∧ Below w.heap.size w w' := by
  obtain ⟨v1, s1, b1, v2, s2, b2, h1, h2, z1, z2, hh⟩ := get_facts s
  rw [h] at hh
  rcases hh with ⟨e, _⟩ | ⟨_, e2⟩
  · cases e
  · have hd : Hid (dn s2 b2 = false) := by
      show _ = _
      unfold dn
      rcases e2 with rfl | e2
      · rfl
      · have : ¬ s2.toList = [] := by
          intro h0
          rw [ByteArray.toList_eq] at h0
          exact e2 (by rw [← ba_len, h0]; rfl)
        simp [this]
    clear e2 h
    go_enter Tryd.func43, Tryd.ntmps43
    go_wp2_with fail
    refine (read_any _ _).mono ?_; rintro e w2 ⟨rfl, d2⟩; obtain ⟨hc2, hf2, hz2⟩ := bcell d2; (try simp at hz2); have kc2_0 := fun o => hc2 (w.heap.size) o (by first | omega | (simp; done) | (simp; omega)); have kf2_0 := fun o => hf2 (w.heap.size) o (by first | omega | (simp; done) | (simp; omega)); have kl2_0 : w.heap.size < w2.heap.size := (by omega); clear hc2 hf2
    go_wp2_with fail
    refine (num_is h1 (by omega) _).mono ?_; rintro e w3 ⟨rfl, d3⟩; obtain ⟨hc3, hf3, hz3⟩ := bcell d3; (try simp at hz3); have kc3_0 := fun o => hc3 (w.heap.size) o (by first | omega | (simp; done) | (simp; omega)); have kf3_0 := fun o => hf3 (w.heap.size) o (by first | omega | (simp; done) | (simp; omega)); have kl3_0 : w.heap.size < w3.heap.size := (by omega); clear hc3 hf3
    go_wp2_with fail
    refine (num_is h2 (by omega) _).mono ?_; rintro e w4 ⟨rfl, d4⟩; obtain ⟨hc4, hf4, hz4⟩ := bcell d4; (try simp at hz4); have kc4_0 := fun o => hc4 (w.heap.size) o (by first | omega | (simp; done) | (simp; omega)); have kf4_0 := fun o => hf4 (w.heap.size) o (by first | omega | (simp; done) | (simp; omega)); have kl4_0 : w.heap.size < w4.heap.size := (by omega); clear hc4 hf4
    go_wp2_with fail
    refine (done_is hd _).mono ?_; rintro e w5 ⟨rfl, d5⟩; obtain ⟨hc5, hf5, hz5⟩ := bcell d5; (try simp at hz5); have kc5_0 := fun o => hc5 (w.heap.size) o (by first | omega | (simp; done) | (simp; omega)); have kf5_0 := fun o => hf5 (w.heap.size) o (by first | omega | (simp; done) | (simp; omega)); have kl5_0 : w.heap.size < w5.heap.size := (by omega); clear hc5 hf5
    go_wp2
    refine bodyPost_ret (v := .tuple #[.agg #[.int .u32 0, .int .u16 0], .bool false]) (by simp [results, Tryd.results43, go_sem, *]) rfl ⟨rfl, ?_⟩
    (have zz0 := Below.size d5; (try simp at zz0); have zz1 := Below.size d4; (try simp at zz1); have zz2 := Below.size d3; (try simp at zz2); have zz3 := Below.size d2; (try simp at zz3); repeat (first | with_reducible exact Below.refl _ _ | with_reducible refine Below.drew ?_ | with_reducible refine below_drewN ?_ _ | with_reducible refine Below.alloc ?_ (by first | omega | (simp; done) | (simp; omega)) _ | with_reducible refine Below.setCell ?_ (by first | omega | (simp; done) | (simp; omega)) _ | (with_reducible refine Below.trans ?_ (Below.mono d5 (by first | omega | (simp; done) | (simp; omega)))) | (with_reducible refine Below.trans ?_ (Below.mono d4 (by first | omega | (simp; done) | (simp; omega)))) | (with_reducible refine Below.trans ?_ (Below.mono d3 (by first | omega | (simp; done) | (simp; omega)))) | (with_reducible refine Below.trans ?_ (Below.mono d2 (by first | omega | (simp; done) | (simp; omega))))))

theorem rget_yes {s : ByteArray} {ip port : Nat} (h : getI s = some (ip, port)) (hs : s.size ≤ 9223372036854775807) (w : World) :
    Calls Tryd.prog 44 #[.string s] w fun e w' => e = .returned (.tuple #[.agg #[.int .u32 ip, .int .u16 port], .bool true]) ∧ Below w.heap.size w w' := by
  obtain ⟨v1, s1, b1, v2, s2, b2, h1, h2, z1, z2, hh⟩ := get_facts s
  rw [h] at hh
  rcases hh with ⟨e, rfl, e2, l1, l2⟩ | ⟨e, _⟩
  · injection e with e
    injection e with e3 e4
    subst e3 e4
    clear h
    have w1' := IntWalk.u32_in (ip : Int) ⟨by omega, by omega⟩
    have w2' := IntWalk.u16_in (port : Int) ⟨by omega, by omega⟩
    have he : s2.toList = [] := by
      rw [ByteArray.toList_eq]
      exact List.length_eq_zero_iff.1 (by rw [ba_len]; exact e2)
    go_enter Tryd.func44, Tryd.ntmps44
    go_wp2_with fail
    refine (rnum_is h1 (by omega) _).mono ?_; rintro e w3 ⟨rfl, d3⟩; obtain ⟨hc3, hf3, hz3⟩ := bcell d3; (try simp at hz3); have kc3_0 := fun o => hc3 (w.heap.size) o (by first | omega | (simp; done) | (simp; omega)); have kf3_0 := fun o => hf3 (w.heap.size) o (by first | omega | (simp; done) | (simp; omega)); have kl3_0 : w.heap.size < w3.heap.size := (by omega); clear hc3 hf3
    go_wp2_with fail
    refine (rnum_is h2 (by omega) _).mono ?_; rintro e w4 ⟨rfl, d4⟩; obtain ⟨hc4, hf4, hz4⟩ := bcell d4; (try simp at hz4); have kc4_0 := fun o => hc4 (w.heap.size) o (by first | omega | (simp; done) | (simp; omega)); have kf4_0 := fun o => hf4 (w.heap.size) o (by first | omega | (simp; done) | (simp; omega)); have kl4_0 : w.heap.size < w4.heap.size := (by omega); clear hc4 hf4
    go_wp2
    refine bodyPost_ret (v := .tuple #[.agg #[.int .u32 ip, .int .u16 port], .bool true]) (by simp [results, Tryd.results44, go_sem, *]) rfl ⟨rfl, ?_⟩
    (have zz0 := Below.size d4; (try simp at zz0); have zz1 := Below.size d3; (try simp at zz1); repeat (first | with_reducible exact Below.refl _ _ | with_reducible refine Below.drew ?_ | with_reducible refine below_drewN ?_ _ | with_reducible refine Below.alloc ?_ (by first | omega | (simp; done) | (simp; omega)) _ | with_reducible refine Below.setCell ?_ (by first | omega | (simp; done) | (simp; omega)) _ | (with_reducible refine Below.trans ?_ (Below.mono d4 (by first | omega | (simp; done) | (simp; omega)))) | (with_reducible refine Below.trans ?_ (Below.mono d3 (by first | omega | (simp; done) | (simp; omega))))))
  · cases e
theorem rget_no {s : ByteArray} (h : getI s = none) (hs : s.size ≤ 9223372036854775807) (w : World) :
    Calls Tryd.prog 44 #[.string s] w fun e w' => e = .returned (.tuple #[.agg #[.int .u32 0, .int .u16 0], .bool false]) ∧ Below w.heap.size w w' := by
  obtain ⟨v1, s1, b1, v2, s2, b2, h1, h2, z1, z2, hh⟩ := get_facts s
  rw [h] at hh
  rcases hh with ⟨e, _⟩ | ⟨_, e2⟩
  · cases e
  cases b2
  · have he : s2.toList.isEmpty = false := by
      have e3 : s2.size ≠ 0 := by simpa using e2
      have : ¬ s2.toList = [] := by
        intro h0
        rw [ByteArray.toList_eq] at h0
        exact e3 (by rw [← ba_len, h0]; rfl)
      simpa using this
    clear e2 h
    go_enter Tryd.func44, Tryd.ntmps44
    go_wp2_with fail
    refine (rnum_is h1 (by omega) _).mono ?_; rintro e w3 ⟨rfl, d3⟩; obtain ⟨hc3, hf3, hz3⟩ := bcell d3; (try simp at hz3); have kc3_0 := fun o => hc3 (w.heap.size) o (by first | omega | (simp; done) | (simp; omega)); have kf3_0 := fun o => hf3 (w.heap.size) o (by first | omega | (simp; done) | (simp; omega)); have kl3_0 : w.heap.size < w3.heap.size := (by omega); clear hc3 hf3
    go_wp2_with fail
    refine (rnum_is h2 (by omega) _).mono ?_; rintro e w4 ⟨rfl, d4⟩; obtain ⟨hc4, hf4, hz4⟩ := bcell d4; (try simp at hz4); have kc4_0 := fun o => hc4 (w.heap.size) o (by first | omega | (simp; done) | (simp; omega)); have kf4_0 := fun o => hf4 (w.heap.size) o (by first | omega | (simp; done) | (simp; omega)); have kl4_0 : w.heap.size < w4.heap.size := (by omega); clear hc4 hf4
    go_wp2
    refine bodyPost_ret (v := .tuple #[.agg #[.int .u32 0, .int .u16 0], .bool false]) (by simp [results, Tryd.results44, go_sem, *]) rfl ⟨rfl, ?_⟩
    (have zz0 := Below.size d4; (try simp at zz0); have zz1 := Below.size d3; (try simp at zz1); repeat (first | with_reducible exact Below.refl _ _ | with_reducible refine Below.drew ?_ | with_reducible refine below_drewN ?_ _ | with_reducible refine Below.alloc ?_ (by first | omega | (simp; done) | (simp; omega)) _ | with_reducible refine Below.setCell ?_ (by first | omega | (simp; done) | (simp; omega)) _ | (with_reducible refine Below.trans ?_ (Below.mono d4 (by first | omega | (simp; done) | (simp; omega)))) | (with_reducible refine Below.trans ?_ (Below.mono d3 (by first | omega | (simp; done) | (simp; omega))))))
  · clear e2 h
    go_enter Tryd.func44, Tryd.ntmps44
    go_wp2_with fail
    refine (rnum_is h1 (by omega) _).mono ?_; rintro e w3 ⟨rfl, d3⟩; obtain ⟨hc3, hf3, hz3⟩ := bcell d3; (try simp at hz3); have kc3_0 := fun o => hc3 (w.heap.size) o (by first | omega | (simp; done) | (simp; omega)); have kf3_0 := fun o => hf3 (w.heap.size) o (by first | omega | (simp; done) | (simp; omega)); have kl3_0 : w.heap.size < w3.heap.size := (by omega); clear hc3 hf3
    go_wp2_with fail
    refine (rnum_is h2 (by omega) _).mono ?_; rintro e w4 ⟨rfl, d4⟩; obtain ⟨hc4, hf4, hz4⟩ := bcell d4; (try simp at hz4); have kc4_0 := fun o => hc4 (w.heap.size) o (by first | omega | (simp; done) | (simp; omega)); have kf4_0 := fun o => hf4 (w.heap.size) o (by first | omega | (simp; done) | (simp; omega)); have kl4_0 : w.heap.size < w4.heap.size := (by omega); clear hc4 hf4
    go_wp2
    refine bodyPost_ret (v := .tuple #[.agg #[.int .u32 0, .int .u16 0], .bool false]) (by simp [results, Tryd.results44, go_sem, *]) rfl ⟨rfl, ?_⟩
    (have zz0 := Below.size d4; (try simp at zz0); have zz1 := Below.size d3; (try simp at zz1); repeat (first | with_reducible exact Below.refl _ _ | with_reducible refine Below.drew ?_ | with_reducible refine below_drewN ?_ _ | with_reducible refine Below.alloc ?_ (by first | omega | (simp; done) | (simp; omega)) _ | with_reducible refine Below.setCell ?_ (by first | omega | (simp; done) | (simp; omega)) _ | (with_reducible refine Below.trans ?_ (Below.mono d4 (by first | omega | (simp; done) | (simp; omega)))) | (with_reducible refine Below.trans ?_ (Below.mono d3 (by first | omega | (simp; done) | (simp; omega))))))
end Go.Proofs.YtnmnokmbnjdfoaaDoor
