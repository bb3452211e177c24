/- Contracts of the readers' Text and Done (both programs), of same, and of examples. -/
import Derived.Test.YtopidocnohoilaaPackIs
namespace Go.Proofs.Ytopidocnohoilaa
open Go.RowKit
set_option linter.unusedVariables false
set_option linter.unusedSimpArgs false

theorem txr_bad1 {s s1 : ByteArray} {b : Bool} {v : Nat} (h : Hid (rdn s b 1 = (v, s1, true))) (hs : s.size ≤ 9223372036854775807) (w : World) :
    Calls Try.prog 9 #[.agg #[.string s, .bool b]] w fun e w' => e = .returned (.tuple #[.string ⟨#[]⟩, .agg #[.string ⟨#[]⟩, .bool true]]) ∧ Below w.heap.size w w' := by
  have hv := (rdn_one h.out).1
  have hz := (rdn_one h.out).2
  go_enter Try.func9, Try.ntmps9
  go_wp2_with fail
  refine wp_scope_fwd 0 rfl ?_
  go_wp2_with fail
  refine (num_is h hs _).mono ?_; rintro e w1 ⟨rfl, b1⟩; obtain ⟨hc1, hf1, hz1⟩ := bcell b1; (try simp at hz1); have kc1_0 := fun o => hc1 (w.heap.size) o (by first | omega | (simp; done) | (simp; omega)); have kf1_0 := fun o => hf1 (w.heap.size) o (by first | omega | (simp; done) | (simp; omega)); have kl1_0 : w.heap.size < w1.heap.size := (by omega); have kc1_1 := fun o => hc1 (w.heap.size + 1) o (by first | omega | (simp; done) | (simp; omega)); have kf1_1 := fun o => hf1 (w.heap.size + 1) o (by first | omega | (simp; done) | (simp; omega)); have kl1_1 : w.heap.size + 1 < w1.heap.size := (by omega); clear hc1 hf1
  go_wp2_with fail
  go_step3
  go_wp2
  refine ⟨rfl, ?_⟩
  go_wp2
  rw [Exit.noGoto_ret]
  refine bodyPost_ret (v := .tuple #[.string ⟨#[]⟩, .agg #[.string ⟨#[]⟩, .bool true]]) (by simp [results, Try.results9, go_sem, *]) rfl ⟨rfl, ?_⟩
  (have zz0 := Below.size b1; (try simp at zz0); repeat (first | exact Below.refl _ _ | refine Below.drew ?_ | refine below_drewN ?_ _ | refine Below.alloc ?_ (by first | omega | (simp; done) | (simp; omega)) _ | refine Below.setCell ?_ (by first | omega | (simp; done) | (simp; omega)) _ | (with_reducible refine Below.trans ?_ (Below.mono b1 (by first | omega | (simp; done) | (simp; omega))))))
theorem txr_bad2 {s s1 : ByteArray} {b : Bool} {v : Nat} (h : Hid (rdn s b 1 = (v, s1, false))) (hlt : s1.size < v) (hs : s.size ≤ 9223372036854775807) (w : World) :
    Calls Try.prog 9 #[.agg #[.string s, .bool b]] w fun e w' => e = .returned (.tuple #[.string ⟨#[]⟩, .agg #[.string ⟨#[]⟩, .bool true]]) ∧ Below w.heap.size w w' := by
  have hv := (rdn_one h.out).1
  have hz := (rdn_one h.out).2
  go_enter Try.func9, Try.ntmps9
  go_wp2_with fail
  refine wp_scope_fwd 0 rfl ?_
  go_wp2_with fail
  refine (num_is h hs _).mono ?_; rintro e w1 ⟨rfl, b1⟩; obtain ⟨hc1, hf1, hz1⟩ := bcell b1; (try simp at hz1); have kc1_0 := fun o => hc1 (w.heap.size) o (by first | omega | (simp; done) | (simp; omega)); have kf1_0 := fun o => hf1 (w.heap.size) o (by first | omega | (simp; done) | (simp; omega)); have kl1_0 : w.heap.size < w1.heap.size := (by omega); have kc1_1 := fun o => hc1 (w.heap.size + 1) o (by first | omega | (simp; done) | (simp; omega)); have kf1_1 := fun o => hf1 (w.heap.size + 1) o (by first | omega | (simp; done) | (simp; omega)); have kl1_1 : w.heap.size + 1 < w1.heap.size := (by omega); clear hc1 hf1
  go_wp2_with fail
  go_step3
  go_wp2
  refine ⟨rfl, ?_⟩
  go_wp2
  rw [Exit.noGoto_ret]
  refine bodyPost_ret (v := .tuple #[.string ⟨#[]⟩, .agg #[.string ⟨#[]⟩, .bool true]]) (by simp [results, Try.results9, go_sem, *]) rfl ⟨rfl, ?_⟩
  (have zz0 := Below.size b1; (try simp at zz0); repeat (first | exact Below.refl _ _ | refine Below.drew ?_ | refine below_drewN ?_ _ | refine Below.alloc ?_ (by first | omega | (simp; done) | (simp; omega)) _ | refine Below.setCell ?_ (by first | omega | (simp; done) | (simp; omega)) _ | (with_reducible refine Below.trans ?_ (Below.mono b1 (by first | omega | (simp; done) | (simp; omega))))))
theorem txr_ok {s s1 : ByteArray} {b : Bool} {v : Nat} (h : Hid (rdn s b 1 = (v, s1, false))) (hle : v ≤ s1.size) (hs : s.size ≤ 9223372036854775807) (w : World) :
    Calls Try.prog 9 #[.agg #[.string s, .bool b]] w fun e w' => e = .returned (.tuple #[.string (s1.extract 0 v), .agg #[.string (s1.extract v s1.size), .bool false]]) ∧ Below w.heap.size w w' := by
  have hv := (rdn_one h.out).1
  have hz := (rdn_one h.out).2
  have hle' : ¬ s1.size < v := by omega
  go_enter Try.func9, Try.ntmps9
  go_wp2_with fail
  refine wp_scope_fwd 0 rfl ?_
  go_wp2_with fail
  refine (num_is h hs _).mono ?_; rintro e w1 ⟨rfl, b1⟩; obtain ⟨hc1, hf1, hz1⟩ := bcell b1; (try simp at hz1); have kc1_0 := fun o => hc1 (w.heap.size) o (by first | omega | (simp; done) | (simp; omega)); have kf1_0 := fun o => hf1 (w.heap.size) o (by first | omega | (simp; done) | (simp; omega)); have kl1_0 : w.heap.size < w1.heap.size := (by omega); have kc1_1 := fun o => hc1 (w.heap.size + 1) o (by first | omega | (simp; done) | (simp; omega)); have kf1_1 := fun o => hf1 (w.heap.size + 1) o (by first | omega | (simp; done) | (simp; omega)); have kl1_1 : w.heap.size + 1 < w1.heap.size := (by omega); clear hc1 hf1
  go_wp2_with fail
  go_region
  all_goals go_wp2
  all_goals simp only [Exit.jump]
  all_goals (refine bodyPost_ret (v := .tuple #[.string (s1.extract 0 v), .agg #[.string (s1.extract v s1.size), .bool false]]) (by simp [results, Try.results9, go_sem, *]) rfl ⟨rfl, ?_⟩)
  all_goals (have zz0 := Below.size b1; (try simp at zz0); repeat (first | exact Below.refl _ _ | refine Below.drew ?_ | refine below_drewN ?_ _ | refine Below.alloc ?_ (by first | omega | (simp; done) | (simp; omega)) _ | refine Below.setCell ?_ (by first | omega | (simp; done) | (simp; omega)) _ | (with_reducible refine Below.trans ?_ (Below.mono b1 (by first | omega | (simp; done) | (simp; omega))))))
theorem rtxr_bad1 {s s1 : ByteArray} {b : Bool} {v : Nat} (h : Hid (rdn s b 1 = (v, s1, true))) (hs : s.size ≤ 9223372036854775807) (w : World) :
    Calls Try.prog 10 #[.agg #[.string s, .bool b]] w fun e w' => e = .returned (.tuple #[.string ⟨#[]⟩, .agg #[.string ⟨#[]⟩, .bool true]]) ∧ Below w.heap.size w w' := by
  have hv := (rdn_one h.out).1
  have hz := (rdn_one h.out).2
  go_enter Try.func10, Try.ntmps10
  go_wp2_with fail
  refine (rnum_is h hs _).mono ?_; rintro e w1 ⟨rfl, b1⟩; obtain ⟨hc1, hf1, hz1⟩ := bcell b1; (try simp at hz1); have kc1_0 := fun o => hc1 (w.heap.size) o (by first | omega | (simp; done) | (simp; omega)); have kf1_0 := fun o => hf1 (w.heap.size) o (by first | omega | (simp; done) | (simp; omega)); have kl1_0 : w.heap.size < w1.heap.size := (by omega); have kc1_1 := fun o => hc1 (w.heap.size + 1) o (by first | omega | (simp; done) | (simp; omega)); have kf1_1 := fun o => hf1 (w.heap.size + 1) o (by first | omega | (simp; done) | (simp; omega)); have kl1_1 : w.heap.size + 1 < w1.heap.size := (by omega); clear hc1 hf1
  go_wp2
  refine bodyPost_ret (v := .tuple #[.string ⟨#[]⟩, .agg #[.string ⟨#[]⟩, .bool true]]) (by simp [results, Try.results10, go_sem, *]) rfl ⟨rfl, ?_⟩
  (have zz0 := Below.size b1; (try simp at zz0); repeat (first | exact Below.refl _ _ | refine Below.drew ?_ | refine below_drewN ?_ _ | refine Below.alloc ?_ (by first | omega | (simp; done) | (simp; omega)) _ | refine Below.setCell ?_ (by first | omega | (simp; done) | (simp; omega)) _ | (with_reducible refine Below.trans ?_ (Below.mono b1 (by first | omega | (simp; done) | (simp; omega))))))
theorem rtxr_bad2 {s s1 : ByteArray} {b : Bool} {v : Nat} (h : Hid (rdn s b 1 = (v, s1, false))) (hlt : s1.size < v) (hs : s.size ≤ 9223372036854775807) (w : World) :
    Calls Try.prog 10 #[.agg #[.string s, .bool b]] w fun e w' => e = .returned (.tuple #[.string ⟨#[]⟩, .agg #[.string ⟨#[]⟩, .bool true]]) ∧ Below w.heap.size w w' := by
  have hv := (rdn_one h.out).1
  have hz := (rdn_one h.out).2
  go_enter Try.func10, Try.ntmps10
  go_wp2_with fail
  refine (rnum_is h hs _).mono ?_; rintro e w1 ⟨rfl, b1⟩; obtain ⟨hc1, hf1, hz1⟩ := bcell b1; (try simp at hz1); have kc1_0 := fun o => hc1 (w.heap.size) o (by first | omega | (simp; done) | (simp; omega)); have kf1_0 := fun o => hf1 (w.heap.size) o (by first | omega | (simp; done) | (simp; omega)); have kl1_0 : w.heap.size < w1.heap.size := (by omega); have kc1_1 := fun o => hc1 (w.heap.size + 1) o (by first | omega | (simp; done) | (simp; omega)); have kf1_1 := fun o => hf1 (w.heap.size + 1) o (by first | omega | (simp; done) | (simp; omega)); have kl1_1 : w.heap.size + 1 < w1.heap.size := (by omega); clear hc1 hf1
  go_wp2
  refine bodyPost_ret (v := .tuple #[.string ⟨#[]⟩, .agg #[.string ⟨#[]⟩, .bool true]]) (by simp [results, Try.results10, go_sem, *]) rfl ⟨rfl, ?_⟩
  (have zz0 := Below.size b1; (try simp at zz0); repeat (first | exact Below.refl _ _ | refine Below.drew ?_ | refine below_drewN ?_ _ | refine Below.alloc ?_ (by first | omega | (simp; done) | (simp; omega)) _ | refine Below.setCell ?_ (by first | omega | (simp; done) | (simp; omega)) _ | (with_reducible refine Below.trans ?_ (Below.mono b1 (by first | omega | (simp; done) | (simp; omega))))))
theorem rtxr_ok {s s1 : ByteArray} {b : Bool} {v : Nat} (h : Hid (rdn s b 1 = (v, s1, false))) (hle : v ≤ s1.size) (hs : s.size ≤ 9223372036854775807) (w : World) :
    Calls Try.prog 10 #[.agg #[.string s, .bool b]] w fun e w' => e = .returned (.tuple #[.string (s1.extract 0 v), .agg #[.string (s1.extract v s1.size), .bool false]]) ∧ Below w.heap.size w w' := by
  have hv := (rdn_one h.out).1
  have hz := (rdn_one h.out).2
  have hle' : ¬ s1.size < v := by omega
  go_enter Try.func10, Try.ntmps10
  go_wp2_with fail
  refine (rnum_is h hs _).mono ?_; rintro e w1 ⟨rfl, b1⟩; obtain ⟨hc1, hf1, hz1⟩ := bcell b1; (try simp at hz1); have kc1_0 := fun o => hc1 (w.heap.size) o (by first | omega | (simp; done) | (simp; omega)); have kf1_0 := fun o => hf1 (w.heap.size) o (by first | omega | (simp; done) | (simp; omega)); have kl1_0 : w.heap.size < w1.heap.size := (by omega); have kc1_1 := fun o => hc1 (w.heap.size + 1) o (by first | omega | (simp; done) | (simp; omega)); have kf1_1 := fun o => hf1 (w.heap.size + 1) o (by first | omega | (simp; done) | (simp; omega)); have kl1_1 : w.heap.size + 1 < w1.heap.size := (by omega); clear hc1 hf1
  go_wp2_with fail
  go_region
  all_goals go_wp2
  all_goals (refine bodyPost_ret (v := .tuple #[.string (s1.extract 0 v), .agg #[.string (s1.extract v s1.size), .bool false]]) (by simp [results, Try.results10, go_sem, *]) rfl ⟨rfl, ?_⟩)
  all_goals (have zz0 := Below.size b1; (try simp at zz0); repeat (first | exact Below.refl _ _ | refine Below.drew ?_ | refine below_drewN ?_ _ | refine Below.alloc ?_ (by first | omega | (simp; done) | (simp; omega)) _ | refine Below.setCell ?_ (by first | omega | (simp; done) | (simp; omega)) _ | (with_reducible refine Below.trans ?_ (Below.mono b1 (by first | omega | (simp; done) | (simp; omega))))))

theorem txr_is {s t s' : ByteArray} {b b' : Bool} (h : Hid (rtx s b = (t, s', b'))) (hs : s.size ≤ 9223372036854775807) (w : World) :
    Calls Try.prog 9 #[.agg #[.string s, .bool b]] w fun e w' => e = .returned (.tuple #[.string t, .agg #[.string s', .bool b']]) ∧ Below w.heap.size w w' := by
  have h := h.out
  obtain ⟨v, s1, b1, h1⟩ : ∃ v s1 b1, rdn s b 1 = (v, s1, b1) := ⟨_, _, _, rfl⟩
  unfold rtx at h
  rw [h1] at h
  by_cases hc : b1 = false ∧ v ≤ s1.size
  · rw [if_pos hc] at h
    injection h with h3 h
    injection h with h4 h5
    subst h3 h4 h5
    obtain ⟨rfl, hle⟩ := hc
    exact txr_ok h1 hle hs w
  · rw [if_neg hc] at h
    injection h with h3 h
    injection h with h4 h5
    subst h3 h4 h5
    cases b1
    · exact txr_bad2 h1 (by simp at hc; omega) hs w
    · exact txr_bad1 h1 hs w

theorem rtxr_is {s t s' : ByteArray} {b b' : Bool} (h : Hid (rtx s b = (t, s', b'))) (hs : s.size ≤ 9223372036854775807) (w : World) :
    Calls Try.prog 10 #[.agg #[.string s, .bool b]] w fun e w' => e = .returned (.tuple #[.string t, .agg #[.string s', .bool b']]) ∧ Below w.heap.size w w' := by
  have h := h.out
  obtain ⟨v, s1, b1, h1⟩ : ∃ v s1 b1, rdn s b 1 = (v, s1, b1) := ⟨_, _, _, rfl⟩
  unfold rtx at h
  rw [h1] at h
  by_cases hc : b1 = false ∧ v ≤ s1.size
  · rw [if_pos hc] at h
    injection h with h3 h
    injection h with h4 h5
    subst h3 h4 h5
    obtain ⟨rfl, hle⟩ := hc
    exact rtxr_ok h1 hle hs w
  · rw [if_neg hc] at h
    injection h with h3 h
    injection h with h4 h5
    subst h3 h4 h5
    cases b1
    · exact rtxr_bad2 h1 (by simp at hc; omega) hs w
    · exact rtxr_bad1 h1 hs w

/-- is all read, and nothing bad? -/
def dn (s : ByteArray) (b : Bool) : Bool := !b && decide (s.toList = [])

theorem done_bad (s : ByteArray) (w : World) : Calls Try.prog 14 #[.agg #[.string s, .bool true]] w fun e w' => e = .returned (.bool false) ∧ Below w.heap.size w w' := by
  by_cases h : s.toList = []
  · have h2 : (!s.toList.isEmpty) = false := by simp [h]
    go_enter Try.func14, Try.ntmps14
    go_wp2
    go_ret
    exact ⟨rfl, by (repeat (first | exact Below.refl _ _ | refine Below.drew ?_ | refine below_drewN ?_ _ | refine Below.alloc ?_ (by first | omega | (simp; done) | (simp; omega)) _ | refine Below.setCell ?_ (by first | omega | (simp; done) | (simp; omega)) _))⟩
  · have h2 : s.toList.isEmpty = false := by simpa using h
    go_enter Try.func14, Try.ntmps14
    go_wp2
    go_ret
    exact ⟨rfl, by (repeat (first | exact Below.refl _ _ | refine Below.drew ?_ | refine below_drewN ?_ _ | refine Below.alloc ?_ (by first | omega | (simp; done) | (simp; omega)) _ | refine Below.setCell ?_ (by first | omega | (simp; done) | (simp; omega)) _))⟩
theorem done_emp (s : ByteArray) (h : s.toList = []) (w : World) : Calls Try.prog 14 #[.agg #[.string s, .bool false]] w fun e w' => e = .returned (.bool true) ∧ Below w.heap.size w w' := by
  go_enter Try.func14, Try.ntmps14
  go_wp2
  go_ret
  exact ⟨rfl, by (repeat (first | exact Below.refl _ _ | refine Below.drew ?_ | refine below_drewN ?_ _ | refine Below.alloc ?_ (by first | omega | (simp; done) | (simp; omega)) _ | refine Below.setCell ?_ (by first | omega | (simp; done) | (simp; omega)) _))⟩
theorem done_more (s : ByteArray) (h : s.toList.isEmpty = false) (w : World) : Calls Try.prog 14 #[.agg #[.string s, .bool false]] w fun e w' => e = .returned (.bool false) ∧ Below w.heap.size w w' := by
  go_enter Try.func14, Try.ntmps14
  go_wp2
  go_ret
  exact ⟨rfl, by (repeat (first | exact Below.refl _ _ | refine Below.drew ?_ | refine below_drewN ?_ _ | refine Below.alloc ?_ (by first | omega | (simp; done) | (simp; omega)) _ | refine Below.setCell ?_ (by first | omega | (simp; done) | (simp; omega)) _))⟩
theorem done_is {s : ByteArray} {b d : Bool} (h : Hid (dn s b = d)) (w : World) : Calls Try.prog 14 #[.agg #[.string s, .bool b]] w fun e w' => e = .returned (.bool d) ∧ Below w.heap.size w w' := by
  have h := h.out
  subst h
  unfold dn
  cases b
  · by_cases hs : s.toList = []
    · have e : decide (s.toList = []) = true := by simpa using hs
      rw [e]
      exact done_emp s hs w
    · have e : decide (s.toList = []) = false := by simpa using hs
      rw [e]
      exact done_more s (by simpa using hs) w
  · exact done_bad s w

theorem rdone_bad (s : ByteArray) (w : World) : Calls Try.prog 15 #[.agg #[.string s, .bool true]] w fun e w' => e = .returned (.bool false) ∧ Below w.heap.size w w' := by
  by_cases h : s.toList = []
  · have h2 : (!s.toList.isEmpty) = false := by simp [h]
    go_enter Try.func15, Try.ntmps15
    go_wp2
    go_ret
    exact ⟨rfl, by (repeat (first | exact Below.refl _ _ | refine Below.drew ?_ | refine below_drewN ?_ _ | refine Below.alloc ?_ (by first | omega | (simp; done) | (simp; omega)) _ | refine Below.setCell ?_ (by first | omega | (simp; done) | (simp; omega)) _))⟩
  · have h2 : s.toList.isEmpty = false := by simpa using h
    go_enter Try.func15, Try.ntmps15
    go_wp2
    go_ret
    exact ⟨rfl, by (repeat (first | exact Below.refl _ _ | refine Below.drew ?_ | refine below_drewN ?_ _ | refine Below.alloc ?_ (by first | omega | (simp; done) | (simp; omega)) _ | refine Below.setCell ?_ (by first | omega | (simp; done) | (simp; omega)) _))⟩
theorem rdone_emp (s : ByteArray) (h : s.toList = []) (w : World) : Calls Try.prog 15 #[.agg #[.string s, .bool false]] w fun e w' => e = .returned (.bool true) ∧ Below w.heap.size w w' := by
  go_enter Try.func15, Try.ntmps15
  go_wp2
  go_ret
  exact ⟨rfl, by (repeat (first | exact Below.refl _ _ | refine Below.drew ?_ | refine below_drewN ?_ _ | refine Below.alloc ?_ (by first | omega | (simp; done) | (simp; omega)) _ | refine Below.setCell ?_ (by first | omega | (simp; done) | (simp; omega)) _))⟩
theorem rdone_more (s : ByteArray) (h : s.toList.isEmpty = false) (w : World) : Calls Try.prog 15 #[.agg #[.string s, .bool false]] w fun e w' => e = .returned (.bool false) ∧ Below w.heap.size w w' := by
  go_enter Try.func15, Try.ntmps15
  go_wp2
  go_ret
  exact ⟨rfl, by (repeat (first | exact Below.refl _ _ | refine Below.drew ?_ | refine below_drewN ?_ _ | refine Below.alloc ?_ (by first | omega | (simp; done) | (simp; omega)) _ | refine Below.setCell ?_ (by first | omega | (simp; done) | (simp; omega)) _))⟩
theorem rdone_is {s : ByteArray} {b d : Bool} (h : Hid (dn s b = d)) (w : World) : Calls Try.prog 15 #[.agg #[.string s, .bool b]] w fun e w' => e = .returned (.bool d) ∧ Below w.heap.size w w' := by
  have h := h.out
  subst h
  unfold dn
  cases b
  · by_cases hs : s.toList = []
    · have e : decide (s.toList = []) = true := by simpa using hs
      rw [e]
      exact rdone_emp s hs w
    · have e : decide (s.toList = []) = false := by simpa using hs
      rw [e]
      exact rdone_more s (by simpa using hs) w
  · exact rdone_bad s w
end Go.Proofs.Ytopidocnohoilaa
