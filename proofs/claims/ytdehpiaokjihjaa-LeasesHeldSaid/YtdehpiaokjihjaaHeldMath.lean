/- Plain mathematics: relays that are asked, granted, lost one by one; who is held of them. -/
import Derived.Test.YtdehpiaokjihjaaGoneMath
namespace Go.Proofs.Ytdehpiaokjihjaa
set_option linter.unusedVariables false
set_option linter.unusedSimpArgs false

theorem ls_ext {k k' : Ls} (h1 : k.want = k'.want) (h2 : k.wait = k'.wait) (h3 : ∀ i, k.rl i = k'.rl i) : k = k' := by
  obtain ⟨a, b, c⟩ := k
  obtain ⟨a', b', c'⟩ := k'
  simp only at h1 h2 h3
  rw [h1, h2, show c = c' from funext h3]
def idL (m : Nat) : List Int := (List.range m).map fun i => ((i + 1 : Nat) : Int)
def plL (m : Nat) : List (Nat × Nat) := (List.range m).map fun i => (fI (i : Nat), 0)
def farL (m : Nat) : List Int := (List.range m).map fun i => farI 0 0 (i : Nat) 0
theorem idL_len (m : Nat) : (idL m).length = m := by unfold idL; simp
theorem plL_len (m : Nat) : (plL m).length = m := by unfold plL; simp
theorem idL_succ (m : Nat) : idL (m + 1) = idL m ++ [((m + 1 : Nat) : Int)] := by unfold idL; rw [List.range_succ]; simp
theorem plL_succ (m : Nat) : plL (m + 1) = plL m ++ [(fI (m : Nat), 0)] := by unfold plL; rw [List.range_succ]; simp
theorem idL_at {m i : Nat} (h : i < m) : (idL m)[i]? = some ((i + 1 : Nat) : Int) := by unfold idL; rw [List.getElem?_map, List.getElem?_range h]; rfl
theorem held_may : ∀ m, m ≤ 8 → mayA (newL 8 5) 0 ((idL m).zip (plL m)) = ⟨idL m, plL m, (mayA (newL 8 5) 0 ((idL m).zip (plL m))).met⟩
  | 0, _ => rfl
  | 1, _ => rfl
  | 2, _ => rfl
  | 3, _ => rfl
  | 4, _ => rfl
  | 5, _ => rfl
  | 6, _ => rfl
  | 7, _ => rfl
  | 8, _ => rfl
  | m + 9, h => by omega
theorem held_ask : ∀ m, m ≤ 8 → ∀ mt, askL (newL 8 5) 0 ⟨idL m, plL m, mt⟩ (farL m) = idL m
  | 0, _, _ => by kernel_rfl
  | 1, _, _ => by kernel_rfl
  | 2, _, _ => by kernel_rfl
  | 3, _, _ => by kernel_rfl
  | 4, _, _ => by kernel_rfl
  | 5, _, _ => by kernel_rfl
  | 6, _, _ => by kernel_rfl
  | 7, _, _ => by kernel_rfl
  | 8, _, _ => by kernel_rfl
  | m + 9, h, _ => by omega
theorem held_far (m : Nat) (hm : m ≤ 8) : FarB 0 0 (plL m) (farL m) := by
  refine ⟨by unfold plL farL; simp, fun i u d hu hd w => ?_⟩
  have hi : i < m := by have := (List.getElem?_eq_some_iff.1 hu).1; rwa [plL_len] at this
  unfold plL at hu
  unfold farL at hd
  rw [List.getElem?_map, List.getElem?_range hi] at hu hd
  simp only [Option.map_some, Option.some.injEq] at hu hd
  subst hu hd
  exact far_of (pl_of f0_is f0_is (by omega) (by omega)) (pl_of (fI_isI (i : Nat) (by omega)) f0_is (by omega) (by omega)) w
/-- all are asked -/
theorem asks_rl : ∀ m, (asks 0 (newL 8 5) (idL m)).want = 8 ∧ (asks 0 (newL 8 5) (idL m)).wait = 5 ∧ ∀ j, (asks 0 (newL 8 5) (idL m)).rl j = if 1 ≤ j ∧ j ≤ m then ⟨true, 0, 0⟩ else zR
  | 0 => ⟨rfl, rfl, fun j => by rw [if_neg (by omega)]; rfl⟩
  | m + 1 => by
    obtain ⟨h1, h2, h3⟩ := asks_rl m
    have e : asks 0 (newL 8 5) (idL (m + 1)) = askD 0 (asks 0 (newL 8 5) (idL m)) ((m + 1 : Nat) : Int) := by
      unfold asks; rw [idL_succ, List.foldl_append]; rfl
    rw [e]
    refine ⟨h1, h2, fun j => ?_⟩
    show upd (asks 0 (newL 8 5) (idL m)).rl (((m + 1 : Nat) : Int)).toNat _ j = _
    rw [Int.toNat_natCast]
    by_cases c : j = m + 1
    · subst c
      rw [upd_same, h3, if_neg (by omega), if_pos (by omega)]; rfl
    · rw [upd_ne c, h3]
      by_cases d : 1 ≤ j ∧ j ≤ m
      · rw [if_pos d, if_pos (by omega)]
      · rw [if_neg d, if_neg (by omega)]
/-- as far as i: granted, lost -/
def hRl (xs : List Int) (lost : Int) (m i : Nat) : Nat → Re := fun j => if 1 ≤ j ∧ j ≤ m then (if j ≤ i then (if bitOn lost (j - 1) = true then zR else ⟨true, 0, xs.getD (j - 1) 0 % 60⟩) else ⟨true, 0, 0⟩) else zR
def hLs (xs : List Int) (lost : Int) (m i : Nat) : Ls := ⟨8, 5, hRl xs lost m i⟩
theorem hLs_zero (xs : List Int) (lost : Int) (m : Nat) : asks 0 (newL 8 5) (idL m) = hLs xs lost m 0 := by
  obtain ⟨h1, h2, h3⟩ := asks_rl m
  refine ls_ext h1 h2 (fun j => ?_)
  rw [h3]
  show _ = hRl xs lost m 0 j
  unfold hRl
  by_cases c : 1 ≤ j ∧ j ≤ m
  · rw [if_pos c, if_pos c, if_neg (by omega)]
  · rw [if_neg c, if_neg c]
theorem h_next {xs : List Int} {lost : Int} {m i : Nat} (hi : i < m) : hRl xs lost m i (i + 1) = ⟨true, 0, 0⟩ := by
  unfold hRl; rw [if_pos (by omega), if_neg (by omega)]
theorem node_next {i : Nat} (hi : i < 8) : nodeI ((i + 1 : Nat) : Int) = true := nodeI_iff.2 (by omega)
/-- i + 1 is granted -/
theorem h_got {xs : List Int} {lost : Int} {m i : Nat} (hi : i < m) (hm : m ≤ 8) (hx : ∀ z ∈ xs, 0 ≤ z ∧ z < 256) :
    gotB (hLs xs lost m i) ((i + 1 : Nat) : Int) (xs.getD i 0 % 60) 0 = decide (0 < xs.getD i 0 % 60) ∧ gotD (hLs xs lost m i) ((i + 1 : Nat) : Int) (xs.getD i 0 % 60) 0 = ⟨8, 5, upd (hRl xs lost m i) (i + 1) ⟨true, 0, xs.getD i 0 % 60⟩⟩ := by
  have ha : askB (hLs xs lost m i) ((i + 1 : Nat) : Int) = true := by
    unfold askB
    rw [node_next (by omega), Int.toNat_natCast]
    show (true && (hRl xs lost m i (i + 1)).ask) = true
    rw [h_next hi]; rfl
  have hg : gotB (hLs xs lost m i) ((i + 1 : Nat) : Int) (xs.getD i 0 % 60) 0 = decide (0 < xs.getD i 0 % 60) := by unfold gotB; rw [ha, Bool.true_and]
  refine ⟨hg, ?_⟩
  unfold gotD
  rw [hg]
  have hb : 0 ≤ xs.getD i 0 % 60 ∧ xs.getD i 0 % 60 < 60 := by omega
  generalize xs.getD i 0 % 60 = q at *
  by_cases c : 0 < q
  · rw [if_pos (decide_eq_true c), Int.toNat_natCast]
    refine ls_ext rfl rfl (fun j => ?_)
    show upd (hRl xs lost m i) (i + 1) { hRl xs lost m i (i + 1) with un := min q 4611686018427387904 } j = _
    rw [h_next hi, show min q 4611686018427387904 = q by omega]
  · rw [if_neg (by simpa using c)]
    refine ls_ext rfl rfl (fun j => ?_)
    show hRl xs lost m i j = upd (hRl xs lost m i) (i + 1) ⟨true, 0, q⟩ j
    by_cases e : j = i + 1
    · subst e
      rw [upd_same, h_next hi, show q = 0 by omega]
    · rw [upd_ne e]
def hMid (xs : List Int) (lost : Int) (m i : Nat) : Ls := ⟨8, 5, upd (hRl xs lost m i) (i + 1) ⟨true, 0, xs.getD i 0 % 60⟩⟩
theorem h_ask {xs : List Int} {lost : Int} {m i : Nat} (hi : i < 8) : askB (hMid xs lost m i) ((i + 1 : Nat) : Int) = true := by
  unfold askB
  rw [node_next hi, Int.toNat_natCast]
  show (true && (upd (hRl xs lost m i) (i + 1) ⟨true, 0, xs.getD i 0 % 60⟩ (i + 1)).ask) = true
  rw [upd_same]; rfl
theorem h_lost {xs : List Int} {lost : Int} {m i : Nat} (hi : i < m) (hm : m ≤ 8) (hb : bitOn lost i = true) : lostD (hMid xs lost m i) ((i + 1 : Nat) : Int) = hLs xs lost m (i + 1) := by
  unfold lostD
  rw [h_ask (by omega), if_pos rfl, Int.toNat_natCast]
  refine ls_ext rfl rfl (fun j => ?_)
  show upd (upd (hRl xs lost m i) (i + 1) _) (i + 1) zR j = hRl xs lost m (i + 1) j
  by_cases e : j = i + 1
  · subst e
    rw [upd_same]
    unfold hRl; rw [if_pos (by omega), if_pos (by omega), if_pos (by simpa using hb)]
  · rw [upd_ne e, upd_ne e]
    unfold hRl
    by_cases c : 1 ≤ j ∧ j ≤ m
    · rw [if_pos c, if_pos c]
      by_cases d : j ≤ i
      · rw [if_pos d, if_pos (show j ≤ i + 1 by omega)]
      · rw [if_neg d, if_neg (show ¬ j ≤ i + 1 by omega)]
    · rw [if_neg c, if_neg c]
theorem h_kept {xs : List Int} {lost : Int} {m i : Nat} (hi : i < m) (hb : bitOn lost i = false) : hMid xs lost m i = hLs xs lost m (i + 1) := by
  refine ls_ext rfl rfl (fun j => ?_)
  show upd (hRl xs lost m i) (i + 1) _ j = hRl xs lost m (i + 1) j
  by_cases e : j = i + 1
  · subst e
    rw [upd_same]
    unfold hRl; rw [if_pos (by omega), if_pos (by omega), if_neg (by simp [hb])]; simp
  · rw [upd_ne e]
    unfold hRl
    by_cases c : 1 ≤ j ∧ j ≤ m
    · rw [if_pos c, if_pos c]
      by_cases d : j ≤ i
      · rw [if_pos d, if_pos (show j ≤ i + 1 by omega)]
      · rw [if_neg d, if_neg (show ¬ j ≤ i + 1 by omega)]
    · rw [if_neg c, if_neg c]
/-- who is held, one by one -/
theorem h_held {xs : List Int} {lost : Int} {m i : Nat} (hi : i < m) (q : Int) (hq : 0 ≤ q) : heldB (hRl xs lost m m (i + 1)) q = (!bitOn lost i && decide (q < xs.getD i 0 % 60)) := by
  unfold hRl
  rw [if_pos (by omega), if_pos (by omega)]
  simp only [Nat.add_sub_cancel]
  cases bitOn lost i with
  | true => rw [if_pos rfl]; unfold heldB zR; simp only [Bool.not_true, Bool.false_and]; exact decide_eq_false (by omega)
  | false => rw [if_neg (by simp)]; rfl
theorem h_off {xs : List Int} {lost : Int} {m j : Nat} (hj : j = 0 ∨ m < j) (q : Int) (hq : 0 ≤ q) : heldB (hRl xs lost m m j) q = false := by
  unfold hRl
  rw [if_neg (by omega)]
  unfold heldB zR; exact decide_eq_false (by show ¬ q < 0; omega)
theorem loH_part (now : Int) (f : Nat → Re) (a : Nat) : ∀ d, ∃ t, loH now f (a + d) = loH now f a ++ t
  | 0 => ⟨[], by simp⟩
  | d + 1 => by
    obtain ⟨t, ht⟩ := loH_part now f a d
    rw [← Nat.add_assoc]
    cases c : heldB (f (a + d)) now with
    | true => rw [loH_yes c, ht]; exact ⟨t ++ [((a + d : Nat) : Int)], by simp⟩
    | false => rw [loH_no c, ht]; exact ⟨t, rfl⟩
theorem loH_stop (now : Int) (f : Nat → Re) (a : Nat) : ∀ d, (∀ j, a ≤ j → j < a + d → heldB (f j) now = false) → loH now f (a + d) = loH now f a
  | 0, _ => rfl
  | d + 1, h => by
    rw [← Nat.add_assoc, loH_no (h (a + d) (by omega) (by omega))]
    exact loH_stop now f a d (fun j h1 h2 => h j h1 (by omega))
/-- the next one that is held stands there -/
theorem held_at {now : Int} {f : Nat → Re} {j : Nat} (hj : j < 33) (h : heldB (f j) now = true) : (loH now f 33)[(loH now f j).length]? = some ((j : Nat) : Int) ∧ (loH now f j).length < (loH now f 33).length := by
  obtain ⟨t, ht⟩ := loH_part now f (j + 1) (33 - (j + 1))
  rw [show j + 1 + (33 - (j + 1)) = 33 by omega, loH_yes h] at ht
  rw [ht]
  refine ⟨?_, by simp⟩
  rw [List.getElem?_append_left (by simp)]
  simp
theorem held_all {xs : List Int} {lost : Int} {m : Nat} (hm : m ≤ 8) (q : Int) (hq : 0 ≤ q) : loH q (hRl xs lost m m) 33 = loH q (hRl xs lost m m) (m + 1) := by
  have := loH_stop q (hRl xs lost m m) (m + 1) (33 - (m + 1)) (fun j h1 _ => h_off (.inr (by omega)) q hq)
  rwa [show m + 1 + (33 - (m + 1)) = 33 by omega] at this
theorem h_20 {xs : List Int} {lost : Int} {m i : Nat} (hm : m ≤ 8) : askB (hLs xs lost m i) 20 = false := by
  unfold askB
  show (nodeI 20 && (hRl xs lost m i 20).ask) = false
  unfold hRl; rw [if_neg (by omega)]; rfl
end Go.Proofs.Ytdehpiaokjihjaa
