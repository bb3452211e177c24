/- Plain mathematics: eight clients, some of whom are released; bits of a number. -/
import Derived.Test.YtdehpiaokjihjaaLsArg
namespace Go.Proofs.Ytdehpiaokjihjaa
set_option linter.unusedVariables false
set_option linter.unusedSimpArgs false

/-- is bit k of x set? -/
def bitOn (x : Int) (k : Nat) : Bool := decide (x / 2 ^ k % 2 = 1)
theorem bit_yes {x : Int} {k : Nat} (hx : 0 ≤ x) (h : bitOn x k = true) : ((x / 2 ^ k).tmod 2 == 1) = true ∧ ((x / 2 ^ k).tmod 2 == 0) = false := by
  have h1 : 0 ≤ x / 2 ^ k := Int.ediv_nonneg hx (Int.pow_nonneg (by decide))
  have h2 : x / 2 ^ k % 2 = 1 := of_decide_eq_true h
  rw [tmod_pos _ _ h1, h2]; exact ⟨rfl, rfl⟩
theorem bit_no {x : Int} {k : Nat} (hx : 0 ≤ x) (h : bitOn x k = false) : ((x / 2 ^ k).tmod 2 == 1) = false ∧ ((x / 2 ^ k).tmod 2 == 0) = true := by
  have h1 : 0 ≤ x / 2 ^ k := Int.ediv_nonneg hx (Int.pow_nonneg (by decide))
  have h2 : ¬ x / 2 ^ k % 2 = 1 := of_decide_eq_false h
  have h3 : x / 2 ^ k % 2 = 0 := by omega
  rw [tmod_pos _ _ h1, h3]; exact ⟨rfl, rfl⟩
theorem tb_ext {k k' : Tb} (h1 : k.room = k'.room) (h2 : k.hold = k'.hold) (h3 : ∀ i, k.cl i = k'.cl i) : k = k' := by
  obtain ⟨a, b, c⟩ := k
  obtain ⟨a', b', c'⟩ := k'
  simp only at h1 h2 h3
  rw [h1, h2, show c = c' from funext h3]
/-- client j -/
def cj (h : Int) (j : Nat) : Vt := ⟨j, j, 1, j + h⟩
theorem cj_ok {h : Int} (h1 : 1 ≤ h) (h2 : h ≤ 40) {j : Nat} (hj : 1 ≤ j) (hj2 : j ≤ 8) : OkV j (cj h j) := ⟨hj, by omega, rfl, by show 0 ≤ (j : Int) + h; omega, by show (j : Int) + h ≤ _; omega, by show j < _; omega, by show 1 < _; omega⟩
theorem cj_is {h : Int} {j : Nat} (hj : 1 ≤ j) (hj2 : j ≤ 8) : isV (cj h j) = true := nodeI_iff.2 (by show 1 ≤ (j : Int) ∧ (j : Int) ≤ 32; omega)
/-- eight clients, as far as i, those gone whose time is over at i -/
def gCl (h : Int) (i : Nat) : Nat → Vt := fun j => if 1 ≤ j ∧ j ≤ i ∧ (i : Int) < j + h then cj h j else zV
def gTb (h : Int) (i : Nat) : Tb := ⟨8, h, gCl h i⟩
theorem gTb_zero (h : Int) : gTb h 0 = newT 8 h := by
  refine tb_ext rfl rfl (fun j => ?_)
  show gCl h 0 j = zV
  unfold gCl; rw [if_neg (by omega)]
theorem gTb_ok {h : Int} (h1 : 1 ≤ h) (h2 : h ≤ 40) {i : Nat} (hi : i ≤ 8) : OkT (gTb h i) := by
  refine ⟨by show (1 : Int) ≤ 8; omega, by show (8 : Int) ≤ 8; omega, h1, by show h ≤ 1000000; omega, fun j => ?_⟩
  show gCl h i j = zV ∨ OkV j (gCl h i j)
  unfold gCl; split
  · exact .inr (cj_ok h1 h2 (by omega) (by omega))
  · exact .inl rfl
theorem g_step {h : Int} (h1 : 1 ≤ h) (h2 : h ≤ 40) {i : Nat} (hi : i < 8) (hc : (allV (gTb h i).cl).length ≤ i) :
    grantE (gTb h i) ((i + 1 : Nat) : Int) (i + 1) 1 ((i + 1 : Nat) : Int) = 0 ∧ grantU (gTb h i) ((i + 1 : Nat) : Int) (i + 1) 1 ((i + 1 : Nat) : Int) = ((i + 1 : Nat) : Int) + h ∧ grantD (gTb h i) ((i + 1 : Nat) : Int) (i + 1) 1 ((i + 1 : Nat) : Int) = gTb h (i + 1) ∧ (allV (gTb h (i + 1)).cl).length ≤ i + 1 := by
  have hok := gTb_ok h1 h2 (i := i) (by omega)
  have hsc := fun j => sweep_cl hok ((i + 1 : Nat) : Int) j
  have hsr := sweep_room (gTb h i) ((i + 1 : Nat) : Int)
  have hcn := sweep_cnt hok ((i + 1 : Nat) : Int)
  have hz : (sweepD (gTb h i) ((i + 1 : Nat) : Int)).cl (i + 1) = zV := by
    rw [hsc]
    have e : (gTb h i).cl (i + 1) = zV := by show gCl h i (i + 1) = zV; unfold gCl; rw [if_neg (by omega)]
    rw [e]; split <;> rfl
  have hic : isC (sweepD (gTb h i) ((i + 1 : Nat) : Int)) ((i + 1 : Nat) : Int) = false := by
    rw [isC_at (sweep_ok hok _), hz]; rfl
  have hnone : noneI (i + 1) 1 = false := by unfold noneI; rw [decide_eq_false (by omega)]; rfl
  have hg := grantE_yes (k := gTb h i) (id := ((i + 1 : Nat) : Int)) (ip := i + 1) (pt := 1) (now := ((i + 1 : Nat) : Int)) (nodeI_iff.2 (by omega)) hnone (by omega) (by
    rintro ⟨_, hr⟩
    have : (gTb h i).room = 8 := rfl
    omega)
  have hD : grantD (gTb h i) ((i + 1 : Nat) : Int) (i + 1) 1 ((i + 1 : Nat) : Int) = gTb h (i + 1) := by
    rw [hg.2.2]
    refine tb_ext (by show (sweepD (gTb h i) _).room = 8; rw [hsr.1]; rfl) (by show (sweepD (gTb h i) _).hold = h; rw [hsr.2]; rfl) (fun j => ?_)
    show upd (sweepD (gTb h i) ((i + 1 : Nat) : Int)).cl (((i + 1 : Nat) : Int)).toNat _ j = gCl h (i + 1) j
    rw [Int.toNat_natCast]
    by_cases e : j = i + 1
    · subst e
      rw [upd_same]
      unfold gCl; rw [if_pos ⟨by omega, by omega, by omega⟩]; rfl
    · rw [upd_ne e, hsc]
      show (if ((gCl h i j).tm ≤ ((i + 1 : Nat) : Int) ∧ isV (gCl h i j) = true) then zV else gCl h i j) = gCl h (i + 1) j
      by_cases c : 1 ≤ j ∧ j ≤ i ∧ (i : Int) < j + h
      · have eg : gCl h i j = cj h j := by unfold gCl; rw [if_pos c]
        rw [eg, cj_is c.1 (by omega)]
        show (if ((j : Int) + h ≤ ((i + 1 : Nat) : Int) ∧ true = true) then zV else cj h j) = gCl h (i + 1) j
        by_cases d : (j : Int) + h ≤ ((i + 1 : Nat) : Int)
        · rw [if_pos ⟨d, rfl⟩]; unfold gCl; rw [if_neg (by omega)]
        · rw [if_neg (fun q => d q.1)]; unfold gCl; rw [if_pos ⟨by omega, by omega, by omega⟩]
      · have eg : gCl h i j = zV := by unfold gCl; rw [if_neg c]
        rw [eg]
        have e2 : gCl h (i + 1) j = zV := by unfold gCl; rw [if_neg (by omega)]
        rw [e2]; split <;> rfl
  refine ⟨hg.1, hg.2.1, hD, ?_⟩
  rw [← hD, hg.2.2]
  show (allV (upd (sweepD (gTb h i) ((i + 1 : Nat) : Int)).cl (((i + 1 : Nat) : Int)).toNat _)).length ≤ i + 1
  have hcu := cnt_upd (sweepD (gTb h i) ((i + 1 : Nat) : Int)).cl (i := (((i + 1 : Nat) : Int)).toNat) (by omega) ⟨((i + 1 : Nat) : Int), i + 1, 1, ((i + 1 : Nat) : Int) + (gTb h i).hold⟩
  split at hcu <;> omega
/-- those left of whom the first i bits release nobody -/
def rCl (x h : Int) (i : Nat) : Nat → Vt := fun j => if (1 ≤ j ∧ j ≤ 8 ∧ (8 : Int) < j + h) ∧ ¬ (j ≤ i ∧ bitOn x (j - 1) = true) then cj h j else zV
def rTb (x h : Int) (i : Nat) : Tb := ⟨8, h, rCl x h i⟩
theorem rTb_zero (x h : Int) : gTb h 8 = rTb x h 0 := by
  refine tb_ext rfl rfl (fun j => ?_)
  show gCl h 8 j = rCl x h 0 j
  unfold gCl rCl
  by_cases c : 1 ≤ j ∧ j ≤ 8 ∧ ((8 : Nat) : Int) < j + h
  · rw [if_pos c, if_pos ⟨⟨c.1, c.2.1, by omega⟩, by omega⟩]
  · rw [if_neg c, if_neg (fun e => c ⟨e.1.1, e.1.2.1, by omega⟩)]
theorem rTb_ok (x : Int) {h : Int} (h1 : 1 ≤ h) (h2 : h ≤ 40) (i : Nat) : OkT (rTb x h i) := by
  refine ⟨by show (1 : Int) ≤ 8; omega, by show (8 : Int) ≤ 8; omega, h1, by show h ≤ 1000000; omega, fun j => ?_⟩
  show rCl x h i j = zV ∨ OkV j (rCl x h i j)
  unfold rCl; split
  · exact .inr (cj_ok h1 h2 (by omega) (by omega))
  · exact .inl rfl
theorem r_yes {x h : Int} (h1 : 1 ≤ h) (h2 : h ≤ 40) {i : Nat} (hb : bitOn x i = true) : relD (rTb x h i) ((i + 1 : Nat) : Int) = rTb x h (i + 1) := by
  have hr := rel_room (rTb x h i) ((i + 1 : Nat) : Int)
  refine tb_ext hr.1 hr.2 (fun j => ?_)
  rw [rel_cl (rTb_ok x h1 h2 i)]
  show (if (j : Int) = ((i + 1 : Nat) : Int) then zV else rCl x h i j) = rCl x h (i + 1) j
  by_cases e : j = i + 1
  · subst e
    rw [if_pos rfl]
    unfold rCl; rw [if_neg]
    rintro ⟨_, c⟩; exact c ⟨by omega, by simpa using hb⟩
  · rw [if_neg (by omega)]
    unfold rCl
    by_cases c : (1 ≤ j ∧ j ≤ 8 ∧ (8 : Int) < j + h) ∧ ¬ (j ≤ i ∧ bitOn x (j - 1) = true)
    · rw [if_pos c, if_pos ⟨c.1, fun d => c.2 ⟨by omega, d.2⟩⟩]
    · rw [if_neg c, if_neg (fun d => c ⟨d.1, fun q => d.2 ⟨by omega, q.2⟩⟩)]
theorem r_no {x h : Int} {i : Nat} (hb : bitOn x i = false) : rTb x h i = rTb x h (i + 1) := by
  refine tb_ext rfl rfl (fun j => ?_)
  show rCl x h i j = rCl x h (i + 1) j
  unfold rCl
  by_cases e : j = i + 1
  · subst e
    by_cases c : 1 ≤ i + 1 ∧ i + 1 ≤ 8 ∧ (8 : Int) < (i + 1 : Nat) + h
    · rw [if_pos ⟨c, by omega⟩, if_pos ⟨c, fun d => by have := d.2; simp only [Nat.add_sub_cancel] at this; rw [hb] at this; exact absurd this (by simp)⟩]
    · rw [if_neg (fun d => c d.1), if_neg (fun d => c d.1)]
  · by_cases c : (1 ≤ j ∧ j ≤ 8 ∧ (8 : Int) < j + h) ∧ ¬ (j ≤ i ∧ bitOn x (j - 1) = true)
    · rw [if_pos c, if_pos ⟨c.1, fun d => c.2 ⟨by omega, d.2⟩⟩]
    · rw [if_neg c, if_neg (fun d => c ⟨d.1, fun q => d.2 ⟨by omega, q.2⟩⟩)]
theorem r_of {x h : Int} (h1 : 1 ≤ h) (h2 : h ≤ 40) {i : Nat} (hi : i < 8) {at_ : Int} (ha : 8 ≤ at_) : ofB (rTb x h 8) ((i + 1 : Nat) : Int) at_ = (!bitOn x i && decide (at_ < ((i + 1 : Nat) : Int) + h)) := by
  unfold ofB
  rw [isC_at (rTb_ok x h1 h2 8), Int.toNat_natCast]
  show (isV (rCl x h 8 (i + 1)) && decide (at_ < (rCl x h 8 (i + 1)).tm)) = _
  cases hb : bitOn x i with
  | true =>
    have e : rCl x h 8 (i + 1) = zV := by unfold rCl; rw [if_neg]; rintro ⟨_, c⟩; exact c ⟨by omega, by simpa using hb⟩
    rw [e, isV_z]; rfl
  | false =>
    by_cases c : (8 : Int) < ((i + 1 : Nat) : Int) + h
    · have e : rCl x h 8 (i + 1) = cj h (i + 1) := by
        unfold rCl; rw [if_pos ⟨⟨by omega, by omega, c⟩, fun d => by have := d.2; simp only [Nat.add_sub_cancel] at this; rw [hb] at this; exact absurd this (by simp)⟩]
      rw [e, cj_is (by omega) (by omega)]; rfl
    · have e : rCl x h 8 (i + 1) = zV := by unfold rCl; rw [if_neg (fun d => c d.1.2.2)]
      rw [e, isV_z, show decide (at_ < ((i + 1 : Nat) : Int) + h) = false from decide_eq_false (by omega)]; rfl
theorem r_all {x h : Int} {v : Vt} (hv : v ∈ allV (rTb x h 8).cl) : ∃ j : Nat, 1 ≤ j ∧ j ≤ 8 ∧ v = cj h j ∧ bitOn x (j - 1) = false := by
  obtain ⟨j, hj, rfl, hq⟩ := mem_all.1 hv
  have hq' : isV (rCl x h 8 j) = true := hq
  show ∃ j' : Nat, 1 ≤ j' ∧ j' ≤ 8 ∧ rCl x h 8 j = cj h j' ∧ bitOn x (j' - 1) = false
  by_cases c : (1 ≤ j ∧ j ≤ 8 ∧ (8 : Int) < j + h) ∧ ¬ (j ≤ 8 ∧ bitOn x (j - 1) = true)
  · refine ⟨j, c.1.1, c.1.2.1, by unfold rCl; rw [if_pos c], ?_⟩
    cases hb : bitOn x (j - 1) with
    | false => rfl
    | true => exact absurd ⟨c.1.2.1, hb⟩ c.2
  · have e : rCl x h 8 j = zV := by unfold rCl; rw [if_neg c]
    rw [e, isV_z] at hq'; exact absurd hq' (by simp)
/-- all of them rise -/
theorem all_rise {k : Tb} (h : OkT k) : (allV k.cl).Pairwise fun a b => a.who < b.who := by
  have key : ∀ n, (loV k.cl n).Pairwise (fun a b => a.who < b.who) ∧ ∀ v ∈ loV k.cl n, v.who < (n : Int) := by
    intro n
    induction n with
    | zero => exact ⟨by simp [loV], by simp [loV]⟩
    | succ n ih =>
      cases c : isV (k.cl n) with
      | false => rw [lo_no c]; exact ⟨ih.1, fun v hv => by have := ih.2 v hv; omega⟩
      | true =>
        have hw := (h.yes n c).who
        rw [lo_yes c]
        refine ⟨List.pairwise_append.2 ⟨ih.1, List.pairwise_singleton _ _, fun a ha b hb => ?_⟩, fun v hv => ?_⟩
        · obtain rfl := List.mem_singleton.1 hb
          have := ih.2 a ha; omega
        · rcases List.mem_append.1 hv with hv | hv
          · have := ih.2 v hv; omega
          · obtain rfl := List.mem_singleton.1 hv; omega
  exact (key 33).1
theorem isC_zero {k : Tb} : isC k 0 = false := rfl
theorem isC_33 {k : Tb} : isC k 33 = false := rfl
theorem rel_none {k : Tb} {id : Int} (h : isC k id = false) : relD k id = k := by unfold relD; rw [h]; rfl
end Go.Proofs.Ytdehpiaokjihjaa
