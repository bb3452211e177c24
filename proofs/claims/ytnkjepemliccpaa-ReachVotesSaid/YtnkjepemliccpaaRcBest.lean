/- Plain mathematics: who voted for which of five addresses, and when; the one that most votes are of. -/
import Derived.Test.YtnkjepemliccpaaRcEx
namespace Go.Proofs.Ytnkjepemliccpaa
set_option linter.unusedVariables false
set_option linter.unusedSimpArgs false

def rowF (n : Nat) (f : Nat → Value) : List Value := (List.range n).map f
theorem rowF_congr {n : Nat} {a b : Nat → Value} (h : ∀ k, k < n → a k = b k) : rowF n a = rowF n b := List.map_congr_left fun k hk => h k (by simpa using hk)
theorem rowF_len (n : Nat) (f : Nat → Value) : (rowF n f).length = n := by simp [rowF]
theorem rowF_set (n : Nat) (f : Nat → Value) (p : Nat) (x : Value) : (rowF n f).set p x = rowF n (fun k => if k = p then x else f k) := by
  unfold rowF
  refine List.ext_getElem (by simp) fun i h1 h2 => ?_
  rw [List.getElem_set]
  by_cases h : p = i
  · subst h; simp
  · rw [if_neg h]
    have : ¬ i = p := fun e => h e.symm
    simp [this]
theorem rowF_at (n : Nat) (f : Nat → Value) (p : Nat) (hp : p < n) : (rowF n f)[p]? = some (f p) := by
  unfold rowF
  rw [List.getElem?_map, List.getElem?_range hp]; rfl
def updN (f : Nat → Nat) (i : Nat) (x : Nat) : Nat → Nat := fun j => if j = i then x else f j
theorem updN_same (f : Nat → Nat) (i x : Nat) : updN f i x i = x := by unfold updN; rw [if_pos rfl]
theorem updN_ne {f : Nat → Nat} {i j x : Nat} (h : j ≠ i) : updN f i x j = f j := by unfold updN; rw [if_neg h]
def voteOf (W A : Nat → Nat) : Nat → Vt := fun j => if 0 < W j then ⟨j, W j, 9, A j⟩ else zV
def kW (W A : Nat → Nat) : Rc := ⟨2, 20, voteOf W A, [], false, 0, false⟩
structure OkW (W A : Nat → Nat) : Prop where
  w5 : ∀ j, W j ≤ 5
  a29 : ∀ j, A j ≤ 29
  w0 : W 0 = 0
theorem okW_zero : OkW (fun _ => 0) (fun _ => 0) := ⟨fun _ => by omega, fun _ => by omega, rfl⟩
theorem okW_put {W A : Nat → Nat} (h : OkW W A) {k x i : Nat} (hk : 1 ≤ k) (hx : x ≤ 5) (hi : i ≤ 29) : OkW (updN W k x) (updN A k i) := by
  refine ⟨fun j => ?_, fun j => ?_, ?_⟩
  · unfold updN; split
    · exact hx
    · exact h.w5 j
  · unfold updN; split
    · exact hi
    · exact h.a29 j
  · rw [updN_ne (by omega)]; exact h.w0
theorem kW_zero : newR 2 20 = kW (fun _ => 0) (fun _ => 0) := rfl
theorem see_kW (W A : Nat → Nat) {k x i : Nat} (hk1 : 1 ≤ k) (hk2 : k ≤ 32) (hx : 1 ≤ x) (hi : i ≤ 29) : seeE k x 9 i = 0 ∧ seeD (kW W A) k x 9 i = kW (updN W k x) (updN A k i) := by
  have hn : noneI x 9 = false := by unfold noneI; rw [decide_eq_false (by omega)]; rfl
  have h := seeD_yes (k := kW W A) (i := k) (ip := x) (pt := 9) (now := i) hk1 hk2 hn (by omega)
  refine ⟨h.1, ?_⟩
  rw [h.2]
  show Rc.mk _ _ (updV (voteOf W A) k _) _ _ _ _ = Rc.mk _ _ _ _ _ _ _
  congr 1
  funext j
  by_cases e : j = k
  · subst e
    rw [updV_same]
    unfold voteOf
    rw [updN_same, updN_same, if_pos (by omega)]
  · rw [updV_ne e]
    unfold voteOf
    rw [updN_ne e, updN_ne e]
/-! how many of those below k voted for c, not too long ago -/
def hitB (W A : Nat → Nat) (t c j : Nat) : Bool := decide (0 < W j ∧ t < A j + 20) && decide (W j = c)
def cM (W A : Nat → Nat) (t k c : Nat) : Nat := (List.range k).countP (hitB W A t c)
theorem cM_succ (W A : Nat → Nat) (t k c : Nat) : cM W A t (k + 1) c = cM W A t k c + if hitB W A t c k = true then 1 else 0 := by
  unfold cM
  rw [List.range_succ, List.countP_append, List.countP_singleton]
theorem cM_le (W A : Nat → Nat) (t k c : Nat) : cM W A t k c ≤ k := by
  have := List.countP_le_length (p := hitB W A t c) (l := List.range k)
  rw [List.length_range] at this
  exact this
theorem cM_one {W A : Nat → Nat} (h : OkW W A) (t c : Nat) : cM W A t 1 c = 0 := by
  rw [cM_succ]
  have : hitB W A t c 0 = false := by unfold hitB; rw [h.w0]; simp
  rw [this]; rfl
theorem cM_none {W A : Nat → Nat} {t k c : Nat} (h : ¬ (0 < W k ∧ t < A k + 20)) : cM W A t (k + 1) c = cM W A t k c := by
  rw [cM_succ]
  have : hitB W A t c k = false := by unfold hitB; rw [decide_eq_false h]; rfl
  rw [this]; rfl
theorem cM_hit {W A : Nat → Nat} {t k c : Nat} (h : 0 < W k ∧ t < A k + 20) : cM W A t (k + 1) c = if c = W k then cM W A t k c + 1 else cM W A t k c := by
  rw [cM_succ]
  unfold hitB
  rw [decide_eq_true h, Bool.true_and]
  by_cases e : c = W k
  · rw [if_pos e, if_pos (decide_eq_true e.symm)]
  · rw [if_neg e, if_neg (by simpa using fun h => e h.symm)]; rfl
theorem cM_zero (W A : Nat → Nat) (t k : Nat) : cM W A t k 0 = 0 := by
  unfold cM
  rw [List.countP_eq_zero]
  intro j _
  unfold hitB
  simp only [Bool.and_eq_true, decide_eq_true_eq, not_and]
  omega
theorem isV_of {W A : Nat → Nat} (h : OkW W A) {j : Nat} (hj : j < 33) : isV (voteOf W A j) = decide (0 < W j) := by
  unfold voteOf
  by_cases e : 0 < W j
  · have hj0 : j ≠ 0 := fun e0 => by rw [e0, h.w0] at e; omega
    rw [if_pos e, decide_eq_true e]
    exact nodeI_iff.2 ⟨by show (1 : Int) ≤ j; omega, by show (j : Int) ≤ 32; omega⟩
  · rw [if_neg e, decide_eq_false e]; exact isV_z
theorem cnt_is {W A : Nat → Nat} (h : OkW W A) (t c : Nat) : cntL 20 t (allV (voteOf W A)) c 9 = cM W A t 33 c := by
  unfold cntL allV cM
  rw [List.countP_filter, List.countP_map]
  apply List.countP_congr
  intro j hj
  have hj2 : j < 33 := by simpa using hj
  show (cntB 20 t c 9 (voteOf W A j) && isV (voteOf W A j)) = true ↔ hitB W A t c j = true
  rw [isV_of h hj2]
  unfold hitB cntB
  by_cases e : 0 < W j
  · have hv : voteOf W A j = ⟨j, W j, 9, A j⟩ := by unfold voteOf; rw [if_pos e]
    rw [hv]
    unfold liveB sameA
    simp only [Bool.and_eq_true, decide_eq_true_eq]
    constructor
    · rintro ⟨⟨h1, h2⟩, h3⟩; exact ⟨⟨e, by omega⟩, h2.1⟩
    · rintro ⟨⟨h1, h2⟩, h3⟩; exact ⟨⟨by omega, h3, by trivial⟩, e⟩
  · simp only [Bool.and_eq_true, decide_eq_true_eq]
    constructor
    · rintro ⟨_, h3⟩; exact absurd h3 e
    · rintro ⟨⟨h1, _⟩, _⟩; exact absurd h1 e
theorem live_mem {W A : Nat → Nat} (h : OkW W A) {t : Nat} {v : Vt} (hv : v ∈ allV (voteOf W A)) : ∃ j, j < 33 ∧ 0 < W j ∧ v = ⟨j, W j, 9, A j⟩ := by
  obtain ⟨j, hj, rfl, hi⟩ := mem_all.1 hv
  rw [isV_of h hj] at hi
  have e : 0 < W j := by simpa using hi
  exact ⟨j, hj, e, by unfold voteOf; rw [if_pos e]⟩
/-- which of the addresses below k is the first of those with the most votes; 0: none has one -/
structure BestB (m : Nat → Nat) (k b : Nat) : Prop where
  lt : b < k
  zero : b = 0 → ∀ c, 1 ≤ c → c < k → m c = 0
  pos : 0 < b → 0 < m b
  max : ∀ c, 1 ≤ c → c < k → m c ≤ m b ∧ (c < b → m c < m b)
theorem bestB_start {m : Nat → Nat} : BestB m 1 0 := ⟨by omega, fun _ c h1 h2 => by omega, fun h => by omega, fun c h1 h2 => by omega⟩
theorem bestB_new {m : Nat → Nat} {k b : Nat} (h : BestB m k b) (hk : 1 ≤ k) (h0 : m 0 = 0) (hg : m b < m k) : BestB m (k + 1) k := by
  refine ⟨by omega, fun e => by omega, fun _ => by omega, fun c h1 h2 => ?_⟩
  by_cases e : c = k
  · subst e; exact ⟨Nat.le_refl _, fun h => by omega⟩
  · have h3 := (h.max c h1 (by omega)).1
    exact ⟨by omega, fun _ => by omega⟩
theorem bestB_keep {m : Nat → Nat} {k b : Nat} (h : BestB m k b) (hk : 1 ≤ k) (h0 : m 0 = 0) (hg : ¬ m b < m k) : BestB m (k + 1) b := by
  refine ⟨by have := h.lt; omega, fun e c h1 h2 => ?_, h.pos, fun c h1 h2 => ?_⟩
  · by_cases e2 : c = k
    · subst e2; subst e; omega
    · exact h.zero e c h1 (by omega)
  · by_cases e2 : c = k
    · subst e2; exact ⟨by omega, fun h3 => by have := h.lt; omega⟩
    · exact h.max c h1 (by omega)
/-- what is told then -/
theorem best_told {W A : Nat → Nat} (h : OkW W A) (t : Nat) {b : Nat} (hb : BestB (cM W A t 33) 6 b) :
    (b = 0 → addrR (kW W A) t = ⟨0, 0, 0⟩) ∧ (0 < b → ∃ n, 0 < n ∧ addrR (kW W A) t = ⟨b, 9, n⟩) := by
  have hI := best_is 20 t (allV (voteOf W A))
  have hA : addrR (kW W A) t = bestL 20 t (allV (voteOf W A)) := rfl
  rw [hA]
  -- a live one's count
  have cnt : ∀ v ∈ allV (voteOf W A), liveB 20 t v = true → 1 ≤ v.ip ∧ v.ip ≤ 5 ∧ v.pt = 9 ∧ 0 < cM W A t 33 v.ip ∧ cntL 20 t (allV (voteOf W A)) v.ip v.pt = cM W A t 33 v.ip := fun v hv hl => by
    obtain ⟨j, hj, e, rfl⟩ := live_mem h (t := t) hv
    have h1 := cnt_pos hv hl
    have h2 := cnt_is h t (W j)
    exact ⟨e, h.w5 j, rfl, by rw [← h2]; exact h1, h2⟩
  refine ⟨fun e => ?_, fun e => ?_⟩
  · rcases hI with ⟨h1, _⟩ | ⟨⟨v, hv, hl, _⟩, _⟩
    · exact h1
    · have hc := cnt v hv hl
      have := hb.zero e v.ip hc.1 (by omega)
      omega
  · have hp := hb.pos e
    have hlt := hb.lt
    -- somebody live voted for b
    have hex : ∃ u ∈ allV (voteOf W A), liveB 20 t u = true ∧ u.ip = b ∧ u.pt = 9 := by
      rw [← cnt_is h t b] at hp
      unfold cntL at hp
      rw [List.countP_pos_iff] at hp
      obtain ⟨u, hu, hc⟩ := hp
      unfold cntB sameA at hc
      rw [Bool.and_eq_true, decide_eq_true_eq] at hc
      exact ⟨u, hu, hc.1, hc.2.1, hc.2.2⟩
    obtain ⟨u, hu, hul, hub, hup⟩ := hex
    rcases hI with ⟨_, h1⟩ | ⟨⟨v, hv, hl, hvb⟩, h1⟩
    · rw [h1 u hu] at hul; simp at hul
    · have hc := cnt v hv hl
      have hcu := cnt u hu hul
      have h2 := h1 u hu hul
      rw [hvb] at h2 ⊢
      simp only at h2
      have h3 := hb.max v.ip hc.1 (by omega)
      have h4 : v.ip = b := by
        rw [hcu.2.2.2.2, hc.2.2.2.2, hub, hup, hc.2.2.1] at h2
        rcases h2 with h2 | ⟨h2, h5⟩
        · omega
        · unfold ordI at h5
          split at h5
          · rename_i e1; exact e1.1.symm
          · split at h5
            · omega
            · rename_i e1 e2
              rcases Nat.lt_trichotomy v.ip b with h6 | h6 | h6
              · have := h3.2 h6; omega
              · exact h6
              · exact absurd (Or.inl h6) e2
      refine ⟨cntL 20 t (allV (voteOf W A)) v.ip v.pt, by rw [hc.2.2.2.2]; exact hc.2.2.2.1, ?_⟩
      rw [hc.2.2.1, h4]
end Go.Proofs.Ytnkjepemliccpaa
