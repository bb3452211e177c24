/- Plain mathematics: eight paths, some wanted, some open; bits of a number. -/
import Derived.Test.YtpeoallhbbleaaaPaOne
namespace Go.Proofs.Ytpeoallhbbleaaa
set_option linter.unusedVariables false
set_option linter.unusedSimpArgs false

/-- is bit k of x set? -/
def bitOn (x : Int) (k : Nat) : Bool := decide (x / 2 ^ k % 2 = 1)
theorem bit_yes {x : Int} {k : Nat} (hx : 0 ≤ x) (h : bitOn x k = true) : ((x / 2 ^ k).tmod 2 == 1) = true ∧ ((x / 2 ^ k).tmod 2 == 0) = false := by
  have h1 : 0 ≤ x / 2 ^ k := Int.ediv_nonneg hx (Int.pow_nonneg (by decide))
  have h2 : x / 2 ^ k % 2 = 1 := of_decide_eq_true h
  rw [tmod_pos _ _ h1, h2]; exact ⟨rfl, rfl⟩
theorem bit_no {x : Int} {k : Nat} (hx : 0 ≤ x) (h : bitOn x k = false) : ((x / 2 ^ k).tmod 2 == 1) = false ∧ ((x / 2 ^ k).tmod 2 == 0) = true := by
  have h1 : 0 ≤ x / 2 ^ k := Int.ediv_nonneg hx (Int.pow_nonneg (by decide))
  have h2 : ¬ x / 2 ^ k % 2 = 1 := of_decide_eq_false h
  have h3 : x / 2 ^ k % 2 = 0 := by omega
  rw [tmod_pos _ _ h1, h3]; exact ⟨rfl, rfl⟩
/-- what is wanted, what is open, of the first n -/
def opn (j : Nat) : Pt := ⟨j, 3, 0, 3, 3, 4, 20⟩
def wnt (j : Nat) : Pt := ⟨j, 2, 0, 0, 0, 0, 0⟩
def kM : Tk := newK 2 3 4 20
def mP (a b : Nat → Bool) (n : Nat) : Nat → Pt := fun j => if 1 ≤ j ∧ j ≤ n then (if b (j - 1) = true then opn j else if a (j - 1) = true then wnt j else zP) else zP
def mK (a b : Nat → Bool) (n : Nat) : Tk := { kM with p := mP a b n }
theorem mK_zero (a b : Nat → Bool) : mK a b 0 = kM := by
  unfold mK mP
  have : (fun j => if 1 ≤ j ∧ j ≤ 0 then (if b (j - 1) = true then opn j else if a (j - 1) = true then wnt j else zP) else zP) = fun _ => zP := by
    funext j; rw [if_neg (by omega)]
  rw [this]; rfl
theorem mP_at (a b : Nat → Bool) (n : Nat) : mP a b n (n + 1) = zP := by unfold mP; rw [if_neg (by omega)]
theorem mP_succ (a b : Nat → Bool) (n : Nat) (x : Pt) (hx : x = if b n = true then opn (n + 1) else if a n = true then wnt (n + 1) else zP) : setP (mK a b n) (n + 1) x = mK a b (n + 1) := by
  unfold setP mK
  congr 1
  funext j
  show upd (mP a b n) (n + 1) x j = mP a b (n + 1) j
  by_cases e : j = n + 1
  · subst e
    rw [upd_same, hx]
    unfold mP
    rw [if_pos (show 1 ≤ n + 1 ∧ n + 1 ≤ n + 1 by omega)]; rfl
  · rw [upd_ne e]
    unfold mP
    by_cases h : 1 ≤ j ∧ j ≤ n
    · rw [if_pos h, if_pos (show 1 ≤ j ∧ j ≤ n + 1 by omega)]
    · rw [if_neg h, if_neg (show ¬ (1 ≤ j ∧ j ≤ n + 1) by omega)]
theorem mP_same (a b : Nat → Bool) (n : Nat) (ha : a n = false) (hb : b n = false) : mK a b n = mK a b (n + 1) := by
  rw [← mP_succ a b n zP (by rw [ha, hb]; rfl)]
  unfold setP
  have : upd (mK a b n).p (n + 1) zP = (mK a b n).p := by
    have h := upd_self (mK a b n).p (n + 1)
    rwa [show (mK a b n).p (n + 1) = zP from mP_at a b n] at h
  rw [this]
/-- one more is wanted; one more is open -/
theorem m_want (a b : Nat → Bool) {n : Nat} (hn : n < 8) : wantE (mK a b n) ((n + 1 : Nat) : Int) 0 = 0 ∧ wantD (mK a b n) ((n + 1 : Nat) : Int) 0 = setP (mK a b n) (n + 1) (wnt (n + 1)) := by
  have e : wantE (mK a b n) ((n + 1 : Nat) : Int) 0 = 0 := by
    unfold wantE
    rw [badC_ok (by omega) (by omega) (by decide), if_neg (by decide)]
    unfold isP
    rw [Int.toNat_natCast, show (mK a b n).p (n + 1) = zP from mP_at a b n, isS_z, Bool.and_false, if_neg (by decide)]
  refine ⟨e, ?_⟩
  unfold wantD
  rw [if_pos e, Int.toNat_natCast]; rfl
theorem m_open (k : Tk) (hk : k.keep = 4 ∧ k.hold = 20) {n : Nat} (hn : n < 8) : openE ((n + 1 : Nat) : Int) 3 3 0 = 0 ∧ openD k ((n + 1 : Nat) : Int) 3 3 0 = setP k (n + 1) (opn (n + 1)) := by
  have e : openE ((n + 1 : Nat) : Int) 3 3 0 = 0 := by
    unfold openE
    rw [badC_ok (by omega) (by omega) (by decide), if_neg (by decide)]
  refine ⟨e, ?_⟩
  unfold openD
  rw [if_pos e, Int.toNat_natCast, hk.1, hk.2]; rfl
theorem set_set (k : Tk) (i : Nat) (x y : Pt) : setP (setP k i x) i y = setP k i y := by unfold setP; simp only [upd_upd]
/-- how many of the first n -/
def cnt (q : Nat → Bool) : Nat → Nat
  | 0 => 0
  | n + 1 => cnt q n + if q n = true then 1 else 0
theorem cnt_le (q : Nat → Bool) : ∀ n, cnt q n ≤ n
  | 0 => Nat.le_refl _
  | n + 1 => by
    have := cnt_le q n
    unfold cnt; split <;> omega
theorem lo_cnt (f : Nat → Pt) : ∀ n, (loP f n).length = cnt (fun j => isS (f j)) n
  | 0 => rfl
  | n + 1 => by
    have ih := lo_cnt f n
    unfold cnt
    cases hs : isS (f n) with
    | true => rw [lo_yes hs, List.length_append, ih]; rfl
    | false => rw [lo_no hs, ih]; rfl
theorem cnt_shift {q r : Nat → Bool} (h0 : q 0 = false) (h : ∀ j, q (j + 1) = r j) : ∀ n, cnt q (n + 1) = cnt r n
  | 0 => by unfold cnt cnt; rw [h0]; rfl
  | n + 1 => by
    have ih := cnt_shift h0 h n
    show cnt q (n + 1) + (if q (n + 1) = true then 1 else 0) = cnt r n + if r n = true then 1 else 0
    rw [ih, h]
theorem cnt_stop {q : Nat → Bool} {m : Nat} (h : ∀ j, m ≤ j → q j = false) : ∀ d, cnt q (m + d) = cnt q m
  | 0 => rfl
  | d + 1 => by
    have ih := cnt_stop h d
    rw [← Nat.add_assoc, cnt, h _ (by omega), ih]; rfl
/-- the paths at a time: ahead of Due of now -/
structure MInv (a b : Nat → Bool) (now : Int) (k : Tk) : Prop where
  ok : OkK k
  is : ∀ j, isS (k.p j) = (decide (1 ≤ j ∧ j ≤ 8) && (a (j - 1) || b (j - 1)))
  d3 : ∀ j, (k.p j).st = 3 → b (j - 1) = true ∧ (k.p j).un = 20
  b3 : ∀ j, 1 ≤ j → j ≤ 8 → b (j - 1) = true → now ≤ 20 → (k.p j).st = 3
theorem m_start (a b : Nat → Bool) (hok : OkK (mK a b 8)) : MInv a b 0 (mK a b 8) := by
  refine ⟨hok, fun j => ?_, fun j hj => ?_, fun j h1 h2 hb _ => ?_⟩
  · show isS (mP a b 8 j) = _
    unfold mP
    by_cases h : 1 ≤ j ∧ j ≤ 8
    · rw [if_pos h, decide_eq_true h, Bool.true_and]
      cases b (j - 1) with
      | true => rw [if_pos rfl, Bool.or_true]; rfl
      | false =>
        cases a (j - 1) with
        | true => rfl
        | false => rfl
    · rw [if_neg h, decide_eq_false h]; rfl
  · have hj : (mP a b 8 j).st = 3 := hj
    show b (j - 1) = true ∧ (mP a b 8 j).un = 20
    unfold mP at hj ⊢
    by_cases h : 1 ≤ j ∧ j ≤ 8
    · rw [if_pos h] at hj ⊢
      cases hb : b (j - 1) with
      | true => rw [if_pos rfl]; exact ⟨rfl, rfl⟩
      | false =>
        rw [hb, if_neg (by decide)] at hj
        cases ha : a (j - 1) with
        | true => rw [ha, if_pos rfl] at hj; exact absurd hj (show ¬ (2 : Int) = 3 by decide)
        | false => rw [ha, if_neg (by decide)] at hj; exact absurd hj (show ¬ (0 : Int) = 3 by decide)
    · rw [if_neg h] at hj; exact absurd hj (by decide)
  · show (mP a b 8 j).st = 3
    unfold mP
    rw [if_pos ⟨h1, h2⟩, hb, if_pos rfl]; rfl
theorem try_st (k : Tk) (x : Pt) (now : Int) (h : x.st = 2) : (tryX k x now).st ≠ 3 ∧ isS (tryX k x now) = true := by
  unfold tryX
  split
  · exact ⟨by show (1 : Int) ≠ 3; decide, rfl⟩
  · refine ⟨by show x.st ≠ 3; omega, ?_⟩
    unfold isS; show (!(x.st == 0)) = true
    rw [h]; rfl
theorem step_is (k : Tk) (x : Pt) (now : Int) (hs : isS x = true) : isS (stepX k x now) = true := by
  unfold stepX
  split
  · exact (try_st k x now (by assumption)).2
  · split
    · exact hs
    · exact (try_st k (freshX x) now rfl).2
/-- a path that is direct behind a step was so ahead of it -/
theorem step_dir {k : Tk} {x : Pt} {now : Int} (h : (stepX k x now).st = 3) : x.st = 3 ∧ (stepX k x now).un = x.un := by
  unfold stepX at h ⊢
  split at h
  · exact absurd h (try_st k x now (by assumption)).1
  · rename_i h2
    rw [if_neg h2]
    split at h
    · rename_i h3
      rw [if_pos h3]; exact ⟨h3.1, rfl⟩
    · exact absurd h (try_st k (freshX x) now rfl).1
theorem due_p (k : Tk) {now : Int} (hn : now ≤ 4611686018427387904) (j : Nat) : (dueD k now).p j = if j < 33 then dueX k (k.p j) now else k.p j := by
  unfold dueD; rw [if_neg (by omega)]; rfl
theorem m_next {a b : Nat → Bool} {now : Int} {k : Tk} (h : MInv a b now k) (n0 : 0 ≤ now) (n1 : now ≤ 1000) : MInv a b (now + 1) (dueD k now) := by
  refine ⟨due_ok h.ok now n0, fun j => ?_, fun j hj => ?_, fun j h1 h2 hb hn => ?_⟩
  · rw [← h.is j, due_p k (by omega)]
    split
    · unfold dueX
      split
      · rename_i hd
        unfold isD at hd
        rw [Bool.and_eq_true] at hd
        rw [step_is k _ now hd.1, hd.1]
      · rfl
    · rfl
  · rw [due_p k (by omega)] at hj ⊢
    split at hj
    · rename_i hlt
      rw [if_pos hlt]
      unfold dueX at hj ⊢
      split at hj
      · rename_i hd
        rw [if_pos hd]
        have := step_dir hj
        rw [this.2]
        exact h.d3 j this.1
      · rename_i hd
        rw [if_neg hd]
        exact h.d3 j hj
    · rename_i hlt
      rw [if_neg hlt]
      exact h.d3 j hj
  · rw [due_p k (by omega), if_pos (by omega)]
    have h3 := h.b3 j h1 h2 hb (by omega)
    unfold dueX
    split
    · unfold stepX
      rw [if_neg (by omega), if_pos ⟨h3, by rw [(h.d3 j h3).2]; omega⟩]
      exact h3
    · exact h3
theorem mem_loD {k : Tk} {now : Int} {x : Int × Int} : ∀ {n : Nat}, x ∈ loD k now n → ∃ j, j < n ∧ x = ((j : Int), dueK k (k.p j) now) ∧ dueK k (k.p j) now ≠ 0
  | 0, h => by simp [loD] at h
  | n + 1, h => by
    unfold loD at h
    split at h
    · obtain ⟨j, h1, h2⟩ := mem_loD h
      exact ⟨j, by omega, h2⟩
    · rename_i hne
      rcases List.mem_append.1 h with h | h
      · obtain ⟨j, h1, h2⟩ := mem_loD h
        exact ⟨j, by omega, h2⟩
      · rw [List.mem_singleton] at h
        exact ⟨n, by omega, h, hne⟩
theorem loD_rise (k : Tk) (now : Int) : ∀ n, (loD k now n).Pairwise fun x y => x.1 < y.1
  | 0 => by simp [loD]
  | n + 1 => by
    have ih := loD_rise k now n
    unfold loD
    split
    · exact ih
    · refine List.pairwise_append.2 ⟨ih, List.pairwise_singleton _ _, fun x hx y hy => ?_⟩
      obtain ⟨j, h1, h2, _⟩ := mem_loD hx
      rw [List.mem_singleton] at hy
      subst hy h2
      show (j : Int) < n; omega
/-- what is told: of whom, and what -/
structure MOne (b : Nat → Bool) (now : Int) (p kd : Int) : Prop where
  p : ∃ j : Nat, j < 8 ∧ p = ((j + 1 : Nat) : Int) ∧ ((kd = 2 ∧ b j = true) ∨ (kd = 1 ∧ (b j = true → 20 ≤ now)))
theorem m_one {a b : Nat → Bool} {now : Int} {k : Tk} (h : MInv a b now k) (n1 : now ≤ 1000) {x : Int × Int} (hx : x ∈ dueL k now) : MOne b now x.1 x.2 := by
  unfold dueL at hx
  rw [if_neg (by omega)] at hx
  obtain ⟨j, h1, h2, h3⟩ := mem_loD hx
  subst h2
  have hd : isD (k.p j) now = true := by
    cases e : isD (k.p j) now with
    | true => rfl
    | false => unfold dueK at h3; rw [e, if_neg (by decide)] at h3; exact absurd rfl h3
  have hs : isS (k.p j) = true := by unfold isD at hd; rw [Bool.and_eq_true] at hd; exact hd.1
  have hj := h.is j
  rw [hs] at hj
  have hj := (Bool.and_eq_true _ _).mp hj.symm
  have hj := of_decide_eq_true hj.1
  refine ⟨j - 1, by omega, by show (j : Int) = _; omega, ?_⟩
  show (dueK k (k.p j) now = 2 ∧ _) ∨ (dueK k (k.p j) now = 1 ∧ _)
  have e1 : dueK k (k.p j) now = stepK k (k.p j) now := by unfold dueK; rw [hd, if_pos rfl]
  rw [e1] at h3 ⊢
  have tk : ∀ y, tryK k y = 0 ∨ tryK k y = 1 := fun y => by unfold tryK; split <;> simp
  by_cases c : (k.p j).st = 3
  · have hb := h.d3 j c
    by_cases hu : now < (k.p j).un
    · refine .inl ⟨?_, hb.1⟩
      unfold stepK; rw [if_neg (by omega), if_pos ⟨c, hu⟩]
    · refine .inr ⟨?_, fun _ => by rw [hb.2] at hu; omega⟩
      have e2 : stepK k (k.p j) now = tryK k (freshX (k.p j)) := by unfold stepK; rw [if_neg (by omega), if_neg (by omega)]
      rw [e2] at h3 ⊢
      rcases tk (freshX (k.p j)) with h4 | h4
      · exact absurd h4 h3
      · exact h4
  · refine .inr ⟨?_, fun hb => ?_⟩
    · have e2 : ∃ y, stepK k (k.p j) now = tryK k y := by
        unfold stepK
        split
        · exact ⟨_, rfl⟩
        · rw [if_neg (fun h => c h.1)]; exact ⟨_, rfl⟩
      obtain ⟨y, e2⟩ := e2
      rw [e2] at h3 ⊢
      rcases tk y with h4 | h4
      · exact absurd h4 h3
      · exact h4
    · by_cases h4 : 20 ≤ now
      · exact h4
      · exact absurd (h.b3 j hj.1 hj.2 hb (by omega)) c
theorem m_rise (k : Tk) (now : Int) (hn : now ≤ 1000) : (dueL k now).Pairwise fun x y => x.1 < y.1 := by
  unfold dueL; rw [if_neg (by omega)]; exact loD_rise k now 33
/-- where nothing is due -/
theorem idle_D {k : Tk} {now : Int} (h : ∀ j, j < 33 → isD (k.p j) now = false) (hn : now ≤ 1000) : dueL k now = [] ∧ dueD k now = k := by
  have hl : ∀ n, n ≤ 33 → loD k now n = [] := by
    intro n
    induction n with
    | zero => intro _; rfl
    | succ n ih =>
      intro hn
      rw [loD_no (by unfold dueK; rw [h n (by omega), if_neg (by decide)]), ih (by omega)]
  refine ⟨by unfold dueL; rw [if_neg (by omega)]; exact hl 33 (Nat.le_refl _), ?_⟩
  unfold dueD
  rw [if_neg (by omega)]
  unfold midD
  have : (fun j => if j < 33 then dueX k (k.p j) now else k.p j) = k.p := by
    funext j
    split
    · rename_i hj
      unfold dueX; rw [h j hj, if_neg (by decide)]
    · rfl
  rw [this]
theorem m_again {k : Tk} (h : OkK k) {now : Int} (hn : now ≤ 1000) : (dueL (dueD k now) now).length = 0 ∧ dueD (dueD k now) now = dueD k now := by
  have := idle_D (k := dueD k now) (now := now) (fun j hj => by rw [due_p k (by omega), if_pos hj]; exact due_nx h j) hn
  exact ⟨by rw [this.1]; rfl, this.2⟩
theorem m_all {a b : Nat → Bool} {now : Int} {k : Tk} (h : MInv a b now k) : (allP k.p).length = cnt (fun j => a j || b j) 8 := by
  unfold allP
  rw [lo_cnt]
  have e : (fun j => isS (k.p j)) = fun j => (decide (1 ≤ j ∧ j ≤ 8) && (a (j - 1) || b (j - 1))) := funext h.is
  rw [e, show (33 : Nat) = 9 + 24 from rfl, cnt_stop (m := 9) (fun j hj => by rw [decide_eq_false (by omega)]; rfl)]
  show cnt _ (8 + 1) = _
  rw [show cnt (fun j => decide (1 ≤ j ∧ j ≤ 8) && (a (j - 1) || b (j - 1))) (8 + 1) = cnt (fun j => decide (j < 8) && (a j || b j)) 8 from cnt_shift rfl (fun j => by
    show (decide (1 ≤ j + 1 ∧ j + 1 ≤ 8) && (a j || b j)) = (decide (j < 8) && (a j || b j))
    congr 1
    exact decide_eq_decide.2 (by omega)) 8]
  have cg : ∀ n, n ≤ 8 → cnt (fun j => decide (j < 8) && (a j || b j)) n = cnt (fun j => a j || b j) n := by
    intro n
    induction n with
    | zero => intro _; rfl
    | succ n ih =>
      intro hn
      rw [cnt, cnt, ih (by omega), decide_eq_true (show n < 8 by omega), Bool.true_and]
  exact cg 8 (Nat.le_refl _)
end Go.Proofs.Ytpeoallhbbleaaa
