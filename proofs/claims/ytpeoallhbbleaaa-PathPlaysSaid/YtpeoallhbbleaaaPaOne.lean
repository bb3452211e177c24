/- Plain mathematics: a table with one path. -/
import Derived.Test.YtpeoallhbbleaaaPaMath
namespace Go.Proofs.Ytpeoallhbbleaaa
set_option linter.unusedVariables false
set_option linter.unusedSimpArgs false

def oneK (k : Tk) (i : Nat) (x : Pt) : Tk := { k with p := upd (fun _ => zP) i x }
theorem one_p (k : Tk) (i : Nat) (x : Pt) : (oneK k i x).p i = x := by simp only [oneK, upd_same]
theorem one_ne (k : Tk) {i j : Nat} (x : Pt) (h : j ≠ i) : (oneK k i x).p j = zP := by simp only [oneK, upd_ne h]
theorem one_set (k : Tk) (i : Nat) (x y : Pt) : setP (oneK k i x) i y = oneK k i y := by
  unfold setP oneK; simp only [upd_upd]
theorem one_z (k : Tk) (i : Nat) : oneK k i zP = { k with p := fun _ => zP } := by
  unfold oneK
  have : upd (fun _ => zP) i zP = fun _ => zP := upd_self (fun _ => zP) i
  rw [this]
theorem one_new (t b kp h : Int) (i : Nat) : newK t b kp h = oneK (newK t b kp h) i zP := by rw [one_z]; rfl
theorem one_one (k : Tk) (i : Nat) (x y : Pt) : oneK (oneK k i x) i y = oneK k i y := rfl
theorem one_isP (k : Tk) {i : Nat} (x : Pt) (h1 : 1 ≤ i) (h2 : i ≤ 32) : isP (oneK k i x) (i : Int) = isS x := by
  unfold isP
  rw [Int.toNat_natCast, one_p, nodeI_iff.2 ⟨by omega, by omega⟩, Bool.true_and]
theorem one_of (k : Tk) {i : Nat} (x : Pt) (h1 : 1 ≤ i) (h2 : i ≤ 32) (hs : isS x = true) : ofX (oneK k i x) (i : Int) = x := by
  unfold ofX
  rw [one_isP k x h1 h2, if_pos hs, Int.toNat_natCast, one_p]
theorem z_due (k : Tk) (now : Int) : dueX k zP now = zP ∧ dueK k zP now = 0 := ⟨rfl, rfl⟩
theorem one_dueD (k : Tk) {i : Nat} (x : Pt) (h2 : i < 33) {now : Int} (hn : now ≤ 4611686018427387904) : dueD (oneK k i x) now = oneK k i (dueX k x now) := by
  unfold dueD
  rw [if_neg (by omega)]
  unfold midD oneK
  congr 1
  funext j
  show (if j < 33 then dueX k (upd (fun _ => zP) i x j) now else upd (fun _ => zP) i x j) = upd (fun _ => zP) i (dueX k x now) j
  by_cases e : j = i
  · subst e; rw [if_pos h2, upd_same, upd_same]
  · rw [upd_ne e, upd_ne e]
    split
    · exact (z_due k now).1
    · rfl
theorem one_loD (k : Tk) {i : Nat} (x : Pt) (now : Int) : ∀ n, loD (oneK k i x) now n = if i < n then (if dueK k x now = 0 then [] else [((i : Int), dueK k x now)]) else []
  | 0 => by rw [if_neg (by omega)]; rfl
  | n + 1 => by
    have ih := one_loD k (i := i) x now n
    unfold loD
    have hk : ∀ y, dueK (oneK k i x) y now = dueK k y now := fun _ => rfl
    by_cases e : n = i
    · subst e
      rw [one_p, hk, ih, if_neg (show ¬ n < n by omega), if_pos (show n < n + 1 by omega)]
      split <;> rfl
    · rw [one_ne k x e, hk, (z_due k now).2, if_pos rfl, ih]
      by_cases h : i < n
      · rw [if_pos h, if_pos (show i < n + 1 by omega)]
      · rw [if_neg h, if_neg (show ¬ i < n + 1 by omega)]
theorem one_dueL (k : Tk) {i : Nat} (x : Pt) (h2 : i < 33) {now : Int} (hn : now ≤ 4611686018427387904) : dueL (oneK k i x) now = if dueK k x now = 0 then [] else [((i : Int), dueK k x now)] := by
  unfold dueL
  rw [if_neg (by omega), one_loD, if_pos h2]
theorem one_lo (k : Tk) {i : Nat} (x : Pt) : ∀ n, loP (oneK k i x).p n = if i < n then (if isS x = true then [x] else []) else []
  | 0 => by rw [if_neg (by omega)]; rfl
  | n + 1 => by
    have ih := one_lo k (i := i) x n
    by_cases e : n = i
    · subst e
      rw [if_pos (show n < n + 1 by omega)]
      rw [if_neg (show ¬ n < n by omega)] at ih
      cases hs : isS x with
      | true => rw [lo_yes (by rw [one_p]; exact hs), ih, one_p, if_pos rfl]; rfl
      | false => rw [lo_no (by rw [one_p]; exact hs), ih, if_neg (by decide)]
    · rw [lo_no (by rw [one_ne k x e]; rfl), ih]
      by_cases h : i < n
      · rw [if_pos h, if_pos (show i < n + 1 by omega)]
      · rw [if_neg h, if_neg (show ¬ i < n + 1 by omega)]
theorem one_all (k : Tk) {i : Nat} (x : Pt) (h2 : i < 33) : allP (oneK k i x).p = if isS x = true then [x] else [] := by
  unfold allP; rw [one_lo, if_pos h2]
theorem badC_ok {i : Nat} (h1 : 1 ≤ i) (h2 : i ≤ 32) {now : Int} (hn : now ≤ 4611686018427387904) : badC (i : Int) now = false := by
  unfold badC
  rw [nodeI_iff.2 ⟨by omega, by omega⟩, decide_eq_false (by omega)]; rfl
/-- what a call does to the one path -/
theorem one_want (k : Tk) {i : Nat} (h1 : 1 ≤ i) (h2 : i ≤ 32) {now : Int} (hn : now ≤ 4611686018427387904) : wantE (oneK k i zP) i now = 0 ∧ wantD (oneK k i zP) i now = oneK k i ⟨i, 2, 0, 0, 0, now, 0⟩ := by
  have e : wantE (oneK k i zP) i now = 0 := by
    unfold wantE
    rw [badC_ok h1 h2 hn, one_isP k zP h1 h2, if_neg (by decide), if_neg (by decide)]
  refine ⟨e, ?_⟩
  unfold wantD
  rw [if_pos e, Int.toNat_natCast, one_set]
theorem one_want2 (k : Tk) {i : Nat} (x : Pt) (hs : isS x = true) (h1 : 1 ≤ i) (h2 : i ≤ 32) {now : Int} (hn : now ≤ 4611686018427387904) : wantE (oneK k i x) i now = 6 ∧ wantD (oneK k i x) i now = oneK k i x := by
  have e : wantE (oneK k i x) i now = 6 := by
    unfold wantE
    rw [badC_ok h1 h2 hn, one_isP k x h1 h2, if_neg (by decide), if_pos hs]
  refine ⟨e, ?_⟩
  unfold wantD
  rw [e, if_neg (by decide)]
theorem one_open (k : Tk) {i : Nat} (x : Pt) (h1 : 1 ≤ i) (h2 : i ≤ 32) {ip pt : Nat} (ha : noneI ip pt = false) {now : Int} (hn : now ≤ 4611686018427387904) : openE i ip pt now = 0 ∧ openD (oneK k i x) i ip pt now = oneK k i ⟨i, 3, 0, ip, pt, now + k.keep, now + k.hold⟩ := by
  have e : openE i ip pt now = 0 := by
    unfold openE
    rw [badC_ok h1 h2 hn, ha, if_neg (by decide)]
  refine ⟨e, ?_⟩
  unfold openD
  rw [if_pos e, Int.toNat_natCast, one_set]; rfl
theorem one_heard (k : Tk) {i : Nat} (x : Pt) (h1 : 1 ≤ i) (h2 : i ≤ 32) (ip pt : Nat) {now : Int} (hn : now ≤ 4611686018427387904) : heardB (oneK k i x) i ip pt now = (x.st == 3 && (decide (x.ip = ip) && decide (x.pt = pt))) ∧
    heardD (oneK k i x) i ip pt now = oneK k i (if (x.st == 3 && (decide (x.ip = ip) && decide (x.pt = pt))) = true then { x with un := now + k.hold } else x) := by
  have e : heardB (oneK k i x) i ip pt now = (x.st == 3 && (decide (x.ip = ip) && decide (x.pt = pt))) := by
    unfold heardB
    rw [badC_ok h1 h2 hn, Int.toNat_natCast, one_p]; rfl
  refine ⟨e, ?_⟩
  unfold heardD
  rw [e]
  split
  · rw [Int.toNat_natCast, one_set, one_p]; rfl
  · rfl
theorem one_lost (k : Tk) {i : Nat} (x : Pt) (hs : isS x = true) (h1 : 1 ≤ i) (h2 : i ≤ 32) : lostD (oneK k i x) i = oneK k i zP := by
  unfold lostD
  rw [one_isP k x h1 h2, if_pos hs, Int.toNat_natCast, one_set]
theorem one_lost2 (k : Tk) {i : Nat} (h1 : 1 ≤ i) (h2 : i ≤ 32) : lostD (oneK k i zP) i = oneK k i zP := by
  unfold lostD
  rw [one_isP k zP h1 h2, if_neg (by decide)]
end Go.Proofs.Ytpeoallhbbleaaa
