/- Plain mathematics: one path that is open, heard till some time, kept, then tried anew. -/
import Derived.Test.YtpeoallhbbleaaaPaOne
namespace Go.Proofs.Ytpeoallhbbleaaa
set_option linter.unusedVariables false
set_option linter.unusedSimpArgs false

def kK (kp h : Int) : Tk := newK 3 2 kp h
theorem kK_one (kp h : Int) : newK 3 2 kp h = oneK (kK kp h) 2 zP := one_new 3 2 kp h 2
/-- ahead of what is done at now: last heard at last -/
structure KInv (kp h now last : Int) (x : Pt) : Prop where
  is : isS x = true
  l0 : 0 ≤ last
  l1 : last < now
  op : x.st = 3 → (x.ip = 4 ∧ x.pt = 4) ∧ x.un = last + h ∧ x.nx < last + h + kp ∧ now ≤ x.nx
/-- heard, or not -/
def hX (h now : Int) (x : Pt) (q : Bool) : Pt := if q = true then { x with un := now + h } else x
def hL (now last : Int) (q : Bool) : Int := if q = true then now else last
structure KMid (kp h now last : Int) (x : Pt) : Prop where
  is : isS x = true
  l0 : 0 ≤ last
  l1 : last ≤ now
  op : x.st = 3 → (x.ip = 4 ∧ x.pt = 4) ∧ x.un = last + h ∧ x.nx < last + h + kp ∧ now ≤ x.nx
theorem kept_heard {kp h now last : Int} {x : Pt} (i : KInv kp h now last x) (n0 : 0 ≤ now) (hh : 0 ≤ h) (q : Bool) (hq : q = true → x.st = 3) : KMid kp h now (hL now last q) (hX h now x q) ∧ (hX h now x q).st = x.st := by
  have l1 := i.l1
  cases q with
  | true =>
    have op := i.op (hq rfl)
    refine ⟨⟨i.is, by show 0 ≤ now; omega, by show now ≤ now; omega, fun _ => ⟨op.1, rfl, ?_, op.2.2.2⟩⟩, rfl⟩
    show x.nx < now + h + kp
    omega
  | false => exact ⟨⟨i.is, i.l0, by show last ≤ now; omega, i.op⟩, rfl⟩
theorem kept_isH {kp h now last : Int} {x : Pt} (i : KInv kp h now last x) : (x.st == 3 && (decide (x.ip = 4) && decide (x.pt = 4))) = (x.st == 3) := by
  by_cases e : x.st = 3
  · have := (i.op e).1
    rw [this.1, this.2]; simp
  · rw [beq_eq_false_iff_ne.2 e]; rfl
/-- what may come of it -/
inductive KC (h now last : Int) (x y : Pt) (L : List (Int × Int)) : Prop where
  | shut (a : x.st ≠ 3) (b : y.st ≠ 3) : KC h now last x y L
  | idle (a : x.st = 3) (b : y.st = 3) (c : L = []) : KC h now last x y L
  | keep (a : x.st = 3) (b : y.st = 3) (c : L = [(2, 2)]) : KC h now last x y L
  | over (a : x.st = 3) (b : y.st ≠ 3) (c : L = [(2, 1)]) (d : last + h ≤ now) : KC h now last x y L
theorem try_st (k : Tk) (x : Pt) (now : Int) (h : x.st = 2) : (tryX k x now).st ≠ 3 ∧ isS (tryX k x now) = true := by
  unfold tryX
  split
  · exact ⟨by show (1 : Int) ≠ 3; decide, rfl⟩
  · refine ⟨by show x.st ≠ 3; omega, ?_⟩
    unfold isS; show (!(x.st == 0)) = true
    rw [h]; rfl
theorem kept_due {kp h now last : Int} {x : Pt} (k1 : 1 ≤ kp) (n1 : now ≤ 100000) (i : KMid kp h now last x) : ∃ y L, dueL (oneK (kK kp h) 2 x) now = L ∧ dueD (oneK (kK kp h) 2 x) now = oneK (kK kp h) 2 y ∧ KInv kp h (now + 1) last y ∧ KC h now last x y L := by
  have l1 := i.l1
  have l0 := i.l0
  rw [one_dueD _ _ (by decide) (by omega), one_dueL _ _ (by decide) (by omega)]
  cases hd : isD x now with
  | false =>
    have e1 : dueX (kK kp h) x now = x := by unfold dueX; rw [hd, if_neg (by decide)]
    have e2 : dueK (kK kp h) x now = 0 := by unfold dueK; rw [hd, if_neg (by decide)]
    rw [e1, e2]
    refine ⟨x, [], rfl, rfl, ⟨i.is, l0, by omega, fun e => ?_⟩, ?_⟩
    · have op := i.op e
      unfold isD at hd
      rw [i.is, Bool.true_and, decide_eq_false_iff_not] at hd
      exact ⟨op.1, op.2.1, op.2.2.1, by omega⟩
    · by_cases e : x.st = 3
      · exact .idle e e rfl
      · exact .shut e e
  | true =>
    have e1 : dueX (kK kp h) x now = stepX (kK kp h) x now := by unfold dueX; rw [hd, if_pos rfl]
    have e2 : dueK (kK kp h) x now = stepK (kK kp h) x now := by unfold dueK; rw [hd, if_pos rfl]
    rw [e1, e2]
    by_cases e : x.st = 3
    · have op := i.op e
      have ne2 : ¬ x.st = 2 := by omega
      by_cases hu : now < x.un
      · have e3 : stepX (kK kp h) x now = { x with nx := now + kp } := by unfold stepX; rw [if_neg ne2, if_pos ⟨e, hu⟩]; rfl
        have e4 : stepK (kK kp h) x now = 2 := by unfold stepK; rw [if_neg ne2, if_pos ⟨e, hu⟩]
        rw [e3, e4]
        refine ⟨_, _, rfl, rfl, ⟨i.is, l0, by omega, fun _ => ⟨op.1, op.2.1, ?_, ?_⟩⟩, .keep e e rfl⟩
        · show now + kp < last + h + kp; omega
        · show now + 1 ≤ now + kp; omega
      · have e3 : stepX (kK kp h) x now = tryX (kK kp h) (freshX x) now := by unfold stepX; rw [if_neg ne2, if_neg (by omega)]
        have e4 : stepK (kK kp h) x now = 1 := by
          unfold stepK; rw [if_neg ne2, if_neg (by omega)]
          rfl
        rw [e3, e4]
        have ts := try_st (kK kp h) (freshX x) now rfl
        exact ⟨_, _, rfl, rfl, ⟨ts.2, l0, by omega, fun h => absurd h ts.1⟩, .over e ts.1 rfl (by omega)⟩
    · have hy : (stepX (kK kp h) x now).st ≠ 3 ∧ isS (stepX (kK kp h) x now) = true := by
        unfold stepX
        split
        · exact try_st _ _ _ (by assumption)
        · rw [if_neg (fun h => e h.1)]
          exact try_st _ _ _ rfl
      exact ⟨_, _, rfl, rfl, ⟨hy.2, l0, by omega, fun h => absurd h hy.1⟩, .shut e hy.1⟩
theorem kept_end {kp h last : Int} {x : Pt} (i : KInv kp h 160 last x) (e : x.st = 3) : 160 ≤ last + h + kp := by
  have := i.op e; omega
theorem kept_other {kp h now last : Int} {x : Pt} (i : KInv kp h now last x) : (x.st == 3 && (decide (x.ip = 5) && decide (x.pt = 5))) = false := by
  by_cases e : x.st = 3
  · rw [(i.op e).1.1]; simp
  · rw [beq_eq_false_iff_ne.2 e]; rfl
end Go.Proofs.Ytpeoallhbbleaaa
