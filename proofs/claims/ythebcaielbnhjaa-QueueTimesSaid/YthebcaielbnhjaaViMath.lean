/- Plain mathematics: a view: what is known by ID, and all events. No program is read here. -/
import Derived.Test.YthebcaielbnhjaaRecMath
namespace Go.Proofs.Ythebcaielbnhjaa
set_option linter.unusedVariables false
set_option linter.unusedSimpArgs false

structure Ev where
  id : Int
  was : Int
  is : Int
  n : Nat
  deriving DecidableEq
def zRec : Rec := ⟨0, 0, 0, 0, 0⟩
structure Vw where
  k : Nat → Rec
  E : List Ev
def newV : Vw := ⟨fun _ => zRec, []⟩
def overR (a b : Rec) : Bool := decide (ordR a b > 0)
def inI (i : Int) : Bool := decide (1 ≤ i) && decide (i ≤ 32)
def knows (v : Vw) (i : Int) : Bool := inI i && (v.k i.toNat).right
def ofV (v : Vw) (i : Int) : Rec := if knows v i = true then v.k i.toNat else zRec
def wasV (v : Vw) (i : Int) : Int := if knows v i = true then (v.k i.toNat).st else -1
def turns (v : Vw) (r : Rec) : Bool := r.right && (!knows v r.id || overR r (v.k r.id.toNat))
def upd (k : Nat → Rec) (i : Nat) (r : Rec) : Nat → Rec := fun j => if j = i then r else k j
def evV (v : Vw) (r : Rec) : Ev := ⟨r.id, wasV v r.id, r.st, r.n⟩
def noteE (v : Vw) (r : Rec) : List Ev := if r.st = wasV v r.id then v.E else v.E ++ [evV v r]
def takeV (v : Vw) (r : Rec) : Vw := if turns v r = true then ⟨upd v.k r.id.toNat r, noteE v r⟩ else v
def errR (r : Rec) : Int := if r.right = true then 0 else 1
def knownN (v : Vw) : List Nat := (List.range 33).filter fun i => knows v i
def membersV (v : Vw) : List Rec := (knownN v).map v.k
def liveV (v : Vw) : List Int := ((knownN v).filter fun i => liveI (v.k i).st).map fun i : Nat => (i : Int)
def lastE (E : List Ev) : List Ev := E.drop (E.length - 128)
def rightL (l : List Rec) : Bool := l.all Rec.right
def foldV (v : Vw) : List Rec → Vw
  | [] => v
  | r :: l => foldV (takeV v r) l
def turnedL (v : Vw) : List Rec → List Rec
  | [] => []
  | r :: l => if turns v r = true then r :: turnedL (takeV v r) l else turnedL (takeV v r) l
def mergeV (v : Vw) (l : List Rec) : Vw := if rightL l = true then foldV v l else v
def mergeL (v : Vw) (l : List Rec) : List Rec := if rightL l = true then turnedL v l else []
def mergeE (l : List Rec) : Int := if rightL l = true then 0 else 1

/-- what any view keeps -/
structure OkV (v : Vw) : Prop where
  ok : ∀ i, (v.k i).Ok
  id : ∀ i : Nat, knows v i = true → (v.k i).id = i
theorem zRec_ok : zRec.Ok := ⟨by decide, by decide, by decide⟩
theorem right_in {r : Rec} (h : r.right = true) : 1 ≤ r.id ∧ r.id ≤ 32 := by
  unfold Rec.right rightI at h
  simp only [Bool.and_eq_true, decide_eq_true_eq] at h
  omega
theorem inI_iff {i : Int} : inI i = true ↔ 1 ≤ i ∧ i ≤ 32 := by
  unfold inI; simp only [Bool.and_eq_true, decide_eq_true_eq]
theorem knows_iff {v : Vw} {i : Int} : knows v i = true ↔ 1 ≤ i ∧ i ≤ 32 ∧ (v.k i.toNat).right = true := by
  unfold knows; rw [Bool.and_eq_true, inI_iff, and_assoc]
theorem knowsN_iff {v : Vw} {i : Nat} : knows v i = true ↔ 1 ≤ i ∧ i ≤ 32 ∧ (v.k i).right = true := by
  rw [knows_iff, Int.toNat_natCast]
  exact ⟨fun h => ⟨by omega, by omega, h.2.2⟩, fun h => ⟨by omega, by omega, h.2.2⟩⟩
theorem new_ok : OkV newV := ⟨fun _ => zRec_ok, fun i h => by
  rw [knowsN_iff] at h
  have : (newV.k i).right = false := rfl
  rw [this] at h; simp at h⟩
theorem knows_new (i : Int) : knows newV i = false := by
  cases h : knows newV i with
  | false => rfl
  | true =>
    rw [knows_iff] at h
    have : (newV.k i.toNat).right = false := rfl
    rw [this] at h; simp at h
theorem turns_right {v : Vw} {r : Rec} (h : turns v r = true) : r.right = true := by
  unfold turns at h; rw [Bool.and_eq_true] at h; exact h.1
theorem turns_bad {v : Vw} {r : Rec} (h : r.right = false) : turns v r = false := by unfold turns; rw [h]; rfl
theorem turns_new {v : Vw} {r : Rec} (h : r.right = true) (hk : knows v r.id = false) : turns v r = true := by unfold turns; rw [h, hk]; rfl
theorem turns_old {v : Vw} {r : Rec} (h : r.right = true) (hk : knows v r.id = true) : turns v r = overR r (v.k r.id.toNat) := by unfold turns; rw [h, hk]; simp
theorem take_no {v : Vw} {r : Rec} (h : turns v r = false) : takeV v r = v := by unfold takeV; rw [if_neg (by simp [h])]
theorem take_yes {v : Vw} {r : Rec} (h : turns v r = true) : takeV v r = ⟨upd v.k r.id.toNat r, noteE v r⟩ := by unfold takeV; rw [if_pos h]
theorem upd_same (k : Nat → Rec) (i : Nat) (r : Rec) : upd k i r i = r := by unfold upd; rw [if_pos rfl]
theorem upd_ne {k : Nat → Rec} {i j : Nat} {r : Rec} (h : j ≠ i) : upd k i r j = k j := by unfold upd; rw [if_neg h]
theorem take_ok {v : Vw} (h : OkV v) {r : Rec} (hr : r.Ok) : OkV (takeV v r) := by
  cases ht : turns v r with
  | false => rw [take_no ht]; exact h
  | true =>
    rw [take_yes ht]
    refine ⟨fun i => ?_, fun i hi => ?_⟩
    · show (upd v.k r.id.toNat r i).Ok
      unfold upd; split
      · exact hr
      · exact h.ok i
    · have h2 := right_in (turns_right ht)
      show (upd v.k r.id.toNat r i).id = i
      by_cases he : i = r.id.toNat
      · subst he; rw [upd_same]; omega
      · rw [upd_ne he]
        refine h.id i ?_
        rw [knowsN_iff] at hi ⊢
        have : (upd v.k r.id.toNat r i).right = true := hi.2.2
        rw [upd_ne he] at this
        exact ⟨hi.1, hi.2.1, this⟩
theorem note_len (v : Vw) (r : Rec) : (noteE v r).length ≤ v.E.length + 1 := by unfold noteE; split <;> simp
theorem take_len (v : Vw) (r : Rec) : (takeV v r).E.length ≤ v.E.length + 1 := by
  cases ht : turns v r with
  | false => rw [take_no ht]; omega
  | true => rw [take_yes ht]; exact note_len v r
theorem fold_ok : ∀ (l : List Rec) {v : Vw}, OkV v → (∀ r ∈ l, r.Ok) → OkV (foldV v l)
  | [], _, h, _ => h
  | r :: l, v, h, hl => fold_ok l (take_ok h (hl r (by simp))) (fun x hx => hl x (by simp [hx]))
theorem fold_len : ∀ (l : List Rec) (v : Vw), (foldV v l).E.length ≤ v.E.length + l.length
  | [], v => by simp [foldV]
  | r :: l, v => by
    have h1 := fold_len l (takeV v r)
    have h2 := take_len v r
    show (foldV (takeV v r) l).E.length ≤ _
    rw [List.length_cons]; omega
theorem fold_app : ∀ (l m : List Rec) (v : Vw), foldV v (l ++ m) = foldV (foldV v l) m
  | [], m, v => rfl
  | r :: l, m, v => fold_app l m (takeV v r)
theorem turned_app : ∀ (l m : List Rec) (v : Vw), turnedL v (l ++ m) = turnedL v l ++ turnedL (foldV v l) m
  | [], m, v => rfl
  | r :: l, m, v => by
    have ih := turned_app l m (takeV v r)
    show (if turns v r = true then r :: turnedL (takeV v r) (l ++ m) else turnedL (takeV v r) (l ++ m)) = (if turns v r = true then r :: turnedL (takeV v r) l else turnedL (takeV v r) l) ++ turnedL (foldV (takeV v r) l) m
    split
    · rw [ih]; rfl
    · exact ih
theorem turned_len : ∀ (l : List Rec) (v : Vw), (turnedL v l).length ≤ l.length
  | [], v => by simp [turnedL]
  | r :: l, v => by
    have h1 := turned_len l (takeV v r)
    show (if turns v r = true then r :: turnedL (takeV v r) l else turnedL (takeV v r) l).length ≤ _
    split <;> simp only [List.length_cons] <;> omega
theorem fold_snoc (v : Vw) (l : List Rec) (i : Nat) (r : Rec) (h : l[i]? = some r) : foldV v (l.take (i + 1)) = takeV (foldV v (l.take i)) r := by
  rw [List.take_add_one, h, fold_app]; rfl
theorem turned_snoc (v : Vw) (l : List Rec) (i : Nat) (r : Rec) (h : l[i]? = some r) : turnedL v (l.take (i + 1)) = turnedL v (l.take i) ++ (if turns (foldV v (l.take i)) r = true then [r] else []) := by
  rw [List.take_add_one, h, turned_app]
  rfl
theorem merge_ok {v : Vw} (h : OkV v) {l : List Rec} (hl : ∀ r ∈ l, r.Ok) : OkV (mergeV v l) := by
  unfold mergeV; split
  · exact fold_ok l h hl
  · exact h
theorem right_snoc (l : List Rec) (i : Nat) (r : Rec) (h : l[i]? = some r) : rightL (l.take (i + 1)) = (rightL (l.take i) && r.right) := by
  unfold rightL
  rw [List.take_add_one, h, List.all_append]
  simp
theorem right_not (l : List Rec) (i : Nat) (r : Rec) (h : l[i]? = some r) (hr : r.right = false) : rightL l = false := by
  cases he : rightL l with
  | false => rfl
  | true =>
    have := List.all_eq_true.1 he r (List.mem_of_getElem? h)
    rw [hr] at this; simp at this
/-! who is known, a place at a time -/
def knownTo (v : Vw) (m : Nat) : List Nat := (List.range m).filter fun i => knows v i
theorem known_yes {v : Vw} {m : Nat} (h : knows v m = true) : knownTo v (m + 1) = knownTo v m ++ [m] := by
  unfold knownTo; rw [List.range_succ, List.filter_append]; simp [h]
theorem known_no {v : Vw} {m : Nat} (h : knows v m = false) : knownTo v (m + 1) = knownTo v m := by
  unfold knownTo; rw [List.range_succ, List.filter_append]; simp [h]
theorem known_len (v : Vw) (m : Nat) : (knownTo v m).length ≤ m := by
  have := List.length_filter_le (fun i : Nat => knows v i) (List.range m)
  unfold knownTo; rw [List.length_range] at this; exact this
theorem members_len (v : Vw) : (membersV v).length ≤ 33 := by
  unfold membersV; rw [List.length_map]; exact known_len v 33
theorem last_len (E : List Ev) : (lastE E).length ≤ 128 := by unfold lastE; rw [List.length_drop]; omega
end Go.Proofs.Ythebcaielbnhjaa
