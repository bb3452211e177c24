/- Plain mathematics: paths to peers; what each call answers, and what is behind it. No program is read here. -/
import Derived.Test.YtpeoallhbbleaaaKit
namespace Go.Proofs.Ytpeoallhbbleaaa
set_option linter.unusedVariables false
set_option linter.unusedSimpArgs false

def nodeI (i : Int) : Bool := decide (1 ≤ i) && decide (i ≤ 32)
def noneI (ip port : Nat) : Bool := decide (ip = 0) || decide (port = 0)
def spanI (s : Int) : Bool := decide (1 ≤ s) && decide (s ≤ 1000000)
theorem nodeI_iff {i : Int} : nodeI i = true ↔ 1 ≤ i ∧ i ≤ 32 := by unfold nodeI; simp only [Bool.and_eq_true, decide_eq_true_eq]
theorem nodeI_no {i : Int} (h : i < 1 ∨ 32 < i) : nodeI i = false := by
  cases e : nodeI i with
  | false => rfl
  | true => rw [nodeI_iff] at e; omega
theorem spanI_iff {s : Int} : spanI s = true ↔ 1 ≤ s ∧ s ≤ 1000000 := by unfold spanI; simp only [Bool.and_eq_true, decide_eq_true_eq]
/-- numbers that make a table -/
def mayI (tries base keep hold : Int) : Bool := (decide (1 ≤ tries) && decide (tries ≤ 8)) && (spanI base && (spanI keep && spanI hold))
theorem mayI_iff {t b k h : Int} : mayI t b k h = true ↔ 1 ≤ t ∧ t ≤ 8 ∧ (1 ≤ b ∧ b ≤ 1000000) ∧ (1 ≤ k ∧ k ≤ 1000000) ∧ 1 ≤ h ∧ h ≤ 1000000 := by
  unfold mayI; simp only [Bool.and_eq_true, decide_eq_true_eq, spanI_iff, and_assoc]
def upd {α : Type} (f : Nat → α) (i : Nat) (x : α) : Nat → α := fun j => if j = i then x else f j
theorem upd_same {α : Type} (f : Nat → α) (i : Nat) (x : α) : upd f i x i = x := by unfold upd; rw [if_pos rfl]
theorem upd_ne {α : Type} {f : Nat → α} {i j : Nat} {x : α} (h : j ≠ i) : upd f i x j = f j := by unfold upd; rw [if_neg h]
theorem upd_upd {α : Type} (f : Nat → α) (i : Nat) (x y : α) : upd (upd f i x) i y = upd f i y := by
  funext j; unfold upd; split <;> rfl
theorem upd_self {α : Type} (f : Nat → α) (i : Nat) : upd f i (f i) = f := by
  funext j; unfold upd; split
  · rename_i e; rw [e]
  · rfl

/-- a path -/
structure Pt where
  peer : Int
  st : Int
  tr : Nat
  ip : Nat
  pt : Nat
  nx : Int
  un : Int
deriving DecidableEq
def zP : Pt := ⟨0, 0, 0, 0, 0, 0, 0⟩
def isS (x : Pt) : Bool := !(x.st == 0)
structure Tk where
  tries : Int
  base : Int
  keep : Int
  hold : Int
  p : Nat → Pt
structure OkP (t : Int) (i : Nat) (x : Pt) : Prop where
  lo : 1 ≤ i
  hi : i ≤ 32
  peer : x.peer = i
  s0 : 1 ≤ x.st
  s1 : x.st ≤ 3
  tr : (x.tr : Int) ≤ t
  n0 : 0 ≤ x.nx
  n1 : x.nx ≤ 4611686018555387904
  u0 : 0 ≤ x.un
  u1 : x.un ≤ 4611686018555387904
  ip : x.ip < 4294967296
  pt : x.pt < 65536
  no : x.st ≠ 3 → x.ip = 0 ∧ x.pt = 0 ∧ x.un = 0
structure OkK (k : Tk) : Prop where
  t0 : 1 ≤ k.tries
  t1 : k.tries ≤ 8
  b0 : 1 ≤ k.base
  b1 : k.base ≤ 1000000
  k0 : 1 ≤ k.keep
  k1 : k.keep ≤ 1000000
  h0 : 1 ≤ k.hold
  h1 : k.hold ≤ 1000000
  p : ∀ i, k.p i = zP ∨ OkP k.tries i (k.p i)
def newK (t b k h : Int) : Tk := ⟨t, b, k, h, fun _ => zP⟩
theorem isS_z : isS zP = false := by decide
theorem OkP.is {t : Int} {i : Nat} {x : Pt} (h : OkP t i x) : isS x = true := by
  have := h.s0
  unfold isS; rw [show (x.st == 0) = false by rw [beq_eq_false_iff_ne]; omega]; rfl
theorem new_ok {t b k h : Int} (ha : mayI t b k h = true) : OkK (newK t b k h) := by
  have := mayI_iff.1 ha
  exact ⟨this.1, this.2.1, this.2.2.1.1, this.2.2.1.2, this.2.2.2.1.1, this.2.2.2.1.2, this.2.2.2.2.1, this.2.2.2.2.2, fun _ => .inl rfl⟩
theorem OkK.no {k : Tk} (h : OkK k) (i : Nat) (hv : isS (k.p i) = false) : k.p i = zP := by
  rcases h.p i with h1 | h1
  · exact h1
  · rw [h1.is] at hv; simp at hv
theorem OkK.yes {k : Tk} (h : OkK k) (i : Nat) (hv : isS (k.p i) = true) : OkP k.tries i (k.p i) := by
  rcases h.p i with h1 | h1
  · rw [h1, isS_z] at hv; simp at hv
  · exact h1
/-- the bounds hold of none, too -/
structure Num (x : Pt) : Prop where
  n0 : 0 ≤ x.nx
  n1 : x.nx ≤ 4611686018555387904
  u0 : 0 ≤ x.un
  u1 : x.un ≤ 4611686018555387904
  ip : x.ip < 4294967296
  pt : x.pt < 65536
  s0 : 0 ≤ x.st
  s1 : x.st ≤ 3
  tr : x.tr ≤ 8
theorem OkK.num {k : Tk} (h : OkK k) (i : Nat) : Num (k.p i) := by
  rcases h.p i with h1 | h1
  · rw [h1]; exact ⟨by decide, by decide, by decide, by decide, by decide, by decide, by decide, by decide, by decide⟩
  · have := h1.tr; have := h.t1; have := h1.s0
    exact ⟨h1.n0, h1.n1, h1.u0, h1.u1, h1.ip, h1.pt, by omega, h1.s1, by omega⟩
theorem OkK.upd {k : Tk} (h : OkK k) {i : Nat} {x : Pt} (hx : x = zP ∨ OkP k.tries i x) : OkK { k with p := upd k.p i x } := by
  refine ⟨h.t0, h.t1, h.b0, h.b1, h.k0, h.k1, h.h0, h.h1, fun j => ?_⟩
  show Proofs.Ytpeoallhbbleaaa.upd _ _ _ _ = _ ∨ OkP _ _ (Proofs.Ytpeoallhbbleaaa.upd _ _ _ _)
  by_cases e : j = i
  · subst e; rw [upd_same]; exact hx
  · rw [upd_ne e]; exact h.p j
/-- is there a path to that one? -/
def isP (k : Tk) (id : Int) : Bool := nodeI id && isS (k.p id.toNat)
theorem isP_at {k : Tk} (h : OkK k) (i : Nat) : isP k (i : Int) = isS (k.p i) := by
  unfold isP
  rw [Int.toNat_natCast]
  rcases h.p i with h1 | h1
  · rw [h1, isS_z, Bool.and_false]
  · rw [h1.is, Bool.and_true]; exact nodeI_iff.2 (by have := h1.lo; have := h1.hi; omega)
theorem isP_node {k : Tk} {id : Int} (h : isP k id = true) : ∃ n : Nat, id = n ∧ 1 ≤ n ∧ n ≤ 32 ∧ isS (k.p n) = true := by
  unfold isP at h
  rw [Bool.and_eq_true] at h
  have hb := nodeI_iff.1 h.1
  exact ⟨id.toNat, by omega, by omega, by omega, h.2⟩

/-! all of them, in a list -/
def loP (f : Nat → Pt) (i : Nat) : List Pt := ((List.range i).map f).filter isS
def allP (f : Nat → Pt) : List Pt := loP f 33
theorem lo_yes {f : Nat → Pt} {i : Nat} (h : isS (f i) = true) : loP f (i + 1) = loP f i ++ [f i] := by
  unfold loP; rw [List.range_succ, List.map_append, List.filter_append]; simp [h]
theorem lo_no {f : Nat → Pt} {i : Nat} (h : isS (f i) = false) : loP f (i + 1) = loP f i := by
  unfold loP; rw [List.range_succ, List.map_append, List.filter_append]; simp [h]
theorem lo_len (f : Nat → Pt) (i : Nat) : (loP f i).length ≤ i := by
  unfold loP
  have := List.length_filter_le isS ((List.range i).map f)
  rw [List.length_map, List.length_range] at this
  exact this
theorem all_len (f : Nat → Pt) : (allP f).length ≤ 33 := lo_len f 33
theorem mem_lo {f : Nat → Pt} {i : Nat} {x : Pt} (h : x ∈ loP f i) : ∃ j, j < i ∧ x = f j ∧ isS (f j) = true := by
  unfold loP at h
  rw [List.mem_filter] at h
  obtain ⟨j, hj, rfl⟩ := List.mem_map.1 h.1
  exact ⟨j, by simpa using hj, rfl, h.2⟩
theorem lo_cong {f g : Nat → Pt} : ∀ i, (∀ j, j < i → f j = g j) → loP f i = loP g i
  | 0, _ => rfl
  | i + 1, h => by
    have ih := lo_cong i (fun j hj => h j (by omega))
    have e := h i (by omega)
    cases hs : isS (f i) with
    | true => rw [lo_yes hs, lo_yes (by rw [← e]; exact hs), ih, e]
    | false => rw [lo_no hs, lo_no (by rw [← e]; exact hs), ih]

/-! what the calls answer -/
def late : Int := 4611686018427387904
def badC (id now : Int) : Bool := !nodeI id || decide (4611686018427387904 < now)
theorem badC_no {id now : Int} (h : badC id now = false) : (1 ≤ id ∧ id ≤ 32) ∧ now ≤ 4611686018427387904 := by
  unfold badC at h
  simp only [Bool.or_eq_false_iff, Bool.not_eq_false', decide_eq_false_iff_not] at h
  exact ⟨nodeI_iff.1 h.1, by omega⟩
def setP (k : Tk) (i : Nat) (x : Pt) : Tk := { k with p := upd k.p i x }
def wantE (k : Tk) (id now : Int) : Int := if badC id now = true then 1 else if isP k id = true then 6 else 0
def wantD (k : Tk) (id now : Int) : Tk := if wantE k id now = 0 then setP k id.toNat ⟨id, 2, 0, 0, 0, now, 0⟩ else k
def openE (id : Int) (ip pt : Nat) (now : Int) : Int := if badC id now = true ∨ noneI ip pt = true then 1 else 0
def openD (k : Tk) (id : Int) (ip pt : Nat) (now : Int) : Tk := if openE id ip pt now = 0 then setP k id.toNat ⟨id, 3, 0, ip, pt, now + k.keep, now + k.hold⟩ else k
def heardB (k : Tk) (id : Int) (ip pt : Nat) (now : Int) : Bool := !badC id now && ((k.p id.toNat).st == 3 && (decide ((k.p id.toNat).ip = ip) && decide ((k.p id.toNat).pt = pt)))
def heardD (k : Tk) (id : Int) (ip pt : Nat) (now : Int) : Tk := if heardB k id ip pt now = true then setP k id.toNat { k.p id.toNat with un := now + k.hold } else k
def lostD (k : Tk) (id : Int) : Tk := if isP k id = true then setP k id.toNat zP else k
def ofX (k : Tk) (id : Int) : Pt := if isP k id = true then k.p id.toNat else zP
/-- a path that is trying: what is sent, and what it is behind it -/
def tryK (k : Tk) (x : Pt) : Int := if (x.tr : Int) = k.tries then 0 else 1
def tryX (k : Tk) (x : Pt) (now : Int) : Pt := if (x.tr : Int) = k.tries then { x with st := 1, nx := now + k.hold } else { x with nx := now + k.base * 2 ^ x.tr, tr := x.tr + 1 }
def freshX (x : Pt) : Pt := ⟨x.peer, 2, 0, 0, 0, 0, 0⟩
def stepK (k : Tk) (x : Pt) (now : Int) : Int := if x.st = 2 then tryK k x else if x.st = 3 ∧ now < x.un then 2 else tryK k (freshX x)
def stepX (k : Tk) (x : Pt) (now : Int) : Pt := if x.st = 2 then tryX k x now else if x.st = 3 ∧ now < x.un then { x with nx := now + k.keep } else tryX k (freshX x) now
def isD (x : Pt) (now : Int) : Bool := isS x && decide (x.nx ≤ now)
def dueX (k : Tk) (x : Pt) (now : Int) : Pt := if isD x now = true then stepX k x now else x
def dueK (k : Tk) (x : Pt) (now : Int) : Int := if isD x now = true then stepK k x now else 0
/-- gone through as far as i -/
def midD (k : Tk) (now : Int) (i : Nat) : Tk := { k with p := fun j => if j < i then dueX k (k.p j) now else k.p j }
def loD (k : Tk) (now : Int) : Nat → List (Int × Int)
  | 0 => []
  | i + 1 => if dueK k (k.p i) now = 0 then loD k now i else loD k now i ++ [((i : Int), dueK k (k.p i) now)]
def dueL (k : Tk) (now : Int) : List (Int × Int) := if 4611686018427387904 < now then [] else loD k now 33
def dueD (k : Tk) (now : Int) : Tk := if 4611686018427387904 < now then k else midD k now 33
theorem loD_len (k : Tk) (now : Int) : ∀ i, (loD k now i).length ≤ i
  | 0 => Nat.le_refl _
  | i + 1 => by
    have := loD_len k now i
    unfold loD; split
    · omega
    · simp; omega
theorem dueL_len (k : Tk) (now : Int) : (dueL k now).length ≤ 33 := by
  unfold dueL; split
  · simp
  · exact loD_len k now 33
theorem pow_le {n : Nat} (h : n ≤ 7) : (2 : Int) ^ n ≤ 128 := by
  match n, h with
  | 0, _ => decide
  | 1, _ => decide
  | 2, _ => decide
  | 3, _ => decide
  | 4, _ => decide
  | 5, _ => decide
  | 6, _ => decide
  | 7, _ => decide
theorem pow_pos1 (n : Nat) : (1 : Int) ≤ 2 ^ n := by
  induction n with
  | zero => decide
  | succ n ih => rw [Int.pow_succ]; omega
theorem wait_le {b : Int} {n : Nat} (h0 : 1 ≤ b) (h1 : b ≤ 1000000) (h : n ≤ 7) : 1 ≤ b * 2 ^ n ∧ b * 2 ^ n ≤ 128000000 := by
  have p0 := pow_pos1 n
  have p1 := pow_le h
  generalize (2 : Int) ^ n = q at *
  constructor
  · have := Int.mul_le_mul h0 p0 (by omega) (by omega)
    omega
  · have := Int.mul_le_mul h1 p1 (by omega) (by omega)
    omega
theorem try_ok {k : Tk} (h : OkK k) {i : Nat} {x : Pt} (hx : OkP k.tries i x) (h2 : x.st = 2) (now : Int) (n0 : 0 ≤ now) (n1 : now ≤ 4611686018427387904) : OkP k.tries i (tryX k x now) := by
  have no := hx.no (by omega)
  have a0 := h.h0; have a1 := h.h1; have t1 := h.t1
  unfold tryX
  split
  · exact ⟨hx.lo, hx.hi, hx.peer, by show (1 : Int) ≤ 1; omega, by show (1 : Int) ≤ 3; omega, hx.tr, by show 0 ≤ now + k.hold; omega, by show now + k.hold ≤ _; omega, hx.u0, hx.u1, hx.ip, hx.pt, fun _ => no⟩
  · rename_i e
    have ht := hx.tr
    have w := wait_le h.b0 h.b1 (show x.tr ≤ 7 by omega)
    exact ⟨hx.lo, hx.hi, hx.peer, hx.s0, hx.s1, by show ((x.tr + 1 : Nat) : Int) ≤ _; omega, by show 0 ≤ now + k.base * 2 ^ x.tr; omega, by show now + k.base * 2 ^ x.tr ≤ _; omega, hx.u0, hx.u1, hx.ip, hx.pt, fun _ => no⟩
theorem fresh_ok {k : Tk} (h : OkK k) {i : Nat} {x : Pt} (hx : OkP k.tries i x) : OkP k.tries i (freshX x) := by
  have := h.t0
  exact ⟨hx.lo, hx.hi, hx.peer, by show (1 : Int) ≤ 2; omega, by show (2 : Int) ≤ 3; omega, by show ((0 : Nat) : Int) ≤ _; omega, Int.le_refl _, show (0 : Int) ≤ _ by decide, Int.le_refl _, show (0 : Int) ≤ _ by decide, show 0 < _ by decide, show 0 < _ by decide, fun _ => ⟨rfl, rfl, rfl⟩⟩
theorem step_ok {k : Tk} (h : OkK k) {i : Nat} {x : Pt} (hx : OkP k.tries i x) (now : Int) (n0 : 0 ≤ now) (n1 : now ≤ 4611686018427387904) : OkP k.tries i (stepX k x now) := by
  have a0 := h.k0; have a1 := h.k1
  unfold stepX
  split
  · exact try_ok h hx (by assumption) now n0 n1
  · split
    · exact ⟨hx.lo, hx.hi, hx.peer, hx.s0, hx.s1, hx.tr, by show 0 ≤ now + k.keep; omega, by show now + k.keep ≤ _; omega, hx.u0, hx.u1, hx.ip, hx.pt, hx.no⟩
    · exact try_ok h (fresh_ok h hx) rfl now n0 n1
theorem due_ok1 {k : Tk} (h : OkK k) (i : Nat) (now : Int) (n0 : 0 ≤ now) (n1 : now ≤ 4611686018427387904) : dueX k (k.p i) now = zP ∨ OkP k.tries i (dueX k (k.p i) now) := by
  unfold dueX
  split
  · rename_i e
    unfold isD at e
    rw [Bool.and_eq_true] at e
    exact .inr (step_ok h (h.yes i e.1) now n0 n1)
  · exact h.p i
theorem mid_ok {k : Tk} (h : OkK k) (now : Int) (n0 : 0 ≤ now) (n1 : now ≤ 4611686018427387904) (i : Nat) : OkK (midD k now i) := by
  refine ⟨h.t0, h.t1, h.b0, h.b1, h.k0, h.k1, h.h0, h.h1, fun j => ?_⟩
  show (if j < i then _ else _) = _ ∨ OkP _ _ (if j < i then _ else _)
  split
  · exact due_ok1 h j now n0 n1
  · exact h.p j
theorem due_ok {k : Tk} (h : OkK k) (now : Int) (n0 : 0 ≤ now) : OkK (dueD k now) := by
  unfold dueD; split
  · exact h
  · exact mid_ok h now n0 (by omega) 33
theorem mid_zero (k : Tk) (now : Int) : midD k now 0 = k := by
  unfold midD
  have : (fun j => if j < 0 then dueX k (k.p j) now else k.p j) = k.p := by funext j; rw [if_neg (by omega)]
  rw [this]
theorem mid_at (k : Tk) (now : Int) (i : Nat) : (midD k now i).p i = k.p i := by
  show (if i < i then _ else _) = _
  rw [if_neg (by omega)]
/-- one more -/
theorem mid_succ (k : Tk) (now : Int) (i : Nat) : setP (midD k now i) i (dueX k (k.p i) now) = midD k now (i + 1) := by
  unfold setP midD
  congr 1
  funext j
  unfold upd
  by_cases e : j = i
  · subst e; rw [if_pos rfl, if_pos (by omega)]
  · rw [if_neg e]
    show (if j < i then _ else _) = _
    by_cases h : j < i
    · rw [if_pos h, if_pos (by omega)]
    · rw [if_neg h, if_neg (by omega)]
theorem mid_same {k : Tk} {now : Int} {i : Nat} (h : isD (k.p i) now = false) : midD k now (i + 1) = midD k now i := by
  rw [← mid_succ]
  unfold dueX
  rw [h, if_neg (by decide)]
  unfold setP
  have : upd (midD k now i).p i (k.p i) = (midD k now i).p := by
    have := upd_self (midD k now i).p i
    rwa [mid_at] at this
  rw [this]
theorem step_mid (k : Tk) (now : Int) (i : Nat) (x : Pt) : stepX (midD k now i) x now = stepX k x now ∧ stepK (midD k now i) x now = stepK k x now := ⟨rfl, rfl⟩
theorem loD_yes {k : Tk} {now : Int} {i : Nat} (h : dueK k (k.p i) now ≠ 0) : loD k now (i + 1) = loD k now i ++ [((i : Int), dueK k (k.p i) now)] := by rw [loD, if_neg h]
theorem loD_no {k : Tk} {now : Int} {i : Nat} (h : dueK k (k.p i) now = 0) : loD k now (i + 1) = loD k now i := by rw [loD, if_pos h]
theorem want_ok {k : Tk} (h : OkK k) (id now : Int) (n0 : 0 ≤ now) : OkK (wantD k id now) := by
  unfold wantD
  split
  · rename_i e
    unfold wantE at e
    split at e
    · simp at e
    · rename_i hb
      have hb := badC_no (by simpa using hb)
      have := h.t0
      exact h.upd (.inr ⟨by omega, by omega, by show id = _; omega, by show (1 : Int) ≤ 2; omega, by show (2 : Int) ≤ 3; omega, by show ((0 : Nat) : Int) ≤ _; omega, n0, by show now ≤ _; omega, Int.le_refl _, show (0 : Int) ≤ _ by decide, show 0 < _ by decide, show 0 < _ by decide, fun _ => ⟨rfl, rfl, rfl⟩⟩)
  · exact h
theorem open_ok {k : Tk} (h : OkK k) (id : Int) (ip pt : Nat) (now : Int) (n0 : 0 ≤ now) (hi : ip < 4294967296) (hp : pt < 65536) : OkK (openD k id ip pt now) := by
  unfold openD
  split
  · rename_i e
    unfold openE at e
    split at e
    · simp at e
    · rename_i hb
      simp only [not_or, Bool.not_eq_true] at hb
      have hb := badC_no hb.1
      have := h.t0; have := h.k0; have := h.k1; have := h.h0; have := h.h1
      exact h.upd (.inr ⟨by omega, by omega, by show id = _; omega, by show (1 : Int) ≤ 3; omega, by show (3 : Int) ≤ 3; omega, by show ((0 : Nat) : Int) ≤ _; omega, by show 0 ≤ now + k.keep; omega, by show now + k.keep ≤ _; omega, by show 0 ≤ now + k.hold; omega, by show now + k.hold ≤ _; omega, hi, hp, fun h => absurd rfl h⟩)
  · exact h
theorem heard_yes {k : Tk} {id : Int} {ip pt : Nat} {now : Int} (h : heardB k id ip pt now = true) : (1 ≤ id ∧ id ≤ 32) ∧ now ≤ 4611686018427387904 ∧ (k.p id.toNat).st = 3 ∧ (k.p id.toNat).ip = ip ∧ (k.p id.toNat).pt = pt := by
  unfold heardB at h
  simp only [Bool.and_eq_true, Bool.not_eq_true', decide_eq_true_eq, beq_iff_eq] at h
  have hb := badC_no h.1
  exact ⟨hb.1, hb.2, h.2.1, h.2.2.1, h.2.2.2⟩
theorem heard_ok {k : Tk} (h : OkK k) (id : Int) (ip pt : Nat) (now : Int) (n0 : 0 ≤ now) : OkK (heardD k id ip pt now) := by
  unfold heardD
  split
  · rename_i e
    have e := heard_yes e
    have hx := h.yes id.toNat (by unfold isS; rw [e.2.2.1]; rfl)
    have := h.h0; have := h.h1
    exact h.upd (.inr ⟨hx.lo, hx.hi, hx.peer, hx.s0, hx.s1, hx.tr, hx.n0, hx.n1, by show 0 ≤ now + k.hold; omega, by show now + k.hold ≤ _; omega, hx.ip, hx.pt, fun h => absurd e.2.2.1 h⟩)
  · exact h
theorem lost_ok {k : Tk} (h : OkK k) (id : Int) : OkK (lostD k id) := by
  unfold lostD
  split
  · exact h.upd (.inl rfl)
  · exact h
/-- behind Due nothing is due -/
theorem step_nx {k : Tk} (h : OkK k) {x : Pt} (ht : (x.tr : Int) ≤ k.tries) {now : Int} : now < (stepX k x now).nx := by
  have a0 := h.h0; have a1 := h.k0; have t0 := h.t0; have t1 := h.t1
  have tryn : ∀ y : Pt, (y.tr : Int) ≤ k.tries → now < (tryX k y now).nx := by
    intro y hy
    unfold tryX
    split
    · show now < now + k.hold; omega
    · have w := wait_le h.b0 h.b1 (show y.tr ≤ 7 by omega)
      show now < now + k.base * 2 ^ y.tr; omega
  unfold stepX
  split
  · exact tryn x ht
  · split
    · show now < now + k.keep; omega
    · exact tryn _ (by show ((0 : Nat) : Int) ≤ _; omega)
theorem due_nx {k : Tk} (h : OkK k) (i : Nat) {now : Int} : isD (dueX k (k.p i) now) now = false := by
  unfold dueX
  split
  · rename_i e
    unfold isD at e
    rw [Bool.and_eq_true] at e
    have := step_nx h (now := now) (h.yes i e.1).tr
    unfold isD
    rw [show decide ((stepX k (k.p i) now).nx ≤ now) = false by rw [decide_eq_false_iff_not]; omega, Bool.and_false]
  · rename_i e; simpa using e
end Go.Proofs.Ytpeoallhbbleaaa
