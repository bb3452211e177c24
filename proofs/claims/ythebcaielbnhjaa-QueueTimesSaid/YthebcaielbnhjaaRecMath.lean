/- Plain mathematics: records, their order, the one that stays. No program is read here. -/
import Derived.Test.YthebcaielbnhjaaKit
namespace Go.Proofs.Ythebcaielbnhjaa
set_option linter.unusedVariables false
set_option linter.unusedSimpArgs false

structure Rec where
  id : Int
  st : Int
  n : Nat
  ip : Nat
  port : Nat
  deriving DecidableEq
/-- what a record's fields hold -/
structure Rec.Ok (r : Rec) : Prop where
  n : r.n < 4294967296
  ip : r.ip < 4294967296
  port : r.port < 65536
def noneI (ip port : Nat) : Bool := decide (ip = 0) || decide (port = 0)
def ordI (a p b q : Nat) : Int := if a = b ∧ p = q then 0 else if a < b ∨ (a = b ∧ p < q) then -1 else 1
def stI (st : Int) : Bool := decide (0 ≤ st) && decide (st ≤ 3)
def rightI (id st : Int) (ip port : Nat) : Bool := (decide (1 ≤ id) && decide (id ≤ 32)) && (stI st && !noneI ip port)
def Rec.right (r : Rec) : Bool := rightI r.id r.st r.ip r.port
def liveI (st : Int) : Bool := decide (st = 0) || decide (st = 1)
def cmpI (a b : Int) : Int := if a < b then -1 else if a = b then 0 else 1
def orI (a b c : Int) : Int := if a ≠ 0 then a else if b ≠ 0 then b else c
def ordR (a b : Rec) : Int := orI (cmpI a.n b.n) (cmpI a.st b.st) (ordI a.ip a.port b.ip b.port)
def joinR (a b : Rec) : Rec := if ordR a b > 0 then a else b

/-- which is first -/
def ltR (a b : Rec) : Prop := a.n < b.n ∨ (a.n = b.n ∧ (a.st < b.st ∨ (a.st = b.st ∧ (a.ip < b.ip ∨ (a.ip = b.ip ∧ a.port < b.port)))))
theorem ordR_lt (a b : Rec) (h : ltR a b) : ordR a b = -1 ∧ ordR b a = 1 := by
  unfold ltR at h
  unfold ordR orI cmpI ordI
  rcases h with h | ⟨h1, h | ⟨h2, h | ⟨h3, h⟩⟩⟩
  · rw [if_pos (show (a.n : Int) < b.n by omega), if_neg (show ¬ (b.n : Int) < a.n by omega), if_neg (show ¬ (b.n : Int) = a.n by omega)]
    exact ⟨by simp, by simp⟩
  · rw [if_neg (show ¬ (a.n : Int) < b.n by omega), if_pos (show (a.n : Int) = b.n by omega), if_neg (show ¬ (b.n : Int) < a.n by omega), if_pos (show (b.n : Int) = a.n by omega),
      if_pos h, if_neg (show ¬ b.st < a.st by omega), if_neg (show ¬ b.st = a.st by omega)]
    exact ⟨by simp, by simp⟩
  · rw [if_neg (show ¬ (a.n : Int) < b.n by omega), if_pos (show (a.n : Int) = b.n by omega), if_neg (show ¬ (b.n : Int) < a.n by omega), if_pos (show (b.n : Int) = a.n by omega),
      if_neg (show ¬ a.st < b.st by omega), if_pos h2, if_neg (show ¬ b.st < a.st by omega), if_pos h2.symm,
      if_neg (show ¬ (a.ip = b.ip ∧ a.port = b.port) by omega), if_pos (show a.ip < b.ip ∨ (a.ip = b.ip ∧ a.port < b.port) by omega), if_neg (show ¬ (b.ip = a.ip ∧ b.port = a.port) by omega), if_neg (show ¬ (b.ip < a.ip ∨ (b.ip = a.ip ∧ b.port < a.port)) by omega)]
    exact ⟨by simp, by simp⟩
  · rw [if_neg (show ¬ (a.n : Int) < b.n by omega), if_pos (show (a.n : Int) = b.n by omega), if_neg (show ¬ (b.n : Int) < a.n by omega), if_pos (show (b.n : Int) = a.n by omega),
      if_neg (show ¬ a.st < b.st by omega), if_pos h2, if_neg (show ¬ b.st < a.st by omega), if_pos h2.symm,
      if_neg (show ¬ (a.ip = b.ip ∧ a.port = b.port) by omega), if_pos (show a.ip < b.ip ∨ (a.ip = b.ip ∧ a.port < b.port) by omega), if_neg (show ¬ (b.ip = a.ip ∧ b.port = a.port) by omega), if_neg (show ¬ (b.ip < a.ip ∨ (b.ip = a.ip ∧ b.port < a.port)) by omega)]
    exact ⟨by simp, by simp⟩
/-- the same but for the ID -/
def sameR (a b : Rec) : Prop := a.n = b.n ∧ a.st = b.st ∧ a.ip = b.ip ∧ a.port = b.port
theorem ordR_same (a b : Rec) (h : sameR a b) : ordR a b = 0 := by
  obtain ⟨h1, h2, h3, h4⟩ := h
  unfold ordR orI cmpI ordI
  rw [h1, h2, h3, h4]
  simp
theorem tri (a b : Rec) : ltR a b ∨ sameR a b ∨ ltR b a := by unfold ltR sameR; omega
theorem ltR_trans {a b c : Rec} (h1 : ltR a b) (h2 : ltR b c) : ltR a c := by unfold ltR at *; omega
theorem ltR_same {a b c : Rec} (h1 : ltR a b) (h2 : sameR b c) : ltR a c := by unfold ltR sameR at *; omega
theorem same_ltR {a b c : Rec} (h1 : sameR a b) (h2 : ltR b c) : ltR a c := by unfold ltR sameR at *; omega
theorem ltR_irr {a : Rec} (h : ltR a a) : False := by unfold ltR at h; omega
theorem ordR_neg (a b : Rec) : ordR a b = -ordR b a := by
  rcases tri a b with h | h | h
  · rw [(ordR_lt a b h).1, (ordR_lt a b h).2]
  · rw [ordR_same a b h, ordR_same b a ⟨h.1.symm, h.2.1.symm, h.2.2.1.symm, h.2.2.2.symm⟩]; rfl
  · rw [(ordR_lt b a h).1, (ordR_lt b a h).2]; rfl
theorem ordR_gt (a b : Rec) : ordR a b > 0 ↔ ltR b a := by
  rcases tri a b with h | h | h
  · rw [(ordR_lt a b h).1]; exact ⟨fun x => by omega, fun x => (ltR_irr (ltR_trans h x)).elim⟩
  · rw [ordR_same a b h]; exact ⟨fun x => by omega, fun x => (ltR_irr (same_ltR h x)).elim⟩
  · rw [(ordR_lt b a h).2]; exact ⟨fun _ => h, fun _ => by omega⟩
theorem ordR_three (a b : Rec) : ordR a b = -1 ∨ ordR a b = 0 ∨ ordR a b = 1 := by
  rcases tri a b with h | h | h
  · exact .inl (ordR_lt a b h).1
  · exact .inr (.inl (ordR_same a b h))
  · exact .inr (.inr (ordR_lt b a h).2)
theorem same_id {a b : Rec} (h : sameR a b) (hi : a.id = b.id) : a = b := by
  obtain ⟨h1, h2, h3, h4⟩ := h
  cases a; cases b; simp_all
theorem joinR_lt {a b : Rec} (h : ltR a b) : joinR a b = b := by unfold joinR; rw [if_neg (by rw [(ordR_lt a b h).1]; omega)]
theorem joinR_gt {a b : Rec} (h : ltR b a) : joinR a b = a := by unfold joinR; rw [if_pos ((ordR_gt a b).2 h)]
theorem joinR_same {a b : Rec} (h : sameR a b) : joinR a b = b := by unfold joinR; rw [if_neg (by rw [ordR_same a b h]; omega)]
theorem joinR_id {a b : Rec} (h : a.id = b.id) : (joinR a b).id = a.id := by unfold joinR; split <;> simp [h]
theorem joinR_comm {a b : Rec} (h : a.id = b.id) : joinR a b = joinR b a := by
  rcases tri a b with c | c | c
  · rw [joinR_lt c, joinR_gt c]
  · rw [same_id c h]
  · rw [joinR_gt c, joinR_lt c]
theorem joinR_self (a : Rec) : joinR a a = a := by unfold joinR; split <;> rfl
theorem joinR_or (a b : Rec) : joinR a b = a ∨ joinR a b = b := by unfold joinR; split <;> simp
theorem joinR_ge (a b : Rec) : ¬ ltR (joinR a b) a ∧ ¬ ltR (joinR a b) b := by
  rcases tri a b with c | c | c
  · rw [joinR_lt c]; exact ⟨fun x => ltR_irr (ltR_trans c x), ltR_irr⟩
  · rw [joinR_same c]; exact ⟨fun x => ltR_irr (same_ltR c x), ltR_irr⟩
  · rw [joinR_gt c]; exact ⟨ltR_irr, fun x => ltR_irr (ltR_trans c x)⟩
theorem ordR_ge {a b : Rec} (h : ¬ ltR a b) : 0 ≤ ordR a b := by
  rcases tri a b with c | c | c
  · exact (h c).elim
  · rw [ordR_same a b c]; omega
  · rw [(ordR_lt b a c).2]; omega
theorem not_lt_trans {a b c : Rec} (h1 : ¬ ltR a b) (h2 : ¬ ltR b c) : ¬ ltR a c := by
  unfold ltR at *; omega
theorem joinR_of_ge {a b : Rec} (h : ¬ ltR a b) (hi : a.id = b.id) : joinR a b = a := by
  rcases tri a b with c | c | c
  · exact (h c).elim
  · rw [joinR_same c, same_id c hi]
  · exact joinR_gt c
theorem antiR {a b : Rec} (h1 : ¬ ltR a b) (h2 : ¬ ltR b a) (hi : a.id = b.id) : a = b := by
  rcases tri a b with c | c | c
  · exact (h1 c).elim
  · exact same_id c hi
  · exact (h2 c).elim
theorem joinR_assoc {a b c : Rec} (h1 : a.id = b.id) (h2 : b.id = c.id) : joinR (joinR a b) c = joinR a (joinR b c) := by
  have i1 := joinR_id h1
  have i2 := joinR_id h2
  have i3 := joinR_id (a := joinR a b) (b := c) (by omega)
  have i4 := joinR_id (a := a) (b := joinR b c) (by omega)
  have g1 := joinR_ge a b
  have g2 := joinR_ge b c
  have g3 := joinR_ge (joinR a b) c
  have g4 := joinR_ge a (joinR b c)
  refine antiR ?_ ?_ (by omega)
  · rcases joinR_or a (joinR b c) with e | e
    · rw [e]; exact not_lt_trans g3.1 g1.1
    · rw [e]
      rcases joinR_or b c with e | e
      · rw [e]; exact not_lt_trans g3.1 g1.2
      · rw [e]; exact g3.2
  · rcases joinR_or (joinR a b) c with e | e
    · rw [e]
      rcases joinR_or a b with e | e
      · rw [e]; exact g4.1
      · rw [e]; exact not_lt_trans g4.2 g2.1
    · rw [e]; exact not_lt_trans g4.2 g2.2
end Go.Proofs.Ythebcaielbnhjaa
