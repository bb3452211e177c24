/- Plain mathematics: one alone is suspected. -/
import Derived.Test.YtplllaafllcigaaDbEx
namespace Go.Proofs.Ytplllaafllcigaa
set_option linter.unusedVariables false
set_option linter.unusedSimpArgs false

theorem argB_ok {i now hold : Int} (h1 : 1 ≤ i) (h2 : i ≤ 32) (h3 : now ≤ 4611686018427387904) (h4 : 1 ≤ hold) (h5 : hold ≤ 1000000) : argB i now hold = false := by
  unfold argB
  rw [nodeI_iff.2 ⟨h1, h2⟩, decide_eq_false (by omega), beq_eq_false_iff_ne.2 (by omega), decide_eq_false (by omega)]; rfl
theorem beginE_zero {k : Nat → It} {i inc now hold : Int} (ha : argB i now hold = false) (hq : ¬ (suspI k i = true ∧ inc ≤ (k i.toNat).inc)) : beginE k i inc now hold = 0 := by
  unfold beginE; rw [if_neg (by simp [ha]), if_neg hq]
theorem beginE_old {k : Nat → It} {i inc now hold : Int} (ha : argB i now hold = false) (hq : suspI k i = true ∧ inc ≤ (k i.toNat).inc) : beginE k i inc now hold = 6 := by
  unfold beginE; rw [if_neg (by simp [ha]), if_pos hq]
theorem beginE_arg {k : Nat → It} {i inc now hold : Int} (ha : argB i now hold = true) : beginE k i inc now hold = 1 := by
  unfold beginE; rw [if_pos ha]
theorem beginD_yes {k : Nat → It} {i inc now hold : Int} (h : beginE k i inc now hold = 0) : beginD k i inc now hold = updD k i.toNat ⟨i, inc, now, hold, []⟩ := by unfold beginD; rw [if_pos h]
theorem beginD_no {k : Nat → It} {i inc now hold : Int} (h : beginE k i inc now hold ≠ 0) : beginD k i inc now hold = k := by unfold beginD; rw [if_neg h]
theorem susp_yes {x : It} (h : 1 ≤ x.hold) : susp x = true := by unfold susp; rw [beq_eq_false_iff_ne.2 (by omega)]; rfl
theorem suspI_new (i : Int) : suspI newD i = false := by
  unfold suspI
  rw [show susp (newD i.toNat) = false from rfl, Bool.and_false]
theorem begin_one {n : Nat} {inc now hold : Int} (h1 : 1 ≤ n) (h2 : n ≤ 32) (h3 : now ≤ 4611686018427387904) (h4 : 1 ≤ hold) (h5 : hold ≤ 1000000) : beginE newD n inc now hold = 0 ∧ beginD newD n inc now hold = oneD n ⟨n, inc, now, hold, []⟩ := by
  have e := beginE_zero (k := newD) (inc := inc) (argB_ok (i := n) (by omega) (by omega) h3 h4 h5) (by rw [suspI_new]; simp)
  exact ⟨e, by rw [beginD_yes e, Int.toNat_natCast]; rfl⟩
theorem until_one {n : Nat} {x : It} (h1 : 1 ≤ n) (h2 : n ≤ 32) (hx : 1 ≤ x.hold) : untilV (oneD n x) n = untilI x ∧ suspI (oneD n x) n = true := by
  have e : suspI (oneD n x) n = true := by rw [suspI_one h1 h2]; exact susp_yes hx
  exact ⟨by unfold untilV; rw [if_pos e, Int.toNat_natCast, oneD_at], e⟩
theorem conf_one {n : Nat} {x : It} {who : Int} (h1 : 1 ≤ n) (h2 : n ≤ 32) (hx : 1 ≤ x.hold) (hw : nodeI who = true) (hn : who ≠ n) (hm : who ∉ x.who) : confE (oneD n x) n x.inc who = 0 ∧ confD (oneD n x) n x.inc who = oneD n { x with who := insW who x.who } := by
  have e : confE (oneD n x) n x.inc who = 0 := conf_put hw hn (until_one h1 h2 hx).2 (by rw [Int.toNat_natCast, oneD_at]) (by rw [Int.toNat_natCast, oneD_at]; exact hm)
  refine ⟨e, ?_⟩
  rw [confD_yes e, Int.toNat_natCast, oneD_at, one_upd]
theorem conf_one_old {n : Nat} {x : It} {who : Int} (h1 : 1 ≤ n) (h2 : n ≤ 32) (hx : 1 ≤ x.hold) (hw : nodeI who = true) (hn : who ≠ n) (hm : who ∈ x.who) : confE (oneD n x) n x.inc who = 6 ∧ confD (oneD n x) n x.inc who = oneD n x := by
  have e : confE (oneD n x) n x.inc who = 6 := conf_old hw hn (until_one h1 h2 hx).2 (by rw [Int.toNat_natCast, oneD_at]) (by rw [Int.toNat_natCast, oneD_at]; exact hm)
  exact ⟨e, confD_no (by rw [e]; decide)⟩
theorem conf_one_arg {n : Nat} {x : It} {inc who : Int} (hw : nodeI who = false ∨ who = n) : confE (oneD n x) n inc who = 1 ∧ confD (oneD n x) n inc who = oneD n x := by
  have e : confE (oneD n x) n inc who = 1 := conf_arg hw
  exact ⟨e, confD_no (by rw [e]; decide)⟩
end Go.Proofs.Ytplllaafllcigaa
