/- The table of the kinds' words; contracts of Word, both programs. -/
import Derived.Test.YtnemmnndaoaadaaRuleThru
namespace Go.Proofs.Ytnemmnndaoaadaa
open Go.Sort Go.RowKit Go.BigFrame
set_option linter.unusedVariables false
set_option linter.unusedSimpArgs false

theorem cat_rule {a b e : ByteArray} (he : a ++ b = e) (h : a.size + b.size ≤ 1000) : ∀ w, (Op.stringOp .add a b).run Try.prog w = .ok (.string e) w := fun w => by
  subst he
  exact run_string_add_sum w a b (by omega)
theorem right_nat {m f : Int} (h : rightT m f = true) : ∃ a b : Nat, m = a ∧ f = b ∧ a ≤ 2 ∧ b ≤ 2 := by
  unfold rightT kiB at h
  simp at h
  exact ⟨m.toNat, f.toNat, by omega, by omega, by omega, by omega⟩
theorem kindW_size (k : Int) : (kindW k).size ≤ 4 := by unfold kindW; split; decide; split; decide; decide
def kindL : List Value := [Value.string ⟨#[97, 110, 121]⟩, Value.string ⟨#[104, 111, 115, 116]⟩, Value.string ⟨#[98, 111, 116, 104]⟩]
theorem kind_get (q : Nat) (h : q ≤ 2) : kindL[q]? = some (.string (kindW q)) := by
  have h3 : q = 0 ∨ q = 1 ∨ q = 2 := by omega
  rcases h3 with rfl | rfl | rfl <;> rfl
end Go.Proofs.Ytnemmnndaoaadaa
