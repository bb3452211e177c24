/- Contracts of the reader's calls as one: Number, Text, Done of both programs, by what is read ('rdn', 'rtx'). -/
import Derived.Test.YtmhlnlippfaclaaDoorPackRead
import Derived.Deep.QuietTactic
import Derived.BigQuiet
namespace Go.Proofs.YtmhlnlippfaclaaDoor
open Go.RowKit
set_option linter.unusedVariables false
set_option linter.unusedSimpArgs false

theorem num_is {s s' : ByteArray} {b b' : Bool} {z : Int} {v : Nat} (h : Hid (rdn s b z = (v, s', b'))) (hs : s.size ≤ 9223372036854775807) (w : World) :
    Calls Tryd.prog 25 #[.agg #[.string s, .bool b], .int .i64 z] w fun e w' => e = .returned (.tuple #[.int .u64 v, .agg #[.string s', .bool b']]) ∧ Below w.heap.size w w' := by
  have h := h.out
  by_cases ho : okN s b z
  · rw [rdn_yes ho] at h
    injection h with h1 h
    injection h with h2 h3
    subst h1 h2 h3
    obtain ⟨rfl, h5, h6, h7⟩ := ho
    obtain ⟨k, rfl⟩ : ∃ k : Nat, z = k := ⟨z.toNat, by omega⟩
    rw [Int.toNat_natCast]
    exact rnum_ok s k (by omega) (by omega) (by omega) hs w
  · rw [rdn_no ho] at h
    injection h with h1 h
    injection h with h2 h3
    subst h1 h2 h3
    cases b
    · by_cases hz : 1 ≤ z ∧ z ≤ 8
      · exact rnum_bad3 s z hz.1 hz.2 (by unfold okN at ho; simp at ho; omega) w
      · exact rnum_bad2 s z hz w
    · exact rnum_bad1 s z w

end Go.Proofs.YtmhlnlippfaclaaDoor
