/- The contract of the reader's Done. -/
import Derived.Test.YtmhlnlippfaclaaDoorPackIs
namespace Go.Proofs.YtmhlnlippfaclaaDoor
open Go.RowKit
set_option linter.unusedVariables false
set_option linter.unusedSimpArgs false

/-- is all read, and nothing bad? -/
def dn (s : ByteArray) (b : Bool) : Bool := !b && decide (s.toList = [])

theorem done_bad (s : ByteArray) (w : World) : Calls Tryd.prog 43 #[.agg #[.string s, .bool true]] w fun e w' => e = .returned (.bool false) ∧ Below w.heap.size w w' := by
  by_cases h : s.toList = []
  · have h2 : (!s.toList.isEmpty) = false := by simp [h]
    go_enter Tryd.func43, Tryd.ntmps43
    go_wp2
    go_ret
    exact ⟨rfl, by (repeat (first | with_reducible exact Below.refl _ _ | with_reducible refine Below.drew ?_ | with_reducible refine below_drewN ?_ _ | with_reducible refine Below.alloc ?_ (by first | omega | (simp; done) | (simp; omega)) _ | with_reducible refine Below.setCell ?_ (by first | omega | (simp; done) | (simp; omega)) _))⟩
  · have h2 : s.toList.isEmpty = false := by simpa using h
    go_enter Tryd.func43, Tryd.ntmps43
    go_wp2
    go_ret
    exact ⟨rfl, by (repeat (first | with_reducible exact Below.refl _ _ | with_reducible refine Below.drew ?_ | with_reducible refine below_drewN ?_ _ | with_reducible refine Below.alloc ?_ (by first | omega | (simp; done) | (simp; omega)) _ | with_reducible refine Below.setCell ?_ (by first | omega | (simp; done) | (simp; omega)) _))⟩
theorem done_emp (s : ByteArray) (h : s.toList = []) (w : World) : Calls Tryd.prog 43 #[.agg #[.string s, .bool false]] w fun e w' => e = .returned (.bool true) ∧ Below w.heap.size w w' := by
  go_enter Tryd.func43, Tryd.ntmps43
  go_wp2
  go_ret
  exact ⟨rfl, by (repeat (first | with_reducible exact Below.refl _ _ | with_reducible refine Below.drew ?_ | with_reducible refine below_drewN ?_ _ | with_reducible refine Below.alloc ?_ (by first | omega | (simp; done) | (simp; omega)) _ | with_reducible refine Below.setCell ?_ (by first | omega | (simp; done) | (simp; omega)) _))⟩
theorem done_more (s : ByteArray) (h : s.toList.isEmpty = false) (w : World) : Calls Tryd.prog 43 #[.agg #[.string s, .bool false]] w fun e w' => e = .returned (.bool false) ∧ Below w.heap.size w w' := by
  go_enter Tryd.func43, Tryd.ntmps43
  go_wp2
  go_ret
  exact ⟨rfl, by (repeat (first | with_reducible exact Below.refl _ _ | with_reducible refine Below.drew ?_ | with_reducible refine below_drewN ?_ _ | with_reducible refine Below.alloc ?_ (by first | omega | (simp; done) | (simp; omega)) _ | with_reducible refine Below.setCell ?_ (by first | omega | (simp; done) | (simp; omega)) _))⟩
theorem done_is {s : ByteArray} {b d : Bool} (h : Hid (dn s b = d)) (w : World) : Calls Tryd.prog 43 #[.agg #[.string s, .bool b]] w fun e w' => e = .returned (.bool d) ∧ Below w.heap.size w w' := by
  have h := h.out
  subst h
  unfold dn
  cases b
  · by_cases hs : s.toList = []
    · have e : decide (s.toList = []) = true := by simpa using hs
      rw [e]
      exact done_emp s hs w
    · have e : decide (s.toList = []) = false := by simpa using hs
      rw [e]
      exact done_more s (by simpa using hs) w
  · exact done_bad s w

end Go.Proofs.YtmhlnlippfaclaaDoor
