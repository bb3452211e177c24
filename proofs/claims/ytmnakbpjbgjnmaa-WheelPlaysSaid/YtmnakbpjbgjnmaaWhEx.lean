/- The chapter's examples. -/
import Derived.Test.YtmnakbpjbgjnmaaWhLaw
namespace Go.Proofs.Ytmnakbpjbgjnmaa
open Go.Sort Go.RowKit Go.BigFrame
set_option linter.unusedVariables false
set_option linter.unusedSimpArgs false

set_option maxHeartbeats 1600000 in
theorem ex_any (w : World) : Calls Try.prog 8 #[] w fun e w' => e = .returned (.bool true) ∧ Below w.heap.size w w' := by
  have K0 := new_s w w (Below.refl _ _)
  go_enter Try.func8, Try.ntmps8
  go_wp2_with fail
  refine K0.mono ?_; rintro e w1 ⟨g, rfl, h1⟩
  clear K0
  have K := set_s h1 16 0 1 (by decide) (by decide)
  rw [show setE 16 0 [] = 1 from rfl, show setL 16 0 1 [] = [] from rfl] at K
  clear h1
  go_wp2_with fail
  refine K.mono ?_; rintro e w2 ⟨rfl, h2⟩
  clear K
  have K := set_s h2 1 2 5 (by decide) (by decide)
  rw [show setE 1 2 [] = 0 from rfl, show setL 1 2 5 [] = [⟨1, 2, 5⟩] from rfl] at K
  clear h2
  go_wp2_with fail
  refine K.mono ?_; rintro e w3 ⟨rfl, h3⟩
  clear K
  have K := set_s h3 1 3 4 (by decide) (by decide)
  rw [show setE 1 3 [⟨1, 2, 5⟩] = 0 from rfl, show setL 1 3 4 [⟨1, 2, 5⟩] = [⟨1, 2, 5⟩, ⟨1, 3, 4⟩] from rfl] at K
  clear h3
  go_wp2_with fail
  refine K.mono ?_; rintro e w4 ⟨rfl, h4⟩
  clear K
  have K := at_s h4 1 2
  rw [show atT 1 2 [⟨1, 2, 5⟩, ⟨1, 3, 4⟩] = 5 from rfl, show hasT 1 2 [⟨1, 2, 5⟩, ⟨1, 3, 4⟩] = true from rfl] at K
  clear h4
  go_wp2_with fail
  refine K.mono ?_; rintro e w5 ⟨rfl, h5⟩
  clear K
  have K := due_s h5 5
  rw [show sortT (dueL 5 [⟨1, 2, 5⟩, ⟨1, 3, 4⟩]) = [⟨1, 3, 4⟩, ⟨1, 2, 5⟩] from rfl, show restL 5 [⟨1, 2, 5⟩, ⟨1, 3, 4⟩] = [] from rfl] at K
  clear h5
  go_wp2_with fail
  refine K.mono ?_; rintro e w6 ⟨u, rfl, h6⟩
  clear K
  obtain ⟨b, off, hbo, hbl, hcc⟩ := h6.rd (r := (u, [⟨1, 3, 4⟩, ⟨1, 2, 5⟩])) (by simp) (by simp)
  have c0 := hcc 0 _ rfl 1 _ rfl
  simp only [Nat.zero_mul, Nat.add_zero] at c0 hbo
  obtain ⟨ua, un, uc⟩ := u
  simp only at hbo
  subst hbo
  have KL := len_s h6
  have H6 := Lib.hid h6
  have KS := stop_s h6 1 2
  rw [show hasT 1 2 [] = false from rfl, show stopL 1 2 [] = [] from rfl] at KS
  clear hcc h6
  simp only [List.length_cons, List.length_nil] at *
  go_wp2_with fail
  refine KL.mono ?_; rintro e w7 ⟨rfl, rfl⟩
  clear KL
  go_wp2_with fail
  refine KS.mono ?_; rintro e w8 ⟨rfl, h8⟩
  clear KS c0 hbl
  have KA := all_s h8
  rw [show sortT [] = [] from rfl] at KA
  clear h8 H6
  simp only [List.length_nil] at KA
  go_wp2_with fail
  refine KA.mono ?_; rintro e w9 ⟨u2, rfl, h9⟩
  clear KA
  have HB := Lib.hid h9.below
  clear h9
  go_wp2
  go_ret
  exact ⟨rfl, HB.out⟩
end Go.Proofs.Ytmnakbpjbgjnmaa
