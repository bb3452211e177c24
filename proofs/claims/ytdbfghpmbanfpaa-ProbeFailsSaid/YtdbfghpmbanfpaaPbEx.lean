/- The chapter's examples. -/
import Derived.Test.YtdbfghpmbanfpaaPbLaw
namespace Go.Proofs.Ytdbfghpmbanfpaa
open Go.Sort Go.RowKit Go.BigFrame
set_option linter.unusedVariables false
set_option linter.unusedSimpArgs false

set_option maxHeartbeats 1600000 in
theorem ex_any (w : World) : Calls Try.prog 7 #[] w fun e w' => e = .returned (.bool true) ∧ Below w.heap.size w w' := by
  have S : Hid (St w [] w) := St.start w w (Below.refl _ _)
  go_enter Try.func7, Try.ntmps7
  have K := new_l 0 1 (p := ⟨0, 0, 0, 0, 0, 0, 0⟩) (e := 1) rfl S.out
  go_wp2_with fail
  refine K.mono ?_; rintro e w1 ⟨rfl, s⟩
  clear K S
  have S := Lib.hid s
  clear s
  have K := new_l 2 3 (p := ⟨0, 0, 0, 0, 0, 2, 3⟩) (e := 0) rfl (S.out.pbox ⟨0, 0, 0, 0, 0, 0, 0⟩)
  go_wp2_with fail
  refine K.mono ?_; rintro e w2 ⟨rfl, s⟩
  clear K S
  have S := Lib.hid s
  clear s
  have K := start_l ⟨0, 0, 0, 0, 0, 2, 3⟩ 4 9 10 (q := ⟨1, 4, 0, 9, 12, 2, 3⟩) (e := 0) rfl (S.out.pbox ⟨0, 0, 0, 0, 0, 2, 3⟩)
  go_wp2_with fail
  refine K.mono ?_; rintro e w3 ⟨rfl, s⟩
  clear K S
  have S := Lib.hid s
  clear s
  have K := start_l ⟨1, 4, 0, 9, 12, 2, 3⟩ 5 1 10 (q := ⟨1, 4, 0, 9, 12, 2, 3⟩) (e := 4) rfl (S.out.pbox ⟨1, 4, 0, 9, 12, 2, 3⟩)
  go_wp2_with fail
  refine K.mono ?_; rintro e w4 ⟨rfl, s⟩
  clear K S
  obtain ⟨c2_0, c2_1, c2_2, c2_3, c2_4, c2_5, c2_6⟩ := s.pc (b := w3.heap.size) (p := ⟨1, 4, 0, 9, 12, 2, 3⟩) (by simp)
  have l2 := s.pl (b := w3.heap.size) (p := ⟨1, 4, 0, 9, 12, 2, 3⟩) (by simp)
  have S := Lib.hid s
  clear s
  have K := tick_l ⟨1, 4, 0, 9, 12, 2, 3⟩ 12 (q := ⟨2, 4, 0, 9, 15, 2, 3⟩) (e := 1) rfl (S.out.pbox ⟨1, 4, 0, 9, 12, 2, 3⟩)
  go_wp2_with fail
  refine K.mono ?_; rintro e w5 ⟨rfl, s⟩
  clear K S
  have S := Lib.hid s
  clear s
  have K := tick_l ⟨2, 4, 0, 9, 15, 2, 3⟩ 15 (q := ⟨0, 0, 0, 0, 0, 2, 3⟩) (e := 2) rfl (S.out.pbox ⟨2, 4, 0, 9, 15, 2, 3⟩)
  go_wp2_with fail
  refine K.mono ?_; rintro e w6 ⟨rfl, s⟩
  clear K S
  obtain ⟨c4_0, c4_1, c4_2, c4_3, c4_4, c4_5, c4_6⟩ := s.pc (b := w5.heap.size) (p := ⟨2, 4, 0, 9, 15, 2, 3⟩) (by simp)
  have l4 := s.pl (b := w5.heap.size) (p := ⟨2, 4, 0, 9, 15, 2, 3⟩) (by simp)
  have S := Lib.hid s
  clear s
  have K := ack_l ⟨2, 4, 0, 9, 15, 2, 3⟩ 9 (q := ⟨0, 0, 0, 0, 0, 2, 3⟩) (e := true) rfl (S.out.pbox ⟨0, 0, 0, 0, 0, 2, 3⟩)
  go_wp2_with fail
  refine K.mono ?_; rintro e w7 ⟨rfl, s⟩
  clear K S
  obtain ⟨c4_0, c4_1, c4_2, c4_3, c4_4, c4_5, c4_6⟩ := s.pc (b := w5.heap.size) (p := ⟨2, 4, 0, 9, 15, 2, 3⟩) (by simp)
  have l4 := s.pl (b := w5.heap.size) (p := ⟨2, 4, 0, 9, 15, 2, 3⟩) (by simp)
  have S := Lib.hid s
  clear s
  have K := ack_l ⟨2, 4, 0, 9, 15, 2, 3⟩ 8 (q := ⟨2, 4, 0, 9, 15, 2, 3⟩) (e := false) rfl (S.out.pbox ⟨0, 0, 0, 0, 0, 2, 3⟩)
  go_wp2_with fail
  refine K.mono ?_; rintro e w8 ⟨rfl, s⟩
  clear K S
  obtain ⟨c4_0, c4_1, c4_2, c4_3, c4_4, c4_5, c4_6⟩ := s.pc (b := w5.heap.size) (p := ⟨2, 4, 0, 9, 15, 2, 3⟩) (by simp)
  have l4 := s.pl (b := w5.heap.size) (p := ⟨2, 4, 0, 9, 15, 2, 3⟩) (by simp)
  have S := Lib.hid s
  clear s
  have K := nack_l ⟨2, 4, 0, 9, 15, 2, 3⟩ 9 (q := ⟨2, 4, 1, 9, 15, 2, 3⟩) (e := true) (by simp [nackP, nkP, wrap64]) (S.out.pbox ⟨2, 4, 0, 9, 15, 2, 3⟩)
  go_wp2_with fail
  refine K.mono ?_; rintro e w9 ⟨rfl, s⟩
  clear K S
  obtain ⟨c1_0, c1_1, c1_2, c1_3, c1_4, c1_5, c1_6⟩ := s.pc (b := w2.heap.size) (p := ⟨0, 0, 0, 0, 0, 2, 3⟩) (by simp)
  have l1 := s.pl (b := w2.heap.size) (p := ⟨0, 0, 0, 0, 0, 2, 3⟩) (by simp)
  obtain ⟨c4_0, c4_1, c4_2, c4_3, c4_4, c4_5, c4_6⟩ := s.pc (b := w5.heap.size) (p := ⟨2, 4, 0, 9, 15, 2, 3⟩) (by simp)
  have l4 := s.pl (b := w5.heap.size) (p := ⟨2, 4, 0, 9, 15, 2, 3⟩) (by simp)
  obtain ⟨c5_0, c5_1, c5_2, c5_3, c5_4, c5_5, c5_6⟩ := s.pc (b := w6.heap.size) (p := ⟨0, 0, 0, 0, 0, 2, 3⟩) (by simp)
  have l5 := s.pl (b := w6.heap.size) (p := ⟨0, 0, 0, 0, 0, 2, 3⟩) (by simp)
  obtain ⟨c6_0, c6_1, c6_2, c6_3, c6_4, c6_5, c6_6⟩ := s.pc (b := w7.heap.size) (p := ⟨0, 0, 0, 0, 0, 2, 3⟩) (by simp)
  have l6 := s.pl (b := w7.heap.size) (p := ⟨0, 0, 0, 0, 0, 2, 3⟩) (by simp)
  have S := Lib.hid s
  clear s
  have F := Lib.hid (S.out.pbox ⟨2, 4, 1, 9, 15, 2, 3⟩).below
  clear S
  go_wp2
  go_ret
  exact ⟨rfl, F.out⟩
end Go.Proofs.Ytdbfghpmbanfpaa
