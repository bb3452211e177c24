/- WheelAnew: a timer set anew has its new time alone, and stands behind those of its time that were set ahead; stopped there is none: for any three times below 256. -/
import Derived.Test.YtmnakbpjbgjnmaaWhEx
import Derived.ChangeOld
import Derived.ChangeMaps5
import Derived.ShutString
import Derived.OpenShut
import Derived.SizedLaws
namespace Go.Proofs.Ytmnakbpjbgjnmaa
open Go.Sort Go.RowKit Go.BigFrame Go.ChangeShapes Go.WideShapes Go.ChangeAt
open Go.ChangeMaps (open_string shut_string)
set_option linter.unusedVariables false
set_option linter.unusedSimpArgs false

theorem anew_sort1 {b c : Int} (h : b < c) : sortT [⟨1, 2, c⟩, ⟨1, 1, b⟩] = [⟨1, 1, b⟩, ⟨1, 2, c⟩] := by
  have h1 : decide (c ≤ b) = false := decide_eq_false (by omega)
  simp [sortT, insT, h1]
theorem anew_sort2 {b c : Int} (h : ¬ b < c) : sortT [⟨1, 2, c⟩, ⟨1, 1, b⟩] = [⟨1, 2, c⟩, ⟨1, 1, b⟩] := by
  have h1 : decide (c ≤ b) = true := decide_eq_true (by omega)
  simp [sortT, insT, h1]
theorem anew_due0 {b d : Int} (h : d < b) : sortT (dueL d [⟨1, 1, b⟩]) = [] ∧ restL d [⟨1, 1, b⟩] = [⟨1, 1, b⟩] := by
  have h1 : decide (b ≤ d) = false := decide_eq_false (by omega)
  simp [sortT, dueL, restL, h1]
theorem anew_due1 (b : Int) : sortT (dueL b [⟨1, 1, b⟩]) = [⟨1, 1, b⟩] ∧ restL b [⟨1, 1, b⟩] = [] := by
  simp [sortT, dueL, restL, insT]
def AnewPost (w : World) (e : Ending) (w' : World) : Prop := e = .returned (.bool true) ∧ Below w.heap.size w w'
set_option maxHeartbeats 6400000 in
theorem anew_walk (a b c : Int) (w : World) (ha : (Lit.int .u8 a).wf = true) (hb : (Lit.int .u8 b).wf = true) (hc : (Lit.int .u8 c).wf = true) :
    Calls Try.prog 6 #[.int .u8 a, .int .u8 b, .int .u8 c] w (AnewPost w) := by
  have K0 := ex_any w
  obtain ⟨a0, a1⟩ := bounds_u8 ha
  obtain ⟨b0, b1⟩ := bounds_u8 hb
  obtain ⟨c0, c1⟩ := bounds_u8 hc
  clear ha hb hc
  by_cases hbc : b < c
  · have hd : decide (b < c) = true := decide_eq_true hbc
    by_cases hp : 0 < b
    · have hd2 : decide (0 < b) = true := decide_eq_true hp
      go_enter Try.func6, Try.ntmps6
      go_wp2_with fail
      refine K0.mono ?_; rintro e w1 ⟨rfl, b9⟩
      have K := new_s w w1 b9
      clear K0 b9
      go_wp2_with fail
      refine K.mono ?_; rintro e w2 ⟨g, rfl, h⟩
      clear K
      have K := set_s h 1 1 a a0 (by omega)
      rw [show setE 1 1 [] = 0 from rfl, show setL 1 1 a [] = [⟨1, 1, a⟩] from rfl] at K
      clear h
      go_wp2_with fail
      refine K.mono ?_; rintro e w3 ⟨rfl, h⟩
      clear K
      have K := set_s h 1 2 c c0 (by omega)
      rw [show setE 1 2 [⟨1, 1, a⟩] = 0 from rfl, show setL 1 2 c [⟨1, 1, a⟩] = [⟨1, 1, a⟩, ⟨1, 2, c⟩] from rfl] at K
      clear h
      go_wp2_with fail
      refine K.mono ?_; rintro e w4 ⟨rfl, h⟩
      clear K
      have K := set_s h 1 1 b b0 (by omega)
      rw [show setE 1 1 [⟨1, 1, a⟩, ⟨1, 2, c⟩] = 0 from rfl, show setL 1 1 b [⟨1, 1, a⟩, ⟨1, 2, c⟩] = [⟨1, 2, c⟩, ⟨1, 1, b⟩] from rfl] at K
      clear h
      go_wp2_with fail
      refine K.mono ?_; rintro e w5 ⟨rfl, h⟩
      clear K
      have K := at_s h 1 1
      rw [show atT 1 1 [⟨1, 2, c⟩, ⟨1, 1, b⟩] = b from rfl, show hasT 1 1 [⟨1, 2, c⟩, ⟨1, 1, b⟩] = true from rfl] at K
      clear h
      go_wp2_with fail
      refine K.mono ?_; rintro e w6 ⟨rfl, h⟩
      clear K
      have K := all_s h
      rw [anew_sort1 (b := b) (c := c) (by omega)] at K
      clear h
      simp only [List.length_cons, List.length_nil] at K
      go_wp2_with fail
      refine K.mono ?_; rintro e w7 ⟨u, rfl, h⟩
      clear K
      have K := stop_s h 1 2
      rw [show hasT 1 2 [⟨1, 2, c⟩, ⟨1, 1, b⟩] = true from rfl, show stopL 1 2 [⟨1, 2, c⟩, ⟨1, 1, b⟩] = [⟨1, 1, b⟩] from rfl] at K
      clear h
      go_wp2_with fail
      refine K.mono ?_; rintro e w8 ⟨rfl, h⟩
      clear K
      have K := at_s h 1 2
      rw [show atT 1 2 [⟨1, 1, b⟩] = 0 from rfl, show hasT 1 2 [⟨1, 1, b⟩] = false from rfl] at K
      clear h
      go_wp2_with fail
      refine K.mono ?_; rintro e w9 ⟨rfl, h⟩
      clear K
      have K := due_s h (b - 1)
      rw [(anew_due0 (b := b) (d := b - 1) (by omega)).1, (anew_due0 (b := b) (d := b - 1) (by omega)).2] at K
      clear h
      simp only [List.length_nil] at K
      go_wp2_with fail
      refine K.mono ?_; rintro e w10 ⟨u1, rfl, h⟩
      clear K
      have K := due_s h b
      rw [(anew_due1 b).1, (anew_due1 b).2] at K
      clear h
      simp only [List.length_cons, List.length_nil] at K
      go_wp2_with fail
      refine K.mono ?_; rintro e w11 ⟨u2, rfl, h⟩
      clear K
      obtain ⟨bl, off, hbo, hbl, hcc⟩ := h.rd (r := (u, [⟨1, 1, b⟩, ⟨1, 2, c⟩])) (by simp) (by simp)
      have l0 := hcc 0 _ rfl 1 _ rfl
      obtain ⟨bl2, off2, hbo2, hbl2, hcc2⟩ := h.rd (r := (u2, [⟨1, 1, b⟩])) (by simp) (by simp)
      have m0 := hcc2 0 _ rfl 1 _ rfl
      simp only [Nat.zero_mul, Nat.add_zero] at l0 m0 hbo hbo2
      obtain ⟨ua, un, uc⟩ := u
      obtain ⟨ub, un2, uc2⟩ := u2
      simp only at hbo hbo2
      subst hbo hbo2
      have HB := Lib.hid h.below
      clear h hcc hcc2
      go_wp2_with fail
      go_ret
      exact ⟨rfl, HB.out⟩
    · have hd2 : decide (0 < b) = false := decide_eq_false hp
      go_enter Try.func6, Try.ntmps6
      go_wp2_with fail
      refine K0.mono ?_; rintro e w1 ⟨rfl, b9⟩
      have K := new_s w w1 b9
      clear K0 b9
      go_wp2_with fail
      refine K.mono ?_; rintro e w2 ⟨g, rfl, h⟩
      clear K
      have K := set_s h 1 1 a a0 (by omega)
      rw [show setE 1 1 [] = 0 from rfl, show setL 1 1 a [] = [⟨1, 1, a⟩] from rfl] at K
      clear h
      go_wp2_with fail
      refine K.mono ?_; rintro e w3 ⟨rfl, h⟩
      clear K
      have K := set_s h 1 2 c c0 (by omega)
      rw [show setE 1 2 [⟨1, 1, a⟩] = 0 from rfl, show setL 1 2 c [⟨1, 1, a⟩] = [⟨1, 1, a⟩, ⟨1, 2, c⟩] from rfl] at K
      clear h
      go_wp2_with fail
      refine K.mono ?_; rintro e w4 ⟨rfl, h⟩
      clear K
      have K := set_s h 1 1 b b0 (by omega)
      rw [show setE 1 1 [⟨1, 1, a⟩, ⟨1, 2, c⟩] = 0 from rfl, show setL 1 1 b [⟨1, 1, a⟩, ⟨1, 2, c⟩] = [⟨1, 2, c⟩, ⟨1, 1, b⟩] from rfl] at K
      clear h
      go_wp2_with fail
      refine K.mono ?_; rintro e w5 ⟨rfl, h⟩
      clear K
      have K := at_s h 1 1
      rw [show atT 1 1 [⟨1, 2, c⟩, ⟨1, 1, b⟩] = b from rfl, show hasT 1 1 [⟨1, 2, c⟩, ⟨1, 1, b⟩] = true from rfl] at K
      clear h
      go_wp2_with fail
      refine K.mono ?_; rintro e w6 ⟨rfl, h⟩
      clear K
      have K := all_s h
      rw [anew_sort1 (b := b) (c := c) (by omega)] at K
      clear h
      simp only [List.length_cons, List.length_nil] at K
      go_wp2_with fail
      refine K.mono ?_; rintro e w7 ⟨u, rfl, h⟩
      clear K
      have K := stop_s h 1 2
      rw [show hasT 1 2 [⟨1, 2, c⟩, ⟨1, 1, b⟩] = true from rfl, show stopL 1 2 [⟨1, 2, c⟩, ⟨1, 1, b⟩] = [⟨1, 1, b⟩] from rfl] at K
      clear h
      go_wp2_with fail
      refine K.mono ?_; rintro e w8 ⟨rfl, h⟩
      clear K
      have K := at_s h 1 2
      rw [show atT 1 2 [⟨1, 1, b⟩] = 0 from rfl, show hasT 1 2 [⟨1, 1, b⟩] = false from rfl] at K
      clear h
      go_wp2_with fail
      refine K.mono ?_; rintro e w9 ⟨rfl, h⟩
      clear K
      have K := due_s h b
      rw [(anew_due1 b).1, (anew_due1 b).2] at K
      clear h
      simp only [List.length_cons, List.length_nil] at K
      go_wp2_with fail
      refine K.mono ?_; rintro e w11 ⟨u2, rfl, h⟩
      clear K
      obtain ⟨bl, off, hbo, hbl, hcc⟩ := h.rd (r := (u, [⟨1, 1, b⟩, ⟨1, 2, c⟩])) (by simp) (by simp)
      have l0 := hcc 0 _ rfl 1 _ rfl
      obtain ⟨bl2, off2, hbo2, hbl2, hcc2⟩ := h.rd (r := (u2, [⟨1, 1, b⟩])) (by simp) (by simp)
      have m0 := hcc2 0 _ rfl 1 _ rfl
      simp only [Nat.zero_mul, Nat.add_zero] at l0 m0 hbo hbo2
      obtain ⟨ua, un, uc⟩ := u
      obtain ⟨ub, un2, uc2⟩ := u2
      simp only at hbo hbo2
      subst hbo hbo2
      have HB := Lib.hid h.below
      clear h hcc hcc2
      go_wp2_with fail
      go_ret
      exact ⟨rfl, HB.out⟩
  · have hd : decide (b < c) = false := decide_eq_false hbc
    by_cases hp : 0 < b
    · have hd2 : decide (0 < b) = true := decide_eq_true hp
      go_enter Try.func6, Try.ntmps6
      go_wp2_with fail
      refine K0.mono ?_; rintro e w1 ⟨rfl, b9⟩
      have K := new_s w w1 b9
      clear K0 b9
      go_wp2_with fail
      refine K.mono ?_; rintro e w2 ⟨g, rfl, h⟩
      clear K
      have K := set_s h 1 1 a a0 (by omega)
      rw [show setE 1 1 [] = 0 from rfl, show setL 1 1 a [] = [⟨1, 1, a⟩] from rfl] at K
      clear h
      go_wp2_with fail
      refine K.mono ?_; rintro e w3 ⟨rfl, h⟩
      clear K
      have K := set_s h 1 2 c c0 (by omega)
      rw [show setE 1 2 [⟨1, 1, a⟩] = 0 from rfl, show setL 1 2 c [⟨1, 1, a⟩] = [⟨1, 1, a⟩, ⟨1, 2, c⟩] from rfl] at K
      clear h
      go_wp2_with fail
      refine K.mono ?_; rintro e w4 ⟨rfl, h⟩
      clear K
      have K := set_s h 1 1 b b0 (by omega)
      rw [show setE 1 1 [⟨1, 1, a⟩, ⟨1, 2, c⟩] = 0 from rfl, show setL 1 1 b [⟨1, 1, a⟩, ⟨1, 2, c⟩] = [⟨1, 2, c⟩, ⟨1, 1, b⟩] from rfl] at K
      clear h
      go_wp2_with fail
      refine K.mono ?_; rintro e w5 ⟨rfl, h⟩
      clear K
      have K := at_s h 1 1
      rw [show atT 1 1 [⟨1, 2, c⟩, ⟨1, 1, b⟩] = b from rfl, show hasT 1 1 [⟨1, 2, c⟩, ⟨1, 1, b⟩] = true from rfl] at K
      clear h
      go_wp2_with fail
      refine K.mono ?_; rintro e w6 ⟨rfl, h⟩
      clear K
      have K := all_s h
      rw [anew_sort2 (b := b) (c := c) (by omega)] at K
      clear h
      simp only [List.length_cons, List.length_nil] at K
      go_wp2_with fail
      refine K.mono ?_; rintro e w7 ⟨u, rfl, h⟩
      clear K
      have K := stop_s h 1 2
      rw [show hasT 1 2 [⟨1, 2, c⟩, ⟨1, 1, b⟩] = true from rfl, show stopL 1 2 [⟨1, 2, c⟩, ⟨1, 1, b⟩] = [⟨1, 1, b⟩] from rfl] at K
      clear h
      go_wp2_with fail
      refine K.mono ?_; rintro e w8 ⟨rfl, h⟩
      clear K
      have K := at_s h 1 2
      rw [show atT 1 2 [⟨1, 1, b⟩] = 0 from rfl, show hasT 1 2 [⟨1, 1, b⟩] = false from rfl] at K
      clear h
      go_wp2_with fail
      refine K.mono ?_; rintro e w9 ⟨rfl, h⟩
      clear K
      have K := due_s h (b - 1)
      rw [(anew_due0 (b := b) (d := b - 1) (by omega)).1, (anew_due0 (b := b) (d := b - 1) (by omega)).2] at K
      clear h
      simp only [List.length_nil] at K
      go_wp2_with fail
      refine K.mono ?_; rintro e w10 ⟨u1, rfl, h⟩
      clear K
      have K := due_s h b
      rw [(anew_due1 b).1, (anew_due1 b).2] at K
      clear h
      simp only [List.length_cons, List.length_nil] at K
      go_wp2_with fail
      refine K.mono ?_; rintro e w11 ⟨u2, rfl, h⟩
      clear K
      obtain ⟨bl, off, hbo, hbl, hcc⟩ := h.rd (r := (u, [⟨1, 2, c⟩, ⟨1, 1, b⟩])) (by simp) (by simp)
      have l0 := hcc 0 _ rfl 1 _ rfl
      obtain ⟨bl2, off2, hbo2, hbl2, hcc2⟩ := h.rd (r := (u2, [⟨1, 1, b⟩])) (by simp) (by simp)
      have m0 := hcc2 0 _ rfl 1 _ rfl
      simp only [Nat.zero_mul, Nat.add_zero] at l0 m0 hbo hbo2
      obtain ⟨ua, un, uc⟩ := u
      obtain ⟨ub, un2, uc2⟩ := u2
      simp only at hbo hbo2
      subst hbo hbo2
      have HB := Lib.hid h.below
      clear h hcc hcc2
      go_wp2_with fail
      go_ret
      exact ⟨rfl, HB.out⟩
    · have hd2 : decide (0 < b) = false := decide_eq_false hp
      go_enter Try.func6, Try.ntmps6
      go_wp2_with fail
      refine K0.mono ?_; rintro e w1 ⟨rfl, b9⟩
      have K := new_s w w1 b9
      clear K0 b9
      go_wp2_with fail
      refine K.mono ?_; rintro e w2 ⟨g, rfl, h⟩
      clear K
      have K := set_s h 1 1 a a0 (by omega)
      rw [show setE 1 1 [] = 0 from rfl, show setL 1 1 a [] = [⟨1, 1, a⟩] from rfl] at K
      clear h
      go_wp2_with fail
      refine K.mono ?_; rintro e w3 ⟨rfl, h⟩
      clear K
      have K := set_s h 1 2 c c0 (by omega)
      rw [show setE 1 2 [⟨1, 1, a⟩] = 0 from rfl, show setL 1 2 c [⟨1, 1, a⟩] = [⟨1, 1, a⟩, ⟨1, 2, c⟩] from rfl] at K
      clear h
      go_wp2_with fail
      refine K.mono ?_; rintro e w4 ⟨rfl, h⟩
      clear K
      have K := set_s h 1 1 b b0 (by omega)
      rw [show setE 1 1 [⟨1, 1, a⟩, ⟨1, 2, c⟩] = 0 from rfl, show setL 1 1 b [⟨1, 1, a⟩, ⟨1, 2, c⟩] = [⟨1, 2, c⟩, ⟨1, 1, b⟩] from rfl] at K
      clear h
      go_wp2_with fail
      refine K.mono ?_; rintro e w5 ⟨rfl, h⟩
      clear K
      have K := at_s h 1 1
      rw [show atT 1 1 [⟨1, 2, c⟩, ⟨1, 1, b⟩] = b from rfl, show hasT 1 1 [⟨1, 2, c⟩, ⟨1, 1, b⟩] = true from rfl] at K
      clear h
      go_wp2_with fail
      refine K.mono ?_; rintro e w6 ⟨rfl, h⟩
      clear K
      have K := all_s h
      rw [anew_sort2 (b := b) (c := c) (by omega)] at K
      clear h
      simp only [List.length_cons, List.length_nil] at K
      go_wp2_with fail
      refine K.mono ?_; rintro e w7 ⟨u, rfl, h⟩
      clear K
      have K := stop_s h 1 2
      rw [show hasT 1 2 [⟨1, 2, c⟩, ⟨1, 1, b⟩] = true from rfl, show stopL 1 2 [⟨1, 2, c⟩, ⟨1, 1, b⟩] = [⟨1, 1, b⟩] from rfl] at K
      clear h
      go_wp2_with fail
      refine K.mono ?_; rintro e w8 ⟨rfl, h⟩
      clear K
      have K := at_s h 1 2
      rw [show atT 1 2 [⟨1, 1, b⟩] = 0 from rfl, show hasT 1 2 [⟨1, 1, b⟩] = false from rfl] at K
      clear h
      go_wp2_with fail
      refine K.mono ?_; rintro e w9 ⟨rfl, h⟩
      clear K
      have K := due_s h b
      rw [(anew_due1 b).1, (anew_due1 b).2] at K
      clear h
      simp only [List.length_cons, List.length_nil] at K
      go_wp2_with fail
      refine K.mono ?_; rintro e w11 ⟨u2, rfl, h⟩
      clear K
      obtain ⟨bl, off, hbo, hbl, hcc⟩ := h.rd (r := (u, [⟨1, 2, c⟩, ⟨1, 1, b⟩])) (by simp) (by simp)
      have l0 := hcc 0 _ rfl 1 _ rfl
      obtain ⟨bl2, off2, hbo2, hbl2, hcc2⟩ := h.rd (r := (u2, [⟨1, 1, b⟩])) (by simp) (by simp)
      have m0 := hcc2 0 _ rfl 1 _ rfl
      simp only [Nat.zero_mul, Nat.add_zero] at l0 m0 hbo hbo2
      obtain ⟨ua, un, uc⟩ := u
      obtain ⟨ub, un2, uc2⟩ := u2
      simp only at hbo hbo2
      subst hbo hbo2
      have HB := Lib.hid h.below
      clear h hcc hcc2
      go_wp2_with fail
      go_ret
      exact ⟨rfl, HB.out⟩
theorem wheelAnew_own : ownKnob Try.prog.godebug = none := by kernel_rfl
theorem wheelAnew_laid : laidOutB Try.prog = true := by kernel_rfl
set_option maxRecDepth 100000 in
theorem wheelAnew_lifted (os : Os) (started : os.Started) (H : Type) (enc : TypeId × Value → H) :
    ReturnsInHanded {} Try.checked os 6 .any (Rows.wheelAnewSpec.pre6 enc Try.prog Try.f6 Rows.wheelAnewRow.domain false) (Rows.wheelAnewSpec.post enc Try.prog Try.f6 false true false false) := by
  refine returnsInHanded_of_change (C := Try.checked) wheelAnew_own started (by kernel_rfl) Try.func6
    (ChangeSpec.witness6 (enc := enc) (C := Try.checked) false ⟨#[], #[.int .u8 0, .int .u8 0, .int .u8 0], []⟩ 8 (by kernel_rfl) (by kernel_rfl) (by kernel_rfl) (by kernel_rfl)) ?_
  intro W base args ds gs before hval0 hW hcnd _
  have hval : ∀ (j : Nat) t v, Try.f6.params[j]? = some t → args[j]? = some v → Value.okWide Try.prog W .any base t v := hval0
  have hW' := hW
  obtain ⟨p, q, hA0, hV, rfl, hfz, hnd⟩ := hW
  have hA : DataW.TrodAll enc Try.prog W 0 (fun _ => true) true Try.f6.params.toList args.toList ds p := hA0
  rw [Try.params6] at hA hval
  obtain ⟨v0, vs0, d0, ds0, p0, q0, hargs, rfl, rfl, h0, r0⟩ := trodAll_cons hA
  obtain ⟨v1, vs1, d1, ds1, p1, q1, rfl, rfl, rfl, h1, r1⟩ := trodAll_cons r0
  obtain ⟨v2, vs2, d2, ds2, p2, q2, rfl, rfl, rfl, h2, r2⟩ := trodAll_cons r1
  obtain ⟨rfl, rfl, rfl⟩ := trodAll_nil r2
  obtain rfl : args = #[v0, v1, v2] := by cases args; simp_all
  obtain ⟨rfl, rfl⟩ := trodVars_none hV
  obtain ⟨a0, rfl, rfl, rfl, w0⟩ := open_int Try.underlying5 (hval 0 5 v0 rfl rfl) h0
  obtain ⟨a1, rfl, rfl, rfl, w1⟩ := open_int Try.underlying5 (hval 1 5 v1 rfl rfl) h1
  obtain ⟨a2, rfl, rfl, rfl, w2⟩ := open_int Try.underlying5 (hval 2 5 v2 rfl rfl) h2
  clear hA0 hval0
  refine (anew_walk a0 a1 a2 W w0 w1 w2).mono fun e W' ⟨he, bel⟩ => ?_
  subst he
  exact ⟨_, rfl, _, _, _, [], _, [], hW', trodAll_mk1 (shut_bool Try.underlying4 _), (trodAll_cons_mk (shut_int Try.underlying5 w0) (trodAll_cons_mk (shut_int Try.underlying5 w1) (trodAll_cons_mk (shut_int Try.underlying5 w2) trodAll_mk0))), rfl, bel.frame _, fun h => by cases h⟩
theorem wheelAnew_over : Rows.wheelAnewRow.holds Try.pinned (OpenSpec.ofChange Rows.wheelAnewSpec) :=
  OpenClaim.holds_of_wide 6 Try.f6 rfl rfl rfl rfl rfl rfl rfl ⟨rfl, rfl, rfl, rfl, rfl⟩ rfl rfl rfl rfl rfl (by kernel_rfl) Try.func6 (by kernel_rfl)
    (of_decide_eq_true (by kernel_rfl)) (by unfold Func.isWrapper; first | (rw [if_pos (by decide +kernel)]; kernel_rfl) | (rw [if_neg (by decide +kernel)]; exact ⟨rfl, rfl⟩))
    (fun os started H enc _ => wheelAnew_lifted os started H enc)
theorem wheelAnew_holds : Rows.WheelAnewSaid := wheelAnew_over
#print axioms wheelAnew_holds
end Go.Proofs.Ytmnakbpjbgjnmaa
