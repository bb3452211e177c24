/- The reference's box: New, Rebind. -/
import Derived.Test.YtnemmnndaoaadaaBoxEx
import Derived.Test.YtnemmnndaoaadaaBoxRefMath
namespace Go.Proofs.Ytnemmnndaoaadaa
open Go.Sort Go.RowKit Go.BigFrame
set_option linter.unusedVariables false
set_option linter.unusedSimpArgs false

def RNew (m f ip hold : Int) (room : Nat) (w : World) (e : Ending) (w' : World) : Prop :=
  ∃ g, e = .returned (.pointer (some ⟨g, 0, none⟩)) ∧ w.heap.size ≤ g ∧ g < w'.heap.size ∧ Cs g (bcells m f ip hold room ⟨none, 0, 0⟩) w' ∧ Below w.heap.size w w'
theorem rnew_bad (m f ip hold room : Int) (w : World) (hb : badN m f ip hold room = true) (h0 : 0 ≤ hold) :
    Calls Try.prog 6 #[.agg #[.int .i64 m, .int .i64 f], .int .u32 ip, .int .u64 hold, .int .i64 room] w (fun e w' => e = .returned (.pointer none) ∧ Below w.heap.size w w') := by
  have N := rright_any m f
  unfold badN at hb
  generalize rightT m f = q at *
  have hB : Hid (Below w.heap.size w (w.alloc (.cells #[.int .i64 m, .int .i64 f] 35))) := by show Below _ _ _; (repeat (first | with_reducible exact Below.refl _ _ | with_reducible refine Below.drew ?_ | with_reducible refine below_drewN ?_ _ | with_reducible refine Below.alloc ?_ (by first | omega | (simp; done) | (simp; omega)) _ | with_reducible refine Below.setCell ?_ (by first | omega | (simp; done) | (simp; omega)) _))
  cases q
  · clear hb
    go_enter Try.func6, Try.ntmps6
    go_wp2_with fail
    refine (N _).mono ?_; rintro e w1 ⟨rfl, d⟩
    replace hB := Lib.hid (hB.out.trans (d.mono hB.out.size))
    clear d
    go_wp2_with fail
    go_ret
    exact ⟨rfl, hB.out⟩
  · by_cases h1 : ip = 0
    · subst h1
      clear hb
      go_enter Try.func6, Try.ntmps6
      go_wp2_with fail
      refine (N _).mono ?_; rintro e w1 ⟨rfl, d⟩
      replace hB := Lib.hid (hB.out.trans (d.mono hB.out.size))
      clear d
      go_wp2_with fail
      go_ret
      exact ⟨rfl, hB.out⟩
    · have n1 : (ip == 0) = false := by rw [beq_eq_false_iff_ne]; exact h1
      by_cases h2 : hold = 0
      · subst h2
        clear hb
        go_enter Try.func6, Try.ntmps6
        go_wp2_with fail
        refine (N _).mono ?_; rintro e w1 ⟨rfl, d⟩
        replace hB := Lib.hid (hB.out.trans (d.mono hB.out.size))
        clear d
        go_wp2_with fail
        go_ret
        exact ⟨rfl, hB.out⟩
      · have n2 : (hold == 0) = false := by rw [beq_eq_false_iff_ne]; exact h2
        by_cases h3 : 1000000 < hold
        · have n3 : decide (1000000 < hold) = true := decide_eq_true h3
          clear hb
          go_enter Try.func6, Try.ntmps6
          go_wp2_with fail
          refine (N _).mono ?_; rintro e w1 ⟨rfl, d⟩
          replace hB := Lib.hid (hB.out.trans (d.mono hB.out.size))
          clear d
          go_wp2_with fail
          go_ret
          exact ⟨rfl, hB.out⟩
        · have n3 : decide (1000000 < hold) = false := decide_eq_false h3
          by_cases h4 : room < 1
          · have n4 : decide (room < 1) = true := decide_eq_true h4
            clear hb
            go_enter Try.func6, Try.ntmps6
            go_wp2_with fail
            refine (N _).mono ?_; rintro e w1 ⟨rfl, d⟩
            replace hB := Lib.hid (hB.out.trans (d.mono hB.out.size))
            clear d
            go_wp2_with fail
            go_ret
            exact ⟨rfl, hB.out⟩
          · have n4 : decide (room < 1) = false := decide_eq_false h4
            have h5 : 64 < room := by
              simp [h1, h2, h3, h4] at hb; exact hb
            have n5 : decide (64 < room) = true := decide_eq_true h5
            clear hb
            go_enter Try.func6, Try.ntmps6
            go_wp2_with fail
            refine (N _).mono ?_; rintro e w1 ⟨rfl, d⟩
            replace hB := Lib.hid (hB.out.trans (d.mono hB.out.size))
            clear d
            go_wp2_with fail
            go_ret
            exact ⟨rfl, hB.out⟩
theorem rnew_ok (m f ip hold : Int) (room : Nat) (w : World) (hb : badN m f ip hold room = false) (h0 : 0 ≤ hold) :
    Calls Try.prog 6 #[.agg #[.int .i64 m, .int .i64 f], .int .u32 ip, .int .u64 hold, .int .i64 (room : Nat)] w (RNew m f ip hold room w) := by
  have N := rright_any m f
  unfold badN at hb
  generalize rightT m f = q at *
  have hB : Hid (Below w.heap.size w (w.alloc (.cells #[.int .i64 m, .int .i64 f] 35))) := by show Below _ _ _; (repeat (first | with_reducible exact Below.refl _ _ | with_reducible refine Below.drew ?_ | with_reducible refine below_drewN ?_ _ | with_reducible refine Below.alloc ?_ (by first | omega | (simp; done) | (simp; omega)) _ | with_reducible refine Below.setCell ?_ (by first | omega | (simp; done) | (simp; omega)) _))
  have X := Lib.hid (Cs.new w [.int .i64 m, .int .i64 f] 35)
  obtain ⟨rfl, h1, h2, h3, h4, h5⟩ : q = true ∧ ¬ ip = 0 ∧ ¬ hold = 0 ∧ ¬ 1000000 < hold ∧ ¬ (room : Int) < 1 ∧ ¬ 64 < (room : Int) := by
    revert hb
    cases q <;> simp
    intros; omega
  have n1 : (ip == 0) = false := by rw [beq_eq_false_iff_ne]; exact h1
  have n2 : (hold == 0) = false := by rw [beq_eq_false_iff_ne]; exact h2
  have n3 : decide (1000000 < hold) = false := decide_eq_false h3
  have n4 : decide ((room : Int) < 1) = false := decide_eq_false h4
  have n5 : decide (64 < (room : Int)) = false := decide_eq_false h5
  have x0 := X.out.cell 0 _ rfl
  have x1 := X.out.cell 1 _ rfl
  clear hb
  go_enter Try.func6, Try.ntmps6
  go_wp2_with fail
  refine (N _).mono ?_; rintro e w1 ⟨rfl, d⟩
  replace hB := Lib.hid (hB.out.trans (d.mono hB.out.size))
  replace X := Lib.hid (X.out.keep d)
  clear d x0 x1
  have x0 := X.out.cell 0 _ rfl
  have x1 := X.out.cell 1 _ rfl
  have xl := X.out.lt
  go_wp2_with fail
  go_ret
  exact ⟨w1.heap.size, rfl, hB.out.size, by simp, Cs.new w1 (bcells m f ip hold room ⟨none, 0, 0⟩) 64, hB.out.alloc hB.out.size _⟩
end Go.Proofs.Ytnemmnndaoaadaa
