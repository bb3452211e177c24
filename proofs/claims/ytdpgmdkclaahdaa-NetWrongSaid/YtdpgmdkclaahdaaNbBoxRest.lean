/- A box's New, Rebind, IP, Type. -/
import Derived.Test.YtdpgmdkclaahdaaNbBoxIn
namespace Go.Proofs.Ytdpgmdkclaahdaa.Nb
open Go.Sort Go.RowKit Go.BigFrame
set_option linter.unusedVariables false
set_option linter.unusedSimpArgs false

theorem keep_all (L : List Bd) : keepL (fun _ => true) L = [] := by unfold keepL; simp
def RebPost (g : Nat) (S : Nat → Prop) (m f ip hold : Int) (room : Nat) (w : World) (e : Ending) (w' : World) : Prop :=
  e = .returned (.int .i64 0) ∧ (∃ v', Bs g S m f ip hold room v' [] w') ∧ Touch S w w'
theorem rebind_bad (g : Nat) (w : World) : Calls Try.prog 34 #[.pointer (some ⟨g, 0, none⟩), .int .u32 0] w fun e w' => e = .returned (.int .i64 1) ∧ Below w.heap.size w w' := by
  go_enter Try.func34, Try.ntmps34
  go_wp2
  go_ret
  exact ⟨rfl, Below.refl _ _⟩
theorem rebind_ok (g : Nat) (S : Nat → Prop) (m f ip0 hold : Int) (room : Nat) (v : Sl) (L : List Bd) (ip : Int) (hip : ¬ ip = 0) (w : World) (h : Bs g S m f ip0 hold room v L w) :
    Calls Try.prog 34 #[.pointer (some ⟨g, 0, none⟩), .int .u32 ip] w (RebPost g S m f ip hold room w) := by
  have hz : (ip == 0) = false := by rw [beq_eq_false_iff_ne]; exact hip
  have D := dropF_any _ enters_rebind #[] (fun _ => true) g S m f ip0 hold room v L w h (fun x hx w' ht => rebindC_any x w')
  clear h
  go_enter Try.func34, Try.ntmps34
  go_wp2_with fail
  refine D.mono ?_; rintro e w1 ⟨rfl, ⟨v', hb⟩, ht⟩
  rw [keep_all] at hb
  have HB := Lib.hid hb
  have HT := Lib.hid ht
  have x2 := hb.box.cell 2 _ rfl
  have xf := hb.box.free 2 _ rfl
  have gl := hb.box.lt
  clear hb ht D
  go_wp2_with fail
  go_ret
  have t : Touch (fun k => k = g) w1 (w1.setCell ⟨g, 2, none⟩ (.int .u32 ip)) := Touch.set (F := fun k => k = g) (Touch.refl _ w1) (fun _ => rfl) _
  refine ⟨rfl, ⟨v', ?_, ?_, fun x hx => by simp at hx, List.Pairwise.nil, HB.out.gS, HB.out.vS, fun x hx => by simp at hx, HB.out.ok⟩, HT.out.set (fun _ => HB.out.gS) _⟩
  · exact HB.out.box.set 2 (.int .u32 ip) (by simp [bcells])
  · exact brow_touch HB.out.row t (fun k hk e => (HB.out.vS k hk).2 e)
theorem ip_any (g : Nat) (S : Nat → Prop) (m f ip hold : Int) (room : Nat) (v : Sl) (L : List Bd) (w : World) (h : Bs g S m f ip hold room v L w) :
    Calls Try.prog 20 #[.pointer (some ⟨g, 0, none⟩)] w fun e w' => e = .returned (.int .u32 ip) ∧ w = w' := by
  have x2 := h.box.cell 2 _ rfl
  have gl := h.box.lt
  clear h
  go_enter Try.func20, Try.ntmps20
  go_wp2
  go_ret
  exact ⟨rfl, rfl⟩
def badN (m f ip hold room : Int) : Bool := ((((!rightT m f || decide (ip = 0)) || decide (hold = 0)) || decide (1000000 < hold)) || decide (room < 1)) || decide (64 < room)
def NewBad (w : World) (e : Ending) (w' : World) : Prop := e = .returned (.tuple #[.pointer none, .int .i64 1]) ∧ Below w.heap.size w w'
def NewPost (m f ip hold : Int) (room : Nat) (w : World) (e : Ending) (w' : World) : Prop :=
  ∃ g, e = .returned (.tuple #[.pointer (some ⟨g, 0, none⟩), .int .i64 0]) ∧ w.heap.size ≤ g ∧ g < w'.heap.size ∧ Bs g (fun k => k = g) m f ip hold room ⟨none, 0, 0⟩ [] w' ∧ Below w.heap.size w w'
set_option maxHeartbeats 3200000 in
theorem new_bad (m f ip hold room : Int) (w : World) (hb : badN m f ip hold room = true) (h0 : 0 ≤ hold) :
    Calls Try.prog 39 #[.agg #[.int .i64 m, .int .i64 f], .int .u32 ip, .int .u64 hold, .int .i64 room] w (NewBad w) := by
  have N := right_any m f
  unfold badN at hb
  generalize rightT m f = q at *
  have hB : Hid (Below w.heap.size w (w.alloc (.cells #[.int .i64 m, .int .i64 f] 24))) := by show Below _ _ _; (repeat (first | with_reducible exact Below.refl _ _ | with_reducible refine Below.drew ?_ | with_reducible refine below_drewN ?_ _ | with_reducible refine Below.alloc ?_ (by first | omega | (simp; done) | (simp; omega)) _ | with_reducible refine Below.setCell ?_ (by first | omega | (simp; done) | (simp; omega)) _))
  cases q
  · clear hb
    go_enter Try.func39, Try.ntmps39
    go_wp2_with fail
    refine (N _).mono ?_; rintro e w1 ⟨rfl, d⟩
    replace hB := Lib.hid (hB.out.trans (d.mono hB.out.size))
    clear d
    go_wp2_with fail
    go_ret2
    exact ⟨rfl, hB.out⟩
  · by_cases h1 : ip = 0
    · subst h1
      clear hb
      go_enter Try.func39, Try.ntmps39
      go_wp2_with fail
      refine (N _).mono ?_; rintro e w1 ⟨rfl, d⟩
      replace hB := Lib.hid (hB.out.trans (d.mono hB.out.size))
      clear d
      go_wp2_with fail
      go_ret2
      exact ⟨rfl, hB.out⟩
    · have n1 : (ip == 0) = false := by rw [beq_eq_false_iff_ne]; exact h1
      by_cases h2 : hold = 0
      · subst h2
        clear hb
        go_enter Try.func39, Try.ntmps39
        go_wp2_with fail
        refine (N _).mono ?_; rintro e w1 ⟨rfl, d⟩
        replace hB := Lib.hid (hB.out.trans (d.mono hB.out.size))
        clear d
        go_wp2_with fail
        go_ret2
        exact ⟨rfl, hB.out⟩
      · have n2 : (hold == 0) = false := by rw [beq_eq_false_iff_ne]; exact h2
        by_cases h3 : 1000000 < hold
        · have n3 : decide (1000000 < hold) = true := decide_eq_true h3
          clear hb
          go_enter Try.func39, Try.ntmps39
          go_wp2_with fail
          refine (N _).mono ?_; rintro e w1 ⟨rfl, d⟩
          replace hB := Lib.hid (hB.out.trans (d.mono hB.out.size))
          clear d
          go_wp2_with fail
          go_ret2
          exact ⟨rfl, hB.out⟩
        · have n3 : decide (1000000 < hold) = false := decide_eq_false h3
          by_cases h4 : room < 1
          · have n4 : decide (room < 1) = true := decide_eq_true h4
            clear hb
            go_enter Try.func39, Try.ntmps39
            go_wp2_with fail
            refine (N _).mono ?_; rintro e w1 ⟨rfl, d⟩
            replace hB := Lib.hid (hB.out.trans (d.mono hB.out.size))
            clear d
            go_wp2_with fail
            go_ret2
            exact ⟨rfl, hB.out⟩
          · have n4 : decide (room < 1) = false := decide_eq_false h4
            have h5 : 64 < room := by
              simp [h1, h2, h3, h4] at hb; exact hb
            have n5 : decide (64 < room) = true := decide_eq_true h5
            clear hb
            go_enter Try.func39, Try.ntmps39
            go_wp2_with fail
            refine (N _).mono ?_; rintro e w1 ⟨rfl, d⟩
            replace hB := Lib.hid (hB.out.trans (d.mono hB.out.size))
            clear d
            go_wp2_with fail
            go_ret2
            exact ⟨rfl, hB.out⟩
theorem new_ok (m f ip hold : Int) (room : Nat) (w : World) (hb : badN m f ip hold room = false) (h0 : 0 ≤ hold) :
    Calls Try.prog 39 #[.agg #[.int .i64 m, .int .i64 f], .int .u32 ip, .int .u64 hold, .int .i64 (room : Nat)] w (NewPost m f ip hold room w) := by
  have N := right_any m f
  unfold badN at hb
  generalize rightT m f = q at *
  have hB : Hid (Below w.heap.size w (w.alloc (.cells #[.int .i64 m, .int .i64 f] 24))) := by show Below _ _ _; (repeat (first | with_reducible exact Below.refl _ _ | with_reducible refine Below.drew ?_ | with_reducible refine below_drewN ?_ _ | with_reducible refine Below.alloc ?_ (by first | omega | (simp; done) | (simp; omega)) _ | with_reducible refine Below.setCell ?_ (by first | omega | (simp; done) | (simp; omega)) _))
  have X := Lib.hid (Cs.new w [.int .i64 m, .int .i64 f] 24)
  obtain ⟨rfl, h1, h2, h3, h4, h5⟩ : q = true ∧ ¬ ip = 0 ∧ ¬ hold = 0 ∧ ¬ 1000000 < hold ∧ ¬ (room : Int) < 1 ∧ ¬ 64 < (room : Int) := by
    revert hb
    cases q <;> simp
    intros; omega
  have n1 : (ip == 0) = false := by rw [beq_eq_false_iff_ne]; exact h1
  have n2 : (hold == 0) = false := by rw [beq_eq_false_iff_ne]; exact h2
  have n3 : decide (1000000 < hold) = false := decide_eq_false h3
  have n4 : decide ((room : Int) < 1) = false := decide_eq_false h4
  have n5 : decide (64 < (room : Int)) = false := decide_eq_false h5
  have ok : Hid (Okb hold room []) := ⟨by omega, by omega, by omega, by omega, Nat.zero_le _, fun b hb => by simp at hb, fun b hb => by simp at hb⟩
  have x0 := X.out.cell 0 _ rfl
  have x1 := X.out.cell 1 _ rfl
  clear hb
  go_enter Try.func39, Try.ntmps39
  go_wp2_with fail
  refine (N _).mono ?_; rintro e w1 ⟨rfl, d⟩
  replace hB := Lib.hid (hB.out.trans (d.mono hB.out.size))
  replace X := Lib.hid (X.out.keep d)
  clear d x0 x1
  have x0 := X.out.cell 0 _ rfl
  have x1 := X.out.cell 1 _ rfl
  have xl := X.out.lt
  go_wp2_with fail
  go_ret2
  refine ⟨w1.heap.size, rfl, hB.out.size, by simp, ⟨Cs.new w1 (bcells m f ip hold room ⟨none, 0, 0⟩) 88, World.ownsRow_nil _ _ _ _, fun x hx => by simp at hx, List.Pairwise.nil, rfl, fun k hk => by simp [Sl.v, Value.ownBlock] at hk, fun x hx => by simp at hx, ok.out⟩, hB.out.alloc hB.out.size _⟩
end Go.Proofs.Ytdpgmdkclaahdaa.Nb