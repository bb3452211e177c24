/- The program's wheel: At, Stop, Set. -/
import Derived.Test.YtmnakbpjbgjnmaaWhDel
namespace Go.Proofs.Ytmnakbpjbgjnmaa
open Go.Sort Go.RowKit Go.BigFrame
set_option linter.unusedVariables false
set_option linter.unusedSimpArgs false

theorem atT_yes {k i : Int} {L : List Tm} {x : Tm} (h : L[findT k i L]? = some x) : atT k i L = x.t := by unfold atT; rw [h]
theorem atT_no {k i : Int} {L : List Tm} (h : hasT k i L = false) : atT k i L = 0 := by
  unfold hasT at h
  rw [decide_eq_false_iff_not] at h
  unfold atT
  rw [List.getElem?_eq_none (by omega)]
set_option maxHeartbeats 1600000 in
theorem at_any (k i : Int) (g : Nat) (v : Sl) (L : List Tm) (w : World) (h : Ws true g v L w) :
    Calls Try.prog 14 #[.pointer (some ⟨g, 0, none⟩), .int .i64 k, .int .i64 i] w fun e w' => e = .returned (.tuple #[.int .u64 (atT k i L), .bool (hasT k i L)]) ∧ Below w.heap.size w w' := by
  have F := find_any k i g v L w h
  cases hh : hasT k i L with
  | false =>
    rw [atT_no hh]
    have e0 : findR k i L = 0 := by unfold findR; rw [if_neg (by simp [hh])]
    rw [e0, hh] at F
    clear h hh e0
    go_enter Try.func14, Try.ntmps14
    go_wp2_with fail
    refine F.mono ?_; rintro e w1 ⟨rfl, rfl⟩
    clear F
    go_wp2
    refine bodyPost_ret (v := (.tuple #[.int .u64 0, .bool false])) (by simp [results, Try.results14, go_sem, *]) rfl ?_
    exact ⟨rfl, Below.refl _ _⟩
  | true =>
    have hf : findT k i L < L.length := by unfold hasT at hh; rwa [decide_eq_true_eq] at hh
    have e0 : findR k i L = findT k i L := by unfold findR; rw [if_pos hh]
    have hx : L[findT k i L]? = some L[findT k i L] := List.getElem?_eq_getElem hf
    rw [atT_yes hx]
    rw [e0, hh] at F
    have hn := h.n
    obtain ⟨av, n, c⟩ := v
    simp only at hn
    subst hn
    have x0 := h.box.cell 0 _ rfl
    have gl := h.box.lt
    obtain ⟨b, off, hbo, hbl, hcc⟩ := h.rd (by omega)
    simp only at hbo
    subst hbo
    have c2 := hcc _ _ hx 2 _ rfl
    generalize L[findT k i L] = y at *
    generalize findT k i L = j at *
    have hj0 : (0 : Int) ≤ j := by omega
    have hj1 : (j : Int) < L.length := by omega
    clear h hh e0 hcc hx
    obtain ⟨y1, y2, y3⟩ := y
    simp only at c2
    go_enter Try.func14, Try.ntmps14
    go_wp2_with fail
    refine F.mono ?_; rintro e w1 ⟨rfl, rfl⟩
    clear F
    go_wp2
    refine bodyPost_ret (v := (.tuple #[.int .u64 y3, .bool true])) (by simp [results, Try.results14, go_sem, *]) rfl ?_
    exact ⟨rfl, Below.refl _ _⟩
set_option maxHeartbeats 1600000 in
theorem stop_any (k i : Int) (g : Nat) (v : Sl) (L : List Tm) (w : World) (h : Ws true g v L w) :
    Calls Try.prog 10 #[.pointer (some ⟨g, 0, none⟩), .int .i64 k, .int .i64 i] w fun e w' => e = .returned (.bool (hasT k i L)) ∧ Aft true g v (stopL k i L) w w' := by
  have F := find_any k i g v L w h
  cases hh : hasT k i L with
  | false =>
    rw [stopL_none hh]
    have e0 : findR k i L = 0 := by unfold findR; rw [if_neg (by simp [hh])]
    rw [e0, hh] at F
    have HH := Lib.hid h
    clear h hh e0
    go_enter Try.func10, Try.ntmps10
    go_wp2_with fail
    refine F.mono ?_; rintro e w1 ⟨rfl, rfl⟩
    clear F
    go_wp2
    go_ret
    exact ⟨rfl, HH.out.same (Below.refl _ _)⟩
  | true =>
    have hf : findT k i L < L.length := by unfold hasT at hh; rwa [decide_eq_true_eq] at hh
    have e0 : findR k i L = findT k i L := by unfold findR; rw [if_pos hh]
    rw [e0, hh] at F
    have hn := h.n
    obtain ⟨av, n, c⟩ := v
    simp only at hn
    subst hn
    obtain ⟨gv, rfl⟩ : ∃ gv, av = some ⟨gv, 0, none⟩ := by
      rcases trow_form h.row with ⟨_, rfl⟩ | ⟨gv, _, h1, _⟩
      · simp at hf
      · simp [Sl.v] at h1; exact ⟨gv, h1.1⟩
    have hl := h.ok.len
    have D := delT_any gv c (findT k i L) L hf hl w h.row
    have FIN : Hid (∀ w2, TRow 39 w2 (.slice (some ⟨gv, 0, none⟩) (L.length - 1) c) (L.eraseIdx (findT k i L)) → Touch (ownP gv) w w2 → Aft true g ⟨some ⟨gv, 0, none⟩, L.length, c⟩ (stopL k i L) w (w2.setCell ⟨g, 0, none⟩ (.slice (some ⟨gv, 0, none⟩) (L.length - 1) c)) ∧ Cs g [.slice (some ⟨gv, 0, none⟩) L.length c] w2) := fun w2 hr ht =>
      ⟨h.put (v' := ⟨some ⟨gv, 0, none⟩, L.length - 1, c⟩) hr ht (fun b hb => .inl (own_eq hb)) (h.ok.stop k i), h.box.touch ht h.ne⟩
    have x0 := h.box.cell 0 _ rfl
    have gl := h.box.lt
    have hl2 : (L.length : Int) ≤ 256 := by omega
    have hln : ((L.length - 1 : Nat) : Int) ≤ 256 := by omega
    generalize stopL k i L = L2 at *
    have hj1 : (findT k i L : Int) < L.length := by omega
    clear h hh e0 hf
    generalize findT k i L = j at *
    have hj0 : (0 : Int) ≤ j := by omega
    go_enter Try.func10, Try.ntmps10
    go_wp2_with fail
    refine F.mono ?_; rintro e w1 ⟨rfl, rfl⟩
    clear F
    go_wp2_with fail
    refine D.mono ?_; rintro e w2 ⟨rfl, hr2, ht2⟩
    obtain ⟨af, bx⟩ := FIN.out w2 hr2 ht2
    have AF := Lib.hid af
    have x0 := bx.cell 0 _ rfl
    have xf := bx.free 0 _ rfl
    have gl := bx.lt
    clear D FIN hr2 ht2 af bx
    go_wp2
    go_ret
    exact ⟨rfl, AF.out⟩
end Go.Proofs.Ytmnakbpjbgjnmaa
