/- The ring's small calls: New, State, Left (slices.Clone); slices.Index, Contains; the reference's in. -/
import Derived.Test.YtheipflmkjiimaaRiRow
import Derived.Laws.AppendOwnNone
namespace Go.Proofs.Ytheipflmkjiimaa
open Go.Sort Go.RowKit Go.BigFrame
set_option linter.unusedVariables false
set_option linter.unusedSimpArgs false

theorem rnew_any (s : Int) (w : World) : Calls Try.prog 10 #[.int .u64 s] w fun e w' => e = .returned (.pointer (some ⟨w.heap.size, 0, none⟩)) ∧ Rs w.heap.size s ⟨none, 0, 0⟩ [] w' ∧ Below w.heap.size w w' := by
  have F := Lib.hid (rs_new w s 41)
  go_enter Try.func10, Try.ntmps10
  go_wp2
  go_ret
  exact ⟨rfl, F.out, by (repeat (first | with_reducible exact Below.refl _ _ | with_reducible refine Below.drew ?_ | with_reducible refine below_drewN ?_ _ | with_reducible refine Below.alloc ?_ (by first | omega | (simp; done) | (simp; omega)) _ | with_reducible refine Below.setCell ?_ (by first | omega | (simp; done) | (simp; omega)) _))⟩
theorem rnew0_any (s : Int) (w : World) : Calls Try.prog 9 #[.int .u64 s] w fun e w' => ∃ g, w.heap.size ≤ g ∧ e = .returned (.pointer (some ⟨g, 0, none⟩)) ∧ Rs g s ⟨none, 0, 0⟩ [] w' ∧ Below w.heap.size w w' := by
  have K := new_any s w
  go_enter Try.func9, Try.ntmps9
  go_wp2_with fail
  refine K.mono ?_; rintro e w1 ⟨rfl, b1⟩
  have F := Lib.hid (rs_new w1 s 55)
  have B1 := Lib.hid b1
  clear K b1
  go_wp2
  go_ret
  exact ⟨_, B1.out.size, rfl, F.out, B1.out.alloc B1.out.size _⟩
theorem state_any (g : Nat) (s : Int) (v : Sl) (L : List Int) (w : World) (h : Rs g s v L w) : Calls Try.prog 18 #[.pointer (some ⟨g, 0, none⟩)] w fun e w' => e = .returned (.int .u64 s) ∧ w' = w := by
  have x0 := h.box.cell 0 _ rfl
  have gl := h.box.lt
  clear h
  go_enter Try.func18, Try.ntmps18
  go_wp2
  go_ret
  exact ⟨rfl, rfl⟩
/-! is a number in a list? -/
theorem mem_take {l : List Int} {j : Nat} (hj : j < l.length) (x : Int) : x ∈ l.take (j + 1) ↔ x ∈ l.take j ∨ x = l.getD j 0 := by
  rw [List.take_succ_eq_append_getElem hj, List.mem_append, List.mem_singleton]
  have : l.getD j 0 = l[j] := by simp [List.getD_eq_getElem?_getD, hj]
  rw [this]
def InJ (w : World) (l : List Int) (x : Int) (i : Value) (wr : World) : Prop := ∃ j : Nat, j ≤ l.length ∧ i = .int .i64 j ∧ x ∉ l.take j ∧ w = wr
theorem in_end {l : List Int} {x : Int} {j : Nat} (h : x ∉ l.take j) (hj : l.length ≤ j) : isIn x l = false := by
  rw [List.take_of_length_le hj] at h; exact decide_eq_false h
theorem in_yes {l : List Int} {x : Int} {j : Nat} (hj : j < l.length) (h : l.getD j 0 = x) : isIn x l = true := by
  refine decide_eq_true ?_
  have : l.getD j 0 = l[j] := by simp [List.getD_eq_getElem?_getD, hj]
  rw [← h, this]; exact List.getElem_mem hj
theorem in_no {l : List Int} {x : Int} {j : Nat} (hj : j < l.length) (h0 : x ∉ l.take j) (h : ¬ l.getD j 0 = x) : x ∉ l.take (j + 1) := fun hm => by
  rcases (mem_take hj x).1 hm with h1 | h1
  · exact h0 h1
  · exact h h1.symm
set_option maxHeartbeats 800000 in
theorem in_any (a : Option Addr) (cap : Nat) (l : List Int) (hl : l.length ≤ 1000000) (x : Int) (w : World) (hr : Rd .i64 w w.heap.size a l) :
    Calls Try.prog 24 #[.slice a l.length cap, .int .i64 x] w fun e w' => e = .returned (.bool (isIn x l)) ∧ w = w' := by
  go_enter Try.func24, Try.ntmps24
  go_wp2_with fail
  go_loopw [5] (fun i wr => InJ w l x i wr) (fun i _ => l.length - (intOf i).toNat)
  case atStart => exact ⟨0, Nat.zero_le _, rfl, by simp, rfl⟩
  case round =>
    obtain ⟨j, hj, rfl, hx, rfl⟩ := hrel
    by_cases hlt : j < l.length
    · have hlt' : (j : Int) < l.length := by omega
      have hj0 : (0 : Int) ≤ j := by omega
      obtain ⟨b, off, rfl, hbl, hc⟩ := hr (by omega)
      have c0 := hc j hlt
      have Hyes := Lib.hid (in_yes (x := x) hlt)
      have Hno := Lib.hid (in_no (x := x) hlt hx)
      clear hc hx hr
      generalize l.getD j 0 = y at *
      by_cases hy : y = x
      · have E := Lib.hid (Hyes.out hy)
        have hd : (y == x) = true := by rw [beq_iff_eq]; exact hy
        clear hy Hyes Hno
        go_wp2
        go_ret
        exact ⟨by rw [E.out]; rfl, rfl⟩
      · have E := Lib.hid (Hno.out hy)
        have hd : (y == x) = false := by rw [beq_eq_false_iff_ne]; exact hy
        clear hy Hyes Hno
        go_wp2
        go_roundw
        case rel => exact ⟨j + 1, hlt, by go_num, E.out, rfl⟩
        case measure => simp [intOf]; omega
    · have hlt' : ¬ (j : Int) < l.length := by omega
      have E := Lib.hid (in_end hx (by omega))
      clear hx hr
      go_wp2
      go_ret
      exact ⟨by rw [E.out]; rfl, rfl⟩
set_option maxHeartbeats 800000 in
theorem index_any (a : Option Addr) (cap : Nat) (l : List Int) (hl : l.length ≤ 1000000) (x : Int) (w : World) (hr : Rd .i64 w w.heap.size a l) :
    Calls Try.prog 28 #[.slice a l.length cap, .int .i64 x] w fun e w' => ∃ i : Int, e = .returned (.int .i64 i) ∧ decide (0 ≤ i) = isIn x l ∧ w = w' := by
  go_enter Try.func28, Try.ntmps28
  go_wp2_with fail
  go_loopw [5, 8] (fun _ i wr => InJ w l x i wr) (fun _ i _ => l.length - (intOf i).toNat)
  case atStart => exact ⟨0, Nat.zero_le _, rfl, by simp, rfl⟩
  case round =>
    obtain ⟨j, hj, rfl, hx, rfl⟩ := hrel
    by_cases hlt : j < l.length
    · have hlt' : (j : Int) < l.length := by omega
      have hj0 : (0 : Int) ≤ j := by omega
      obtain ⟨b, off, rfl, hbl, hc⟩ := hr (by omega)
      have c0 := hc j hlt
      have Hyes := Lib.hid (in_yes (x := x) hlt)
      have Hno := Lib.hid (in_no (x := x) hlt hx)
      clear hc hx hr
      generalize l.getD j 0 = y at *
      by_cases hy : y = x
      · have E := Lib.hid (Hyes.out hy)
        have hd : (x == y) = true := by rw [beq_iff_eq]; exact hy.symm
        clear hy Hyes Hno
        go_wp2
        go_ret
        exact ⟨_, rfl, by rw [E.out]; exact decide_eq_true hj0, rfl⟩
      · have E := Lib.hid (Hno.out hy)
        have hd : (x == y) = false := by rw [beq_eq_false_iff_ne]; exact fun e => hy e.symm
        clear hy Hyes Hno
        go_wp2
        go_roundw
        case rel => exact ⟨j + 1, hlt, by go_num, E.out, rfl⟩
        case measure => simp [intOf]; omega
    · have hlt' : ¬ (j : Int) < l.length := by omega
      have E := Lib.hid (in_end hx (by omega))
      clear hx hr
      go_wp2
      go_ret
      exact ⟨_, rfl, by rw [E.out]; rfl, rfl⟩
theorem contains_any (a : Option Addr) (cap : Nat) (l : List Int) (hl : l.length ≤ 1000000) (x : Int) (w : World) (hr : Rd .i64 w w.heap.size a l) :
    Calls Try.prog 23 #[.slice a l.length cap, .int .i64 x] w fun e w' => e = .returned (.bool (isIn x l)) ∧ w = w' := by
  have K := index_any a cap l hl x w hr
  clear hr
  obtain ⟨q, hq⟩ : ∃ q, isIn x l = q := ⟨_, rfl⟩
  rw [hq] at K ⊢
  clear hq
  go_enter Try.func23, Try.ntmps23
  go_wp2_with fail
  refine K.mono ?_; rintro e w1 ⟨i, rfl, hi, rfl⟩
  clear K
  have HI := Lib.hid hi
  clear hi
  go_wp2
  go_ret
  exact ⟨bool_ret HI.out, rfl⟩
/-- a slice of numbers that a call answered: readable, in new memory -/
structure NewR (w : World) (u : Sl) (L : List Int) (w' : World) : Prop where
  rd : Rd .i64 w' w'.heap.size u.a L
  n : u.n = L.length
  lo : ∀ b, blk u.a b → w.heap.size ≤ b
def NewPost (L : List Int) (w : World) (e : Ending) (w' : World) : Prop := ∃ u : Sl, e = .returned (.slice u.a u.n u.c) ∧ NewR w u L w' ∧ Below w.heap.size w w'
theorem new_of_own {L : List Int} {w w' : World} {v : Sl} {b : Nat} (hb : w.heap.size ≤ b) (h : w'.ownsRow b 3 1 v.v L.length (L.map (Value.int .i64))) : NewR w v L w' := by
  obtain ⟨a, n, c⟩ := v
  have hn : n = L.length := by
    rcases h.2 with ⟨h1, h0⟩ | ⟨g, cap, cur, h1, _⟩
    · simp only [Sl.v, Value.slice.injEq] at h1; omega
    · simp only [Sl.v, Value.slice.injEq] at h1; omega
  subst hn
  have hk : ∀ k, blk a k → b ≤ k ∧ k < w'.heap.size := by
    rintro k ⟨ad, rfl, rfl⟩
    exact World.ownsRow.lt h ad.block (by rfl)
  exact ⟨Rd.of_own h, rfl, fun k h1 => Nat.le_trans hb (hk k h1).1⟩
set_option maxHeartbeats 1600000 in
set_option maxRecDepth 100000 in
theorem clone_any (v : Sl) (L : List Int) (hl : L.length ≤ 1000) (hn : v.n = L.length) (hc : v.n ≤ v.c) (hnil : v.a = none → v.c = 0) (w : World) (hr : Rd .i64 w w.heap.size v.a L) :
    Calls Try.prog 26 #[.slice v.a v.n v.c] w (NewPost L w) := by
  have q22 : ∀ (w : World) (a : Option Addr) (n c n' c' : Nat), (binOp .eql 33 (.slice a n c) (.slice none n' c')).run Try.prog w = .ok (.bool a.isNone) w := fun w a n c n' c' => Lib.run_eql_slice_nil w _ _ a n c n' c' Try.underlying33
  obtain ⟨a, n, c⟩ := v
  simp only at hn hc hnil hr
  subst hn
  rcases a with _ | ad
  · obtain rfl : c = 0 := hnil rfl
    have hz : L.length = 0 := by omega
    have F : Hid (NewR w ⟨none, L.length, 0⟩ L w) := ⟨hr, rfl, fun b hb => (blk_none hb).elim⟩
    rw [hz] at F ⊢
    clear hr hnil hz
    go_enter Try.func26, Try.ntmps26
    go_wp2
    go_ret
    exact ⟨⟨none, 0, 0⟩, rfl, F.out, Below.refl _ _⟩
  · obtain ⟨i0, hi0, hz0, hz1, hz2⟩ := info_parts info_int
    have OW : Hid ((w.alloc (.cells #[] 3)).ownsRow w.heap.size 3 1 (.slice (some ⟨w.heap.size, 0, none⟩) 0 0) 0 []) := own_empty w 3 1
    have hr1 := hr.keep ((Below.refl _ w).alloc (Nat.le_refl _) (.cells #[] 3))
    have NN := Lib.hid hr1.cells
    have f1 : Hid ((L.map (Value.int .i64)).length = L.length * 1) := by show _ = _; simp
    have o1 := Lib.hid (ints_one .i64 L)
    have FIN : Hid (∀ (v : Sl) w9, w9.ownsRow w.heap.size 3 1 v.v L.length (L.map (Value.int .i64)) → (w.alloc (.cells #[] 3)).grownBy w9 (some w.heap.size) → NewR w v L w9 ∧ Below w.heap.size w w9) := fun v w9 h1 h2 => by
      refine ⟨new_of_own (Nat.le_refl _) h1, ?_⟩
      exact ((Below.refl _ w).alloc (Nat.le_refl _) _).grown h2 (by simp) (fun k hk => by injection hk with hk; omega)
    clear hr hr1 hnil
    generalize L.map (Value.int .i64) = news at *
    go_enter Try.func26, Try.ntmps26
    go_wp2_with (at_builtin; refine wpList_append_own _ rfl (.tmp 5) (.tmp 6) 33 rfl w.heap.size 3 i0 _ 1 8 Try.underlying33 hi0 hz0 hz1 hz2 rfl (by omega) (.slice (some ⟨w.heap.size, 0, none⟩) 0 0) 0 [] rfl OW.out ad L.length c news rfl f1.out NN.out o1.out (by unfold maxLen; omega) (by omega) (by simp) ?_)
    intro v1 w1 hown hgrow _
    obtain ⟨⟨sa, sn, sc⟩, hv⟩ := sl_of hown
    obtain rfl : v1 = .slice sa sn sc := hv
    have F9 := Lib.hid (FIN.out ⟨sa, sn, sc⟩ w1 (by simpa [Sl.v] using hown) hgrow)
    clear hown hgrow FIN
    go_wp2
    go_ret
    exact ⟨⟨sa, sn, sc⟩, rfl, F9.out⟩
theorem left_any (g : Nat) (s : Int) (v : Sl) (L : List Int) (w : World) (h : Rs g s v L w) : Calls Try.prog 17 #[.pointer (some ⟨g, 0, none⟩)] w (NewPost L w) := by
  have x1 := h.box.cell 1 _ rfl
  have gl := h.box.lt
  have K := clone_any v L h.small h.n h.cap h.nil w h.rd
  clear h
  go_enter Try.func17, Try.ntmps17
  go_wp2_with fail
  refine K.mono ?_; rintro e w1 ⟨u, rfl, h1, h2⟩
  have H1 := Lib.hid h1
  have H2 := Lib.hid h2
  clear K h1 h2
  go_wp2
  go_ret
  exact ⟨u, rfl, H1.out, H2.out⟩
end Go.Proofs.Ytheipflmkjiimaa
