/- The program's wheel: New, Len, find, At. -/
import Derived.Test.YtmnakbpjbgjnmaaWhRow
namespace Go.Proofs.Ytmnakbpjbgjnmaa
open Go.Sort Go.RowKit Go.BigFrame
set_option linter.unusedVariables false
set_option linter.unusedSimpArgs false

theorem new_any (w : World) : Calls Try.prog 9 #[] w (fun e w' => ∃ g, e = .returned (.pointer (some ⟨g, 0, none⟩)) ∧ w.heap.size ≤ g ∧ Ws true g ⟨none, 0, 0⟩ [] w' ∧ Below w.heap.size w w') := by
  have F : Ws true w.heap.size ⟨none, 0, 0⟩ [] (w.alloc (.cells #[.slice none 0 0] 56)) := ⟨Cs.new w [.slice none 0 0] 56, World.ownsRow_nil _ _ _ _, fun e => by simp [Sl.v, Value.ownBlock] at e, ⟨by simp, by simp, by simp⟩⟩
  go_enter Try.func9, Try.ntmps9
  go_wp2
  go_ret
  exact ⟨w.heap.size, rfl, Nat.le_refl _, F, (Below.refl _ _).alloc (Nat.le_refl _) _⟩
theorem len_any (g : Nat) (v : Sl) (L : List Tm) (w : World) (h : Ws true g v L w) :
    Calls Try.prog 20 #[.pointer (some ⟨g, 0, none⟩)] w fun e w' => e = .returned (.int .i64 (L.length : Nat)) ∧ w' = w := by
  have hn := h.n
  obtain ⟨a, n, c⟩ := v
  simp only at hn
  subst hn
  have x0 := h.box.cell 0 _ rfl
  have gl := h.box.lt
  clear h
  go_enter Try.func20, Try.ntmps20
  go_wp2
  go_ret
  exact ⟨rfl, rfl⟩
def findR (k i : Int) (L : List Tm) : Nat := if hasT k i L = true then findT k i L else 0
theorem find_here {k i : Int} {L : List Tm} {j : Nat} {y : Tm} (hx : L[j]? = some y) (hj : j ≤ findT k i L) (h : isT k i y = true) : findT k i L = j := by
  refine Nat.le_antisymm ?_ hj
  rcases Nat.lt_or_ge j (findT k i L) with h1 | h1
  · have := List.not_of_lt_findIdx h1
    obtain ⟨h2, h3⟩ := List.getElem?_eq_some_iff.1 hx
    rw [h3] at this
    simp [h] at this
  · exact h1
theorem find_on {k i : Int} {L : List Tm} {j : Nat} {y : Tm} (hx : L[j]? = some y) (hj : j ≤ findT k i L) (h : isT k i y = false) : j + 1 ≤ findT k i L := by
  rcases Nat.lt_or_ge j (findT k i L) with h1 | h1
  · exact h1
  · have e : findT k i L = j := by omega
    obtain ⟨h2, h3⟩ := List.getElem?_eq_some_iff.1 hx
    have := List.findIdx_getElem (p := isT k i) (xs := L) (w := by show findT k i L < _; omega)
    have h4 : L[List.findIdx (isT k i) L]? = some y := by show L[findT k i L]? = some y; rw [e]; exact hx
    obtain ⟨h5, h6⟩ := List.getElem?_eq_some_iff.1 h4
    rw [h6, h] at this
    simp at this
theorem findR_yes {k i : Int} {L : List Tm} {j : Nat} (h : j < L.length) (e : findT k i L = j) : (Ending.returned (.tuple #[.int .i64 (findR k i L : Nat), .bool (hasT k i L)])) = Ending.returned (.tuple #[.int .i64 (j : Nat), .bool true]) := by
  have h1 : hasT k i L = true := by unfold hasT; rw [e]; exact decide_eq_true h
  unfold findR; rw [if_pos h1, h1, e]
theorem findR_no {k i : Int} {L : List Tm} (e : L.length ≤ findT k i L) : (Ending.returned (.tuple #[.int .i64 (findR k i L : Nat), .bool (hasT k i L)])) = Ending.returned (.tuple #[.int .i64 ((0 : Nat) : Int), .bool false]) := by
  have h1 : hasT k i L = false := by unfold hasT; exact decide_eq_false (by omega)
  unfold findR; rw [if_neg (by simp [h1]), h1]
def FindJ (k i : Int) (g : Nat) (L : List Tm) (w : World) (a' : Act) (w' : World) : Prop :=
  ∃ (j : Nat) (q : Int), q = (j : Int) ∧ j ≤ L.length ∧ j ≤ findT k i L ∧ a'.defers = [] ∧ (∃ u9 u10 u11 u12 u13 u14 u15 u16 u17 u18 u19 u20 u21 u22 u23 u24 u25 u26 u27 u28 u29 u30 u31 u32 u33 u34 u35 u36 u37 u38 u39 u40, a'.tmps = #[.pointer (some ⟨g, 0, none⟩), .int .i64 k, .int .i64 i, undef, undef, undef, .int .i64 0, .bool false, .int .i64 q, u9, u10, u11, u12, u13, u14, u15, u16, u17, u18, u19, u20, u21, u22, u23, u24, u25, u26, u27, u28, u29, u30, u31, u32, u33, u34, u35, u36, u37, u38, u39, u40]) ∧ w' = w
set_option maxHeartbeats 3200000 in
theorem find_any (k i : Int) (g : Nat) (v : Sl) (L : List Tm) (w : World) (h : Ws true g v L w) :
    Calls Try.prog 21 #[.pointer (some ⟨g, 0, none⟩), .int .i64 k, .int .i64 i] w fun e w' => e = .returned (.tuple #[.int .i64 (findR k i L : Nat), .bool (hasT k i L)]) ∧ w' = w := by
  have hn := h.n
  obtain ⟨av, n, c⟩ := v
  simp only at hn
  subst hn
  have HR := Lib.hid h.rd
  have x0 := h.box.cell 0 _ rfl
  have gl := h.box.lt
  have hl : (L.length : Int) ≤ 256 := by have := h.ok.len; omega
  clear h
  simp only at HR
  have hj : 0 ≤ findT k i L := Nat.zero_le _
  go_enter Try.func21, Try.ntmps21
  go_wp2
  refine wp_scope_jumps 0 (FindJ k i g L w) (fun a' _ => L.length + 1 - (intOf (a'.tmps.getD 8 undef)).toNat) rfl ?_ ?_
  · go_wp2_with fail
    go_step3
    by_cases hlt : 0 < L.length
    · have hlt' : (0 : Int) < L.length := by omega
      have hnl : ¬ (0 : Int) = L.length := by omega
      have hnl2 : ¬ 0 = L.length := by omega
      have hnl3 : ¬ L.length = 0 := by omega
      obtain ⟨b, off, rfl, hbl, hcc⟩ := HR.out (by omega)
      have hx : L[0]? = some L[0] := List.getElem?_eq_getElem hlt
      have c0 := hcc 0 _ hx 0 _ rfl
      have c1 := hcc 0 _ hx 1 _ rfl
      have KY := fun h => find_here (k := k) (i := i) hx hj h
      have KN := fun h => find_on (k := k) (i := i) hx hj h
      have HLT := Lib.hid hlt
      clear hcc hx hj
      generalize L[0] = y at *
      obtain ⟨y1, y2, y3⟩ := y
      simp only [Nat.add_zero, Nat.zero_mul, Nat.zero_add] at c0 c1
      by_cases q1 : y1 = k
      · by_cases q2 : y2 = i
        · subst q1 q2
          have HE := Lib.hid (KY (by simp [isT]))
          clear KY KN
          go_wp2
          simp only [Exit.jump]
          refine bodyPost_ret (v := (.tuple #[.int .i64 ((0 : Nat) : Int), .bool true])) (by simp [results, Try.results21, go_sem, *]) rfl ?_
          exact ⟨by rw [findR_yes HLT.out HE.out], rfl⟩
        · subst q1
          have HE := Lib.hid (KN (by simp [isT, q2]))
          clear KY KN
          go_wp2
          go_step3
          go_wp2
          refine ⟨rfl, ⟨0 + 1, _, ?_, HLT.out, HE.out, rfl, ⟨_, _, _, _, _, _, _, _, _, _, _, _, _, _, _, _, _, _, _, _, _, _, _, _, _, _, _, _, _, _, _, _, rfl⟩, rfl⟩⟩
          · first | (simp; done) | (simp; omega) | omega
      · have HE := Lib.hid (KN (by simp [isT, q1]))
        clear KY KN
        go_wp2
        go_step3
        go_wp2
        refine ⟨rfl, ⟨0 + 1, _, ?_, HLT.out, HE.out, rfl, ⟨_, _, _, _, _, _, _, _, _, _, _, _, _, _, _, _, _, _, _, _, _, _, _, _, _, _, _, _, _, _, _, _, rfl⟩, rfl⟩⟩
        · first | (simp; done) | (simp; omega) | omega
    · have hz : L.length = 0 := by omega
      have HE := Lib.hid hj
      have HZ := Lib.hid hz
      clear hj hlt
      go_wp2
      simp only [Exit.jump]
      refine bodyPost_ret (v := (.tuple #[.int .i64 0, .bool false])) (by simp [results, Try.results21, go_sem, *]) rfl ?_
      exact ⟨by rw [findR_no (k := k) (i := i) (L := L) (by rw [HZ.out]; exact HE.out)]; rfl, rfl⟩
  · rintro ⟨t1, d1⟩ w2 ⟨j, q, rfl, hjl, hj, hd, ⟨u9, u10, u11, u12, u13, u14, u15, u16, u17, u18, u19, u20, u21, u22, u23, u24, u25, u26, u27, u28, u29, u30, u31, u32, u33, u34, u35, u36, u37, u38, u39, u40, ht⟩, rfl⟩
    obtain rfl : d1 = [] := hd
    obtain rfl : t1 = _ := ht
    have hj0 : (0 : Int) ≤ j := by omega
    by_cases hlt : j < L.length
    · have hlt' : (j : Int) < L.length := by omega
      have hnl : ¬ (j : Int) = L.length := by omega
      have hnl2 : ¬ j = L.length := by omega
      obtain ⟨b, off, rfl, hbl, hcc⟩ := HR.out (by omega)
      have hx : L[j]? = some L[j] := List.getElem?_eq_getElem hlt
      have c0 := hcc j _ hx 0 _ rfl
      have c1 := hcc j _ hx 1 _ rfl
      have KY := fun h => find_here (k := k) (i := i) hx hj h
      have KN := fun h => find_on (k := k) (i := i) hx hj h
      have HLT := Lib.hid hlt
      clear hcc hx hj
      generalize L[j] = y at *
      obtain ⟨y1, y2, y3⟩ := y
      simp only [Nat.add_zero, Nat.zero_mul, Nat.zero_add] at c0 c1
      by_cases q1 : y1 = k
      · by_cases q2 : y2 = i
        · subst q1 q2
          have HE := Lib.hid (KY (by simp [isT]))
          clear KY KN
          go_wp2
          simp only [Exit.jump]
          refine bodyPost_ret (v := (.tuple #[.int .i64 ((j : Nat) : Int), .bool true])) (by simp [results, Try.results21, go_sem, *]) rfl ?_
          exact ⟨by rw [findR_yes HLT.out HE.out], rfl⟩
        · subst q1
          have HE := Lib.hid (KN (by simp [isT, q2]))
          clear KY KN
          go_wp2
          go_step3
          go_wp2
          refine ⟨rfl, ⟨j + 1, _, ?_, HLT.out, HE.out, rfl, ⟨_, _, _, _, _, _, _, _, _, _, _, _, _, _, _, _, _, _, _, _, _, _, _, _, _, _, _, _, _, _, _, _, rfl⟩, rfl⟩, ?_⟩
          · first | (simp; done) | (simp; omega) | omega
          · simp [intOf]; have := HLT.out; omega
      · have HE := Lib.hid (KN (by simp [isT, q1]))
        clear KY KN
        go_wp2
        go_step3
        go_wp2
        refine ⟨rfl, ⟨j + 1, _, ?_, HLT.out, HE.out, rfl, ⟨_, _, _, _, _, _, _, _, _, _, _, _, _, _, _, _, _, _, _, _, _, _, _, _, _, _, _, _, _, _, _, _, rfl⟩, rfl⟩, ?_⟩
        · first | (simp; done) | (simp; omega) | omega
        · simp [intOf]; have := HLT.out; omega
    · obtain rfl : j = L.length := by omega
      have HE := Lib.hid hj
      clear hj hlt
      go_wp2
      simp only [Exit.jump]
      refine bodyPost_ret (v := (.tuple #[.int .i64 0, .bool false])) (by simp [results, Try.results21, go_sem, *]) rfl ?_
      exact ⟨by rw [findR_no HE.out]; rfl, rfl⟩
end Go.Proofs.Ytmnakbpjbgjnmaa
