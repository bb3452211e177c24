/- The program's Confirm. -/
import Derived.Test.YtplllaafllcigaaDbIns
namespace Go.Proofs.Ytplllaafllcigaa
open Go.Sort Go.RowKit Go.BigFrame
set_option linter.unusedVariables false
set_option linter.unusedSimpArgs false

theorem conf_arg {k : Nat → It} {i inc who : Int} (h : nodeI who = false ∨ who = i) : confE k i inc who = 1 := by unfold confE; rw [if_pos h]
theorem conf_none {k : Nat → It} {i inc who : Int} (h1 : nodeI who = true) (h2 : who ≠ i) (h : suspI k i = false ∨ (k i.toNat).inc ≠ inc) : confE k i inc who = 5 := by
  unfold confE; rw [if_neg (by rintro (h | h); · rw [h1] at h; simp at h
                               · exact h2 h), if_pos h]
theorem conf_old {k : Nat → It} {i inc who : Int} (h1 : nodeI who = true) (h2 : who ≠ i) (h3 : suspI k i = true) (h4 : (k i.toNat).inc = inc) (h5 : who ∈ (k i.toNat).who) : confE k i inc who = 6 := by
  unfold confE; rw [if_neg (by rintro (h | h); · rw [h1] at h; simp at h
                               · exact h2 h), if_neg (by rintro (h | h); · rw [h3] at h; simp at h
                                                         · exact h h4), if_pos h5]
theorem conf_put {k : Nat → It} {i inc who : Int} (h1 : nodeI who = true) (h2 : who ≠ i) (h3 : suspI k i = true) (h4 : (k i.toNat).inc = inc) (h5 : who ∉ (k i.toNat).who) : confE k i inc who = 0 := by
  unfold confE; rw [if_neg (by rintro (h | h); · rw [h1] at h; simp at h
                               · exact h2 h), if_neg (by rintro (h | h); · rw [h3] at h; simp at h
                                                         · exact h h4), if_neg h5]
theorem confD_no {k : Nat → It} {i inc who : Int} (h : confE k i inc who ≠ 0) : confD k i inc who = k := by unfold confD; rw [if_neg h]
theorem confD_yes {k : Nat → It} {i inc who : Int} (h : confE k i inc who = 0) : confD k i inc who = updD k i.toNat { k i.toNat with who := insW who (k i.toNat).who } := by unfold confD; rw [if_pos h]
/-- behind Insert: the slice is stored -/
theorem Ds.confirm {g n : Nat} {V : Nat → Sl} {k : Nat → It} {w w2 w3 : World} {W : List Int} {s' : Sl} (h : Ds g V k w) (hn : n < 33) (hb : Below w.heap.size w w2)
    (hok : OkD (updD k n { k n with who := W })) (hq : susp (k n) = true)
    (hr : ERow c64 1 3 w3 s'.v W) (ht : Touch (fun b => (V n).v.ownBlock = some b) w2 w3) (hnw : ∀ b, s'.v.ownBlock = some b → (V n).v.ownBlock = some b ∨ w2.heap.size ≤ b) :
    (DAft g V (updD k n { k n with who := W }) w (w3.setCell ⟨g, n * 5 + 4, none⟩ (.slice s'.a s'.n s'.c))) ∧ (∃ u, w3.cell? ⟨g, n * 5 + 4, none⟩ = some u) ∧ w3.frozen? ⟨g, n * 5 + 4, none⟩ = false ∧ g < w3.heap.size := by
  have h2 := h.keep hb
  have hg : (V n).v.ownBlock ≠ some g := row_not (h2.who n) h2.heap (by decide)
  have hs' : s'.v.ownBlock ≠ some g := fun e => by
    rcases hnw g e with h3 | h3
    · exact hg h3
    · have := h2.glt; omega
  have h3 := (ht.block g h2.glt hg).trans h2.heap
  have h4 := heap_setCell_same w3 g (n * 5 + 4) _ 61 (.slice s'.a s'.n s'.c) h3
  rw [List.setIfInBounds_toArray, ← flatten_field (z := 5) _ n 4 (ci (k n) (V n)) _ (ci5 k V) (by rw [List.getElem?_map, List.getElem?_range hn]; rfl) (by decide)] at h4
  have hT : Touch (fun b => b = g ∨ (V n).v.ownBlock = some b) w2 (w3.setCell ⟨g, n * 5 + 4, none⟩ (.slice s'.a s'.n s'.c)) := Touch.set (F := fun b => b = g ∨ (V n).v.ownBlock = some b) (ht.mono (fun _ _ h => Or.inr h)) (a := ⟨g, n * 5 + 4, none⟩) (fun _ => Or.inl rfl) _
  have hP := h2.put (x := { k n with who := W }) (s := s') hn hok (fun e => by
    have : susp (k n) = false := e
    rw [hq] at this; simp at this) h4 hT (erow_touch hr (Touch.set (F := fun b => b = g) (Touch.refl _ w3) (fun _ => rfl) _) (fun b hb e => hs' (by rw [← e]; exact hb))) hnw
  refine ⟨DAft.after hb ⟨_, hP, hT.mono (fun b _ hb => ?_), own_upd hnw⟩, ⟨_, (ht.cell (p := ⟨g, n * 5 + 4, none⟩) h2.glt hg).trans (h2.cell n hn 4 _ rfl)⟩, (ht.frozen (p := ⟨g, n * 5 + 4, none⟩) h2.glt hg).trans (h2.free _), Nat.lt_of_lt_of_le h2.glt ht.size⟩
  rcases hb with rfl | hb
  · exact .inl rfl
  · exact .inr ⟨n, hb⟩
def ConfPost (g : Nat) (V : Nat → Sl) (k : Nat → It) (i inc who : Int) (w : World) (e : Ending) (w' : World) : Prop := e = .returned (.int .i64 (confE k i inc who)) ∧ DAft g V (confD k i inc who) w w'
set_option maxHeartbeats 3200000 in
theorem conf_any (i inc who : Int) (g : Nat) (V : Nat → Sl) (k : Nat → It) (w : World) (h : Ds g V k w) :
    Calls Try.prog 11 #[.pointer (some ⟨g, 0, none⟩), .int .i64 i, .int .u32 inc, .int .i64 who] w (ConfPost g V k i inc who w) := by
  have K1 := node_any who
  have K2 := susp_any i g V k w h
  have gl := h.glt
  unfold ConfPost
  have HI := Lib.hid (suspI_iff (k := k) (i := i))
  have SAME := Lib.hid (h.same (Below.refl _ _))
  cases qn : nodeI who with
  | false =>
    have e1 := conf_arg (k := k) (i := i) (inc := inc) (who := who) (.inl qn)
    rw [confD_no (by rw [e1]; decide), e1]
    rw [qn] at K1
    clear e1 HI K2 qn
    go_enter Try.func11, Try.ntmps11
    go_wp2_with fail
    refine (K1 _).mono ?_; rintro e w1 ⟨rfl, rfl⟩
    go_wp2
    refine bodyPost_ret (v := (.int .i64 1)) (by simp [results, Try.results11, go_sem, *]) rfl ?_
    exact ⟨rfl, SAME.out⟩
  | true =>
    rw [qn] at K1
    by_cases qi : who = i
    · have e1 := conf_arg (k := k) (i := i) (inc := inc) (who := who) (.inr qi)
      rw [confD_no (by rw [e1]; decide), e1]
      have d1 : (who == i) = true := beq_iff_eq.2 qi
      clear e1 HI K2 qn qi
      go_enter Try.func11, Try.ntmps11
      go_wp2_with fail
      refine (K1 _).mono ?_; rintro e w1 ⟨rfl, rfl⟩
      go_wp2
      refine bodyPost_ret (v := (.int .i64 1)) (by simp [results, Try.results11, go_sem, *]) rfl ?_
      exact ⟨rfl, SAME.out⟩
    · have d1 : (who == i) = false := beq_eq_false_iff_ne.2 qi
      cases hs : suspI k i with
      | false =>
        have e1 := conf_none (inc := inc) qn qi (.inl hs)
        rw [confD_no (by rw [e1]; decide), e1]
        rw [hs] at K2
        clear e1 HI qn qi hs
        go_enter Try.func11, Try.ntmps11
        go_wp2_with fail
        refine (K1 _).mono ?_; rintro e w1 ⟨rfl, rfl⟩
        go_wp2_with fail
        refine K2.mono ?_; rintro e w1 ⟨rfl, rfl⟩
        go_wp2
        refine bodyPost_ret (v := (.int .i64 5)) (by simp [results, Try.results11, go_sem, *]) rfl ?_
        exact ⟨rfl, SAME.out⟩
      | true =>
        rw [hs] at K2
        have hi := HI.out.1 hs
        obtain ⟨n, rfl⟩ : ∃ n : Nat, i = n := ⟨i.toNat, by omega⟩
        have hn1 : n < 33 := by omega
        have hn' : (n : Int) < 33 := by omega
        have hn0 : (0 : Int) ≤ n := by omega
        have hsn : susp (k n) = true := hi.2.2
        have c1 := h.cell n hn1 1 _ rfl
        by_cases qc : (k n).inc = inc
        · have d2 : ((k n).inc == inc) = true := beq_iff_eq.2 qc
          have d3 : ((k n).inc != inc) = false := by rw [bne, d2]; rfl
          have c4 := h.cell n hn1 4 _ rfl
          have hlen := h.ok.len n
          have hsrt := (h.ok.ok n hsn).srt
          have KS := search_row (V n) (k n).who hsrt who w (h.who n) (by omega)
          by_cases qm : who ∈ (k n).who
          · have e1 := conf_old (k := k) (i := n) qn qi hs qc qm
            rw [confD_no (by rw [e1]; decide), e1]
            rw [decide_eq_true qm] at KS
            have H := Lib.hid h
            clear e1 HI qn qi hs hi qc qm hsn h hlen hsrt
            generalize (k n).who = l at *
            generalize (k n).inc = y at *
            generalize V n = s at *
            generalize cntW who l = m at *
            go_enter Try.func11, Try.ntmps11
            go_wp2_with fail
            refine (K1 _).mono ?_; rintro e w1 ⟨rfl, rfl⟩
            go_wp2_with fail
            refine K2.mono ?_; rintro e w1 ⟨rfl, rfl⟩
            go_wp2_with fail
            refine KS.mono ?_; rintro e w1 ⟨rfl, b1⟩
            go_wp2
            refine bodyPost_ret (v := (.int .i64 6)) (by simp [results, Try.results11, go_sem, *]) rfl ?_
            exact ⟨rfl, H.out.same b1⟩
          · have e1 := conf_put (k := k) (i := n) qn qi hs qc qm
            have hok := conf_ok h.ok n inc who
            rw [confD_yes e1] at hok ⊢
            rw [e1]
            rw [decide_eq_false qm] at KS
            simp only [Int.toNat_natCast] at hok ⊢
            have KI : Hid (∀ w1, Below w.heap.size w w1 → Calls Try.prog 26 #[.slice (V n).a (V n).n (V n).c, .int .i64 (cntW who (k n).who : Nat), .slice (some ⟨w1.heap.size, 0, none⟩) 1 1] (w1.alloc (.cells #[.int .i64 who] 3)) (InsPost (V n) (insW who (k n).who) (w1.alloc (.cells #[.int .i64 who] 3)))) := fun w1 b1 => by
              have h1 := (h.keep b1).keep ((Below.refl _ w1).alloc (Nat.le_refl _) (.cells #[.int .i64 who] 3))
              have hr := (h.keep b1).who n
              exact insert_row (V n) (k n).who (cntW who (k n).who) (cnt_le _ _) who w1.heap.size _ (h1.who n) (by omega) (heap_alloc_new w1 _) (fun e => by have := erow_lt hr e; omega)
            have FIN : Hid (∀ w1, Below w.heap.size w w1 → ∀ (s' : Sl) w3, ERow c64 1 3 w3 s'.v (insW who (k n).who) → Touch (fun b => (V n).v.ownBlock = some b) (w1.alloc (.cells #[.int .i64 who] 3)) w3 → (∀ b, s'.v.ownBlock = some b → (V n).v.ownBlock = some b ∨ (w1.alloc (.cells #[.int .i64 who] 3)).heap.size ≤ b) → (DAft g V (updD k n { k n with who := insW who (k n).who }) w (w3.setCell ⟨g, n * 5 + 4, none⟩ (.slice s'.a s'.n s'.c))) ∧ (∃ u, w3.cell? ⟨g, n * 5 + 4, none⟩ = some u) ∧ w3.frozen? ⟨g, n * 5 + 4, none⟩ = false ∧ g < w3.heap.size) := fun w1 b1 s' w3 h1 h2 h3 =>
              h.confirm hn1 (b1.alloc b1.size _) hok hsn h1 h2 h3
            have C4 : Hid (∀ w1, Below w.heap.size w w1 → w1.cell? ⟨g, n * 5 + 4, none⟩ = some (.slice (V n).a (V n).n (V n).c) ∧ g < w1.heap.size) := fun w1 b1 => ⟨(h.keep b1).cell n hn1 4 _ rfl, (h.keep b1).glt⟩
            clear e1 HI qn qi hs hi qc qm hsn h hlen hsrt hok SAME
            generalize updD k n { k n with who := insW who (k n).who } = k' at *
            generalize insW who (k n).who = L' at *
            generalize (k n).who = l at *
            generalize (k n).inc = y at *
            generalize V n = s at *
            generalize cntW who l = m at *
            go_enter Try.func11, Try.ntmps11
            go_wp2_with fail
            refine (K1 _).mono ?_; rintro e w1 ⟨rfl, rfl⟩
            go_wp2_with fail
            refine K2.mono ?_; rintro e w1 ⟨rfl, rfl⟩
            go_wp2_with fail
            refine KS.mono ?_; rintro e w2 ⟨rfl, b1⟩
            obtain ⟨c4', gl'⟩ := C4.out w2 b1
            clear c4 gl c1
            have KJ := KI.out w2 b1
            go_wp2_with fail
            refine KJ.mono ?_; rintro e w3 ⟨s', rfl, q1, q2, q3⟩
            obtain ⟨f1, ⟨u, f2⟩, f3, f4⟩ := FIN.out w2 b1 s' w3 q1 q2 q3
            replace f1 := Lib.hid f1
            clear q1 q2 q3 c4' gl'
            go_wp2
            refine bodyPost_ret (v := (.int .i64 0)) (by simp [results, Try.results11, go_sem, *]) rfl ?_
            exact ⟨rfl, f1.out⟩
        · have d2 : ((k n).inc == inc) = false := beq_eq_false_iff_ne.2 qc
          have d3 : ((k n).inc != inc) = true := by rw [bne, d2]; rfl
          have e1 := conf_none (k := k) (i := n) qn qi (.inr qc)
          rw [confD_no (by rw [e1]; decide), e1]
          clear e1 HI qn qi hs hi qc hsn h
          generalize (k n).inc = y at *
          go_enter Try.func11, Try.ntmps11
          go_wp2_with fail
          refine (K1 _).mono ?_; rintro e w1 ⟨rfl, rfl⟩
          go_wp2_with fail
          refine K2.mono ?_; rintro e w1 ⟨rfl, rfl⟩
          go_wp2
          refine bodyPost_ret (v := (.int .i64 5)) (by simp [results, Try.results11, go_sem, *]) rfl ?_
          exact ⟨rfl, SAME.out⟩
end Go.Proofs.Ytplllaafllcigaa
