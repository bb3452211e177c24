/- The reference's wheel: Set. -/
import Derived.Test.YtmnakbpjbgjnmaaWhRefAll
namespace Go.Proofs.Ytmnakbpjbgjnmaa
open Go.Sort Go.RowKit Go.BigFrame
set_option linter.unusedVariables false
set_option linter.unusedSimpArgs false

set_option maxHeartbeats 6400000 in
set_option maxRecDepth 100000 in
theorem rset_any (k i t : Int) (ht0 : 0 ≤ t) (ht1 : t ≤ 18446744073709551615) (g : Nat) (v : Sl) (L : List Tm) (w : World) (h : Ws false g v L w) :
    Calls Try.prog 17 #[.pointer (some ⟨g, 0, none⟩), .int .i64 k, .int .i64 i, .int .u64 t] w (SetPost false g v (setE k i L) (setL k i t L) w) := by
  have HOK := Lib.hid (OkW.set (k := k) (i := i) h.ok ht0 ht1)
  have HW := Lib.hid h
  unfold SetPost
  by_cases z0 : k < 0
  · have q1 : decide (k < 0) = true := decide_eq_true z0
    have hb : badT k i = true := by unfold badT; simp only [q1, Bool.or_true, Bool.true_or]
    obtain ⟨e1, e2⟩ := set_bad (t := t) (L := L) hb
    rw [e1, e2]
    clear h hb e1 e2 HOK
    go_enter Try.func17, Try.ntmps17
    go_wp2
    go_ret
    exact ⟨rfl, HW.out.same (Below.refl _ _)⟩
  · have q1 : decide (k < 0) = false := decide_eq_false z0
    by_cases z1 : 15 < k
    · have q2 : decide (15 < k) = true := decide_eq_true z1
      have hb : badT k i = true := by unfold badT; simp only [q1, q2, Bool.or_true, Bool.true_or]
      obtain ⟨e1, e2⟩ := set_bad (t := t) (L := L) hb
      rw [e1, e2]
      clear h hb e1 e2 HOK
      go_enter Try.func17, Try.ntmps17
      go_wp2
      go_ret
      exact ⟨rfl, HW.out.same (Below.refl _ _)⟩
    · have q2 : decide (15 < k) = false := decide_eq_false z1
      by_cases z2 : i < 0
      · have q3 : decide (i < 0) = true := decide_eq_true z2
        have hb : badT k i = true := by unfold badT; simp only [q1, q2, q3, Bool.or_true, Bool.true_or]
        obtain ⟨e1, e2⟩ := set_bad (t := t) (L := L) hb
        rw [e1, e2]
        clear h hb e1 e2 HOK
        go_enter Try.func17, Try.ntmps17
        go_wp2
        go_ret
        exact ⟨rfl, HW.out.same (Below.refl _ _)⟩
      · have q3 : decide (i < 0) = false := decide_eq_false z2
        by_cases z3 : 1023 < i
        · have q4 : decide (1023 < i) = true := decide_eq_true z3
          have hb : badT k i = true := by unfold badT; simp only [q1, q2, q3, q4, Bool.or_true, Bool.true_or]
          obtain ⟨e1, e2⟩ := set_bad (t := t) (L := L) hb
          rw [e1, e2]
          clear h hb e1 e2 HOK
          go_enter Try.func17, Try.ntmps17
          go_wp2
          go_ret
          exact ⟨rfl, HW.out.same (Below.refl _ _)⟩
        · have q4 : decide (1023 < i) = false := decide_eq_false z3
          have hb : badT k i = false := by unfold badT; simp only [q1, q2, q3, q4, Bool.or_false]
          have F := rfind_any k i g v L w h
          unfold RFindPost at F
          by_cases hf : hasT k i L = false ∧ L.length = 256
          · obtain ⟨e1, e2⟩ := set_full (t := t) hb hf.1 hf.2
            rw [e1, e2]
            have e0 : rfindR k i L = -1 := by unfold rfindR; rw [if_neg (by simp [hf.1])]
            rw [e0] at F
            have hlen := hf.2
            have hn := h.n
            obtain ⟨a1, n1, c1⟩ := v
            simp only at hn
            rw [hlen] at hn
            subst hn
            clear h hf hb e1 e2 HOK e0
            go_enter Try.func17, Try.ntmps17
            go_wp2_with fail
            refine F.mono ?_; rintro e w1 ⟨rfl, b1⟩
            clear F
            have H1 := HW.out.keep b1
            have HB := Lib.hid b1
            have x0 := H1.box.cell 0 _ rfl
            have gl := H1.box.lt
            clear H1 b1
            go_wp2
            go_ret
            exact ⟨rfl, HW.out.same HB.out⟩
          · obtain ⟨e1, e2⟩ := set_good (t := t) hb hf
            rw [e1, e2]
            rw [e2] at HOK
            obtain ⟨i0, hi0, hz0, hz1, hz2⟩ := info_parts info_rtimer
            have hsl : (stopL k i L).length ≤ 256 := by have := (stopL_sub k i L).length_le; have := h.ok.len; omega
            have hll : L.length ≤ 256 := h.ok.len
            have hfl : hasT k i L = false → ¬ L.length = 256 := fun hh e => hf ⟨hh, e⟩
            obtain ⟨fr, hfr, hfr2⟩ : ∃ fr : Int, rfindR k i L = fr ∧ ((fr < 0 ∧ hasT k i L = false) ∨ 0 ≤ fr) := by
              refine ⟨_, rfl, ?_⟩
              unfold rfindR
              cases hasT k i L with
              | true => right; simp
              | false => left; simp
            rw [hfr] at F
            have SP := Lib.hid (fun w1 (hw : Ws false g v L w1) => rstop_any k i g v L w1 hw)
            clear hf hb e1 e2 hfr
            generalize stopL k i L = L2 at *
            generalize hasT k i L = hh at *
            have hn := h.n
            obtain ⟨a0, n0, c0⟩ := v
            simp only at hn
            subst hn
            have hll2 : (L.length : Int) ≤ 256 := by omega
            have hsl2 : (L2.length : Int) ≤ 256 := by omega
            clear h
            have hcond : (fr < 0 ∧ ¬ 256 ≤ (L.length : Int) ∧ ¬ 256 ≤ L.length) ∨ 0 ≤ fr := by
              rcases hfr2 with ⟨h1, h2⟩ | h1
              · exact .inl ⟨h1, by have := hfl h2; omega, by have := hfl h2; omega⟩
              · exact .inr h1
            clear hfl hfr2
            rcases hcond with ⟨q5, q6, q7⟩ | q5
            · have q8 : decide (fr < 0) = true := decide_eq_true q5
              have q9 : decide (256 ≤ (L.length : Int)) = false := decide_eq_false q6
              have q10 : decide (256 ≤ L.length) = false := decide_eq_false q7
              go_enter Try.func17, Try.ntmps17
              go_wp2_with fail
              refine F.mono ?_; rintro e w1 ⟨rfl, b1⟩
              clear F
              have H1 := HW.out.keep b1
              have HB := Lib.hid b1
              have x0 := H1.box.cell 0 _ rfl
              have gl := H1.box.lt
              have S := SP.out w1 H1
              clear H1 b1 SP
              go_wp2_with fail
              refine S.mono ?_; rintro e w2 ⟨rfl, v1, hw1, ht1, hn1⟩
              have hn := hw1.n
              have HT : Hid (Touch (OwnS g ⟨a0, L.length, c0⟩) w w2) := (Touch.of_below (OwnS g ⟨a0, L.length, c0⟩) HB.out).trans ht1 (fun _ _ h => h)
              have HN : Hid (∀ b, OwnS g v1 b → OwnS g ⟨a0, L.length, c0⟩ b ∨ w.heap.size ≤ b) := fun b hb => (hn1 b hb).imp id (fun h => Nat.le_trans HB.out.size h)
              have H2 := Lib.hid hw1
              clear x0 gl
              have x0 := hw1.box.cell 0 _ rfl
              have gl := hw1.box.lt
              obtain ⟨a1, n1, c1⟩ := v1
              simp only at hn
              subst hn
              clear S hw1 ht1 hn1
              go_wp2_with (at_builtin; refine wpList_append_lies _ rfl (.tmp 44) (.tmp 49) 27 rfl 0 40 i0 _ 3 24 Try.underlying27 hi0 hz0 hz1 hz2 rfl (by omega) (.slice a1 L2.length c1) L2.length (L2.map ct).flatten rfl (H2.out.keep ((Below.refl _ w2).alloc (Nat.le_refl _) _)).row ⟨_, 0, none⟩ 1 1 (ct ⟨k, i, t⟩) rfl rfl (World.news_of_block (cs := (ct ⟨k, i, t⟩).toArray) (t := 40) (fr := (0, 0)) (heap_alloc_new _ _)) (ct_one _) (by omega) (by unfold maxLen; omega) (by omega) (Nat.zero_le _) _ rfl ?_)
              intro g1 cap1 w9 hown hgrow hat hlt9
              obtain ⟨af, box9⟩ := app_fin (k := false) (g := g) (v := ⟨a1, L2.length, c1⟩) (L := L2) (x := ⟨k, i, t⟩) (w := w) (H2.out.keep ((Below.refl _ w2).alloc (Nat.le_refl _) _)) hown hgrow (hat.imp id (fun h => by rw [h, World.size_alloc])) HOK.out
              have AF := Lib.hid (Aft.trans H2.out HT.out HN.out (Aft.after ((Below.refl _ w2).alloc (Nat.le_refl _) (.cells (ct ⟨k, i, t⟩).toArray 40)) af))
              clear hown hgrow hat af x0 gl
              have x0 := box9.cell 0 _ rfl
              have xf := box9.free 0 _ rfl
              have gl := box9.lt
              clear box9
              go_wp2
              go_ret
              exact ⟨rfl, AF.out⟩
            · have q8 : decide (fr < 0) = false := decide_eq_false (by omega)
              go_enter Try.func17, Try.ntmps17
              go_wp2_with fail
              refine F.mono ?_; rintro e w1 ⟨rfl, b1⟩
              clear F
              have H1 := HW.out.keep b1
              have HB := Lib.hid b1
              have x0 := H1.box.cell 0 _ rfl
              have gl := H1.box.lt
              have S := SP.out w1 H1
              clear H1 b1 SP
              go_wp2_with fail
              refine S.mono ?_; rintro e w2 ⟨rfl, v1, hw1, ht1, hn1⟩
              have hn := hw1.n
              have HT : Hid (Touch (OwnS g ⟨a0, L.length, c0⟩) w w2) := (Touch.of_below (OwnS g ⟨a0, L.length, c0⟩) HB.out).trans ht1 (fun _ _ h => h)
              have HN : Hid (∀ b, OwnS g v1 b → OwnS g ⟨a0, L.length, c0⟩ b ∨ w.heap.size ≤ b) := fun b hb => (hn1 b hb).imp id (fun h => Nat.le_trans HB.out.size h)
              have H2 := Lib.hid hw1
              clear x0 gl
              have x0 := hw1.box.cell 0 _ rfl
              have gl := hw1.box.lt
              obtain ⟨a1, n1, c1⟩ := v1
              simp only at hn
              subst hn
              clear S hw1 ht1 hn1
              go_wp2_with (at_builtin; refine wpList_append_lies _ rfl (.tmp 44) (.tmp 49) 27 rfl 0 40 i0 _ 3 24 Try.underlying27 hi0 hz0 hz1 hz2 rfl (by omega) (.slice a1 L2.length c1) L2.length (L2.map ct).flatten rfl (H2.out.keep ((Below.refl _ w2).alloc (Nat.le_refl _) _)).row ⟨_, 0, none⟩ 1 1 (ct ⟨k, i, t⟩) rfl rfl (World.news_of_block (cs := (ct ⟨k, i, t⟩).toArray) (t := 40) (fr := (0, 0)) (heap_alloc_new _ _)) (ct_one _) (by omega) (by unfold maxLen; omega) (by omega) (Nat.zero_le _) _ rfl ?_)
              intro g1 cap1 w9 hown hgrow hat hlt9
              obtain ⟨af, box9⟩ := app_fin (k := false) (g := g) (v := ⟨a1, L2.length, c1⟩) (L := L2) (x := ⟨k, i, t⟩) (w := w) (H2.out.keep ((Below.refl _ w2).alloc (Nat.le_refl _) _)) hown hgrow (hat.imp id (fun h => by rw [h, World.size_alloc])) HOK.out
              have AF := Lib.hid (Aft.trans H2.out HT.out HN.out (Aft.after ((Below.refl _ w2).alloc (Nat.le_refl _) (.cells (ct ⟨k, i, t⟩).toArray 40)) af))
              clear hown hgrow hat af x0 gl
              have x0 := box9.cell 0 _ rfl
              have xf := box9.free 0 _ rfl
              have gl := box9.lt
              clear box9
              go_wp2
              go_ret
              exact ⟨rfl, AF.out⟩
end Go.Proofs.Ytmnakbpjbgjnmaa
