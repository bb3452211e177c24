/- The program's wheel: Set. -/
import Derived.Test.YtmnakbpjbgjnmaaWhDue
namespace Go.Proofs.Ytmnakbpjbgjnmaa
open Go.Sort Go.RowKit Go.BigFrame
set_option linter.unusedVariables false
set_option linter.unusedSimpArgs false

/-- one timer more, behind all -/
theorem app_fin {k : Bool} {g g1 cap1 : Nat} {v : Sl} {L : List Tm} {x : Tm} {w w6 w9 : World} (h : Ws k g v L w6) (hown : w9.ownsRow 0 (tT k) 3 (.slice (some ⟨g1, 0, none⟩) (L.length + 1) cap1) (L.length + 1) ((L.map ct).flatten ++ ct x))
    (hgrow : w6.grownBy w9 v.v.ownBlock) (hat : v.v.ownBlock = some g1 ∨ g1 = w6.heap.size) (hok : OkW (L ++ [x])) :
    Aft k g v (L ++ [x]) w6 (w9.setCell ⟨g, 0, none⟩ (.slice (some ⟨g1, 0, none⟩) (L.length + 1) cap1)) ∧ Cs g [.slice v.a v.n v.c] w9 := by
  have ht : Touch (fun b => v.v.ownBlock = some b) w6 w9 := Touch.of_grown hgrow (fun _ h => h)
  have hr : TRow (tT k) w9 (Sl.v ⟨some ⟨g1, 0, none⟩, L.length + 1, cap1⟩) (L ++ [x]) := by
    show World.ownsRow _ _ _ _ _ _ _
    rw [List.map_append, List.flatten_append, List.length_append]
    simpa [Sl.v] using hown
  refine ⟨h.put (v' := ⟨some ⟨g1, 0, none⟩, L.length + 1, cap1⟩) hr ht (fun b hb2 => ?_) hok, h.box.touch ht h.ne⟩
  have e : g1 = b := Option.some.inj hb2
  subst e
  rcases hat with h1 | h1
  · exact .inl h1
  · exact .inr (by omega)
theorem set_bad {k i t : Int} {L : List Tm} (h : badT k i = true) : setE k i L = 1 ∧ setL k i t L = L := by
  have e : setE k i L = 1 := if_pos h
  exact ⟨e, by unfold setL; rw [if_neg (by rw [e]; decide)]⟩
theorem set_full {k i t : Int} {L : List Tm} (h : badT k i = false) (h2 : hasT k i L = false) (h3 : L.length = 256) : setE k i L = 4 ∧ setL k i t L = L := by
  have e : setE k i L = 4 := by unfold setE; rw [if_neg (by simp [h]), if_pos ⟨h2, h3⟩]
  exact ⟨e, by unfold setL; rw [if_neg (by rw [e]; decide)]⟩
theorem set_good {k i t : Int} {L : List Tm} (h : badT k i = false) (h2 : ¬ (hasT k i L = false ∧ L.length = 256)) : setE k i L = 0 ∧ setL k i t L = stopL k i L ++ [⟨k, i, t⟩] := by
  have e : setE k i L = 0 := by unfold setE; rw [if_neg (by simp [h]), if_neg h2]
  exact ⟨e, by unfold setL; rw [if_pos e]⟩
def SetPost (k : Bool) (g : Nat) (v : Sl) (er : Int) (L' : List Tm) (w : World) (e : Ending) (w' : World) : Prop := e = .returned (.int .i64 er) ∧ Aft k g v L' w w'
set_option maxHeartbeats 6400000 in
set_option maxRecDepth 100000 in
theorem set_any (k i t : Int) (ht0 : 0 ≤ t) (ht1 : t ≤ 18446744073709551615) (g : Nat) (v : Sl) (L : List Tm) (w : World) (h : Ws true g v L w) :
    Calls Try.prog 16 #[.pointer (some ⟨g, 0, none⟩), .int .i64 k, .int .i64 i, .int .u64 t] w (SetPost true g v (setE k i L) (setL k i t L) w) := by
  have HOK := Lib.hid (OkW.set (k := k) (i := i) h.ok ht0 ht1)
  have HW := Lib.hid h
  unfold SetPost
  by_cases z0 : k < 0
  · have q1 : decide (k < 0) = true := decide_eq_true z0
    have hb : badT k i = true := by unfold badT; simp only [q1, Bool.or_true, Bool.true_or]
    obtain ⟨e1, e2⟩ := set_bad (t := t) (L := L) hb
    rw [e1, e2]
    clear h hb e1 e2 HOK
    go_enter Try.func16, Try.ntmps16
    go_wp2
    go_ret
    exact ⟨rfl, HW.out.same (Below.refl _ _)⟩
  · have q1 : decide (k < 0) = false := decide_eq_false z0
    by_cases z1 : 15 < k
    · have q2 : decide (15 < k) = true := decide_eq_true z1
      have hb : badT k i = true := by unfold badT; simp only [q1, q2, Bool.or_true, Bool.true_or]
      obtain ⟨e1, e2⟩ := set_bad (t := t) (L := L) hb
      rw [e1, e2]
      clear h hb e1 e2 HOK
      go_enter Try.func16, Try.ntmps16
      go_wp2
      go_ret
      exact ⟨rfl, HW.out.same (Below.refl _ _)⟩
    · have q2 : decide (15 < k) = false := decide_eq_false z1
      by_cases z2 : i < 0
      · have q3 : decide (i < 0) = true := decide_eq_true z2
        have hb : badT k i = true := by unfold badT; simp only [q1, q2, q3, Bool.or_true, Bool.true_or]
        obtain ⟨e1, e2⟩ := set_bad (t := t) (L := L) hb
        rw [e1, e2]
        clear h hb e1 e2 HOK
        go_enter Try.func16, Try.ntmps16
        go_wp2
        go_ret
        exact ⟨rfl, HW.out.same (Below.refl _ _)⟩
      · have q3 : decide (i < 0) = false := decide_eq_false z2
        by_cases z3 : 1023 < i
        · have q4 : decide (1023 < i) = true := decide_eq_true z3
          have hb : badT k i = true := by unfold badT; simp only [q1, q2, q3, q4, Bool.or_true, Bool.true_or]
          obtain ⟨e1, e2⟩ := set_bad (t := t) (L := L) hb
          rw [e1, e2]
          clear h hb e1 e2 HOK
          go_enter Try.func16, Try.ntmps16
          go_wp2
          go_ret
          exact ⟨rfl, HW.out.same (Below.refl _ _)⟩
        · have q4 : decide (1023 < i) = false := decide_eq_false z3
          have hb : badT k i = false := by unfold badT; simp only [q1, q2, q3, q4, Bool.or_false]
          have S := stop_any k i g v L w h
          by_cases hf : hasT k i L = false ∧ L.length = 256
          · obtain ⟨e1, e2⟩ := set_full (t := t) hb hf.1 hf.2
            rw [e1, e2]
            rw [hf.1, stopL_none hf.1] at S
            have hlen := hf.2
            clear h hf hb e1 e2 HOK
            go_enter Try.func16, Try.ntmps16
            go_wp2_with fail
            refine S.mono ?_; rintro e w1 ⟨rfl, v1, hw1, ht1, hn1⟩
            have hn := hw1.n
            have HF : Hid (Aft true g v L w w1) := ⟨v1, hw1, ht1, hn1⟩
            have x0 := hw1.box.cell 0 _ rfl
            have gl := hw1.box.lt
            obtain ⟨a1, n1, c1⟩ := v1
            simp only at hn
            rw [hlen] at hn
            subst hn
            clear S hw1 ht1 hn1 hlen
            go_wp2
            go_ret
            exact ⟨rfl, HF.out⟩
          · obtain ⟨e1, e2⟩ := set_good (t := t) hb hf
            rw [e1, e2]
            rw [e2] at HOK
            obtain ⟨i0, hi0, hz0, hz1, hz2⟩ := info_parts info_timer
            have hsl : (stopL k i L).length ≤ 256 := by have := (stopL_sub k i L).length_le; have := h.ok.len; omega
            have hfl : hasT k i L = false → ¬ (stopL k i L).length = 256 := fun hh e => hf ⟨hh, by rw [stopL_none hh] at e; exact e⟩
            have HFL := Lib.hid hfl
            clear h hf hb e1 e2 hfl
            generalize stopL k i L = L2 at *
            generalize hasT k i L = hh at *
            go_enter Try.func16, Try.ntmps16
            go_wp2_with fail
            refine S.mono ?_; rintro e w1 ⟨rfl, v1, hw1, ht1, hn1⟩
            have hn := hw1.n
            have HT := Lib.hid ht1
            have HN := Lib.hid hn1
            have H1 := Lib.hid hw1
            have x0 := hw1.box.cell 0 _ rfl
            have xf := hw1.box.free 0 _ rfl
            have gl := hw1.box.lt
            have hr := Lib.hid hw1.row
            have hsl2 : (L2.length : Int) ≤ 256 := by omega
            obtain ⟨a1, n1, c1⟩ := v1
            simp only at hn
            subst hn
            have hgo : (hh = false → (¬ (L2.length : Int) = 256 ∧ ¬ L2.length = 256)) := fun e => ⟨by have := HFL.out e; omega, HFL.out e⟩
            clear S hw1 ht1 hn1 HFL
            cases hh
            · obtain ⟨hg1, hg2⟩ := hgo rfl
              clear hgo
              go_wp2_with (at_builtin; refine wpList_append_lies _ rfl (.tmp 40) (.tmp 45) 35 rfl 0 39 i0 _ 3 24 Try.underlying35 hi0 hz0 hz1 hz2 rfl (by omega) (.slice a1 L2.length c1) L2.length (L2.map ct).flatten rfl (H1.out.keep ((Below.refl _ w1).alloc (Nat.le_refl _) _)).row ⟨_, 0, none⟩ 1 1 (ct ⟨k, i, t⟩) rfl rfl (World.news_of_block (cs := (ct ⟨k, i, t⟩).toArray) (t := 39) (fr := (0, 0)) (heap_alloc_new _ _)) (ct_one _) (by omega) (by unfold maxLen; omega) (by omega) (Nat.zero_le _) _ rfl ?_)
              intro g1 cap1 w9 hown hgrow hat hlt9
              obtain ⟨af, box9⟩ := app_fin (k := true) (g := g) (v := ⟨a1, L2.length, c1⟩) (L := L2) (x := ⟨k, i, t⟩) (w := w) (H1.out.keep ((Below.refl _ w1).alloc (Nat.le_refl _) _)) hown hgrow (hat.imp id (fun h => by rw [h, World.size_alloc])) HOK.out
              have AF := Lib.hid (Aft.trans H1.out HT.out HN.out (Aft.after ((Below.refl _ w1).alloc (Nat.le_refl _) (.cells (ct ⟨k, i, t⟩).toArray 39)) af))
              clear hown hgrow hat af x0 xf gl
              have x0 := box9.cell 0 _ rfl
              have xf := box9.free 0 _ rfl
              have gl := box9.lt
              clear box9
              go_wp2
              go_ret
              exact ⟨rfl, AF.out⟩
            · clear hgo
              go_wp2_with (at_builtin; refine wpList_append_lies _ rfl (.tmp 40) (.tmp 45) 35 rfl 0 39 i0 _ 3 24 Try.underlying35 hi0 hz0 hz1 hz2 rfl (by omega) (.slice a1 L2.length c1) L2.length (L2.map ct).flatten rfl (H1.out.keep ((Below.refl _ w1).alloc (Nat.le_refl _) _)).row ⟨_, 0, none⟩ 1 1 (ct ⟨k, i, t⟩) rfl rfl (World.news_of_block (cs := (ct ⟨k, i, t⟩).toArray) (t := 39) (fr := (0, 0)) (heap_alloc_new _ _)) (ct_one _) (by omega) (by unfold maxLen; omega) (by omega) (Nat.zero_le _) _ rfl ?_)
              intro g1 cap1 w9 hown hgrow hat hlt9
              obtain ⟨af, box9⟩ := app_fin (k := true) (g := g) (v := ⟨a1, L2.length, c1⟩) (L := L2) (x := ⟨k, i, t⟩) (w := w) (H1.out.keep ((Below.refl _ w1).alloc (Nat.le_refl _) _)) hown hgrow (hat.imp id (fun h => by rw [h, World.size_alloc])) HOK.out
              have AF := Lib.hid (Aft.trans H1.out HT.out HN.out (Aft.after ((Below.refl _ w1).alloc (Nat.le_refl _) (.cells (ct ⟨k, i, t⟩).toArray 39)) af))
              clear hown hgrow hat af x0 xf gl
              have x0 := box9.cell 0 _ rfl
              have xf := box9.free 0 _ rfl
              have gl := box9.lt
              clear box9
              go_wp2
              go_ret
              exact ⟨rfl, AF.out⟩
end Go.Proofs.Ytmnakbpjbgjnmaa
