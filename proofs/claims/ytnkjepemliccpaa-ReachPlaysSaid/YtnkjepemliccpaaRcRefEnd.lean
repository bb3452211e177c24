/- The reference's: End. -/
import Derived.Test.YtnkjepemliccpaaRcRef
import Derived.Deep.AppendLies
namespace Go.Proofs.Ytnkjepemliccpaa
open Go.Sort Go.RowKit Go.BigFrame
set_option linter.unusedVariables false
set_option linter.unusedSimpArgs false

theorem info_bool : (Try.prog.info? 4).map (fun i => (i.zero, i.size, i.bytes)) = some (some (.bool false), 1, 1) := by kernel_rfl
def bL (l : List Bool) : List Value := (l.map cB).flatten
theorem bL_len (l : List Bool) : (bL l).length = l.length := by
  unfold bL; rw [flatten_len (z := 1) _ (cB_enc.all l), List.length_map, Nat.mul_one]
theorem bL_ones (l : List Bool) : ∀ u ∈ bL l, u.oneCell' = true := cB_enc.ones l
theorem bL_at (l : List Bool) {j : Nat} {u : Value} (h : (bL l)[j]? = some u) : ∃ b, l[j]? = some b ∧ u = .bool b := by
  have hj := (List.getElem?_eq_some_iff.1 h).1
  rw [bL_len] at hj
  have hx : l[j]? = some l[j] := List.getElem?_eq_getElem hj
  have := flatten_at (z := 1) (l.map cB) (cB_enc.all l) j 0 (by decide) (cB l[j]) (by rw [List.getElem?_map, hx]; rfl)
  rw [Nat.mul_one, Nat.add_zero] at this
  unfold bL at h
  rw [this] at h
  exact ⟨l[j], hx, by simpa [cB] using h.symm⟩
theorem bL_app (l : List Bool) (b : Bool) : bL l ++ [.bool b] = bL (l ++ [b]) := by unfold bL; rw [List.map_append, List.flatten_append]; rfl
/-- the cells of the rounds that are over, in whatever world keeps them -/
theorem PRow.cells {w : World} {p : Sl} {L : List Bool} (h : PRow w p L) {ad : Addr} (ha : p.a = some ad) : ∀ j u, (bL L)[j]? = some u → w.cell? (ad.add j) = some u := fun j u hu => by
  obtain ⟨b, hb, rfl⟩ := bL_at L hu
  have hj := (List.getElem?_eq_some_iff.1 hb).1
  obtain ⟨g, off, hg, _, hc⟩ := h.rd (by omega)
  rw [ha] at hg
  injection hg with hg
  subst hg
  have := hc j b hb 0 _ rfl
  rw [Nat.mul_one, Nat.add_zero] at this
  rw [add_at]; exact this
/-- a part of a row of one's own, to its end -/
theorem prow_of_own {w : World} {g n cap lo : Nat} {L : List Bool} (h : w.ownsRow 0 4 1 (.slice (some ⟨g, 0, none⟩) n cap) n (bL L)) (hn : n = L.length) (hlo : lo < n) : PRow w ⟨some ⟨g, lo, none⟩, n - lo, cap - lo⟩ (L.drop lo) := by
  have hr : ERow cB 1 4 w (.slice (some ⟨g, 0, none⟩) n cap) L := by
    show w.ownsRow 0 4 1 _ L.length _
    rw [← hn]; exact h
  obtain ⟨_, C, hC, hl, ht, h1, h2⟩ := erow_open cB_enc hr
  have hg : g < w.heap.size := hC.lt
  refine ⟨by rw [List.length_drop, hn], ⟨by show n - lo ≤ cap - lo; omega, by show cap - lo ≤ maxLen; omega⟩, fun e => by simp at e, fun a ha => by show 0 < n - lo; omega, fun hp => ⟨g, lo, rfl, hg, fun i x hx j v hv => ?_⟩, fun a ha => ?_⟩
  · rw [List.getElem?_drop] at hx
    have := hC.cell (lo + i) j _ v (taken_at ht hx) hv
    rw [Nat.mul_one] at this ⊢
    exact this
  · injection ha with ha
    subst ha
    exact ⟨rfl, hg⟩
def REndPost (g : Nat) (v p : Sl) (k : Rc) (w : World) (e : Ending) (w' : World) : Prop := e = .returned (.bool k.on) ∧ QAft g v p (endD k) w w'
/-- behind the new row: what the box holds then -/
structure RE4 (g : Nat) (v : Sl) (sq : Int) (k : Rc) (w : World) (g2 cap2 : Nat) (wx : World) : Prop where
  box : Cs g (qC { k with on := false } v ⟨some ⟨g2, 0, none⟩, k.past.length + 1, cap2⟩ sq k.got) wx
  row : wx.ownsRow 0 4 1 (.slice (some ⟨g2, 0, none⟩) (k.past.length + 1) cap2) (k.past.length + 1) (bL (k.past.reverse ++ [k.got]))
  touch : Touch (fun b => b = g) w wx
  new : w.heap.size ≤ g2
theorem re4_of {g : Nat} {v p : Sl} {sq : Int} {k : Rc} {w w1 w' : World} {g2 cap2 : Nat} (gl : g < w.heap.size) (ht : Touch (fun b => b = g) w w1) (hx : Cs g (qC { k with on := false } v p sq k.got) w1) (hb : Below w1.heap.size w1 w')
    (ho : w'.ownsRow w1.heap.size 4 1 (.slice (some ⟨g2, 0, none⟩) (k.past.length + 1) cap2) (k.past.length + 1) (bL k.past.reverse ++ [.bool k.got])) :
    Cs g (qC { k with on := false } v p sq k.got) w' ∧ RE4 g v sq k w g2 cap2 (w'.setCell ⟨g, 3, none⟩ (.slice (some ⟨g2, 0, none⟩) (k.past.length + 1) cap2)) := by
  have hbx := hx.keep hb
  have hg2 := World.ownsRow.lt ho g2 rfl
  have hne : g2 ≠ g := by have := ht.size; omega
  rw [bL_app] at ho
  refine ⟨hbx, hbx.set 3 _ (by simp [qC]), ?_, ?_, Nat.le_trans ht.size hg2.1⟩
  · exact own_touch (F := fun b => b = g) (own_zero ho) (Touch.set (F := fun b => b = g) (Touch.refl _ w') (a := ⟨g, 3, none⟩) (fun _ => rfl) _) (fun b hb e => by
      obtain rfl : g2 = b := by injection hb
      exact hne e)
  · exact Touch.set (F := fun b => b = g) (ht.trans (Touch.of_below (fun b => b = g) hb) (fun _ _ h => h)) (a := ⟨g, 3, none⟩) (fun _ => rfl) _
set_option maxHeartbeats 12800000 in
set_option maxRecDepth 100000 in
theorem rend_any (g : Nat) (v p : Sl) (sq : Int) (gt : Bool) (k : Rc) (w : World) (h : Qs g v p sq gt k w) :
    Calls Try.prog 17 #[.pointer (some ⟨g, 0, none⟩)] w (REndPost g v p k w) := by
  unfold REndPost
  have c4 := h.box.cell 4 _ rfl
  have gl := h.box.lt
  cases ho : k.on with
  | false =>
    rw [endD_no ho]
    rw [ho] at c4
    go_enter Try.func17, Try.ntmps17
    go_wp2
    refine bodyPost_ret (v := (.bool false)) (by simp [results, Try.results17, go_sem, *]) rfl ?_
    exact ⟨rfl, h.same (Below.refl _ _)⟩
  | true =>
    obtain ⟨hrs, rfl⟩ := h.rel ho
    rw [ho] at c4
    have f4 := h.box.free 4 _ rfl
    have X1 : Hid (Cs g (qC { k with on := false } v p sq k.got) (w.setCell ⟨g, 4, none⟩ (.bool false))) := h.box.set 4 (.bool false) (by simp [qC])
    have T1 : Hid (Touch (fun b => b = g) w (w.setCell ⟨g, 4, none⟩ (.bool false))) := touch_c (Touch.refl _ _) _ _
    have P1 : Hid (PRow (w.setCell ⟨g, 4, none⟩ (.bool false)) p k.past.reverse) := h.past.touch T1.out (fun a ha => h.pne a ha)
    have HH := Lib.hid h
    have hp8 := h.p8
    have hpn := h.pn
    have r0 := h.ok.r0
    have r1 := h.ok.r1
    have rl := h.ok.len
    clear h
    obtain ⟨j0, hj0, hy0, hy1, hy2⟩ := info_parts info_bool
    have GL := Lib.hid gl
    go_enter Try.func17, Try.ntmps17
    go_upto_region 4 with fail
    clear c4 f4 gl
    generalize (w.setCell ⟨g, 4, none⟩ (.bool false)) = w1 at *
    go_cut [] (fun wx => ∃ g2 cap2, RE4 g v sq k w g2 cap2 wx)
    case first =>
      have HC := Lib.hid (fun w' (b : Below w1.heap.size w1 w') => X1.out.keep b)
      have SS : Hid (∀ w', Below w1.heap.size w1 w' → w'.cell? ⟨g, 6, none⟩ = some (.bool k.got) ∧ g < w'.heap.size) := fun w' b => ⟨(HC.out w' b).cell 6 _ rfl, (HC.out w' b).lt⟩
      have HP := Lib.hid (fun w' (b : Below w1.heap.size w1 w') => P1.out.keep b)
      have RF := Lib.hid (fun w' g2 cap2 (b : Below w1.heap.size w1 w') ho => re4_of (g2 := g2) (cap2 := cap2) GL.out T1.out X1.out b ho)
      have B0 : Hid (Below w1.heap.size w1 w1.drew) := (Below.refl _ _).drew
      obtain ⟨pa, pn, pc⟩ := p
      simp only at hpn hp8
      replace hpn := Lib.hid hpn
      cases pa with
      | none =>
        obtain ⟨e1, e2⟩ := P1.out.nil rfl
        simp only at e1 e2
        subst e1 e2
        have hpl : k.past = [] := List.eq_nil_of_length_eq_zero hpn.out.symm
        have RN : Hid (∀ w' g2 cap2, Below w1.heap.size w1 w' → w'.ownsRow w1.heap.size 4 1 (.slice (some ⟨g2, 0, none⟩) (0 + 1) cap2) (0 + 1) ([] ++ [.bool k.got]) → Cs g (qC { k with on := false } v ⟨none, 0, 0⟩ sq k.got) w' ∧ RE4 g v sq k w g2 cap2 (w'.setCell ⟨g, 3, none⟩ (.slice (some ⟨g2, 0, none⟩) (0 + 1) cap2))) := fun w' g2 cap2 b ho => by
          have e : k.past.length = 0 := hpn.out.symm
          have := RF.out w' g2 cap2 b (by rw [hpl]; exact ho)
          rw [e] at this; exact this
        clear RF HP P1 hpl hpn
        refine wp_region_held_drew (S := fun w' => w'.cell? ⟨g, 6, none⟩ = some (.bool k.got) ∧ g < w'.heap.size) (by kernel_rfl) (SS.out _ B0.out) (fun hHeld => ?_)
        refine wpAnyH_take (i := 0) (v := ?_) rfl (by kernel_rfl) (by kernel_rfl) (by kernel_rfl) (fun _ _ _ h => h) (Or.inl ⟨by rfl, ?_⟩) (by assumption) ?_; rotate_left 1; (focus (intro w hSw; (try dsimp only at hSw); go_simp; (try with_reducible rfl))); (try simp only [Act.put, List.setIfInBounds_toArray, List.set_cons_zero, List.set_cons_succ]); try simp only [Act.put, List.getElem_toArray, List.getElem_cons_zero, List.getElem_cons_succ, List.setIfInBounds_toArray, List.set_cons_zero, List.set_cons_succ]
        refine wpAnyH_take (i := 1) (v := ?_) rfl (by kernel_rfl) (by kernel_rfl) (by kernel_rfl) (fun _ _ _ h => h) (Or.inl ⟨by rfl, ?_⟩) (by assumption) ?_; rotate_left 1; (focus (intro w hSw; (try dsimp only at hSw); go_simp; (try with_reducible rfl))); (try simp only [Act.put, List.setIfInBounds_toArray, List.set_cons_zero, List.set_cons_succ]); try simp only [Act.put, List.getElem_toArray, List.getElem_cons_zero, List.getElem_cons_succ, List.setIfInBounds_toArray, List.set_cons_zero, List.set_cons_succ]
        refine wpAnyH_take (i := 2) (v := ?_) rfl (by kernel_rfl) (by kernel_rfl) (by kernel_rfl) (fun _ _ _ h => h) (Or.inl ⟨by rfl, ?_⟩) (by assumption) ?_; rotate_left 1; (focus (intro w hSw; (try dsimp only at hSw); go_simp; (try with_reducible rfl))); (try simp only [Act.put, List.setIfInBounds_toArray, List.set_cons_zero, List.set_cons_succ]); try simp only [Act.put, List.getElem_toArray, List.getElem_cons_zero, List.getElem_cons_succ, List.setIfInBounds_toArray, List.set_cons_zero, List.set_cons_succ]
        refine wpAnyH_take (i := 3) (v := ?_) rfl (by kernel_rfl) (by kernel_rfl) (by kernel_rfl) (fun _ _ _ h => h) (Or.inl ⟨by rfl, ?_⟩) (by assumption) ?_; rotate_left 1; (focus (intro w hSw; (try dsimp only at hSw); go_simp; (try with_reducible rfl))); (try simp only [Act.put, List.setIfInBounds_toArray, List.set_cons_zero, List.set_cons_succ]); try simp only [Act.put, List.getElem_toArray, List.getElem_cons_zero, List.getElem_cons_succ, List.setIfInBounds_toArray, List.set_cons_zero, List.set_cons_succ]
        refine wpAnyH_take (i := 6) (v := ?_) rfl (by kernel_rfl) (by kernel_rfl) (by kernel_rfl) (fun _ _ _ h => h) (Or.inl ⟨by rfl, ?_⟩) (by assumption) ?_; rotate_left 1; (focus (intro w hSw; (try dsimp only at hSw); go_simp; (try with_reducible rfl))); (try simp only [Act.put, List.setIfInBounds_toArray, List.set_cons_zero, List.set_cons_succ]); try simp only [Act.put, List.getElem_toArray, List.getElem_cons_zero, List.getElem_cons_succ, List.setIfInBounds_toArray, List.set_cons_zero, List.set_cons_succ]
        refine wpAnyH_take (i := 7) (v := ?_) rfl (by kernel_rfl) (by kernel_rfl) (by kernel_rfl) (fun _ _ _ h => h) (Or.inl ⟨by rfl, ?_⟩) (by assumption) ?_; rotate_left 1; (focus (intro w hSw; (try dsimp only at hSw); go_simp; (try with_reducible rfl))); (try simp only [Act.put, List.setIfInBounds_toArray, List.set_cons_zero, List.set_cons_succ]); try simp only [Act.put, List.getElem_toArray, List.getElem_cons_zero, List.getElem_cons_succ, List.setIfInBounds_toArray, List.set_cons_zero, List.set_cons_succ]
        refine wpAnyH_take (i := 8) (v := ?_) rfl (by kernel_rfl) (by kernel_rfl) (by kernel_rfl) (fun _ _ _ h => h) (Or.inl ⟨by rfl, ?_⟩) (by assumption) ?_; rotate_left 1; (focus (intro w hSw; (try dsimp only at hSw); go_simp; (try with_reducible rfl))); (try simp only [Act.put, List.setIfInBounds_toArray, List.set_cons_zero, List.set_cons_succ]); try simp only [Act.put, List.getElem_toArray, List.getElem_cons_zero, List.getElem_cons_succ, List.setIfInBounds_toArray, List.set_cons_zero, List.set_cons_succ]
        refine wpAnyH_take (i := 9) (v := ?_) rfl (by kernel_rfl) (by kernel_rfl) (by kernel_rfl) (fun _ _ _ h => h) (Or.inl ⟨by rfl, ?_⟩) (by assumption) ?_; rotate_left 1; (focus (intro w hSw; (try dsimp only at hSw); go_simp; (try with_reducible rfl))); (try simp only [Act.put, List.setIfInBounds_toArray, List.set_cons_zero, List.set_cons_succ]); try simp only [Act.put, List.getElem_toArray, List.getElem_cons_zero, List.getElem_cons_succ, List.setIfInBounds_toArray, List.set_cons_zero, List.set_cons_succ]
        refine wpAnyH_ready (rs := [4, 10]) (by kernel_rfl) (by simp) ?_
        refine AllReadyH.cons rfl (fun K hK => ?_) (AllReadyH.cons rfl (fun K hK => ?_) AllReadyH.nil)
        · skip
          have x3 := (HC.out _ B0.out).cell 3 _ rfl; have xl := (HC.out _ B0.out).lt; have x3b := X1.out.cell 3 _ rfl; have xlb := X1.out.lt
          go_simp
          refine hK.out _ _ (SS.out _ B0.out) (fun hHeld => ?_); clear hK K
          clear x3 xl x3b xlb
          refine wpAnyH_ready (rs := [5, 10]) (by kernel_rfl) (by simp) ?_
          refine AllReadyH.cons rfl (fun K hK => ?_) (AllReadyH.cons rfl (fun K hK => ?_) AllReadyH.nil)
          · skip
            go_simp
            refine hK.out _ _ (SS.out _ B0.out) (fun hHeld => ?_); clear hK K
            refine wpAnyH_ready (rs := [10]) (by kernel_rfl) (by simp) ?_
            refine AllReadyH.cons rfl (fun K hK => ?_) AllReadyH.nil
            have B2 := Lib.hid (B0.out.alloc B0.out.size (.cells #[.bool k.got] 4))
            go_simp
            refine hK.out _ _ (SS.out _ B2.out) (fun hHeld => ?_); clear hK K
            skip
            refine wpAnyH_ready (rs := [11]) (by kernel_rfl) (by simp) ?_
            refine AllReadyH.cons rfl (fun K hK => ?_) AllReadyH.nil
            refine step_append_lies _ (by rfl) _ _ _ (by rfl) w1.heap.size 4 j0 _ 1 1 Try.underlying53 hj0 hy0 hy1 hy2 rfl (by omega) (.slice none 0 0) 0 [] (by first | rfl | (simp [Act.eval]; done)) (World.ownsRow_nil _ _ _ _) ⟨_, 0, none⟩ 1 1 [.bool k.got] (by rfl) (by rfl) (World.news_of_block (cs := #[.bool k.got]) (t := 4) (fr := (0, 0)) (heap_alloc_new _ _)) (by simp [Value.oneCell']) (by omega) (by unfold maxLen; omega) (by omega) (B2.out).size _ rfl ?_
            intro g2 cap2 w10 hown hgrow hat hlt9
            have BZ := Lib.hid ((B2.out).grown hgrow (B2.out).size (fun b hb => by simp [Value.ownBlock] at hb))
            obtain ⟨bx, fin⟩ := RN.out _ g2 cap2 BZ.out hown
            have FN := Lib.hid fin
            clear hown hgrow hat hlt9 fin
            refine hK.out _ _ (SS.out _ BZ.out) (fun hHeld => ?_); clear hK K
            refine wpAnyH_take (i := 12) (v := ?_) rfl (by kernel_rfl) (by kernel_rfl) (by kernel_rfl) (fun _ _ _ h => h) (Or.inl ⟨by rfl, ?_⟩) (by assumption) ?_; rotate_left 1; (focus (intro w hSw; (try dsimp only at hSw); go_simp; (try with_reducible rfl))); (try simp only [Act.put, List.setIfInBounds_toArray, List.set_cons_zero, List.set_cons_succ]); try simp only [Act.put, List.getElem_toArray, List.getElem_cons_zero, List.getElem_cons_succ, List.setIfInBounds_toArray, List.set_cons_zero, List.set_cons_succ]
            refine wpAnyH_take (i := 13) (v := ?_) rfl (by kernel_rfl) (by kernel_rfl) (by kernel_rfl) (fun _ _ _ h => h) (Or.inl ⟨by rfl, ?_⟩) (by assumption) ?_; rotate_left 1; (focus (intro w hSw; (try dsimp only at hSw); go_simp; (try with_reducible rfl))); (try simp only [Act.put, List.setIfInBounds_toArray, List.set_cons_zero, List.set_cons_succ]); try simp only [Act.put, List.getElem_toArray, List.getElem_cons_zero, List.getElem_cons_succ, List.setIfInBounds_toArray, List.set_cons_zero, List.set_cons_succ]
            have x3 := bx.cell 3 _ rfl; have f3 := bx.free 3 _ rfl; have xl := bx.lt
            refine wpAnyH_ready (rs := [14]) (by kernel_rfl) (by simp) ?_
            refine AllReadyH.cons rfl (fun K hK => ?_) AllReadyH.nil
            go_simp
            refine hK.out _ _ ⟨FN.out.box.cell 6 _ rfl, FN.out.box.lt⟩ (fun hHeld => ?_); clear hK K
            refine wpAnyH_done (by kernel_rfl) ?_ _
            go_wp2_with fail
            go_meet
            exact ⟨g2, cap2, FN.out⟩
          · skip
            have B2 := Lib.hid (B0.out.alloc B0.out.size (.cells #[.bool k.got] 4))
            go_simp
            refine hK.out _ _ (SS.out _ B2.out) (fun hHeld => ?_); clear hK K
            skip
            refine wpAnyH_ready (rs := [5]) (by kernel_rfl) (by simp) ?_
            refine AllReadyH.cons rfl (fun K hK => ?_) AllReadyH.nil
            have NB : Hid (∀ j u, [Value.bool k.got][j]? = some u → (w1.drew.alloc (.cells #[.bool k.got] 4)).cell? ((⟨w1.drew.heap.size, 0, none⟩ : Addr).add j) = some u) := World.news_of_block (cs := #[.bool k.got]) (t := 4) (fr := (0, 0)) (heap_alloc_new _ _)
            go_simp
            refine hK.out _ _ (SS.out _ B2.out) (fun hHeld => ?_); clear hK K
            refine wpAnyH_ready (rs := [11]) (by kernel_rfl) (by simp) ?_
            refine AllReadyH.cons rfl (fun K hK => ?_) AllReadyH.nil
            refine step_append_lies _ (by rfl) _ _ _ (by rfl) w1.heap.size 4 j0 _ 1 1 Try.underlying53 hj0 hy0 hy1 hy2 rfl (by omega) (.slice none 0 0) 0 [] (by first | rfl | (simp [Act.eval]; done)) (World.ownsRow_nil _ _ _ _) ⟨_, 0, none⟩ 1 1 [.bool k.got] (by rfl) (by rfl) (World.news_of_block (cs := #[.bool k.got]) (t := 4) (fr := (0, 0)) (heap_alloc_new _ _)) (by simp [Value.oneCell']) (by omega) (by unfold maxLen; omega) (by omega) (B2.out).size _ rfl ?_
            intro g2 cap2 w10 hown hgrow hat hlt9
            have BZ := Lib.hid ((B2.out).grown hgrow (B2.out).size (fun b hb => by simp [Value.ownBlock] at hb))
            obtain ⟨bx, fin⟩ := RN.out _ g2 cap2 BZ.out hown
            have FN := Lib.hid fin
            clear hown hgrow hat hlt9 fin
            refine hK.out _ _ (SS.out _ BZ.out) (fun hHeld => ?_); clear hK K
            refine wpAnyH_take (i := 12) (v := ?_) rfl (by kernel_rfl) (by kernel_rfl) (by kernel_rfl) (fun _ _ _ h => h) (Or.inl ⟨by rfl, ?_⟩) (by assumption) ?_; rotate_left 1; (focus (intro w hSw; (try dsimp only at hSw); go_simp; (try with_reducible rfl))); (try simp only [Act.put, List.setIfInBounds_toArray, List.set_cons_zero, List.set_cons_succ]); try simp only [Act.put, List.getElem_toArray, List.getElem_cons_zero, List.getElem_cons_succ, List.setIfInBounds_toArray, List.set_cons_zero, List.set_cons_succ]
            refine wpAnyH_take (i := 13) (v := ?_) rfl (by kernel_rfl) (by kernel_rfl) (by kernel_rfl) (fun _ _ _ h => h) (Or.inl ⟨by rfl, ?_⟩) (by assumption) ?_; rotate_left 1; (focus (intro w hSw; (try dsimp only at hSw); go_simp; (try with_reducible rfl))); (try simp only [Act.put, List.setIfInBounds_toArray, List.set_cons_zero, List.set_cons_succ]); try simp only [Act.put, List.getElem_toArray, List.getElem_cons_zero, List.getElem_cons_succ, List.setIfInBounds_toArray, List.set_cons_zero, List.set_cons_succ]
            have x3 := bx.cell 3 _ rfl; have f3 := bx.free 3 _ rfl; have xl := bx.lt
            refine wpAnyH_ready (rs := [14]) (by kernel_rfl) (by simp) ?_
            refine AllReadyH.cons rfl (fun K hK => ?_) AllReadyH.nil
            go_simp
            refine hK.out _ _ ⟨FN.out.box.cell 6 _ rfl, FN.out.box.lt⟩ (fun hHeld => ?_); clear hK K
            refine wpAnyH_done (by kernel_rfl) ?_ _
            go_wp2_with fail
            go_meet
            exact ⟨g2, cap2, FN.out⟩
        · skip
          have B2 := Lib.hid (B0.out.alloc B0.out.size (.cells #[.bool k.got] 4))
          go_simp
          refine hK.out _ _ (SS.out _ B2.out) (fun hHeld => ?_); clear hK K
          skip
          refine wpAnyH_ready (rs := [4]) (by kernel_rfl) (by simp) ?_
          refine AllReadyH.cons rfl (fun K hK => ?_) AllReadyH.nil
          have x3 := (HC.out _ B0.out).cell 3 _ rfl; have xl := (HC.out _ B0.out).lt; have x3b := X1.out.cell 3 _ rfl; have xlb := X1.out.lt
          go_simp
          refine hK.out _ _ (SS.out _ B2.out) (fun hHeld => ?_); clear hK K
          clear x3 xl x3b xlb
          refine wpAnyH_ready (rs := [5]) (by kernel_rfl) (by simp) ?_
          refine AllReadyH.cons rfl (fun K hK => ?_) AllReadyH.nil
          have NB : Hid (∀ j u, [Value.bool k.got][j]? = some u → (w1.drew.alloc (.cells #[.bool k.got] 4)).cell? ((⟨w1.drew.heap.size, 0, none⟩ : Addr).add j) = some u) := World.news_of_block (cs := #[.bool k.got]) (t := 4) (fr := (0, 0)) (heap_alloc_new _ _)
          go_simp
          refine hK.out _ _ (SS.out _ B2.out) (fun hHeld => ?_); clear hK K
          refine wpAnyH_ready (rs := [11]) (by kernel_rfl) (by simp) ?_
          refine AllReadyH.cons rfl (fun K hK => ?_) AllReadyH.nil
          refine step_append_lies _ (by rfl) _ _ _ (by rfl) w1.heap.size 4 j0 _ 1 1 Try.underlying53 hj0 hy0 hy1 hy2 rfl (by omega) (.slice none 0 0) 0 [] (by first | rfl | (simp [Act.eval]; done)) (World.ownsRow_nil _ _ _ _) ⟨_, 0, none⟩ 1 1 [.bool k.got] (by rfl) (by rfl) (World.news_of_block (cs := #[.bool k.got]) (t := 4) (fr := (0, 0)) (heap_alloc_new _ _)) (by simp [Value.oneCell']) (by omega) (by unfold maxLen; omega) (by omega) (B2.out).size _ rfl ?_
          intro g2 cap2 w10 hown hgrow hat hlt9
          have BZ := Lib.hid ((B2.out).grown hgrow (B2.out).size (fun b hb => by simp [Value.ownBlock] at hb))
          obtain ⟨bx, fin⟩ := RN.out _ g2 cap2 BZ.out hown
          have FN := Lib.hid fin
          clear hown hgrow hat hlt9 fin
          refine hK.out _ _ (SS.out _ BZ.out) (fun hHeld => ?_); clear hK K
          refine wpAnyH_take (i := 12) (v := ?_) rfl (by kernel_rfl) (by kernel_rfl) (by kernel_rfl) (fun _ _ _ h => h) (Or.inl ⟨by rfl, ?_⟩) (by assumption) ?_; rotate_left 1; (focus (intro w hSw; (try dsimp only at hSw); go_simp; (try with_reducible rfl))); (try simp only [Act.put, List.setIfInBounds_toArray, List.set_cons_zero, List.set_cons_succ]); try simp only [Act.put, List.getElem_toArray, List.getElem_cons_zero, List.getElem_cons_succ, List.setIfInBounds_toArray, List.set_cons_zero, List.set_cons_succ]
          refine wpAnyH_take (i := 13) (v := ?_) rfl (by kernel_rfl) (by kernel_rfl) (by kernel_rfl) (fun _ _ _ h => h) (Or.inl ⟨by rfl, ?_⟩) (by assumption) ?_; rotate_left 1; (focus (intro w hSw; (try dsimp only at hSw); go_simp; (try with_reducible rfl))); (try simp only [Act.put, List.setIfInBounds_toArray, List.set_cons_zero, List.set_cons_succ]); try simp only [Act.put, List.getElem_toArray, List.getElem_cons_zero, List.getElem_cons_succ, List.setIfInBounds_toArray, List.set_cons_zero, List.set_cons_succ]
          have x3 := bx.cell 3 _ rfl; have f3 := bx.free 3 _ rfl; have xl := bx.lt
          refine wpAnyH_ready (rs := [14]) (by kernel_rfl) (by simp) ?_
          refine AllReadyH.cons rfl (fun K hK => ?_) AllReadyH.nil
          go_simp
          refine hK.out _ _ ⟨FN.out.box.cell 6 _ rfl, FN.out.box.lt⟩ (fun hHeld => ?_); clear hK K
          refine wpAnyH_done (by kernel_rfl) ?_ _
          go_wp2_with fail
          go_meet
          exact ⟨g2, cap2, FN.out⟩
      | some ad =>
        have hsp := (P1.out.lt ad rfl).1
        have hab := Lib.hid (P1.out.lt ad rfl).2
        have hpp : 0 < pn ∨ pn = 0 := by omega
        have HN := Lib.hid (fun w' b => (HP.out w' b).cells (ad := ad) rfl)
        have hbl : Hid ((bL k.past.reverse).length = pn * 1) := by show _ = _; rw [bL_len, List.length_reverse, ← hpn.out, Nat.mul_one]
        have hbo := Lib.hid (bL_ones k.past.reverse)
        have RN : Hid (∀ w' g2 cap2, Below w1.heap.size w1 w' → w'.ownsRow w1.heap.size 4 1 (.slice (some ⟨g2, 0, none⟩) (pn + 1) cap2) (pn + 1) (bL k.past.reverse ++ [.bool k.got]) → Cs g (qC { k with on := false } v ⟨some ad, pn, pc⟩ sq k.got) w' ∧ RE4 g v sq k w g2 cap2 (w'.setCell ⟨g, 3, none⟩ (.slice (some ⟨g2, 0, none⟩) (pn + 1) cap2))) := fun w' g2 cap2 b ho => by
          have e := hpn.out
          have := RF.out w' g2 cap2 b (by rw [← e]; exact ho)
          rw [← e] at this; exact this
        have hp1 := P1.out.pos ad rfl
        simp only at hp1
        clear RF HP P1
        generalize bL k.past.reverse = BL at *
        refine wp_region_held_drew (S := fun w' => w'.cell? ⟨g, 6, none⟩ = some (.bool k.got) ∧ g < w'.heap.size) (by kernel_rfl) (SS.out _ B0.out) (fun hHeld => ?_)
        refine wpAnyH_take (i := 0) (v := ?_) rfl (by kernel_rfl) (by kernel_rfl) (by kernel_rfl) (fun _ _ _ h => h) (Or.inl ⟨by rfl, ?_⟩) (by assumption) ?_; rotate_left 1; (focus (intro w hSw; (try dsimp only at hSw); go_simp; (try with_reducible rfl))); (try simp only [Act.put, List.setIfInBounds_toArray, List.set_cons_zero, List.set_cons_succ]); try simp only [Act.put, List.getElem_toArray, List.getElem_cons_zero, List.getElem_cons_succ, List.setIfInBounds_toArray, List.set_cons_zero, List.set_cons_succ]
        refine wpAnyH_take (i := 1) (v := ?_) rfl (by kernel_rfl) (by kernel_rfl) (by kernel_rfl) (fun _ _ _ h => h) (Or.inl ⟨by rfl, ?_⟩) (by assumption) ?_; rotate_left 1; (focus (intro w hSw; (try dsimp only at hSw); go_simp; (try with_reducible rfl))); (try simp only [Act.put, List.setIfInBounds_toArray, List.set_cons_zero, List.set_cons_succ]); try simp only [Act.put, List.getElem_toArray, List.getElem_cons_zero, List.getElem_cons_succ, List.setIfInBounds_toArray, List.set_cons_zero, List.set_cons_succ]
        refine wpAnyH_take (i := 2) (v := ?_) rfl (by kernel_rfl) (by kernel_rfl) (by kernel_rfl) (fun _ _ _ h => h) (Or.inl ⟨by rfl, ?_⟩) (by assumption) ?_; rotate_left 1; (focus (intro w hSw; (try dsimp only at hSw); go_simp; (try with_reducible rfl))); (try simp only [Act.put, List.setIfInBounds_toArray, List.set_cons_zero, List.set_cons_succ]); try simp only [Act.put, List.getElem_toArray, List.getElem_cons_zero, List.getElem_cons_succ, List.setIfInBounds_toArray, List.set_cons_zero, List.set_cons_succ]
        refine wpAnyH_take (i := 3) (v := ?_) rfl (by kernel_rfl) (by kernel_rfl) (by kernel_rfl) (fun _ _ _ h => h) (Or.inl ⟨by rfl, ?_⟩) (by assumption) ?_; rotate_left 1; (focus (intro w hSw; (try dsimp only at hSw); go_simp; (try with_reducible rfl))); (try simp only [Act.put, List.setIfInBounds_toArray, List.set_cons_zero, List.set_cons_succ]); try simp only [Act.put, List.getElem_toArray, List.getElem_cons_zero, List.getElem_cons_succ, List.setIfInBounds_toArray, List.set_cons_zero, List.set_cons_succ]
        refine wpAnyH_take (i := 6) (v := ?_) rfl (by kernel_rfl) (by kernel_rfl) (by kernel_rfl) (fun _ _ _ h => h) (Or.inl ⟨by rfl, ?_⟩) (by assumption) ?_; rotate_left 1; (focus (intro w hSw; (try dsimp only at hSw); go_simp; (try with_reducible rfl))); (try simp only [Act.put, List.setIfInBounds_toArray, List.set_cons_zero, List.set_cons_succ]); try simp only [Act.put, List.getElem_toArray, List.getElem_cons_zero, List.getElem_cons_succ, List.setIfInBounds_toArray, List.set_cons_zero, List.set_cons_succ]
        refine wpAnyH_take (i := 7) (v := ?_) rfl (by kernel_rfl) (by kernel_rfl) (by kernel_rfl) (fun _ _ _ h => h) (Or.inl ⟨by rfl, ?_⟩) (by assumption) ?_; rotate_left 1; (focus (intro w hSw; (try dsimp only at hSw); go_simp; (try with_reducible rfl))); (try simp only [Act.put, List.setIfInBounds_toArray, List.set_cons_zero, List.set_cons_succ]); try simp only [Act.put, List.getElem_toArray, List.getElem_cons_zero, List.getElem_cons_succ, List.setIfInBounds_toArray, List.set_cons_zero, List.set_cons_succ]
        refine wpAnyH_take (i := 8) (v := ?_) rfl (by kernel_rfl) (by kernel_rfl) (by kernel_rfl) (fun _ _ _ h => h) (Or.inl ⟨by rfl, ?_⟩) (by assumption) ?_; rotate_left 1; (focus (intro w hSw; (try dsimp only at hSw); go_simp; (try with_reducible rfl))); (try simp only [Act.put, List.setIfInBounds_toArray, List.set_cons_zero, List.set_cons_succ]); try simp only [Act.put, List.getElem_toArray, List.getElem_cons_zero, List.getElem_cons_succ, List.setIfInBounds_toArray, List.set_cons_zero, List.set_cons_succ]
        refine wpAnyH_take (i := 9) (v := ?_) rfl (by kernel_rfl) (by kernel_rfl) (by kernel_rfl) (fun _ _ _ h => h) (Or.inl ⟨by rfl, ?_⟩) (by assumption) ?_; rotate_left 1; (focus (intro w hSw; (try dsimp only at hSw); go_simp; (try with_reducible rfl))); (try simp only [Act.put, List.setIfInBounds_toArray, List.set_cons_zero, List.set_cons_succ]); try simp only [Act.put, List.getElem_toArray, List.getElem_cons_zero, List.getElem_cons_succ, List.setIfInBounds_toArray, List.set_cons_zero, List.set_cons_succ]
        refine wpAnyH_ready (rs := [4, 10]) (by kernel_rfl) (by simp) ?_
        refine AllReadyH.cons rfl (fun K hK => ?_) (AllReadyH.cons rfl (fun K hK => ?_) AllReadyH.nil)
        · skip
          have x3 := (HC.out _ B0.out).cell 3 _ rfl; have xl := (HC.out _ B0.out).lt; have x3b := X1.out.cell 3 _ rfl; have xlb := X1.out.lt
          go_simp
          refine hK.out _ _ (SS.out _ B0.out) (fun hHeld => ?_); clear hK K
          clear x3 xl x3b xlb
          refine wpAnyH_ready (rs := [5, 10]) (by kernel_rfl) (by simp) ?_
          refine AllReadyH.cons rfl (fun K hK => ?_) (AllReadyH.cons rfl (fun K hK => ?_) AllReadyH.nil)
          · skip
            refine step_append_lies _ (by rfl) _ _ _ (by rfl) w1.heap.size 4 j0 _ 1 1 Try.underlying53 hj0 hy0 hy1 hy2 rfl (by omega) (.slice none 0 0) 0 [] (by rfl) (World.ownsRow_nil _ _ _ _) ad pn pc BL (by rfl) hbl.out (HN.out _ B0.out) hbo.out (by omega) (by unfold maxLen; omega) (by omega) (B0.out).size _ rfl ?_
            intro g1 cap1 w9 hown hgrow hat hlt9
            have B1 := Lib.hid ((B0.out).grown hgrow (B0.out).size (fun b hb => by simp [Value.ownBlock] at hb))
            have O9 := Lib.hid hown; have N9 := Lib.hid (fun (ad' : Addr) u (h1 : World.cell? _ ad' = some u) => (hgrow.cell_far ad' (World.block_lt_of_cell? _ _ h1) (by simp [Value.ownBlock])).trans h1)
            clear hown hgrow hat hlt9
            refine hK.out _ _ (SS.out _ B1.out) (fun hHeld => ?_); clear hK K
            refine wpAnyH_ready (rs := [10]) (by kernel_rfl) (by simp) ?_
            refine AllReadyH.cons rfl (fun K hK => ?_) AllReadyH.nil
            have B2 := Lib.hid (B1.out.alloc B1.out.size (.cells #[.bool k.got] 4))
            go_simp
            refine hK.out _ _ (SS.out _ B2.out) (fun hHeld => ?_); clear hK K
            skip
            refine wpAnyH_ready (rs := [11]) (by kernel_rfl) (by simp) ?_
            refine AllReadyH.cons rfl (fun K hK => ?_) AllReadyH.nil
            refine step_append_lies _ (by rfl) _ _ _ (by rfl) w1.heap.size 4 j0 _ 1 1 Try.underlying53 hj0 hy0 hy1 hy2 rfl (by omega) (.slice (some ⟨g1, 0, none⟩) (0 + pn) cap1) (0 + pn) ([] ++ BL) (by first | rfl | (simp [Act.eval]; done)) (own_touch (F := fun _ => False) O9.out ((Touch.refl _ _).alloc _) (fun _ _ h => h)) ⟨_, 0, none⟩ 1 1 [.bool k.got] (by rfl) (by rfl) (World.news_of_block (cs := #[.bool k.got]) (t := 4) (fr := (0, 0)) (heap_alloc_new _ _)) (by simp [Value.oneCell']) (by omega) (by unfold maxLen; omega) (by omega) (B2.out).size _ rfl ?_
            intro g2 cap2 w10 hown hgrow hat hlt9
            have BZ := Lib.hid ((B2.out).grown hgrow (B2.out).size (fun b hb => (World.ownsRow.lt O9.out b hb).1))
            simp only [Nat.zero_add, List.nil_append] at hown
            obtain ⟨bx, fin⟩ := RN.out _ g2 cap2 BZ.out hown
            have FN := Lib.hid fin
            clear hown hgrow hat hlt9 fin
            refine hK.out _ _ (SS.out _ BZ.out) (fun hHeld => ?_); clear hK K
            refine wpAnyH_take (i := 12) (v := ?_) rfl (by kernel_rfl) (by kernel_rfl) (by kernel_rfl) (fun _ _ _ h => h) (Or.inl ⟨by rfl, ?_⟩) (by assumption) ?_; rotate_left 1; (focus (intro w hSw; (try dsimp only at hSw); go_simp; (try with_reducible rfl))); (try simp only [Act.put, List.setIfInBounds_toArray, List.set_cons_zero, List.set_cons_succ]); try simp only [Act.put, List.getElem_toArray, List.getElem_cons_zero, List.getElem_cons_succ, List.setIfInBounds_toArray, List.set_cons_zero, List.set_cons_succ]
            refine wpAnyH_take (i := 13) (v := ?_) rfl (by kernel_rfl) (by kernel_rfl) (by kernel_rfl) (fun _ _ _ h => h) (Or.inl ⟨by rfl, ?_⟩) (by assumption) ?_; rotate_left 1; (focus (intro w hSw; (try dsimp only at hSw); go_simp; (try with_reducible rfl))); (try simp only [Act.put, List.setIfInBounds_toArray, List.set_cons_zero, List.set_cons_succ]); try simp only [Act.put, List.getElem_toArray, List.getElem_cons_zero, List.getElem_cons_succ, List.setIfInBounds_toArray, List.set_cons_zero, List.set_cons_succ]
            have x3 := bx.cell 3 _ rfl; have f3 := bx.free 3 _ rfl; have xl := bx.lt
            refine wpAnyH_ready (rs := [14]) (by kernel_rfl) (by simp) ?_
            refine AllReadyH.cons rfl (fun K hK => ?_) AllReadyH.nil
            go_simp
            refine hK.out _ _ ⟨FN.out.box.cell 6 _ rfl, FN.out.box.lt⟩ (fun hHeld => ?_); clear hK K
            refine wpAnyH_done (by kernel_rfl) ?_ _
            go_wp2_with fail
            go_meet
            exact ⟨g2, cap2, FN.out⟩
          · skip
            have B2 := Lib.hid (B0.out.alloc B0.out.size (.cells #[.bool k.got] 4))
            go_simp
            refine hK.out _ _ (SS.out _ B2.out) (fun hHeld => ?_); clear hK K
            skip
            refine wpAnyH_ready (rs := [5]) (by kernel_rfl) (by simp) ?_
            refine AllReadyH.cons rfl (fun K hK => ?_) AllReadyH.nil
            have NB : Hid (∀ j u, [Value.bool k.got][j]? = some u → (w1.drew.alloc (.cells #[.bool k.got] 4)).cell? ((⟨w1.drew.heap.size, 0, none⟩ : Addr).add j) = some u) := World.news_of_block (cs := #[.bool k.got]) (t := 4) (fr := (0, 0)) (heap_alloc_new _ _)
            refine step_append_lies _ (by rfl) _ _ _ (by rfl) w1.heap.size 4 j0 _ 1 1 Try.underlying53 hj0 hy0 hy1 hy2 rfl (by omega) (.slice none 0 0) 0 [] (by rfl) (World.ownsRow_nil _ _ _ _) ad pn pc BL (by rfl) hbl.out (HN.out _ B2.out) hbo.out (by omega) (by unfold maxLen; omega) (by omega) (B2.out).size _ rfl ?_
            intro g1 cap1 w9 hown hgrow hat hlt9
            have B1 := Lib.hid ((B2.out).grown hgrow (B2.out).size (fun b hb => by simp [Value.ownBlock] at hb))
            have O9 := Lib.hid hown; have N9 := Lib.hid (fun (ad' : Addr) u (h1 : World.cell? _ ad' = some u) => (hgrow.cell_far ad' (World.block_lt_of_cell? _ _ h1) (by simp [Value.ownBlock])).trans h1)
            clear hown hgrow hat hlt9
            refine hK.out _ _ (SS.out _ B1.out) (fun hHeld => ?_); clear hK K
            refine wpAnyH_ready (rs := [11]) (by kernel_rfl) (by simp) ?_
            refine AllReadyH.cons rfl (fun K hK => ?_) AllReadyH.nil
            refine step_append_lies _ (by rfl) _ _ _ (by rfl) w1.heap.size 4 j0 _ 1 1 Try.underlying53 hj0 hy0 hy1 hy2 rfl (by omega) (.slice (some ⟨g1, 0, none⟩) (0 + pn) cap1) (0 + pn) ([] ++ BL) (by first | rfl | (simp [Act.eval]; done)) (O9.out) ⟨_, 0, none⟩ 1 1 [.bool k.got] (by rfl) (by rfl) (fun j u hu => by
                have h1 := NB.out j u hu
                rw [add_at] at h1 ⊢
                exact (N9.out _ _ h1)) (by simp [Value.oneCell']) (by omega) (by unfold maxLen; omega) (by omega) (B1.out).size _ rfl ?_
            intro g2 cap2 w10 hown hgrow hat hlt9
            have BZ := Lib.hid ((B1.out).grown hgrow (B1.out).size (fun b hb => (World.ownsRow.lt O9.out b hb).1))
            simp only [Nat.zero_add, List.nil_append] at hown
            obtain ⟨bx, fin⟩ := RN.out _ g2 cap2 BZ.out hown
            have FN := Lib.hid fin
            clear hown hgrow hat hlt9 fin
            refine hK.out _ _ (SS.out _ BZ.out) (fun hHeld => ?_); clear hK K
            refine wpAnyH_take (i := 12) (v := ?_) rfl (by kernel_rfl) (by kernel_rfl) (by kernel_rfl) (fun _ _ _ h => h) (Or.inl ⟨by rfl, ?_⟩) (by assumption) ?_; rotate_left 1; (focus (intro w hSw; (try dsimp only at hSw); go_simp; (try with_reducible rfl))); (try simp only [Act.put, List.setIfInBounds_toArray, List.set_cons_zero, List.set_cons_succ]); try simp only [Act.put, List.getElem_toArray, List.getElem_cons_zero, List.getElem_cons_succ, List.setIfInBounds_toArray, List.set_cons_zero, List.set_cons_succ]
            refine wpAnyH_take (i := 13) (v := ?_) rfl (by kernel_rfl) (by kernel_rfl) (by kernel_rfl) (fun _ _ _ h => h) (Or.inl ⟨by rfl, ?_⟩) (by assumption) ?_; rotate_left 1; (focus (intro w hSw; (try dsimp only at hSw); go_simp; (try with_reducible rfl))); (try simp only [Act.put, List.setIfInBounds_toArray, List.set_cons_zero, List.set_cons_succ]); try simp only [Act.put, List.getElem_toArray, List.getElem_cons_zero, List.getElem_cons_succ, List.setIfInBounds_toArray, List.set_cons_zero, List.set_cons_succ]
            have x3 := bx.cell 3 _ rfl; have f3 := bx.free 3 _ rfl; have xl := bx.lt
            refine wpAnyH_ready (rs := [14]) (by kernel_rfl) (by simp) ?_
            refine AllReadyH.cons rfl (fun K hK => ?_) AllReadyH.nil
            go_simp
            refine hK.out _ _ ⟨FN.out.box.cell 6 _ rfl, FN.out.box.lt⟩ (fun hHeld => ?_); clear hK K
            refine wpAnyH_done (by kernel_rfl) ?_ _
            go_wp2_with fail
            go_meet
            exact ⟨g2, cap2, FN.out⟩
        · skip
          have B2 := Lib.hid (B0.out.alloc B0.out.size (.cells #[.bool k.got] 4))
          go_simp
          refine hK.out _ _ (SS.out _ B2.out) (fun hHeld => ?_); clear hK K
          skip
          refine wpAnyH_ready (rs := [4]) (by kernel_rfl) (by simp) ?_
          refine AllReadyH.cons rfl (fun K hK => ?_) AllReadyH.nil
          have x3 := (HC.out _ B0.out).cell 3 _ rfl; have xl := (HC.out _ B0.out).lt; have x3b := X1.out.cell 3 _ rfl; have xlb := X1.out.lt
          go_simp
          refine hK.out _ _ (SS.out _ B2.out) (fun hHeld => ?_); clear hK K
          clear x3 xl x3b xlb
          refine wpAnyH_ready (rs := [5]) (by kernel_rfl) (by simp) ?_
          refine AllReadyH.cons rfl (fun K hK => ?_) AllReadyH.nil
          have NB : Hid (∀ j u, [Value.bool k.got][j]? = some u → (w1.drew.alloc (.cells #[.bool k.got] 4)).cell? ((⟨w1.drew.heap.size, 0, none⟩ : Addr).add j) = some u) := World.news_of_block (cs := #[.bool k.got]) (t := 4) (fr := (0, 0)) (heap_alloc_new _ _)
          refine step_append_lies _ (by rfl) _ _ _ (by rfl) w1.heap.size 4 j0 _ 1 1 Try.underlying53 hj0 hy0 hy1 hy2 rfl (by omega) (.slice none 0 0) 0 [] (by rfl) (World.ownsRow_nil _ _ _ _) ad pn pc BL (by rfl) hbl.out (HN.out _ B2.out) hbo.out (by omega) (by unfold maxLen; omega) (by omega) (B2.out).size _ rfl ?_
          intro g1 cap1 w9 hown hgrow hat hlt9
          have B1 := Lib.hid ((B2.out).grown hgrow (B2.out).size (fun b hb => by simp [Value.ownBlock] at hb))
          have O9 := Lib.hid hown; have N9 := Lib.hid (fun (ad' : Addr) u (h1 : World.cell? _ ad' = some u) => (hgrow.cell_far ad' (World.block_lt_of_cell? _ _ h1) (by simp [Value.ownBlock])).trans h1)
          clear hown hgrow hat hlt9
          refine hK.out _ _ (SS.out _ B1.out) (fun hHeld => ?_); clear hK K
          refine wpAnyH_ready (rs := [11]) (by kernel_rfl) (by simp) ?_
          refine AllReadyH.cons rfl (fun K hK => ?_) AllReadyH.nil
          refine step_append_lies _ (by rfl) _ _ _ (by rfl) w1.heap.size 4 j0 _ 1 1 Try.underlying53 hj0 hy0 hy1 hy2 rfl (by omega) (.slice (some ⟨g1, 0, none⟩) (0 + pn) cap1) (0 + pn) ([] ++ BL) (by first | rfl | (simp [Act.eval]; done)) (O9.out) ⟨_, 0, none⟩ 1 1 [.bool k.got] (by rfl) (by rfl) (fun j u hu => by
              have h1 := NB.out j u hu
              rw [add_at] at h1 ⊢
              exact (N9.out _ _ h1)) (by simp [Value.oneCell']) (by omega) (by unfold maxLen; omega) (by omega) (B1.out).size _ rfl ?_
          intro g2 cap2 w10 hown hgrow hat hlt9
          have BZ := Lib.hid ((B1.out).grown hgrow (B1.out).size (fun b hb => (World.ownsRow.lt O9.out b hb).1))
          simp only [Nat.zero_add, List.nil_append] at hown
          obtain ⟨bx, fin⟩ := RN.out _ g2 cap2 BZ.out hown
          have FN := Lib.hid fin
          clear hown hgrow hat hlt9 fin
          refine hK.out _ _ (SS.out _ BZ.out) (fun hHeld => ?_); clear hK K
          refine wpAnyH_take (i := 12) (v := ?_) rfl (by kernel_rfl) (by kernel_rfl) (by kernel_rfl) (fun _ _ _ h => h) (Or.inl ⟨by rfl, ?_⟩) (by assumption) ?_; rotate_left 1; (focus (intro w hSw; (try dsimp only at hSw); go_simp; (try with_reducible rfl))); (try simp only [Act.put, List.setIfInBounds_toArray, List.set_cons_zero, List.set_cons_succ]); try simp only [Act.put, List.getElem_toArray, List.getElem_cons_zero, List.getElem_cons_succ, List.setIfInBounds_toArray, List.set_cons_zero, List.set_cons_succ]
          refine wpAnyH_take (i := 13) (v := ?_) rfl (by kernel_rfl) (by kernel_rfl) (by kernel_rfl) (fun _ _ _ h => h) (Or.inl ⟨by rfl, ?_⟩) (by assumption) ?_; rotate_left 1; (focus (intro w hSw; (try dsimp only at hSw); go_simp; (try with_reducible rfl))); (try simp only [Act.put, List.setIfInBounds_toArray, List.set_cons_zero, List.set_cons_succ]); try simp only [Act.put, List.getElem_toArray, List.getElem_cons_zero, List.getElem_cons_succ, List.setIfInBounds_toArray, List.set_cons_zero, List.set_cons_succ]
          have x3 := bx.cell 3 _ rfl; have f3 := bx.free 3 _ rfl; have xl := bx.lt
          refine wpAnyH_ready (rs := [14]) (by kernel_rfl) (by simp) ?_
          refine AllReadyH.cons rfl (fun K hK => ?_) AllReadyH.nil
          go_simp
          refine hK.out _ _ ⟨FN.out.box.cell 6 _ rfl, FN.out.box.lt⟩ (fun hHeld => ?_); clear hK K
          refine wpAnyH_done (by kernel_rfl) ?_ _
          go_wp2_with fail
          go_meet
          exact ⟨g2, cap2, FN.out⟩
    case rest =>
    obtain ⟨g2, cap2, hcut⟩ := hcut
    have R4 := Lib.hid hcut
    clear hcut T1 X1 P1 hy0 hy1 hy2 hj0
    generalize wc = w5 at *
    have HO := Lib.hid (end_ok HH.out.ok)
    have X5 := R4.out.box
    have hcap : k.past.length + 1 ≤ cap2 ∧ cap2 ≤ maxLen := by
      rcases R4.out.row.2 with ⟨h1, _⟩ | ⟨g', cap', cur, h1, _, _, h2, h3, _⟩
      · simp at h1
      · simp only [Value.slice.injEq] at h1
        obtain ⟨_, _, rfl⟩ := h1
        exact ⟨h2, h3⟩
    obtain ⟨n1, hn1⟩ : ∃ n1, n1 = k.past.length + 1 := ⟨_, rfl⟩
    obtain ⟨s, hs⟩ : ∃ s : Nat, s = n1 - k.rounds := ⟨_, rfl⟩
    have FIN : Hid (∀ w', w' = (w5.drew.setCell ⟨g, 3, none⟩ (.slice (some ⟨g2, s, none⟩) (n1 - s) (cap2 - s))) → QAft g v p (endD k) w w') := fun w' e => by
      subst e
      have hL : (endD k).past.reverse = (k.past.reverse ++ [k.got]).drop s := by
        rw [endD_yes ho]
        show ((k.got :: k.past).take k.rounds).reverse = _
        rw [List.reverse_take, List.reverse_cons, List.length_cons, hs, hn1]
      have h5 := R4.out.row
      have hp := prow_of_own h5 (by rw [List.length_append, List.length_reverse]; rfl) (lo := s) (by omega)
      rw [← hn1, ← hL] at hp
      have hrow := HH.out.row
      have hne : ∀ b, v.v.ownBlock = some b → b ≠ g := HH.out.vne
      have hk : (endD k).vote = k.vote ∧ (endD k).rounds = k.rounds ∧ (endD k).hold = k.hold ∧ (endD k).on = false ∧ (endD k).got = k.got := by rw [endD_yes ho]; exact ⟨rfl, rfl, rfl, rfl, rfl⟩
      have g2l : g2 < w5.heap.size := (World.ownsRow.lt h5 g2 rfl).2
      have hx := R4.out.box.drew.set 3 (.slice (some ⟨g2, s, none⟩) (n1 - s) (cap2 - s)) (by simp [qC])
      have ht : Touch (fun b => b = g) w (w5.drew.setCell ⟨g, 3, none⟩ (.slice (some ⟨g2, s, none⟩) (n1 - s) (cap2 - s))) := touch_c R4.out.touch.drew 3 _
      have gw := HH.out.box.lt
      have g2g : g2 ≠ g := by have := R4.out.new; omega
      refine ⟨v, ⟨some ⟨g2, s, none⟩, n1 - s, cap2 - s⟩, sq, k.got, ⟨?_, ?_, ?_, hne, ?_, ?_, HO.out⟩, ht, ?_⟩
      · have e1 : qC (endD k) v ⟨some ⟨g2, s, none⟩, n1 - s, cap2 - s⟩ sq k.got = (qC { k with on := false } v ⟨some ⟨g2, 0, none⟩, k.past.length + 1, cap2⟩ sq k.got).set 3 (.slice (some ⟨g2, s, none⟩) (n1 - s) (cap2 - s)) := by
          unfold qC
          rw [hk.2.1, hk.2.2.1, hk.2.2.2.1]; rfl
        rw [e1]; exact hx
      · rw [hk.1]
        exact erow_touch hrow ht (fun b hb e => hne b hb e)
      · exact hp.touch (F := fun b => b = g) (touch_c (Touch.refl (fun b => b = g) w5).drew 3 _) (fun a ha e => by
          injection ha with ha
          subst ha
          exact g2g e)
      · intro a ha e
        injection ha with ha
        subst ha
        exact g2g e
      · intro e; rw [hk.2.2.2.1] at e; simp at e
      · rintro b (rfl | hb | ⟨a, ha, rfl⟩)
        · exact .inl (.inl rfl)
        · exact .inl (.inr (.inl hb))
        · right
          injection ha with ha
          subst ha
          exact R4.out.new
    have Y5 := X5.drew
    rw [← hn1] at Y5
    have c0 := Y5.cell 0 _ rfl
    have c3 := Y5.cell 3 _ rfl
    have f3 := Y5.free 3 _ rfl
    have gl := Y5.lt
    rw [← hn1] at hcap
    clear X5 R4 HH HO Y5
    generalize k.rounds = r at *
    generalize k.past.length = pl at *
    obtain ⟨hc1, hc2⟩ := hcap
    have w63 : IntKind.i64.wrap ((n1 : Int) - r) = (n1 : Int) - r := IntWalk.i64_in _ ⟨by omega, by omega⟩
    have hmax : (if (n1 : Int) - r < 0 then (0 : Int) else (n1 : Int) - r) = (s : Nat) := by split <;> omega
    have hmax2 : (if (0 : Int) < (n1 : Int) - r then (n1 : Int) - r else (0 : Int)) = (s : Nat) := by split <;> omega
    have hmax3 : (if (n1 : Int) - r ≤ 0 then (0 : Int) else (n1 : Int) - r) = (s : Nat) := by split <;> omega
    have hs0 : (0 : Int) ≤ s := by omega
    have hsn : (s : Int) ≤ n1 := by omega
    have hsn2 : s ≤ n1 := by omega
    have hne : ¬ cap2 = s := by omega
    have hif : (if cap2 = s then some (⟨g2, 0, none⟩ : Addr) else some ⟨g2, s, none⟩) = some ⟨g2, s, none⟩ := by rw [if_neg hne]
    have hif2 : (if cap2 = s then some (⟨g2, 0, none⟩ : Addr) else some ⟨g2, s * 1, none⟩) = some ⟨g2, s, none⟩ := by rw [if_neg hne, Nat.mul_one]
    replace hs := Lib.hid hs
    replace hn1 := Lib.hid hn1
    clear ho hrs rl
    go_wp2_with fail
    go_region
    have FF := Lib.hid (FIN.out _ rfl)
    clear FIN c0 c3 f3 gl
    go_wp2
    refine bodyPost_ret (v := (.bool true)) (by simp [results, Try.results17, go_sem, *]) rfl ?_
    exact ⟨rfl, FF.out⟩
end Go.Proofs.Ytnkjepemliccpaa
