/- The reference's: Heard (as tools/gen_rheard18.py wrote it). -/
import Derived.Test.YtpeoallhbbleaaaPaRefCalls
import Derived.Lib.QuietBelow
import Derived.BigQuiet
namespace Go.Proofs.Ytpeoallhbbleaaa
open Go.Sort Go.RowKit Go.BigFrame
set_option linter.unusedVariables false
set_option linter.unusedSimpArgs false

def RHeardPost (g : Nat) (u : Sl) (k : Tk) (id : Int) (ip pt : Nat) (now : Int) (w : World) (e : Ending) (w' : World) : Prop := e = .returned (.bool (heardB k id ip pt now)) ∧ QAft g u (heardD k id ip pt now) w w'
theorem rbad_b (i now : Int) (w : World) : Calls Try.prog 29 #[.int .i64 i, .int .u64 now] w fun e w' => e = .returned (.bool (badC i now)) ∧ Below w.heap.size w w' :=
  (rbad_any i now w).mono fun e w' ⟨h1, h2⟩ => ⟨h1, by rw [← h2]; exact Below.refl _ _⟩
set_option maxHeartbeats 12800000 in
set_option maxRecDepth 100000 in
theorem rheard_any (id : Int) (ip pt : Nat) (now : Int) (hnn : 0 ≤ now) (g : Nat) (u : Sl) (k : Tk) (w : World) (h : Qs g u k w) :
    Calls Try.prog 18 #[.pointer (some ⟨g, 0, none⟩), .int .i64 id, .agg #[.int .u32 ip, .int .u16 pt], .int .u64 now] w (RHeardPost g u k id ip pt now w) := by
  have B0 : Hid (Below w.heap.size w (w.alloc (.cells #[.int .u32 ip, .int .u16 pt] 42))) := (Below.refl _ w).alloc (Nat.le_refl _) _
  have X := Lib.hid (Cs.new w [.int .u32 ip, .int .u16 pt] 42)
  have K := find_any id g u k _ (h.keep B0.out)
  have RO := heard_ok h.ok id ip pt now hnn
  have SAME := Lib.hid (fun w1 hb => h.same (w' := w1) hb)
  unfold RHeardPost
  unfold heardD at RO ⊢
  have HE : Hid (heardB k id ip pt now = (!badC id now && ((k.p id.toNat).st == 3 && (decide ((k.p id.toNat).ip = ip) && decide ((k.p id.toNat).pt = pt))))) := rfl
  have KB := fun w => rbad_b id now w
  cases hb : badC id now with
  | true =>
    have e1 : heardB k id ip pt now = false := by rw [HE.out, hb]; rfl
    rw [e1, if_neg (by decide)]
    rw [hb] at KB
    generalize atL id (allP k.p) = m at *
    generalize isP k id = q at *
    clear h hb e1 RO HE
    go_enter Try.func18, Try.ntmps18
    go_upto_region 1 with fail
    go_wp2_with fail
    refine K.mono ?_; rintro e w2 ⟨rfl, b2⟩
    have B2 : Hid (Below w.heap.size w w2) := B0.out.trans (b2.mono B0.out.size)
    have X2 := Lib.hid (X.out.keep b2)
    clear b2
    have C1 := fun d os => Calls.regrown_of (KB (grow (redrawn w2 d) os))
    clear KB
    clear K X
    go_upto_region 2 with fail
    (refine wp_region_quiet_below (by kernel_rfl) (by kernel_rfl) ?_; (repeat (go_big_quiet_step (first | with_reducible exact C1 _ _))); refine wpQuiet_nil ?_; intro _ hw'; obtain ⟨⟨dq, osq⟩, hw''⟩ := hw'; subst hw'')
    have BW : Hid (Below w.heap.size w (grow (redrawn w2 dq) osq)) := B2.out.trans ((below_regrown w2 dq osq).mono B2.out.size)
    generalize grow (redrawn w2 dq) osq = w3 at *
    go_wp2
    refine bodyPost_ret (v := (.bool false)) (by simp [results, Try.results18, go_sem, *]) rfl ?_
    exact ⟨rfl, SAME.out _ BW.out⟩
  | false =>
    rw [hb] at KB
    cases hc : isP k id with
    | false =>
      have e1 : heardB k id ip pt now = false := by
        rw [HE.out]
        have hbb := (badC_no hb).1
        unfold isP at hc
        rw [nodeI_iff.2 hbb, Bool.true_and] at hc
        have : (k.p id.toNat).st = 0 := by unfold isS at hc; simpa using hc
        rw [this]; simp
      rw [e1, if_neg (by decide)]
      rw [hc] at K
      generalize atL id (allP k.p) = m at *
      clear h hb e1 RO HE hc
      go_enter Try.func18, Try.ntmps18
      go_upto_region 1 with fail
      go_wp2_with fail
      refine K.mono ?_; rintro e w2 ⟨rfl, b2⟩
      have B2 : Hid (Below w.heap.size w w2) := B0.out.trans (b2.mono B0.out.size)
      have X2 := Lib.hid (X.out.keep b2)
      clear b2
      have C1 := fun d os => Calls.regrown_of (KB (grow (redrawn w2 d) os))
      clear KB
      clear K X
      go_upto_region 2 with fail
      (refine wp_region_quiet_below (by kernel_rfl) (by kernel_rfl) ?_; (repeat (go_big_quiet_step (first | with_reducible exact C1 _ _))); refine wpQuiet_nil ?_; intro _ hw'; obtain ⟨⟨dq, osq⟩, hw''⟩ := hw'; subst hw'')
      have BW : Hid (Below w.heap.size w (grow (redrawn w2 dq) osq)) := B2.out.trans ((below_regrown w2 dq osq).mono B2.out.size)
      generalize grow (redrawn w2 dq) osq = w3 at *
      go_wp2
      refine bodyPost_ret (v := (.bool false)) (by simp [results, Try.results18, go_sem, *]) rfl ?_
      exact ⟨rfl, SAME.out _ BW.out⟩
    | true =>
      obtain ⟨n, rfl, h1, h2, hs⟩ := isP_node hc
      rw [hc] at K
      rw [Int.toNat_natCast] at RO ⊢
      rw [Int.toNat_natCast, hb, Bool.not_false, Bool.true_and] at HE
      have hn : n < 33 := by omega
      have hx0 := get_all h.ok hn hs
      have hjl := (List.getElem?_eq_some_iff.1 hx0).1
      have hun := h.n
      have hl33 := all_len k.p
      obtain ⟨av, un, uc⟩ := u
      simp only at hun
      subst hun
      obtain ⟨gv, hgv, _⟩ := h.cells hx0
      simp only at hgv
      subst hgv
      have hLc : (allP k.p).length ≤ uc := by
        obtain ⟨-, C, hC, hcap, ht, hlc, hm⟩ := erow_open cp_enc h.row
        exact hlc
      obtain ⟨j, hj⟩ : ∃ j, atL n (allP k.p) = j := ⟨_, rfl⟩
      have LIM : Hid (∀ w1, Below w.heap.size w w1 → (w1.cell? ⟨g, 4, none⟩ = some (.slice (some ⟨gv, 0, none⟩) (allP k.p).length uc) ∧ w1.cell? ⟨g, 3, none⟩ = some (.int .u64 k.hold) ∧ g < w1.heap.size) ∧ gv < w1.heap.size ∧ (∀ o, w1.frozen? ⟨gv, o, none⟩ = false) ∧ ∀ t v, (cp (k.p n))[t]? = some v → w1.cell? ⟨gv, j * 7 + t, none⟩ = some v) := fun w1 b => by
        have h1 := h.keep b
        obtain ⟨g2, e, l, cc, fr⟩ := h1.cells hx0
        simp only [Option.some.injEq, Addr.mk.injEq, and_true] at e
        subst e
        rw [hj] at cc
        exact ⟨⟨h1.box.cell 4 _ rfl, h1.box.cell 3 _ rfl, h1.box.lt⟩, l, fr, cc⟩
      have hm0 : (0 : Int) ≤ j := by omega
      have hm1 : (j : Int) < (allP k.p).length := by omega
      have FIN : Hid (heardB k n ip pt now = true → ∀ w1, Below w.heap.size w w1 → QAft g ⟨some ⟨gv, 0, none⟩, (allP k.p).length, uc⟩ (setP k n { k.p n with un := now + k.hold }) w (w1.setCell ⟨gv, j * 7 + 6, none⟩ (.int .u64 (now + k.hold))).drew) := fun hh w1 b => by
        rw [if_pos hh] at RO
        have h1 := h.keep b
        have hr := erow_field (x := k.p n) (y := { k.p n with un := now + k.hold }) (j := j) (t := 6) (v := .int .u64 (now + k.hold)) h1.row (by rw [← hj]; exact hx0) (by decide) rfl
        have q := h1.setp hn hs (y := { k.p n with un := now + k.hold }) hs RO rfl (Touch.set (F := fun b => b = gv) (Touch.refl _ w1) (fun _ => rfl) _) (by rw [hj]; exact hr)
        exact QAft.after b (QAft.then_ ⟨_, q.1, q.2, fun b hb => .inl hb⟩ (Below.refl _ _).drew)
      have k0 := h.ok.h0
      have k1 := h.ok.h1
      have hbn := (badC_no hb).2
      have p2 := IntWalk.u64_in (now + k.hold) ⟨by omega, by omega⟩
      clear h hs hc RO hb hx0
      rw [hj] at K
      generalize (allP k.p).length = m at *
      generalize k.p n = x at *
      have CC : Hid (∀ w1, Below w.heap.size w w1 → (w1.cell? ⟨gv, j * 7 + 1, none⟩ = some (.int .i64 x.st) ∧ w1.cell? ⟨gv, j * 7 + 3, none⟩ = some (.int .u32 x.ip) ∧ w1.cell? ⟨gv, j * 7 + 4, none⟩ = some (.int .u16 x.pt)) ∧ w1.cell? ⟨gv, j * 7 + 6, none⟩ = some (.int .u64 x.un)) := fun w1 b => by
        obtain ⟨_, _, _, cc⟩ := LIM.out w1 b
        exact ⟨⟨cc 1 _ rfl, cc 3 _ rfl, cc 4 _ rfl⟩, cc 6 _ rfl⟩
      by_cases h3 : x.st = 3
      · have h3' : (x.st == 3) = true := beq_iff_eq.2 h3
        by_cases ha : x.ip = ip
        · by_cases ha2 : x.pt = pt
          · have e1 : heardB k n ip pt now = true := by rw [HE.out, h3', decide_eq_true ha, decide_eq_true ha2]; rfl
            have F2 := Lib.hid (FIN.out e1)
            rw [e1, if_pos rfl]
            clear e1 HE FIN hj
            go_enter Try.func18, Try.ntmps18
            go_upto_region 1 with fail
            go_wp2_with fail
            refine K.mono ?_; rintro e w2 ⟨rfl, b2⟩
            have B2 : Hid (Below w.heap.size w w2) := B0.out.trans (b2.mono B0.out.size)
            have X2 := Lib.hid (X.out.keep b2)
            clear b2
            obtain ⟨⟨g4, g3, gl⟩, gvl, fr, _⟩ := LIM.out _ B2.out
            obtain ⟨⟨c1, c3, c4⟩, c6⟩ := CC.out _ B2.out
            have y0 := X2.out.cell 0 _ rfl
            have y1 := X2.out.cell 1 _ rfl
            rw [h3] at c1
            rw [ha] at c3
            rw [ha2] at c4
            have C1 := fun d os => Calls.regrown_of (KB (grow (redrawn w2 d) os))
            clear KB
            clear K X
            go_upto_region 2 with fail
            have g4 := cell_regrown g4
            have c1 := cell_regrown c1
            have c3 := cell_regrown c3
            have c4 := cell_regrown c4
            have y0 := cell_regrown y0
            have y1 := cell_regrown y1
            clear g3 c6 fr gl gvl X2
            (refine wp_region_quiet_below (by kernel_rfl) (by kernel_rfl) ?_; (repeat (go_big_quiet_step (first | with_reducible exact C1 _ _))); refine wpQuiet_nil ?_; intro _ hw'; obtain ⟨⟨dq, osq⟩, hw''⟩ := hw'; subst hw'')
            have BW : Hid (Below w.heap.size w (grow (redrawn w2 dq) osq)) := B2.out.trans ((below_regrown w2 dq osq).mono B2.out.size)
            clear g4 c1 c3 c4 y0 y1 C1
            generalize grow (redrawn w2 dq) osq = w3 at *
            obtain ⟨⟨g4, g3, gl⟩, gvl, fr, _⟩ := LIM.out _ BW.out
            have c6 := (CC.out _ BW.out).2
            have F3 := Lib.hid (F2.out _ BW.out)
            clear F2 LIM CC BW
            go_upto_region 4 with fail
            go_region
            all_goals go_wp2
            all_goals (refine bodyPost_ret (v := (.bool true)) (by simp [results, Try.results18, go_sem, *]) rfl ?_)
            all_goals exact ⟨rfl, F3.out⟩
          · have e1 : heardB k n ip pt now = false := by rw [HE.out, h3', decide_eq_true ha, decide_eq_false ha2]; rfl
            have hne : ((x.pt : Int) == pt) = false := beq_eq_false_iff_ne.2 (by omega)
            rw [e1, if_neg (by decide)]
            clear e1 HE FIN hj
            go_enter Try.func18, Try.ntmps18
            go_upto_region 1 with fail
            go_wp2_with fail
            refine K.mono ?_; rintro e w2 ⟨rfl, b2⟩
            have B2 : Hid (Below w.heap.size w w2) := B0.out.trans (b2.mono B0.out.size)
            have X2 := Lib.hid (X.out.keep b2)
            clear b2
            obtain ⟨⟨g4, g3, gl⟩, gvl, fr, _⟩ := LIM.out _ B2.out
            obtain ⟨⟨c1, c3, c4⟩, c6⟩ := CC.out _ B2.out
            have y0 := X2.out.cell 0 _ rfl
            have y1 := X2.out.cell 1 _ rfl
            rw [h3] at c1
            rw [ha] at c3
            have C1 := fun d os => Calls.regrown_of (KB (grow (redrawn w2 d) os))
            clear KB
            clear K X
            go_upto_region 2 with fail
            have g4 := cell_regrown g4
            have c1 := cell_regrown c1
            have c3 := cell_regrown c3
            have c4 := cell_regrown c4
            have y0 := cell_regrown y0
            have y1 := cell_regrown y1
            clear g3 c6 fr gl gvl X2
            (refine wp_region_quiet_below (by kernel_rfl) (by kernel_rfl) ?_; (repeat (go_big_quiet_step (first | with_reducible exact C1 _ _))); refine wpQuiet_nil ?_; intro _ hw'; obtain ⟨⟨dq, osq⟩, hw''⟩ := hw'; subst hw'')
            have BW : Hid (Below w.heap.size w (grow (redrawn w2 dq) osq)) := B2.out.trans ((below_regrown w2 dq osq).mono B2.out.size)
            generalize grow (redrawn w2 dq) osq = w3 at *
            go_wp2
            refine bodyPost_ret (v := (.bool false)) (by simp [results, Try.results18, go_sem, *]) rfl ?_
            exact ⟨rfl, SAME.out _ BW.out⟩
        · have e1 : heardB k n ip pt now = false := by rw [HE.out, h3', decide_eq_false ha]; rfl
          have hne : ((x.ip : Int) == ip) = false := beq_eq_false_iff_ne.2 (by omega)
          rw [e1, if_neg (by decide)]
          clear e1 HE FIN hj
          go_enter Try.func18, Try.ntmps18
          go_upto_region 1 with fail
          go_wp2_with fail
          refine K.mono ?_; rintro e w2 ⟨rfl, b2⟩
          have B2 : Hid (Below w.heap.size w w2) := B0.out.trans (b2.mono B0.out.size)
          have X2 := Lib.hid (X.out.keep b2)
          clear b2
          obtain ⟨⟨g4, g3, gl⟩, gvl, fr, _⟩ := LIM.out _ B2.out
          obtain ⟨⟨c1, c3, c4⟩, c6⟩ := CC.out _ B2.out
          have y0 := X2.out.cell 0 _ rfl
          have y1 := X2.out.cell 1 _ rfl
          rw [h3] at c1
          have C1 := fun d os => Calls.regrown_of (KB (grow (redrawn w2 d) os))
          clear KB
          clear K X
          go_upto_region 2 with fail
          have g4 := cell_regrown g4
          have c1 := cell_regrown c1
          have c3 := cell_regrown c3
          have c4 := cell_regrown c4
          have y0 := cell_regrown y0
          have y1 := cell_regrown y1
          clear g3 c6 fr gl gvl X2
          (refine wp_region_quiet_below (by kernel_rfl) (by kernel_rfl) ?_; (repeat (go_big_quiet_step (first | with_reducible exact C1 _ _))); refine wpQuiet_nil ?_; intro _ hw'; obtain ⟨⟨dq, osq⟩, hw''⟩ := hw'; subst hw'')
          have BW : Hid (Below w.heap.size w (grow (redrawn w2 dq) osq)) := B2.out.trans ((below_regrown w2 dq osq).mono B2.out.size)
          generalize grow (redrawn w2 dq) osq = w3 at *
          go_wp2
          refine bodyPost_ret (v := (.bool false)) (by simp [results, Try.results18, go_sem, *]) rfl ?_
          exact ⟨rfl, SAME.out _ BW.out⟩
      · have h3' : (x.st == 3) = false := beq_eq_false_iff_ne.2 h3
        have h3n : (x.st != 3) = true := by unfold bne; rw [h3']; rfl
        have e1 : heardB k n ip pt now = false := by rw [HE.out, h3']; rfl
        rw [e1, if_neg (by decide)]
        clear e1 HE FIN hj
        go_enter Try.func18, Try.ntmps18
        go_upto_region 1 with fail
        go_wp2_with fail
        refine K.mono ?_; rintro e w2 ⟨rfl, b2⟩
        have B2 : Hid (Below w.heap.size w w2) := B0.out.trans (b2.mono B0.out.size)
        have X2 := Lib.hid (X.out.keep b2)
        clear b2
        obtain ⟨⟨g4, g3, gl⟩, gvl, fr, _⟩ := LIM.out _ B2.out
        obtain ⟨⟨c1, c3, c4⟩, c6⟩ := CC.out _ B2.out
        have y0 := X2.out.cell 0 _ rfl
        have y1 := X2.out.cell 1 _ rfl
        have C1 := fun d os => Calls.regrown_of (KB (grow (redrawn w2 d) os))
        clear KB
        clear K X
        go_upto_region 2 with fail
        have g4 := cell_regrown g4
        have c1 := cell_regrown c1
        have c3 := cell_regrown c3
        have c4 := cell_regrown c4
        have y0 := cell_regrown y0
        have y1 := cell_regrown y1
        clear g3 c6 fr gl gvl X2
        (refine wp_region_quiet_below (by kernel_rfl) (by kernel_rfl) ?_; (repeat (go_big_quiet_step (first | with_reducible exact C1 _ _))); refine wpQuiet_nil ?_; intro _ hw'; obtain ⟨⟨dq, osq⟩, hw''⟩ := hw'; subst hw'')
        have BW : Hid (Below w.heap.size w (grow (redrawn w2 dq) osq)) := B2.out.trans ((below_regrown w2 dq osq).mono B2.out.size)
        generalize grow (redrawn w2 dq) osq = w3 at *
        go_wp2
        refine bodyPost_ret (v := (.bool false)) (by simp [results, Try.results18, go_sem, *]) rfl ?_
        exact ⟨rfl, SAME.out _ BW.out⟩
end Go.Proofs.Ytpeoallhbbleaaa
