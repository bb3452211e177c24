/- The reference's: Due (as tools/gen_rdue18.py wrote it). -/
import Derived.Test.YtpeoallhbbleaaaPaRefDueS
namespace Go.Proofs.Ytpeoallhbbleaaa
open Go.Sort Go.RowKit Go.BigFrame
set_option linter.unusedVariables false
set_option linter.unusedSimpArgs false

theorem info_rst : (Try.prog.info? 53).map (fun i => (i.zero, i.size, i.bytes)) = some (some (.agg #[.int .i64 0, .int .i64 0]), 2, 16) := by kernel_rfl
def RDuePost (g : Nat) (u : Sl) (k : Tk) (now : Int) (w : World) (e : Ending) (w' : World) : Prop :=
  ∃ v : Sl, e = .returned (.slice v.a v.n v.c) ∧ NewE ck 2 53 (dueL k now) w v w' ∧ Qs g u (dueD k now) w' ∧ Touch (QOwn g u) w w'
def RDuJ (g : Nat) (u : Sl) (k : Tk) (now : Int) (w : World) (sv iv : Value) (wr : World) : Prop :=
  ∃ n : Nat, n ≤ 33 ∧ iv = .int .i64 ((loP k.p n).length : Nat) ∧ RdS g u (midD k now n) (loD k now n) w sv wr
set_option maxHeartbeats 25600000 in
set_option maxRecDepth 100000 in
theorem rdue_any (now : Int) (n0 : 0 ≤ now) (g : Nat) (u : Sl) (k : Tk) (w : World) (h : Qs g u k w) :
    Calls Try.prog 22 #[.pointer (some ⟨g, 0, none⟩), .int .u64 now] w (RDuePost g u k now w) := by
  obtain ⟨i0, hi0, hz0, hz1, hz2⟩ := info_parts info_rst
  unfold RDuePost
  by_cases hl : 4611686018427387904 < now
  · have e1 : dueL k now = [] := by unfold dueL; rw [if_pos hl]
    have e2 : dueD k now = k := by unfold dueD; rw [if_pos hl]
    rw [e1, e2]
    have H := Lib.hid h
    clear h e1 e2
    go_enter Try.func22, Try.ntmps22
    go_wp2
    refine bodyPost_ret (v := (.slice none 0 0)) (by simp [results, Try.results22, go_sem, *]) rfl ?_
    exact ⟨nilS, rfl, ⟨erow_nil, rfl, fun b hb => absurd hb (nil_own b)⟩, H.out, Touch.refl _ _⟩
  · have n1 : now ≤ 4611686018427387904 := by omega
    have e1 : dueL k now = loD k now 33 := by unfold dueL; rw [if_neg hl]
    have e2 : dueD k now = midD k now 33 := by unfold dueD; rw [if_neg hl]
    rw [e1, e2]
    have OK := Lib.hid h.ok
    have hun := h.n
    have hl33 := all_len k.p
    have S0 : Hid (RDuJ g u k now w (.slice none 0 0) (.int .i64 0) w) := ⟨0, by omega, rfl, by rw [mid_zero]; exact ⟨h, Touch.refl _ _, erow_nil, fun b hb => by simp [Value.ownBlock] at hb, h.lt⟩⟩
    obtain ⟨av, un, uc⟩ := u
    simp only at hun
    subst hun
    clear h e1 e2
    go_enter Try.func22, Try.ntmps22
    go_wp2_with fail
    go_loopw [5, 6] (fun sv iv wr => RDuJ g ⟨av, (allP k.p).length, uc⟩ k now w sv iv wr) (fun _ iv _ => 34 - (intOf iv).toNat)
    case atStart => exact S0.out
    case round =>
      obtain ⟨n, hn, rfl, hS⟩ := hrel
      generalize u5 = sv at *
      have HS := Lib.hid hS
      clear hS S0
      have g4 := HS.out.q.box.cell 4 _ rfl
      have gl := HS.out.q.box.lt
      have hi33 := lo_len k.p n
      by_cases hlt : (loP k.p n).length < (allP k.p).length
      · obtain ⟨n', h1, h2, hs, h4, h5⟩ := lo_next k.p (33 - n) n (by omega) hlt
        obtain ⟨d, rfl⟩ : ∃ d, n' = n + d := ⟨n' - n, by omega⟩
        have SK := mid_skip (k := k) (now := now) (n := n) d (fun j a b => h5 j a b)
        have HS2 : Hid (RdS g ⟨av, (allP k.p).length, uc⟩ (midD k now (n + d)) (loD k now (n + d)) w sv wr) := by
          rw [SK.1, SK.2]; exact HS.out
        rw [← h4] at hlt hi33 ⊢
        clear HS SK h4 h5 h1 hn
        generalize n + d = q at *
        have LOX : Hid ((loP k.p q).length + 1 = (loP k.p (q + 1)).length) := by show _ = _; rw [lo_yes hs, List.length_append]; rfl
        have M := mid_all k now OK.out n0 n1 h2 hs
        have hx := OK.out.yes q hs
        have hok1 := mid_ok OK.out now n0 n1 (q + 1)
        have LL : Hid ((allP (midD k now q).p).length = (allP k.p).length) := HS2.out.q.n.symm
        have hml := loD_len k now q
        obtain ⟨gv, hgv, gvl, cc, fr⟩ := HS2.out.q.cells M.2
        simp only at hgv
        subst hgv
        have hLc : (allP k.p).length ≤ uc := by
          have hr := HS2.out.q.row
          obtain ⟨-, C, hC, hcap, ht, hlc, hm⟩ := erow_open cp_enc hr
          rw [LL.out] at hlc; exact hlc
        have PUT : Hid (∀ w1 y, RdS g ⟨some ⟨gv, 0, none⟩, (allP k.p).length, uc⟩ (midD k now q) (loD k now q) w sv w1 → dueX k (k.p q) now = y → isS y = true → RdS g ⟨some ⟨gv, 0, none⟩, (allP k.p).length, uc⟩ (midD k now (q + 1)) (loD k now q) w sv (w1.setCells gv ((loP k.p q).length * 7) (cp y))) := fun w1 y hr hy hi => by
          have e := mid_succ k now q
          rw [hy] at e
          rw [← e]
          exact hr.setp h2 (by rw [mid_at]; exact hs) hi (by rw [e]; exact hok1) rfl M.1 (by rw [LL.out]; exact hlt)
        have PUTF : Hid (∀ w1 y v, RdS g ⟨some ⟨gv, 0, none⟩, (allP k.p).length, uc⟩ (midD k now q) (loD k now q) w sv w1 → dueX k (k.p q) now = y → isS y = true → (cp (k.p q)).set 5 v = cp y → RdS g ⟨some ⟨gv, 0, none⟩, (allP k.p).length, uc⟩ (midD k now (q + 1)) (loD k now q) w sv (w1.setCell ⟨gv, (loP k.p q).length * 7 + 5, none⟩ v)) := fun w1 y v hr hy hi hv => by
          have e := mid_succ k now q
          rw [hy] at e
          rw [← e]
          exact hr.setf h2 (by rw [mid_at]; exact hs) hi (by rw [e]; exact hok1) rfl M.1 (by rw [mid_at]; exact M.2) (by decide) (by rw [mid_at]; exact hv)
        have SAME : Hid (dueX k (k.p q) now = k.p q → midD k now (q + 1) = midD k now q) := fun e => by
          rw [← mid_succ, e]
          unfold setP
          have := upd_self (midD k now q).p q
          rw [mid_at] at this
          rw [this]
        have BOX : Hid (∀ w1, RdS g ⟨some ⟨gv, 0, none⟩, (allP k.p).length, uc⟩ (midD k now q) (loD k now q) w sv w1 → ((w1.cell? ⟨g, 4, none⟩ = some (.slice (some ⟨gv, 0, none⟩) (allP k.p).length uc) ∧ w1.cell? ⟨g, 0, none⟩ = some (.int .i64 k.tries) ∧ w1.cell? ⟨g, 1, none⟩ = some (.int .u64 k.base) ∧ w1.cell? ⟨g, 2, none⟩ = some (.int .u64 k.keep) ∧ w1.cell? ⟨g, 3, none⟩ = some (.int .u64 k.hold)) ∧ g < w1.heap.size ∧ gv < w1.heap.size) ∧ (∀ o, w1.frozen? ⟨gv, o, none⟩ = false) ∧ ∀ t v, (cp (k.p q))[t]? = some v → w1.cell? ⟨gv, (loP k.p q).length * 7 + t, none⟩ = some v) := fun w1 hr => by
          obtain ⟨g2, e, l, c2, f2⟩ := hr.q.cells M.2
          simp only [Option.some.injEq, Addr.mk.injEq, and_true] at e
          subst e
          exact ⟨⟨⟨hr.q.box.cell 4 _ rfl, hr.q.box.cell 0 _ rfl, hr.q.box.cell 1 _ rfl, hr.q.box.cell 2 _ rfl, hr.q.box.cell 3 _ rfl⟩, hr.q.box.lt, l⟩, f2, c2⟩
        have FRE : Hid (∀ w1, RdS g ⟨some ⟨gv, 0, none⟩, (allP k.p).length, uc⟩ (midD k now (q + 1)) (loD k now q) w sv w1 → g < w1.heap.size) := fun w1 hr => hr.q.box.lt
        have KY := loD_yes (k := k) (now := now) (i := q)
        have KN := loD_no (k := k) (now := now) (i := q)
        have HQ : Hid (q + 1 ≤ 33) := by show q + 1 ≤ 33; omega
        have KT := OK.out.t0
        have KT1 := OK.out.t1
        have KB := OK.out.b0
        have KB1 := OK.out.b1
        have KP := OK.out.k0
        have KP1 := OK.out.k1
        have KH := OK.out.h0
        have KH1 := OK.out.h1
        have hip : (0 : Int) ≤ ((loP k.p q).length : Nat) := by omega
        have hq33 : q ≤ 32 := by omega
        have hi1 : (((loP k.p q).length : Nat) : Int) < ((allP k.p).length : Nat) := by omega
        have pw := IntWalk.i64_in ((((loP k.p q).length : Nat) : Int) + 1) ⟨by omega, by omega⟩
        have d0 := cc 0 _ rfl
        have d1 := cc 1 _ rfl
        have d2 := cc 2 _ rfl
        have d3 := cc 3 _ rfl
        have d4 := cc 4 _ rfl
        have d5 := cc 5 _ rfl
        have d6 := cc 6 _ rfl
        simp only [Nat.add_zero] at d0
        have HX := Lib.hid hx
        have HPI : Hid ((k.p q).peer = q) := hx.peer
        have OK2 := OK
        clear M hok1 cc OK h2 hs LL
        generalize hxx : k.p q = x at *
        generalize (loP k.p q).length = i at *
        generalize (allP k.p).length = m at *
        have DW := Lib.hid (du_wait (k := k) (x := x) (now := now))
        have DK := Lib.hid (du_keep (k := k) (now := now) hx)
        have DT := Lib.hid (du_two (k := k) (now := now) hx)
        have DF := Lib.hid (du_fresh (k := k) (now := now) OK2.out hx)
        have xtr := hx.tr
        clear hx hxx OK2
        have XN : Hid (Cs wr.heap.size (cp x) (wr.alloc (.cells (cp x).toArray 63))) := Cs.new wr _ _
        have S1 : Hid (RdS g ⟨some ⟨gv, 0, none⟩, m, uc⟩ (midD k now q) (loD k now q) w sv (wr.alloc (.cells (cp x).toArray 63))) := HS2.out.keep ((Below.refl _ wr).alloc (Nat.le_refl _) _)
        have XL : Hid (∀ b, (QOwn g ⟨some ⟨gv, 0, none⟩, m, uc⟩ b ∨ sv.ownBlock = some b) → b ≠ wr.heap.size) := fun b hb e => by
          rcases hb with hb | hb
          · have := HS2.out.q.lt b hb; omega
          · have := erow_lt HS2.out.row hb; omega
        have NEG : Hid (¬ g = gv ∧ ¬ gv = g) := by
          have hne := HS2.out.gne rfl
          exact ⟨fun e => hne e.symm, hne⟩
        have XBS : Hid (w.heap.size ≤ wr.heap.size) := HS2.out.t.size
        have GV : Hid (gv ≠ wr.heap.size ∧ g ≠ wr.heap.size) := ⟨by omega, by omega⟩
        clear HS2
        obtain ⟨x1, x2, x3, x4, x5, x6, x7⟩ := x
        simp only [cp] at d0 d1 d2 d3 d4 d5 d6
        simp only at DW DK DT DF HPI xtr
        simp only [cp] at XN S1
        go_upto_region 8 with fail
        generalize (wr.alloc (.cells #[.int .i64 x1, .int .i64 x2, .int .i64 x3, .int .u32 x4, .int .u16 x5, .int .u64 x6, .int .u64 x7] 63)) = w1 at *
        generalize wr.heap.size = xb at *
        clear d0 d1 d2 d3 d4 d5 d6 g4 gl gvl fr
        have y0 := XN.out.cell 0 _ rfl
        have y1 := XN.out.cell 1 _ rfl
        have y2 := XN.out.cell 2 _ rfl
        have y3 := XN.out.cell 3 _ rfl
        have y4 := XN.out.cell 4 _ rfl
        have y5 := XN.out.cell 5 _ rfl
        have y6 := XN.out.cell 6 _ rfl
        have yl := XN.out.lt
        have yf := fun t v (h : ([.int .i64 x1, .int .i64 x2, .int .i64 x3, .int .u32 x4, .int .u16 x5, .int .u64 x6, .int .u64 x7] : List Value)[t]? = some v) => XN.out.free t v h
        by_cases hnx : now < x6
        · have E := DW.out hnx
          have hnx2 : decide (now < x6) = true := decide_eq_true hnx
          have SF : Hid (RdS g ⟨some ⟨gv, 0, none⟩, m, uc⟩ (midD k now (q + 1)) (loD k now (q + 1)) w sv w1) := by
            rw [SAME.out E.1, KN E.2.1]; exact S1.out
          clear KY KN DK DT DF DW PUT PUTF SAME BOX XN S1 y0 y1 y2 y3 y4 y6
          go_wp2
          go_roundw
          case rel => exact ⟨q + 1, HQ.out, by rw [← LOX.out]; rfl, SF.out⟩
          case measure => simp [intOf]; omega
        · have hnx2 : decide (now < x6) = false := decide_eq_false hnx
          have hnx3 : x6 ≤ now := by omega
          by_cases hk : x2 = 3 ∧ now < x7
          · have E := DK.out hnx3 hk
            have SP := Lib.hid (PUTF.out w1 _ (.int .u64 (now + k.keep)) S1.out E.1 (by show isS _ = true; unfold isS; show (!(x2 == 0)) = true; rw [hk.1]; rfl) rfl)
            have EQ := Lib.hid (KY (by rw [E.2]; decide))
            rw [E.2, ← HPI.out] at EQ
            have h3 : x2 = 3 := hk.1
            have h4 : decide (now < x7) = true := decide_eq_true hk.2
            subst h3
            obtain ⟨⟨⟨g4, gt, gb, gk, gh⟩, gl, gvl⟩, fr, cc⟩ := BOX.out w1 S1.out
            have c5 := cc 5 _ rfl
            have p2 := IntWalk.u64_in (now + k.keep) ⟨by omega, by omega⟩
            clear KY KN DK DT DF DW PUT PUTF SAME BOX S1 E cc
            go_upto_region 10 with fail
            go_region
            have SP2 := Lib.hid (SP.out.keep (Below.refl _ _).drew)
            have Y0 : Hid ((w1.setCell ⟨gv, i * 7 + 5, none⟩ (.int .u64 (now + k.keep))).drew.cell? ⟨xb, 0, none⟩ = some (.int .i64 x1)) := ((XN.out.far ⟨gv, i * 7 + 5, none⟩ (.int .u64 (now + k.keep)) GV.out.1).drew).cell 0 _ rfl
            have SP := SP2
            clear SP2 y0 y1 y2 y3 y4 y5 y6 yl yf g4 gt gb gk gh gl gvl fr c5
            generalize (w1.setCell ⟨gv, i * 7 + 5, none⟩ (.int .u64 (now + k.keep))).drew = w2 at *
            have y0 := Y0.out
            go_wp2_with (at_builtin; refine wpList_append_lies _ rfl (.tmp 52) (.tmp 56) 49 rfl 0 53 i0 _ 2 16 Try.underlying49 hi0 hz0 hz1 hz2 rfl (by omega) sv (loD k now q).length ((loD k now q).map ck).flatten rfl (erow_keep SP.out.row ((Below.refl _ _).alloc (Nat.le_refl _) _)) ⟨_, 0, none⟩ 1 1 (ck ((x1 : Int), 2)) rfl rfl (World.news_of_block (cs := (ck ((x1 : Int), 2)).toArray) (t := 53) (fr := (0, 0)) (heap_alloc_new _ _)) (ck_ones _) (by omega) ?c2b ?c3b ?c4b _ rfl ?_)
            case c2b => unfold maxLen; omega
            case c3b => omega
            intro g1 cap1 w9 hown hgrow hat hlt9
            have S3 := Lib.hid (SP.out.keep ((Below.refl _ _).alloc (Nat.le_refl _) (.cells (ck ((x1 : Int), 2)).toArray 53)))
            have fin : ERow ck 2 53 w9 (.slice (some ⟨g1, 0, none⟩) ((loD k now q).length + 1) cap1) (loD k now (q + 1)) := by
              rw [EQ.out]; exact erow_snoc rfl hown
            have hov : ∀ b, (Value.slice (some ⟨g1, 0, none⟩) ((loD k now q).length + 1) cap1).ownBlock = some b → w.heap.size ≤ b := fun b hb => by
              obtain rfl : g1 = b := by injection hb
              rcases hat with h | h
              · exact S3.out.own _ h
              · have := SP.out.t.size; rw [h]; simp; omega
            have SF := Lib.hid (S3.out.app hgrow fin hov)
            clear hown hgrow hat SP S3 fin hov
            go_wp2
            go_roundw
            case rel => exact ⟨q + 1, HQ.out, by rw [← LOX.out]; rfl, SF.out⟩
            case measure => simp [intOf]; omega
          · by_cases h2 : x2 = 2
            · have EF := Lib.hid (DT.out hnx3 h2)
              obtain ⟨n4, n5, n7⟩ := EF.out.no
              simp only at n4 n5 n7
              subst h2 n4 n5 n7
              simp only [Int.natCast_zero, Int.ofNat_zero, Int.cast_ofNat_Int] at XN y3 y4 yf
              clear y0 y1 y2 y3 y4 y5 y6 yl yf
              have y0 := XN.out.cell 0 _ rfl
              have y1 := XN.out.cell 1 _ rfl
              have y5 := XN.out.cell 5 _ rfl
              have yl := XN.out.lt
              go_upto_region 14 with fail
              have S2 := S1
              have X2 := XN
              clear S1 XN y0 y1 y5 yl
              obtain ⟨w2, hw2⟩ : ∃ w2, w2 = w1 := ⟨_, rfl⟩
              subst hw2
              by_cases ht : (x3 : Int) = k.tries
              · have ht2 : decide (k.tries ≤ ((x3 : Nat) : Int)) = true := decide_eq_true (by omega)
                have E1 : dueX k ⟨x1, 2, x3, 0, 0, x6, 0⟩ now = ⟨x1, 1, x3, 0, 0, now + k.hold, 0⟩ := by rw [EF.out.dx]; unfold tryX; rw [if_pos ht]
                have E2 : dueK k ⟨x1, 2, x3, 0, 0, x6, 0⟩ now = 0 := by rw [EF.out.dk]; unfold tryK; rw [if_pos ht]
                replace ht := Lib.hid ht
                have p2 := IntWalk.u64_in (now + k.hold) ⟨by omega, by omega⟩
                have y0 := X2.out.cell 0 _ rfl
                have y1 := X2.out.cell 1 _ rfl
                have y2 := X2.out.cell 2 _ rfl
                have y3 := X2.out.cell 3 _ rfl
                have y4 := X2.out.cell 4 _ rfl
                have y5 := X2.out.cell 5 _ rfl
                have y6 := X2.out.cell 6 _ rfl
                have yl := X2.out.lt
                have yf := fun t v (h : ([.int .i64 x1, .int .i64 2, .int .i64 x3, .int .u32 0, .int .u16 0, .int .u64 x6, .int .u64 0] : List Value)[t]? = some v) => X2.out.free t v h
                have f0 := yf 0 _ rfl
                have f1 := yf 1 _ rfl
                have f2 := yf 2 _ rfl
                have f3 := yf 3 _ rfl
                have f4 := yf 4 _ rfl
                have f5 := yf 5 _ rfl
                have f6 := yf 6 _ rfl
                clear yf
                obtain ⟨⟨⟨g4, gt, gb, gk, gh⟩, gl, gvl⟩, fr, cc⟩ := BOX.out w2 S2.out
                have c0 := cc 0 _ rfl
                have c1 := cc 1 _ rfl
                have c2 := cc 2 _ rfl
                have c3 := cc 3 _ rfl
                have c4 := cc 4 _ rfl
                have c5 := cc 5 _ rfl
                have c6 := cc 6 _ rfl
                simp only [Nat.add_zero] at c0
                clear cc
                go_quiet (fail)
                have S3 := Lib.hid (S2.out.keep (below_drewN (Below.refl _ w2) nq))
                have X3 := Lib.hid (X2.out.keep (below_drewN (Below.refl _ w2) nq))
                clear y0 y1 y2 y3 y4 y5 y6 yl f0 f1 f2 f3 f4 f5 f6
                clear g4 gt gb gk gh gl gvl fr c0 c1 c2 c3 c4 c5 c6
                clear S2 X2
                generalize w2.drewN nq = w3 at *
                have y0 := X3.out.cell 0 _ rfl
                have y1 := X3.out.cell 1 _ rfl
                have y2 := X3.out.cell 2 _ rfl
                have y3 := X3.out.cell 3 _ rfl
                have y4 := X3.out.cell 4 _ rfl
                have y5 := X3.out.cell 5 _ rfl
                have y6 := X3.out.cell 6 _ rfl
                have yl := X3.out.lt
                have yf := fun t v (h : ([.int .i64 x1, .int .i64 2, .int .i64 x3, .int .u32 0, .int .u16 0, .int .u64 x6, .int .u64 0] : List Value)[t]? = some v) => X3.out.free t v h
                have f0 := yf 0 _ rfl
                have f1 := yf 1 _ rfl
                have f2 := yf 2 _ rfl
                have f3 := yf 3 _ rfl
                have f4 := yf 4 _ rfl
                have f5 := yf 5 _ rfl
                have f6 := yf 6 _ rfl
                clear yf
                obtain ⟨⟨⟨g4, gt, gb, gk, gh⟩, gl, gvl⟩, fr, cc⟩ := BOX.out w3 S3.out
                have c0 := cc 0 _ rfl
                have c1 := cc 1 _ rfl
                have c2 := cc 2 _ rfl
                have c3 := cc 3 _ rfl
                have c4 := cc 4 _ rfl
                have c5 := cc 5 _ rfl
                have c6 := cc 6 _ rfl
                simp only [Nat.add_zero] at c0
                clear cc
                have SP0 := PUT.out w3 _ S3.out E1 rfl
                have SF : Hid (RdS g ⟨some ⟨gv, 0, none⟩, m, uc⟩ (midD k now (q + 1)) (loD k now (q + 1)) w sv (w3.setCells gv (i * 7) (cp ⟨x1, 1, x3, 0, 0, now + k.hold, 0⟩)).drew) := by
                  rw [KN E2]; exact SP0.keep (Below.refl _ _).drew
                simp only [cp, setCells7, Int.natCast_zero, Int.ofNat_zero, Int.cast_ofNat_Int] at SF
                clear KY KN DK DT DF DW PUT PUTF SAME BOX S3 X3 SP0 E1 E2 EF
                go_upto_region 15 with fail
                go_region
                all_goals go_wp2
                all_goals go_roundw
                case rel => exact ⟨q + 1, HQ.out, by rw [← LOX.out]; rfl, SF.out⟩
                case measure => simp [intOf]; omega
              · have ht2 : decide (k.tries ≤ ((x3 : Nat) : Int)) = false := decide_eq_false (by omega)
                have hw := wait_le (n := x3) KB KB1 (by omega)
                obtain ⟨y, hy⟩ : ∃ y, k.base * 2 ^ x3 = y := ⟨_, rfl⟩
                have E1 : dueX k ⟨x1, 2, x3, 0, 0, x6, 0⟩ now = ⟨x1, 2, x3 + 1, 0, 0, now + y, 0⟩ := by rw [EF.out.dx]; unfold tryX; rw [if_neg ht]; simp only [hy]
                have E2 : dueK k ⟨x1, 2, x3, 0, 0, x6, 0⟩ now = 1 := by rw [EF.out.dk]; unfold tryK; rw [if_neg ht]
                have EQ := Lib.hid (KY (by rw [E2]; decide))
                rw [E2, ← HPI.out] at EQ
                rw [hy] at hw
                have p1 : IntKind.u64.wrap (k.base * 2 ^ x3) = y := by rw [hy]; exact IntWalk.u64_in y ⟨by omega, by omega⟩
                have p2 := IntWalk.u64_in (now + y) ⟨by omega, by omega⟩
                have p3 := IntWalk.i64_in (((x3 : Nat) : Int) + 1) ⟨by omega, by omega⟩
                have p4 := IntWalk.i64_in (((x3 : Nat) : Int)) ⟨by omega, by omega⟩
                have q1 : (0 : Int) ≤ ((x3 : Nat) : Int) := by omega
                have q2 : ((x3 : Nat) : Int) ≤ 64 := by omega
                replace hy := Lib.hid hy
                have y0 := X2.out.cell 0 _ rfl
                have y1 := X2.out.cell 1 _ rfl
                have y2 := X2.out.cell 2 _ rfl
                have y3 := X2.out.cell 3 _ rfl
                have y4 := X2.out.cell 4 _ rfl
                have y5 := X2.out.cell 5 _ rfl
                have y6 := X2.out.cell 6 _ rfl
                have yl := X2.out.lt
                have yf := fun t v (h : ([.int .i64 x1, .int .i64 2, .int .i64 x3, .int .u32 0, .int .u16 0, .int .u64 x6, .int .u64 0] : List Value)[t]? = some v) => X2.out.free t v h
                have f0 := yf 0 _ rfl
                have f1 := yf 1 _ rfl
                have f2 := yf 2 _ rfl
                have f3 := yf 3 _ rfl
                have f4 := yf 4 _ rfl
                have f5 := yf 5 _ rfl
                have f6 := yf 6 _ rfl
                clear yf
                obtain ⟨⟨⟨g4, gt, gb, gk, gh⟩, gl, gvl⟩, fr, cc⟩ := BOX.out w2 S2.out
                have c0 := cc 0 _ rfl
                have c1 := cc 1 _ rfl
                have c2 := cc 2 _ rfl
                have c3 := cc 3 _ rfl
                have c4 := cc 4 _ rfl
                have c5 := cc 5 _ rfl
                have c6 := cc 6 _ rfl
                simp only [Nat.add_zero] at c0
                clear cc
                go_quiet (fail)
                have S3 := Lib.hid (S2.out.keep (below_drewN (Below.refl _ w2) nq))
                have X3 := Lib.hid (X2.out.keep (below_drewN (Below.refl _ w2) nq))
                clear y0 y1 y2 y3 y4 y5 y6 yl f0 f1 f2 f3 f4 f5 f6
                clear g4 gt gb gk gh gl gvl fr c0 c1 c2 c3 c4 c5 c6
                clear S2 X2
                generalize w2.drewN nq = w3 at *
                have y0 := X3.out.cell 0 _ rfl
                have y1 := X3.out.cell 1 _ rfl
                have y2 := X3.out.cell 2 _ rfl
                have y3 := X3.out.cell 3 _ rfl
                have y4 := X3.out.cell 4 _ rfl
                have y5 := X3.out.cell 5 _ rfl
                have y6 := X3.out.cell 6 _ rfl
                have yl := X3.out.lt
                have yf := fun t v (h : ([.int .i64 x1, .int .i64 2, .int .i64 x3, .int .u32 0, .int .u16 0, .int .u64 x6, .int .u64 0] : List Value)[t]? = some v) => X3.out.free t v h
                have f0 := yf 0 _ rfl
                have f1 := yf 1 _ rfl
                have f2 := yf 2 _ rfl
                have f3 := yf 3 _ rfl
                have f4 := yf 4 _ rfl
                have f5 := yf 5 _ rfl
                have f6 := yf 6 _ rfl
                clear yf
                go_upto_region 17 with fail
                have S4 := Lib.hid (S3.out.far XL.out XBS.out 2 (.int .i64 ((x3 : Nat) + 1 : Int)))
                have X4 : Hid (Cs xb [.int .i64 x1, .int .i64 2, .int .i64 ((x3 : Nat) + 1 : Int), .int .u32 0, .int .u16 0, .int .u64 x6, .int .u64 0] (w3.setCell ⟨xb, 2, none⟩ (.int .i64 ((x3 : Nat) + 1 : Int)))) := X3.out.set 2 (.int .i64 ((x3 : Nat) + 1 : Int)) (by simp)
                clear y0 y1 y2 y3 y4 y5 y6 yl f0 f1 f2 f3 f4 f5 f6
                clear S3 X3
                generalize (w3.setCell ⟨xb, 2, none⟩ (.int .i64 ((x3 : Nat) + 1 : Int))) = w4 at *
                have y0 := X4.out.cell 0 _ rfl
                have y1 := X4.out.cell 1 _ rfl
                have y2 := X4.out.cell 2 _ rfl
                have y3 := X4.out.cell 3 _ rfl
                have y4 := X4.out.cell 4 _ rfl
                have y5 := X4.out.cell 5 _ rfl
                have y6 := X4.out.cell 6 _ rfl
                have yl := X4.out.lt
                have yf := fun t v (h : ([.int .i64 x1, .int .i64 2, .int .i64 ((x3 : Nat) + 1 : Int), .int .u32 0, .int .u16 0, .int .u64 x6, .int .u64 0] : List Value)[t]? = some v) => X4.out.free t v h
                have f0 := yf 0 _ rfl
                have f1 := yf 1 _ rfl
                have f2 := yf 2 _ rfl
                have f3 := yf 3 _ rfl
                have f4 := yf 4 _ rfl
                have f5 := yf 5 _ rfl
                have f6 := yf 6 _ rfl
                clear yf
                obtain ⟨⟨⟨g4, gt, gb, gk, gh⟩, gl, gvl⟩, fr, cc⟩ := BOX.out w4 S4.out
                have c0 := cc 0 _ rfl
                have c1 := cc 1 _ rfl
                have c2 := cc 2 _ rfl
                have c3 := cc 3 _ rfl
                have c4 := cc 4 _ rfl
                have c5 := cc 5 _ rfl
                have c6 := cc 6 _ rfl
                simp only [Nat.add_zero] at c0
                clear cc
                go_region
                have S5 := Lib.hid ((S4.out.far XL.out XBS.out 5 (.int .u64 (now + y))).keep (Below.refl _ _).drew)
                have X5 : Hid (Cs xb [.int .i64 x1, .int .i64 2, .int .i64 ((x3 : Nat) + 1 : Int), .int .u32 0, .int .u16 0, .int .u64 (now + y), .int .u64 0] (w4.setCell ⟨xb, 5, none⟩ (.int .u64 (now + y))).drew) := (X4.out.set 5 (.int .u64 (now + y)) (by simp)).drew
                clear y0 y1 y2 y3 y4 y5 y6 yl f0 f1 f2 f3 f4 f5 f6
                clear g4 gt gb gk gh gl gvl fr c0 c1 c2 c3 c4 c5 c6
                clear S4 X4
                go_upto_region 18 with fail
                generalize (w4.setCell ⟨xb, 5, none⟩ (.int .u64 (now + y))).drew = w5 at *
                have y0 := X5.out.cell 0 _ rfl
                have y1 := X5.out.cell 1 _ rfl
                have y2 := X5.out.cell 2 _ rfl
                have y3 := X5.out.cell 3 _ rfl
                have y4 := X5.out.cell 4 _ rfl
                have y5 := X5.out.cell 5 _ rfl
                have y6 := X5.out.cell 6 _ rfl
                have yl := X5.out.lt
                have yf := fun t v (h : ([.int .i64 x1, .int .i64 2, .int .i64 ((x3 : Nat) + 1 : Int), .int .u32 0, .int .u16 0, .int .u64 (now + y), .int .u64 0] : List Value)[t]? = some v) => X5.out.free t v h
                have f0 := yf 0 _ rfl
                have f1 := yf 1 _ rfl
                have f2 := yf 2 _ rfl
                have f3 := yf 3 _ rfl
                have f4 := yf 4 _ rfl
                have f5 := yf 5 _ rfl
                have f6 := yf 6 _ rfl
                clear yf
                obtain ⟨⟨⟨g4, gt, gb, gk, gh⟩, gl, gvl⟩, fr, cc⟩ := BOX.out w5 S5.out
                have c0 := cc 0 _ rfl
                have c1 := cc 1 _ rfl
                have c2 := cc 2 _ rfl
                have c3 := cc 3 _ rfl
                have c4 := cc 4 _ rfl
                have c5 := cc 5 _ rfl
                have c6 := cc 6 _ rfl
                simp only [Nat.add_zero] at c0
                clear cc
                have SP0 := PUT.out w5 _ S5.out E1 rfl
                have SP := Lib.hid (SP0.keep (Below.refl _ _).drew)
                have X6 := Lib.hid ((X5.out.touch (Touch.sets (F := fun b => b = gv) (Touch.refl _ w5) gv (fun _ => rfl) (cp ⟨x1, 2, x3 + 1, 0, 0, now + y, 0⟩) (i * 7)) (fun e => GV.out.1 e.symm)).drew)
                simp only [cp, setCells7, Int.natCast_add, Int.natCast_one, Int.natCast_zero, Int.ofNat_zero, Int.cast_ofNat_Int] at SP X6
                clear KY KN DK DT DF DW PUT PUTF SAME BOX S5 X5 SP0 E1 E2 EF
                go_region
                go_upto_region 19 with fail
                generalize (((((((w5.setCell ⟨gv, i * 7, none⟩ (.int .i64 x1)).setCell ⟨gv, i * 7 + 1, none⟩ (.int .i64 2)).setCell ⟨gv, i * 7 + 2, none⟩ (.int .i64 ((x3 : Nat) + 1 : Int))).setCell ⟨gv, i * 7 + 3, none⟩ (.int .u32 0)).setCell ⟨gv, i * 7 + 4, none⟩ (.int .u16 0)).setCell ⟨gv, i * 7 + 5, none⟩ (.int .u64 (now + y))).setCell ⟨gv, i * 7 + 6, none⟩ (.int .u64 0)).drew = w6 at *
                clear y0 y1 y2 y3 y4 y5 y6 yl f0 f1 f2 f3 f4 f5 f6
                clear g4 gt gb gk gh gl gvl fr c0 c1 c2 c3 c4 c5 c6
                have y0 := X6.out.cell 0 _ rfl
                clear X6
                go_wp2_with (at_builtin; refine wpList_append_lies _ rfl (.tmp 110) (.tmp 114) 49 rfl 0 53 i0 _ 2 16 Try.underlying49 hi0 hz0 hz1 hz2 rfl (by omega) sv (loD k now q).length ((loD k now q).map ck).flatten rfl (erow_keep SP.out.row ((Below.refl _ _).alloc (Nat.le_refl _) _)) ⟨_, 0, none⟩ 1 1 (ck ((x1 : Int), 1)) rfl rfl (World.news_of_block (cs := (ck ((x1 : Int), 1)).toArray) (t := 53) (fr := (0, 0)) (heap_alloc_new _ _)) (ck_ones _) (by omega) ?c2c ?c3c ?c4c _ rfl ?_)
                case c2c => unfold maxLen; omega
                case c3c => omega
                intro g1 cap1 w9 hown hgrow hat hlt9
                have S3 := Lib.hid (SP.out.keep ((Below.refl _ _).alloc (Nat.le_refl _) (.cells (ck ((x1 : Int), 1)).toArray 53)))
                have fin : ERow ck 2 53 w9 (.slice (some ⟨g1, 0, none⟩) ((loD k now q).length + 1) cap1) (loD k now (q + 1)) := by
                  rw [EQ.out]; exact erow_snoc rfl hown
                have hov : ∀ b, (Value.slice (some ⟨g1, 0, none⟩) ((loD k now q).length + 1) cap1).ownBlock = some b → w.heap.size ≤ b := fun b hb => by
                  obtain rfl : g1 = b := by injection hb
                  rcases hat with h | h
                  · exact S3.out.own _ h
                  · have := SP.out.t.size; rw [h]; simp; omega
                have SF := Lib.hid (S3.out.app hgrow fin hov)
                clear hown hgrow hat SP S3 fin hov
                go_wp2
                go_roundw
                case rel => exact ⟨q + 1, HQ.out, by rw [← LOX.out]; rfl, SF.out⟩
                case measure => simp [intOf]; omega
            · by_cases h3 : x2 = 3
              · have h7 : decide (now < x7) = false := decide_eq_false (fun e => hk ⟨h3, e⟩)
                have f0 := yf 0 _ rfl
                have f1 := yf 1 _ rfl
                have f2 := yf 2 _ rfl
                have f3 := yf 3 _ rfl
                have f4 := yf 4 _ rfl
                have f5 := yf 5 _ rfl
                have f6 := yf 6 _ rfl
                rw [h3] at y1
                have EF := Lib.hid (DF.out hnx3 h2 hk)
                simp only [freshX] at EF
                go_upto_region 14 with fail
                have S2 := Lib.hid (((((((S1.out.far XL.out XBS.out 0 (.int .i64 x1)).far XL.out XBS.out 1 (.int .i64 2)).far XL.out XBS.out 2 (.int .i64 0)).far XL.out XBS.out 3 (.int .u32 0)).far XL.out XBS.out 4 (.int .u16 0)).far XL.out XBS.out 5 (.int .u64 0)).far XL.out XBS.out 6 (.int .u64 0))
                have X2 : Hid (Cs xb [.int .i64 x1, .int .i64 2, .int .i64 ((0 : Nat) : Int), .int .u32 0, .int .u16 0, .int .u64 0, .int .u64 0] (((((((w1.setCell ⟨xb, 0, none⟩ (.int .i64 x1)).setCell ⟨xb, 1, none⟩ (.int .i64 2)).setCell ⟨xb, 2, none⟩ (.int .i64 0)).setCell ⟨xb, 3, none⟩ (.int .u32 0)).setCell ⟨xb, 4, none⟩ (.int .u16 0)).setCell ⟨xb, 5, none⟩ (.int .u64 0)).setCell ⟨xb, 6, none⟩ (.int .u64 0))) :=
                  ((((((XN.out.set 0 (.int .i64 x1) (by simp)).set 1 (.int .i64 2) (by simp)).set 2 (.int .i64 0) (by simp)).set 3 (.int .u32 0) (by simp)).set 4 (.int .u16 0) (by simp)).set 5 (.int .u64 0) (by simp)).set 6 (.int .u64 0) (by simp)
                clear S1 XN y0 y1 y2 y3 y4 y5 y6 yl yf
                clear f0 f1 f2 f3 f4 f5 f6
                generalize (((((((w1.setCell ⟨xb, 0, none⟩ (.int .i64 x1)).setCell ⟨xb, 1, none⟩ (.int .i64 2)).setCell ⟨xb, 2, none⟩ (.int .i64 0)).setCell ⟨xb, 3, none⟩ (.int .u32 0)).setCell ⟨xb, 4, none⟩ (.int .u16 0)).setCell ⟨xb, 5, none⟩ (.int .u64 0)).setCell ⟨xb, 6, none⟩ (.int .u64 0)) = w2 at *
                obtain ⟨zt, hzt⟩ : ∃ zt : Nat, zt = 0 := ⟨_, rfl⟩
                have ht : ¬ ((zt : Nat) : Int) = k.tries := by omega
                replace EF : Hid (DuF k ⟨x1, x2, x3, x4, x5, x6, x7⟩ ⟨x1, 2, zt, 0, 0, 0, 0⟩ now) := by rw [hzt]; exact EF
                replace X2 : Hid (Cs xb [.int .i64 x1, .int .i64 2, .int .i64 ((zt : Nat) : Int), .int .u32 0, .int .u16 0, .int .u64 0, .int .u64 0] w2) := by rw [hzt]; exact X2
                have hz7 : zt ≤ 7 := by omega
                have hzl : ((zt : Nat) : Int) < k.tries := by omega
                clear hzt
                have ht2 : decide (k.tries ≤ ((zt : Nat) : Int)) = false := decide_eq_false (by omega)
                have hw := wait_le (n := zt) KB KB1 (by omega)
                obtain ⟨y, hy⟩ : ∃ y, k.base * 2 ^ zt = y := ⟨_, rfl⟩
                have E1 : dueX k ⟨x1, x2, x3, x4, x5, x6, x7⟩ now = ⟨x1, 2, zt + 1, 0, 0, now + y, 0⟩ := by rw [EF.out.dx]; unfold tryX; rw [if_neg ht]; simp only [hy]
                have E2 : dueK k ⟨x1, x2, x3, x4, x5, x6, x7⟩ now = 1 := by rw [EF.out.dk]; unfold tryK; rw [if_neg ht]
                have EQ := Lib.hid (KY (by rw [E2]; decide))
                rw [E2, ← HPI.out] at EQ
                rw [hy] at hw
                have p1 : IntKind.u64.wrap (k.base * 2 ^ zt) = y := by rw [hy]; exact IntWalk.u64_in y ⟨by omega, by omega⟩
                have p2 := IntWalk.u64_in (now + y) ⟨by omega, by omega⟩
                have p3 := IntWalk.i64_in (((zt : Nat) : Int) + 1) ⟨by omega, by omega⟩
                have p4 := IntWalk.i64_in (((zt : Nat) : Int)) ⟨by omega, by omega⟩
                have q1 : (0 : Int) ≤ ((zt : Nat) : Int) := by omega
                have q2 : ((zt : Nat) : Int) ≤ 64 := by omega
                replace hy := Lib.hid hy
                have y0 := X2.out.cell 0 _ rfl
                have y1 := X2.out.cell 1 _ rfl
                have y2 := X2.out.cell 2 _ rfl
                have y3 := X2.out.cell 3 _ rfl
                have y4 := X2.out.cell 4 _ rfl
                have y5 := X2.out.cell 5 _ rfl
                have y6 := X2.out.cell 6 _ rfl
                have yl := X2.out.lt
                have yf := fun t v (h : ([.int .i64 x1, .int .i64 2, .int .i64 zt, .int .u32 0, .int .u16 0, .int .u64 0, .int .u64 0] : List Value)[t]? = some v) => X2.out.free t v h
                have f0 := yf 0 _ rfl
                have f1 := yf 1 _ rfl
                have f2 := yf 2 _ rfl
                have f3 := yf 3 _ rfl
                have f4 := yf 4 _ rfl
                have f5 := yf 5 _ rfl
                have f6 := yf 6 _ rfl
                clear yf
                obtain ⟨⟨⟨g4, gt, gb, gk, gh⟩, gl, gvl⟩, fr, cc⟩ := BOX.out w2 S2.out
                have c0 := cc 0 _ rfl
                have c1 := cc 1 _ rfl
                have c2 := cc 2 _ rfl
                have c3 := cc 3 _ rfl
                have c4 := cc 4 _ rfl
                have c5 := cc 5 _ rfl
                have c6 := cc 6 _ rfl
                simp only [Nat.add_zero] at c0
                clear cc
                go_quiet (fail)
                have S3 := Lib.hid (S2.out.keep (below_drewN (Below.refl _ w2) nq))
                have X3 := Lib.hid (X2.out.keep (below_drewN (Below.refl _ w2) nq))
                clear y0 y1 y2 y3 y4 y5 y6 yl f0 f1 f2 f3 f4 f5 f6
                clear g4 gt gb gk gh gl gvl fr c0 c1 c2 c3 c4 c5 c6
                clear S2 X2
                generalize w2.drewN nq = w3 at *
                have y0 := X3.out.cell 0 _ rfl
                have y1 := X3.out.cell 1 _ rfl
                have y2 := X3.out.cell 2 _ rfl
                have y3 := X3.out.cell 3 _ rfl
                have y4 := X3.out.cell 4 _ rfl
                have y5 := X3.out.cell 5 _ rfl
                have y6 := X3.out.cell 6 _ rfl
                have yl := X3.out.lt
                have yf := fun t v (h : ([.int .i64 x1, .int .i64 2, .int .i64 zt, .int .u32 0, .int .u16 0, .int .u64 0, .int .u64 0] : List Value)[t]? = some v) => X3.out.free t v h
                have f0 := yf 0 _ rfl
                have f1 := yf 1 _ rfl
                have f2 := yf 2 _ rfl
                have f3 := yf 3 _ rfl
                have f4 := yf 4 _ rfl
                have f5 := yf 5 _ rfl
                have f6 := yf 6 _ rfl
                clear yf
                go_upto_region 17 with fail
                have S4 := Lib.hid (S3.out.far XL.out XBS.out 2 (.int .i64 ((zt : Nat) + 1 : Int)))
                have X4 : Hid (Cs xb [.int .i64 x1, .int .i64 2, .int .i64 ((zt : Nat) + 1 : Int), .int .u32 0, .int .u16 0, .int .u64 0, .int .u64 0] (w3.setCell ⟨xb, 2, none⟩ (.int .i64 ((zt : Nat) + 1 : Int)))) := X3.out.set 2 (.int .i64 ((zt : Nat) + 1 : Int)) (by simp)
                clear y0 y1 y2 y3 y4 y5 y6 yl f0 f1 f2 f3 f4 f5 f6
                clear S3 X3
                generalize (w3.setCell ⟨xb, 2, none⟩ (.int .i64 ((zt : Nat) + 1 : Int))) = w4 at *
                have y0 := X4.out.cell 0 _ rfl
                have y1 := X4.out.cell 1 _ rfl
                have y2 := X4.out.cell 2 _ rfl
                have y3 := X4.out.cell 3 _ rfl
                have y4 := X4.out.cell 4 _ rfl
                have y5 := X4.out.cell 5 _ rfl
                have y6 := X4.out.cell 6 _ rfl
                have yl := X4.out.lt
                have yf := fun t v (h : ([.int .i64 x1, .int .i64 2, .int .i64 ((zt : Nat) + 1 : Int), .int .u32 0, .int .u16 0, .int .u64 0, .int .u64 0] : List Value)[t]? = some v) => X4.out.free t v h
                have f0 := yf 0 _ rfl
                have f1 := yf 1 _ rfl
                have f2 := yf 2 _ rfl
                have f3 := yf 3 _ rfl
                have f4 := yf 4 _ rfl
                have f5 := yf 5 _ rfl
                have f6 := yf 6 _ rfl
                clear yf
                obtain ⟨⟨⟨g4, gt, gb, gk, gh⟩, gl, gvl⟩, fr, cc⟩ := BOX.out w4 S4.out
                have c0 := cc 0 _ rfl
                have c1 := cc 1 _ rfl
                have c2 := cc 2 _ rfl
                have c3 := cc 3 _ rfl
                have c4 := cc 4 _ rfl
                have c5 := cc 5 _ rfl
                have c6 := cc 6 _ rfl
                simp only [Nat.add_zero] at c0
                clear cc
                go_region
                have S5 := Lib.hid ((S4.out.far XL.out XBS.out 5 (.int .u64 (now + y))).keep (Below.refl _ _).drew)
                have X5 : Hid (Cs xb [.int .i64 x1, .int .i64 2, .int .i64 ((zt : Nat) + 1 : Int), .int .u32 0, .int .u16 0, .int .u64 (now + y), .int .u64 0] (w4.setCell ⟨xb, 5, none⟩ (.int .u64 (now + y))).drew) := (X4.out.set 5 (.int .u64 (now + y)) (by simp)).drew
                clear y0 y1 y2 y3 y4 y5 y6 yl f0 f1 f2 f3 f4 f5 f6
                clear g4 gt gb gk gh gl gvl fr c0 c1 c2 c3 c4 c5 c6
                clear S4 X4
                go_upto_region 18 with fail
                generalize (w4.setCell ⟨xb, 5, none⟩ (.int .u64 (now + y))).drew = w5 at *
                have y0 := X5.out.cell 0 _ rfl
                have y1 := X5.out.cell 1 _ rfl
                have y2 := X5.out.cell 2 _ rfl
                have y3 := X5.out.cell 3 _ rfl
                have y4 := X5.out.cell 4 _ rfl
                have y5 := X5.out.cell 5 _ rfl
                have y6 := X5.out.cell 6 _ rfl
                have yl := X5.out.lt
                have yf := fun t v (h : ([.int .i64 x1, .int .i64 2, .int .i64 ((zt : Nat) + 1 : Int), .int .u32 0, .int .u16 0, .int .u64 (now + y), .int .u64 0] : List Value)[t]? = some v) => X5.out.free t v h
                have f0 := yf 0 _ rfl
                have f1 := yf 1 _ rfl
                have f2 := yf 2 _ rfl
                have f3 := yf 3 _ rfl
                have f4 := yf 4 _ rfl
                have f5 := yf 5 _ rfl
                have f6 := yf 6 _ rfl
                clear yf
                obtain ⟨⟨⟨g4, gt, gb, gk, gh⟩, gl, gvl⟩, fr, cc⟩ := BOX.out w5 S5.out
                have c0 := cc 0 _ rfl
                have c1 := cc 1 _ rfl
                have c2 := cc 2 _ rfl
                have c3 := cc 3 _ rfl
                have c4 := cc 4 _ rfl
                have c5 := cc 5 _ rfl
                have c6 := cc 6 _ rfl
                simp only [Nat.add_zero] at c0
                clear cc
                have SP0 := PUT.out w5 _ S5.out E1 rfl
                have SP := Lib.hid (SP0.keep (Below.refl _ _).drew)
                have X6 := Lib.hid ((X5.out.touch (Touch.sets (F := fun b => b = gv) (Touch.refl _ w5) gv (fun _ => rfl) (cp ⟨x1, 2, zt + 1, 0, 0, now + y, 0⟩) (i * 7)) (fun e => GV.out.1 e.symm)).drew)
                simp only [cp, setCells7, Int.natCast_add, Int.natCast_one, Int.natCast_zero, Int.ofNat_zero, Int.cast_ofNat_Int] at SP X6
                clear KY KN DK DT DF DW PUT PUTF SAME BOX S5 X5 SP0 E1 E2 EF
                go_region
                go_upto_region 19 with fail
                generalize (((((((w5.setCell ⟨gv, i * 7, none⟩ (.int .i64 x1)).setCell ⟨gv, i * 7 + 1, none⟩ (.int .i64 2)).setCell ⟨gv, i * 7 + 2, none⟩ (.int .i64 ((zt : Nat) + 1 : Int))).setCell ⟨gv, i * 7 + 3, none⟩ (.int .u32 0)).setCell ⟨gv, i * 7 + 4, none⟩ (.int .u16 0)).setCell ⟨gv, i * 7 + 5, none⟩ (.int .u64 (now + y))).setCell ⟨gv, i * 7 + 6, none⟩ (.int .u64 0)).drew = w6 at *
                clear y0 y1 y2 y3 y4 y5 y6 yl f0 f1 f2 f3 f4 f5 f6
                clear g4 gt gb gk gh gl gvl fr c0 c1 c2 c3 c4 c5 c6
                have y0 := X6.out.cell 0 _ rfl
                clear X6
                go_wp2_with (at_builtin; refine wpList_append_lies _ rfl (.tmp 110) (.tmp 114) 49 rfl 0 53 i0 _ 2 16 Try.underlying49 hi0 hz0 hz1 hz2 rfl (by omega) sv (loD k now q).length ((loD k now q).map ck).flatten rfl (erow_keep SP.out.row ((Below.refl _ _).alloc (Nat.le_refl _) _)) ⟨_, 0, none⟩ 1 1 (ck ((x1 : Int), 1)) rfl rfl (World.news_of_block (cs := (ck ((x1 : Int), 1)).toArray) (t := 53) (fr := (0, 0)) (heap_alloc_new _ _)) (ck_ones _) (by omega) ?c2d ?c3d ?c4d _ rfl ?_)
                case c2d => unfold maxLen; omega
                case c3d => omega
                intro g1 cap1 w9 hown hgrow hat hlt9
                have S3 := Lib.hid (SP.out.keep ((Below.refl _ _).alloc (Nat.le_refl _) (.cells (ck ((x1 : Int), 1)).toArray 53)))
                have fin : ERow ck 2 53 w9 (.slice (some ⟨g1, 0, none⟩) ((loD k now q).length + 1) cap1) (loD k now (q + 1)) := by
                  rw [EQ.out]; exact erow_snoc rfl hown
                have hov : ∀ b, (Value.slice (some ⟨g1, 0, none⟩) ((loD k now q).length + 1) cap1).ownBlock = some b → w.heap.size ≤ b := fun b hb => by
                  obtain rfl : g1 = b := by injection hb
                  rcases hat with h | h
                  · exact S3.out.own _ h
                  · have := SP.out.t.size; rw [h]; simp; omega
                have SF := Lib.hid (S3.out.app hgrow fin hov)
                clear hown hgrow hat SP S3 fin hov
                go_wp2
                go_roundw
                case rel => exact ⟨q + 1, HQ.out, by rw [← LOX.out]; rfl, SF.out⟩
                case measure => simp [intOf]; omega
              · have h3' : (x2 == 3) = false := beq_eq_false_iff_ne.2 h3
                have h2' : (x2 == 2) = false := beq_eq_false_iff_ne.2 h2
                have h2n : (x2 != 2) = true := by unfold bne; rw [h2']; rfl
                have f0 := yf 0 _ rfl
                have f1 := yf 1 _ rfl
                have f2 := yf 2 _ rfl
                have f3 := yf 3 _ rfl
                have f4 := yf 4 _ rfl
                have f5 := yf 5 _ rfl
                have f6 := yf 6 _ rfl
                have EF := Lib.hid (DF.out hnx3 h2 hk)
                simp only [freshX] at EF
                go_upto_region 14 with fail
                have S2 := Lib.hid (((((((S1.out.far XL.out XBS.out 0 (.int .i64 x1)).far XL.out XBS.out 1 (.int .i64 2)).far XL.out XBS.out 2 (.int .i64 0)).far XL.out XBS.out 3 (.int .u32 0)).far XL.out XBS.out 4 (.int .u16 0)).far XL.out XBS.out 5 (.int .u64 0)).far XL.out XBS.out 6 (.int .u64 0))
                have X2 : Hid (Cs xb [.int .i64 x1, .int .i64 2, .int .i64 ((0 : Nat) : Int), .int .u32 0, .int .u16 0, .int .u64 0, .int .u64 0] (((((((w1.setCell ⟨xb, 0, none⟩ (.int .i64 x1)).setCell ⟨xb, 1, none⟩ (.int .i64 2)).setCell ⟨xb, 2, none⟩ (.int .i64 0)).setCell ⟨xb, 3, none⟩ (.int .u32 0)).setCell ⟨xb, 4, none⟩ (.int .u16 0)).setCell ⟨xb, 5, none⟩ (.int .u64 0)).setCell ⟨xb, 6, none⟩ (.int .u64 0))) :=
                  ((((((XN.out.set 0 (.int .i64 x1) (by simp)).set 1 (.int .i64 2) (by simp)).set 2 (.int .i64 0) (by simp)).set 3 (.int .u32 0) (by simp)).set 4 (.int .u16 0) (by simp)).set 5 (.int .u64 0) (by simp)).set 6 (.int .u64 0) (by simp)
                clear S1 XN y0 y1 y2 y3 y4 y5 y6 yl yf
                clear f0 f1 f2 f3 f4 f5 f6
                generalize (((((((w1.setCell ⟨xb, 0, none⟩ (.int .i64 x1)).setCell ⟨xb, 1, none⟩ (.int .i64 2)).setCell ⟨xb, 2, none⟩ (.int .i64 0)).setCell ⟨xb, 3, none⟩ (.int .u32 0)).setCell ⟨xb, 4, none⟩ (.int .u16 0)).setCell ⟨xb, 5, none⟩ (.int .u64 0)).setCell ⟨xb, 6, none⟩ (.int .u64 0)) = w2 at *
                obtain ⟨zt, hzt⟩ : ∃ zt : Nat, zt = 0 := ⟨_, rfl⟩
                have ht : ¬ ((zt : Nat) : Int) = k.tries := by omega
                replace EF : Hid (DuF k ⟨x1, x2, x3, x4, x5, x6, x7⟩ ⟨x1, 2, zt, 0, 0, 0, 0⟩ now) := by rw [hzt]; exact EF
                replace X2 : Hid (Cs xb [.int .i64 x1, .int .i64 2, .int .i64 ((zt : Nat) : Int), .int .u32 0, .int .u16 0, .int .u64 0, .int .u64 0] w2) := by rw [hzt]; exact X2
                have hz7 : zt ≤ 7 := by omega
                have hzl : ((zt : Nat) : Int) < k.tries := by omega
                clear hzt
                have ht2 : decide (k.tries ≤ ((zt : Nat) : Int)) = false := decide_eq_false (by omega)
                have hw := wait_le (n := zt) KB KB1 (by omega)
                obtain ⟨y, hy⟩ : ∃ y, k.base * 2 ^ zt = y := ⟨_, rfl⟩
                have E1 : dueX k ⟨x1, x2, x3, x4, x5, x6, x7⟩ now = ⟨x1, 2, zt + 1, 0, 0, now + y, 0⟩ := by rw [EF.out.dx]; unfold tryX; rw [if_neg ht]; simp only [hy]
                have E2 : dueK k ⟨x1, x2, x3, x4, x5, x6, x7⟩ now = 1 := by rw [EF.out.dk]; unfold tryK; rw [if_neg ht]
                have EQ := Lib.hid (KY (by rw [E2]; decide))
                rw [E2, ← HPI.out] at EQ
                rw [hy] at hw
                have p1 : IntKind.u64.wrap (k.base * 2 ^ zt) = y := by rw [hy]; exact IntWalk.u64_in y ⟨by omega, by omega⟩
                have p2 := IntWalk.u64_in (now + y) ⟨by omega, by omega⟩
                have p3 := IntWalk.i64_in (((zt : Nat) : Int) + 1) ⟨by omega, by omega⟩
                have p4 := IntWalk.i64_in (((zt : Nat) : Int)) ⟨by omega, by omega⟩
                have q1 : (0 : Int) ≤ ((zt : Nat) : Int) := by omega
                have q2 : ((zt : Nat) : Int) ≤ 64 := by omega
                replace hy := Lib.hid hy
                have y0 := X2.out.cell 0 _ rfl
                have y1 := X2.out.cell 1 _ rfl
                have y2 := X2.out.cell 2 _ rfl
                have y3 := X2.out.cell 3 _ rfl
                have y4 := X2.out.cell 4 _ rfl
                have y5 := X2.out.cell 5 _ rfl
                have y6 := X2.out.cell 6 _ rfl
                have yl := X2.out.lt
                have yf := fun t v (h : ([.int .i64 x1, .int .i64 2, .int .i64 zt, .int .u32 0, .int .u16 0, .int .u64 0, .int .u64 0] : List Value)[t]? = some v) => X2.out.free t v h
                have f0 := yf 0 _ rfl
                have f1 := yf 1 _ rfl
                have f2 := yf 2 _ rfl
                have f3 := yf 3 _ rfl
                have f4 := yf 4 _ rfl
                have f5 := yf 5 _ rfl
                have f6 := yf 6 _ rfl
                clear yf
                obtain ⟨⟨⟨g4, gt, gb, gk, gh⟩, gl, gvl⟩, fr, cc⟩ := BOX.out w2 S2.out
                have c0 := cc 0 _ rfl
                have c1 := cc 1 _ rfl
                have c2 := cc 2 _ rfl
                have c3 := cc 3 _ rfl
                have c4 := cc 4 _ rfl
                have c5 := cc 5 _ rfl
                have c6 := cc 6 _ rfl
                simp only [Nat.add_zero] at c0
                clear cc
                go_quiet (fail)
                have S3 := Lib.hid (S2.out.keep (below_drewN (Below.refl _ w2) nq))
                have X3 := Lib.hid (X2.out.keep (below_drewN (Below.refl _ w2) nq))
                clear y0 y1 y2 y3 y4 y5 y6 yl f0 f1 f2 f3 f4 f5 f6
                clear g4 gt gb gk gh gl gvl fr c0 c1 c2 c3 c4 c5 c6
                clear S2 X2
                generalize w2.drewN nq = w3 at *
                have y0 := X3.out.cell 0 _ rfl
                have y1 := X3.out.cell 1 _ rfl
                have y2 := X3.out.cell 2 _ rfl
                have y3 := X3.out.cell 3 _ rfl
                have y4 := X3.out.cell 4 _ rfl
                have y5 := X3.out.cell 5 _ rfl
                have y6 := X3.out.cell 6 _ rfl
                have yl := X3.out.lt
                have yf := fun t v (h : ([.int .i64 x1, .int .i64 2, .int .i64 zt, .int .u32 0, .int .u16 0, .int .u64 0, .int .u64 0] : List Value)[t]? = some v) => X3.out.free t v h
                have f0 := yf 0 _ rfl
                have f1 := yf 1 _ rfl
                have f2 := yf 2 _ rfl
                have f3 := yf 3 _ rfl
                have f4 := yf 4 _ rfl
                have f5 := yf 5 _ rfl
                have f6 := yf 6 _ rfl
                clear yf
                go_upto_region 17 with fail
                have S4 := Lib.hid (S3.out.far XL.out XBS.out 2 (.int .i64 ((zt : Nat) + 1 : Int)))
                have X4 : Hid (Cs xb [.int .i64 x1, .int .i64 2, .int .i64 ((zt : Nat) + 1 : Int), .int .u32 0, .int .u16 0, .int .u64 0, .int .u64 0] (w3.setCell ⟨xb, 2, none⟩ (.int .i64 ((zt : Nat) + 1 : Int)))) := X3.out.set 2 (.int .i64 ((zt : Nat) + 1 : Int)) (by simp)
                clear y0 y1 y2 y3 y4 y5 y6 yl f0 f1 f2 f3 f4 f5 f6
                clear S3 X3
                generalize (w3.setCell ⟨xb, 2, none⟩ (.int .i64 ((zt : Nat) + 1 : Int))) = w4 at *
                have y0 := X4.out.cell 0 _ rfl
                have y1 := X4.out.cell 1 _ rfl
                have y2 := X4.out.cell 2 _ rfl
                have y3 := X4.out.cell 3 _ rfl
                have y4 := X4.out.cell 4 _ rfl
                have y5 := X4.out.cell 5 _ rfl
                have y6 := X4.out.cell 6 _ rfl
                have yl := X4.out.lt
                have yf := fun t v (h : ([.int .i64 x1, .int .i64 2, .int .i64 ((zt : Nat) + 1 : Int), .int .u32 0, .int .u16 0, .int .u64 0, .int .u64 0] : List Value)[t]? = some v) => X4.out.free t v h
                have f0 := yf 0 _ rfl
                have f1 := yf 1 _ rfl
                have f2 := yf 2 _ rfl
                have f3 := yf 3 _ rfl
                have f4 := yf 4 _ rfl
                have f5 := yf 5 _ rfl
                have f6 := yf 6 _ rfl
                clear yf
                obtain ⟨⟨⟨g4, gt, gb, gk, gh⟩, gl, gvl⟩, fr, cc⟩ := BOX.out w4 S4.out
                have c0 := cc 0 _ rfl
                have c1 := cc 1 _ rfl
                have c2 := cc 2 _ rfl
                have c3 := cc 3 _ rfl
                have c4 := cc 4 _ rfl
                have c5 := cc 5 _ rfl
                have c6 := cc 6 _ rfl
                simp only [Nat.add_zero] at c0
                clear cc
                go_region
                have S5 := Lib.hid ((S4.out.far XL.out XBS.out 5 (.int .u64 (now + y))).keep (Below.refl _ _).drew)
                have X5 : Hid (Cs xb [.int .i64 x1, .int .i64 2, .int .i64 ((zt : Nat) + 1 : Int), .int .u32 0, .int .u16 0, .int .u64 (now + y), .int .u64 0] (w4.setCell ⟨xb, 5, none⟩ (.int .u64 (now + y))).drew) := (X4.out.set 5 (.int .u64 (now + y)) (by simp)).drew
                clear y0 y1 y2 y3 y4 y5 y6 yl f0 f1 f2 f3 f4 f5 f6
                clear g4 gt gb gk gh gl gvl fr c0 c1 c2 c3 c4 c5 c6
                clear S4 X4
                go_upto_region 18 with fail
                generalize (w4.setCell ⟨xb, 5, none⟩ (.int .u64 (now + y))).drew = w5 at *
                have y0 := X5.out.cell 0 _ rfl
                have y1 := X5.out.cell 1 _ rfl
                have y2 := X5.out.cell 2 _ rfl
                have y3 := X5.out.cell 3 _ rfl
                have y4 := X5.out.cell 4 _ rfl
                have y5 := X5.out.cell 5 _ rfl
                have y6 := X5.out.cell 6 _ rfl
                have yl := X5.out.lt
                have yf := fun t v (h : ([.int .i64 x1, .int .i64 2, .int .i64 ((zt : Nat) + 1 : Int), .int .u32 0, .int .u16 0, .int .u64 (now + y), .int .u64 0] : List Value)[t]? = some v) => X5.out.free t v h
                have f0 := yf 0 _ rfl
                have f1 := yf 1 _ rfl
                have f2 := yf 2 _ rfl
                have f3 := yf 3 _ rfl
                have f4 := yf 4 _ rfl
                have f5 := yf 5 _ rfl
                have f6 := yf 6 _ rfl
                clear yf
                obtain ⟨⟨⟨g4, gt, gb, gk, gh⟩, gl, gvl⟩, fr, cc⟩ := BOX.out w5 S5.out
                have c0 := cc 0 _ rfl
                have c1 := cc 1 _ rfl
                have c2 := cc 2 _ rfl
                have c3 := cc 3 _ rfl
                have c4 := cc 4 _ rfl
                have c5 := cc 5 _ rfl
                have c6 := cc 6 _ rfl
                simp only [Nat.add_zero] at c0
                clear cc
                have SP0 := PUT.out w5 _ S5.out E1 rfl
                have SP := Lib.hid (SP0.keep (Below.refl _ _).drew)
                have X6 := Lib.hid ((X5.out.touch (Touch.sets (F := fun b => b = gv) (Touch.refl _ w5) gv (fun _ => rfl) (cp ⟨x1, 2, zt + 1, 0, 0, now + y, 0⟩) (i * 7)) (fun e => GV.out.1 e.symm)).drew)
                simp only [cp, setCells7, Int.natCast_add, Int.natCast_one, Int.natCast_zero, Int.ofNat_zero, Int.cast_ofNat_Int] at SP X6
                clear KY KN DK DT DF DW PUT PUTF SAME BOX S5 X5 SP0 E1 E2 EF
                go_region
                go_upto_region 19 with fail
                generalize (((((((w5.setCell ⟨gv, i * 7, none⟩ (.int .i64 x1)).setCell ⟨gv, i * 7 + 1, none⟩ (.int .i64 2)).setCell ⟨gv, i * 7 + 2, none⟩ (.int .i64 ((zt : Nat) + 1 : Int))).setCell ⟨gv, i * 7 + 3, none⟩ (.int .u32 0)).setCell ⟨gv, i * 7 + 4, none⟩ (.int .u16 0)).setCell ⟨gv, i * 7 + 5, none⟩ (.int .u64 (now + y))).setCell ⟨gv, i * 7 + 6, none⟩ (.int .u64 0)).drew = w6 at *
                clear y0 y1 y2 y3 y4 y5 y6 yl f0 f1 f2 f3 f4 f5 f6
                clear g4 gt gb gk gh gl gvl fr c0 c1 c2 c3 c4 c5 c6
                have y0 := X6.out.cell 0 _ rfl
                clear X6
                go_wp2_with (at_builtin; refine wpList_append_lies _ rfl (.tmp 110) (.tmp 114) 49 rfl 0 53 i0 _ 2 16 Try.underlying49 hi0 hz0 hz1 hz2 rfl (by omega) sv (loD k now q).length ((loD k now q).map ck).flatten rfl (erow_keep SP.out.row ((Below.refl _ _).alloc (Nat.le_refl _) _)) ⟨_, 0, none⟩ 1 1 (ck ((x1 : Int), 1)) rfl rfl (World.news_of_block (cs := (ck ((x1 : Int), 1)).toArray) (t := 53) (fr := (0, 0)) (heap_alloc_new _ _)) (ck_ones _) (by omega) ?c2e ?c3e ?c4e _ rfl ?_)
                case c2e => unfold maxLen; omega
                case c3e => omega
                intro g1 cap1 w9 hown hgrow hat hlt9
                have S3 := Lib.hid (SP.out.keep ((Below.refl _ _).alloc (Nat.le_refl _) (.cells (ck ((x1 : Int), 1)).toArray 53)))
                have fin : ERow ck 2 53 w9 (.slice (some ⟨g1, 0, none⟩) ((loD k now q).length + 1) cap1) (loD k now (q + 1)) := by
                  rw [EQ.out]; exact erow_snoc rfl hown
                have hov : ∀ b, (Value.slice (some ⟨g1, 0, none⟩) ((loD k now q).length + 1) cap1).ownBlock = some b → w.heap.size ≤ b := fun b hb => by
                  obtain rfl : g1 = b := by injection hb
                  rcases hat with h | h
                  · exact S3.out.own _ h
                  · have := SP.out.t.size; rw [h]; simp; omega
                have SF := Lib.hid (S3.out.app hgrow fin hov)
                clear hown hgrow hat SP S3 fin hov
                go_wp2
                go_roundw
                case rel => exact ⟨q + 1, HQ.out, by rw [← LOX.out]; rfl, SF.out⟩
                case measure => simp [intOf]; omega
      · have hge : ¬ (((loP k.p n).length : Nat) : Int) < ((allP k.p).length : Nat) := by omega
        have hnn : loP k.p n = loP k.p 33 ∧ midD k now 33 = midD k now n ∧ loD k now 33 = loD k now n := by
          have nos : ∀ j, n ≤ j → j < 33 → isS (k.p j) = false := fun j a b => by
            cases e : isS (k.p j) with
            | false => rfl
            | true =>
              exfalso
              have mono : ∀ dd, (loP k.p n).length ≤ (loP k.p (n + dd)).length := fun dd => by
                induction dd with
                | zero => exact Nat.le_refl _
                | succ dd ih =>
                  rw [← Nat.add_assoc]
                  cases e2 : isS (k.p (n + dd)) with
                  | true => rw [lo_yes e2, List.length_append]; omega
                  | false => rw [lo_no e2]; exact ih
              have mono2 : ∀ dd, (loP k.p (j + 1)).length ≤ (loP k.p (j + 1 + dd)).length := fun dd => by
                induction dd with
                | zero => exact Nat.le_refl _
                | succ dd ih =>
                  rw [← Nat.add_assoc]
                  cases e2 : isS (k.p (j + 1 + dd)) with
                  | true => rw [lo_yes e2, List.length_append]; omega
                  | false => rw [lo_no e2]; exact ih
              have h1 := mono (j - n)
              have h2 := mono2 (33 - (j + 1))
              rw [show n + (j - n) = j by omega] at h1
              rw [show j + 1 + (33 - (j + 1)) = 33 by omega] at h2
              rw [lo_yes e, List.length_append] at h2
              unfold allP at hlt
              simp only [List.length_singleton] at h2
              omega
          have e := mid_skip (k := k) (now := now) (n := n) (33 - n) (fun j a b => nos j a (by omega))
          rw [show n + (33 - n) = 33 by omega] at e
          refine ⟨?_, e⟩
          have := lo_mono k.p n (33 - n) (fun j a b => nos j a (by omega))
          rw [show n + (33 - n) = 33 by omega] at this
          exact this.symm
        obtain ⟨a, cap, hsv⟩ := erow_sl HS.out.row
        subst hsv
        have FI : Hid (NewE ck 2 53 (loD k now 33) w ⟨a, (loD k now n).length, cap⟩ wr ∧ Qs g ⟨av, (allP k.p).length, uc⟩ (midD k now 33) wr ∧ Touch (QOwn g ⟨av, (allP k.p).length, uc⟩) w wr) := by
          have := HS.out
          rw [hnn.2.1, hnn.2.2]
          exact ⟨⟨this.row, rfl, this.own⟩, this.q, this.t⟩
        generalize (loD k now n).length = mm at *
        clear HS hnn
        go_wp2
        refine bodyPost_ret (v := (.slice a mm cap)) (by simp [results, Try.results22, go_sem, *]) rfl ?_
        exact ⟨⟨a, mm, cap⟩, rfl, FI.out.1, FI.out.2.1, FI.out.2.2⟩
end Go.Proofs.Ytpeoallhbbleaaa
