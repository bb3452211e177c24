/- The program's: try, step. -/
import Derived.Test.YtpeoallhbbleaaaPaOpen
namespace Go.Proofs.Ytpeoallhbbleaaa
open Go.Sort Go.RowKit Go.BigFrame
set_option linter.unusedVariables false
set_option linter.unusedSimpArgs false

theorem setCells7 (w : World) (g o : Nat) (v0 v1 v2 v3 v4 v5 v6 : Value) : w.setCells g o [v0, v1, v2, v3, v4, v5, v6] = ((((((w.setCell ⟨g, o, none⟩ v0).setCell ⟨g, o + 1, none⟩ v1).setCell ⟨g, o + 2, none⟩ v2).setCell ⟨g, o + 3, none⟩ v3).setCell ⟨g, o + 4, none⟩ v4).setCell ⟨g, o + 5, none⟩ v5).setCell ⟨g, o + 6, none⟩ v6 := rfl
def TryPost (g : Nat) (k : Tk) (n : Nat) (now : Int) (w : World) (e : Ending) (w' : World) : Prop := e = .returned (.int .i64 (tryK k (k.p n))) ∧ TAft g (setP k n (tryX k (k.p n) now)) w w'
set_option maxHeartbeats 3200000 in
theorem try_any (n : Nat) (now : Int) (n0 : 0 ≤ now) (n1 : now ≤ 4611686018427387904) (g : Nat) (k : Tk) (w : World) (h : Ts g k w) (hs : (k.p n).st = 2) :
    Calls Try.prog 35 #[.pointer (some ⟨g, 0, none⟩), .pointer (some ⟨g, 4 + n * 7, none⟩), .int .u64 now] w (TryPost g k n now w) := by
  have hk := h.ok.yes n (by unfold isS; rw [hs]; rfl)
  have hn2 : n < 33 := by have := hk.hi; omega
  have RO := h.ok.upd (i := n) (.inr (try_ok h.ok hk hs now n0 n1))
  have H := Lib.hid h
  have c2 := h.p n hn2 2 _ rfl
  have d0 := h.hd 0 _ rfl
  have d1 := h.hd 1 _ rfl
  have d3 := h.hd 3 _ rfl
  have fr := fun o => h.free o
  have gl := h.lt
  have h0 := h.ok.h0
  have h1 := h.ok.h1
  have b0 := h.ok.b0
  have b1 := h.ok.b1
  have t1 := h.ok.t1
  have ht := hk.tr
  unfold TryPost
  by_cases he : ((k.p n).tr : Int) = k.tries
  · have e1 : tryK k (k.p n) = 0 := by unfold tryK; rw [if_pos he]
    have e2 : tryX k (k.p n) now = { k.p n with st := 1, nx := now + k.hold } := by unfold tryX; rw [if_pos he]
    rw [e2] at RO
    rw [e1, e2]
    have p2 := IntWalk.u64_in (now + k.hold) ⟨by omega, by omega⟩
    have c1 := h.p n hn2 1 _ rfl
    have c5 := h.p n hn2 5 _ rfl
    rw [he] at c2
    have F := Lib.hid (fun nq => ((h.keep (below_drewN (Below.refl _ w) nq)).set2 (i := n) (j := 1) (l := 5) hn2 (by omega) (by omega) { k.p n with st := 1 } { k.p n with st := 1, nx := now + k.hold } (.int .i64 1) (.int .u64 (now + k.hold)) rfl rfl RO).after (below_drewN (Below.refl _ w) nq))
    clear h RO H e1 e2 hk ht
    generalize k.p n = x at *
    go_enter Try.func35, Try.ntmps35
    go_upto_region 1 with fail
    go_quiet (fail)
    go_wp2
    refine bodyPost_ret (v := (.int .i64 0)) (by simp [results, Try.results35, go_sem, *]) rfl ?_
    exact ⟨rfl, F.out _⟩
  · have e1 : tryK k (k.p n) = 1 := by unfold tryK; rw [if_neg he]
    have e2 : tryX k (k.p n) now = { k.p n with nx := now + k.base * 2 ^ (k.p n).tr, tr := (k.p n).tr + 1 } := by unfold tryX; rw [if_neg he]
    rw [e2] at RO
    rw [e1, e2]
    have hw := wait_le b0 b1 (show (k.p n).tr ≤ 7 by omega)
    have he2 : (((k.p n).tr : Int) == k.tries) = false := beq_eq_false_iff_ne.2 he
    have ht7 : (k.p n).tr ≤ 7 := by omega
    have F := Lib.hid (fun w2 (b : Below w.heap.size w w2) => (((h.keep b).set2 (i := n) (j := 5) (l := 2) hn2 (by omega) (by omega) { k.p n with nx := now + k.base * 2 ^ (k.p n).tr } { k.p n with nx := now + k.base * 2 ^ (k.p n).tr, tr := (k.p n).tr + 1 } (.int .u64 (now + k.base * 2 ^ (k.p n).tr)) (.int .i64 ((k.p n).tr + 1)) rfl rfl RO).after b).then_ (Below.refl _ _).drew)
    have C2 : Hid (∀ w2, Below w.heap.size w w2 → (w2.cell? ⟨g, 4 + n * 7 + 2, none⟩ = some (.int .i64 (k.p n).tr) ∧ w2.cell? ⟨g, 4 + n * 7 + 5, none⟩ = some (.int .u64 (k.p n).nx)) ∧ (w2.cell? ⟨g, 1, none⟩ = some (.int .u64 k.base) ∧ g < w2.heap.size) ∧ ∀ o, w2.frozen? ⟨g, o, none⟩ = false) := fun w2 b =>
      ⟨⟨(h.keep b).p n hn2 2 _ rfl, (h.keep b).p n hn2 5 _ rfl⟩, ⟨(h.keep b).hd 1 _ rfl, (h.keep b).lt⟩, fun o => (h.keep b).free o⟩
    clear h RO H e1 e2 hk hs
    generalize k.p n = x at *
    have p1 := IntWalk.u64_in (k.base * 2 ^ x.tr) ⟨by omega, by omega⟩
    have p2 := IntWalk.u64_in (now + k.base * 2 ^ x.tr) ⟨by omega, by omega⟩
    have p3 := IntWalk.i64_in ((x.tr : Int) + 1) ⟨by omega, by omega⟩
    have q1 : (0 : Int) ≤ x.tr := by omega
    have q2 : (x.tr : Int) ≤ 64 := by omega
    have q3 : ((x.tr : Int)).toNat = x.tr := by omega
    go_enter Try.func35, Try.ntmps35
    go_upto_region 1 with fail
    go_quiet (fail)
    go_upto_region 4 with fail
    have B2 : Hid (Below w.heap.size w (w.drewN nq)) := below_drewN (Below.refl _ w) nq
    generalize w.drewN nq = w2 at *
    have FF := Lib.hid (F.out w2 B2.out)
    clear c2 d0 d1 d3 fr gl F
    obtain ⟨⟨c2, c5⟩, ⟨d1, gl⟩, fr⟩ := C2.out w2 B2.out
    clear C2 B2
    go_region
    go_wp2
    refine bodyPost_ret (v := (.int .i64 1)) (by simp [results, Try.results35, go_sem, *]) rfl ?_
    exact ⟨rfl, FF.out⟩
def StepPost (g : Nat) (k : Tk) (n : Nat) (now : Int) (w : World) (e : Ending) (w' : World) : Prop := e = .returned (.int .i64 (stepK k (k.p n) now)) ∧ TAft g (setP k n (stepX k (k.p n) now)) w w'
set_option maxHeartbeats 3200000 in
theorem step_any (n : Nat) (now : Int) (n0 : 0 ≤ now) (n1 : now ≤ 4611686018427387904) (g : Nat) (k : Tk) (w : World) (h : Ts g k w) (hs : isS (k.p n) = true) :
    Calls Try.prog 34 #[.pointer (some ⟨g, 0, none⟩), .pointer (some ⟨g, 4 + n * 7, none⟩), .int .u64 now] w (StepPost g k n now w) := by
  have hk := h.ok.yes n hs
  have hn2 : n < 33 := by have := hk.hi; omega
  have hh := h.ok
  unfold StepPost
  by_cases h2 : (k.p n).st = 2
  · have K := try_any n now n0 n1 g k w h h2
    have e1 : stepK k (k.p n) now = tryK k (k.p n) := by unfold stepK; rw [if_pos h2]
    have e2 : stepX k (k.p n) now = tryX k (k.p n) now := by unfold stepX; rw [if_pos h2]
    rw [e1, e2]
    have c1 := h.p n hn2 1 _ rfl
    rw [h2] at c1
    have gl := h.lt
    unfold TryPost at K
    generalize tryK k (k.p n) = q at *
    generalize tryX k (k.p n) now = y at *
    clear h hk hh e1 e2 h2 hs
    go_enter Try.func34, Try.ntmps34
    go_wp2
    refine wp_scope_fwd 0 rfl ?_
    go_wp2_with fail
    go_step3
    simp only [Exit.then]
    go_step
    go_wp2_with fail
    refine K.mono ?_; rintro e w1 ⟨rfl, ta⟩
    have TA := Lib.hid ta
    clear K ta
    go_wp2
    simp only [Exit.jump]
    refine bodyPost_ret (v := (.int .i64 q)) (by simp [results, Try.results34, go_sem, *]) rfl ?_
    exact ⟨rfl, TA.out⟩
  · have h2' : ((k.p n).st == 2) = false := beq_eq_false_iff_ne.2 h2
    by_cases h3 : (k.p n).st = 3 ∧ now < (k.p n).un
    · have e1 : stepK k (k.p n) now = 2 := by unfold stepK; rw [if_neg h2, if_pos h3]
      have e2 : stepX k (k.p n) now = { k.p n with nx := now + k.keep } := by unfold stepX; rw [if_neg h2, if_pos h3]
      have RO := h.ok.upd (i := n) (.inr (step_ok h.ok hk now n0 n1))
      rw [e2] at RO
      rw [e1, e2]
      have k0 := h.ok.k0
      have k1 := h.ok.k1
      have p2 := IntWalk.u64_in (now + k.keep) ⟨by omega, by omega⟩
      have c1 := h.p n hn2 1 _ rfl
      have c5 := h.p n hn2 5 _ rfl
      have c6 := h.p n hn2 6 _ rfl
      have d2 := h.hd 2 _ rfl
      have fr := fun o => h.free o
      have gl := h.lt
      obtain ⟨h3, hu⟩ := h3
      rw [h3] at c1
      have F := Lib.hid (h.set (i := n) (j := 5) hn2 (by omega) { k.p n with nx := now + k.keep } (.int .u64 (now + k.keep)) rfl RO)
      have hu2 : decide (now < (k.p n).un) = true := decide_eq_true hu
      clear h hk hh e1 e2 h2 hs RO h3 h2'
      generalize k.p n = x at *
      go_enter Try.func34, Try.ntmps34
      go_wp2
      refine wp_scope_fwd 0 rfl ?_
      go_wp2_with fail
      go_step3
      simp only [Exit.then]
      go_step
      go_wp2
      simp only [Exit.jump]
      refine bodyPost_ret (v := (.int .i64 2)) (by simp [results, Try.results34, go_sem, *]) rfl ?_
      exact ⟨rfl, F.out⟩
    · have e1 : stepK k (k.p n) now = tryK k (freshX (k.p n)) := by unfold stepK; rw [if_neg h2, if_neg h3]
      have e2 : stepX k (k.p n) now = tryX k (freshX (k.p n)) now := by unfold stepX; rw [if_neg h2, if_neg h3]
      have RO := h.ok.upd (i := n) (.inr (fresh_ok h.ok hk))
      rw [e1, e2]
      have F := Lib.hid (h.put hn2 (freshX (k.p n)) RO)
      have K := Lib.hid (fun w1 (ta : TAft g (setP k n (freshX (k.p n))) w w1) => try_any n now n0 n1 g _ w1 ta.1 (by show (upd _ _ _ _ : Pt).st = 2; rw [upd_same]; rfl))
      have SP : (setP k n (freshX (k.p n))).p n = freshX (k.p n) := upd_same _ _ _
      have c0 := h.p n hn2 0 _ rfl
      have c1 := h.p n hn2 1 _ rfl
      have c2 := h.p n hn2 2 _ rfl
      have c3 := h.p n hn2 3 _ rfl
      have c4 := h.p n hn2 4 _ rfl
      have c5 := h.p n hn2 5 _ rfl
      have c6 := h.p n hn2 6 _ rfl
      simp only [Nat.add_zero] at c0
      have fr := fun o => h.free o
      have gl := h.lt
      clear h hk hh e1 e2 hs RO
      generalize k.p n = x at *
      simp only [cp, freshX, setCells7, Int.natCast_zero, Int.ofNat_zero, Int.cast_ofNat_Int] at F
      by_cases h4 : x.st = 3
      · have h5 : decide (now < x.un) = false := decide_eq_false (fun e => h3 ⟨h4, e⟩)
        rw [h4] at c1
        go_enter Try.func34, Try.ntmps34
        go_wp2
        refine wp_scope_fwd 0 rfl ?_
        go_wp2_with fail
        go_step3
        simp only [Exit.then]
        go_step
        go_wp2
        go_step3
        refine ⟨rfl, ?_⟩
        clear c0 c1 c2 c3 c4 c5 c6 fr gl
        generalize (((((((w.setCell ⟨g, 4 + n * 7, none⟩ (.int .i64 x.peer)).setCell ⟨g, 4 + n * 7 + 1, none⟩ (.int .i64 2)).setCell ⟨g, 4 + n * 7 + 2, none⟩ (.int .i64 0)).setCell ⟨g, 4 + n * 7 + 3, none⟩ (.int .u32 0)).setCell ⟨g, 4 + n * 7 + 4, none⟩ (.int .u16 0)).setCell ⟨g, 4 + n * 7 + 5, none⟩ (.int .u64 0)).setCell ⟨g, 4 + n * 7 + 6, none⟩ (.int .u64 0)) = w1 at *
        have KK := K.out w1 F.out
        have c1 := F.out.1.p n hn2 1 _ rfl
        have gl := F.out.1.lt
        have SP2 : (setP k n ⟨x.peer, 2, 0, 0, 0, 0, 0⟩).p n = ⟨x.peer, 2, 0, 0, 0, 0, 0⟩ := SP
        unfold TryPost at KK
        rw [SP] at KK
        rw [SP2] at c1
        have E1 : tryK (setP k n (freshX x)) (freshX x) = tryK k (freshX x) := rfl
        have E2 : setP (setP k n (freshX x)) n (tryX (setP k n (freshX x)) (freshX x) now) = setP k n (tryX k (freshX x) now) := by
          show setP (setP k n (freshX x)) n (tryX k (freshX x) now) = _
          unfold setP; simp only [upd_upd]
        rw [E1, E2] at KK
        simp only at c1
        obtain ⟨q, hq⟩ : ∃ q, tryK k (freshX x) = q := ⟨_, rfl⟩
        obtain ⟨y, hy⟩ : ∃ y, tryX k (freshX x) now = y := ⟨_, rfl⟩
        rw [hq, hy] at KK
        replace hq := Lib.hid hq
        replace hy := Lib.hid hy
        clear K SP SP2 E1 E2
        go_wp2_with fail
        refine KK.mono ?_; rintro e w2 ⟨rfl, ta⟩
        have TA : Hid (TAft g (setP k n y) w w2) := F.out.trans ta
        clear KK ta
        go_wp2
        rw [Exit.noGoto_ret]
        refine bodyPost_ret (v := (.int .i64 q)) (by simp [results, Try.results34, go_sem, *]) rfl ?_
        exact ⟨by rw [hq.out], by rw [hy.out]; exact TA.out⟩
      · have h4' : (x.st == 3) = false := beq_eq_false_iff_ne.2 h4
        go_enter Try.func34, Try.ntmps34
        go_wp2
        refine wp_scope_fwd 0 rfl ?_
        go_wp2_with fail
        go_step3
        simp only [Exit.then]
        go_step
        go_wp2
        go_step3
        refine ⟨rfl, ?_⟩
        clear c0 c1 c2 c3 c4 c5 c6 fr gl
        generalize (((((((w.setCell ⟨g, 4 + n * 7, none⟩ (.int .i64 x.peer)).setCell ⟨g, 4 + n * 7 + 1, none⟩ (.int .i64 2)).setCell ⟨g, 4 + n * 7 + 2, none⟩ (.int .i64 0)).setCell ⟨g, 4 + n * 7 + 3, none⟩ (.int .u32 0)).setCell ⟨g, 4 + n * 7 + 4, none⟩ (.int .u16 0)).setCell ⟨g, 4 + n * 7 + 5, none⟩ (.int .u64 0)).setCell ⟨g, 4 + n * 7 + 6, none⟩ (.int .u64 0)) = w1 at *
        have KK := K.out w1 F.out
        have c1 := F.out.1.p n hn2 1 _ rfl
        have gl := F.out.1.lt
        have SP2 : (setP k n ⟨x.peer, 2, 0, 0, 0, 0, 0⟩).p n = ⟨x.peer, 2, 0, 0, 0, 0, 0⟩ := SP
        unfold TryPost at KK
        rw [SP] at KK
        rw [SP2] at c1
        have E1 : tryK (setP k n (freshX x)) (freshX x) = tryK k (freshX x) := rfl
        have E2 : setP (setP k n (freshX x)) n (tryX (setP k n (freshX x)) (freshX x) now) = setP k n (tryX k (freshX x) now) := by
          show setP (setP k n (freshX x)) n (tryX k (freshX x) now) = _
          unfold setP; simp only [upd_upd]
        rw [E1, E2] at KK
        simp only at c1
        obtain ⟨q, hq⟩ : ∃ q, tryK k (freshX x) = q := ⟨_, rfl⟩
        obtain ⟨y, hy⟩ : ∃ y, tryX k (freshX x) now = y := ⟨_, rfl⟩
        rw [hq, hy] at KK
        replace hq := Lib.hid hq
        replace hy := Lib.hid hy
        clear K SP SP2 E1 E2
        go_wp2_with fail
        refine KK.mono ?_; rintro e w2 ⟨rfl, ta⟩
        have TA : Hid (TAft g (setP k n y) w w2) := F.out.trans ta
        clear KK ta
        go_wp2
        rw [Exit.noGoto_ret]
        refine bodyPost_ret (v := (.int .i64 q)) (by simp [results, Try.results34, go_sem, *]) rfl ?_
        exact ⟨by rw [hq.out], by rw [hy.out]; exact TA.out⟩
end Go.Proofs.Ytpeoallhbbleaaa
