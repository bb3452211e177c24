/- The program's: Due (as tools/gen_due18.py wrote it). -/
import Derived.Test.YtpeoallhbbleaaaPaAll
import Derived.Deep.AppendLies
namespace Go.Proofs.Ytpeoallhbbleaaa
open Go.Sort Go.RowKit Go.BigFrame
set_option linter.unusedVariables false
set_option linter.unusedSimpArgs false

/-- a scope whose label is fallen into and jumped back to: one body for all passes -/
theorem wp_scope_body {P : Program} {c rest : Code} {a : Act} {w : World} {Q : Exit → Act → World → Prop} (l : Nat) (J : Act → World → Prop) (μ : Act → World → Nat) (hf : findLabel c l = some (.seq .skip rest))
    (first : (∀ a w, J a w → rest.wp P (Exit.jump l J Q) a w) → c.wp P (Exit.jump l J Q) a w)
    (pass : ∀ a w, J a w → rest.wp P (Exit.jump l (fun a' w' => J a' w' ∧ μ a' w' < μ a w) Q) a w) : (Code.scope c).wp P Q a w := by
  refine wp_scope_jumps l J μ hf (first fun a w h => ?_) (fun a w h => wp_seq (wp_skip (pass a w h)))
  refine Code.wp_mono (fun e a1 w1 h => ?_) (pass a w h)
  cases e <;> first | exact ⟨h.1, h.2.1⟩ | exact h
theorem info_st : (Try.prog.info? 52).map (fun i => (i.zero, i.size, i.bytes)) = some (some (.agg #[.int .i64 0, .int .i64 0]), 2, 16) := by kernel_rfl
theorem p_zero {k : Tk} (h : OkK k) : k.p 0 = zP := by
  rcases h.p 0 with h1 | h1
  · exact h1
  · have := h1.lo; omega
/-- Due on its way: what is to be sent, the table as far as it was gone through -/
structure DueS (g : Nat) (k' : Tk) (E : List (Int × Int)) (w : World) (sv : Value) (wr : World) : Prop where
  row : ERow ck 2 52 wr sv E
  aft : TAft g k' w wr
  own : ∀ b, sv.ownBlock = some b → w.heap.size ≤ b
  gl : g < w.heap.size
section
variable {g : Nat} {k' k2 : Tk} {E E' : List (Int × Int)} {w wr w' : World} {sv sv' : Value}
theorem DueS.keep (h : DueS g k' E w sv wr) (hb : Below wr.heap.size wr w') : DueS g k' E w sv w' := ⟨erow_keep h.row hb, h.aft.then_ hb, h.own, h.gl⟩
theorem DueS.step (h : DueS g k' E w sv wr) (ht : TAft g k2 wr w') : DueS g k2 E w sv w' := by
  refine ⟨erow_touch h.row ht.2 (fun b hb e => ?_), ⟨ht.1, h.aft.2.trans ht.2 (fun _ _ h => h)⟩, h.own, h.gl⟩
  have h1 := h.own b hb; have h2 := h.gl; have e' : b = g := e; omega
theorem DueS.app (h : DueS g k' E w sv wr) (hg : wr.grownBy w' sv.ownBlock) (hr : ERow ck 2 52 w' sv' E') (ho : ∀ b, sv'.ownBlock = some b → w.heap.size ≤ b) : DueS g k' E' w sv' w' := by
  have T : Touch (fun b => sv.ownBlock = some b) wr w' := Touch.of_grown hg (fun _ h => h)
  refine ⟨hr, ⟨h.aft.1.touch T (fun e => ?_), h.aft.2.trans T (fun b hb e => ?_)⟩, ho, h.gl⟩
  · have h1 := h.own g e; have h2 := h.gl; omega
  · have h1 := h.own b e; omega
end
def DueJ (g : Nat) (now : Int) (k : Tk) (w : World) (a' : Act) (w' : World) : Prop :=
  ∃ (n : Nat) (q : Int) (sv : Value), q = (n : Int) - 1 ∧ (1 ≤ n ∧ n ≤ 33) ∧ DueS g (midD k now n) (loD k now n) w sv w' ∧ a'.defers = [] ∧ (∃ u2 u3 u4 u7 u8 u9 u10 u11 u12 u13 u14 u15 u16 u17 u18 u19 u20 u21 u22 u23 u24 u25 u26 u27 u28 u29 u30 u31 u32 u33 u34 u35 u36 u37 u38 u39 u40 u41 u42 u43 u44 u45, a'.tmps = #[.pointer (some ⟨g, 0, none⟩), .int .u64 now, u2, u3, u4, sv, .int .i64 q, u7, u8, u9, u10, u11, u12, u13, u14, u15, u16, u17, u18, u19, u20, u21, u22, u23, u24, u25, u26, u27, u28, u29, u30, u31, u32, u33, u34, u35, u36, u37, u38, u39, u40, u41, u42, u43, u44, u45])
def DuePost (g : Nat) (k : Tk) (now : Int) (w : World) (e : Ending) (w' : World) : Prop :=
  ∃ u : Sl, e = .returned (.slice u.a u.n u.c) ∧ NewE ck 2 52 (dueL k now) w u w' ∧ TAft g (dueD k now) w w'
set_option maxHeartbeats 12800000 in
set_option maxRecDepth 100000 in
theorem due_any (now : Int) (n0 : 0 ≤ now) (g : Nat) (k : Tk) (w : World) (h : Ts g k w) :
    Calls Try.prog 21 #[.pointer (some ⟨g, 0, none⟩), .int .u64 now] w (DuePost g k now w) := by
  obtain ⟨i0, hi0, hz0, hz1, hz2⟩ := info_parts info_st
  unfold DuePost
  by_cases hl : 4611686018427387904 < now
  · have e1 : dueL k now = [] := by unfold dueL; rw [if_pos hl]
    have e2 : dueD k now = k := by unfold dueD; rw [if_pos hl]
    rw [e1, e2]
    have F := Lib.hid (h.same (Below.refl _ _))
    clear h e1 e2
    go_enter Try.func21, Try.ntmps21
    go_wp2
    refine wp_scope_fwd 0 rfl ?_
    go_wp2
    simp only [Exit.jump]
    refine bodyPost_ret (v := (.slice none 0 0)) (by simp [results, Try.results21, go_sem, *]) rfl ?_
    exact ⟨nilS, rfl, ⟨erow_nil, rfl, fun b hb => absurd hb (nil_own b)⟩, F.out⟩
  · have n1 : now ≤ 4611686018427387904 := by omega
    have e1 : dueL k now = loD k now 33 := by unfold dueL; rw [if_neg hl]
    have e2 : dueD k now = midD k now 33 := by unfold dueD; rw [if_neg hl]
    rw [e1, e2]
    have HK := Lib.hid h.ok
    have z0 := p_zero h.ok
    have hz : isD (k.p 0) now = false := by rw [z0]; rfl
    have M1 : midD k now 1 = k := by rw [mid_same hz, mid_zero]
    have L1 : loD k now 1 = [] := by
      rw [loD_no (by unfold dueK; rw [hz, if_neg (by decide)])]; rfl
    have S0 : Hid (DueS g (midD k now 1) (loD k now 1) w (.slice none 0 0) w) := by
      rw [M1, L1]
      exact ⟨erow_nil, h.same (Below.refl _ _), fun b hb => by simp [Value.ownBlock] at hb, h.lt⟩
    clear h e1 e2 z0 hz M1 L1
    go_enter Try.func21, Try.ntmps21
    go_wp2
    refine wp_scope_body 0 (DueJ g now k w) (fun a' _ => (34 - intOf (a'.tmps.getD 6 undef)).toNat) rfl ?_ ?_
    · intro hgo
      go_wp2_with fail
      go_step3
      simp only [Exit.then]
      go_step
      refine hgo _ _ ?_
      exact ⟨1, 0, _, rfl, by omega, S0.out, rfl, ⟨_, _, _, _, _, _, _, _, _, _, _, _, _, _, _, _, _, _, _, _, _, _, _, _, _, _, _, _, _, _, _, _, _, _, _, _, _, _, _, _, _, _, rfl⟩⟩
    rintro ⟨t1, dd1⟩ wr ⟨n, q, sv, hq, hn, hS, hd, ⟨u2, u3, u4, u7, u8, u9, u10, u11, u12, u13, u14, u15, u16, u17, u18, u19, u20, u21, u22, u23, u24, u25, u26, u27, u28, u29, u30, u31, u32, u33, u34, u35, u36, u37, u38, u39, u40, u41, u42, u43, u44, u45, ht⟩⟩
    obtain rfl : dd1 = [] := hd
    obtain rfl : t1 = _ := ht
    subst hq
    have HS := Lib.hid hS
    clear hS S0
    have p1 : (n : Int) - 1 + 1 = n := by omega
    have p2 := IntWalk.i64_in (n : Int) ⟨by omega, by omega⟩
    by_cases hlt : n ≤ 32
    · have hlt2 : ¬ (32 : Int) < n := by omega
      have hn0 : (0 : Int) ≤ n := by omega
      have hn1 : (n : Int) < 33 := by omega
      have hn2 : n < 33 := by omega
      have HN : Hid (1 ≤ n + 1 ∧ n + 1 ≤ 33) := ⟨by omega, by omega⟩
      have K := isP_any n g _ wr HS.out.aft.1
      rw [isP_at HS.out.aft.1.ok, mid_at] at K
      cases hs : isS (k.p n) with
      | false =>
        rw [hs] at K
        have hD : isD (k.p n) now = false := by unfold isD; rw [hs]; rfl
        have S1 : Hid (DueS g (midD k now (n + 1)) (loD k now (n + 1)) w sv wr) := by
          rw [mid_same hD, loD_no (by unfold dueK; rw [hD, if_neg (by decide)])]; exact HS.out
        clear hD hs HS
        go_wp2_with fail
        refine K.mono ?_; rintro e w2 ⟨rfl, rfl⟩
        clear K
        go_wp2
        go_step3
        refine ⟨rfl, ⟨n + 1, n, sv, by omega, HN.out, S1.out, rfl, ⟨_, _, _, _, _, _, _, _, _, _, _, _, _, _, _, _, _, _, _, _, _, _, _, _, _, _, _, _, _, _, _, _, _, _, _, _, _, _, _, _, _, _, rfl⟩⟩, ?_⟩
        simp [intOf]; omega
      | true =>
        rw [hs] at K
        have c5 := HS.out.aft.1.p n hn2 5 _ rfl
        rw [mid_at] at c5
        have glr := HS.out.aft.1.lt
        by_cases hx : now < (k.p n).nx
        · have hD : isD (k.p n) now = false := by unfold isD; rw [hs, decide_eq_false (by omega)]; rfl
          have S1 : Hid (DueS g (midD k now (n + 1)) (loD k now (n + 1)) w sv wr) := by
            rw [mid_same hD, loD_no (by unfold dueK; rw [hD, if_neg (by decide)])]; exact HS.out
          have hx2 : decide (now < (k.p n).nx) = true := decide_eq_true hx
          clear hD hs HS
          generalize (k.p n).nx = y at *
          go_wp2_with fail
          refine K.mono ?_; rintro e w2 ⟨rfl, rfl⟩
          clear K
          go_wp2
          go_step3
          refine ⟨rfl, ⟨n + 1, n, sv, by omega, HN.out, S1.out, rfl, ⟨_, _, _, _, _, _, _, _, _, _, _, _, _, _, _, _, _, _, _, _, _, _, _, _, _, _, _, _, _, _, _, _, _, _, _, _, _, _, _, _, _, _, rfl⟩⟩, ?_⟩
          simp [intOf]; omega
        · have hx2 : decide (now < (k.p n).nx) = false := decide_eq_false hx
          have hD : isD (k.p n) now = true := by unfold isD; rw [hs, decide_eq_true (by omega)]; rfl
          have K2 := step_any n now n0 n1 g _ wr HS.out.aft.1 (by rw [mid_at]; exact hs)
          unfold StepPost at K2
          rw [mid_at, (step_mid k now n (k.p n)).1, (step_mid k now n (k.p n)).2] at K2
          have EX : dueX k (k.p n) now = stepX k (k.p n) now := by unfold dueX; rw [if_pos hD]
          have EK : dueK k (k.p n) now = stepK k (k.p n) now := by unfold dueK; rw [if_pos hD]
          rw [← EX, mid_succ, ← EK] at K2
          have KY := loD_yes (k := k) (now := now) (i := n)
          have KN := loD_no (k := k) (now := now) (i := n)
          clear EX EK hD hs
          generalize (k.p n).nx = y at *
          generalize dueK k (k.p n) now = kd at *
          have hml := loD_len k now n
          go_wp2_with fail
          refine K.mono ?_; rintro e w2 ⟨rfl, rfl⟩
          clear K
          go_wp2_with fail
          refine K2.mono ?_; rintro e w2 ⟨rfl, ta⟩
          have S2 : Hid (DueS g (midD k now (n + 1)) (loD k now n) w sv w2) := HS.out.step ta
          clear K2 ta HS c5 glr
          by_cases hk : kd = 0
          · have EQ := KN hk
            subst hk
            have S3 : Hid (DueS g (midD k now (n + 1)) (loD k now (n + 1)) w sv w2) := by rw [EQ]; exact S2.out
            clear KN KY EQ S2
            go_wp2
            go_step3
            refine ⟨rfl, ⟨n + 1, n, sv, by omega, HN.out, S3.out, rfl, ⟨_, _, _, _, _, _, _, _, _, _, _, _, _, _, _, _, _, _, _, _, _, _, _, _, _, _, _, _, _, _, _, _, _, _, _, _, _, _, _, _, _, _, rfl⟩⟩, ?_⟩
            simp [intOf]; omega
          · have EQ := Lib.hid (KY hk)
            have hk2 : (kd == 0) = false := beq_eq_false_iff_ne.2 hk
            clear KN KY
            go_wp2_with (at_builtin; refine wpList_append_lies _ rfl (.tmp 40) (.tmp 44) 47 rfl 0 52 i0 _ 2 16 Try.underlying47 hi0 hz0 hz1 hz2 rfl (by omega) sv (loD k now n).length ((loD k now n).map ck).flatten rfl (erow_keep S2.out.row ((Below.refl _ _).alloc (Nat.le_refl _) _)) ⟨_, 0, none⟩ 1 1 (ck ((n : Int), kd)) rfl rfl (World.news_of_block (cs := (ck ((n : Int), kd)).toArray) (t := 52) (fr := (0, 0)) (heap_alloc_new _ _)) (ck_ones _) (by omega) ?c2 ?c3 ?c4 _ rfl ?_)
            case c2 => unfold maxLen; omega
            case c3 => omega
            case c4 => exact Nat.zero_le _
            intro g1 cap1 w9 hown hgrow hat hlt9
            have S3 := Lib.hid (S2.out.keep ((Below.refl _ _).alloc (Nat.le_refl _) (.cells (ck ((n : Int), kd)).toArray 52)))
            have fin : ERow ck 2 52 w9 (.slice (some ⟨g1, 0, none⟩) ((loD k now n).length + 1) cap1) (loD k now (n + 1)) := by
              rw [EQ.out]; exact erow_snoc rfl hown
            have hov : ∀ b, (Value.slice (some ⟨g1, 0, none⟩) ((loD k now n).length + 1) cap1).ownBlock = some b → w.heap.size ≤ b := fun b hb => by
              obtain rfl : g1 = b := by injection hb
              rcases hat with h | h
              · exact S3.out.own _ h
              · have := S2.out.aft.2.size; rw [h]; simp; omega
            have S4 := Lib.hid (S3.out.app hgrow fin hov)
            clear hown hgrow hat S2 S3 fin hov
            go_wp2
            go_step3
            refine ⟨rfl, ⟨n + 1, n, _, by omega, HN.out, S4.out, rfl, ⟨_, _, _, _, _, _, _, _, _, _, _, _, _, _, _, _, _, _, _, _, _, _, _, _, _, _, _, _, _, _, _, _, _, _, _, _, _, _, _, _, _, _, rfl⟩⟩, ?_⟩
            simp [intOf]; omega
    · obtain rfl : n = 33 := by omega
      obtain ⟨a, cap, hsv⟩ := erow_sl HS.out.row
      subst hsv
      have F : Hid (NewE ck 2 52 (loD k now 33) w ⟨a, (loD k now 33).length, cap⟩ wr ∧ TAft g (midD k now 33) w wr) := ⟨⟨HS.out.row, rfl, HS.out.own⟩, HS.out.aft⟩
      generalize (loD k now 33).length = m at *
      clear HS
      go_wp2
      simp only [Exit.jump]
      refine bodyPost_ret (v := (.slice a m cap)) (by simp [results, Try.results21, go_sem, *]) rfl ?_
      exact ⟨⟨a, m, cap⟩, rfl, F.out.1, F.out.2⟩
end Go.Proofs.Ytpeoallhbbleaaa
