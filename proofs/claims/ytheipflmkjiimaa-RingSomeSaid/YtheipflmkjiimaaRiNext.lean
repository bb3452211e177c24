/- The ring's Next (a label, a goto). -/
import Derived.Test.YtheipflmkjiimaaRiSmall
namespace Go.Proofs.Ytheipflmkjiimaa
open Go.Sort Go.RowKit Go.BigFrame
set_option linter.unusedVariables false
set_option linter.unusedSimpArgs false

/-- where Next stands at its label -/
structure NxS (g : Nat) (s : Int) (v : Sl) (L l : List Int) (w : World) (s1 : Int) (v1 : Sl) (L1 : List Int) (w1 : World) : Prop where
  rs : Rs g s1 v1 L1 w1
  touch : Touch (fun b => b = g) w w1
  own : ∀ b, OwnR g v1 b → OwnR g v b ∨ w.heap.size ≤ b
  todo : nextL s1 L1 l = nextL s L l
section
variable {g : Nat} {s s1 : Int} {v v1 : Sl} {L l L1 : List Int} {w w1 w2 : World}
theorem NxS.start (h : Rs g s v L w) : NxS g s v L l w s v L w := ⟨h, Touch.refl _ _, fun _ h => .inl h, rfl⟩
theorem NxS.pop {x : Int} {r : List Int} {b o n c n' c' : Nat} {ad : Addr} (h : NxS g s v L l w s1 ⟨some ⟨b, o, none⟩, n, c⟩ (x :: r) w1) (had : (if c = 1 then ⟨b, o, none⟩ else ⟨b, o + 1, none⟩ : Addr) = ad) (hn : n' + 1 = n) (hc : c' + 1 = c) :
    Rs g s1 ⟨some ad, n', c'⟩ r (w1.setCell ⟨g, 1, none⟩ (.slice (some ad) n' c')) := by
  have hb : ad.block = b := by rw [← had]; split <;> rfl
  have hnl : n = r.length + 1 := h.rs.n
  have hcl : n ≤ c := h.rs.cap
  have hk : ∀ k, blk (some ad) k → k = b := by
    rintro k ⟨ad', e, rfl⟩
    injection e with e
    rw [← e, hb]
  have hs := h.rs.small
  simp at hs
  refine h.rs.put (v' := ⟨some ad, n', c'⟩) ?_ (by show n' = _; omega) (by show n' ≤ c'; omega) (fun e => by cases e) (fun k hk2 => ?_) (fun hk2 => ?_) (by omega)
  · by_cases h1 : c = 1
    · obtain rfl : r = [] := List.eq_nil_of_length_eq_zero (by omega)
      exact Rd.nil _ _ _ _
    · rw [if_neg h1] at had
      subst had
      exact h.rs.rd.tail
  · rw [hk k hk2]; exact h.rs.lo b blk_some
  · have e := hk g hk2
    exact h.rs.ne (by rw [e]; exact blk_some)
theorem pop_own {b o n c n' c' : Nat} {ad : Addr} (had : (if c = 1 then ⟨b, o, none⟩ else ⟨b, o + 1, none⟩ : Addr) = ad) (k : Nat) (h : OwnR g ⟨some ad, n', c'⟩ k) : OwnR g ⟨some ⟨b, o, none⟩, n, c⟩ k := by
  have hb : ad.block = b := by rw [← had]; split <;> rfl
  rcases h with h | ⟨ad', e, rfl⟩
  · exact .inl h
  · injection e with e
    subst e
    exact .inr ⟨_, rfl, hb.symm⟩
/-- the first one is not in l: on -/
theorem NxS.on {x : Int} {r : List Int} {b o n c n' c' : Nat} {ad : Addr} (h : NxS g s v L l w s1 ⟨some ⟨b, o, none⟩, n, c⟩ (x :: r) w1) (had : (if c = 1 then ⟨b, o, none⟩ else ⟨b, o + 1, none⟩ : Addr) = ad) (hn : n' + 1 = n) (hc : c' + 1 = c) (hx : isIn x l = false) :
    NxS g s v L l w s1 ⟨some ad, n', c'⟩ r (w1.setCell ⟨g, 1, none⟩ (.slice (some ad) n' c')) := by
  refine ⟨h.pop had hn hc, h.touch.set (a := ⟨g, 1, none⟩) (fun _ => rfl) _, fun k hk => h.own k (pop_own had k hk), ?_⟩
  rw [← h.todo, nextL_out (isIn_not.1 hx)]
theorem NxS.done {x : Int} {r : List Int} {b o n c n' c' : Nat} {ad : Addr} (hl : 0 < l.length) (h : NxS g s v L l w s1 ⟨some ⟨b, o, none⟩, n, c⟩ (x :: r) w1) (had : (if c = 1 then ⟨b, o, none⟩ else ⟨b, o + 1, none⟩ : Addr) = ad) (hn : n' + 1 = n) (hc : c' + 1 = c) (hx : isIn x l = true) :
    x = idR s L l ∧ AftR g v (stR s L l) (leftR s L l) w (w1.setCell ⟨g, 1, none⟩ (.slice (some ad) n' c')) := by
  have e := h.todo
  rw [nextL_in (isIn_iff.1 hx)] at e
  rw [next_id s L l hl, next_st s L l hl, next_left s L l hl, ← e]
  exact ⟨rfl, _, h.pop had hn hc, h.touch.set (a := ⟨g, 1, none⟩) (fun _ => rfl) _, fun k hk => h.own k (pop_own had k hk)⟩
/-- l is mixed, and stored -/
theorem NxS.mixed {x : Int} {r m : List Int} {b : Nat} {s2 : Int} {w2 : World} (hl : l.length ≤ 1000) (h : NxS g s v L l w s1 v1 [] w1) (hb : Below w1.heap.size w1 w2) (hm : mixL s1 l = (m, s2)) (hans : Ans w1.heap.size w2 (some ⟨b, 0, none⟩) l.length m) (hx : m = x :: r) (hxl : x ∈ l) :
    NxS g s v L l w s2 ⟨some ⟨b, 0, none⟩, l.length, l.length⟩ (x :: r) ((w2.setCell ⟨g, 1, none⟩ (.slice (some ⟨b, 0, none⟩) l.length l.length)).setCell ⟨g, 0, none⟩ (.int .u64 s2)) := by
  subst hx
  obtain ⟨hlen, hrd, hlo⟩ := hans
  have hb1 : w1.heap.size ≤ b := hlo _ rfl
  have gl := h.rs.box.lt
  have r2 := h.rs.keep hb
  have hb2 : b < w2.heap.size := by
    obtain ⟨b', off, e, hB, _⟩ := hrd (by simp)
    injection e with e
    injection e with e _
    subst e
    exact hB
  have r3 : Rs g s1 ⟨some ⟨b, 0, none⟩, l.length, l.length⟩ (x :: r) (w2.setCell ⟨g, 1, none⟩ (.slice (some ⟨b, 0, none⟩) l.length l.length)) := r2.put (v' := ⟨some ⟨b, 0, none⟩, l.length, l.length⟩) hrd hlen.symm (Nat.le_refl _) (fun e => by cases e) (fun k hk => by rw [blk_inj hk]; exact hb2) (fun hk => by have := blk_inj hk; omega) (by omega)
  refine ⟨r3.stream s2, ?_, ?_, ?_⟩
  · exact ((h.touch.trans (Touch.of_below (fun b => b = g) hb) (fun _ _ h => h)).set (a := ⟨g, 1, none⟩) (fun _ => rfl) _).set (a := ⟨g, 0, none⟩) (fun _ => rfl) _
  · rintro k (rfl | hk)
    · exact .inl (.inl rfl)
    · rw [blk_inj hk]
      exact .inr (Nat.le_trans h.touch.size hb1)
  · rw [← h.todo, nextL_nil, hm, nextL_in hxl]
end
def leftN (g : Nat) (w : World) : Nat := match w.cell? ⟨g, 1, none⟩ with | some (.slice _ n _) => n | _ => 0
def NxJ (g : Nat) (s : Int) (v : Sl) (L l : List Int) (a : Option Addr) (cap : Nat) (w : World) (a' : Act) (w' : World) : Prop :=
  ∃ s1 v1 L1, NxS g s v L l w s1 v1 L1 w' ∧ a'.defers = [] ∧ (∃ u2 u3 u4 u5 u6 u7 u8 u9 u10 u11 u12 u13 u14 u15 u16 u17 u18 u19 u20 u21 u22 u23 u24 u25 u26 u27 u28 u29 u30 u31 u32 u33 u34 u35 u36 u37 u38 u39 u40 u41 u42 u43 u44 u45 u46 u47 u48 u49, a'.tmps = #[.pointer (some ⟨g, 0, none⟩), .slice a l.length cap, u2, u3, u4, u5, u6, u7, u8, u9, u10, u11, u12, u13, u14, u15, u16, u17, u18, u19, u20, u21, u22, u23, u24, u25, u26, u27, u28, u29, u30, u31, u32, u33, u34, u35, u36, u37, u38, u39, u40, u41, u42, u43, u44, u45, u46, u47, u48, u49])
/-- behind the if: somebody is left -/
def NxC (g : Nat) (s : Int) (v : Sl) (L l : List Int) (w : World) (k : Nat) (w1 : World) : Prop := ∃ s2 b o n c x r, NxS g s v L l w s2 ⟨some ⟨b, o, none⟩, n, c⟩ (x :: r) w1 ∧ (x ∈ l ∨ r.length < k)
theorem NxS.left {g : Nat} {s s1 : Int} {v v1 : Sl} {L l L1 : List Int} {w w1 : World} (h : NxS g s v L l w s1 v1 L1 w1) : leftN g w1 = L1.length := by
  have x1 := h.rs.box.cell 1 _ rfl
  unfold leftN
  rw [x1]
  exact h.rs.n
set_option maxHeartbeats 3200000 in
set_option maxRecDepth 100000 in
theorem next_some (g : Nat) (s : Int) (v : Sl) (L : List Int) (a : Option Addr) (cap : Nat) (l : List Int) (hl0 : 0 < l.length) (hl : l.length ≤ 1000) (hcap : l.length ≤ cap) (w : World) (h : Rs g s v L w) (hr : Rd .i64 w w.heap.size a l) (hne : Hid (¬ blk a g)) :
    Calls Try.prog 15 #[.pointer (some ⟨g, 0, none⟩), .slice a l.length cap] w fun e w' => e = .returned (.tuple #[.int .i64 (idR s L l), .bool true]) ∧ AftR g v (stR s L l) (leftR s L l) w w' := by
  have H0 := Lib.hid (NxS.start (l := l) h)
  have HR := Lib.hid hr
  have hle : ¬ (l.length : Int) = 0 := by omega
  have hle2 : ((l.length : Int) == 0) = false := by rw [beq_eq_false_iff_ne]; exact hle
  clear h hr
  go_enter Try.func15, Try.ntmps15
  go_wp2
  refine wp_scope_jumps 0 (NxJ g s v L l a cap w) (fun _ w' => leftN g w') rfl ?_ ?_
  · go_wp2_with fail
    go_step3
    obtain ⟨s1, hs1⟩ : ∃ s1, s1 = s := ⟨_, rfl⟩
    obtain ⟨v1, hv1⟩ : ∃ v1, v1 = v := ⟨_, rfl⟩
    obtain ⟨L1, hL1⟩ : ∃ L1, L1 = L := ⟨_, rfl⟩
    obtain ⟨w1, hw1⟩ : ∃ w1, w1 = w := ⟨_, rfl⟩
    have HS : Hid (NxS g s v L l w s1 v1 L1 w1) := by rw [hs1, hv1, hL1, hw1]; exact H0
    rw [← hw1]
    clear hs1 hv1 hL1 hw1 H0
    have gl := HS.out.rs.box.lt
    have x0 := HS.out.rs.box.cell 0 _ rfl
    have x1 := HS.out.rs.box.cell 1 _ rfl
    have f0 := HS.out.rs.box.free 0 _ rfl
    have f1 := HS.out.rs.box.free 1 _ rfl
    have hn1 := HS.out.rs.n
    obtain ⟨va, vn, vc⟩ := v1
    simp only at hn1 x0 x1
    subst hn1
    obtain ⟨kk, hkk⟩ : ∃ kk, L1.length = kk := ⟨_, rfl⟩
    replace hkk := Lib.hid hkk
    go_upto_if 15 with fail
    go_cut [] (fun wx => NxC g s v L l w kk wx)
    case first =>
      rcases L1 with _ | ⟨x, r⟩
      · have hr1 := Rd.touch HR.out HS.out.touch (fun b hb e => hne.out (by rw [← e]; exact hb))
        have K := mix_ans s1 a l.length cap l (by omega) hcap rfl _ hr1
        obtain ⟨⟨m, s2⟩, hm⟩ : ∃ q, mixL s1 l = q := ⟨_, rfl⟩
        rw [hm] at K
        simp only at K
        have FM : Hid (∀ (b : Nat) w2, Ans _ w2 (some ⟨b, 0, none⟩) l.length m → Below _ _ w2 → NxC g s v L l w kk ((w2.setCell ⟨g, 1, none⟩ (.slice (some ⟨b, 0, none⟩) l.length l.length)).setCell ⟨g, 0, none⟩ (.int .u64 s2))) := fun b w2 hans hb => by
          obtain ⟨x, r, s', h1, h2, -⟩ := nextL_cases s1 [] l hl0
          rw [nextL_nil, hm] at h1
          injection h1 with h1 h3
          exact ⟨_, _, _, _, _, x, r, HS.out.mixed hl hb hm hans h1 h2, .inl h2⟩
        have HX := Lib.hid HS.out.rs.box
        clear hr1 hm HS x0 x1 f0 f1
        have x0 := HX.out.cell 0 _ rfl
        have x1 := HX.out.cell 1 _ rfl
        have f0 := HX.out.free 0 _ rfl
        have f1 := HX.out.free 1 _ rfl
        go_wp2_with fail
        refine K.mono ?_; rintro e w2 ⟨b, rfl, hans, hb⟩
        have F := Lib.hid (FM.out b w2 hans hb)
        have HX2 := Lib.hid (HX.out.keep hb)
        clear K FM hans hb HX x0 x1 f0 f1 gl
        have x0 := HX2.out.cell 0 _ rfl
        have x1 := HX2.out.cell 1 _ rfl
        have f0 := HX2.out.free 0 _ rfl
        have f1 := HX2.out.free 1 _ rfl
        have gl := HX2.out.lt
        go_wp2_with fail
        go_meet
        exact F.out
      · have F : Hid (NxC g s v L l w kk w1) := by
          have hr := HS.out.rs.rd
          obtain ⟨b, off, e, _, _⟩ := hr (by simp)
          simp only at e
          subst e
          exact ⟨_, _, _, _, _, x, r, HS.out, .inr (by have := hkk.out; simp at this; omega)⟩
        clear HS
        have hne2 : ¬ (((x :: r).length : Nat) : Int) = 0 := by simp; omega
        have hne3 : ((((x :: r).length : Nat) : Int) == 0) = false := by rw [beq_eq_false_iff_ne]; exact hne2
        go_wp2_with fail
        go_meet
        exact F.out
    case rest =>
      obtain ⟨s2, b, o, n, c, x, r, hs2, hdown⟩ := hcut
      clear x0 x1 f0 f1 gl HS
      generalize wc = w3 at *
      have gl := hs2.rs.box.lt
      have x1 := hs2.rs.box.cell 1 _ rfl
      have f1 := hs2.rs.box.free 1 _ rfl
      have hn := hs2.rs.n
      simp only at hn x1
      have hcc := hs2.rs.cap
      simp only at hcc
      have hn1 : 1 ≤ n := by simp at hn; omega
      have hc1 : 1 ≤ c := by omega
      have hsm := hs2.rs.small
      have hn1000 : n ≤ 1000 := by simp at hn hsm; omega
      have hnc : n ≤ c := by omega
      obtain ⟨b', o', hbo, hB, hcx⟩ := hs2.rs.rd (by simp)
      injection hbo with hbo
      injection hbo with hb1 hb2
      subst hb1 hb2
      have cx := hcx 0 (by simp)
      simp only [Nat.add_zero, List.getD_cons_zero] at cx
      have hnp : (0 : Int) < (n : Int) := by omega
      have hnp2 : 0 < n := by omega
      have hi1 : (1 : Int) ≤ (n : Int) := by omega
      have hci : (n : Int) ≤ (c : Int) := by omega
      obtain ⟨ad, had⟩ : ∃ ad, (if c = 1 then ⟨b, o, none⟩ else ⟨b, o + 1, none⟩ : Addr) = ad := ⟨_, rfl⟩
      have hif : (if c = 1 then some (⟨b, o, none⟩ : Addr) else some ⟨b, o + 1, none⟩) = some ad := by rw [← had]; split <;> rfl
      have HS2 := Lib.hid hs2
      have hr3 := Rd.touch HR.out ((hs2.touch).set (a := ⟨g, 1, none⟩) (fun _ => rfl) (.slice (some ad) (n - 1) (c - 1))) (fun b hb e => hne.out (by rw [← e]; exact hb))
      have K := contains_any a cap l (by omega) x _ hr3
      have HA := Lib.hid had
      have HD := Lib.hid hdown
      clear hcx hs2 hr3 hn hcc hsm had hdown
      have hsub1 : (n : Int) - 1 = ((n - 1 : Nat) : Int) := by omega
      have hsub2 : (c : Int) - 1 = ((c - 1 : Nat) : Int) := by omega
      obtain ⟨q, hq⟩ : ∃ q, isIn x l = q := ⟨_, rfl⟩
      rw [hq] at K
      have HQ := Lib.hid hq
      clear hq
      go_wp2_with fail
      refine K.mono ?_; rintro e w4 ⟨rfl, rfl⟩
      clear K
      cases q
      · have HJ := Lib.hid (HS2.out.on HA.out (n' := n - 1) (c' := c - 1) (by omega) (by omega) HQ.out)
        have HD2 : Hid (r.length < kk) := HD.out.resolve_left (isIn_not.1 HQ.out)
        clear HS2 HD HA HQ
        go_wp2
        go_step3
        go_wp2
        exact ⟨rfl, ⟨_, _, _, HJ.out, rfl, ⟨_, _, _, _, _, _, _, _, _, _, _, _, _, _, _, _, _, _, _, _, _, _, _, _, _, _, _, _, _, _, _, _, _, _, _, _, _, _, _, _, _, _, _, _, _, _, _, _, rfl⟩⟩⟩
      · have F := Lib.hid (HS2.out.done hl0 HA.out (n' := n - 1) (c' := c - 1) (by omega) (by omega) HQ.out)
        have hx : Hid (x = idR s L l) := F.out.1
        clear HS2 HD HA HQ
        go_wp2
        simp only [Exit.jump]
        refine bodyPost_ret (v := (.tuple #[.int .i64 x, .bool true])) (by simp [results, Try.results15, go_sem, *]) rfl ?_
        exact ⟨by rw [hx.out], F.out.2⟩


  · rintro ⟨t1, dd1⟩ w1 ⟨s1, v1, L1, hs, hd, ⟨u2, u3, u4, u5, u6, u7, u8, u9, u10, u11, u12, u13, u14, u15, u16, u17, u18, u19, u20, u21, u22, u23, u24, u25, u26, u27, u28, u29, u30, u31, u32, u33, u34, u35, u36, u37, u38, u39, u40, u41, u42, u43, u44, u45, u46, u47, u48, u49, ht⟩⟩
    obtain rfl : dd1 = [] := hd
    obtain rfl : t1 = _ := ht
    have hmu := Lib.hid hs.left
    have HS := Lib.hid hs
    clear hs H0
    have gl := HS.out.rs.box.lt
    have x0 := HS.out.rs.box.cell 0 _ rfl
    have x1 := HS.out.rs.box.cell 1 _ rfl
    have f0 := HS.out.rs.box.free 0 _ rfl
    have f1 := HS.out.rs.box.free 1 _ rfl
    have hn1 := HS.out.rs.n
    obtain ⟨va, vn, vc⟩ := v1
    simp only at hn1 x0 x1
    subst hn1
    obtain ⟨kk, hkk⟩ : ∃ kk, L1.length = kk := ⟨_, rfl⟩
    replace hkk := Lib.hid hkk
    go_upto_if 15 with fail
    go_cut [] (fun wx => NxC g s v L l w kk wx)
    case first =>
      rcases L1 with _ | ⟨x, r⟩
      · have hr1 := Rd.touch HR.out HS.out.touch (fun b hb e => hne.out (by rw [← e]; exact hb))
        have K := mix_ans s1 a l.length cap l (by omega) hcap rfl _ hr1
        obtain ⟨⟨m, s2⟩, hm⟩ : ∃ q, mixL s1 l = q := ⟨_, rfl⟩
        rw [hm] at K
        simp only at K
        have FM : Hid (∀ (b : Nat) w2, Ans _ w2 (some ⟨b, 0, none⟩) l.length m → Below _ _ w2 → NxC g s v L l w kk ((w2.setCell ⟨g, 1, none⟩ (.slice (some ⟨b, 0, none⟩) l.length l.length)).setCell ⟨g, 0, none⟩ (.int .u64 s2))) := fun b w2 hans hb => by
          obtain ⟨x, r, s', h1, h2, -⟩ := nextL_cases s1 [] l hl0
          rw [nextL_nil, hm] at h1
          injection h1 with h1 h3
          exact ⟨_, _, _, _, _, x, r, HS.out.mixed hl hb hm hans h1 h2, .inl h2⟩
        have HX := Lib.hid HS.out.rs.box
        clear hr1 hm HS x0 x1 f0 f1
        have x0 := HX.out.cell 0 _ rfl
        have x1 := HX.out.cell 1 _ rfl
        have f0 := HX.out.free 0 _ rfl
        have f1 := HX.out.free 1 _ rfl
        go_wp2_with fail
        refine K.mono ?_; rintro e w2 ⟨b, rfl, hans, hb⟩
        have F := Lib.hid (FM.out b w2 hans hb)
        have HX2 := Lib.hid (HX.out.keep hb)
        clear K FM hans hb HX x0 x1 f0 f1 gl
        have x0 := HX2.out.cell 0 _ rfl
        have x1 := HX2.out.cell 1 _ rfl
        have f0 := HX2.out.free 0 _ rfl
        have f1 := HX2.out.free 1 _ rfl
        have gl := HX2.out.lt
        go_wp2_with fail
        go_meet
        exact F.out
      · have F : Hid (NxC g s v L l w kk w1) := by
          have hr := HS.out.rs.rd
          obtain ⟨b, off, e, _, _⟩ := hr (by simp)
          simp only at e
          subst e
          exact ⟨_, _, _, _, _, x, r, HS.out, .inr (by have := hkk.out; simp at this; omega)⟩
        clear HS
        have hne2 : ¬ (((x :: r).length : Nat) : Int) = 0 := by simp; omega
        have hne3 : ((((x :: r).length : Nat) : Int) == 0) = false := by rw [beq_eq_false_iff_ne]; exact hne2
        go_wp2_with fail
        go_meet
        exact F.out
    case rest =>
      obtain ⟨s2, b, o, n, c, x, r, hs2, hdown⟩ := hcut
      clear x0 x1 f0 f1 gl HS
      generalize wc = w3 at *
      have gl := hs2.rs.box.lt
      have x1 := hs2.rs.box.cell 1 _ rfl
      have f1 := hs2.rs.box.free 1 _ rfl
      have hn := hs2.rs.n
      simp only at hn x1
      have hcc := hs2.rs.cap
      simp only at hcc
      have hn1 : 1 ≤ n := by simp at hn; omega
      have hc1 : 1 ≤ c := by omega
      have hsm := hs2.rs.small
      have hn1000 : n ≤ 1000 := by simp at hn hsm; omega
      have hnc : n ≤ c := by omega
      obtain ⟨b', o', hbo, hB, hcx⟩ := hs2.rs.rd (by simp)
      injection hbo with hbo
      injection hbo with hb1 hb2
      subst hb1 hb2
      have cx := hcx 0 (by simp)
      simp only [Nat.add_zero, List.getD_cons_zero] at cx
      have hnp : (0 : Int) < (n : Int) := by omega
      have hnp2 : 0 < n := by omega
      have hi1 : (1 : Int) ≤ (n : Int) := by omega
      have hci : (n : Int) ≤ (c : Int) := by omega
      obtain ⟨ad, had⟩ : ∃ ad, (if c = 1 then ⟨b, o, none⟩ else ⟨b, o + 1, none⟩ : Addr) = ad := ⟨_, rfl⟩
      have hif : (if c = 1 then some (⟨b, o, none⟩ : Addr) else some ⟨b, o + 1, none⟩) = some ad := by rw [← had]; split <;> rfl
      have HS2 := Lib.hid hs2
      have hr3 := Rd.touch HR.out ((hs2.touch).set (a := ⟨g, 1, none⟩) (fun _ => rfl) (.slice (some ad) (n - 1) (c - 1))) (fun b hb e => hne.out (by rw [← e]; exact hb))
      have K := contains_any a cap l (by omega) x _ hr3
      have HA := Lib.hid had
      have HD := Lib.hid hdown
      clear hcx hs2 hr3 hn hcc hsm had hdown
      have hsub1 : (n : Int) - 1 = ((n - 1 : Nat) : Int) := by omega
      have hsub2 : (c : Int) - 1 = ((c - 1 : Nat) : Int) := by omega
      obtain ⟨q, hq⟩ : ∃ q, isIn x l = q := ⟨_, rfl⟩
      rw [hq] at K
      have HQ := Lib.hid hq
      clear hq
      go_wp2_with fail
      refine K.mono ?_; rintro e w4 ⟨rfl, rfl⟩
      clear K
      cases q
      · have HJ := Lib.hid (HS2.out.on HA.out (n' := n - 1) (c' := c - 1) (by omega) (by omega) HQ.out)
        have HD2 : Hid (r.length < kk) := HD.out.resolve_left (isIn_not.1 HQ.out)
        clear HS2 HD HA HQ
        go_wp2
        go_step3
        go_wp2
        exact ⟨rfl, ⟨_, _, _, HJ.out, rfl, ⟨_, _, _, _, _, _, _, _, _, _, _, _, _, _, _, _, _, _, _, _, _, _, _, _, _, _, _, _, _, _, _, _, _, _, _, _, _, _, _, _, _, _, _, _, _, _, _, _, rfl⟩⟩, by show leftN g _ < leftN g _; rw [HJ.out.left, hmu.out, hkk.out]; exact HD2.out⟩
      · have F := Lib.hid (HS2.out.done hl0 HA.out (n' := n - 1) (c' := c - 1) (by omega) (by omega) HQ.out)
        have hx : Hid (x = idR s L l) := F.out.1
        clear HS2 HD HA HQ
        go_wp2
        simp only [Exit.jump]
        refine bodyPost_ret (v := (.tuple #[.int .i64 x, .bool true])) (by simp [results, Try.results15, go_sem, *]) rfl ?_
        exact ⟨by rw [hx.out], F.out.2⟩


end Go.Proofs.Ytheipflmkjiimaa
