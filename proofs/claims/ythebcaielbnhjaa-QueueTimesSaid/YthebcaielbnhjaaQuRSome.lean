/- The reference's Some. -/
import Derived.Test.YthebcaielbnhjaaQuRAdd
namespace Go.Proofs.Ythebcaielbnhjaa
open Go.Sort Go.RowKit Go.BigFrame
set_option linter.unusedVariables false
set_option linter.unusedSimpArgs false

theorem info_rrec : (Try.prog.info? 52).map (fun i => (i.zero, i.size, i.bytes)) = some (some (.agg #[.int .i64 0, .int .i64 0, .int .u32 0, .int .u32 0, .int .u16 0]), 5, 32) := by kernel_rfl
theorem foldS_snoc : ∀ (T S : List Im) (x : Im), foldS (T ++ [x]) S = if 1 < x.left then putS (decI x) (foldS T S) else foldS T S
  | [], S, x => rfl
  | y :: T, S, x => by
    show foldS (T ++ [x]) _ = _
    rw [foldS_snoc T]; rfl
theorem foldS_len (T S : List Im) : (foldS T S).length ≤ T.length + S.length := by
  rw [(fold_perm T S).length_eq, List.length_append]
  have := down_len T
  omega
def foldTo (S : List Im) (c j : Nat) : List Im := foldS (S.take j) (S.drop c)
theorem foldTo_succ {S : List Im} {c j : Nat} {x : Im} (h : S[j]? = some x) : foldTo S c (j + 1) = if 1 < x.left then putS (decI x) (foldTo S c j) else foldTo S c j := by
  obtain ⟨hj, rfl⟩ := List.getElem?_eq_some_iff.1 h
  unfold foldTo
  rw [List.take_succ_eq_append_getElem hj, foldS_snoc]
theorem foldTo_len {S : List Im} {c j : Nat} (h : j ≤ c) : (foldTo S c j).length ≤ S.length := by
  unfold foldTo
  have := foldS_len (S.take j) (S.drop c)
  rw [List.length_take, List.length_drop] at this
  omega
structure RsS (S : List Im) (c g room i j : Nat) (w : World) (sv : Value) (vq : Sl) (wr : World) : Prop where
  told : ERow rcs 5 52 wr sv (toldTo S i)
  q : Lr g room vq (foldTo S c j) wr
  touch : Touch (fun b => b = g) w wr
  lo : ∀ k, sv.ownBlock = some k → w.heap.size ≤ k
  loq : ∀ k, vq.v.ownBlock = some k → w.heap.size ≤ k
  apart : ∀ k, sv.ownBlock = some k → vq.v.ownBlock ≠ some k
  glt : g < w.heap.size
def RsJ (S : List Im) (c g room : Nat) (w : World) (sv iv : Value) (wr : World) : Prop := ∃ (i : Nat) (vq : Sl), i ≤ c ∧ iv = .int .i64 (i : Nat) ∧ RsS S c g room i i w sv vq wr
section
variable {S : List Im} {c g room i j : Nat} {w wr w9 : World} {sv : Value} {vq : Sl} {x : Im}
theorem RsS.app {g1 cap1 : Nat} {o : Obj} (h : RsS S c g room i j w sv vq wr) (hx : S[i]? = some x) (hown : w9.ownsRow 0 52 5 (.slice (some ⟨g1, 0, none⟩) ((toldTo S i).length + 1) cap1) ((toldTo S i).length + 1) (((toldTo S i).map rcs).flatten ++ rcs x.r))
    (hgrow : (wr.alloc o).grownBy w9 sv.ownBlock) (hat : sv.ownBlock = some g1 ∨ g1 = (wr.alloc o).heap.size) : RsS S c g room (i + 1) j w (.slice (some ⟨g1, 0, none⟩) ((toldTo S i).length + 1) cap1) vq w9 := by
  have t9 : Touch (fun k => sv.ownBlock = some k) (wr.alloc o) w9 := Touch.of_grown hgrow (fun _ h => h)
  have t0 : Touch (fun _ => False) wr (wr.alloc o) := (Touch.refl _ _).alloc o
  have t1 : Touch (fun k => sv.ownBlock = some k) wr w9 := (t0.mono (fun _ _ h => h.elim)).trans t9 (fun _ _ h => h)
  refine ⟨by rw [toldTo_succ hx]; exact erow_snoc rfl hown, h.q.touch t1 (fun b hb e => ?_), ?_, fun k hk => ?_, h.loq, fun k hk e => ?_, h.glt⟩
  · rcases hb with rfl | hb
    · have := h.lo _ e; have := h.glt; omega
    · exact h.apart b e hb
  · exact h.touch.trans t1 (fun k hk e => by have := h.lo k e; omega)
  · have e : g1 = k := Option.some.inj hk
    subst e
    rcases hat with h1 | h1
    · exact h.lo _ h1
    · have := h.touch.size; simp at h1; omega
  · have e1 : g1 = k := Option.some.inj hk
    subst e1
    rcases hat with h1 | h1
    · exact h.apart _ h1 e
    · have := erow_lt h.q.row e; simp at h1; omega
theorem RsS.drewN (h : RsS S c g room i j w sv vq wr) (n : Nat) : RsS S c g room i j w sv vq (wr.drewN n) :=
  ⟨h.told, ⟨h.q.box.keep (below_drewN (Below.refl _ _) n), h.q.row, h.q.ne⟩, ⟨h.touch.os, h.touch.tape, h.touch.output, h.touch.size, h.touch.block⟩, h.lo, h.loq, h.apart, h.glt⟩
theorem RsS.skip (h : RsS S c g room i j w sv vq wr) (hx : S[j]? = some x) (hl : ¬ 1 < x.left) : RsS S c g room i (j + 1) w sv vq wr :=
  ⟨h.told, by rw [foldTo_succ hx, if_neg hl]; exact h.q, h.touch, h.lo, h.loq, h.apart, h.glt⟩
theorem RsS.put (h : RsS S c g room i j w sv vq wr) (hx : S[j]? = some x) (hl : 1 < x.left) (ha : RAft g room (putS (decI x) (foldTo S c j)) wr w9) : ∃ vq', RsS S c g room i (j + 1) w sv vq' w9 := by
  obtain ⟨v', h1, h2, h3⟩ := ha
  refine ⟨v', erow_touch h.told h2 (fun k hk e => by have := h.lo k hk; have := h.glt; omega), by rw [foldTo_succ hx, if_pos hl]; exact h1, h.touch.trans h2 (fun _ _ h => h), h.lo, fun k hk => Nat.le_trans h.touch.size (h3 k hk), fun k hk e => ?_, h.glt⟩
  have := h3 k e
  have := erow_lt h.told hk
  omega
end
set_option maxHeartbeats 6400000 in
set_option maxRecDepth 100000 in
theorem rsome_any (k : Int) (g room : Nat) (v : Sl) (S : List Im) (w : World) (h : Qs false g room v S w) :
    Calls Try.prog 17 #[.pointer (some ⟨g, 0, none⟩), .int .i64 k] w (SomePost false 52 g room v (someS S k) (toldS S k) w) := by
  obtain ⟨i0, hi0, hz0, hz1, hz2⟩ := info_parts info_ritem
  obtain ⟨j0, hj0, hy0, hy1, hy2⟩ := info_parts info_rrec
  have HH := Lib.hid h
  have HL := Lib.hid (lr_of h)
  have hl : S.length ≤ 64 := by have := h.ok.len; have := h.r2; omega
  have hl2 : (S.length : Int) ≤ 64 := by omega
  have HOK := Lib.hid (some_ok h.ok k)
  have hc : max (min k (S.length : Int)) 0 = (cutS S k : Nat) := by unfold cutS; omega
  have hc' : max 0 (min k (S.length : Int)) = (cutS S k : Nat) := by unfold cutS; omega
  have hc2 := cut_le S k
  have HD : Hid (toldS S k = toldTo S (cutS S k)) := rfl
  have HF : Hid (someS S k = foldTo S (cutS S k) (cutS S k)) := rfl
  have hvn := h.n
  obtain ⟨av, vn, vc⟩ := v
  simp only at hvn
  subst hvn
  have HRD := Lib.hid (erow_rd (a := av) (n := S.length) (cap := vc) ci_enc HL.out.row)
  have x0 := HL.out.box.cell 0 _ rfl
  have xf := HL.out.box.free 0 _ rfl
  have gl := HL.out.box.lt
  have hgl := Lib.hid gl
  clear h
  generalize cutS S k = c at *
  generalize toldS S k = D at *
  generalize someS S k = S' at *
  go_enter Try.func17, Try.ntmps17
  go_upto_region 3 with fail
  go_cut [] (fun wx => ∃ vq, RsS S c g room 0 0 w (.slice none 0 0) vq wx)
  case first =>
    have f2 : Hid (((S.drop c).map ci).flatten.length = (S.length - c) * 6) := by show _ = _; rw [cis_len, List.length_drop]
    have o2 := Lib.hid (ci_enc.ones (S.drop c))
    have FIN : Hid (∀ w3 (v3 : Sl), Below w.heap.size w w3 → w3.ownsRow w.heap.size 63 6 v3.v (S.length - c) ((S.drop c).map ci).flatten → (∃ vq, RsS S c g room 0 0 w (.slice none 0 0) vq (w3.setCell ⟨g, 0, none⟩ (.slice v3.a v3.n v3.c))) ∧ Cs g (qc false room ⟨av, S.length, vc⟩) w3) := fun w3 v3 hb h3 => by
      have hr : ERow ci 6 63 w3 v3.v (S.drop c) := by unfold ERow; rw [List.length_drop]; exact own_zero h3
      obtain ⟨⟨v', q1, q2, q3⟩, q4⟩ := Lr.put (v' := v3) HL.out hr hb (fun b hb => (World.ownsRow.lt h3 b hb).1)
      exact ⟨⟨v', erow_nil, q1, q2, fun k hk => by simp [Value.ownBlock] at hk, q3, fun k hk => by simp [Value.ownBlock] at hk, hgl.out⟩, q4⟩
    rcases erow_form HL.out.row with ⟨h1, rfl⟩ | ⟨gv, cap, h1, _⟩
    · simp only [Sl.v, Value.slice.injEq] at h1
      obtain ⟨rfl, -, rfl⟩ := h1
      obtain rfl : c = 0 := by simpa using hc2
      obtain ⟨q1, q2⟩ := FIN.out w ⟨none, 0, 0⟩ (Below.refl _ _) (World.ownsRow_nil _ _ _ _)
      have Q1 := Lib.hid q1
      clear q1 q2 hc hc'
      go_wp2_with (at_builtin; refine wpList_append_own_none rfl (.const (.slice none 0 0)) (.tmp 24) 56 rfl w.heap.size 63 i0 6 Try.underlying56 hi0 (.slice none 0 0) 0 [] rfl (World.ownsRow_nil _ _ _ _) rfl ?_)
      go_meet
      exact Q1.out
    · simp only [Sl.v, Value.slice.injEq] at h1
      obtain ⟨rfl, -, rfl⟩ := h1
      have hLc : S.length ≤ vc := by
        obtain ⟨-, C, hC, hcap, ht, hlc, hm⟩ := erow_open ci_enc HL.out.row
        exact hlc
      have hcS : (c : Int) ≤ S.length := by omega
      have hcv : (c : Int) ≤ vc := by omega
      have hc0 : (0 : Int) ≤ (c : Nat) := by omega
      obtain ⟨ad, hadq, hadn⟩ : ∃ ad : Addr, some ad = (if vc = c then some ⟨gv, 0, none⟩ else some ⟨gv, c * 6, none⟩) ∧ (¬ vc = c → ad = ⟨gv, c * 6, none⟩) := by
        split
        · rename_i h0; exact ⟨_, rfl, fun h => absurd h0 h⟩
        · exact ⟨_, rfl, fun _ => rfl⟩
      have R2 : Hid (∀ k u, ((S.drop c).map ci).flatten[k]? = some u → w.cell? (ad.add k) = some u) := fun k u hu => by
        by_cases hce : vc = c
        · have : ((S.drop c).map ci).flatten = [] := List.eq_nil_of_length_eq_zero (by rw [f2.out]; omega)
          rw [this] at hu; simp at hu
        · rw [hadn hce]
          exact part_cells (p := c) (M := S.drop c) HL.out.row (fun j x hx => by rwa [List.getElem?_drop] at hx) k u hu
      have hif : (if vc = c then some (⟨gv, 0, none⟩ : Addr) else some ⟨gv, c * 6, none⟩) = some ad := hadq.symm
      clear hadq hadn
      generalize ((S.drop c).map ci).flatten = N2 at *
      go_wp2_with (at_builtin; refine wpList_append_own _ rfl (.const (.slice none 0 0)) (.tmp 24) 56 rfl w.heap.size 63 i0 _ 6 40 Try.underlying56 hi0 hz0 hz1 hz2 rfl (by omega) (.slice none 0 0) 0 [] rfl (World.ownsRow_nil _ _ _ _) ad (S.length - c) (vc - c) N2 (by simp [Act.eval]) f2.out R2.out o2.out (by unfold maxLen; omega) (by omega) (Nat.le_refl _) ?_)
      intro v3 w3 hown hgrow _
      have B3 : Hid (Below w.heap.size w w3) := (Below.refl _ w).grown hgrow (Nat.le_refl _) (fun k hk => by simp [Value.ownBlock] at hk)
      obtain ⟨⟨sa, sn, sc⟩, hv⟩ := sl_of hown
      obtain rfl : v3 = .slice sa sn sc := hv
      obtain ⟨q1, q2⟩ := FIN.out w3 ⟨sa, sn, sc⟩ B3.out (by simpa [Sl.v] using hown)
      have Q1 := Lib.hid q1
      clear hown hgrow x0 xf gl q1
      have x0 := q2.cell 0 _ rfl
      have xf := q2.free 0 _ rfl
      have gl := q2.lt
      clear q2
      go_wp2
      go_meet
      exact Q1.out
  case rest =>
    obtain ⟨vq0, hS0⟩ := hcut
    have S0 : Hid (RsJ S c g room w (.slice none 0 0) (.int .i64 0) wc) := ⟨0, vq0, Nat.zero_le _, rfl, hS0⟩
    clear x0 xf gl hS0
    generalize wc = w0 at *
    have hav : Hid (∀ b off, av = some ⟨b, off, none⟩ → ¬ b = g) := fun b off e hb => by
      subst hb
      obtain ⟨a', cap', h1⟩ := erow_sl HL.out.row
      rcases erow_form HL.out.row with ⟨h2, _⟩ | ⟨gv, cap2, h2, _⟩
      · simp only [Sl.v, Value.slice.injEq] at h2; rw [h2.1] at e; cases e
      · simp only [Sl.v, Value.slice.injEq] at h2
        rw [h2.1] at e
        have : gv = b := by injection e with e; injection e
        exact HL.out.ne (by rw [h2.1, this]; rfl)
    go_wp2_with fail
    go_loopw [7, 8] (fun sv iv wr => RsJ S c g room w sv iv wr) (fun _ iv _ => c - (intOf iv).toNat)
    case atStart => exact S0.out
    case round =>
      obtain ⟨i, vq, hi, rfl, hS⟩ := hrel
      clear S0
      generalize u7 = sv at *
      have hI0 : (0 : Int) ≤ i := by omega
      have HS := Lib.hid hS
      by_cases hlt : i < c
      · have hlt' : (i : Int) < c := by omega
        have hiS : (i : Int) < S.length := by omega
        have hi1 : i + 1 ≤ c := hlt
        obtain ⟨x, hx⟩ : ∃ x, S[i]? = some x := ⟨_, List.getElem?_eq_getElem (by omega)⟩
        obtain ⟨b, off, rfl, hbl, hcc⟩ := (HRD.out.touch hS.touch hav.out) (by omega)
        have hcx := hcc i _ hx
        have d0 := hcx 0 _ rfl
        have d1 := hcx 1 _ rfl
        have d2 := hcx 2 _ rfl
        have d3 := hcx 3 _ rfl
        have d4 := hcx 4 _ rfl
        have TL := Lib.hid (toldTo_len (S := S) (i := i) (by omega))
        have NA := Lib.hid (fun (g1 cap1 : Nat) (o : Obj) (w9 : World) => RsS.app (g1 := g1) (cap1 := cap1) (o := o) (w9 := w9) hS hx)
        have hox := HH.out.ok.ok x (List.mem_of_getElem? hx)
        have wl := IntWalk.i64_in (x.left - 1) ⟨by have := hox.l1; omega, by have := hox.l2; omega⟩
        have HR := Lib.hid hS.told
        have HX := Lib.hid hx
        have fl := foldTo_len (S := S) (c := c) (j := i) (by omega)
        clear hcc hcx hx hS hox d0 d1 d2 d3 d4
        have RDx : Hid (∀ w', Touch (fun b => b = g) w w' → RdE ci 6 w' (some ⟨b, off, none⟩) S) := fun w' ht => HRD.out.touch ht hav.out
        have hcc := RDx.out wr HS.out.touch (by show 0 < S.length; omega)
        obtain ⟨b', off', hbo, hbl', hcc⟩ := hcc
        simp only [Option.some.injEq, Addr.mk.injEq, and_true] at hbo
        obtain ⟨rfl, rfl⟩ := hbo
        have hcx := hcc i _ HX.out
        have d0 := hcx 0 _ rfl
        have d1 := hcx 1 _ rfl
        have d2 := hcx 2 _ rfl
        have d3 := hcx 3 _ rfl
        have d4 := hcx 4 _ rfl
        clear hcc hcx hbl'
        obtain ⟨⟨i1, s1, n1, a1, p1⟩, l1⟩ := x
        simp only [Nat.add_zero] at *
        go_wp2_with (at_builtin; refine wpList_append_lies _ rfl (.tmp 33) (.tmp 39) 46 rfl 0 52 j0 _ 5 32 Try.underlying46 hj0 hy0 hy1 hy2 rfl (by omega) sv (toldTo S i).length ((toldTo S i).map rcs).flatten rfl (erow_keep HR.out ((Below.refl _ _).alloc (Nat.le_refl _) _)) ⟨_, 0, none⟩ 1 1 (rcs ⟨i1, s1, n1, a1, p1⟩) rfl rfl (World.news_of_block (cs := (rcs ⟨i1, s1, n1, a1, p1⟩).toArray) (t := 52) (fr := (0, 0)) (heap_alloc_new _ _)) (rcs_enc.one _) (by omega) (by rw [TL.out]; unfold maxLen; omega) (by rw [TL.out]; omega) (Nat.zero_le _) _ rfl ?_)
        intro g1 cap1 w9 hown hgrow hat hlt9
        have hS9 := NA.out g1 cap1 _ w9 hown hgrow (hat.imp id (fun h => by rw [h, World.size_alloc]))
        have S9 := Lib.hid hS9
        clear hown hgrow hat NA HR d0 d1 d2 d3 d4 hS9 HS hbl
        obtain ⟨b', off', hbo, hbl, hcc⟩ := RDx.out w9 S9.out.touch (by show 0 < S.length; omega)
        simp only [Option.some.injEq, Addr.mk.injEq, and_true] at hbo
        obtain ⟨rfl, rfl⟩ := hbo
        have hcx := hcc i _ HX.out
        have d0 := hcx 0 _ rfl
        have d1 := hcx 1 _ rfl
        have d2 := hcx 2 _ rfl
        have d3 := hcx 3 _ rfl
        have d4 := hcx 4 _ rfl
        have d5 := hcx 5 _ rfl
        simp only [Nat.add_zero] at d0
        clear hcc hcx
        by_cases hll : 1 < l1
        · have KP := fun n => rput_any (decI ⟨⟨i1, s1, n1, a1, p1⟩, l1⟩) g room vq (foldTo S c i) (by omega) (w9.drewN n) (S9.out.drewN n).q
          have FP : Hid (∀ n w10, RAft g room (putS (decI ⟨⟨i1, s1, n1, a1, p1⟩, l1⟩) (foldTo S c i)) (w9.drewN n) w10 → ∃ vq', RsS S c g room (i + 1) (i + 1) w (.slice (some ⟨g1, 0, none⟩) ((toldTo S i).length + 1) cap1) vq' w10) := fun n w10 ha => (S9.out.drewN n).put HX.out hll ha
          unfold decI at KP FP
          simp only at KP FP
          have KP1 := KP 1
          have FP1 := Lib.hid (FP.out 1)
          change ∀ w10, RAft g room _ w9.drew w10 → _ at FP1
          clear KP FP
          change Calls _ _ _ w9.drew (RPutPost g room _ w9.drew) at KP1
          go_upto_region 10 with fail
          go_region_law (go_simp; go_at_call 28; refine KP1.mono ?_; rintro e w10 ⟨rfl, hr⟩; obtain ⟨vq', hq⟩ := FP1 w10 hr; have Q1 := Lib.hid hq; clear hr hq)
          all_goals clear d0 d1 d2 d3 d4 d5 KP1 FP1 S9
          all_goals go_wp2
          all_goals go_roundw
          all_goals first | exact ⟨i + 1, vq', hi1, by go_num, Q1.out⟩ | (simp [intOf]; omega)
        · have Q1 := Lib.hid (S9.out.skip HX.out hll)
          clear S9
          go_wp2
          go_roundw
          case rel => exact ⟨i + 1, vq, hi1, by go_num, Q1.out⟩
          case measure => simp [intOf]; omega
      · obtain rfl : i = c := by omega
        obtain ⟨ta, tc, hsv⟩ := erow_sl hS.told
        subst hsv
        have FIN : Hid (SomePost false 52 g room ⟨av, S.length, vc⟩ S' D w (.returned (.slice ta (toldTo S i).length tc)) wr) := by
          refine ⟨⟨ta, (toldTo S i).length, tc⟩, vq, by rw [HD.out], ⟨by rw [HD.out]; exact HS.out.told, by rw [HD.out], HS.out.lo⟩, ⟨HS.out.q.box, ⟨_, HS.out.q.row, HF.out.symm⟩, HS.out.q.ne, HH.out.r1, HH.out.r2, HOK.out⟩, HS.out.touch.mono (fun b _ e => .inl e), fun b hb => ?_, fun b hb e => ?_⟩
          · rcases hb with rfl | hb
            · exact .inl (.inl rfl)
            · exact .inr (HS.out.loq b hb)
          · rcases e with rfl | e
            · have := HS.out.lo b hb; have := HS.out.glt; omega
            · exact HS.out.apart b hb e
        clear HS hS
        go_wp2
        go_ret
        exact FIN.out
end Go.Proofs.Ythebcaielbnhjaa
