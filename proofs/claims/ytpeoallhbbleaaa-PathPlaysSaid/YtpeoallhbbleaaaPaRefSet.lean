/- The reference's: set, Lost (as tools/gen_set18.py wrote it). -/
import Derived.Test.YtpeoallhbbleaaaPaRef
import Derived.Deep.AppendLies
namespace Go.Proofs.Ytpeoallhbbleaaa
open Go.Sort Go.RowKit Go.BigFrame
set_option linter.unusedVariables false
set_option linter.unusedSimpArgs false

theorem info_rpath : (Try.prog.info? 63).map (fun i => (i.zero, i.size, i.bytes)) = some (some (.agg #[.int .i64 0, .int .i64 0, .int .i64 0, .int .u32 0, .int .u16 0, .int .u64 0, .int .u64 0]), 7, 48) := by kernel_rfl
theorem cps_len (M : List Pt) : (M.map cp).flatten.length = M.length * 7 := by rw [flatten_len (z := 7) _ (cp_enc.all M), List.length_map]
/-- the cells of a part of a row -/
theorem part_cells {T : TypeId} {w : World} {gv c p : Nat} {L M : List Pt} (h : ERow cp 7 T w (.slice (some ⟨gv, 0, none⟩) L.length c) L) (hM : ∀ i x, M[i]? = some x → L[p + i]? = some x) : ∀ k u, (M.map cp).flatten[k]? = some u → w.cell? ((⟨gv, p * 7, none⟩ : Addr).add k) = some u := by
  obtain ⟨-, C, hC, -, ht, -⟩ := erow_open cp_enc h
  exact hC.sub (p := p) (by decide) (cp_enc.all M) (fun i c hc => by
    rw [List.getElem?_map, Option.map_eq_some_iff] at hc
    obtain ⟨x, hx, rfl⟩ := hc
    exact taken_at ht (hM i x hx))
theorem take_get {L : List Pt} {j i : Nat} {x : Pt} (h : (L.take j)[i]? = some x) : L[0 + i]? = some x := by
  rw [List.getElem?_take] at h
  split at h
  · rwa [Nat.zero_add]
  · cases h
def RSetPost (g : Nat) (u : Sl) (k' : Tk) (w : World) (e : Ending) (w' : World) : Prop := e = .returned (.tuple #[]) ∧ QAft g u k' w w'
set_option maxHeartbeats 12800000 in
set_option maxRecDepth 100000 in
theorem rset_old (n : Nat) (x : Pt) (hn : n < 33) (hp : x.peer = n) (hx : isS x = true) (g : Nat) (u : Sl) (k : Tk) (w : World) (h : Qs g u k w) (hok : OkK (setP k n x)) (hs : isS (k.p n) = true) :
    Calls Try.prog 31 #[.pointer (some ⟨g, 0, none⟩), .agg (cp x).toArray] w (RSetPost g u (setP k n x) w) := by
  have B : Hid (Below w.heap.size w (w.alloc (.cells (cp x).toArray 63))) := (Below.refl _ w).alloc (Nat.le_refl _) _
  have X : Hid (Cs w.heap.size (cp x) (w.alloc (.cells (cp x).toArray 63))) := Cs.new w _ _
  have H := Lib.hid (fun w' (b : Below w.heap.size w w') => h.keep b)
  have K := Lib.hid (fun w' (b : Below w.heap.size w w') => find_any n g u k w' (h.keep b))
  have e1 : isP k n = true := by rw [isP_at h.ok]; exact hs
  have hx0 := get_all h.ok hn hs
  have hlt := (List.getElem?_eq_some_iff.1 hx0).1
  have hun := h.n
  have hl33 := all_len k.p
  obtain ⟨j, hj⟩ : ∃ j, atL n (allP k.p) = j := ⟨_, rfl⟩
  obtain ⟨av, un, uc⟩ := u
  simp only at hun
  subst hun
  obtain ⟨gv, hgv, _⟩ := h.cells hx0
  simp only at hgv
  subst hgv
  have FIN : Hid (∀ w1, Below w.heap.size w w1 → QAft g ⟨some ⟨gv, 0, none⟩, (allP k.p).length, uc⟩ (setP k n x) w (w1.setCells gv (j * 7) (cp x)).drew) := fun w1 b => by
    have h1 := h.keep b
    have hr := erow_put (y := x) (j := j) h1.row (by omega)
    have q := h1.setp hn hs hx hok rfl (Touch.sets (F := fun b => b = gv) (Touch.refl _ w1) gv (fun _ => rfl) (cp x) (j * 7)) (by rw [hj]; exact hr)
    exact QAft.after b (QAft.then_ ⟨_, q.1, q.2, fun b hb => .inl hb⟩ (Below.refl _ _).drew)
  have LIM : Hid (∀ w1, Below w.heap.size w w1 → (w1.cell? ⟨g, 4, none⟩ = some (.slice (some ⟨gv, 0, none⟩) (allP k.p).length uc) ∧ g < w1.heap.size) ∧ gv < w1.heap.size ∧ (∀ o, w1.frozen? ⟨gv, o, none⟩ = false) ∧ ∀ t v, (cp (k.p n))[t]? = some v → w1.cell? ⟨gv, j * 7 + t, none⟩ = some v) := fun w1 b => by
    have h1 := h.keep b
    obtain ⟨g2, e, l, cc, fr⟩ := h1.cells hx0
    simp only [Option.some.injEq, Addr.mk.injEq, and_true] at e
    subst e
    rw [hj] at cc
    exact ⟨⟨h1.box.cell 4 _ rfl, h1.box.lt⟩, l, fr, cc⟩
  rw [hj] at K hlt hx0
  rw [e1] at K
  have hm0 : (0 : Int) ≤ j := by omega
  have hm1 : (j : Int) < (allP k.p).length := by omega
  generalize (allP k.p).length = m at *
  clear h hok hs e1 hx hj H hx0
  obtain ⟨x1, x2, x3, x4, x5, x6, x7⟩ := x
  simp only at hp
  subst hp
  simp only [cp] at B X ⊢
  generalize k.p n = y at *
  obtain ⟨y1, y2, y3, y4, y5, y6, y7⟩ := y
  go_enter Try.func31, Try.ntmps31
  go_upto_region 1 with fail
  generalize (w.alloc (.cells #[.int .i64 n, .int .i64 x2, .int .i64 x3, .int .u32 x4, .int .u16 x5, .int .u64 x6, .int .u64 x7] 63)) = w1 at *
  obtain ⟨xb, hxb⟩ : ∃ b, w.heap.size = b := ⟨_, rfl⟩
  rw [hxb] at X ⊢
  have q0 := X.out.cell 0 _ rfl
  have ql := X.out.lt
  go_wp2_with fail
  refine (K.out _ B.out).mono ?_; rintro e w2 ⟨rfl, b2⟩
  have B2 : Hid (Below w.heap.size w w2) := B.out.trans (b2.mono B.out.size)
  have X2 := Lib.hid (X.out.keep b2)
  clear q0 ql K b2 X B
  obtain ⟨⟨c4, gl⟩, gvl, fr, cc⟩ := LIM.out _ B2.out
  have F := Lib.hid (FIN.out _ B2.out)
  simp only [cp, setCells7, Int.natCast_zero, Int.ofNat_zero, Int.cast_ofNat_Int] at F
  have d0 := cc 0 _ rfl
  have d1 := cc 1 _ rfl
  have d2 := cc 2 _ rfl
  have d3 := cc 3 _ rfl
  have d4 := cc 4 _ rfl
  have d5 := cc 5 _ rfl
  have d6 := cc 6 _ rfl
  simp only [Nat.add_zero] at d0
  have q0 := X2.out.cell 0 _ rfl
  have q1 := X2.out.cell 1 _ rfl
  have q2 := X2.out.cell 2 _ rfl
  have q3 := X2.out.cell 3 _ rfl
  have q4 := X2.out.cell 4 _ rfl
  have q5 := X2.out.cell 5 _ rfl
  have q6 := X2.out.cell 6 _ rfl
  have ql := X2.out.lt
  clear LIM FIN cc X2 B2
  go_upto_region 3 with fail
  go_region
  all_goals go_wp2
  all_goals go_end0
  all_goals exact ⟨rfl, F.out⟩
set_option maxHeartbeats 12800000 in
set_option maxRecDepth 100000 in
theorem rset_new (n : Nat) (x : Pt) (hn : n < 33) (hp : x.peer = n) (hx : isS x = true) (g : Nat) (u : Sl) (k : Tk) (w : World) (h : Qs g u k w) (hok : OkK (setP k n x)) (hs : isS (k.p n) = false) :
    Calls Try.prog 31 #[.pointer (some ⟨g, 0, none⟩), .agg (cp x).toArray] w (RSetPost g u (setP k n x) w) := by
  have B : Hid (Below w.heap.size w (w.alloc (.cells (cp x).toArray 63))) := (Below.refl _ w).alloc (Nat.le_refl _) _
  have X : Hid (Cs w.heap.size (cp x) (w.alloc (.cells (cp x).toArray 63))) := Cs.new w _ _
  have K := Lib.hid (fun w' (b : Below w.heap.size w w') => find_any n g u k w' (h.keep b))
  have H := Lib.hid (fun w' (b : Below w.heap.size w w') => h.keep b)
  have AFT : Hid (∀ w1 w', Below w.heap.size w w1 → QAft g u (setP k n x) w1 w' → QAft g u (setP k n x) w w') := fun w1 w' b q => q.after b
  have e1 : isP k n = false := by rw [isP_at h.ok]; exact hs
  have PUT : Hid (allP (setP k n x).p = (allP k.p).take (atL n (allP k.p)) ++ x :: (allP k.p).drop (atL n (allP k.p))) := all_new h.ok hn hx hs
  have hjl := atL_le n (allP k.p)
  have hun := h.n
  have hl33 := all_len k.p
  have HOK := Lib.hid hok
  have XO := Lib.hid (cp_ones x)
  obtain ⟨j, hj⟩ : ∃ j, atL n (allP k.p) = j := ⟨_, rfl⟩
  obtain ⟨L, hL⟩ : ∃ L, allP k.p = L := ⟨_, rfl⟩
  obtain ⟨k2, hk2⟩ : ∃ k2, setP k n x = k2 := ⟨_, rfl⟩
  have HKQ : Hid (k2.tries = k.tries ∧ k2.base = k.base ∧ k2.keep = k.keep ∧ k2.hold = k.hold) := by show _ ∧ _; rw [← hk2]; exact ⟨rfl, rfl, rfl, rfl⟩
  rw [hk2] at PUT HOK AFT
  rw [hk2]
  rw [hj] at PUT hjl K
  rw [hL] at PUT hjl hun hl33
  rw [e1] at K
  obtain ⟨av, un, uc⟩ := u
  simp only at hun
  subst hun
  have HROW : Hid (∀ w', Below w.heap.size w w' → ERow cp 7 63 w' (.slice av L.length uc) L) := fun w' b => by
    have := (h.keep b).row
    rw [hL] at this; exact this
  clear h hok hs e1 hx hj hL hk2
  have HX : Hid (cp x = cp x) := rfl
  obtain ⟨x1, x2, x3, x4, x5, x6, x7⟩ := x
  simp only at hp
  subst hp
  obtain ⟨i0, hi0, hz0, hz1, hz2⟩ := info_parts info_rpath
  simp only [cp] at B X XO ⊢
  go_enter Try.func31, Try.ntmps31
  go_upto_region 1 with fail
  generalize (w.alloc (.cells #[.int .i64 n, .int .i64 x2, .int .i64 x3, .int .u32 x4, .int .u16 x5, .int .u64 x6, .int .u64 x7] 63)) = w1 at *
  obtain ⟨xb, hxb⟩ : ∃ b, w.heap.size = b := ⟨_, rfl⟩
  rw [hxb] at X ⊢
  have q0 := X.out.cell 0 _ rfl
  have ql := X.out.lt
  go_wp2_with fail
  refine (K.out _ B.out).mono ?_; rintro e W ⟨rfl, b2⟩
  have B2 : Hid (Below w.heap.size w W) := B.out.trans (b2.mono B.out.size)
  have X2 := Lib.hid (X.out.keep b2)
  clear q0 ql K b2 X B
  have FIN : Hid (∀ w3 (v3 : Sl), Below W.heap.size W w3 → w3.ownsRow W.heap.size 63 7 v3.v (j + 1 + (L.length - j)) ((((L.take j).map cp).flatten ++ [.int .i64 n, .int .i64 x2, .int .i64 x3, .int .u32 x4, .int .u16 x5, .int .u64 x6, .int .u64 x7]) ++ ((L.drop j).map cp).flatten) → QAft g ⟨av, L.length, uc⟩ k2 W (w3.setCell ⟨g, 4, none⟩ (.slice v3.a v3.n v3.c)) ∧ Cs g (qC k ⟨av, L.length, uc⟩) w3) := fun w3 v3 hb ho => by
    refine (H.out W B2.out).put hb ?_ HKQ.out HOK.out (fun b hb => (World.ownsRow.lt ho b hb).1)
    have e : ((L.take j ++ (⟨n, x2, x3, x4, x5, x6, x7⟩ : Pt) :: L.drop j).map cp).flatten = (((L.take j).map cp).flatten ++ [.int .i64 n, .int .i64 x2, .int .i64 x3, .int .u32 x4, .int .u16 x5, .int .u64 x6, .int .u64 x7]) ++ ((L.drop j).map cp).flatten := by simp [cp]
    unfold ERow
    rw [PUT.out, e, show (L.take j ++ (⟨n, x2, x3, x4, x5, x6, x7⟩ : Pt) :: L.drop j).length = j + 1 + (L.length - j) by rw [List.length_append, List.length_cons, List.length_take, List.length_drop]; omega]
    exact own_zero ho
  have GK : Hid (∀ w', Below W.heap.size W w' → Cs g (qC k ⟨av, L.length, uc⟩) w') := fun w' b => (H.out W B2.out).box.keep b
  have XK : Hid (∀ w', Below W.heap.size W w' → Cs xb [.int .i64 n, .int .i64 x2, .int .i64 x3, .int .u32 x4, .int .u16 x5, .int .u64 x6, .int .u64 x7] w') := fun w' b => X2.out.keep b
  have HR := Lib.hid (HROW.out W B2.out)
  have FF : Hid (∀ w', QAft g ⟨av, L.length, uc⟩ k2 W w' → QAft g ⟨av, L.length, uc⟩ k2 w w') := fun w' q => AFT.out W w' B2.out q
  clear HROW AFT H B2 X2 PUT HKQ HOK
  have hj0 : (0 : Int) ≤ j := by omega
  have hiL : (j : Int) ≤ L.length := by omega
  have hl2 : (L.length : Int) ≤ 33 := by omega
  have f1 : Hid (((L.take j).map cp).flatten.length = j * 7) := by show _ = _; rw [cps_len, List.length_take]; congr 1; omega
  have f2 : Hid (((L.drop j).map cp).flatten.length = (L.length - j) * 7) := by show _ = _; rw [cps_len, List.length_drop]
  have o1 := Lib.hid (cp_enc.ones (L.take j))
  have o2 := Lib.hid (cp_enc.ones (L.drop j))
  have G0 := GK.out W (Below.refl _ _)
  have g0 := G0.cell 4 _ rfl
  have gl := G0.lt
  clear G0
  rcases erow_form HR.out with ⟨h1, rfl⟩ | ⟨gv, cap, h1, _⟩
  · simp only [Value.slice.injEq] at h1
    obtain ⟨rfl, -, rfl⟩ := h1
    obtain rfl : j = 0 := by simpa using hjl
    clear HR
    simp only [List.take_nil, List.drop_nil, List.map_nil, List.flatten_nil, List.nil_append, List.append_nil, List.length_nil, Nat.zero_add, Nat.sub_self, Nat.add_zero] at FIN FF
    simp only [List.length_nil] at g0 GK
    have XW := XK.out W (Below.refl _ _)
    have q0 := XW.cell 0 _ rfl
    have q1 := XW.cell 1 _ rfl
    have q2 := XW.cell 2 _ rfl
    have q3 := XW.cell 3 _ rfl
    have q4 := XW.cell 4 _ rfl
    have q5 := XW.cell 5 _ rfl
    have q6 := XW.cell 6 _ rfl
    have ql := XW.lt
    clear XW
    go_wp2_with (at_builtin; first | (refine wpList_append_own_none rfl (.tmp 22) (.tmp 28) 56 rfl W.heap.size 63 i0 7 Try.underlying56 hi0 (.slice none 0 0) 0 [] rfl (World.ownsRow_nil _ _ _ _) rfl ?_) | (refine wpList_append_own _ rfl (.tmp 30) (.tmp 32) 56 rfl W.heap.size 63 i0 _ 7 48 Try.underlying56 hi0 hz0 hz1 hz2 rfl (by omega) (.slice none 0 0) 0 [] rfl (World.ownsRow_nil _ _ _ _) ⟨_, 0, none⟩ 1 1 [.int .i64 n, .int .i64 x2, .int .i64 x3, .int .u32 x4, .int .u16 x5, .int .u64 x6, .int .u64 x7] rfl rfl (World.news_of_block (cs := #[.int .i64 n, .int .i64 x2, .int .i64 x3, .int .u32 x4, .int .u16 x5, .int .u64 x6, .int .u64 x7]) (t := 63) (fr := (0, 0)) (heap_alloc_new _ _)) XO.out (by unfold maxLen; omega) (by omega) (by simp) ?_))
    intro v2 w4 hown hgrow _
    have B4 : Hid (Below W.heap.size W w4) := ((Below.refl _ W).alloc (Nat.le_refl _) _).grown hgrow (by simp) (fun k hk => by simp [Value.ownBlock] at hk)
    have OWN4 := Lib.hid hown
    clear hown hgrow g0 gl q0 q1 q2 q3 q4 q5 q6 ql
    obtain ⟨⟨sa, sn, sc⟩, hv⟩ := sl_of OWN4.out
    obtain rfl : v2 = .slice sa sn sc := hv
    obtain ⟨p1, p2⟩ := FIN.out w4 ⟨sa, sn, sc⟩ B4.out (by simpa [Sl.v] using OWN4.out)
    have Q1 := Lib.hid p1
    clear p1
    have g0 := p2.cell 4 _ rfl
    have gf := p2.free 4 _ rfl
    have gl := p2.lt
    clear p2
    go_wp2_with (at_builtin; refine wpList_append_own_none rfl (.tmp 35) (.tmp 41) 56 rfl W.heap.size 63 i0 7 Try.underlying56 hi0 (.slice sa sn sc) 1 [.int .i64 n, .int .i64 x2, .int .i64 x3, .int .u32 x4, .int .u16 x5, .int .u64 x6, .int .u64 x7] rfl OWN4.out rfl ?_)
    go_wp2
    go_end0
    exact ⟨rfl, FF.out _ Q1.out⟩
  · simp only [Value.slice.injEq] at h1
    obtain ⟨rfl, -, rfl⟩ := h1
    have hLc : L.length ≤ uc := by
      obtain ⟨-, C, hC, hcap, ht, hlc, hm⟩ := erow_open cp_enc HR.out
      exact hlc
    have hic : j ≤ uc := by omega
    have hic2 : (j : Int) ≤ uc := by omega
    have R1 : Hid (∀ w', Below W.heap.size W w' → ∀ t v, ((L.take j).map cp).flatten[t]? = some v → w'.cell? ((⟨gv, 0, none⟩ : Addr).add t) = some v) := fun w' hb t v hu => by
      have := part_cells (p := 0) (M := L.take j) (erow_keep HR.out hb) (fun i x hx => take_get hx) t v hu
      rw [Nat.zero_mul] at this; exact this
    obtain ⟨ad, hadq, hadn⟩ : ∃ ad : Addr, some ad = (if uc = j then some ⟨gv, 0, none⟩ else some ⟨gv, j * 7, none⟩) ∧ (¬ uc = j → ad = ⟨gv, j * 7, none⟩) := by
      split
      · rename_i h0; exact ⟨_, rfl, fun h => absurd h0 h⟩
      · exact ⟨_, rfl, fun _ => rfl⟩
    have R2 : Hid (∀ w', Below W.heap.size W w' → ∀ t v, ((L.drop j).map cp).flatten[t]? = some v → w'.cell? (ad.add t) = some v) := fun w' hb t v hu => by
      by_cases hce : uc = j
      · have : ((L.drop j).map cp).flatten = [] := List.eq_nil_of_length_eq_zero (by rw [f2.out]; omega)
        rw [this] at hu; simp at hu
      · rw [hadn hce]
        exact part_cells (p := j) (M := L.drop j) (erow_keep HR.out hb) (fun i x hx => by rwa [List.getElem?_drop] at hx) t v hu
    have hif : (if uc = j then some (⟨gv, 0, none⟩ : Addr) else some ⟨gv, j * 7, none⟩) = some ad := hadq.symm
    clear hadq hadn HR
    generalize ((L.take j).map cp).flatten = N1 at *
    generalize ((L.drop j).map cp).flatten = N2 at *
    have Z0 := Lib.hid (R1.out W (Below.refl _ _))
    go_wp2_with (at_builtin; refine wpList_append_own _ rfl (.tmp 22) (.tmp 28) 56 rfl W.heap.size 63 i0 _ 7 48 Try.underlying56 hi0 hz0 hz1 hz2 rfl (by omega) (.slice none 0 0) 0 [] rfl (World.ownsRow_nil _ _ _ _) ⟨gv, 0, none⟩ j uc N1 rfl f1.out Z0.out o1.out (by unfold maxLen; omega) (by omega) (Nat.le_refl _) ?_)
    intro v1 w3 hown hgrow _
    have B3 : Hid (Below W.heap.size W w3) := (Below.refl _ W).grown hgrow (Nat.le_refl _) (fun k hk => by simp [Value.ownBlock] at hk)
    have OWN := Lib.hid hown
    have G3 := GK.out w3 B3.out
    have XW := XK.out w3 B3.out
    clear hown hgrow g0 gl Z0
    have g0 := G3.cell 4 _ rfl
    have gl := G3.lt
    have q0 := XW.cell 0 _ rfl
    have q1 := XW.cell 1 _ rfl
    have q2 := XW.cell 2 _ rfl
    have q3 := XW.cell 3 _ rfl
    have q4 := XW.cell 4 _ rfl
    have q5 := XW.cell 5 _ rfl
    have q6 := XW.cell 6 _ rfl
    have ql := XW.lt
    clear XW
    have OW3 : Hid (∀ o, (w3.alloc o).ownsRow W.heap.size 63 7 v1 j N1) := fun o => own_touch (F := fun _ => False) (by simpa using OWN.out) ((Touch.refl _ _).alloc _) (fun _ _ h => h)
    clear G3
    go_wp2_with (at_builtin; refine wpList_append_own _ rfl (.tmp 30) (.tmp 32) 56 rfl W.heap.size 63 i0 _ 7 48 Try.underlying56 hi0 hz0 hz1 hz2 rfl (by omega) v1 j N1 rfl (OW3.out _) ⟨_, 0, none⟩ 1 1 [.int .i64 n, .int .i64 x2, .int .i64 x3, .int .u32 x4, .int .u16 x5, .int .u64 x6, .int .u64 x7] rfl rfl (World.news_of_block (cs := #[.int .i64 n, .int .i64 x2, .int .i64 x3, .int .u32 x4, .int .u16 x5, .int .u64 x6, .int .u64 x7]) (t := 63) (fr := (0, 0)) (heap_alloc_new _ _)) XO.out (by unfold maxLen; omega) (by omega) (by have := B3.out.size; simp; omega) ?_)
    intro v2 w4 hown hgrow _
    have B4 : Hid (Below W.heap.size W w4) := (B3.out.alloc B3.out.size _).grown hgrow (by have := B3.out.size; simp; omega) (fun k hk => (World.ownsRow.lt OWN.out k hk).1)
    have OWN4 := Lib.hid hown
    have G4 := GK.out w4 B4.out
    have Z2 := Lib.hid (R2.out w4 B4.out)
    clear hown hgrow g0 gl OW3 q0 q1 q2 q3 q4 q5 q6 ql
    have g0 := G4.cell 4 _ rfl
    have gl := G4.lt
    clear G4
    go_wp2_with (at_builtin; refine wpList_append_own _ rfl (.tmp 35) (.tmp 41) 56 rfl W.heap.size 63 i0 _ 7 48 Try.underlying56 hi0 hz0 hz1 hz2 rfl (by omega) v2 (j + 1) (N1 ++ [.int .i64 n, .int .i64 x2, .int .i64 x3, .int .u32 x4, .int .u16 x5, .int .u64 x6, .int .u64 x7]) rfl OWN4.out ad (L.length - j) (uc - j) N2 (by simp [Act.eval]) f2.out Z2.out o2.out (by unfold maxLen; omega) (by omega) B4.out.size ?_)
    intro v3 w5 hown hgrow _
    have B5 : Hid (Below W.heap.size W w5) := B4.out.grown hgrow B4.out.size (fun k hk => (World.ownsRow.lt OWN4.out k hk).1)
    obtain ⟨⟨sa, sn, sc⟩, hv⟩ := sl_of hown
    obtain rfl : v3 = .slice sa sn sc := hv
    obtain ⟨p1, p2⟩ := FIN.out w5 ⟨sa, sn, sc⟩ B5.out (by rw [List.append_assoc]; exact hown)
    have Q1 := Lib.hid p1
    clear hown hgrow g0 gl p1
    have g0 := p2.cell 4 _ rfl
    have gf := p2.free 4 _ rfl
    have gl := p2.lt
    clear p2
    go_wp2
    go_end0
    exact ⟨rfl, FF.out _ Q1.out⟩
theorem rset_any (n : Nat) (x : Pt) (hn : n < 33) (hp : x.peer = n) (hx : isS x = true) (g : Nat) (u : Sl) (k : Tk) (w : World) (h : Qs g u k w) (hok : OkK (setP k n x)) :
    Calls Try.prog 31 #[.pointer (some ⟨g, 0, none⟩), .agg (cp x).toArray] w (RSetPost g u (setP k n x) w) := by
  cases hs : isS (k.p n) with
  | true => exact rset_old n x hn hp hx g u k w h hok hs
  | false => exact rset_new n x hn hp hx g u k w h hok hs
def RLostPost (g : Nat) (u : Sl) (k : Tk) (i : Int) (w : World) (e : Ending) (w' : World) : Prop := e = .returned (.bool (isP k i)) ∧ QAft g u (lostD k i) w w'
set_option maxHeartbeats 12800000 in
set_option maxRecDepth 100000 in
theorem rlost_any (i : Int) (g : Nat) (u : Sl) (k : Tk) (w : World) (h : Qs g u k w) :
    Calls Try.prog 20 #[.pointer (some ⟨g, 0, none⟩), .int .i64 i] w (RLostPost g u k i w) := by
  have K := find_any i g u k w h
  unfold RLostPost
  have hok := lost_ok h.ok i
  unfold lostD at hok ⊢
  cases e1 : isP k i with
  | false =>
    have SAME := Lib.hid (fun w1 hb => h.same (w' := w1) hb)
    rw [e1] at K
    rw [if_neg (by decide)]
    clear h hok e1
    generalize atL i (allP k.p) = m at *
    go_enter Try.func20, Try.ntmps20
    go_wp2_with fail
    refine K.mono ?_; rintro e w1 ⟨rfl, b1⟩
    go_wp2
    refine bodyPost_ret (v := (.bool false)) (by simp [results, Try.results20, go_sem, *]) rfl ?_
    exact ⟨rfl, SAME.out _ b1⟩
  | true =>
    rw [e1, if_pos rfl] at hok
    rw [if_pos rfl]
    rw [e1] at K
    obtain ⟨n, rfl, h1, h2, hs⟩ := isP_node e1
    rw [Int.toNat_natCast] at hok ⊢
    have hn : n < 33 := by omega
    have WIPE : Hid (allP (setP k n zP).p = (allP k.p).take (atL n (allP k.p)) ++ (allP k.p).drop (atL n (allP k.p) + 1)) := all_wipe h.ok hn hs
    have hx0 := get_all h.ok hn hs
    have hjl := (List.getElem?_eq_some_iff.1 hx0).1
    have hun := h.n
    have hl33 := all_len k.p
    have HOK := Lib.hid hok
    have H := Lib.hid (fun w' (b : Below w.heap.size w w') => h.keep b)
    have AFT : Hid (∀ w1 w', Below w.heap.size w w1 → QAft g u (setP k n zP) w1 w' → QAft g u (setP k n zP) w w') := fun w1 w' b q => q.after b
    obtain ⟨j, hj⟩ : ∃ j, atL n (allP k.p) = j := ⟨_, rfl⟩
    obtain ⟨L, hL⟩ : ∃ L, allP k.p = L := ⟨_, rfl⟩
    obtain ⟨k2, hk2⟩ : ∃ k2, setP k n zP = k2 := ⟨_, rfl⟩
    have HKQ : Hid (k2.tries = k.tries ∧ k2.base = k.base ∧ k2.keep = k.keep ∧ k2.hold = k.hold) := by show _ ∧ _; rw [← hk2]; exact ⟨rfl, rfl, rfl, rfl⟩
    rw [hk2] at WIPE HOK AFT
    rw [hk2]
    rw [hj] at WIPE hjl K
    rw [hL] at WIPE hjl hun hl33
    obtain ⟨av, un, uc⟩ := u
    simp only at hun
    subst hun
    have HROW : Hid (∀ w', Below w.heap.size w w' → ERow cp 7 63 w' (.slice av L.length uc) L) := fun w' b => by
      have := (h.keep b).row
      rw [hL] at this; exact this
    clear h hok hs e1 hj hL hk2 hx0 h1 h2
    obtain ⟨i0, hi0, hz0, hz1, hz2⟩ := info_parts info_rpath
    go_enter Try.func20, Try.ntmps20
    go_wp2_with fail
    refine K.mono ?_; rintro e W ⟨rfl, b2⟩
    have B2 := Lib.hid b2
    clear K b2
    have FIN : Hid (∀ w3 (v3 : Sl), Below W.heap.size W w3 → w3.ownsRow W.heap.size 63 7 v3.v (j + (L.length - (j + 1))) (((L.take j).map cp).flatten ++ ((L.drop (j + 1)).map cp).flatten) → QAft g ⟨av, L.length, uc⟩ k2 W (w3.setCell ⟨g, 4, none⟩ (.slice v3.a v3.n v3.c)) ∧ Cs g (qC k ⟨av, L.length, uc⟩) w3) := fun w3 v3 hb ho => by
      refine (H.out W B2.out).put hb ?_ HKQ.out HOK.out (fun b hb => (World.ownsRow.lt ho b hb).1)
      unfold ERow
      rw [WIPE.out, List.map_append, List.flatten_append, show (L.take j ++ L.drop (j + 1)).length = j + (L.length - (j + 1)) by rw [List.length_append, List.length_take, List.length_drop]; omega]
      exact own_zero ho
    have GK : Hid (∀ w', Below W.heap.size W w' → Cs g (qC k ⟨av, L.length, uc⟩) w') := fun w' b => (H.out W B2.out).box.keep b
    have HR := Lib.hid (HROW.out W B2.out)
    have FF : Hid (∀ w', QAft g ⟨av, L.length, uc⟩ k2 W w' → QAft g ⟨av, L.length, uc⟩ k2 w w') := fun w' q => AFT.out W w' B2.out q
    clear HROW AFT H B2 WIPE HKQ HOK
    have hj0 : (0 : Int) ≤ j := by omega
    have hiL : (j : Int) ≤ L.length := by omega
    have hl2 : (L.length : Int) ≤ 33 := by omega
    have hcj3 : (0 : Int) ≤ (j : Int) + 1 := by omega
    have hcj4 : (j : Int) + 1 ≤ L.length := by omega
    have hcj5 : j + 1 ≤ L.length := hjl
    have hwr : IntKind.i64.wrap ((j : Int) + 1) = (j : Int) + 1 := IntWalk.i64_in _ ⟨by omega, by omega⟩
    have f1 : Hid (((L.take j).map cp).flatten.length = j * 7) := by show _ = _; rw [cps_len, List.length_take]; congr 1; omega
    have f2 : Hid (((L.drop (j + 1)).map cp).flatten.length = (L.length - (j + 1)) * 7) := by show _ = _; rw [cps_len, List.length_drop]
    have o1 := Lib.hid (cp_enc.ones (L.take j))
    have o2 := Lib.hid (cp_enc.ones (L.drop (j + 1)))
    have G0 := GK.out W (Below.refl _ _)
    have g0 := G0.cell 4 _ rfl
    have gl := G0.lt
    clear G0
    rcases erow_form HR.out with ⟨h1, h0⟩ | ⟨gv, cap, h1, _⟩
    · rw [h0] at hjl; simp at hjl
    simp only [Value.slice.injEq] at h1
    obtain ⟨rfl, -, rfl⟩ := h1
    have hLc : L.length ≤ uc := by
      obtain ⟨-, C, hC, hcap, ht, hlc, hm⟩ := erow_open cp_enc HR.out
      exact hlc
    have hic : j ≤ uc := by omega
    have hic2 : (j : Int) ≤ uc := by omega
    have R1 : Hid (∀ w', Below W.heap.size W w' → ∀ t v, ((L.take j).map cp).flatten[t]? = some v → w'.cell? ((⟨gv, 0, none⟩ : Addr).add t) = some v) := fun w' hb t v hu => by
      have := part_cells (p := 0) (M := L.take j) (erow_keep HR.out hb) (fun i x hx => take_get hx) t v hu
      rw [Nat.zero_mul] at this; exact this
    obtain ⟨ad, hadq, hadn⟩ : ∃ ad : Addr, some ad = (if uc = j + 1 then some ⟨gv, 0, none⟩ else some ⟨gv, (j + 1) * 7, none⟩) ∧ (¬ uc = j + 1 → ad = ⟨gv, (j + 1) * 7, none⟩) := by
      split
      · rename_i h0; exact ⟨_, rfl, fun h => absurd h0 h⟩
      · exact ⟨_, rfl, fun _ => rfl⟩
    have R2 : Hid (∀ w', Below W.heap.size W w' → ∀ t v, ((L.drop (j + 1)).map cp).flatten[t]? = some v → w'.cell? (ad.add t) = some v) := fun w' hb t v hu => by
      by_cases hce : uc = j + 1
      · have : ((L.drop (j + 1)).map cp).flatten = [] := List.eq_nil_of_length_eq_zero (by rw [f2.out]; omega)
        rw [this] at hu; simp at hu
      · rw [hadn hce]
        exact part_cells (p := j + 1) (M := L.drop (j + 1)) (erow_keep HR.out hb) (fun i x hx => by rwa [List.getElem?_drop] at hx) t v hu
    have HADQ := Lib.hid hadq
    clear hadq hadn HR
    generalize ((L.take j).map cp).flatten = N1 at *
    generalize ((L.drop (j + 1)).map cp).flatten = N2 at *
    have Z0 := Lib.hid (R1.out W (Below.refl _ _))
    go_wp2_with (at_builtin; refine wpList_append_own _ rfl (.tmp 16) (.tmp 22) 56 rfl W.heap.size 63 i0 _ 7 48 Try.underlying56 hi0 hz0 hz1 hz2 rfl (by omega) (.slice none 0 0) 0 [] rfl (World.ownsRow_nil _ _ _ _) ⟨gv, 0, none⟩ j uc N1 rfl f1.out Z0.out o1.out (by unfold maxLen; omega) (by omega) (Nat.le_refl _) ?_)
    intro v1 w3 hown hgrow _
    have B3 : Hid (Below W.heap.size W w3) := (Below.refl _ W).grown hgrow (Nat.le_refl _) (fun k hk => by simp [Value.ownBlock] at hk)
    have OWN := Lib.hid hown
    have G3 := GK.out w3 B3.out
    have Z2 := Lib.hid (R2.out w3 B3.out)
    clear hown hgrow g0 gl Z0
    have g0 := G3.cell 4 _ rfl
    have gl := G3.lt
    clear G3
    go_wp2_with (at_builtin; refine wpList_append_own _ rfl (.tmp 25) (.tmp 32) 56 rfl W.heap.size 63 i0 _ 7 48 Try.underlying56 hi0 hz0 hz1 hz2 rfl (by omega) v1 j N1 rfl OWN.out ad (L.length - (j + 1)) (uc - (j + 1)) N2 (by simp [Act.eval]; exact HADQ.out.symm) f2.out Z2.out o2.out (by unfold maxLen; omega) (by omega) B3.out.size ?_)
    all_goals (
      intro v2 w4 hown hgrow _
      have B4 : Hid (Below W.heap.size W w4) := B3.out.grown hgrow B3.out.size (fun k hk => (World.ownsRow.lt OWN.out k hk).1)
      obtain ⟨⟨sa, sn, sc⟩, hv⟩ := sl_of hown
      obtain rfl : v2 = .slice sa sn sc := hv
      obtain ⟨p1, p2⟩ := FIN.out w4 ⟨sa, sn, sc⟩ B4.out hown
      have Q1 := Lib.hid p1
      clear hown hgrow g0 gl p1
      have g0 := p2.cell 4 _ rfl
      have gf := p2.free 4 _ rfl
      have gl := p2.lt
      clear p2
      go_wp2
      refine bodyPost_ret (v := (.bool true)) (by simp [results, Try.results20, go_sem, *]) rfl ?_
      exact ⟨rfl, FF.out _ Q1.out⟩)
end Go.Proofs.Ytpeoallhbbleaaa
