/- The reference's: See. -/
import Derived.Test.YtnkjepemliccpaaRcRefEnd
namespace Go.Proofs.Ytnkjepemliccpaa
open Go.Sort Go.RowKit Go.BigFrame
set_option linter.unusedVariables false
set_option linter.unusedSimpArgs false

theorem info_rvote : (Try.prog.info? 59).map (fun i => (i.zero, i.size, i.bytes)) = some (some (.agg #[.int .i64 0, .int .u32 0, .int .u16 0, .int .u64 0]), 4, 24) := by kernel_rfl
def vC (L : List Vt) : List Value := (L.map cv).flatten
theorem vC_len (L : List Vt) : (vC L).length = L.length * 4 := by unfold vC; rw [flatten_len (z := 4) _ (cv_enc.all L), List.length_map]
theorem vC_ones (L : List Vt) : ∀ u ∈ vC L, u.oneCell' = true := cv_enc.ones L
/-- the cells of a part of a row -/
theorem part_cells {T : TypeId} {w : World} {gv c p : Nat} {L M : List Vt} (h : ERow cv 4 T w (.slice (some ⟨gv, 0, none⟩) L.length c) L) (hM : ∀ i x, M[i]? = some x → L[p + i]? = some x) : ∀ k u, (vC M)[k]? = some u → w.cell? ((⟨gv, p * 4, none⟩ : Addr).add k) = some u := by
  obtain ⟨-, C, hC, -, ht, -⟩ := erow_open cv_enc h
  exact hC.sub (p := p) (by decide) (cv_enc.all M) (fun i c hc => by
    rw [List.getElem?_map, Option.map_eq_some_iff] at hc
    obtain ⟨x, hx, rfl⟩ := hc
    exact taken_at ht (hM i x hx))
theorem take_get {L : List Vt} {j i : Nat} {x : Vt} (h : (L.take j)[i]? = some x) : L[0 + i]? = some x := by
  rw [List.getElem?_take] at h
  split at h
  · rwa [Nat.zero_add]
  · cases h
theorem row_cell {T : TypeId} {w : World} {gv c : Nat} {L : List Vt} (h : ERow cv 4 T w (.slice (some ⟨gv, 0, none⟩) L.length c) L) {j : Nat} {y : Vt} (hj : L[j]? = some y) (t : Nat) (u : Value) (hu : (cv y)[t]? = some u) : w.cell? ⟨gv, j * 4 + t, none⟩ = some u := by
  obtain ⟨-, C, hC, -, ht, -⟩ := erow_open cv_enc h
  exact hC.cell j t _ u (taken_at ht hj) hu
def RSeePost (g : Nat) (v p : Sl) (k : Rc) (i : Int) (ip pt : Nat) (now : Int) (w : World) (e : Ending) (w' : World) : Prop := e = .returned (.int .i64 (seeE i ip pt now)) ∧ QAft g v p (seeD k i ip pt now) w w'
def FiJ (n : Int) (L : List Vt) (w : World) (iv : Value) (wr : World) : Prop := ∃ j : Nat, iv = .int .i64 (j : Nat) ∧ j ≤ L.length ∧ j ≤ atL n L ∧ w = wr
/-- a new row is stored: whose vote is put -/
theorem see_put {g : Nat} {v p : Sl} {sq : Int} {gt : Bool} {k : Rc} {w w1 w3 : World} {n : Nat} {x : Vt} {v3 : Sl} {m : Nat} (h : Qs g v p sq gt k w) (b1 : Below w.heap.size w w1) (hn : n < 33) (hx : isV x = true) (hok : OkR { k with vote := updV k.vote n x })
    (hb : Below w1.heap.size w1 w3) (ho : w3.ownsRow w1.heap.size 59 4 v3.v m (vC (loV k.vote n) ++ cv x ++ vC (hiV k.vote n))) (hm : m = (loV k.vote n).length + 1 + (hiV k.vote n).length) :
    Cs g (qC k v p sq gt) w3 ∧ QAft g v p { k with vote := updV k.vote n x } w (w3.setCell ⟨g, 2, none⟩ (.slice v3.a v3.n v3.c)) := by
  have b3 := b1.trans (hb.mono b1.size)
  have hbx := h.box.keep b3
  have all : allV (updV k.vote n x) = loV k.vote n ++ x :: hiV k.vote n := all_put k hn hx
  have hr : ERow cv 4 59 w3 v3.v (allV (updV k.vote n x)) := by
    unfold ERow
    have e : ((loV k.vote n ++ x :: hiV k.vote n).map cv).flatten = vC (loV k.vote n) ++ cv x ++ vC (hiV k.vote n) := by simp [vC]
    rw [all, e, show (loV k.vote n ++ x :: hiV k.vote n).length = m by rw [List.length_append, List.length_cons]; omega]
    exact own_zero ho
  refine ⟨hbx, h.put (k' := { k with vote := updV k.vote n x }) (v' := v3) (p' := p) (sq' := sq) (gt' := gt) b3 (touch_c (Touch.refl _ _) 2 _) ?_ hr (h.past.keep b3) (fun b hb2 => .inr (Nat.le_trans b1.size (World.ownsRow.lt ho b hb2).1)) (fun _ ha => .inl ha) h.rel hok⟩
  exact hbx.set 2 (.slice v3.a v3.n v3.c) (by simp [qC])
set_option maxHeartbeats 3200000 in
theorem rsee_bad (i : Int) (ip pt : Nat) (now : Int) (hi : ip < 4294967296) (hp : pt < 65536) (g : Nat) (v p : Sl) (sq : Int) (gt : Bool) (k : Rc) (w : World) (h : Qs g v p sq gt k w) (hbad : nodeI i = false ∨ noneI ip pt = true ∨ 4611686018427387904 < now) :
    Calls Try.prog 21 #[.pointer (some ⟨g, 0, none⟩), .int .i64 i, .agg #[.int .u32 ip, .int .u16 pt], .int .u64 now] w (RSeePost g v p k i ip pt now w) := by
  unfold RSeePost
  have F := seeD_no (k := k) hbad
  rw [F.1, F.2]
  clear F
  have B : Hid (Below w.heap.size w (w.alloc (.cells #[.int .u32 ip, .int .u16 pt] 43))) := (Below.refl _ w).alloc (Nat.le_refl _) _
  have X : Hid (Cs w.heap.size [.int .u32 ip, .int .u16 pt] (w.alloc (.cells #[.int .u32 ip, .int .u16 pt] 43))) := Cs.new w _ _
  have HW := Lib.hid (fun w' (b : Below w.heap.size w w') => h.same b)
  have K2 := fun w => rnone_any ip pt hi hp w
  generalize hN : noneI ip pt = nn at *
  replace hN := Lib.hid hN
  clear h
  by_cases c1 : i < 1
  · have d1 : decide (i < 1) = true := decide_eq_true c1
    clear hbad c1
    go_enter Try.func21, Try.ntmps21
    go_upto_region 1 with fail
    generalize (w.alloc (.cells #[.int .u32 ip, .int .u16 pt] 43)) = w1 at *
    generalize w.heap.size = b at X ⊢
    have x0 := X.out.cell 0 _ rfl; have x1 := X.out.cell 1 _ rfl; have xl := X.out.lt
    go_wp2_with fail
    refine (K2 _).mono ?_; rintro e w2 ⟨rfl, b2⟩
    have F := Lib.hid (HW.out _ (B.out.trans (b2.mono B.out.size)))
    clear x0 x1 xl X b2
    go_wp2
    refine bodyPost_ret (v := (.int .i64 1)) (by simp [results, Try.results21, go_sem, *]) rfl ?_
    exact ⟨rfl, F.out⟩
  · have d1 : decide (i < 1) = false := decide_eq_false c1
    by_cases c2 : 32 < i
    · have d2 : decide (32 < i) = true := decide_eq_true c2
      clear hbad c1 c2
      go_enter Try.func21, Try.ntmps21
      go_upto_region 1 with fail
      generalize (w.alloc (.cells #[.int .u32 ip, .int .u16 pt] 43)) = w1 at *
      generalize w.heap.size = b at X ⊢
      have x0 := X.out.cell 0 _ rfl; have x1 := X.out.cell 1 _ rfl; have xl := X.out.lt
      go_wp2_with fail
      refine (K2 _).mono ?_; rintro e w2 ⟨rfl, b2⟩
      have F := Lib.hid (HW.out _ (B.out.trans (b2.mono B.out.size)))
      clear x0 x1 xl X b2
      go_wp2
      refine bodyPost_ret (v := (.int .i64 1)) (by simp [results, Try.results21, go_sem, *]) rfl ?_
      exact ⟨rfl, F.out⟩
    · have d2 : decide (32 < i) = false := decide_eq_false c2
      have q : nodeI i = true := nodeI_iff.2 ⟨by omega, by omega⟩
      rw [q] at hbad
      cases nn with
      | true =>
        clear hbad c1 c2 q
        go_enter Try.func21, Try.ntmps21
        go_upto_region 1 with fail
        generalize (w.alloc (.cells #[.int .u32 ip, .int .u16 pt] 43)) = w1 at *
        generalize w.heap.size = b at X ⊢
        have x0 := X.out.cell 0 _ rfl; have x1 := X.out.cell 1 _ rfl; have xl := X.out.lt
        go_wp2_with fail
        refine (K2 _).mono ?_; rintro e w2 ⟨rfl, b2⟩
        have F := Lib.hid (HW.out _ (B.out.trans (b2.mono B.out.size)))
        clear x0 x1 xl X b2
        go_wp2
        refine bodyPost_ret (v := (.int .i64 1)) (by simp [results, Try.results21, go_sem, *]) rfl ?_
        exact ⟨rfl, F.out⟩
      | false =>
        have d3 : decide (4611686018427387904 < now) = true := decide_eq_true (by simpa using hbad)
        clear hbad c1 c2 q
        go_enter Try.func21, Try.ntmps21
        go_upto_region 1 with fail
        generalize (w.alloc (.cells #[.int .u32 ip, .int .u16 pt] 43)) = w1 at *
        generalize w.heap.size = b at X ⊢
        have x0 := X.out.cell 0 _ rfl; have x1 := X.out.cell 1 _ rfl; have xl := X.out.lt
        go_wp2_with fail
        refine (K2 _).mono ?_; rintro e w2 ⟨rfl, b2⟩
        have F := Lib.hid (HW.out _ (B.out.trans (b2.mono B.out.size)))
        clear x0 x1 xl X b2
        go_wp2
        refine bodyPost_ret (v := (.int .i64 1)) (by simp [results, Try.results21, go_sem, *]) rfl ?_
        exact ⟨rfl, F.out⟩
set_option maxHeartbeats 12800000 in
set_option maxRecDepth 100000 in
theorem rsee_good (n : Nat) (ip pt : Nat) (now : Int) (hi : ip < 4294967296) (hp : pt < 65536) (hnn : 0 ≤ now) (g : Nat) (v p : Sl) (sq : Int) (gt : Bool) (k : Rc) (w : World) (h : Qs g v p sq gt k w) (h1 : 1 ≤ n) (h2 : n ≤ 32) (hN : noneI ip pt = false) (hw : now ≤ 4611686018427387904) :
    Calls Try.prog 21 #[.pointer (some ⟨g, 0, none⟩), .int .i64 (n : Int), .agg #[.int .u32 ip, .int .u16 pt], .int .u64 now] w (RSeePost g v p k n ip pt now w) := by
  unfold RSeePost
  have hok := see_ok h.ok n ip pt now hnn hi hp
  have F := seeD_yes (k := k) (ip := ip) (pt := pt) (now := now) h1 h2 hN hw
  rw [F.2] at hok ⊢
  rw [F.1]
  clear F
  have B : Hid (Below w.heap.size w (w.alloc (.cells #[.int .u32 ip, .int .u16 pt] 43))) := (Below.refl _ w).alloc (Nat.le_refl _) _
  have X : Hid (Cs w.heap.size [.int .u32 ip, .int .u16 pt] (w.alloc (.cells #[.int .u32 ip, .int .u16 pt] 43))) := Cs.new w _ _
  have K2 := fun w => rnone_any ip pt hi hp w
  rw [hN] at K2
  have d1 : decide ((n : Int) < 1) = false := decide_eq_false (by omega)
  have d2 : decide ((32 : Int) < n) = false := decide_eq_false (by omega)
  have d3 : decide (4611686018427387904 < now) = false := decide_eq_false (by omega)
  have hn : n < 33 := by omega
  obtain ⟨x, hx⟩ : ∃ x : Vt, x = ⟨n, ip, pt, now⟩ := ⟨_, rfl⟩
  have hxs : isV x = true := by rw [hx]; exact nodeI_iff.2 ⟨by show (1 : Int) ≤ n; omega, by show (n : Int) ≤ 32; omega⟩
  rw [← hx] at hok ⊢
  obtain ⟨j, hj⟩ : ∃ j, atL n (allV k.vote) = j := ⟨_, rfl⟩
  have HP := Lib.hid (fun w1 w3 v3 m (b1 : Below w.heap.size w w1) (hb : Below w1.heap.size w1 w3) ho hm => see_put (v3 := v3) (m := m) h b1 hn hxs hok hb ho hm)
  have TK : Hid ((allV k.vote).take j = loV k.vote n) := by show _ = _; rw [← hj]; exact at_take h.ok hn
  have HY := Lib.hid (fun hs => at_yes h.ok hn hs)
  have HZ := Lib.hid (fun hs => at_no h.ok hn hs)
  have HW : Hid (isV (k.vote n) = true → (k.vote n).who = n) := fun hs => (h.ok.yes n hs).who
  rw [hj] at HY HZ
  have hjl : j ≤ (allV k.vote).length := by rw [← hj]; exact atL_le _ _
  have l33 := all_len k.vote
  have HROW := Lib.hid (fun w1 (b : Below w.heap.size w w1) => erow_keep h.row b)
  have HBX := Lib.hid (fun w1 (b : Below w.heap.size w w1) => h.box.keep b)
  have hvn := h.n
  have hci : cv x = [.int .i64 n, .int .u32 ip, .int .u16 pt, .int .u64 now] := by rw [hx]; rfl
  rw [hci] at HP
  obtain ⟨va, vn, vc⟩ := v
  simp only at hvn
  subst hvn
  clear hok hx hci h h1 h2 hN hw hxs
  generalize hlo : loV k.vote n = lo at *
  generalize hhi : hiV k.vote n = hil at *
  generalize hL : allV k.vote = L at *
  generalize hkn : k.vote n = kn at *
  clear hL hlo hhi hkn
  obtain ⟨i0, hi0, hz0, hz1, hz2⟩ := info_parts info_rvote
  go_enter Try.func21, Try.ntmps21
  go_upto_region 1 with fail
  generalize (w.alloc (.cells #[.int .u32 ip, .int .u16 pt] 43)) = w1 at *
  generalize w.heap.size = b6 at X ⊢
  have x0 := X.out.cell 0 _ rfl; have x1 := X.out.cell 1 _ rfl; have xl := X.out.lt
  go_wp2_with fail
  refine (K2 _).mono ?_; rintro e W ⟨rfl, b2⟩
  have B2 := Lib.hid (B.out.trans (b2.mono B.out.size))
  have X2 := Lib.hid (X.out.keep b2)
  clear x0 x1 xl X b2 B K2
  have ROW := Lib.hid (HROW.out W B2.out)
  have BX := Lib.hid (HBX.out W B2.out)
  have GK := Lib.hid (fun w' (hb : Below W.heap.size W w') => BX.out.keep hb)
  have XK := Lib.hid (fun w' (hb : Below W.heap.size W w') => X2.out.keep hb)
  have FIN := Lib.hid (fun w3 v3 m hb ho hm => HP.out W w3 v3 m B2.out hb ho hm)
  clear HROW HBX HP
  have x2 := BX.out.cell 2 _ rfl; have gl := BX.out.lt
  rcases erow_form ROW.out with ⟨e1, e2⟩ | ⟨gv, cap, e1, _⟩
  · simp only [Sl.v, Value.slice.injEq] at e1
    obtain ⟨rfl, -, rfl⟩ := e1
    subst e2
    obtain rfl : j = 0 := by simpa using hjl
    have hlo : lo = [] := by rw [← TK.out]; rfl
    have hs : isV kn = false := by
      cases e : isV kn with
      | false => rfl
      | true => have := (HY.out e).1; simp at this
    have hhi : hil = [] := by rw [← (HZ.out hs).2]; rfl
    subst hlo hhi
    clear HY HZ HW hs TK hjl l33 hj ROW
    simp only [List.length_nil] at *
    go_wp2_with fail
    go_loopw [10] (fun iv wr => iv = .int .i64 0 ∧ W = wr) (fun _ _ => 0)
    case atStart => exact ⟨rfl, rfl⟩
    case round =>
      obtain ⟨rfl, rfl⟩ := hrel
      have x0 := X2.out.cell 0 _ rfl; have x1 := X2.out.cell 1 _ rfl; have xl := X2.out.lt
      have HO : Hid (∀ u ∈ ([.int .i64 n, .int .u32 ip, .int .u16 pt, .int .u64 now] : List Value), u.oneCell' = true) := by
        intro u hu
        simp only [List.mem_cons, List.not_mem_nil, or_false] at hu
        rcases hu with rfl | rfl | rfl | rfl <;> rfl
      go_wp2_with (at_builtin; first | (refine wpList_append_own_none rfl (.tmp 48) (.tmp 54) 52 rfl W.heap.size 59 i0 4 Try.underlying52 hi0 (.slice none 0 0) 0 [] rfl (World.ownsRow_nil _ _ _ _) rfl ?_) | (refine wpList_append_own _ rfl (.tmp 56) (.tmp 61) 52 rfl W.heap.size 59 i0 _ 4 24 Try.underlying52 hi0 hz0 hz1 hz2 rfl (by omega) (.slice none 0 0) 0 [] rfl (World.ownsRow_nil _ _ _ _) ⟨_, 0, none⟩ 1 1 [.int .i64 n, .int .u32 ip, .int .u16 pt, .int .u64 now] rfl rfl (World.news_of_block (cs := #[.int .i64 n, .int .u32 ip, .int .u16 pt, .int .u64 now]) (t := 59) (fr := (0, 0)) (heap_alloc_new _ _)) HO.out (by unfold maxLen; omega) (by omega) (by simp) ?_))
      intro v2 w4 hown hgrow _
      have B4 : Hid (Below W.heap.size W w4) := ((Below.refl _ W).alloc (Nat.le_refl _) _).grown hgrow (by simp) (fun k hk => by simp [Value.ownBlock] at hk)
      have OWN4 := Lib.hid hown
      clear hown hgrow x0 x1 xl x2 gl
      obtain ⟨⟨sa, sn, sc⟩, hv⟩ := sl_of OWN4.out
      obtain rfl : v2 = .slice sa sn sc := hv
      obtain ⟨q2, q1⟩ := FIN.out w4 ⟨sa, sn, sc⟩ 1 B4.out (by simpa [Sl.v, vC] using OWN4.out) rfl
      have Q1 := Lib.hid q1
      have x2 := q2.cell 2 _ rfl; have xf := q2.free 2 _ rfl; have gl := q2.lt
      clear q1 q2
      go_wp2_with (at_builtin; refine wpList_append_own_none rfl (.tmp 85) (.tmp 91) 52 rfl W.heap.size 59 i0 4 Try.underlying52 hi0 (.slice sa sn sc) 1 [.int .i64 n, .int .u32 ip, .int .u16 pt, .int .u64 now] rfl OWN4.out rfl ?_)
      go_wp2
      refine bodyPost_ret (v := (.int .i64 0)) (by simp [results, Try.results21, go_sem, *]) rfl ?_
      exact ⟨rfl, Q1.out⟩
  · simp only [Sl.v, Value.slice.injEq] at e1
    obtain ⟨rfl, -, rfl⟩ := e1
    have hLc : L.length ≤ vc := by
      obtain ⟨-, C, hC, hcap, ht, hlc, hm⟩ := erow_open cv_enc ROW.out
      exact hlc
    go_wp2_with fail
    go_loopw [10] (fun iv wr => FiJ n L W iv wr) (fun iv _ => L.length - (intOf iv).toNat)
    case atStart => exact ⟨0, rfl, Nat.zero_le _, Nat.zero_le _, rfl⟩
    case round =>
      obtain ⟨t, rfl, htl, htj, rfl⟩ := hrel
      have ht0 : (0 : Int) ≤ t := by omega
      rw [hj] at htj
      by_cases hlt : t < j
      · have hltL : t < L.length := by omega
        have hy : L[t]? = some L[t] := List.getElem?_eq_getElem hltL
        have hyw : L[t].who < n := by
          rcases Int.lt_or_le L[t].who n with e | e
          · exact e
          · have := atL_here (i := (n : Int)) hy (by rw [hj]; exact htj) (by omega)
            omega
        have y0 := row_cell ROW.out hy 0 _ rfl
        rw [Nat.add_zero] at y0
        have hltI : (t : Int) < L.length := by omega
        have t8 := IntWalk.i64_in ((t : Int) + 1) ⟨by omega, by omega⟩
        have HT : Hid (t + 1 ≤ L.length ∧ t + 1 ≤ atL n L) := ⟨by omega, by rw [hj]; omega⟩
        generalize L[t] = y at *
        clear hy hlt hltL
        obtain ⟨y1, y2, y3, y4⟩ := y
        simp only at hyw y0
        go_wp2
        go_roundw
        case rel => exact ⟨t + 1, by go_num, HT.out.1, HT.out.2, rfl⟩
        case measure => have := HT.out.1; simp [intOf]; omega
      · obtain rfl : t = j := by omega
        clear hlt htj htl
        have hic : t ≤ vc := by omega
        have hic2 : (t : Int) ≤ vc := by omega
        have htL : (t : Int) ≤ L.length := by omega
        have HO : Hid (∀ u ∈ ([.int .i64 n, .int .u32 ip, .int .u16 pt, .int .u64 now] : List Value), u.oneCell' = true) := by
          intro u hu
          simp only [List.mem_cons, List.not_mem_nil, or_false] at hu
          rcases hu with rfl | rfl | rfl | rfl <;> rfl
        have R1 : Hid (∀ w', Below W.heap.size W w' → ∀ q u, (vC lo)[q]? = some u → w'.cell? ((⟨gv, 0, none⟩ : Addr).add q) = some u) := fun w' hb q u hu => by
          have := part_cells (p := 0) (M := L.take t) (erow_keep ROW.out hb) (fun i x hx => take_get hx) q u (by rw [TK.out]; exact hu)
          rw [Nat.zero_mul] at this; exact this
        have f1 : Hid ((vC lo).length = t * 4) := by show _ = _; rw [vC_len, ← TK.out, List.length_take]; congr 1; omega
        have lol : Hid (lo.length = t) := by show _ = _; rw [← TK.out, List.length_take]; omega
        have o1 := Lib.hid (vC_ones lo)
        cases hs : isV kn with
        | true =>
          obtain ⟨hy, hd⟩ := HY.out hs
          have hyw := HW.out hs
          have htl : t < L.length := (List.getElem?_eq_some_iff.1 hy).1
          have htlI : (t : Int) < L.length := by omega
          have YC : Hid (∀ w', Below W.heap.size W w' → w'.cell? ⟨gv, t * 4, none⟩ = some (.int .i64 n)) := fun w' hb => by
            have := row_cell (erow_keep ROW.out hb) hy 0 _ rfl
            rw [Nat.add_zero, hyw] at this; exact this
          have y0 := YC.out W (Below.refl _ _)
          have t8 := IntWalk.i64_in ((t : Int) + 1) ⟨by omega, by omega⟩
          have t80 : (0 : Int) ≤ (t : Int) + 1 := by omega
          have t81 : (t : Int) + 1 ≤ L.length := by omega
          have t82 : (t : Int) + 1 ≤ vc := by omega
          have t83 : t + 1 ≤ L.length := by omega
          have t84 : ((t : Int) + 1).toNat = t + 1 := by omega
          have e1 : ¬ (n : Int) < n := by omega
          clear hy hyw
          have hdl : hil.length = L.length - (t + 1) := by rw [← hd, List.length_drop]
          have f2 : Hid ((vC hil).length = (L.length - (t + 1)) * 4) := by show _ = _; rw [vC_len, hdl]
          have o2 := Lib.hid (vC_ones hil)
          obtain ⟨ad, hadq, hadn⟩ : ∃ ad : Addr, some ad = (if vc = (t + 1) then some ⟨gv, 0, none⟩ else some ⟨gv, ((t + 1)) * 4, none⟩) ∧ (¬ vc = (t + 1) → ad = ⟨gv, ((t + 1)) * 4, none⟩) := by
            split
            · rename_i h0; exact ⟨_, rfl, fun h => absurd h0 h⟩
            · exact ⟨_, rfl, fun _ => rfl⟩
          have R2 : Hid (∀ w', Below W.heap.size W w' → ∀ q u, (vC hil)[q]? = some u → w'.cell? (ad.add q) = some u) := fun w' hb q u hu => by
            by_cases hce : vc = (t + 1)
            · have : vC hil = [] := List.eq_nil_of_length_eq_zero (by rw [f2.out]; omega)
              rw [this] at hu; simp at hu
            · rw [hadn hce]
              exact part_cells (p := (t + 1)) (M := L.drop ((t + 1))) (erow_keep ROW.out hb) (fun i x hx => by rwa [List.getElem?_drop] at hx) q u (by rw [hd]; exact hu)
          have hif : (if vc = (t + 1) then some (⟨gv, 0, none⟩ : Addr) else some ⟨gv, ((t + 1)) * 4, none⟩) = some ad := hadq.symm
          have hM : Hid (t + 1 + (L.length - ((t + 1))) = lo.length + 1 + hil.length) := by show _ = _; rw [hdl, lol.out]
          replace hdl := Lib.hid hdl
          have hadE : Hid (¬ vc = (t + 1) → (⟨gv, ((t + 1)) * 4, none⟩ : Addr) = ad) := fun h => (hadn h).symm
          clear hadq hadn hd TK HY HZ HW
          generalize vC lo = N1 at *
          generalize vC hil = N2 at *
          have Z0 := Lib.hid (R1.out W (Below.refl _ _))
          have x0 := X2.out.cell 0 _ rfl; have x1 := X2.out.cell 1 _ rfl; have xl := X2.out.lt
          go_wp2_with (at_builtin; refine wpList_append_own _ rfl (.tmp 48) (.tmp 54) 52 rfl W.heap.size 59 i0 _ 4 24 Try.underlying52 hi0 hz0 hz1 hz2 rfl (by omega) (.slice none 0 0) 0 [] rfl (World.ownsRow_nil _ _ _ _) ⟨gv, 0, none⟩ t vc N1 rfl f1.out Z0.out o1.out (by unfold maxLen; omega) (by omega) (Nat.le_refl _) ?_)
          intro v1 w3 hown hgrow _
          have B3 : Hid (Below W.heap.size W w3) := (Below.refl _ W).grown hgrow (Nat.le_refl _) (fun k hk => by simp [Value.ownBlock] at hk)
          have OWN := Lib.hid hown
          have G3 := GK.out w3 B3.out
          have X3 := XK.out w3 B3.out
          clear hown hgrow x0 x1 xl x2 gl Z0
          have x2 := G3.cell 2 _ rfl; have gl := G3.lt; have x0 := X3.cell 0 _ rfl; have x1 := X3.cell 1 _ rfl; have xl := X3.lt
          have OW3 : Hid (∀ o, (w3.alloc o).ownsRow W.heap.size 59 4 v1 t N1) := fun o => own_touch (F := fun _ => False) (by simpa using OWN.out) ((Touch.refl _ _).alloc _) (fun _ _ h => h)
          clear G3 X3
          go_wp2_with (at_builtin; refine wpList_append_own _ rfl (.tmp 56) (.tmp 61) 52 rfl W.heap.size 59 i0 _ 4 24 Try.underlying52 hi0 hz0 hz1 hz2 rfl (by omega) v1 t N1 rfl (OW3.out _) ⟨_, 0, none⟩ 1 1 [.int .i64 n, .int .u32 ip, .int .u16 pt, .int .u64 now] rfl rfl (World.news_of_block (cs := #[.int .i64 n, .int .u32 ip, .int .u16 pt, .int .u64 now]) (t := 59) (fr := (0, 0)) (heap_alloc_new _ _)) HO.out (by unfold maxLen; omega) (by omega) (by have := B3.out.size; simp; omega) ?_)
          intro v2 w4 hown hgrow _
          have B4 : Hid (Below W.heap.size W w4) := (B3.out.alloc B3.out.size _).grown hgrow (by have := B3.out.size; simp; omega) (fun k hk => (World.ownsRow.lt OWN.out k hk).1)
          have OWN4 := Lib.hid hown
          have G4 := GK.out w4 B4.out
          have Z2 := Lib.hid (R2.out w4 B4.out)
          clear hown hgrow x0 x1 xl x2 gl OW3
          have x2 := G4.cell 2 _ rfl; have gl := G4.lt
          clear G4
          have y0 := YC.out w4 B4.out
          go_wp2_with (at_builtin; refine wpList_append_own _ rfl (.tmp 85) (.tmp 91) 52 rfl W.heap.size 59 i0 _ 4 24 Try.underlying52 hi0 hz0 hz1 hz2 rfl (by omega) v2 (t + 1) (N1 ++ [.int .i64 n, .int .u32 ip, .int .u16 pt, .int .u64 now]) rfl OWN4.out ad (L.length - ((t + 1))) (vc - ((t + 1))) N2 (by first | (simp [Act.eval]; done) | (simp [Act.eval]; exact hadE.out (by omega))) f2.out Z2.out o2.out (by unfold maxLen; omega) (by omega) B4.out.size ?_)
          intro v3 w5 hown hgrow _
          have B5 : Hid (Below W.heap.size W w5) := B4.out.grown hgrow B4.out.size (fun k hk => (World.ownsRow.lt OWN4.out k hk).1)
          obtain ⟨⟨sa, sn, sc⟩, hv⟩ := sl_of hown
          obtain rfl : v3 = .slice sa sn sc := hv
          have hown2 : w5.ownsRow W.heap.size 59 4 (Sl.v ⟨sa, sn, sc⟩) (t + 1 + (L.length - ((t + 1)))) (N1 ++ [.int .i64 n, .int .u32 ip, .int .u16 pt, .int .u64 now] ++ N2) := by
            first
            | (simpa [Sl.v] using hown)
            | (rw [show t + 1 + (L.length - ((t + 1))) = L.length by omega]; simpa [Sl.v] using hown)
          obtain ⟨q2, q1⟩ := FIN.out w5 ⟨sa, sn, sc⟩ _ B5.out hown2 hM.out
          clear hown2
          have Q1 := Lib.hid q1
          clear hown hgrow x2 gl q1
          have x2 := q2.cell 2 _ rfl; have xf := q2.free 2 _ rfl; have gl := q2.lt
          clear q2
          go_wp2
          refine bodyPost_ret (v := (.int .i64 0)) (by simp [results, Try.results21, go_sem, *]) rfl ?_
          exact ⟨rfl, Q1.out⟩
        | false =>
          obtain ⟨hz, hd⟩ := HZ.out hs
          by_cases htl : t < L.length
          · have hy : L[t]? = some L[t] := List.getElem?_eq_getElem htl
            have hyw := hz _ hy
            have htlI : (t : Int) < L.length := by omega
            obtain ⟨d, hdw⟩ : ∃ d, d = L[t].who := ⟨_, rfl⟩
            rw [← hdw] at hyw
            have YC : Hid (∀ w', Below W.heap.size W w' → w'.cell? ⟨gv, t * 4, none⟩ = some (.int .i64 d)) := fun w' hb => by
              have := row_cell (erow_keep ROW.out hb) hy 0 _ rfl
              rw [Nat.add_zero, ← hdw] at this; exact this
            have y0 := YC.out W (Below.refl _ _)
            have e1 : ¬ d < (n : Int) := by omega
            have e2 : ¬ d = (n : Int) := by omega
            have e3 : (d == (n : Int)) = false := by rw [beq_eq_false_iff_ne]; omega
            clear hy hz hdw hs
            have hdl : hil.length = L.length - t := by rw [← hd, List.length_drop]
            have f2 : Hid ((vC hil).length = (L.length - t) * 4) := by show _ = _; rw [vC_len, hdl]
            have o2 := Lib.hid (vC_ones hil)
            obtain ⟨ad, hadq, hadn⟩ : ∃ ad : Addr, some ad = (if vc = t then some ⟨gv, 0, none⟩ else some ⟨gv, (t) * 4, none⟩) ∧ (¬ vc = t → ad = ⟨gv, (t) * 4, none⟩) := by
              split
              · rename_i h0; exact ⟨_, rfl, fun h => absurd h0 h⟩
              · exact ⟨_, rfl, fun _ => rfl⟩
            have R2 : Hid (∀ w', Below W.heap.size W w' → ∀ q u, (vC hil)[q]? = some u → w'.cell? (ad.add q) = some u) := fun w' hb q u hu => by
              by_cases hce : vc = t
              · have : vC hil = [] := List.eq_nil_of_length_eq_zero (by rw [f2.out]; omega)
                rw [this] at hu; simp at hu
              · rw [hadn hce]
                exact part_cells (p := t) (M := L.drop (t)) (erow_keep ROW.out hb) (fun i x hx => by rwa [List.getElem?_drop] at hx) q u (by rw [hd]; exact hu)
            have hif : (if vc = t then some (⟨gv, 0, none⟩ : Addr) else some ⟨gv, (t) * 4, none⟩) = some ad := hadq.symm
            have hM : Hid (t + 1 + (L.length - (t)) = lo.length + 1 + hil.length) := by show _ = _; rw [hdl, lol.out]
            replace hdl := Lib.hid hdl
            have hadE : Hid (¬ vc = t → (⟨gv, (t) * 4, none⟩ : Addr) = ad) := fun h => (hadn h).symm
            clear hadq hadn hd TK HY HZ HW
            generalize vC lo = N1 at *
            generalize vC hil = N2 at *
            have Z0 := Lib.hid (R1.out W (Below.refl _ _))
            have x0 := X2.out.cell 0 _ rfl; have x1 := X2.out.cell 1 _ rfl; have xl := X2.out.lt
            go_wp2_with (at_builtin; refine wpList_append_own _ rfl (.tmp 48) (.tmp 54) 52 rfl W.heap.size 59 i0 _ 4 24 Try.underlying52 hi0 hz0 hz1 hz2 rfl (by omega) (.slice none 0 0) 0 [] rfl (World.ownsRow_nil _ _ _ _) ⟨gv, 0, none⟩ t vc N1 rfl f1.out Z0.out o1.out (by unfold maxLen; omega) (by omega) (Nat.le_refl _) ?_)
            intro v1 w3 hown hgrow _
            have B3 : Hid (Below W.heap.size W w3) := (Below.refl _ W).grown hgrow (Nat.le_refl _) (fun k hk => by simp [Value.ownBlock] at hk)
            have OWN := Lib.hid hown
            have G3 := GK.out w3 B3.out
            have X3 := XK.out w3 B3.out
            clear hown hgrow x0 x1 xl x2 gl Z0
            have x2 := G3.cell 2 _ rfl; have gl := G3.lt; have x0 := X3.cell 0 _ rfl; have x1 := X3.cell 1 _ rfl; have xl := X3.lt
            have OW3 : Hid (∀ o, (w3.alloc o).ownsRow W.heap.size 59 4 v1 t N1) := fun o => own_touch (F := fun _ => False) (by simpa using OWN.out) ((Touch.refl _ _).alloc _) (fun _ _ h => h)
            clear G3 X3
            go_wp2_with (at_builtin; refine wpList_append_own _ rfl (.tmp 56) (.tmp 61) 52 rfl W.heap.size 59 i0 _ 4 24 Try.underlying52 hi0 hz0 hz1 hz2 rfl (by omega) v1 t N1 rfl (OW3.out _) ⟨_, 0, none⟩ 1 1 [.int .i64 n, .int .u32 ip, .int .u16 pt, .int .u64 now] rfl rfl (World.news_of_block (cs := #[.int .i64 n, .int .u32 ip, .int .u16 pt, .int .u64 now]) (t := 59) (fr := (0, 0)) (heap_alloc_new _ _)) HO.out (by unfold maxLen; omega) (by omega) (by have := B3.out.size; simp; omega) ?_)
            intro v2 w4 hown hgrow _
            have B4 : Hid (Below W.heap.size W w4) := (B3.out.alloc B3.out.size _).grown hgrow (by have := B3.out.size; simp; omega) (fun k hk => (World.ownsRow.lt OWN.out k hk).1)
            have OWN4 := Lib.hid hown
            have G4 := GK.out w4 B4.out
            have Z2 := Lib.hid (R2.out w4 B4.out)
            clear hown hgrow x0 x1 xl x2 gl OW3
            have x2 := G4.cell 2 _ rfl; have gl := G4.lt
            clear G4
            have y0 := YC.out w4 B4.out
            go_wp2_with (at_builtin; refine wpList_append_own _ rfl (.tmp 85) (.tmp 91) 52 rfl W.heap.size 59 i0 _ 4 24 Try.underlying52 hi0 hz0 hz1 hz2 rfl (by omega) v2 (t + 1) (N1 ++ [.int .i64 n, .int .u32 ip, .int .u16 pt, .int .u64 now]) rfl OWN4.out ad (L.length - (t)) (vc - (t)) N2 (by first | (simp [Act.eval]; done) | (simp [Act.eval]; exact hadE.out (by omega))) f2.out Z2.out o2.out (by unfold maxLen; omega) (by omega) B4.out.size ?_)
            intro v3 w5 hown hgrow _
            have B5 : Hid (Below W.heap.size W w5) := B4.out.grown hgrow B4.out.size (fun k hk => (World.ownsRow.lt OWN4.out k hk).1)
            obtain ⟨⟨sa, sn, sc⟩, hv⟩ := sl_of hown
            obtain rfl : v3 = .slice sa sn sc := hv
            have hown2 : w5.ownsRow W.heap.size 59 4 (Sl.v ⟨sa, sn, sc⟩) (t + 1 + (L.length - (t))) (N1 ++ [.int .i64 n, .int .u32 ip, .int .u16 pt, .int .u64 now] ++ N2) := by
              first
              | (simpa [Sl.v] using hown)
              | (rw [show t + 1 + (L.length - (t)) = L.length by omega]; simpa [Sl.v] using hown)
            obtain ⟨q2, q1⟩ := FIN.out w5 ⟨sa, sn, sc⟩ _ B5.out hown2 hM.out
            clear hown2
            have Q1 := Lib.hid q1
            clear hown hgrow x2 gl q1
            have x2 := q2.cell 2 _ rfl; have xf := q2.free 2 _ rfl; have gl := q2.lt
            clear q2
            go_wp2
            refine bodyPost_ret (v := (.int .i64 0)) (by simp [results, Try.results21, go_sem, *]) rfl ?_
            exact ⟨rfl, Q1.out⟩
          · have htlI : ¬ (t : Int) < L.length := by omega
            clear hz hs
            have hdl : hil.length = L.length - t := by rw [← hd, List.length_drop]
            have f2 : Hid ((vC hil).length = (L.length - t) * 4) := by show _ = _; rw [vC_len, hdl]
            have o2 := Lib.hid (vC_ones hil)
            obtain ⟨ad, hadq, hadn⟩ : ∃ ad : Addr, some ad = (if vc = t then some ⟨gv, 0, none⟩ else some ⟨gv, (t) * 4, none⟩) ∧ (¬ vc = t → ad = ⟨gv, (t) * 4, none⟩) := by
              split
              · rename_i h0; exact ⟨_, rfl, fun h => absurd h0 h⟩
              · exact ⟨_, rfl, fun _ => rfl⟩
            have R2 : Hid (∀ w', Below W.heap.size W w' → ∀ q u, (vC hil)[q]? = some u → w'.cell? (ad.add q) = some u) := fun w' hb q u hu => by
              by_cases hce : vc = t
              · have : vC hil = [] := List.eq_nil_of_length_eq_zero (by rw [f2.out]; omega)
                rw [this] at hu; simp at hu
              · rw [hadn hce]
                exact part_cells (p := t) (M := L.drop (t)) (erow_keep ROW.out hb) (fun i x hx => by rwa [List.getElem?_drop] at hx) q u (by rw [hd]; exact hu)
            have hif : (if vc = t then some (⟨gv, 0, none⟩ : Addr) else some ⟨gv, (t) * 4, none⟩) = some ad := hadq.symm
            have hM : Hid (t + 1 + (L.length - (t)) = lo.length + 1 + hil.length) := by show _ = _; rw [hdl, lol.out]
            replace hdl := Lib.hid hdl
            have hadE : Hid (¬ vc = t → (⟨gv, (t) * 4, none⟩ : Addr) = ad) := fun h => (hadn h).symm
            clear hadq hadn hd TK HY HZ HW
            generalize vC lo = N1 at *
            generalize vC hil = N2 at *
            have Z0 := Lib.hid (R1.out W (Below.refl _ _))
            have x0 := X2.out.cell 0 _ rfl; have x1 := X2.out.cell 1 _ rfl; have xl := X2.out.lt
            go_wp2_with (at_builtin; refine wpList_append_own _ rfl (.tmp 48) (.tmp 54) 52 rfl W.heap.size 59 i0 _ 4 24 Try.underlying52 hi0 hz0 hz1 hz2 rfl (by omega) (.slice none 0 0) 0 [] rfl (World.ownsRow_nil _ _ _ _) ⟨gv, 0, none⟩ t vc N1 rfl f1.out Z0.out o1.out (by unfold maxLen; omega) (by omega) (Nat.le_refl _) ?_)
            intro v1 w3 hown hgrow _
            have B3 : Hid (Below W.heap.size W w3) := (Below.refl _ W).grown hgrow (Nat.le_refl _) (fun k hk => by simp [Value.ownBlock] at hk)
            have OWN := Lib.hid hown
            have G3 := GK.out w3 B3.out
            have X3 := XK.out w3 B3.out
            clear hown hgrow x0 x1 xl x2 gl Z0
            have x2 := G3.cell 2 _ rfl; have gl := G3.lt; have x0 := X3.cell 0 _ rfl; have x1 := X3.cell 1 _ rfl; have xl := X3.lt
            have OW3 : Hid (∀ o, (w3.alloc o).ownsRow W.heap.size 59 4 v1 t N1) := fun o => own_touch (F := fun _ => False) (by simpa using OWN.out) ((Touch.refl _ _).alloc _) (fun _ _ h => h)
            clear G3 X3
            go_wp2_with (at_builtin; refine wpList_append_own _ rfl (.tmp 56) (.tmp 61) 52 rfl W.heap.size 59 i0 _ 4 24 Try.underlying52 hi0 hz0 hz1 hz2 rfl (by omega) v1 t N1 rfl (OW3.out _) ⟨_, 0, none⟩ 1 1 [.int .i64 n, .int .u32 ip, .int .u16 pt, .int .u64 now] rfl rfl (World.news_of_block (cs := #[.int .i64 n, .int .u32 ip, .int .u16 pt, .int .u64 now]) (t := 59) (fr := (0, 0)) (heap_alloc_new _ _)) HO.out (by unfold maxLen; omega) (by omega) (by have := B3.out.size; simp; omega) ?_)
            intro v2 w4 hown hgrow _
            have B4 : Hid (Below W.heap.size W w4) := (B3.out.alloc B3.out.size _).grown hgrow (by have := B3.out.size; simp; omega) (fun k hk => (World.ownsRow.lt OWN.out k hk).1)
            have OWN4 := Lib.hid hown
            have G4 := GK.out w4 B4.out
            have Z2 := Lib.hid (R2.out w4 B4.out)
            clear hown hgrow x0 x1 xl x2 gl OW3
            have x2 := G4.cell 2 _ rfl; have gl := G4.lt
            clear G4
            go_wp2_with (at_builtin; refine wpList_append_own _ rfl (.tmp 85) (.tmp 91) 52 rfl W.heap.size 59 i0 _ 4 24 Try.underlying52 hi0 hz0 hz1 hz2 rfl (by omega) v2 (t + 1) (N1 ++ [.int .i64 n, .int .u32 ip, .int .u16 pt, .int .u64 now]) rfl OWN4.out ad (L.length - (t)) (vc - (t)) N2 (by first | (simp [Act.eval]; done) | (simp [Act.eval]; exact hadE.out (by omega))) f2.out Z2.out o2.out (by unfold maxLen; omega) (by omega) B4.out.size ?_)
            intro v3 w5 hown hgrow _
            have B5 : Hid (Below W.heap.size W w5) := B4.out.grown hgrow B4.out.size (fun k hk => (World.ownsRow.lt OWN4.out k hk).1)
            obtain ⟨⟨sa, sn, sc⟩, hv⟩ := sl_of hown
            obtain rfl : v3 = .slice sa sn sc := hv
            have hown2 : w5.ownsRow W.heap.size 59 4 (Sl.v ⟨sa, sn, sc⟩) (t + 1 + (L.length - (t))) (N1 ++ [.int .i64 n, .int .u32 ip, .int .u16 pt, .int .u64 now] ++ N2) := by
              first
              | (simpa [Sl.v] using hown)
              | (rw [show t + 1 + (L.length - (t)) = L.length by omega]; simpa [Sl.v] using hown)
            obtain ⟨q2, q1⟩ := FIN.out w5 ⟨sa, sn, sc⟩ _ B5.out hown2 hM.out
            clear hown2
            have Q1 := Lib.hid q1
            clear hown hgrow x2 gl q1
            have x2 := q2.cell 2 _ rfl; have xf := q2.free 2 _ rfl; have gl := q2.lt
            clear q2
            go_wp2
            refine bodyPost_ret (v := (.int .i64 0)) (by simp [results, Try.results21, go_sem, *]) rfl ?_
            exact ⟨rfl, Q1.out⟩
theorem rsee_any (i : Int) (ip pt : Nat) (now : Int) (hnn : 0 ≤ now) (hi : ip < 4294967296) (hp : pt < 65536) (g : Nat) (v p : Sl) (sq : Int) (gt : Bool) (k : Rc) (w : World) (h : Qs g v p sq gt k w) :
    Calls Try.prog 21 #[.pointer (some ⟨g, 0, none⟩), .int .i64 i, .agg #[.int .u32 ip, .int .u16 pt], .int .u64 now] w (RSeePost g v p k i ip pt now w) := by
  by_cases hbad : nodeI i = false ∨ noneI ip pt = true ∨ 4611686018427387904 < now
  · exact rsee_bad i ip pt now hi hp g v p sq gt k w h hbad
  · simp only [not_or, Bool.not_eq_false, Bool.not_eq_true] at hbad
    have hq := nodeI_iff.1 hbad.1
    obtain ⟨n, rfl⟩ : ∃ n : Nat, i = n := ⟨i.toNat, by omega⟩
    exact rsee_good n ip pt now hi hp hnn g v p sq gt k w h (by omega) (by omega) hbad.2.1 (by omega)
end Go.Proofs.Ytnkjepemliccpaa
