/- The reference's put. -/
import Derived.Test.YthebcaielbnhjaaQuSome
namespace Go.Proofs.Ythebcaielbnhjaa
open Go.Sort Go.RowKit Go.BigFrame
set_option linter.unusedVariables false
set_option linter.unusedSimpArgs false

theorem info_ritem : (Try.prog.info? 63).map (fun i => (i.zero, i.size, i.bytes)) = some (some (.agg #[.int .i64 0, .int .i64 0, .int .u32 0, .int .u32 0, .int .u16 0, .int .i64 0]), 6, 40) := by kernel_rfl
/-- the reference's box and its items -/
structure Lr (g room : Nat) (v : Sl) (L : List Im) (w : World) : Prop where
  box : Cs g (qc false room v) w
  row : ERow ci 6 63 w v.v L
  ne : v.v.ownBlock ≠ some g
section
variable {g room : Nat} {v v' : Sl} {L L' : List Im} {w w' w2 : World} {F : Nat → Prop}
theorem Lr.touch (h : Lr g room v L w) (ht : Touch F w w') (hF : ∀ b, OwnS g v b → ¬ F b) : Lr g room v L w' := ⟨h.box.touch ht (hF _ (.inl rfl)), erow_touch h.row ht (fun b hb => hF b (.inr hb)), h.ne⟩
theorem Lr.keep (h : Lr g room v L w) (hb : Below w.heap.size w w') : Lr g room v L w' := h.touch (Touch.of_below (fun _ => False) hb) (fun _ _ h => h)
theorem Lr.n (h : Lr g room v L w) : v.n = L.length := erow_n (c := ci) (z := 6) h.row
/-- behind a call: another row, all new -/
def RAft (g room : Nat) (L' : List Im) (w w' : World) : Prop := ∃ v', Lr g room v' L' w' ∧ Touch (fun b => b = g) w w' ∧ ∀ b, v'.v.ownBlock = some b → w.heap.size ≤ b
/-- a new slice is stored -/
theorem Lr.put (h : Lr g room v L w) (hr : ERow ci 6 63 w2 v'.v L') (hb : Below w.heap.size w w2) (hn : ∀ b, v'.v.ownBlock = some b → w.heap.size ≤ b) :
    RAft g room L' w (w2.setCell ⟨g, 0, none⟩ (.slice v'.a v'.n v'.c)) ∧ Cs g (qc false room v) w2 := by
  have hne : v'.v.ownBlock ≠ some g := fun e => by have := hn g e; have := h.box.lt; omega
  refine ⟨⟨v', ⟨?_, ?_, hne⟩, ?_, hn⟩, h.box.keep hb⟩
  · have := (h.box.keep hb).set 0 (.slice v'.a v'.n v'.c) (by simp [qc])
    exact this
  · exact erow_touch hr (Touch.set (F := fun b => b = g) (Touch.refl _ w2) (fun _ => rfl) _) (fun b hb e => hne (by rw [← e]; exact hb))
  · exact (Touch.of_below (fun b => b = g) hb).set (a := ⟨g, 0, none⟩) (fun _ => rfl) _
theorem RAft.after {w1 : World} (hb : Below w.heap.size w w1) (h : RAft g room L' w1 w') : RAft g room L' w w' := by
  obtain ⟨v', h1, h2, h3⟩ := h
  exact ⟨v', h1, (Touch.of_below _ hb).trans h2 (fun _ _ h => h), fun b hk => Nat.le_trans hb.size (h3 b hk)⟩
end
theorem at_on {x : Im} {L : List Im} {j : Nat} {y : Im} (hx : L[j]? = some y) (hj : j ≤ atS x L) (h : LtI y x) : j + 1 ≤ atS x L := by
  rcases Nat.lt_or_ge j (atS x L) with h1 | h1
  · exact h1
  · have e : atS x L = j := by omega
    obtain ⟨h2, h3⟩ := List.getElem?_eq_some_iff.1 hx
    have := List.findIdx_getElem (p := fun y => !ltB y x) (xs := L) (w := by show atS x L < _; omega)
    have h4 : L[List.findIdx (fun y => !ltB y x) L]? = some y := by show L[atS x L]? = some y; rw [e]; exact hx
    obtain ⟨h5, h6⟩ := List.getElem?_eq_some_iff.1 h4
    rw [h6] at this
    simp [ltB, h] at this
theorem at_here {x : Im} {L : List Im} {j : Nat} {y : Im} (hx : L[j]? = some y) (hj : j ≤ atS x L) (h : ¬ LtI y x) : atS x L = j := by
  refine Nat.le_antisymm ?_ hj
  rcases Nat.lt_or_ge j (atS x L) with h1 | h1
  · have := List.not_of_lt_findIdx h1
    obtain ⟨h2, h3⟩ := List.getElem?_eq_some_iff.1 hx
    rw [h3] at this
    simp [ltB, h] at this
  · exact h1
def PuJ (k : Nat) (w w1 : World) (iv : Value) (wr : World) : Prop := ∃ i : Nat, i ≤ k ∧ iv = .int .i64 (i : Nat) ∧ Below w.heap.size w wr ∧ Below w1.heap.size w1 wr
def RPutPost (g room : Nat) (L' : List Im) (w : World) (e : Ending) (w' : World) : Prop := e = .returned (.tuple #[]) ∧ RAft g room L' w w'
set_option maxHeartbeats 6400000 in
set_option maxRecDepth 100000 in
theorem rput_any (x : Im) (g room : Nat) (v : Sl) (L : List Im) (hl : L.length ≤ 1000) (w : World) (h : Lr g room v L w) :
    Calls Try.prog 28 #[.pointer (some ⟨g, 0, none⟩), .agg #[.int .i64 x.r.id, .int .i64 x.r.st, .int .u32 x.r.n, .int .u32 x.r.ip, .int .u16 x.r.port, .int .i64 x.left]] w (RPutPost g room (putS x L) w) := by
  obtain ⟨i0, hi0, hz0, hz1, hz2⟩ := info_parts info_ritem
  have hn := h.n
  obtain ⟨av, vn, vc⟩ := v
  simp only at hn
  subst hn
  have HL := Lib.hid h
  have AL := at_le x L
  have AO := Lib.hid (fun j y => at_on (x := x) (L := L) (j := j) (y := y))
  have AH := Lib.hid (fun j y => at_here (x := x) (L := L) (j := j) (y := y))
  have HPU : Hid (putS x L = L.take (atS x L) ++ x :: L.drop (atS x L)) := rfl
  have hl2 : (L.length : Int) ≤ 1000 := by omega
  clear h
  have XB0 : Hid (Cs w.heap.size (ci x) (w.alloc (.cells (ci x).toArray 63))) := Cs.new w (ci x) _
  have B0 : Hid (Below w.heap.size w (w.alloc (.cells (ci x).toArray 63))) := (Below.refl _ w).alloc (Nat.le_refl _) _
  have HO := Lib.hid (ci_enc.one x)
  generalize putS x L = L' at *
  generalize hat : atS x L = k at *
  clear hat
  obtain ⟨⟨i1, s1, n1, a1, p1⟩, l1⟩ := x
  simp only at *
  go_enter Try.func28, Try.ntmps28
  go_upto_region 1 with fail
  change Hid (Cs w.heap.size (ci ⟨⟨i1, s1, n1, a1, p1⟩, l1⟩) (w.alloc (.cells #[.int .i64 i1, .int .i64 s1, .int .u32 n1, .int .u32 a1, .int .u16 p1, .int .i64 l1] 63))) at XB0
  change Hid (Below w.heap.size w (w.alloc (.cells #[.int .i64 i1, .int .i64 s1, .int .u32 n1, .int .u32 a1, .int .u16 p1, .int .i64 l1] 63))) at B0
  generalize (w.alloc (.cells #[.int .i64 i1, .int .i64 s1, .int .u32 n1, .int .u32 a1, .int .u16 p1, .int .i64 l1] 63)) = w1 at *
  go_wp2_with fail
  go_loopw [4] (fun iv wr => PuJ k w w1 iv wr) (fun iv _ => L.length - (intOf iv).toNat)
  case atStart => exact ⟨0, Nat.zero_le _, rfl, B0.out, Below.refl _ _⟩
  case round =>
    obtain ⟨i, hi, rfl, hb, hb1⟩ := hrel
    have HB := Lib.hid hb
    have HB1 := Lib.hid hb1
    have H1 := Lib.hid (HL.out.keep hb)
    have XB := Lib.hid (XB0.out.keep hb1)
    have x0 := H1.out.box.cell 0 _ rfl
    have gl := H1.out.box.lt
    have e0 := XB.out.cell 0 _ rfl
    have e5 := XB.out.cell 5 _ rfl
    have xl := XB.out.lt
    have hI0 : (0 : Int) ≤ i := by omega
    clear hb hb1
    have hbb : ∃ bb : Bool, (bb = true → i + 1 ≤ k ∧ i < L.length) ∧ (bb = false → k = i) ∧ (∀ h : i < L.length, bb = decide (LtI L[i] ⟨⟨i1, s1, n1, a1, p1⟩, l1⟩)) ∧ (¬ i < L.length → bb = false) := by
      by_cases hlt : i < L.length
      · have hx : L[i]? = some L[i] := List.getElem?_eq_getElem hlt
        by_cases hc : LtI L[i] ⟨⟨i1, s1, n1, a1, p1⟩, l1⟩
        · exact ⟨true, fun _ => ⟨AO.out i _ hx hi hc, hlt⟩, fun e => by simp at e, fun _ => (decide_eq_true hc).symm, fun e => absurd hlt e⟩
        · exact ⟨false, fun e => by simp at e, fun _ => AH.out i _ hx hi hc, fun _ => (decide_eq_false hc).symm, fun _ => rfl⟩
      · exact ⟨false, fun e => by simp at e, fun _ => by omega, fun h => absurd h hlt, fun _ => rfl⟩
    obtain ⟨bb, hbt, hbf, hbl, hbn⟩ := hbb
    have HBT := Lib.hid hbt
    have HBF := Lib.hid hbf
    clear hbt hbf
    go_upto_region 2 with fail
    go_cut [53] (fun c wx => c = .bool bb ∧ Below wr.heap.size wr wx)
    case first =>
      by_cases hlt : i < L.length
      · have hbv := Lib.hid (hbl hlt)
        have hlt2 : (i : Int) < L.length := by omega
        have hx : L[i]? = some L[i] := List.getElem?_eq_getElem hlt
        obtain ⟨gv, rfl⟩ : ∃ gv, av = some ⟨gv, 0, none⟩ := by
          rcases erow_form H1.out.row with ⟨_, rfl⟩ | ⟨gv, _, h1, _⟩
          · simp at hlt
          · simp [Sl.v] at h1; exact ⟨gv, h1.1⟩
        obtain ⟨-, C, hC, hcap, ht, hlc, hm⟩ := erow_open ci_enc H1.out.row
        have d0 := hC.cell i 0 (ci L[i]) _ (taken_at ht hx) rfl
        have d5 := hC.cell i 5 (ci L[i]) _ (taken_at ht hx) rfl
        have dl := hC.lt
        clear hC hcap ht hlc hm hx hbl hbn
        generalize L[i] = y at *
        obtain ⟨⟨i2, s2, n2, a2, p2⟩, l2⟩ := y
        simp only [Nat.add_zero] at *
        rcases Int.lt_trichotomy l1 l2 with q | q | q
        · have hv : bb = true := by rw [hbv.out]; exact decide_eq_true (Or.inl q)
          have z1 : decide (l1 < l2) = true := decide_eq_true q
          subst hv
          clear hbv
          go_quiet (fail)
          go_wp2_with fail
          go_meet
          exact ⟨rfl, below_drewN (Below.refl _ _) _⟩
        · subst q
          by_cases q2 : i2 < i1
          · have hv : bb = true := by rw [hbv.out]; exact decide_eq_true (Or.inr ⟨rfl, q2⟩)
            have z1 : decide (l1 < l1) = false := decide_eq_false (by omega)
            have z2 : decide (i2 < i1) = true := decide_eq_true q2
            subst hv
            clear hbv
            go_quiet (fail)
            go_wp2_with fail
            go_meet
            exact ⟨rfl, below_drewN (Below.refl _ _) _⟩
          · have hv : bb = false := by rw [hbv.out]; exact decide_eq_false (by show ¬ (_ ∨ _); simp only; omega)
            have z1 : decide (l1 < l1) = false := decide_eq_false (by omega)
            have z2 : decide (i2 < i1) = false := decide_eq_false q2
            subst hv
            clear hbv
            go_quiet (fail)
            go_wp2_with fail
            go_meet
            exact ⟨rfl, below_drewN (Below.refl _ _) _⟩
        · have hv : bb = false := by rw [hbv.out]; exact decide_eq_false (by show ¬ (_ ∨ _); simp only; omega)
          have z1 : decide (l1 < l2) = false := decide_eq_false (by omega)
          have z2 : (l2 == l1) = false := by rw [beq_eq_false_iff_ne]; omega
          have z3 : ¬ l2 = l1 := by omega
          subst hv
          clear hbv
          go_quiet (fail)
          go_wp2_with fail
          go_meet
          exact ⟨rfl, below_drewN (Below.refl _ _) _⟩
      · have hv := hbn hlt
        have hge : ¬ (i : Int) < L.length := by omega
        have hge2 : decide ((i : Int) < L.length) = false := decide_eq_false hge
        subst hv
        clear hbl hbn
        go_quiet (fail)
        go_wp2_with fail
        go_meet
        exact ⟨rfl, below_drewN (Below.refl _ _) _⟩
    case rest =>
      obtain ⟨rfl, hcb⟩ := hcut
      generalize wc = w2 at *
      clear x0 gl e0 e5 xl
      have HB2 := Lib.hid (HB.out.trans (hcb.mono HB.out.size))
      have HB12 := Lib.hid (HB1.out.trans (hcb.mono HB1.out.size))
      clear hcb HB HB1 H1 XB hbl hbn
      cases bb
      · have hki := (HBF.out rfl).symm
        subst hki
        have H2 := Lib.hid (HL.out.keep HB2.out)
        have XB := Lib.hid (XB0.out.keep HB12.out)
        clear HBT HBF HB12 XB0 HL
        have FIN : Hid (∀ w3 (v3 : Sl), Below w2.heap.size w2 w3 → w3.ownsRow w2.heap.size 63 6 v3.v L'.length (L'.map ci).flatten → RAft g room L' w (w3.setCell ⟨g, 0, none⟩ (.slice v3.a v3.n v3.c)) ∧ Cs g (qc false room ⟨av, L.length, vc⟩) w3) := fun w3 v3 hb h3 => by
          have := Lr.put (v' := v3) H2.out (own_zero h3) hb (fun b hb => (World.ownsRow.lt h3 b hb).1)
          exact ⟨RAft.after HB2.out this.1, this.2⟩
        have hlen : Hid (L'.length = i + 1 + (L.length - i)) := by show _ = _; rw [HPU.out, List.length_append, List.length_cons, List.length_take, List.length_drop]; omega
        have hfl : Hid ((L'.map ci).flatten = (((L.take i).map ci).flatten ++ ci ⟨⟨i1, s1, n1, a1, p1⟩, l1⟩) ++ ((L.drop i).map ci).flatten) := by show _ = _; rw [HPU.out]; simp
        have f1 : Hid (((L.take i).map ci).flatten.length = i * 6) := by show _ = _; rw [cis_len, List.length_take]; congr 1; omega
        have f2 : Hid (((L.drop i).map ci).flatten.length = (L.length - i) * 6) := by show _ = _; rw [cis_len, List.length_drop]
        have o1 := Lib.hid (ci_enc.ones (L.take i))
        have o2 := Lib.hid (ci_enc.ones (L.drop i))
        have x0 := H2.out.box.cell 0 _ rfl
        have gl := H2.out.box.lt
        rcases erow_form H2.out.row with ⟨h1, rfl⟩ | ⟨gv, cap, h1, _⟩
        · simp only [Sl.v, Value.slice.injEq] at h1
          obtain ⟨rfl, -, rfl⟩ := h1
          obtain rfl : i = 0 := by simpa using AL
          have XK : Hid (∀ w', Below w2.heap.size w2 w' → Cs w.heap.size (ci ⟨⟨i1, s1, n1, a1, p1⟩, l1⟩) w') := fun w' hb => XB.out.keep hb
          have c0 := XB.out.cell 0 _ rfl
          have c1 := XB.out.cell 1 _ rfl
          have c2 := XB.out.cell 2 _ rfl
          have c3 := XB.out.cell 3 _ rfl
          have c4 := XB.out.cell 4 _ rfl
          have c5 := XB.out.cell 5 _ rfl
          have xl := XB.out.lt
          have GK : Hid (∀ w', Below w2.heap.size w2 w' → Cs g (qc false room ⟨none, 0, 0⟩) w') := fun w' hb => H2.out.box.keep hb
          clear XB
          go_wp2_with (at_builtin; first | (refine wpList_append_own_none rfl (.tmp 56) (.tmp 62) 56 rfl w2.heap.size 63 i0 6 Try.underlying56 hi0 (.slice none 0 0) 0 [] rfl (World.ownsRow_nil _ _ _ _) rfl ?_) | (refine wpList_append_own _ rfl (.tmp 64) (.tmp 66) 56 rfl w2.heap.size 63 i0 _ 6 40 Try.underlying56 hi0 hz0 hz1 hz2 rfl (by omega) (.slice none 0 0) 0 [] rfl (World.ownsRow_nil _ _ _ _) ⟨_, 0, none⟩ 1 1 (ci ⟨⟨i1, s1, n1, a1, p1⟩, l1⟩) rfl rfl (World.news_of_block (cs := (ci ⟨⟨i1, s1, n1, a1, p1⟩, l1⟩).toArray) (t := 63) (fr := (0, 0)) (heap_alloc_new _ _)) HO.out (by unfold maxLen; omega) (by omega) (by simp) ?_))
          intro v2 w4 hown hgrow _
          have B4 : Hid (Below w2.heap.size w2 w4) := ((Below.refl _ w2).alloc (Nat.le_refl _) _).grown hgrow (by simp) (fun k hk => by simp [Value.ownBlock] at hk)
          have OWN4 := Lib.hid hown
          clear hown hgrow x0 gl c0 c1 c2 c3 c4 c5 xl
          obtain ⟨⟨sa, sn, sc⟩, hv⟩ := sl_of OWN4.out
          obtain rfl : v2 = .slice sa sn sc := hv
          obtain ⟨q1, q2⟩ := FIN.out w4 ⟨sa, sn, sc⟩ B4.out (by rw [hlen.out, hfl.out]; simpa [Sl.v] using OWN4.out)
          have Q1 := Lib.hid q1
          clear q1
          have x0 := q2.cell 0 _ rfl
          have xf := q2.free 0 _ rfl
          have gl := q2.lt
          clear q2
          go_wp2_with (at_builtin; refine wpList_append_own_none rfl (.tmp 69) (.tmp 75) 56 rfl w2.heap.size 63 i0 6 Try.underlying56 hi0 (.slice sa sn sc) 1 (ci ⟨⟨i1, s1, n1, a1, p1⟩, l1⟩) rfl OWN4.out rfl ?_)
          go_end0
          exact ⟨rfl, Q1.out⟩
        · simp only [Sl.v, Value.slice.injEq] at h1
          obtain ⟨rfl, -, rfl⟩ := h1
          have hic : i ≤ vc := by
            obtain ⟨-, C, hC, hcap, ht, hlc, hm⟩ := erow_open ci_enc H2.out.row
            simp only at hlc; omega
          have hic2 : (i : Int) ≤ vc := by omega
          have hiL : (i : Int) ≤ L.length := by omega
          have R1 : Hid (∀ w', Below w2.heap.size w2 w' → ∀ k u, ((L.take i).map ci).flatten[k]? = some u → w'.cell? ((⟨gv, 0, none⟩ : Addr).add k) = some u) := fun w' hb k u hu => by
            have := part_cells (p := 0) (M := L.take i) (H2.out.keep hb).row (fun j x hx => by
              rw [List.getElem?_take] at hx
              split at hx
              · rwa [Nat.zero_add]
              · cases hx) k u hu
            rw [Nat.zero_mul] at this; exact this
          obtain ⟨ad, hadq, hadn⟩ : ∃ ad : Addr, some ad = (if vc = i then some ⟨gv, 0, none⟩ else some ⟨gv, i * 6, none⟩) ∧ (¬ vc = i → ad = ⟨gv, i * 6, none⟩) := by
            split
            · rename_i h0; exact ⟨_, rfl, fun h => absurd h0 h⟩
            · exact ⟨_, rfl, fun _ => rfl⟩
          have hLc : L.length ≤ vc := by
            obtain ⟨-, C, hC, hcap, ht, hlc, hm⟩ := erow_open ci_enc H2.out.row
            exact hlc
          have R2 : Hid (∀ w', Below w2.heap.size w2 w' → ∀ k u, ((L.drop i).map ci).flatten[k]? = some u → w'.cell? (ad.add k) = some u) := fun w' hb k u hu => by
            by_cases hce : vc = i
            · have : ((L.drop i).map ci).flatten = [] := List.eq_nil_of_length_eq_zero (by rw [f2.out]; omega)
              rw [this] at hu; simp at hu
            · rw [hadn hce]
              exact part_cells (p := i) (M := L.drop i) (H2.out.keep hb).row (fun j x hx => by rwa [List.getElem?_drop] at hx) k u hu
          have hif : (if vc = i then some (⟨gv, 0, none⟩ : Addr) else some ⟨gv, i * 6, none⟩) = some ad := hadq.symm
          have XK : Hid (∀ w', Below w2.heap.size w2 w' → Cs w.heap.size (ci ⟨⟨i1, s1, n1, a1, p1⟩, l1⟩) w') := fun w' hb => XB.out.keep hb
          have GK : Hid (∀ w', Below w2.heap.size w2 w' → Cs g (qc false room ⟨some ⟨gv, 0, none⟩, L.length, vc⟩) w') := fun w' hb => H2.out.box.keep hb
          clear hadq hadn XB
          generalize ((L.take i).map ci).flatten = N1 at *
          generalize ((L.drop i).map ci).flatten = N2 at *
          have Z0 := Lib.hid (R1.out w2 (Below.refl _ _))
          go_wp2_with (at_builtin; refine wpList_append_own _ rfl (.tmp 56) (.tmp 62) 56 rfl w2.heap.size 63 i0 _ 6 40 Try.underlying56 hi0 hz0 hz1 hz2 rfl (by omega) (.slice none 0 0) 0 [] rfl (World.ownsRow_nil _ _ _ _) ⟨gv, 0, none⟩ i vc N1 rfl f1.out Z0.out o1.out (by unfold maxLen; omega) (by omega) (Nat.le_refl _) ?_)
          intro v1 w3 hown hgrow _
          have B3 : Hid (Below w2.heap.size w2 w3) := (Below.refl _ w2).grown hgrow (Nat.le_refl _) (fun k hk => by simp [Value.ownBlock] at hk)
          have OWN := Lib.hid hown
          have X3 := XK.out w3 B3.out
          have G3 := GK.out w3 B3.out
          have c0 := X3.cell 0 _ rfl
          have c1 := X3.cell 1 _ rfl
          have c2 := X3.cell 2 _ rfl
          have c3 := X3.cell 3 _ rfl
          have c4 := X3.cell 4 _ rfl
          have c5 := X3.cell 5 _ rfl
          have xl := X3.lt
          clear hown hgrow x0 gl X3 Z0
          have x0 := G3.cell 0 _ rfl
          have gl := G3.lt
          have OW3 : Hid (∀ o, (w3.alloc o).ownsRow w2.heap.size 63 6 v1 i N1) := fun o => own_touch (F := fun _ => False) (by simpa using OWN.out) ((Touch.refl _ _).alloc _) (fun _ _ h => h)
          clear G3
          go_wp2_with (at_builtin; refine wpList_append_own _ rfl (.tmp 64) (.tmp 66) 56 rfl w2.heap.size 63 i0 _ 6 40 Try.underlying56 hi0 hz0 hz1 hz2 rfl (by omega) v1 i N1 rfl (OW3.out _) ⟨_, 0, none⟩ 1 1 (ci ⟨⟨i1, s1, n1, a1, p1⟩, l1⟩) rfl rfl (World.news_of_block (cs := (ci ⟨⟨i1, s1, n1, a1, p1⟩, l1⟩).toArray) (t := 63) (fr := (0, 0)) (heap_alloc_new _ _)) HO.out (by unfold maxLen; omega) (by omega) (by have := B3.out.size; simp; omega) ?_)
          intro v2 w4 hown hgrow _
          have B4 : Hid (Below w2.heap.size w2 w4) := (B3.out.alloc B3.out.size _).grown hgrow (by have := B3.out.size; simp; omega) (fun k hk => (World.ownsRow.lt OWN.out k hk).1)
          have OWN4 := Lib.hid hown
          have G4 := GK.out w4 B4.out
          have Z2 := Lib.hid (R2.out w4 B4.out)
          clear hown hgrow x0 gl c0 c1 c2 c3 c4 c5 xl OW3
          have x0 := G4.cell 0 _ rfl
          have gl := G4.lt
          clear G4
          go_wp2_with (at_builtin; refine wpList_append_own _ rfl (.tmp 69) (.tmp 75) 56 rfl w2.heap.size 63 i0 _ 6 40 Try.underlying56 hi0 hz0 hz1 hz2 rfl (by omega) v2 (i + 1) (N1 ++ ci ⟨⟨i1, s1, n1, a1, p1⟩, l1⟩) rfl OWN4.out ad (L.length - i) (vc - i) N2 (by simp [Act.eval]) f2.out Z2.out o2.out (by unfold maxLen; omega) (by omega) B4.out.size ?_)
          intro v3 w5 hown hgrow _
          have B5 : Hid (Below w2.heap.size w2 w5) := B4.out.grown hgrow B4.out.size (fun k hk => (World.ownsRow.lt OWN4.out k hk).1)
          obtain ⟨⟨sa, sn, sc⟩, hv⟩ := sl_of hown
          obtain rfl : v3 = .slice sa sn sc := hv
          obtain ⟨q1, q2⟩ := FIN.out w5 ⟨sa, sn, sc⟩ B5.out (by rw [hlen.out, hfl.out, List.append_assoc]; exact hown)
          have Q1 := Lib.hid q1
          clear hown hgrow x0 gl q1
          have x0 := q2.cell 0 _ rfl
          have xf := q2.free 0 _ rfl
          have gl := q2.lt
          clear q2
          go_wp2
          go_end0
          exact ⟨rfl, Q1.out⟩
      · obtain ⟨hk1, hk2⟩ := HBT.out rfl
        go_wp2
        go_roundw
        case rel => exact ⟨i + 1, hk1, by go_num, HB2.out, HB12.out⟩
        case measure => simp [intOf]; omega
end Go.Proofs.Ythebcaielbnhjaa
