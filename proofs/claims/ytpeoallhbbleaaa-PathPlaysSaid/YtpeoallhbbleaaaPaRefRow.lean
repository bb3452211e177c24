/- The reference: paths by peer; in memory. -/
import Derived.Test.YtpeoallhbbleaaaPaEx
import Derived.BigQuiet
import Derived.BigRegion
namespace Go.Proofs.Ytpeoallhbbleaaa
open Go.Sort Go.RowKit Go.BigFrame
set_option linter.unusedVariables false
set_option linter.unusedSimpArgs false

/-! those ahead of one, those behind it -/
theorem range_cut {i : Nat} (h : i < 33) : List.range 33 = List.range i ++ i :: List.range' (i + 1) (33 - (i + 1)) := by
  rw [List.range_eq_range', List.range_eq_range', show (33 : Nat) = i + (1 + (33 - (i + 1))) by omega, ← List.range'_append_1, ← List.range'_append_1]
  simp; omega
def hiP (f : Nat → Pt) (i : Nat) : List Pt := ((List.range' (i + 1) (33 - (i + 1))).map f).filter isS
theorem cut_at (f : Nat → Pt) {i : Nat} (h : i < 33) : allP f = loP f i ++ (if isS (f i) = true then [f i] else []) ++ hiP f i := by
  unfold allP loP
  rw [range_cut h, List.map_append, List.map_cons, List.filter_append, List.filter_cons]
  unfold hiP
  split <;> simp
theorem map_upd {f : Nat → Pt} {i : Nat} {x : Pt} : ∀ {l : List Nat}, i ∉ l → l.map (upd f i x) = l.map f
  | [], _ => rfl
  | a :: l, h => by
    rw [List.map_cons, List.map_cons, map_upd (fun e => h (by simp [e])), upd_ne (fun e => h (by simp [e]))]
theorem lo_upd (f : Nat → Pt) (i : Nat) (x : Pt) : loP (upd f i x) i = loP f i := by
  unfold loP; rw [map_upd (by simp)]
theorem hi_upd (f : Nat → Pt) (i : Nat) (x : Pt) : hiP (upd f i x) i = hiP f i := by
  unfold hiP; rw [map_upd (by rw [List.mem_range'_1]; omega)]
theorem mem_hi {f : Nat → Pt} {i : Nat} {x : Pt} (h : x ∈ hiP f i) : ∃ j, i < j ∧ j < 33 ∧ x = f j ∧ isS (f j) = true := by
  unfold hiP at h
  rw [List.mem_filter] at h
  obtain ⟨j, hj, rfl⟩ := List.mem_map.1 h.1
  rw [List.mem_range'_1] at hj
  exact ⟨j, by omega, by omega, rfl, h.2⟩
/-! where one stands -/
def atL (i : Int) (L : List Pt) : Nat := L.findIdx fun y => !decide (y.peer < i)
def thB (i : Int) (L : List Pt) : Bool := match L[atL i L]? with
  | some y => y.peer == i
  | none => false
theorem atL_le (i : Int) (L : List Pt) : atL i L ≤ L.length := List.findIdx_le_length
theorem atL_on {i : Int} {L : List Pt} {j : Nat} {y : Pt} (hx : L[j]? = some y) (hj : j ≤ atL i L) (h : y.peer < i) : j + 1 ≤ atL i L := by
  rcases Nat.lt_or_ge j (atL i L) with h1 | h1
  · exact h1
  · have e : atL i L = j := by omega
    obtain ⟨h2, h3⟩ := List.getElem?_eq_some_iff.1 hx
    have := List.findIdx_getElem (p := fun y : Pt => !decide (y.peer < i)) (xs := L) (w := by show atL i L < _; omega)
    have h4 : L[List.findIdx (fun y : Pt => !decide (y.peer < i)) L]? = some y := by show L[atL i L]? = some y; rw [e]; exact hx
    obtain ⟨h5, h6⟩ := List.getElem?_eq_some_iff.1 h4
    rw [h6] at this
    simp [h] at this
theorem atL_here {i : Int} {L : List Pt} {j : Nat} {y : Pt} (hx : L[j]? = some y) (hj : j ≤ atL i L) (h : ¬ y.peer < i) : atL i L = j := by
  refine Nat.le_antisymm ?_ hj
  rcases Nat.lt_or_ge j (atL i L) with h1 | h1
  · have := List.not_of_lt_findIdx h1
    obtain ⟨h2, h3⟩ := List.getElem?_eq_some_iff.1 hx
    rw [h3] at this
    simp [h] at this
  · exact h1
theorem atL_app {i : Int} : ∀ {A B : List Pt}, (∀ y ∈ A, y.peer < i) → (∀ y, B.head? = some y → ¬ y.peer < i) → atL i (A ++ B) = A.length
  | [], [], _, _ => rfl
  | [], y :: B, _, h => by
    have := h y rfl
    unfold atL
    rw [List.nil_append, List.findIdx_cons]
    simp [this]
  | a :: A, B, h1, h2 => by
    have ih := atL_app (A := A) (B := B) (fun y hy => h1 y (by simp [hy])) h2
    have ha := h1 a (by simp)
    unfold atL at *
    rw [List.cons_append, List.findIdx_cons]
    simp [ha, ih]
theorem th_some {i : Int} {L : List Pt} {j : Nat} {y : Pt} (hx : L[j]? = some y) (h : atL i L = j) : thB i L = (y.peer == i) := by unfold thB; rw [h, hx]
theorem th_none {i : Int} {L : List Pt} (h : atL i L = L.length) : thB i L = false := by unfold thB; rw [h, List.getElem?_eq_none (Nat.le_refl _)]
def midP (f : Nat → Pt) (n : Nat) : List Pt := if isS (f n) = true then [f n] else []
theorem all_cut (f : Nat → Pt) {n : Nat} (h : n < 33) : allP f = loP f n ++ (midP f n ++ hiP f n) := by
  unfold midP
  rw [cut_at f h, List.append_assoc]
theorem lo_id {k : Tk} (h : OkK k) {n : Nat} : ∀ y ∈ loP k.p n, y.peer < n := by
  intro y hy
  obtain ⟨j, hj, rfl, hs⟩ := mem_lo hy
  rw [(h.yes j hs).peer]; omega
theorem hi_id {k : Tk} (h : OkK k) {n : Nat} : ∀ y ∈ hiP k.p n, (n : Int) < y.peer := by
  intro y hy
  obtain ⟨j, hj, _, rfl, hs⟩ := mem_hi hy
  rw [(h.yes j hs).peer]; omega
theorem mid_hi {k : Tk} (h : OkK k) {n : Nat} : ∀ y, (midP k.p n ++ hiP k.p n).head? = some y → ¬ y.peer < n := by
  intro y hy
  have hm : y ∈ midP k.p n ++ hiP k.p n := List.mem_of_mem_head? hy
  rcases List.mem_append.1 hm with hm | hm
  · unfold midP at hm
    split at hm
    · rename_i hs
      simp only [List.mem_singleton] at hm
      subst hm
      rw [(h.yes n hs).peer]; omega
    · simp at hm
  · have := hi_id h y hm; omega
theorem at_all {k : Tk} (h : OkK k) {n : Nat} (hn : n < 33) : atL n (allP k.p) = (loP k.p n).length := by
  rw [all_cut k.p hn]
  exact atL_app (lo_id h) (mid_hi h)
theorem get_all {k : Tk} (h : OkK k) {n : Nat} (hn : n < 33) (hs : isS (k.p n) = true) : (allP k.p)[atL n (allP k.p)]? = some (k.p n) := by
  rw [at_all h hn, all_cut k.p hn, List.getElem?_append_right (Nat.le_refl _), Nat.sub_self]
  unfold midP
  rw [if_pos hs]; rfl
theorem th_all {k : Tk} (h : OkK k) (i : Int) : thB i (allP k.p) = isP k i := by
  by_cases h1 : 1 ≤ i ∧ i ≤ 32
  · obtain ⟨n, rfl⟩ : ∃ n : Nat, i = n := ⟨i.toNat, by omega⟩
    have hn : n < 33 := by omega
    rw [isP_at h]
    cases hs : isS (k.p n) with
    | true =>
      unfold thB
      rw [get_all h hn hs]
      show ((k.p n).peer == (n : Int)) = true
      rw [(h.yes n hs).peer]; simp
    | false =>
      unfold thB
      rw [at_all h hn, all_cut k.p hn, List.getElem?_append_right (Nat.le_refl _), Nat.sub_self]
      unfold midP
      rw [hs]
      simp only [Bool.false_eq_true, if_false, List.nil_append]
      cases hh : (hiP k.p n)[0]? with
      | none => rfl
      | some y =>
        have hy : y ∈ hiP k.p n := List.mem_of_getElem? hh
        have := hi_id h y hy
        show (y.peer == (n : Int)) = false
        rw [beq_eq_false_iff_ne]; omega
  · have hn : nodeI i = false := nodeI_no (by omega)
    unfold isP
    rw [hn, Bool.false_and]
    unfold thB
    cases hh : (allP k.p)[atL i (allP k.p)]? with
    | none => rfl
    | some y =>
      obtain ⟨j, h2, rfl, hs⟩ := mem_lo (List.mem_of_getElem? hh)
      have := h.yes j hs
      have h3 := this.lo; have h4 := this.hi
      show ((k.p j).peer == i) = false
      rw [this.peer, beq_eq_false_iff_ne]
      omega
/-- what a change of one makes of all -/
theorem all_new {k : Tk} (h : OkK k) {n : Nat} (hn : n < 33) {x : Pt} (hx : isS x = true) (hs : isS (k.p n) = false) : allP (upd k.p n x) = (allP k.p).take (atL n (allP k.p)) ++ x :: (allP k.p).drop (atL n (allP k.p)) := by
  have e := at_all h hn
  have c := all_cut k.p hn
  unfold midP at c
  rw [hs, if_neg (by decide), List.nil_append] at c
  rw [e]
  rw [show (allP k.p).take (loP k.p n).length = loP k.p n by rw [c, List.take_left], show (allP k.p).drop (loP k.p n).length = hiP k.p n by rw [c, List.drop_left]]
  rw [all_cut _ hn, lo_upd, hi_upd]
  unfold midP
  rw [upd_same, if_pos hx]; rfl
theorem all_set {k : Tk} (h : OkK k) {n : Nat} (hn : n < 33) {x : Pt} (hx : isS x = true) (hs : isS (k.p n) = true) : allP (upd k.p n x) = (allP k.p).set (atL n (allP k.p)) x := by
  have e := at_all h hn
  rw [e]
  rw [all_cut _ hn, lo_upd, hi_upd, all_cut k.p hn]
  unfold midP
  rw [upd_same, if_pos hx, if_pos hs, List.set_append_right _ _ (Nat.le_refl _), Nat.sub_self]; rfl
theorem all_wipe {k : Tk} (h : OkK k) {n : Nat} (hn : n < 33) (hs : isS (k.p n) = true) : allP (upd k.p n zP) = (allP k.p).take (atL n (allP k.p)) ++ (allP k.p).drop (atL n (allP k.p) + 1) := by
  have e := at_all h hn
  have c := all_cut k.p hn
  unfold midP at c
  rw [hs, if_pos rfl] at c
  rw [e]
  rw [show (allP k.p).take (loP k.p n).length = loP k.p n by rw [c, List.take_left], show (allP k.p).drop ((loP k.p n).length + 1) = hiP k.p n by rw [c, ← List.append_assoc, List.drop_left' (by simp)]]
  rw [all_cut _ hn, lo_upd, hi_upd]
  unfold midP
  rw [upd_same, isS_z, if_neg (by decide), List.nil_append]

/-! in memory -/
def qC (k : Tk) (u : Sl) : List Value := [.int .i64 k.tries, .int .u64 k.base, .int .u64 k.keep, .int .u64 k.hold, .slice u.a u.n u.c]
structure Qs (g : Nat) (u : Sl) (k : Tk) (w : World) : Prop where
  box : Cs g (qC k u) w
  row : ERow cp 7 63 w u.v (allP k.p)
  ne : ∀ b, u.v.ownBlock = some b → b ≠ g
  ok : OkK k
def QOwn (g : Nat) (u : Sl) (b : Nat) : Prop := b = g ∨ u.v.ownBlock = some b
section
variable {g : Nat} {u u' : Sl} {k k' : Tk} {w w1 w2 w' : World} {F : Nat → Prop}
theorem Qs.lt (h : Qs g u k w) : ∀ b, QOwn g u b → b < w.heap.size := by
  rintro b (rfl | hb)
  · exact h.box.lt
  · exact erow_lt h.row hb
theorem Qs.touch (h : Qs g u k w) (ht : Touch F w w') (hF : ∀ b, QOwn g u b → ¬ F b) : Qs g u k w' :=
  ⟨h.box.touch ht (hF g (.inl rfl)), erow_touch h.row ht (fun b hb => hF b (.inr hb)), h.ne, h.ok⟩
theorem Qs.keep (h : Qs g u k w) (hb : Below w.heap.size w w') : Qs g u k w' := h.touch (Touch.of_below (fun _ => False) hb) (fun _ _ h => h)
theorem Qs.n (h : Qs g u k w) : u.n = (allP k.p).length := erow_n h.row
theorem Qs.n33 (h : Qs g u k w) : u.n ≤ 33 := by rw [h.n]; exact all_len _
/-- behind a call: it holds k' -/
def QAft (g : Nat) (u : Sl) (k' : Tk) (w w' : World) : Prop := ∃ u', Qs g u' k' w' ∧ Touch (QOwn g u) w w' ∧ ∀ b, QOwn g u' b → QOwn g u b ∨ w.heap.size ≤ b
theorem Qs.same (h : Qs g u k w) (hb : Below w.heap.size w w') : QAft g u k w w' := ⟨u, h.keep hb, Touch.of_below _ hb, fun _ hb => .inl hb⟩
theorem QAft.after (hb : Below w.heap.size w w1) (h : QAft g u k' w1 w') : QAft g u k' w w' := by
  obtain ⟨u', h1, h2, h3⟩ := h
  exact ⟨u', h1, (Touch.of_below _ hb).trans h2 (fun _ _ h => h), fun b hk => (h3 b hk).imp id (fun h => Nat.le_trans hb.size h)⟩
theorem QAft.then_ (h : QAft g u k' w w1) (hb : Below w1.heap.size w1 w') : QAft g u k' w w' := by
  obtain ⟨u', h1, h2, h3⟩ := h
  exact ⟨u', h1.keep hb, h2.trans (Touch.of_below (QOwn g u) hb) (fun _ _ h => h), h3⟩
/-- a new row is stored -/
theorem Qs.put (h : Qs g u k w) (hb : Below w.heap.size w w2) (hr : ERow cp 7 63 w2 u'.v (allP k'.p)) (hk : k'.tries = k.tries ∧ k'.base = k.base ∧ k'.keep = k.keep ∧ k'.hold = k.hold) (hok : OkK k') (hn : ∀ b, u'.v.ownBlock = some b → w.heap.size ≤ b) :
    QAft g u k' w (w2.setCell ⟨g, 4, none⟩ (.slice u'.a u'.n u'.c)) ∧ Cs g (qC k u) w2 := by
  have gl := h.box.lt
  have v1 : ∀ b, u'.v.ownBlock = some b → b ≠ g := fun b hb e => by have := hn b hb; omega
  have hx := (h.box.keep hb).set 4 (.slice u'.a u'.n u'.c) (by simp [qC])
  have ec : (qC k u).set 4 (.slice u'.a u'.n u'.c) = qC k' u' := by unfold qC; rw [hk.1, hk.2.1, hk.2.2.1, hk.2.2.2]; rfl
  rw [ec] at hx
  refine ⟨⟨u', ⟨hx, erow_touch hr (Touch.set (F := fun b => b = g) (Touch.refl _ w2) (fun _ => rfl) _) v1, v1, hok⟩, Touch.set (F := QOwn g u) (Touch.of_below _ hb) (a := ⟨g, 4, none⟩) (fun _ => .inl rfl) _, ?_⟩, h.box.keep hb⟩
  rintro b (rfl | hb)
  · exact .inl (.inl rfl)
  · exact .inr (hn b hb)
/-- an element of a row is another one -/
theorem erow_put {T : TypeId} {L : List Pt} {gv c j : Nat} {y : Pt} (h : ERow cp 7 T w (.slice (some ⟨gv, 0, none⟩) L.length c) L) (hj : j < L.length) : ERow cp 7 T (w.setCells gv (j * 7) (cp y)) (.slice (some ⟨gv, 0, none⟩) L.length c) (L.set j y) := by
  obtain ⟨_, C, hC, hl, ht, hle, hm⟩ := erow_open cp_enc h
  have hjC : j < C.length := by omega
  have h2 := hC.put j (cp y) (cp_enc.len y) hjC
  have := erow_close (c := cp) (L := L.set j y) h2 (by rw [List.length_set, List.take_set, ht, List.map_set]) (by rw [List.length_set, List.length_set]; omega) (by rw [List.length_set]; omega)
  rw [List.length_set, List.length_set, hl] at this
  exact this
theorem erow_field {T : TypeId} {L : List Pt} {gv c j t : Nat} {x y : Pt} {v : Value} (h : ERow cp 7 T w (.slice (some ⟨gv, 0, none⟩) L.length c) L) (hj : L[j]? = some x) (ht7 : t < 7) (hv : (cp x).set t v = cp y) : ERow cp 7 T (w.setCell ⟨gv, j * 7 + t, none⟩ v) (.slice (some ⟨gv, 0, none⟩) L.length c) (L.set j y) := by
  obtain ⟨_, C, hC, hl, ht, hle, hm⟩ := erow_open cp_enc h
  have hjL := (List.getElem?_eq_some_iff.1 hj).1
  have hc : C[j]? = some (cp x) := taken_at ht hj
  have h2 := hC.field j t (cp x) v hc ht7
  rw [hv] at h2
  have := erow_close (c := cp) (L := L.set j y) h2 (by rw [List.length_set, List.take_set, ht, List.map_set]) (by rw [List.length_set, List.length_set]; omega) (by rw [List.length_set]; omega)
  rw [List.length_set, List.length_set, hl] at this
  exact this
/-- a path that is there is another one, in its place -/
theorem Qs.setp (h : Qs g u k w) {n gv : Nat} (hn : n < 33) (hs : isS (k.p n) = true) {y : Pt} (hy : isS y = true) (hok : OkK (setP k n y)) (ha : u.a = some ⟨gv, 0, none⟩)
    (ht : Touch (fun b => b = gv) w w') (hr : ERow cp 7 63 w' u.v ((allP k.p).set (atL n (allP k.p)) y)) : Qs g u (setP k n y) w' ∧ Touch (QOwn g u) w w' := by
  have ob : u.v.ownBlock = some gv := by
    rcases erow_form h.row with ⟨h1, _⟩ | ⟨g2, cap, h1, _⟩
    · simp only [Sl.v, Value.slice.injEq] at h1; rw [ha] at h1; exact absurd h1.1 (by simp)
    · rw [h1]; simp only [Sl.v, Value.slice.injEq] at h1
      have := h1.1; rw [ha] at this; simp only [Option.some.injEq, Addr.mk.injEq, and_true] at this
      rw [← this]; rfl
  have hne : gv ≠ g := h.ne gv ob
  refine ⟨⟨h.box.touch ht (fun e => hne e.symm), ?_, h.ne, hok⟩, ht.mono (fun b _ hb => .inr (by rw [hb]; exact ob))⟩
  show ERow cp 7 _ w' u.v (allP (upd k.p n y))
  rw [all_set h.ok hn hy hs]
  exact hr
/-- the cells of one that is there -/
theorem Qs.cells (h : Qs g u k w) {j : Nat} {x : Pt} (hx : (allP k.p)[j]? = some x) : ∃ b, u.a = some ⟨b, 0, none⟩ ∧ b < w.heap.size ∧ (∀ t v, (cp x)[t]? = some v → w.cell? ⟨b, j * 7 + t, none⟩ = some v) ∧ ∀ o, w.frozen? ⟨b, o, none⟩ = false := by
  have hj := (List.getElem?_eq_some_iff.1 hx).1
  rcases erow_form h.row with ⟨_, h1⟩ | ⟨b, cap, h1, hlt⟩
  · rw [h1] at hj; simp at hj
  · have h1' := h1
    simp only [Sl.v, Value.slice.injEq] at h1
    have hr := h.row
    rw [h1'] at hr
    obtain ⟨-, C, hC, -, ht, -⟩ := erow_open cp_enc hr
    exact ⟨b, h1.1, hlt, fun t v hv => hC.cell j t _ v (taken_at ht hx) hv, fun o => hC.free o⟩
end
end Go.Proofs.Ytpeoallhbbleaaa
