/- slices.Insert of one binding: at the end, in place, into a new row. -/
import Derived.Test.YtdpgmdkclaahdaaNbBoxFree
import Derived.Lib.AppendZerosOnto
import Derived.Lib.AppendZeros
import Derived.Lib.Overlaps
import Derived.Laws.Externs
import Derived.Laws.NewBlocks
import Derived.Deep.RegionLaw
namespace Go.Proofs.Ytdpgmdkclaahdaa.Nb
open Go.Sort Go.RowKit Go.BigFrame
set_option linter.unusedVariables false
set_option linter.unusedSimpArgs false

/-- copy, its run known by an equation -/
theorem wp_copyR {P : Program} {w : World} {o : Oper} {a : Act} {K : Act → World → Prop} {Q : Exit → Act → World → Prop} (d s : Operand) (t t' : TypeId)
    (ho : o.op = .call { callee := .builtin .copy, args := #[d, s], argTypes := #[t, t'] }) (v u : Value) (hd : a.eval d = v) (hs : a.eval s = u) {v' : Value} {w' : World}
    (hr : ∀ ty, (Builtin.copy_ #[t, t'] ty #[v, u]).run P w = .ok v' w') (h : K (a.put o.dst v') w') : o.wp P a w K Q := by
  unfold Oper.wp execOp
  simp only [ho, resolve, invoke, builtin, Sem.run_bind, Sem.run_pure, Result.andThen_ok, List.map_toArray, List.map_cons, List.map_nil, hd, hs, hr]
  exact h
theorem wpList_copyR {P : Program} {w : World} {ops : Array Oper} {rest : List Oper} {o : Oper} {a : Act} {Q : Exit → Act → World → Prop} (hgd : o.guard = none) (d s : Operand) (t t' : TypeId)
    (ho : o.op = .call { callee := .builtin .copy, args := #[d, s], argTypes := #[t, t'] }) (v u : Value) (hd : a.eval d = v) (hs : a.eval s = u) {v' : Value} {w' : World}
    (hr : ∀ ty, (Builtin.copy_ #[t, t'] ty #[v, u]).run P w = .ok v' w') (h : wpList P ops Q rest (a.put o.dst v') w') : wpList P ops Q (o :: rest) a w :=
  wpList_plain hgd fun _ hK => wp_copyR d s t t' ho v u hd hs hr (hK _ _ h)
theorem step_copyR {P : Program} {w : World} {ops : Array Oper} {o : Oper} {a : Act} {K : Act → World → Prop} {Q : Exit → Act → World → Prop} {E : Prop} (hgd : o.guard = none) (d s : Operand) (t t' : TypeId)
    (ho : o.op = .call { callee := .builtin .copy, args := #[d, s], argTypes := #[t, t'] }) (v u : Value) (hd : a.eval d = v) (hs : a.eval s = u) {v' : Value} {w' : World}
    (hr : ∀ ty, (Builtin.copy_ #[t, t'] ty #[v, u]).run P w = .ok v' w') (h : K (a.put o.dst v') w') : if Region.wanted o (yielded ops a.tmps) = true then Oper.wp P o a w K Q else E := by
  have hw : Region.wanted o (yielded ops a.tmps) = true := by simp [Region.wanted, hgd]
  rw [if_pos hw]
  exact wp_copyR d s t t' ho v u hd hs hr h

theorem ins_a {α : Type} (C D T : List α) (c : α) (p : Nat) (hT : C.take p = T) (hl : p + 1 + D.length ≤ C.length) : (splice (splice C p [c]) (p + 1) D).take (p + 1 + D.length) = T ++ c :: D := by
  have e0 : (C.take p).length = p := by rw [List.length_take]; omega
  have e1 : (splice C p [c]).take (p + 1) = C.take p ++ [c] := by
    simp only [splice]
    rw [show C.take p ++ ([c] ++ C.drop (p + [c].length)) = (C.take p ++ [c]) ++ C.drop (p + [c].length) by simp]
    rw [List.take_left' (by simp; omega)]
  unfold splice at e1 ⊢
  rw [e1, ← List.append_assoc, List.take_left' (by simp; omega), hT]
  simp
theorem ins_b {α : Type} (C D T : List α) (c : α) (p : Nat) (hT : C.take p = T) (hl : p + 1 + D.length ≤ C.length) : (splice (splice C (p + 1) D) p [c]).take (p + 1 + D.length) = T ++ c :: D := by
  have e0 : (C.take p).length = p := by rw [List.length_take]; omega
  have e2 : (C.take (p + 1)).length = p + 1 := by rw [List.length_take]; omega
  have e1 : (splice C (p + 1) D).take p = C.take p := by
    simp only [splice]
    rw [List.take_append_of_le_length (by omega), List.take_take, Nat.min_eq_left (by omega)]
  have e3 : (splice C (p + 1) D).drop (p + 1) = D ++ C.drop (p + 1 + D.length) := by
    simp only [splice]
    rw [List.drop_left' e2]
  show (_ ++ ([c] ++ (splice C (p + 1) D).drop (p + 1))).take _ = _
  rw [e1, e3, hT]
  rw [show T ++ ([c] ++ (D ++ C.drop (p + 1 + D.length))) = (T ++ c :: D) ++ C.drop (p + 1 + D.length) by simp]
  rw [List.take_left' (by rw [← hT]; simp; omega)]
def insL (L : List Bd) (p : Nat) (x : Bd) : List Bd := L.take p ++ x :: L.drop p
theorem insL_len (L : List Bd) (p : Nat) (x : Bd) (hp : p ≤ L.length) : (insL L p x).length = L.length + 1 := by
  unfold insL; rw [List.length_append, List.length_cons, List.length_take, List.length_drop]; omega
theorem insL_map (L : List Bd) (p : Nat) (x : Bd) : (insL L p x).map ch = (L.take p).map ch ++ ch x :: (L.drop p).map ch := by
  unfold insL; rw [List.map_append, List.map_cons]
theorem insL_end (L : List Bd) (x : Bd) : insL L L.length x = L ++ [x] := by unfold insL; simp
def InsPost (a : Option Addr) (p : Nat) (x : Bd) (L : List Bd) (w : World) (e : Ending) (w' : World) : Prop :=
  ∃ v' : Sl, e = .returned (.slice v'.a v'.n v'.c) ∧ BRow w' v'.v (insL L p x) ∧ Touch (fun k => (Value.slice a 0 0).ownBlock = some k) w w' ∧ ∀ k, v'.v.ownBlock = some k → (Value.slice a 0 0).ownBlock = some k ∨ w.heap.size ≤ k
theorem info_bind : (Try.prog.info? 107).map (fun i => (i.zero, i.size, i.bytes)) = some (some (.agg #[.int .u32 0, .int .u16 0, .int .u32 0, .int .u16 0, .int .u16 0, .slice none 0 0, .int .u64 0]), 7, 56) := by kernel_rfl
theorem ch_one (x : Bd) : ∀ u ∈ ch x, u.oneCell' = true := by
  intro u hu
  simp only [ch, List.mem_cons, List.not_mem_nil, or_false] at hu
  rcases hu with h | h | h | h | h | h | h <;> (subst h; rfl)
theorem chs_one (L : List Bd) : ∀ u ∈ (L.map ch).flatten, u.oneCell' = true := by
  intro u hu
  obtain ⟨c, hc, hu⟩ := List.mem_flatten.1 hu
  obtain ⟨x, _, rfl⟩ := List.mem_map.1 hc
  exact ch_one x u hu
set_option maxHeartbeats 1600000 in
set_option maxRecDepth 100000 in
theorem ins_end (a : Option Addr) (cap : Nat) (L : List Bd) (x : Bd) (hl : L.length ≤ 64) (w : World) (hr : BRow w (.slice a L.length cap) L) (gv : Nat) (hv : w.heap[gv]? = some (.cells (ch x).toArray 107 (0, 0))) :
    Calls Try.prog 75 #[.slice a L.length cap, .int .i64 (L.length : Nat), .slice (some ⟨gv, 0, none⟩) 1 1] w (InsPost a L.length x L w) := by
  obtain ⟨i0, hi0, hz0, hz1, hz2⟩ := info_parts info_bind
  have hcap : L.length ≤ cap := by
    rcases brow_form hr with ⟨h1, rfl⟩ | ⟨g, c, h1, _⟩
    · simp
    · simp only [Value.slice.injEq] at h1
      obtain ⟨rfl, _, rfl⟩ := h1
      exact (brow_open hr).2.choose_spec.2.2.2.1
  have HR := Lib.hid hr
  have HV := Lib.hid hv
  have hL0 : (0 : Int) ≤ L.length := by omega
  have hL2 : (L.length : Int) ≤ cap := by omega
  clear hr hv
  by_cases hce : cap = L.length
  all_goals
    go_enter Try.func75, Try.ntmps75
    go_wp2_with (at_builtin; refine wpList_append_lies _ rfl (.tmp 23) (.tmp 24) 86 rfl 0 107 i0 _ 7 56 Try.underlying86 hi0 hz0 hz1 hz2 rfl (by omega) _ L.length (L.map ch).flatten rfl HR.out ⟨gv, 0, none⟩ 1 1 (ch x) rfl rfl (World.news_of_block (cs := (ch x).toArray) (t := 107) (fr := (0, 0)) HV.out) (ch_one x) (by omega) (by unfold maxLen; omega) (by omega) (Nat.zero_le _) _ rfl ?_)
    intro g1 cap1 w9 hown hgrow hat hlt9
    have fin : Hid (BRow w9 (.slice (some ⟨g1, 0, none⟩) (L.length + 1) cap1) (insL L L.length x)) := by
      show World.ownsRow _ _ _ _ _ _ _
      rw [insL_end, List.map_append, List.flatten_append, List.length_append]
      exact hown
    have T : Hid (Touch (fun k => (Value.slice a 0 0).ownBlock = some k) w w9) := Touch.of_grown hgrow (fun k hk => own_eq hk)
    have hat := Lib.hid hat
    clear hown hgrow HR
    go_wp2_with fail
    go_ret
    refine ⟨⟨some ⟨g1, 0, none⟩, L.length + 1, cap1⟩, rfl, fin.out, T.out, fun k hk => ?_⟩
    obtain rfl : g1 = k := by injection hk
    rcases hat.out with h | h
    · exact .inl (own_eq h)
    · exact .inr (by omega)
/-- in place -/
theorem shift_lists {C : List (List Value)} {L : List Bd} {p : Nat} {x : Bd} (ht : C.take L.length = L.map ch) (hp : p < L.length) (hl : L.length + 1 ≤ C.length) :
    (splice (splice C (p + 1) ((L.drop p).map ch)) p [ch x]).take (L.length + 1) = (insL L p x).map ch := by
  have hd : ((L.drop p).map ch).length = L.length - p := by rw [List.length_map, List.length_drop]
  have hT : C.take p = (L.take p).map ch := by
    rw [List.map_take, ← ht, List.take_take, Nat.min_eq_left (by omega)]
  have := ins_b C ((L.drop p).map ch) ((L.take p).map ch) (ch x) p hT (by rw [hd]; omega)
  rw [hd, show p + 1 + (L.length - p) = L.length + 1 by omega] at this
  rw [this, insL_map]
theorem grow_lists {C : List (List Value)} {L : List Bd} {p : Nat} {x : Bd} (hT : C.take p = (L.take p).map ch) (hp : p < L.length) (hl : L.length + 1 ≤ C.length) :
    (splice (splice C p [ch x]) (p + 1) ((L.drop p).map ch)).take (L.length + 1) = (insL L p x).map ch := by
  have hd : ((L.drop p).map ch).length = L.length - p := by rw [List.length_map, List.length_drop]
  have := ins_a C ((L.drop p).map ch) ((L.take p).map ch) (ch x) p hT (by rw [hd]; omega)
  rw [hd, show p + 1 + (L.length - p) = L.length + 1 by omega] at this
  rw [this, insL_map]
theorem drop_cells {w : World} {g : Nat} {C : List (List Value)} {L : List Bd} {p : Nat} (h : Rw 7 g 107 C w) (ht : C.take L.length = L.map ch) : ∀ j v, ((L.drop p).map ch).flatten[j]? = some v → w.cell? ((⟨g, p * 7, none⟩ : Addr).add j) = some v := by
  intro j v hv
  have hall := ch_all (L.drop p)
  have hlen := flatten_len _ hall
  have hj : j < ((L.drop p).map ch).flatten.length := (List.getElem?_eq_some_iff.1 hv).1
  rw [hlen] at hj
  have hq : j / 7 < ((L.drop p).map ch).length := by rw [Nat.div_lt_iff_lt_mul (by decide)]; exact hj
  have hr : j % 7 < 7 := Nat.mod_lt _ (by decide)
  have e : j = j / 7 * 7 + j % 7 := by omega
  have hc : ((L.drop p).map ch)[j / 7]? = some (((L.drop p).map ch)[j / 7]) := List.getElem?_eq_getElem hq
  rw [e, flatten_at _ hall (j / 7) (j % 7) hr _ hc] at hv
  have hx : L[p + j / 7]? = some ((L.drop p)[j / 7]'(by simpa using hq)) := by
    rw [← List.getElem?_drop]; exact List.getElem?_eq_getElem (by simpa using hq)
  have hC := take_at ht hx
  rw [List.getElem_map] at hv
  have := h.cell _ _ _ _ hC hv
  rw [add_at, ← this]
  congr 2
  rw [Nat.add_mul]; omega
theorem size_bind : ∀ w, (Go.sizeOf 107).run Try.prog w = .ok 7 w := fun w => by kernel_rfl
theorem shape_of_heap {w : World} {g : Nat} {c : Array Value} {t : TypeId} (h : w.heap[g]? = some (.cells c t (0, 0))) : w.shape? g = some (t, c.size) := by
  simp [World.shape?, h]
set_option maxHeartbeats 3200000 in
set_option maxRecDepth 100000 in
theorem ins_shift (g cap p : Nat) (L : List Bd) (x : Bd) (hl : L.length ≤ 64) (hp : p < L.length) (hroom : L.length + 1 ≤ cap) (w : World) (hr : BRow w (.slice (some ⟨g, 0, none⟩) L.length cap) L) (gv : Nat) (hne : gv ≠ g) (hv : w.heap[gv]? = some (.cells (ch x).toArray 107 (0, 0))) :
    Calls Try.prog 75 #[.slice (some ⟨g, 0, none⟩) L.length cap, .int .i64 (p : Nat), .slice (some ⟨gv, 0, none⟩) 1 1] w (InsPost (some ⟨g, 0, none⟩) p x L w) := by
  obtain ⟨_, C, hC, hcap, ht, hlc, hm⟩ := brow_open hr
  have hov : ∀ lb cb, (callFunc 84 #[.slice (some ⟨gv, 0, none⟩) 1 1, .slice (some ⟨g, (p + 1) * 7, none⟩) lb cb]).run Try.prog w = .ok (.value (.bool false)) w := fun lb cb => by
    rw [run_callFunc_extern Try.func84 (by kernel_rfl) (by kernel_rfl) (by kernel_rfl) (e := Extern.SlicesOverlaps.overlaps #[86, 86] #[4]) (by kernel_rfl),
      Lib.run_overlaps_apart w 86 4 107 Try.underlying86 7 size_bind ⟨gv, 0, none⟩ ⟨g, (p + 1) * 7, none⟩ 1 1 lb cb hne _ _ _ _ (shape_of_heap hv) (shape_of_heap hC.heap) (by simp only [List.size_toArray]; rw [flatten_len C hC.all]; omega) (frozen_of_row w gv 0 _ _ hv) (frozen_of_row w gv _ _ _ hv)]
    rfl
  have hd : ((L.drop p).map ch).length = L.length - p := by rw [List.length_map, List.length_drop]
  have szb : (Try.prog.info? 107).map (·.size) = some 7 := by kernel_rfl
  obtain ⟨w3, hrun1, hR3, hg3⟩ := run_copy_z (P := Try.prog) w.drew 86 86 107 7 g (p + 1) (L.length - p) (cap - (p + 1)) ⟨g, p * 7, none⟩ (L.length + 1 - p) (cap - p) 107 C ((L.drop p).map ch) Try.underlying86 szb ⟨hC.all, hC.heap⟩ (ch_all _) (by rw [hd]; simp only [Nat.min_def]; split <;> omega) (drop_cells (w := w.drew) ⟨hC.all, hC.heap⟩ ht) (by rw [hd, hcap]; omega) (chs_one _)
  have hv3 : w3.heap[gv]? = some (.cells (ch x).toArray 107 (0, 0)) := by
    have hlt : gv < w.drew.heap.size := by
      rcases Nat.lt_or_ge gv w.heap.size with h | h
      · exact h
      · rw [Array.getElem?_eq_none h] at hv; cases hv
    exact (hg3.block gv hlt (by simp [hne])).trans hv
  have hsp : (splice C (p + 1) ((L.drop p).map ch)).length = cap := by rw [length_splice _ _ _ (by rw [hd, hcap]; omega)]; exact hcap
  obtain ⟨w4, hrun2, hR4, hg4⟩ := run_copy_z (P := Try.prog) w3 86 86 107 7 g p (L.length + 1 - p) (cap - p) ⟨gv, 0, none⟩ 1 1 107 _ [ch x] Try.underlying86 szb hR3 (by simp [ch]) (by simp only [Nat.min_def]; split <;> simp <;> omega) (by simpa using World.news_of_block hv3) (by rw [hsp]; simp; omega) (by simpa using ch_one x)
  have fin : Hid (BRow w4 (.slice (some ⟨g, 0, none⟩) (L.length + 1) cap) (insL L p x)) := by
    have hl4 : (splice (splice C (p + 1) ((L.drop p).map ch)) p [ch x]).length = cap := by rw [length_splice _ _ _ (by rw [hsp]; simp; omega)]; exact hsp
    have hil := insL_len L p x (Nat.le_of_lt hp)
    have := brow_close (L := insL L p x) hR4 (by rw [hil]; exact shift_lists ht hp (by rw [hcap]; omega)) (by rw [hil, hl4]; omega) (by rw [hl4]; exact hm)
    rw [hl4, hil] at this
    exact this
  have HT : Hid (Touch (fun k => (Value.slice (some ⟨g, 0, none⟩) 0 0).ownBlock = some k) w w4) :=
    ((Touch.refl (fun k => (Value.slice (some ⟨g, 0, none⟩) 0 0).ownBlock = some k) w).drew.trans (Touch.of_grown hg3 (fun k h => h)) (fun _ _ h => h)).trans (Touch.of_grown hg4 (fun k h => h)) (fun _ _ h => h)
  rw [hd] at hrun1
  have hp0 : (0 : Int) ≤ p := by omega
  have hp1 : (p : Int) < L.length := by omega
  have hl2 : (L.length : Int) ≤ 64 := by omega
  have hr2 : (L.length : Int) + 1 ≤ cap := by omega
  have hne1 : ((p : Int) == (L.length : Int)) = false := by rw [beq_eq_false_iff_ne]; omega
  have hne2 : ¬ ((p : Int) = (L.length : Int)) := by omega
  have hcp : ¬ cap = p := by omega
  have hcp1 : ¬ cap = p + 1 := by omega
  have hm2 : cap ≤ 9223372036854775807 := by unfold maxLen at hm; omega
  have hw1 : IntKind.i64.wrap ((p : Int) + 1) = (p : Int) + 1 := by rw [IntKind.wrap_i64]; omega
  have hw2 : (0 : Int) ≤ (p : Int) + 1 := by omega
  have hw3 : (p : Int) ≤ (L.length : Int) + 1 := by omega
  have htn : ((p : Int) + 1).toNat = p + 1 := by omega
  have hpl : p ≤ L.length := by omega
  have hpl2 : p ≤ L.length + 1 := by omega
  have H1 := Lib.hid hrun1
  have H2 := Lib.hid hrun2
  clear hr ht hC hcap hm hv hd szb hR3 hg3 hv3 hsp hR4 hg4 hrun1 hrun2
  go_enter Try.func75, Try.ntmps75
  go_wp2_with (simp only [hov])
  go_region_law (refine step_copyR rfl _ _ 86 86 rfl (.slice (some ⟨g, (p + 1) * 7, none⟩) (L.length - p) (cap - (p + 1))) (.slice (some ⟨g, p * 7, none⟩) (L.length + 1 - p) (cap - p)) (by simp [Act.eval, Act.put]) (by simp [Act.eval, Act.put]) H1.out ?_)
  clear hov
  go_wp2_with (refine wpList_copyR rfl (.tmp 80) (.tmp 81) 86 86 rfl (.slice (some ⟨g, p * 7, none⟩) (L.length + 1 - p) (cap - p)) (.slice (some ⟨gv, 0, none⟩) 1 1) rfl rfl H2.out ?_)
  go_wp2_with fail
  go_ret
  exact ⟨⟨some ⟨g, 0, none⟩, L.length + 1, cap⟩, rfl, fin.out, HT.out, fun k hk => .inl (own_eq hk)⟩
set_option maxHeartbeats 3200000 in
set_option maxRecDepth 100000 in
theorem ins_grow (g p : Nat) (L : List Bd) (x : Bd) (hl : L.length ≤ 64) (hp : p < L.length) (w : World) (hr : BRow w (.slice (some ⟨g, 0, none⟩) L.length L.length) L) (gv : Nat) (hne : gv ≠ g) (hv : w.heap[gv]? = some (.cells (ch x).toArray 107 (0, 0))) :
    Calls Try.prog 75 #[.slice (some ⟨g, 0, none⟩) L.length L.length, .int .i64 (p : Nat), .slice (some ⟨gv, 0, none⟩) 1 1] w (InsPost (some ⟨g, 0, none⟩) p x L w) := by
  obtain ⟨_, C, hC, hcap, ht, hlc, hm⟩ := brow_open hr
  obtain ⟨i0, hi0, hz0, hz1, hz2⟩ := info_parts info_bind
  have hd : ((L.drop p).map ch).length = L.length - p := by rw [List.length_map, List.length_drop]
  have htl : ((L.take p).map ch).flatten.length = p * 7 := by rw [flatten_len _ (ch_all _), List.length_map, List.length_take, Nat.min_eq_left (by omega)]
  have szb : (Try.prog.info? 107).map (·.size) = some 7 := by kernel_rfl
  have hold : (Builtin.firstCells i0.size p (.slice (some ⟨g, 0, none⟩) p L.length)).run Try.prog w.drew = .ok ((L.take p).map ch).flatten.toArray w.drew := by
    rw [hz1]
    refine run_firstCells_some w.drew 7 p ⟨g, 0, none⟩ p L.length _ (by rw [htl]) (fun j v hj => ?_)
    have hj2 : j < p * 7 := by
      have := (List.getElem?_eq_some_iff.1 hj).1
      rw [htl] at this; exact this
    rw [add_at, Nat.zero_add]
    have e : ((L.take p).map ch).flatten[j]? = C.flatten[j]? := by
      rw [List.map_take, ← ht, List.take_take, Nat.min_eq_left (by omega), ← flatten_take C p hC.all, List.getElem?_take, if_pos hj2]
    rw [e] at hj
    show w.cell? _ = _
    rw [cell_of_row w g j _ _ (0, 0) hC.heap]
    simpa using hj
  have hik : p + (L.length + 1 - p) = L.length + 1 := by omega
  have hkk : (L.length : Int) + 1 - (p : Int) = ((L.length + 1 - p : Nat) : Int) := by omega
  have hrz0 := fun ty => Lib.run_append_grow_zeros (P := Try.prog) w 86 3 ty 107 i0 _ .i64 .i64 Try.underlying86 Try.underlying3 hi0 hz0 (some ⟨g, 0, none⟩) p L.length _ hold (L.length + 1 - p) (by omega) (by omega) (by omega) (by omega) (by rw [hz2]; omega) (by rw [hz2, hik]; exact growslice_fits (by omega) (by omega))
  rw [hik, ← hkk] at hrz0
  have hGn : L.length + 1 ≤ grownCap w (L.length + 1) L.length 107 := grownCap_ge w _ _ _
  have hGm : grownCap w (L.length + 1) L.length 107 ≤ maxLen := grownCap_le_maxLen w _ _ _ (by unfold maxLen; omega)
  generalize grownCap w (L.length + 1) L.length 107 = G at *
  have hzs : ∀ n, (Builtin.zeroCells (Value.agg #[.int .u32 0, .int .u16 0, .int .u32 0, .int .u16 0, .int .u16 0, .slice none 0 0, .int .u64 0]).cells n).size = n * 7 := fun n => by rw [size_zeroCells]; rfl
  obtain ⟨C0, hA0, hF0, hL0⟩ := chunk_ex (α := Value) (z := 7) (by decide) G (((L.take p).map ch).flatten.toArray ++ Builtin.zeroCells (Value.agg #[.int .u32 0, .int .u16 0, .int .u32 0, .int .u16 0, .int .u16 0, .slice none 0 0, .int .u64 0]).cells (L.length + 1 - p) ++ Builtin.zeroCells (Value.agg #[.int .u32 0, .int .u16 0, .int .u32 0, .int .u16 0, .int .u16 0, .slice none 0 0, .int .u64 0]).cells (G - (L.length + 1))).toList (by
    rw [Array.length_toList, Array.size_append, Array.size_append, hzs, hzs, List.size_toArray, htl]
    rw [← Nat.add_mul, ← Nat.add_mul]; congr 1; omega)
  have hT0 : C0.take p = (L.take p).map ch := by
    refine flatten_inj (z := 7) _ _ (by decide) (fun c hc => hA0 c (List.mem_of_mem_take hc)) (ch_all _) ?_
    rw [← flatten_take C0 p hA0, hF0, Array.toList_append, Array.toList_append, List.append_assoc]
    rw [List.take_left' (by simpa using htl)]
  have hR1 : Rw 7 w.heap.size 107 C0 (w.drew.alloc (.cells (((L.take p).map ch).flatten.toArray ++ Builtin.zeroCells (Value.agg #[.int .u32 0, .int .u16 0, .int .u32 0, .int .u16 0, .int .u16 0, .slice none 0 0, .int .u64 0]).cells (L.length + 1 - p) ++ Builtin.zeroCells (Value.agg #[.int .u32 0, .int .u16 0, .int .u32 0, .int .u16 0, .int .u16 0, .slice none 0 0, .int .u64 0]).cells (G - (L.length + 1))) 107)) := by
    refine ⟨hA0, ?_⟩
    rw [hF0, Array.toArray_toList]
    exact heap_alloc_new w.drew _
  have hB1 : Below w.heap.size w (w.drew.alloc (.cells (((L.take p).map ch).flatten.toArray ++ Builtin.zeroCells (Value.agg #[.int .u32 0, .int .u16 0, .int .u32 0, .int .u16 0, .int .u16 0, .slice none 0 0, .int .u64 0]).cells (L.length + 1 - p) ++ Builtin.zeroCells (Value.agg #[.int .u32 0, .int .u16 0, .int .u32 0, .int .u16 0, .int .u16 0, .slice none 0 0, .int .u64 0]).cells (G - (L.length + 1))) 107)) := ((Below.refl _ w).drew).alloc (Nat.le_refl _) _
  clear hF0 hA0 hzs hold
  generalize (w.drew.alloc (.cells (((L.take p).map ch).flatten.toArray ++ Builtin.zeroCells (Value.agg #[.int .u32 0, .int .u16 0, .int .u32 0, .int .u16 0, .int .u16 0, .slice none 0 0, .int .u64 0]).cells (L.length + 1 - p) ++ Builtin.zeroCells (Value.agg #[.int .u32 0, .int .u16 0, .int .u32 0, .int .u16 0, .int .u16 0, .slice none 0 0, .int .u64 0]).cells (G - (L.length + 1))) 107)) = W1 at *
  have glt := hC.lt
  have vlt : gv < w.heap.size := by
    rcases Nat.lt_or_ge gv w.heap.size with h | h
    · exact h
    · rw [Array.getElem?_eq_none h] at hv; cases hv
  have hv1 : W1.heap[gv]? = some (.cells (ch x).toArray 107 (0, 0)) := (hB1.block gv vlt).trans hv
  obtain ⟨w3, hrun1, hR3, hg3⟩ := run_copy_z (P := Try.prog) W1 86 86 107 7 w.heap.size p (L.length + 1 - p) (G - p) ⟨gv, 0, none⟩ 1 1 107 _ [ch x] Try.underlying86 szb hR1 (by simp [ch]) (by simp only [Nat.min_def]; split <;> simp <;> omega) (by simpa using World.news_of_block hv1) (by rw [hL0]; simp; omega) (by simpa using ch_one x)
  have hC3 : Rw 7 g 107 C w3.drew := by
    have h1 : Rw 7 g 107 C W1 := hC.of_block (hB1.block g glt)
    have h2 : Rw 7 g 107 C w3 := h1.of_block (hg3.block g (Nat.lt_of_lt_of_le glt hB1.size) (by simp; omega))
    exact ⟨h2.all, h2.heap⟩
  have hsp : (splice C0 p [ch x]).length = G := by rw [length_splice _ _ _ (by rw [hL0]; simp; omega)]; exact hL0
  obtain ⟨w4, hrun2, hR4, hg4⟩ := run_copy_z (P := Try.prog) w3.drew 86 86 107 7 w.heap.size (p + 1) (L.length - p) (G - (p + 1)) ⟨g, p * 7, none⟩ (L.length - p) (L.length - p) 107 (splice C0 p [ch x]) ((L.drop p).map ch) Try.underlying86 szb ⟨hR3.all, hR3.heap⟩ (ch_all _) (by rw [hd]; simp only [Nat.min_def]; split <;> omega) (drop_cells hC3 ht) (by rw [hd, hsp]; omega) (chs_one _)
  have fin : Hid (BRow w4 (.slice (some ⟨w.heap.size, 0, none⟩) (L.length + 1) G) (insL L p x)) := by
    have hl4 : (splice (splice C0 p [ch x]) (p + 1) ((L.drop p).map ch)).length = G := by rw [length_splice _ _ _ (by rw [hsp, hd]; omega)]; exact hsp
    have hil := insL_len L p x (Nat.le_of_lt hp)
    have := brow_close (L := insL L p x) hR4 (by rw [hil]; exact grow_lists hT0 hp (by rw [hL0]; omega)) (by rw [hil, hl4]; omega) (by rw [hl4]; exact hGm)
    rw [hl4, hil] at this
    exact this
  have HT : Hid (Touch (fun k => (Value.slice (some ⟨g, 0, none⟩) 0 0).ownBlock = some k) w w4) := by
    have t1 : Touch (fun _ => False) w W1 := Touch.of_below _ hB1
    have t3 : Touch (fun _ => False) w w3 := t1.trans (Touch.of_grown (F := fun k => k = w.heap.size) hg3 (fun k h => by injection h with h; exact h.symm)) (fun k h1 h2 => by omega)
    have t4 : Touch (fun _ => False) w w4 := t3.drew.trans (Touch.of_grown (F := fun k => k = w.heap.size) hg4 (fun k h => by injection h with h; exact h.symm)) (fun k h1 h2 => by omega)
    exact t4.mono (fun _ _ h => h.elim)
  rw [hd] at hrun2
  have hp0 : (0 : Int) ≤ p := by omega
  have hp1 : (p : Int) < L.length := by omega
  have hl2 : (L.length : Int) ≤ 64 := by omega
  have hne1 : ((p : Int) == (L.length : Int)) = false := by rw [beq_eq_false_iff_ne]; omega
  have hne2 : ¬ ((p : Int) = (L.length : Int)) := by omega
  have hcp : ¬ L.length = p := by omega
  have hGp : ¬ G = p := by omega
  have hGp1 : ¬ G = p + 1 := by omega
  have hm2 : G ≤ 9223372036854775807 := by unfold maxLen at hGm; omega
  have hw1 : IntKind.i64.wrap ((p : Int) + 1) = (p : Int) + 1 := by rw [IntKind.wrap_i64]; omega
  have hw2 : (0 : Int) ≤ (p : Int) + 1 := by omega
  have hw3 : (p : Int) ≤ (L.length : Int) + 1 := by omega
  have htn : ((p : Int) + 1).toNat = p + 1 := by omega
  have hpl : p ≤ L.length := by omega
  have hpl2 : p ≤ L.length + 1 := by omega
  have hG3 : (L.length : Int) + 1 ≤ G := by omega
  have H0 := Lib.hid hrz0
  have H1 := Lib.hid hrun1
  have H2 := Lib.hid hrun2
  clear hr ht hC hcap hm hv hd szb hR3 hg3 hv1 hsp hR4 hg4 hrun1 hrun2 hrz0 hik hkk htl hT0 hR1 hB1 hL0 hC3 hz0 hz1 hz2 hi0 hGm
  go_enter Try.func75, Try.ntmps75
  have h1 := H1.out
  go_wp2_with (at_builtin; refine Lib.wpList_append_run _ rfl (.tmp 34) (.tmp 39) 86 3 rfl (.slice (some ⟨g, 0, none⟩) p L.length) (.int .i64 ((L.length : Int) + 1 - (p : Int))) rfl rfl _ _ (H0.out _) ?_)
  clear h1
  go_region_law (refine step_copyR rfl _ _ 86 86 rfl (.slice (some ⟨w.heap.size, (p + 1) * 7, none⟩) (L.length - p) (G - (p + 1))) (.slice (some ⟨g, p * 7, none⟩) (L.length - p) (L.length - p)) (by simp [Act.eval, Act.put]) (by simp [Act.eval, Act.put]) H2.out ?_)
  go_wp2_with fail
  go_ret
  exact ⟨⟨some ⟨w.heap.size, 0, none⟩, L.length + 1, G⟩, rfl, fin.out, HT.out, fun k hk => .inr (by injection hk with h; subst h; exact Nat.le_refl _)⟩
end Go.Proofs.Ytdpgmdkclaahdaa.Nb