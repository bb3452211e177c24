/- slices.SortFunc over items by their order: the library's own contract, told in rows. -/
import Derived.Test.YthebcaielbnhjaaQuOrder
import Derived.Test.YthebcaielbnhjaaQuLays
import Derived.Shelf.SlSortCmp.NoneTotal
namespace Go.Proofs.Ythebcaielbnhjaa
open Go.Shelf Go.Sort Go.RowKit Go.BigFrame
set_option linter.unusedVariables false
set_option linter.unusedSimpArgs false

theorem lt_of (x y : Im) : ltOf cfI x y = decide (LtI x y) := by unfold ltOf; exact decide_eq_decide.2 (cf_neg x y)
theorem swo_cf : SWO (ltOf cfI) where
  irrefl x := by rw [lt_of]; simp only [decide_eq_false_iff_not]; exact LtI.irr
  trans x y z h1 h2 := by
    rw [lt_of, decide_eq_true_eq] at *
    exact h1.trans h2
  ntrans x y z h1 h2 := by
    rw [lt_of, decide_eq_false_iff_not] at *
    unfold LtI at *; omega
theorem flatK_list (L : List Im) : (flatK ci 6 L.toArray).toList = (L.map ci).flatten := by
  apply List.ext_getElem?
  intro t
  have hs : (flatK ci 6 L.toArray).size = L.length * 6 := by rw [size_flatK]; rfl
  have hl : (L.map ci).flatten.length = L.length * 6 := by rw [flatten_len (z := 6) _ (ci_enc.all L), List.length_map]
  by_cases ht : t < L.length * 6
  · rw [Array.getElem?_toList, Array.getElem?_eq_getElem (by rw [hs]; exact ht)]
    have h1 := get_flatK ci 6 L.toArray t ht
    rw [getElem!_pos _ t (by rw [hs]; exact ht)] at h1
    rw [h1]
    have hd : t / 6 < L.length := by omega
    have hm : t % 6 < 6 := Nat.mod_lt _ (by decide)
    have e : t = t / 6 * 6 + t % 6 := by omega
    have h2 := flatten_at (z := 6) (L.map ci) (ci_enc.all L) (t / 6) (t % 6) hm (ci L[t / 6]) (by rw [List.getElem?_map, List.getElem?_eq_getElem hd]; rfl)
    rw [← e] at h2
    rw [h2]
    have h3 : L.toArray[t / 6]! = L[t / 6] := by rw [getElem!_pos L.toArray (t / 6) (by simpa using hd)]; simp
    rw [h3, List.getElem?_eq_getElem (by rw [ci_enc.len]; exact hm), getElem!_pos _ _ (by rw [ci_enc.len]; exact hm)]
  · rw [Array.getElem?_toList, Array.getElem?_eq_none (by rw [hs]; omega), List.getElem?_eq_none (by rw [hl]; omega)]
theorem flatK_at (L : List Im) (j : Nat) (u : Value) (h : (L.map ci).flatten[j]? = some u) : (flatK ci 6 L.toArray)[j]! = u := by
  rw [← flatK_list, Array.getElem?_toList] at h
  obtain ⟨h1, h2⟩ := Array.getElem?_eq_some_iff.1 h
  rw [getElem!_pos _ j h1]; exact h2
theorem holdsK_rw {g : Nat} {T : TypeId} {C : List (List Value)} {L : List Im} {w : World} (h : Rw 6 g T C w) (ht : C.take L.length = L.map ci) : HoldsK ci 6 w g 0 L.toArray := by
  intro j hj
  rw [size_flatK] at hj
  have hj' : j < L.length * 6 := hj
  rw [Nat.zero_add]
  refine ⟨?_, h.free j⟩
  have hl : (L.map ci).flatten.length = L.length * 6 := by rw [flatten_len (z := 6) _ (ci_enc.all L), List.length_map]
  obtain ⟨u, hu⟩ : ∃ u, (L.map ci).flatten[j]? = some u := ⟨_, List.getElem?_eq_getElem (by rw [hl]; exact hj')⟩
  rw [flatK_at L j u hu]
  show w.cell? ⟨g, j, none⟩ = some (id u)
  rw [cell_of_row w g _ _ T (0, 0) h.heap, List.getElem?_toArray]
  have h2 := flatten_take (z := 6) C L.length h.all
  rw [ht] at h2
  have h3 : (C.flatten.take (L.length * 6))[j]? = C.flatten[j]? := by rw [List.getElem?_take, if_pos hj']
  rw [← h3, h2]; exact hu
theorem putCells_flat (F cur : List Value) (h : F.length ≤ cur.length) : putCells id 0 F.toArray cur.toArray = (splice cur 0 F).toArray := by
  apply Array.ext_getElem?
  intro k
  simp only [putCells, Array.getElem?_mapIdx, List.getElem?_toArray, splice]
  simp only [List.take_zero, List.nil_append, Nat.zero_add, Nat.zero_le, true_and, Nat.sub_zero, List.size_toArray]
  by_cases hk : k < F.length
  · rw [List.getElem?_append_left hk, List.getElem?_eq_getElem (by omega), Option.map_some, if_pos hk, List.getElem?_eq_getElem hk]
    show some (F.toArray[k]!) = some F[k]
    rw [getElem!_pos F.toArray k (by simpa using hk)]; simp
  · rw [List.getElem?_append_right (by omega), List.getElem?_drop, show F.length + (k - F.length) = k by omega]
    cases cur[k]? with
    | none => rfl
    | some y => simp [hk]
theorem sortWorld_rw {g : Nat} {T : TypeId} {C : List (List Value)} {S : List Im} {w : World} (h : Rw 6 g T C w) (hl : S.length ≤ C.length) (m : Nat) (os : Array Obj) : Rw 6 g T (splice C 0 (S.map ci)) (sortWorldK ci 6 w g 0 m S.toArray os) ∧ Touch (fun k => k = g) w (sortWorldK ci 6 w g 0 m S.toArray os) := by
  have hlt := h.lt
  have hF : (S.map ci).flatten.length ≤ C.flatten.length := by
    rw [flatten_len (z := 6) _ (ci_enc.all S), List.length_map, flatten_len (z := 6) _ h.all]
    exact Nat.mul_le_mul_right _ hl
  have e0 : flatK ci 6 S.toArray = (S.map ci).flatten.toArray := by rw [← flatK_list]
  have hh : (putRowK ci 6 (Sort.ahead w m) g 0 S.toArray).heap[g]? = some (.cells (splice C 0 (S.map ci)).flatten.toArray T (0, 0)) := by
    show (w.heap.modify g (onCells (putCells id 0 (flatK ci 6 S.toArray))))[g]? = _
    rw [Array.getElem?_modify, if_pos rfl, h.heap, e0]
    show some (Obj.cells (putCells id 0 _ _) T (0, 0)) = _
    rw [putCells_flat _ _ hF]
    have := flatten_splice (z := 6) C (S.map ci) h.all (ci_enc.all S) 0
    rw [Nat.zero_mul] at this
    rw [this]
  have hsz : (putRowK ci 6 (Sort.ahead w m) g 0 S.toArray).heap.size = w.heap.size := by
    show (w.heap.modify g _).size = _
    rw [Array.size_modify]
  refine ⟨⟨splice_all h.all (ci_enc.all S) 0, ?_⟩, rfl, rfl, rfl, ?_, fun k hk hn => ?_⟩
  · show ((putRowK ci 6 (Sort.ahead w m) g 0 S.toArray).heap ++ os)[g]? = _
    rw [Array.getElem?_append_left (by rw [hsz]; exact hlt)]
    exact hh
  · show w.heap.size ≤ ((putRowK ci 6 (Sort.ahead w m) g 0 S.toArray).heap ++ os).size
    rw [Array.size_append, hsz]; omega
  · show ((putRowK ci 6 (Sort.ahead w m) g 0 S.toArray).heap ++ os)[k]? = _
    rw [Array.getElem?_append_left (by rw [hsz]; exact hk)]
    show (w.heap.modify g _)[k]? = _
    rw [Array.getElem?_modify, if_neg (fun e => hn e.symm)]
theorem qorder_lays (g off size : Nat) (w : World) : CmpLays Try.prog 36 #[] ci 6 cfI g off size w :=
  fun _ _ _ _ x y => qorder_any x y _
theorem extract_all {α : Type} (d : Array α) : (d.extract 0 d.size).toList = d.toList := by simp
def SortPost (g cap : Nat) (L : List Im) (w : World) (e : Ending) (w' : World) : Prop :=
  e = .returned (.tuple #[]) ∧ ∃ S : List Im, S.Perm L ∧ (∀ i j (hi : i < j) (hj : j < S.length), ¬ LtI S[j] (S[i]'(by omega))) ∧ ERow ci 6 61 w' (.slice (some ⟨g, 0, none⟩) L.length cap) S ∧ Touch (fun k => k = g) w w'
theorem sort_row (g cap : Nat) (L : List Im) (hl : L.length ≤ 1000) (w : World) (hr : ERow ci 6 61 w (.slice (some ⟨g, 0, none⟩) L.length cap) L) :
    Calls Try.prog 35 #[.slice (some ⟨g, 0, none⟩) L.length cap, .func (.func 36) #[] #[]] w (SortPost g cap L w) := by
  obtain ⟨-, C, hC, hcap, ht, hlc, hm⟩ := erow_open ci_enc hr
  have eg : ∀ args w, (callFunc 36 args).run Try.prog w = .ok (.enter 36 args) w := enters_of Try.func36 (by kernel_rfl) rfl
  have hcon := AnyQ.slices_SortFunc sortIt 6 Try.isAgg61 Try.sizeOf61 ci ci_enc.len ci_enc.one cfI swo_cf 36 #[] g 0 cap L.toArray w eg (qorder_lays g 0 L.toArray.size w) (holdsK_rw hC ht) hC.lt (by simp; omega)
  refine hcon.mono ?_
  rintro e w' ⟨rfl, d', n, os, hp, hs, rfl⟩
  obtain ⟨S, rfl⟩ : ∃ S : List Im, d' = S.toArray := ⟨d'.toList, by simp⟩
  obtain ⟨p1, _, p3⟩ := hp
  have hlen : S.length = L.length := by simpa using p1
  have hperm : S.Perm L := by
    have : L.toArray.size = S.toArray.size := p1.symm
    rw [extract_all, this, extract_all] at p3
    exact p3
  obtain ⟨h1, h2⟩ := sortWorld_rw (S := S) hC (by omega) n os
  refine ⟨rfl, S, hperm, fun i j hi hj => ?_, ?_, h2⟩
  · have := hs i j (Nat.zero_le _) hi (by simp; omega)
    rw [lt_of, decide_eq_false_iff_not, getElem!_pos S.toArray j (by simpa using hj), getElem!_pos S.toArray i (by simp; omega)] at this
    simpa using this
  · have e1 : (splice C 0 (S.map ci)).length = cap := by rw [length_splice _ _ _ (by rw [List.length_map]; omega)]; exact hcap
    have e2 : (splice C 0 (S.map ci)).take S.length = S.map ci := by
      simp only [splice, List.take_zero, List.nil_append, Nat.zero_add]
      rw [List.take_left' (by simp)]
    have := erow_close (L := S) h1 e2 (by rw [e1]; omega) (by rw [e1]; omega)
    rw [e1, hlen] at this
    exact this
/-- the items of a slice, in their order -/
theorem sorted_is {S L : List Im} (hp : S.Perm L) (hs : ∀ i j (hi : i < j) (hj : j < S.length), ¬ LtI S[j] (S[i]'(by omega))) (hn : (idsI L).Nodup) : Srt S := by
  have hnS := nodup_perm (ids_perm hp) hn
  refine List.pairwise_iff_getElem.2 fun i j hi hj hij => ?_
  have hne : (S[i]).r.id ≠ (S[j]).r.id := by
    have := List.pairwise_iff_getElem.1 hnS i j (by unfold idsI; simpa using hi) (by unfold idsI; simpa using hj) hij
    unfold idsI at this
    simpa using this
  exact (LtI.tri hne).resolve_right (hs i j hij hj)
def SortEPost (v : Sl) (S : List Im) (w : World) (e : Ending) (w' : World) : Prop :=
  e = .returned (.tuple #[]) ∧ ERow ci 6 61 w' v.v S ∧ Touch (fun k => v.v.ownBlock = some k) w w'
theorem sort_any (v : Sl) (L S : List Im) (hl : L.length ≤ 1000) (hp : L.Perm S) (hS : Srt S) (hn : (idsI S).Nodup) (w : World) (hr : ERow ci 6 61 w v.v L) :
    Calls Try.prog 35 #[v.v, .func (.func 36) #[] #[]] w (SortEPost v S w) := by
  rcases erow_form hr with ⟨h1, rfl⟩ | ⟨g, cap, h1, _⟩
  · have hS0 : S = [] := List.nil_perm.1 hp
    subst hS0
    have h2 := AnyF.slices_SortFunc_none sortIt none 0 (.func (.func 36) #[] #[]) w
    rw [h1]
    refine h2.mono ?_
    rintro e w' ⟨rfl, rfl⟩
    exact ⟨rfl, hr, Touch.refl _ _⟩
  · rw [h1] at hr ⊢
    refine (sort_row g cap L hl w hr).mono ?_
    rintro e w' ⟨rfl, S', hp', hs', hr', ht'⟩
    have hS' : S' = S := srt_perm (sorted_is hp' hs' (nodup_perm (ids_perm hp) hn)) hS (hp'.trans hp)
    subst hS'
    refine ⟨rfl, ?_, ht'.mono (fun k _ e => ?_)⟩
    · rw [h1]; exact hr'
    · subst e; rw [h1]; rfl
end Go.Proofs.Ythebcaielbnhjaa
