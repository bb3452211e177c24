/- A list that rises: found, put in; a copy of it: the library's own contracts, told in rows. -/
import Derived.Test.YtplllaafllcigaaDbLays
namespace Go.Proofs.Ytplllaafllcigaa
open Go.Shelf Go.Sort Go.RowKit Go.BigFrame
set_option linter.unusedVariables false
set_option linter.unusedSimpArgs false

theorem one_flat {α : Type} (A : List α) : (A.map fun v => [v]).flatten = A := by
  induction A with
  | nil => rfl
  | cons a l ih => rw [List.map_cons, List.flatten_cons, ih]; rfl
theorem rw_one {g : Nat} {T : TypeId} {A : List Value} {w : World} (h : w.heap[g]? = some (.cells A.toArray T (0, 0))) : Rw 1 g T (A.map fun v => [v]) w := by
  refine ⟨fun c hc => ?_, by rw [one_flat]; exact h⟩
  obtain ⟨v, _, rfl⟩ := List.mem_map.1 hc
  rfl
theorem ci64 (l : List Int) : (l.map c64).flatten = l.map (Value.int .i64) := by
  induction l with
  | nil => rfl
  | cons a l ih => rw [List.map_cons, List.flatten_cons, ih]; rfl
theorem c64_map (l : List Int) : l.map c64 = (l.map (Value.int .i64)).map fun v => [v] := by rw [List.map_map]; rfl
theorem erow_cells {w : World} {g n c : Nat} {T : TypeId} {l : List Int} (h : ERow c64 1 T w (.slice (some ⟨g, 0, none⟩) n c) l) : ∀ j, j < l.length → w.cell? ⟨g, 0 + j, none⟩ = some (.int .i64 (l.getD j 0)) := by
  intro j hj
  obtain ⟨_, C, hC, _, ht, _⟩ := erow_open c64_enc h
  have hx : l[j]? = some l[j] := List.getElem?_eq_getElem hj
  have := hC.cell j 0 (c64 l[j]) _ (taken_at ht hx) rfl
  rw [Nat.mul_one, Nat.add_zero] at this
  rw [Nat.zero_add, this, List.getD_eq_getElem?_getD, hx]; rfl
theorem contains_dec (x : Int) (l : List Int) : l.contains x = decide (x ∈ l) := by
  rw [Bool.eq_iff_iff]; simp
/-- slices.BinarySearch over a list that rises -/
theorem search_row (s : Sl) (l : List Int) (hs : l.Pairwise (· < ·)) (x : Int) (w : World) (h : ERow c64 1 3 w s.v l) (hl : l.length ≤ 1000) :
    Calls Try.prog 25 #[.slice s.a s.n s.c, .int .i64 x] w fun e w' => e = .returned (.tuple #[.int .i64 (cntW x l : Nat), .bool (decide (x ∈ l))]) ∧ Below w.heap.size w w' := by
  have hn := erow_n h
  obtain ⟨a, n, c⟩ := s
  simp only at hn
  subst hn
  by_cases h0 : l.length = 0
  · obtain rfl := List.eq_nil_of_length_eq_zero h0
    refine (Any.slices_BinarySearch_int_empty searchIt a c x w).mono ?_
    rintro e w' ⟨rfl, rfl⟩
    exact ⟨by simp [cntW], Below.refl _ _⟩
  · rcases erow_form h with ⟨_, rfl⟩ | ⟨g, cap, h1, hg⟩
    · simp at h0
    · simp only [Sl.v, Value.slice.injEq] at h1
      obtain ⟨rfl, -, rfl⟩ := h1
      have hle : l.Pairwise (· ≤ ·) := hs.imp (fun h => Int.le_of_lt h)
      refine (Any.slices_BinarySearch_int searchIt g 0 l.length c l x w (Nat.le_refl _) (by omega) (erow_cells h) (by rw [List.take_length]; exact hle)).mono ?_
      rintro e w' ⟨rfl, q, rfl⟩
      refine ⟨?_, below_drewN (Below.refl _ _) _⟩
      rw [List.take_length, contains_dec]
      have := cnt_countP (x := x) hs
      rw [this]
/-- slices.Clone: a slice of new memory -/
theorem clone_row (s : Sl) (l : List Int) (w : World) (h : ERow c64 1 3 w s.v l) (hl : l.length ≤ 1000) :
    Calls Try.prog 36 #[.slice s.a s.n s.c] w (NewPost c64 1 3 l w) := by
  have hn := erow_n h
  obtain ⟨a, n, c⟩ := s
  simp only at hn
  subst hn
  rcases erow_form h with ⟨h1, rfl⟩ | ⟨g, cap, h1, hg⟩
  · simp only [Sl.v, Value.slice.injEq] at h1
    obtain ⟨rfl, -, rfl⟩ := h1
    refine (Any.slices_Clone_int_nil cloneIt 0 0 w).mono ?_
    rintro e w' ⟨rfl, rfl⟩
    exact ⟨nilS, rfl, ⟨erow_nil, rfl, fun b hb => absurd hb (nil_own b)⟩, Below.refl _ _⟩
  · simp only [Sl.v, Value.slice.injEq] at h1
    obtain ⟨rfl, -, rfl⟩ := h1
    refine (Any.slices_Clone_int cloneIt g 0 l.length c l w (Nat.le_refl _) (by omega) (erow_cells h)).mono ?_
    rintro e w' ⟨v', rfl, hown, _, hb⟩
    rw [List.take_length] at hown
    obtain ⟨s', rfl⟩ := sl_of hown
    have hr : ERow c64 1 3 w' s'.v l := by
      unfold ERow
      rw [ci64]
      exact own_zero hown
    exact ⟨s', rfl, ⟨hr, erow_n hr, fun b hb => (World.ownsRow.lt hown b hb).1⟩, hb⟩
def InsPost (s : Sl) (D : List Int) (w : World) (e : Ending) (w' : World) : Prop := ∃ s' : Sl, e = .returned (.slice s'.a s'.n s'.c) ∧ ERow c64 1 3 w' s'.v D ∧ Touch (fun b => s.v.ownBlock = some b) w w' ∧ ∀ b, s'.v.ownBlock = some b → s.v.ownBlock = some b ∨ w.heap.size ≤ b
theorem row_made {g : Nat} {T : TypeId} {A : List Value} {w : World} {D : List Int} (h : w.heap[g]? = some (.cells A.toArray T (0, 0))) (hD : A.take D.length = D.map (Value.int .i64)) (hl : D.length ≤ A.length) (hm : A.length ≤ maxLen) : ERow c64 1 T w (.slice (some ⟨g, 0, none⟩) D.length A.length) D := by
  have := erow_close (c := c64) (L := D) (rw_one h) (by rw [← List.map_take, hD, c64_map]) (by simpa using hl) (by simpa using hm)
  simpa using this
theorem splice_len {α : Type} (A D : List α) (o : Nat) (h : o + D.length ≤ A.length) : (splice A o D).length = A.length := by
  simp only [splice, List.length_append, List.length_take, List.length_drop]; omega
set_option maxHeartbeats 1600000 in
/-- slices.Insert of one at a place: in place where there is room, else in a new row -/
theorem insert_row (s : Sl) (l : List Int) (i : Nat) (hi : i ≤ l.length) (x : Int) (vb : Nat) (w : World) (h : ERow c64 1 3 w s.v l) (hl : l.length ≤ 1000)
    (hv : w.heap[vb]? = some (.cells #[.int .i64 x] 3 (0, 0))) (hvb : s.v.ownBlock ≠ some vb) :
    Calls Try.prog 26 #[.slice s.a s.n s.c, .int .i64 (i : Nat), .slice (some ⟨vb, 0, none⟩) 1 1] w (InsPost s (l.take i ++ x :: l.drop i) w) := by
  have hn := erow_n h
  obtain ⟨a, n, c⟩ := s
  simp only at hn
  subst hn
  have hvs : ∀ j v, [Value.int .i64 x][j]? = some v → w.cell? ⟨vb, 0 + j, none⟩ = some v := fun j v hj => by
    rw [Nat.zero_add, cell_of_row w vb j _ _ _ hv]; simpa using hj
  have h1v : ∀ v ∈ [Value.int .i64 x], v.oneCell' = true := by simp [Value.oneCell']
  have hDl : (l.take i ++ x :: l.drop i).length = l.length + 1 := by rw [List.length_append, List.length_cons, List.length_take, List.length_drop]; omega
  have hcsl : (l.map (Value.int .i64)).length = l.length := by simp
  have h1c : ∀ v ∈ l.map (Value.int .i64), v.oneCell' = true := ints_one .i64 l
  have hG : ∀ W : World, l.length + 1 ≤ grownCap W (l.length + 1) c 3 ∧ grownCap W (l.length + 1) c 3 ≤ maxLen := fun W => ⟨grownCap_ge _ _ _ _, grownCap_le_maxLen _ _ _ _ (by unfold maxLen; omega)⟩
  rcases erow_form h with ⟨h1, rfl⟩ | ⟨g, cap, h1, hg⟩
  · simp only [Sl.v, Value.slice.injEq] at h1
    obtain ⟨rfl, -, rfl⟩ := h1
    obtain rfl : i = 0 := by simpa using hi
    refine (Any2.slices_Insert_int_end_grow insIt none 0 0 vb 0 1 1 [] [.int .i64 x] w (by decide) (by decide) (by decide) (by decide) rfl rfl (fun _ => rfl) (fun a ha => by cases ha) hvs h1v).mono ?_
    rintro e w' ⟨rfl, rfl⟩
    have hGw := hG w
    simp only [List.length_nil, Nat.zero_add] at hGw
    have hh := heap_alloc_new w.drew (.cells (([] ++ [Value.int .i64 x] : List Value).toArray ++ Builtin.zeroCells (Value.int .i64 0).cells (grownCap w (0 + 1) 0 3 - (0 + 1))) 3)
    have hz : (Builtin.zeroCells (Value.int .i64 0).cells (grownCap w (0 + 1) 0 3 - (0 + 1))).size = grownCap w (0 + 1) 0 3 - 1 := by simp [Builtin.zeroCells, Value.cells]
    have hr := row_made (D := [x]) (A := ([Value.int .i64 x] ++ (Builtin.zeroCells (Value.int .i64 0).cells (grownCap w (0 + 1) 0 3 - (0 + 1))).toList)) (w := w.drew.alloc (.cells (([] ++ [Value.int .i64 x] : List Value).toArray ++ Builtin.zeroCells (Value.int .i64 0).cells (grownCap w (0 + 1) 0 3 - (0 + 1))) 3)) (g := w.drew.heap.size) (T := 3) (by rw [hh]; simp) rfl (by simp) (by simp [hz]; omega)
    refine ⟨⟨some ⟨w.heap.size, 0, none⟩, 1, grownCap w 1 0 3⟩, rfl, ?_, (Touch.refl _ _).drew.alloc _, fun b hb => .inr ?_⟩
    · have hlen : ([Value.int .i64 x] ++ (Builtin.zeroCells (Value.int .i64 0).cells (grownCap w (0 + 1) 0 3 - (0 + 1))).toList).length = grownCap w 1 0 3 := by
        simp [hz]; omega
      rw [hlen] at hr
      exact hr
    · obtain rfl : w.heap.size = b := by injection hb
      exact Nat.le_refl _
  · simp only [Sl.v, Value.slice.injEq] at h1
    obtain ⟨rfl, -, rfl⟩ := h1
    have hne : vb ≠ g := fun e => hvb (by rw [e]; rfl)
    obtain ⟨-, C, hC, hcap, ht, hlc, hm⟩ := erow_open c64_enc h
    simp only at hcap hlc hm
    have hfl : C.flatten.length = c := by rw [flatten_len _ hC.all]; omega
    have hown : ∀ F : Nat → Prop, (∀ b, F b ↔ b = g) → (fun b => (Sl.v ⟨some ⟨g, 0, none⟩, l.length, c⟩).ownBlock = some b) = F := fun F hF => by
      funext b
      refine propext ⟨fun e => (hF b).2 ?_, fun e => ?_⟩
      · obtain rfl : g = b := by injection e
        rfl
      · rw [(hF b).1 e]; rfl
    have hcs : ∀ j v, (l.map (Value.int .i64))[j]? = some v → w.cell? ⟨g, 0 + j, none⟩ = some v := fun j v hj => by
      have hj2 : j < l.length := by have := (List.getElem?_eq_some_iff.1 hj).1; simpa using this
      rw [erow_cells h j hj2]
      rw [List.getElem?_map, List.getElem?_eq_getElem hj2] at hj
      rw [← hj, List.getD_eq_getElem?_getD, List.getElem?_eq_getElem hj2]; rfl
    have hfz : ∀ o, w.frozen? ⟨g, o, none⟩ = false := fun o => hC.free o
    have hsp : ∀ o, o < c → (w.cell? ⟨g, o, none⟩).isSome = true := fun o ho => by
      rw [cell_of_row w g _ _ _ _ hC.heap, List.getElem?_toArray, List.getElem?_eq_getElem (by rw [hfl]; exact ho)]; rfl
    by_cases hroom : l.length + 1 ≤ c
    · by_cases hil : i = l.length
      · subst hil
        refine (Any2.slices_Insert_int_end_room insIt g 0 l.length c vb 0 1 1 [.int .i64 x] w (by decide) hroom (by unfold maxLen at hm; omega) rfl (fun j hj => hsp _ (by omega)) (fun j _ => hfz _) hvs h1v).mono ?_
        rintro e w' ⟨rfl, rfl⟩
        have hP := hC.put l.length (c64 x) rfl (by omega)
        have hr := erow_close (c := c64) (L := l ++ [x]) hP (by
          rw [List.length_append, List.length_singleton, List.take_add_one, List.take_set_of_le (by omega), ht, List.getElem?_set_self (by omega), List.map_append]; rfl) (by simp; omega) (by rw [List.length_set, hcap]; exact hm)
        refine ⟨⟨some ⟨g, 0, none⟩, l.length + 1, c⟩, rfl, ?_, ?_, fun b hb => .inl hb⟩
        · rw [List.take_length, List.drop_length]
          rw [List.length_set, hcap, List.length_append, List.length_singleton, Nat.mul_one] at hr
          rw [Nat.zero_add]
          exact hr
        · rw [hown (fun b => b = g) (fun _ => Iff.rfl)]
          exact Touch.sets (Touch.refl (fun b => b = g) w) g (fun _ => rfl) _ _
      · have hil2 : i < l.length := by omega
        have hsa : w.shape? vb = some (3, 1) := by simp [World.shape?, hv]
        have hsb : w.shape? g = some (3, c) := by
          have e : w.shape? g = some (3, C.flatten.toArray.size) := by simp only [World.shape?, hC.heap]
          rw [e, List.size_toArray, hfl]
        refine (Any2.slices_Insert_int_shift insIt g 0 l.length c i vb 0 1 1 (l.map (Value.int .i64)) [.int .i64 x] w hil2 (by decide) hroom (by unfold maxLen at hm; omega) hne hcsl rfl hcs (fun j hj => hsp _ (by omega)) (fun j _ => hfz _) hvs h1c h1v 3 3 1 c hsa hsb (by omega) (frozen_of_row w vb 0 _ _ hv) (frozen_of_row w vb 1 _ _ hv)).mono ?_
        rintro e w' ⟨rfl, rfl⟩
        have hC1 : Rw 1 g 3 C w.drew := hC.of_block rfl
        have hdl : ((l.drop i).map c64).length = l.length - i := by simp
        have hS := hC1.store (i + 1) ((l.drop i).map c64) (c64_enc.all _) (by rw [hdl]; omega)
        have hsl := splice_len C ((l.drop i).map c64) (i + 1) (by rw [hdl]; omega)
        have hP := hS.put i (c64 x) rfl (by rw [hsl]; omega)
        have htk : ((splice C (i + 1) ((l.drop i).map c64)).set i (c64 x)).take (l.length + 1) = (l.take i ++ x :: l.drop i).map c64 := by
          have h3 : C.take i = (l.take i).map c64 := by
            have := congrArg (List.take i) ht
            rw [List.take_take, Nat.min_eq_left hi, ← List.map_take] at this
            exact this
          apply List.ext_getElem?
          intro j
          rw [List.getElem?_take]
          by_cases hj : j < l.length + 1
          · rw [if_pos hj, List.getElem?_set]
            by_cases hji : i = j
            · subst hji
              rw [if_pos rfl, if_pos (by rw [hsl]; omega), List.map_append, List.map_cons, List.getElem?_append_right (by simp; omega)]
              simp [Nat.min_eq_left hi]
            · rw [if_neg hji, List.map_append, List.map_cons]
              rcases Nat.lt_or_ge j i with h5 | h5
              · rw [List.getElem?_append_left (by simp; omega), ← h3]
                simp only [splice, List.append_assoc]
                rw [List.getElem?_append_left (by rw [List.length_take]; omega), List.getElem?_take, if_pos (by omega), List.getElem?_take, if_pos h5]
              · rw [List.getElem?_append_right (by simp; omega)]
                have hml : ((l.take i).map c64).length = i := by simp; omega
                rw [hml, show j - i = (j - (i + 1)) + 1 by omega, List.getElem?_cons_succ]
                simp only [splice, List.append_assoc]
                rw [List.getElem?_append_right (by rw [List.length_take]; omega), List.length_take, Nat.min_eq_left (by omega), List.getElem?_append_left (by rw [hdl]; omega)]
          · rw [if_neg hj, List.getElem?_eq_none (by rw [List.length_map, hDl]; omega)]
        have hr := erow_close (c := c64) (L := l.take i ++ x :: l.drop i) hP (by rw [hDl]; exact htk) (by rw [hDl, List.length_set, hsl]; omega) (by rw [List.length_set, hsl, hcap]; exact hm)
        refine ⟨⟨some ⟨g, 0, none⟩, l.length + 1, c⟩, rfl, ?_, ?_, fun b hb => .inl hb⟩
        · rw [List.length_set, hsl, hcap, hDl, Nat.mul_one, Nat.mul_one, ci64, List.map_drop] at hr
          rw [Nat.zero_add, Nat.zero_add]
          exact hr
        · rw [hown (fun b => b = g) (fun _ => Iff.rfl)]
          exact Touch.sets (Touch.sets (Touch.refl (fun b => b = g) w).drew g (fun _ => rfl) _ _) g (fun _ => rfl) _ _
    · by_cases hil : i = l.length
      · subst hil
        refine (Any2.slices_Insert_int_end_grow insIt (some ⟨g, 0, none⟩) l.length c vb 0 1 1 (l.map (Value.int .i64)) [.int .i64 x] w (by decide) (by omega) (by omega) (by omega) hcsl rfl (fun e => by cases e) (fun a ha j v hj => by cases ha; rw [add_at]; exact hcs j v hj) hvs h1v).mono ?_
        rintro e w' ⟨rfl, rfl⟩
        have hGw := hG w
        show InsPost _ _ _ (.returned (.slice (some ⟨w.heap.size, 0, none⟩) (l.length + 1) (grownCap w (l.length + 1) c 3))) (w.drew.alloc (.cells ((l.map (Value.int .i64) ++ [Value.int .i64 x]).toArray ++ Builtin.zeroCells (Value.int .i64 0).cells (grownCap w (l.length + 1) c 3 - (l.length + 1))) 3))
        have hh := heap_alloc_new w.drew (.cells ((l.map (Value.int .i64) ++ [Value.int .i64 x]).toArray ++ Builtin.zeroCells (Value.int .i64 0).cells (grownCap w (l.length + 1) c 3 - (l.length + 1))) 3)
        have hz : (Builtin.zeroCells (Value.int .i64 0).cells (grownCap w (l.length + 1) c 3 - (l.length + 1))).size = grownCap w (l.length + 1) c 3 - (l.length + 1) := by simp [Builtin.zeroCells, Value.cells]
        generalize Builtin.zeroCells (Value.int .i64 0).cells (grownCap w (l.length + 1) c 3 - (l.length + 1)) = Z at *
        have hlen : ((l.map (Value.int .i64) ++ [Value.int .i64 x]) ++ Z.toList).length = grownCap w (l.length + 1) c 3 := by
          simp [hz]; omega
        have hr := row_made (D := l ++ [x]) (A := (l.map (Value.int .i64) ++ [Value.int .i64 x]) ++ Z.toList) (w := w.drew.alloc (.cells ((l.map (Value.int .i64) ++ [Value.int .i64 x]).toArray ++ Z) 3)) (g := w.drew.heap.size) (T := 3) (by rw [hh]; simp) (by rw [List.take_append_of_le_length (by simp), List.take_of_length_le (by simp), List.map_append]; rfl) (by simp) (by rw [hlen]; exact hGw.2)
        refine ⟨⟨some ⟨w.heap.size, 0, none⟩, l.length + 1, grownCap w (l.length + 1) c 3⟩, rfl, ?_, (Touch.refl _ _).drew.alloc _, fun b hb => .inr ?_⟩
        · rw [hlen] at hr
          rw [List.take_length, List.drop_length]
          simpa [Sl.v] using hr
        · obtain rfl : w.heap.size = b := by injection hb
          exact Nat.le_refl _
      · have hil2 : i < l.length := by omega
        refine (Any2.slices_Insert_int_grow insIt g 0 l.length c i vb 0 1 1 (l.map (Value.int .i64)) [.int .i64 x] w hil2 (by decide) (by omega) (by omega) (by omega) hcsl rfl hcs hvs h1c h1v).mono ?_
        rintro e w' ⟨rfl, rfl⟩
        have hGw := hG w
        have hz1 : (Builtin.zeroCells (Value.int .i64 0).cells (l.length + 1 - i)).size = l.length + 1 - i := by simp [Builtin.zeroCells, Value.cells]
        have hz2 : (Builtin.zeroCells (Value.int .i64 0).cells (grownCap w (l.length + 1) c 3 - (l.length + 1))).size = grownCap w (l.length + 1) c 3 - (l.length + 1) := by simp [Builtin.zeroCells, Value.cells]
        generalize hG2 : grownCap w (l.length + 1) c 3 = G at *
        have hh := heap_alloc_new w (.cells (((l.map (Value.int .i64)).take i).toArray ++ Builtin.zeroCells (Value.int .i64 0).cells (l.length + 1 - i) ++ Builtin.zeroCells (Value.int .i64 0).cells (G - (l.length + 1))) 3)
        show InsPost _ _ _ (.returned (.slice (some ⟨w.heap.size, 0, none⟩) (l.length + 1) (grownCap w (l.length + 1) c 3))) ((((w.alloc (.cells (((l.map (Value.int .i64)).take i).toArray ++ Builtin.zeroCells (Value.int .i64 0).cells (l.length + 1 - i) ++ Builtin.zeroCells (Value.int .i64 0).cells (grownCap w (l.length + 1) c 3 - (l.length + 1))) 3)).drew.setCells w.heap.size i [.int .i64 x]).drew).setCells w.heap.size (i + 1) ((l.map (Value.int .i64)).drop i))
        rw [hG2]
        generalize Builtin.zeroCells (Value.int .i64 0).cells (l.length + 1 - i) = Z1 at *
        generalize Builtin.zeroCells (Value.int .i64 0).cells (G - (l.length + 1)) = Z2 at *
        obtain ⟨N, hN⟩ : ∃ N : List Value, N = (l.map (Value.int .i64)).take i ++ Z1.toList ++ Z2.toList := ⟨_, rfl⟩
        have hNa : ((l.map (Value.int .i64)).take i).toArray ++ Z1 ++ Z2 = N.toArray := by rw [hN]; simp
        have hNl : N.length = G := by rw [hN]; simp [hz1, hz2]; omega
        rw [hNa] at hh ⊢
        have hb0 : Below w.heap.size w ((w.alloc (.cells N.toArray 3)).drew) := ((Below.refl _ w).alloc (Nat.le_refl _) _).drew
        have q1 := heap_setCells w.heap.size 3 [Value.int .i64 x] i (w.alloc (.cells N.toArray 3)).drew N hh (by simp; omega)
        have hd : ((l.map (Value.int .i64)).drop i).length = l.length - i := by simp
        have q2 := heap_setCells w.heap.size 3 ((l.map (Value.int .i64)).drop i) (i + 1) ((w.alloc (.cells N.toArray 3)).drew.setCells w.heap.size i [.int .i64 x]).drew _ q1 (by rw [hd, splice_len _ _ _ (by simp; omega)]; omega)
        have hlen : (splice (splice N i [Value.int .i64 x]) (i + 1) ((l.map (Value.int .i64)).drop i)).length = G := by
          rw [splice_len _ _ _ (by rw [hd, splice_len _ _ _ (by simp; omega)]; omega), splice_len _ _ _ (by simp; omega), hNl]
        have htk : (splice (splice N i [Value.int .i64 x]) (i + 1) ((l.map (Value.int .i64)).drop i)).take (l.length + 1) = (l.take i ++ x :: l.drop i).map (Value.int .i64) := by
          have e1 : N.take i = (l.map (Value.int .i64)).take i := by
            rw [hN, List.append_assoc, List.take_append_of_le_length (by simp; omega), List.take_of_length_le (by simp; omega)]
          have hNi : (N.take i).length = i := by rw [List.length_take, hNl]; omega
          have e0 : ∀ (A D : List Value) (o : Nat), splice A o D = (A.take o ++ D) ++ A.drop (o + D.length) := fun A D o => (List.append_assoc _ _ _).symm
          have e2 : (splice N i [Value.int .i64 x]).take (i + 1) = (l.map (Value.int .i64)).take i ++ [.int .i64 x] := by
            rw [e0, List.take_append_of_le_length (by rw [List.length_append, hNi]; simp), List.take_of_length_le (by rw [List.length_append, hNi]; simp), e1]
          have hLi : ((l.map (Value.int .i64)).take i).length = i := by rw [List.length_take, List.length_map]; omega
          rw [e0 (splice N i [Value.int .i64 x]), e2, List.take_append_of_le_length (by rw [List.length_append, List.length_append, hLi, hd]; simp; omega), List.take_of_length_le (by rw [List.length_append, List.length_append, hLi, hd]; simp; omega), List.map_append, List.map_cons, List.map_take, List.map_drop]
          simp
        have hr := row_made (D := l.take i ++ x :: l.drop i) q2 (by rw [hDl]; exact htk) (by rw [hDl, hlen]; omega) (by rw [hlen]; exact hGw.2)
        refine ⟨⟨some ⟨w.heap.size, 0, none⟩, l.length + 1, G⟩, rfl, ?_, ?_, fun b hb => .inr ?_⟩
        · rw [hlen, hDl] at hr
          exact hr
        · exact Touch.sets (Touch.drew (Touch.sets ((Touch.refl _ w).alloc _).drew _ (fun h => absurd h (Nat.lt_irrefl _)) _ _)) _ (fun h => absurd h (Nat.lt_irrefl _)) _ _
        · obtain rfl : w.heap.size = b := by injection hb
          exact Nat.le_refl _
end Go.Proofs.Ytplllaafllcigaa
