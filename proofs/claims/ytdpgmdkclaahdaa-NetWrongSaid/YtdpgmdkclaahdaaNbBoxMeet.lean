/- natbox.meet: who was met, of the last sixteen; slices.Delete of the first one. -/
import Derived.Test.YtdpgmdkclaahdaaOwn
import Derived.Test.YtdpgmdkclaahdaaNbBoxOpen
namespace Go.Proofs.Ytdpgmdkclaahdaa.Nb
open Go.Sort Go.RowKit Go.BigFrame
set_option linter.unusedVariables false
set_option linter.unusedSimpArgs false

theorem arow_open {w : World} {g n cap : Nat} {l : List (Int × Int)} (h : ARow w (.slice (some ⟨g, 0, none⟩) n cap) l) : n = l.length ∧ ∃ C, Rw 2 g 28 C w ∧ C.length = cap ∧ C.take l.length = l.map pr ∧ l.length ≤ cap ∧ cap ≤ maxLen := by
  have hn : n = l.length := by
    rcases h.2 with ⟨h1, _⟩ | ⟨_, _, _, h1, _⟩
    · simp at h1
    · simp at h1; exact h1.2.1
  subst hn
  obtain ⟨C, h1, h2, h3, h4, h5, _⟩ := Rw.of_own (by decide) h
  refine ⟨rfl, C, h1, h2, ?_, h3, h4⟩
  exact flatten_inj (z := 2) _ _ (by decide) (fun c hc => h1.all c (List.mem_of_mem_take hc)) (pr_all l) h5
theorem arow_close {w : World} {g : Nat} {C : List (List Value)} {l : List (Int × Int)} (h : Rw 2 g 28 C w) (ht : C.take l.length = l.map pr) (hl : l.length ≤ C.length) (hm : C.length ≤ maxLen) : ARow w (.slice (some ⟨g, 0, none⟩) l.length C.length) l := by
  have := h.own hl hm
  rw [ht] at this
  exact this
theorem arow_form {w : World} {v : Value} {l : List (Int × Int)} (h : ARow w v l) : (v = .slice none 0 0 ∧ l = []) ∨ ∃ g cap, v = .slice (some ⟨g, 0, none⟩) l.length cap ∧ g < w.heap.size := by
  rcases h.2 with ⟨rfl, h0⟩ | ⟨g, cap, cur, rfl, _, hg, _⟩
  · exact .inl ⟨rfl, List.eq_nil_of_length_eq_zero h0⟩
  · refine .inr ⟨g, cap, rfl, ?_⟩
    rcases Nat.lt_or_ge g w.heap.size with h1 | h1
    · exact h1
    · rw [Array.getElem?_eq_none h1] at hg; cases hg
theorem arow_rd {w : World} {a : Option Addr} {n cap : Nat} {l : List (Int × Int)} (h : ARow w (.slice a n cap) l) : RdA w w.heap.size a l := fun hp => by
  rcases arow_form h with ⟨_, rfl⟩ | ⟨g, cap', h1, hlt⟩
  · simp at hp
  · simp only [Value.slice.injEq] at h1
    obtain ⟨rfl, rfl, rfl⟩ := h1
    obtain ⟨_, C, hC, _, ht, _⟩ := arow_open h
    refine ⟨g, 0, rfl, hlt, fun i hi => ?_⟩
    have hx : l[i]? = some l[i] := List.getElem?_eq_getElem hi
    have hc := taken_at ht hx
    have c0 := hC.cell i 0 _ _ hc rfl
    have c1 := hC.cell i 1 _ _ hc rfl
    simp only [Nat.zero_add]
    exact ⟨c0, c1⟩
theorem info_addr : (Try.prog.info? 28).map (fun i => (i.zero, i.size, i.bytes)) = some (some (.agg #[.int .u32 0, .int .u16 0]), 2, 8) := by kernel_rfl
theorem zero_addr : ∀ w, (zeroValue 28).run Try.prog w = .ok (.agg #[.int .u32 0, .int .u16 0]) w := fun w => by kernel_rfl
theorem prs_one (l : List (Int × Int)) : ∀ u ∈ (l.map pr).flatten, u.oneCell' = true := by
  intro u hu
  obtain ⟨c, hc, hu⟩ := List.mem_flatten.1 hu
  obtain ⟨x, _, rfl⟩ := List.mem_map.1 hc
  simp only [pr, List.mem_cons, List.not_mem_nil, or_false] at hu
  rcases hu with rfl | rfl <;> rfl
def DelAPost (g cap : Nat) (l : List (Int × Int)) (w : World) (e : Ending) (w' : World) : Prop :=
  e = .returned (.slice (some ⟨g, 0, none⟩) 15 cap) ∧ ARow w' (.slice (some ⟨g, 0, none⟩) 15 cap) (l.drop 1) ∧ Touch (fun k => (Value.slice (some ⟨g, 0, none⟩) 0 0).ownBlock = some k) w w'
set_option maxHeartbeats 3200000 in
theorem delA_any (g cap : Nat) (l : List (Int × Int)) (hl : l.length = 16) (w : World) (hr : ARow w (.slice (some ⟨g, 0, none⟩) 16 cap) l) :
    Calls Try.prog 77 #[.slice (some ⟨g, 0, none⟩) 16 cap, .int .i64 0, .int .i64 1] w (DelAPost g cap l w) := by
  obtain ⟨-, C, hC, hcap, ht, hlc, hm⟩ := arow_open hr
  obtain ⟨i0, hi0, hz0, hz1, hz2⟩ := info_parts info_addr
  have hd : ((l.drop 1).map pr).length = 15 := by rw [List.length_map, List.length_drop]; omega
  have hf : ((l.drop 1).map pr).flatten.length = 15 * 2 := by rw [flatten_len _ (pr_all _), hd]
  have hC2 : Rw 2 g 28 C w.drew := ⟨hC.all, hC.heap⟩
  have hnews := hC2.sub (p := 1) (by decide) (pr_all (l.drop 1)) (fun i c hc => by
    rw [List.getElem?_map, Option.map_eq_some_iff] at hc
    obtain ⟨x, hx, rfl⟩ := hc
    rw [List.getElem?_drop] at hx
    exact taken_at ht hx)
  have hspare : ∀ j, j < ((l.drop 1).map pr).flatten.length → (w.drew.cell? ⟨g, 0 + 0 * 2 + j, none⟩).isSome = true ∧ w.drew.frozen? ⟨g, 0 + 0 * 2 + j, none⟩ = false := by
    intro j hj
    refine ⟨?_, hC2.free _⟩
    rw [cell_of_row w.drew g _ _ _ (0, 0) hC2.heap, List.getElem?_toArray, List.getElem?_eq_getElem (by rw [flatten_len C hC.all, hcap]; omega)]; rfl
  have hR3 := hC2.store 0 ((l.drop 1).map pr) (pr_all _) (by rw [hd, hcap]; omega)
  have hT3 : Touch (fun k => (Value.slice (some ⟨g, 0, none⟩) 0 0).ownBlock = some k) w (w.drew.setCells g (0 * 2) ((l.drop 1).map pr).flatten) := Touch.sets (F := fun k => (Value.slice (some ⟨g, 0, none⟩) 0 0).ownBlock = some k) ((Touch.refl _ w).drew) g (fun _ => rfl) _ _
  rw [Nat.zero_mul] at hR3 hT3
  have hsp : (splice C 0 ((l.drop 1).map pr)).length = cap := by rw [length_splice _ _ _ (by rw [hd, hcap]; omega)]; exact hcap
  have hst : (splice C 0 ((l.drop 1).map pr)).take 15 = (l.drop 1).map pr := by
    simp only [splice, List.take_zero, List.nil_append]
    rw [List.take_left' hd]
  obtain ⟨w9, hrun, ⟨D, hD, hDl⟩, hg⟩ := run_clear_z (P := Try.prog) (w.drew.setCells g 0 ((l.drop 1).map pr).flatten) 105 28 _ 2 g 15 1 (cap - 15) _ Try.underlying105 zero_addr rfl (by simp [Value.cells, Value.oneCell']) (by decide) hR3 (by rw [hsp]; omega)
  have fin : Hid (ARow w9 (.slice (some ⟨g, 0, none⟩) 15 cap) (l.drop 1)) := by
    have e1 : (splice (splice C 0 ((l.drop 1).map pr)) 15 D).length = cap := by rw [length_splice _ _ _ (by rw [hDl, hsp]; omega)]; exact hsp
    have e2 : (splice (splice C 0 ((l.drop 1).map pr)) 15 D).take 15 = (l.drop 1).map pr := by
      conv => lhs; unfold splice
      rw [List.take_append_of_le_length (by rw [List.length_take]; show 15 ≤ min 15 (splice C 0 ((l.drop 1).map pr)).length; omega), List.take_take, Nat.min_self]
      exact hst
    have hdl : (l.drop 1).length = 15 := by rw [List.length_drop]; omega
    have := arow_close (l := l.drop 1) hD (by rw [hdl]; exact e2) (by rw [hdl, e1]; omega) (by rw [e1]; exact hm)
    rw [e1, hdl] at this
    exact this
  have HT : Hid (Touch (fun k => (Value.slice (some ⟨g, 0, none⟩) 0 0).ownBlock = some k) w w9) := hT3.trans (Touch.of_grown hg (fun k h => h)) (fun _ _ h => h)
  have H0 := Lib.hid hnews
  have H1 := Lib.hid hspare
  have hc16 : (16 : Int) ≤ cap := by omega
  have hm2 : cap ≤ 9223372036854775807 := by unfold maxLen at hm; omega
  have hce : ¬ cap = 1 := by omega
  have hcf : ¬ cap = 15 := by omega
  have HF := Lib.hid hf
  have h2 := hrun
  have HO := Lib.hid (prs_one (l.drop 1))
  generalize ((l.drop 1).map pr).flatten = news at *
  clear hr ht hC hC2 hcap hm hd hR3 hT3 hsp hst hD hDl hg hnews hspare hz0 hz2 hf hl hrun
  go_enter Try.func77, Try.ntmps77
  clear hlc
  go_wp2_with fail
  go_region_law (refine step_append_room rfl (.tmp 22) (.tmp 25) 105 rfl 28 i0 2 Try.underlying105 hi0 hz1 g 0 0 cap (by simp [Act.eval, Act.put]) ⟨g, 2, none⟩ 15 (cap - 1) news (by simp [Act.eval, Act.put]) HF.out H0.out HO.out (by omega) H1.out ?_)
  all_goals simp only [Nat.reduceMul] at h2
  all_goals go_wp2_with fail
  all_goals go_ret
  all_goals exact ⟨rfl, fin.out, HT.out⟩
def meetP (met : List (Int × Int)) (d p : Int) : List (Int × Int) := if bothIn met d p then met else (if met.length = 16 then met.drop 1 else met) ++ [(d, p)]
theorem meetP_len {met : List (Int × Int)} {d p : Int} (h : met.length ≤ 16) : (meetP met d p).length ≤ 16 := by
  unfold meetP
  split
  · exact h
  · split
    · rw [List.length_append, List.length_drop]; simp; omega
    · rw [List.length_append]; simp; omega
def MeetPost (a : Option Addr) (l : List (Int × Int)) (w : World) (e : Ending) (w' : World) : Prop :=
  ∃ v' : Sl, e = .returned (.slice v'.a v'.n v'.c) ∧ ARow w' v'.v l ∧ Touch (fun k => (Value.slice a 0 0).ownBlock = some k) w w' ∧ ∀ k, v'.v.ownBlock = some k → (Value.slice a 0 0).ownBlock = some k ∨ w.heap.size ≤ k
set_option maxHeartbeats 3200000 in
theorem meet_any (a : Option Addr) (cap : Nat) (l : List (Int × Int)) (d p : Int) (hl : l.length ≤ 16) (w : World) (hr : ARow w (.slice a l.length cap) l) :
    Calls Try.prog 61 #[.slice a l.length cap, .agg #[.int .u32 d, .int .u16 p]] w (MeetPost a (meetP l d p) w) := by
  obtain ⟨i0, hi0, hz0, hz1, hz2⟩ := info_parts info_addr
  have X : Hid (Cs w.heap.size [.int .u32 d, .int .u16 p] (w.alloc (.cells #[.int .u32 d, .int .u16 p] 28))) := Cs.new w [.int .u32 d, .int .u16 p] 28
  have B0 : Hid (Below w.heap.size w (w.alloc (.cells #[.int .u32 d, .int .u16 p] 28))) := by show Below _ _ _; (repeat (first | with_reducible exact Below.refl _ _ | with_reducible refine Below.drew ?_ | with_reducible refine below_drewN ?_ _ | with_reducible refine Below.alloc ?_ (by first | omega | (simp; done) | (simp; omega)) _ | with_reducible refine Below.setCell ?_ (by first | omega | (simp; done) | (simp; omega)) _))
  have hf := arow_form hr
  have HR : Hid (ARow (w.alloc (.cells #[.int .u32 d, .int .u16 p] 28)) (.slice a l.length cap) l) := own_touch hr (Touch.of_below (fun _ => False) B0.out) (fun _ _ h => h)
  have I := contains_any a cap l (by omega) d p _ (arow_rd HR.out)
  have HF := Lib.hid hf
  have HLT : Hid (∀ k, (Value.slice a 0 0).ownBlock = some k → k < w.heap.size) := fun k hk => (World.ownsRow.lt hr k (own_eq hk)).2
  have x0 := X.out.cell 0 _ rfl
  have x1 := X.out.cell 1 _ rfl
  clear hr hf
  by_cases hb : bothIn l d p = true
  · rw [hb] at I
    have HM : Hid (meetP l d p = l) := if_pos hb
    clear hb
    go_enter Try.func61, Try.ntmps61
    go_wp2_with fail
    refine I.mono ?_; rintro e w1 ⟨rfl, b1⟩
    have fin := Lib.hid (own_touch HR.out (Touch.of_below (fun _ => False) b1) (fun _ _ h => h))
    have HT : Hid (Touch (fun k => (Value.slice a 0 0).ownBlock = some k) w w1) := Touch.of_below _ (B0.out.trans (b1.mono B0.out.size))
    clear b1 I
    go_wp2_with fail
    go_ret
    exact ⟨⟨a, l.length, cap⟩, rfl, by rw [HM.out]; exact fin.out, HT.out, fun k hk => .inl (own_eq hk)⟩
  · have hb : bothIn l d p = false := by simpa using hb
    rw [hb] at I
    by_cases h16 : l.length = 16
    · have HM : Hid (meetP l d p = l.drop 1 ++ [(d, p)]) := by show meetP l d p = _; unfold meetP; rw [hb, h16]; rfl
      obtain ⟨g, rfl⟩ : ∃ g, a = some ⟨g, 0, none⟩ := by
        rcases HF.out with ⟨_, rfl⟩ | ⟨g, _, h1, _⟩
        · simp at h16
        · simp at h1; exact ⟨g, h1.1⟩
      rw [h16] at HR I ⊢
      clear hb HF
      have HL := Lib.hid h16
      clear h16 hl
      go_enter Try.func61, Try.ntmps61
      go_wp2_with fail
      refine I.mono ?_; rintro e w1 ⟨rfl, b1⟩
      have X1 := X.out.keep b1
      have R1 : ARow w1 _ l := own_touch HR.out (Touch.of_below (fun _ => False) b1) (fun _ _ h => h)
      have D := delA_any g cap l HL.out w1 R1
      have HB1 := Lib.hid (B0.out.trans (b1.mono B0.out.size))
      have hgw : g < w.heap.size := HLT.out g rfl
      have HX1 := Lib.hid X1
      clear I b1 x0 x1 X1 R1
      go_wp2_with fail
      refine D.mono ?_; rintro e w2 ⟨rfl, r2, t2⟩
      have X2 := HX1.out.touch t2 (fun hk => by have e : g = w.heap.size := Option.some.inj hk; omega)
      have x0 := X2.cell 0 _ rfl
      have x1 := X2.cell 1 _ rfl
      have xl := X2.lt
      have R3 : Hid (ARow (w2.alloc (.cells #[.int .u32 d, .int .u16 p] 28)) (.slice (some ⟨g, 0, none⟩) 15 cap) (l.drop 1)) := own_touch r2 ((Touch.refl (fun _ => False) w2).alloc _) (fun _ _ h => h)
      have T2 : Hid (Touch (fun k => (Value.slice (some ⟨g, 0, none⟩) 0 0).ownBlock = some k) w (w2.alloc (.cells #[.int .u32 d, .int .u16 p] 28))) := ((Touch.of_below _ HB1.out).trans t2 (fun _ _ h => h)).alloc _
      have hdl : Hid ((l.drop 1).length = 15) := by have := HL.out; show (l.drop 1).length = 15; rw [List.length_drop]; omega
      have R4 : Hid (World.ownsRow (w2.alloc (.cells #[.int .u32 d, .int .u16 p] 28)) 0 28 2 (.slice (some ⟨g, 0, none⟩) 15 cap) 15 ((l.drop 1).map pr).flatten) := by
        have := R3.out
        unfold ARow at this
        rw [hdl.out] at this
        exact this
      clear r2 t2 D X2 R3
      generalize l.drop 1 = l1 at *
      go_wp2_with (at_builtin; refine wpList_append_lies _ rfl (.tmp 14) (.tmp 16) 105 rfl 0 28 i0 _ 2 8 Try.underlying105 hi0 hz0 hz1 hz2 rfl (by omega) _ 15 (l1.map pr).flatten rfl R4.out ⟨w2.heap.size, 0, none⟩ 1 1 [.int .u32 d, .int .u16 p] rfl rfl (World.news_of_block (cs := #[.int .u32 d, .int .u16 p]) (t := 28) (fr := (0, 0)) (heap_alloc_new _ _)) (by simp [Value.oneCell']) (by omega) (by unfold maxLen; omega) (by omega) (Nat.zero_le _) _ rfl ?_)
      intro g1 cap1 w9 hown hgrow hat hlt9
      have fin : Hid (ARow w9 (.slice (some ⟨g1, 0, none⟩) 16 cap1) (l1 ++ [(d, p)])) := by
        show World.ownsRow _ _ _ _ _ _ _
        rw [List.map_append, List.flatten_append, List.length_append, hdl.out]
        exact hown
      have T : Hid (Touch (fun k => (Value.slice (some ⟨g, 0, none⟩) 0 0).ownBlock = some k) w w9) := T2.out.trans (Touch.of_grown hgrow (fun k hk => own_eq hk)) (fun _ _ h => h)
      have hat := Lib.hid hat
      have hsz := Lib.hid T2.out.size
      clear hown hgrow R4 T2
      go_wp2_with fail
      go_ret
      refine ⟨⟨some ⟨g1, 0, none⟩, 16, cap1⟩, rfl, by rw [HM.out]; exact fin.out, T.out, fun k hk => ?_⟩
      obtain rfl : g1 = k := by injection hk
      rcases hat.out with h | h
      · exact .inl (own_eq h)
      · exact .inr (by have := hsz.out; simp at this; omega)
    · have HM : Hid (meetP l d p = l ++ [(d, p)]) := by show meetP l d p = _; unfold meetP; rw [hb, if_neg (by simp), if_neg h16]
      have h16' : ((l.length : Int) == 16) = false := by rw [beq_eq_false_iff_ne]; omega
      have h16'' : (l.length == 16) = false := by rw [beq_eq_false_iff_ne]; exact h16
      have hl0 : (l.length : Int) ≤ 16 := by omega
      clear hb HF
      go_enter Try.func61, Try.ntmps61
      go_wp2_with fail
      refine I.mono ?_; rintro e w1 ⟨rfl, b1⟩
      have X1 := X.out.keep b1
      have R1 : ARow w1 _ l := own_touch HR.out (Touch.of_below (fun _ => False) b1) (fun _ _ h => h)
      have HB1 := Lib.hid (B0.out.trans (b1.mono B0.out.size))
      clear I b1 x0 x1
      have x0 := X1.cell 0 _ rfl
      have x1 := X1.cell 1 _ rfl
      have xl := X1.lt
      have R4 : Hid (ARow (w1.alloc (.cells #[.int .u32 d, .int .u16 p] 28)) (.slice a l.length cap) l) := own_touch R1 ((Touch.refl (fun _ => False) w1).alloc _) (fun _ _ h => h)
      have T2 : Hid (Touch (fun k => (Value.slice a 0 0).ownBlock = some k) w (w1.alloc (.cells #[.int .u32 d, .int .u16 p] 28))) := (Touch.of_below _ HB1.out).alloc _
      clear X1 R1
      go_wp2_with (at_builtin; refine wpList_append_lies _ rfl (.tmp 14) (.tmp 16) 105 rfl 0 28 i0 _ 2 8 Try.underlying105 hi0 hz0 hz1 hz2 rfl (by omega) _ l.length (l.map pr).flatten rfl R4.out ⟨w1.heap.size, 0, none⟩ 1 1 [.int .u32 d, .int .u16 p] rfl rfl (World.news_of_block (cs := #[.int .u32 d, .int .u16 p]) (t := 28) (fr := (0, 0)) (heap_alloc_new _ _)) (by simp [Value.oneCell']) (by omega) (by unfold maxLen; omega) (by omega) (Nat.zero_le _) _ rfl ?_)
      intro g1 cap1 w9 hown hgrow hat hlt9
      have fin : Hid (ARow w9 (.slice (some ⟨g1, 0, none⟩) (l.length + 1) cap1) (l ++ [(d, p)])) := by
        show World.ownsRow _ _ _ _ _ _ _
        rw [List.map_append, List.flatten_append, List.length_append]
        exact hown
      have T : Hid (Touch (fun k => (Value.slice a 0 0).ownBlock = some k) w w9) := T2.out.trans (Touch.of_grown hgrow (fun k hk => own_eq hk)) (fun _ _ h => h)
      have hat := Lib.hid hat
      have hsz := Lib.hid T2.out.size
      clear hown hgrow R4 T2
      go_wp2_with fail
      go_ret
      refine ⟨⟨some ⟨g1, 0, none⟩, l.length + 1, cap1⟩, rfl, by rw [HM.out]; exact fin.out, T.out, fun k hk => ?_⟩
      obtain rfl : g1 = k := by injection hk
      rcases hat.out with h | h
      · exact .inl (own_eq h)
      · exact .inr (by have := hsz.out; simp at this; omega)
end Go.Proofs.Ytdpgmdkclaahdaa.Nb