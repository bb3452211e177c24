/- The program's bag: Twice, Delay, Items. -/
import Derived.Test.YtdpgmdkclaahdaaBgBagPut
namespace Go.Proofs.Ytdpgmdkclaahdaa.Bg
open Go.Sort Go.RowKit Go.BigFrame
set_option linter.unusedVariables false
set_option linter.unusedSimpArgs false

def TwicePost (k : Bool) (g room : Nat) (v : Sl) (pick : Int) (L : List Pi) (w : World) (e : Ending) (w' : World) : Prop := e = .returned (.int .i64 (twiceE room pick L)) ∧ Aft k g room v (twiceL room pick L) w w'
theorem twice_bad {room : Nat} {pick : Int} {L : List Pi} {e : Int} (h : pickE 18446744073709551615 pick L = (0, e)) (he : ¬ e = 0) : twiceE room pick L = e ∧ twiceL room pick L = L := by
  have h1 : twiceE room pick L = e := by unfold twiceE; rw [h]; exact if_neg he
  exact ⟨h1, by unfold twiceL; rw [h1]; exact if_neg he⟩
theorem twice_full {room : Nat} {pick : Int} {L : List Pi} {j : Nat} (h : pickE 18446744073709551615 pick L = (j, 0)) (hf : L.length = room) : twiceE room pick L = 4 ∧ twiceL room pick L = L := by
  have h1 : twiceE room pick L = 4 := by unfold twiceE; rw [h]; simp [hf]
  exact ⟨h1, by unfold twiceL; rw [h1]; rfl⟩
theorem twice_good {room : Nat} {pick : Int} {L : List Pi} {j : Nat} (h : pickE 18446744073709551615 pick L = (j, 0)) (hf : ¬ L.length = room) (hj : j < L.length) : twiceE room pick L = 0 ∧ twiceL room pick L = L ++ [L[j]] := by
  have h1 : twiceE room pick L = 0 := by unfold twiceE; rw [h]; simp [hf]
  exact ⟨h1, by unfold twiceL; rw [h1, h]; simp [hj]⟩
set_option maxHeartbeats 6400000 in
set_option maxRecDepth 100000 in
theorem twice_any (pick : Int) (hp : pick ≤ 9223372036854775807) (g room : Nat) (v : Sl) (L : List Pi) (w : World) (h : Bs true g room v L w) :
    Calls Try.prog 36 #[.pointer (some ⟨g, 0, none⟩), .int .i64 pick] w (TwicePost true g room v pick L w) := by
  have F := find_any 18446744073709551615 pick hp g room v L w h
  unfold TwicePost
  unfold FindPost at F
  rcases pick_cases 18446744073709551615 pick L with ⟨e1, hq, he, he15⟩ | ⟨j, hq⟩
  · obtain ⟨q1, q2⟩ := twice_bad (room := room) hq he
    rw [q1, q2]
    rw [hq] at F
    have he2 : (e1 == 0) = false := by rw [beq_eq_false_iff_ne]; exact he
    have HH := Lib.hid h
    clear h q1 q2 hq he he15
    go_enter Try.func36, Try.ntmps36
    go_wp2_with fail
    refine F.mono ?_; rintro e w1 ⟨rfl, b1⟩
    have B1 := Lib.hid b1
    clear F b1
    go_wp2_with fail
    go_ret
    exact ⟨rfl, HH.out.same B1.out⟩
  · have hj := pick_lt hq
    have hl := h.len
    have hr2 := h.r2
    have HH := Lib.hid h
    rw [hq] at F
    by_cases hf : L.length = room
    · obtain ⟨q1, q2⟩ := twice_full hq hf
      rw [q1, q2]
      have hfd : decide (L.length = room) = true := decide_eq_true hf
      clear q1 q2 hq h
      go_enter Try.func36, Try.ntmps36
      go_wp2_with fail
      refine F.mono ?_; rintro e w1 ⟨rfl, b1⟩
      have B1 := Lib.hid b1
      have KF := isFull_any g room v L w1 (HH.out.keep b1)
      clear F b1
      go_wp2_with fail
      refine KF.mono ?_; rintro e w2 ⟨rfl, b2⟩
      have B2 := Lib.hid (B1.out.trans (b2.mono B1.out.size))
      clear KF b2
      go_wp2_with fail
      go_ret
      exact ⟨rfl, HH.out.same B2.out⟩
    · obtain ⟨q1, q2⟩ := twice_good hq hf hj
      rw [q1, q2]
      have hfd : decide (L.length = room) = false := decide_eq_false hf
      have hn := h.n
      obtain ⟨av, n, cv⟩ := v
      simp only at hn
      subst hn
      obtain ⟨gv, rfl⟩ : ∃ gv, av = some ⟨gv, 0, none⟩ := by
        rcases irow_form h.row with ⟨_, rfl⟩ | ⟨gv, _, h1, _⟩
        · simp at hj
        · simp [Sl.v] at h1; exact ⟨gv, h1.1⟩
      have hx : L[j]? = some L[j] := List.getElem?_eq_getElem hj
      have HK := Lib.hid (h.ok _ (List.getElem_mem hj))
      have HR1 : Hid (L.length + 1 ≤ room) := by show L.length + 1 ≤ room; omega
      have hjl : (j : Int) < L.length := by omega
      have hj0 : (0 : Int) ≤ j := by omega
      have hl2 : (L.length : Int) ≤ 256 := by omega
      have hl3 : L.length ≤ 256 := by omega
      obtain ⟨i0, hi0, hz0, hz1, hz2⟩ := info_parts info_item
      clear q1 q2 hq h
      generalize L[j] = y at *
      obtain ⟨y1, y2, y3, y4, y5, y6⟩ := y
      have FIN := Lib.hid (fun w6 w9 g1 cap1 => app_fin (k := true) (g := g) (room := room) (v := ⟨some ⟨gv, 0, none⟩, L.length, cv⟩) (L := L) (x := ⟨y1, y2, y3, y4, y5, y6⟩) (w := w) (w6 := w6) (w9 := w9) (g1 := g1) (cap1 := cap1))
      go_enter Try.func36, Try.ntmps36
      go_wp2_with fail
      refine F.mono ?_; rintro e w1 ⟨rfl, b1⟩
      have B1 := Lib.hid b1
      have KF := isFull_any g room _ L w1 (HH.out.keep b1)
      clear F b1
      go_wp2_with fail
      refine KF.mono ?_; rintro e w5 ⟨rfl, b2⟩
      have hw5 := B1.out.trans (b2.mono B1.out.size)
      clear KF b2
      have H5 := HH.out.keep hw5
      have gq := H5.box.cell 1 _ rfl
      have gf := H5.box.free 1 _ rfl
      have gl := H5.box.lt
      obtain ⟨b, off, hbo, hbl, hcc⟩ := H5.rd (by omega)
      simp only [Option.some.injEq, Addr.mk.injEq, and_true] at hbo
      obtain ⟨rfl, rfl⟩ := hbo
      have c0 := hcc j _ hx 0 _ rfl
      have c1 := hcc j _ hx 1 _ rfl
      have c2 := hcc j _ hx 2 _ rfl
      have c3 := hcc j _ hx 3 _ rfl
      have c4 := hcc j _ hx 4 _ rfl
      have c5 := hcc j _ hx 5 _ rfl
      simp only [Nat.add_zero, Nat.zero_add] at c0 c1 c2 c3 c4 c5
      have H7 := Lib.hid (fun o => H5.keep (((Below.refl w5.heap.size w5).alloc (Nat.le_refl _) o).drew))
      have B7 := Lib.hid (fun o => ((hw5.alloc hw5.size o).drew))
      clear H5 hcc hx hw5 B1
      go_wp2_with fail
      go_region_law (first | (refine step_append_lies _ (by rfl) _ _ _ (by rfl) 0 75 i0 _ 6 40 Try.underlying83 hi0 hz0 hz1 hz2 rfl (by omega) (.slice (some ⟨gv, 0, none⟩) L.length cv) L.length (L.map ci).flatten (by rfl) (H7.out _).row ⟨_, 0, none⟩ 1 1 [.int .u32 y1, .int .u16 y2, .int .u32 y3, .int .u16 y4, .string y5, .int .u64 y6] (by rfl) (by rfl) (World.news_of_block (cs := #[.int .u32 y1, .int .u16 y2, .int .u32 y3, .int .u16 y4, .string y5, .int .u64 y6]) (t := 75) (fr := (0, 0)) (heap_alloc_new _ _)) (by simp [Value.oneCell']) (by omega) (by unfold maxLen; omega) (by omega) (Nat.zero_le _) _ rfl ?_; intro g1 cap1 w9 hown hgrow hat hlt9; obtain ⟨af, box9⟩ := FIN.out _ _ _ _ (H7.out _) (B7.out _) hown hgrow hat HR1.out HK.out; have AF := Lib.hid af; clear hown hgrow hat af gq; have gq := box9.cell 1 _ rfl; have gf9 := box9.free 1 _ rfl; have gl9 := box9.lt; clear box9))
      all_goals go_wp2
      all_goals go_ret
      all_goals exact ⟨rfl, AF.out⟩
def DelayPost (k : Bool) (g room : Nat) (v : Sl) (pick by_ : Int) (L : List Pi) (w : World) (e : Ending) (w' : World) : Prop := e = .returned (.int .i64 (pickE 18446744073709551615 pick L).2) ∧ Aft k g room v (delayL pick by_ L) w w'
theorem delay_bad {pick by_ : Int} {L : List Pi} {e : Int} (h : pickE 18446744073709551615 pick L = (0, e)) (he : ¬ e = 0) : delayL pick by_ L = L := by unfold delayL; rw [h]; exact if_neg he
theorem delay_good {pick by_ : Int} {L : List Pi} {j : Nat} (h : pickE 18446744073709551615 pick L = (j, 0)) : delayL pick by_ L = L.modify j (lateI by_) := by unfold delayL; rw [h]; rfl
/-- one item's time is stored -/
theorem Bs.late {k : Bool} {g room gv c j : Nat} {L : List Pi} {w w2 : World} {b : Int} (h : Bs k g room ⟨some ⟨gv, 0, none⟩, L.length, c⟩ L w) (hb : Below w.heap.size w w2) (hj : j < L.length) (hb0 : 0 ≤ b ∧ b ≤ 18446744073709551615) :
    Aft k g room ⟨some ⟨gv, 0, none⟩, L.length, c⟩ (L.modify j (lateI b)) w (w2.setCell ⟨gv, j * 6 + 5, none⟩ (.int .u64 (laterP L[j].t b))) := by
  have h2 := h.keep hb
  obtain ⟨-, C, hC, hcap, ht, hlc, hm⟩ := irow_open h2.row
  have hx : L[j]? = some L[j] := List.getElem?_eq_getElem hj
  have hCj := taken_at ht hx
  have hR := hC.field j 5 _ (.int .u64 (laterP L[j].t b)) hCj (by decide)
  have hset : (ci L[j]).set 5 (.int .u64 (laterP L[j].t b)) = ci (lateI b L[j]) := rfl
  rw [hset] at hR
  have hml : (L.modify j (lateI b)).length = L.length := List.length_modify ..
  have hmap : (L.modify j (lateI b)).map ci = (L.map ci).set j (ci (lateI b L[j])) := by
    apply List.ext_getElem?
    intro i
    rw [List.getElem?_map, List.getElem?_modify, List.getElem?_set, List.getElem?_map]
    by_cases e : j = i
    · subst e; simp [hj]
    · simp [e]
  have hne : ¬ gv = g := fun e => h.ne (by rw [← e]; rfl)
  have hrow : IRow (tI k) (w2.setCell ⟨gv, j * 6 + 5, none⟩ (.int .u64 (laterP L[j].t b))) (.slice (some ⟨gv, 0, none⟩) L.length c) (L.modify j (lateI b)) := by
    have := irow_close (L := L.modify j (lateI b)) hR (by rw [hml, hmap, List.take_set, ht]) (by rw [hml, List.length_set, hcap]; exact hlc) (by rw [List.length_set, hcap]; exact hm)
    rw [hml, List.length_set, hcap] at this
    exact this
  refine ⟨⟨some ⟨gv, 0, none⟩, L.length, c⟩, ⟨?_, hrow, h.ne, h.r1, h.r2, by rw [hml]; exact h.len, mod_ok h.ok hb0⟩, ?_, fun b hb => .inl hb⟩
  · exact h2.box.far _ _ hne
  · exact (Touch.of_below _ hb).set (fun _ => .inr rfl) _
set_option maxHeartbeats 6400000 in
set_option maxRecDepth 100000 in
theorem delay_any (pick by_ : Int) (hp : pick ≤ 9223372036854775807) (hb0 : 0 ≤ by_ ∧ by_ ≤ 18446744073709551615) (g room : Nat) (v : Sl) (L : List Pi) (w : World) (h : Bs true g room v L w) :
    Calls Try.prog 35 #[.pointer (some ⟨g, 0, none⟩), .int .i64 pick, .int .u64 by_] w (DelayPost true g room v pick by_ L w) := by
  have F := find_any 18446744073709551615 pick hp g room v L w h
  unfold DelayPost
  unfold FindPost at F
  rcases pick_cases 18446744073709551615 pick L with ⟨e1, hq, he, he15⟩ | ⟨j, hq⟩
  · rw [delay_bad hq he, hq]
    rw [hq] at F
    have he2 : (e1 == 0) = false := by rw [beq_eq_false_iff_ne]; exact he
    have HH := Lib.hid h
    clear h hq he he15
    go_enter Try.func35, Try.ntmps35
    go_wp2_with fail
    refine F.mono ?_; rintro e w1 ⟨rfl, b1⟩
    have B1 := Lib.hid b1
    clear F b1
    go_wp2_with fail
    go_ret
    exact ⟨rfl, HH.out.same B1.out⟩
  · have hj := pick_lt hq
    have hl := h.len
    have hr2 := h.r2
    rw [delay_good hq, hq]
    rw [hq] at F
    have hn := h.n
    obtain ⟨av, n, cv⟩ := v
    simp only at hn
    subst hn
    have HH := Lib.hid h
    obtain ⟨gv, rfl⟩ : ∃ gv, av = some ⟨gv, 0, none⟩ := by
      rcases irow_form h.row with ⟨_, rfl⟩ | ⟨gv, _, h1, _⟩
      · simp at hj
      · simp [Sl.v] at h1; exact ⟨gv, h1.1⟩
    have hx : L[j]? = some L[j] := List.getElem?_eq_getElem hj
    have hk := h.ok _ (List.getElem_mem hj)
    have KL := later_any L[j].t by_ ⟨hk.t0, hk.t1⟩ hb0
    have FIN := Lib.hid (fun w2 hb => h.late (w2 := w2) hb hj hb0)
    have hjl : (j : Int) < L.length := by omega
    have hj0 : (0 : Int) ≤ j := by omega
    have hl2 : (L.length : Int) ≤ 256 := by omega
    clear hq h hk
    generalize L[j] = y at *
    obtain ⟨y1, y2, y3, y4, y5, y6⟩ := y
    simp only at KL FIN
    generalize laterP y6 by_ = z at *
    go_enter Try.func35, Try.ntmps35
    go_wp2_with fail
    refine F.mono ?_; rintro e w5 ⟨rfl, b1⟩
    have H5 := HH.out.keep b1
    have gq := H5.box.cell 1 _ rfl
    have gl := H5.box.lt
    obtain ⟨b, off, hbo, hbl, hcc⟩ := H5.rd (by omega)
    simp only [Option.some.injEq, Addr.mk.injEq, and_true] at hbo
    obtain ⟨rfl, rfl⟩ := hbo
    have c5 := hcc j _ hx 5 _ rfl
    simp only [Nat.zero_add] at c5
    have f5 : w5.frozen? ⟨gv, j * 6 + 5, none⟩ = false := by
      obtain ⟨-, C, hC, _⟩ := irow_open H5.row
      exact hC.free _
    have B5 := Lib.hid b1.drew
    clear H5 hcc hx b1 F
    go_wp2_with fail
    go_region_law (go_simp; go_at_call 53; refine (KL _).mono ?_; rintro e w9 ⟨rfl, rfl⟩)
    all_goals go_wp2
    all_goals go_ret
    all_goals exact ⟨rfl, FIN.out _ B5.out⟩
end Go.Proofs.Ytdpgmdkclaahdaa.Bg