/- The program's bag: Take, Drop. -/
import Derived.Test.YtdpgmdkclaahdaaBgBagDel
namespace Go.Proofs.Ytdpgmdkclaahdaa.Bg
open Go.Sort Go.RowKit Go.BigFrame
set_option linter.unusedVariables false
set_option linter.unusedSimpArgs false

theorem Aft.fin {k : Bool} {g room z : Nat} {v : Sl} {L' : List Pi} {w w2 w' w'' : World} (hb : Below w.heap.size w w2) (h : Aft k g room v L' w2 w') (hz : w.heap.size ≤ z) (hz2 : z < w2.heap.size) (hv : ∀ b, OwnS g v b → b < w.heap.size)
    (ht : Touch (fun b => b = z) w' w'') : Aft k g room v L' w w'' := by
  obtain ⟨v', h1, h2, h3⟩ := h
  have hne : ∀ b, OwnS g v' b → ¬ b = z := fun b hb2 e => by
    rcases h3 b hb2 with h4 | h4
    · have := hv b h4; omega
    · omega
  refine ⟨v', h1.touch ht hne, ((Touch.of_below (OwnS g v) hb).trans h2 (fun _ _ h => h)).trans ht (fun b hb2 e => ?_), fun b hb2 => (h3 b hb2).imp id (fun h => Nat.le_trans hb.size h)⟩
  omega
theorem pick_cases (now pick : Int) (L : List Pi) : (∃ e, pickE now pick L = (0, e) ∧ ¬ e = 0 ∧ (e = 1 ∨ e = 5)) ∨ ∃ j, pickE now pick L = (j, 0) := by
  unfold pickE
  split
  · exact .inl ⟨1, rfl, by omega, .inl rfl⟩
  · split
    · exact .inl ⟨5, rfl, by omega, .inr rfl⟩
    · exact .inr ⟨_, rfl⟩
def TakePost (k : Bool) (g room : Nat) (v : Sl) (now pick : Int) (L : List Pi) (w : World) (e : Ending) (w' : World) : Prop :=
  e = .returned (.tuple #[.agg #[.int .u32 (takeX now pick L).fi, .int .u16 (takeX now pick L).fp, .int .u32 (takeX now pick L).ti, .int .u16 (takeX now pick L).tp, .string (takeX now pick L).b, .int .u64 (takeX now pick L).t], .int .i64 (pickE now pick L).2]) ∧ Aft k g room v (takeL now pick L) w w'
theorem take_bad {now pick : Int} {L : List Pi} {e : Int} (h : pickE now pick L = (0, e)) (he : ¬ e = 0) : takeX now pick L = zI ∧ takeL now pick L = L := by
  unfold takeX takeL; rw [h]; exact ⟨if_neg he, if_neg he⟩
theorem take_good {now pick : Int} {L : List Pi} {j : Nat} (h : pickE now pick L = (j, 0)) : ∃ hj : j < L.length, takeX now pick L = L[j] ∧ takeL now pick L = L.eraseIdx j := by
  have hj := pick_lt h
  refine ⟨hj, ?_, ?_⟩
  · unfold takeX; rw [h]; simp [hj]
  · unfold takeL; rw [h]; rfl
set_option maxHeartbeats 3200000 in
set_option maxRecDepth 100000 in
theorem take_any (now pick : Int) (hp : pick ≤ 9223372036854775807) (g room : Nat) (v : Sl) (L : List Pi) (w : World) (h : Bs true g room v L w) :
    Calls Try.prog 29 #[.pointer (some ⟨g, 0, none⟩), .int .u64 now, .int .i64 pick] w (TakePost true g room v now pick L w) := by
  have hB : Hid (Below w.heap.size w (w.alloc (.cells #[.int .u32 0, .int .u16 0, .int .u32 0, .int .u16 0, .string ⟨#[]⟩, .int .u64 0] 75))) := (Below.refl _ w).alloc (Nat.le_refl _) _
  have X := Lib.hid (Cs.new w [.int .u32 0, .int .u16 0, .int .u32 0, .int .u16 0, .string ⟨#[]⟩, .int .u64 0] 75)
  have h0 := h.keep hB.out
  have F := find_any now pick hp g room v L _ h0
  have HLT := Lib.hid h.lt
  unfold TakePost
  rcases pick_cases now pick L with ⟨e1, hq, he, he15⟩ | ⟨j, hq⟩
  · obtain ⟨q1, q2⟩ := take_bad hq he
    unfold FindPost at F
    rw [q1, q2, hq]
    rw [hq] at F
    have he2 : (e1 == 0) = false := by rw [beq_eq_false_iff_ne]; exact he
    have HH := Lib.hid h
    clear h h0 q1 q2 hq he he15
    go_enter Try.func29, Try.ntmps29
    go_wp2_with fail
    refine F.mono ?_; rintro e w1 ⟨rfl, b1⟩
    have HB1 := Lib.hid (hB.out.trans (b1.mono hB.out.size))
    have X1 := X.out.keep b1
    have x0 := X1.cell 0 _ rfl
    have x1 := X1.cell 1 _ rfl
    have x2 := X1.cell 2 _ rfl
    have x3 := X1.cell 3 _ rfl
    have x4 := X1.cell 4 _ rfl
    have x5 := X1.cell 5 _ rfl
    have xf := fun i v hv => X1.free i v hv
    have y0 := xf 0 _ rfl
    have y1 := xf 1 _ rfl
    have y2 := xf 2 _ rfl
    have y3 := xf 3 _ rfl
    have y4 := xf 4 _ rfl
    have y5 := xf 5 _ rfl
    have xl := X1.lt
    clear xf X1 F b1
    go_wp2_with fail
    refine bodyPost_ret (v := (.tuple #[.agg #[.int .u32 0, .int .u16 0, .int .u32 0, .int .u16 0, .string ⟨#[]⟩, .int .u64 0], .int .i64 e1])) (by simp [results, Try.results29, go_sem, *]) rfl ?_
    refine ⟨rfl, ?_⟩
    have ht : Touch (fun b => b = w.heap.size) w1 (w1.setCells w.heap.size 0 (ci zI)) := Touch.sets (F := fun b => b = w.heap.size) (Touch.refl _ w1) w.heap.size (fun _ => rfl) _ _
    exact Aft.fin (w2 := w1) HB1.out ((HH.out.keep HB1.out).same (Below.refl _ _)) (Nat.le_refl _) xl HLT.out ht
  · obtain ⟨hj, q1, q2⟩ := take_good hq
    unfold FindPost at F
    rw [q1, q2, hq]
    rw [hq] at F
    have hl := h.len
    have hr2 := h.r2
    have hn := h.n
    obtain ⟨av, n, c⟩ := v
    simp only at hn
    subst hn
    have HH := Lib.hid h
    have hjl : (j : Int) < L.length := by omega
    have hj0 : (0 : Int) ≤ j := by omega
    have hl2 : (L.length : Int) ≤ 256 := by omega
    obtain ⟨gv, rfl⟩ : ∃ gv, av = some ⟨gv, 0, none⟩ := by
      rcases irow_form h.row with ⟨_, rfl⟩ | ⟨gv, _, h1, _⟩
      · simp at hj
      · simp [Sl.v] at h1; exact ⟨gv, h1.1⟩
    have hgv : gv < w.heap.size := h.lt gv (.inr rfl)
    have hgg : ¬ gv = g := fun e => h.ne (by rw [← e]; rfl)
    have hgl := h.box.lt
    have hx : L[j]? = some L[j] := List.getElem?_eq_getElem hj
    clear h h0 q1 q2 hq
    generalize L[j] = y at *
    obtain ⟨y1, y2, y3, y4, y5, y6⟩ := y
    go_enter Try.func29, Try.ntmps29
    go_wp2_with fail
    refine F.mono ?_; rintro e w1 ⟨rfl, b1⟩
    have HB1 := Lib.hid (hB.out.trans (b1.mono hB.out.size))
    have H1 := HH.out.keep HB1.out
    have X1 := Lib.hid (X.out.keep b1)
    have g1 := H1.box.cell 1 _ rfl
    have gl := H1.box.lt
    obtain ⟨b, off, hbo, hbl, hcc⟩ := H1.rd (by omega)
    simp only [Option.some.injEq, Addr.mk.injEq, and_true] at hbo
    obtain ⟨rfl, rfl⟩ := hbo
    have c0 := hcc j _ hx 0 _ rfl
    have c1 := hcc j _ hx 1 _ rfl
    have c2 := hcc j _ hx 2 _ rfl
    have c3 := hcc j _ hx 3 _ rfl
    have c4 := hcc j _ hx 4 _ rfl
    have c5 := hcc j _ hx 5 _ rfl
    have HH1 := Lib.hid H1
    simp only [Nat.add_zero, Nat.zero_add] at c0 c1 c2 c3 c4 c5
    have D := delI_any gv c j L hj (by omega) (w1.alloc (.cells #[.int .u32 y1, .int .u16 y2, .int .u32 y3, .int .u16 y4, .string y5, .int .u64 y6] 75)) (H1.keep ((Below.refl _ w1).alloc (Nat.le_refl _) _)).row
    have Y := Lib.hid (Cs.new w1 [.int .u32 y1, .int .u16 y2, .int .u32 y3, .int .u16 y4, .string y5, .int .u64 y6] 75)
    clear hcc hx H1 F b1
    go_wp2_with fail
    refine D.mono ?_; rintro e w2 ⟨rfl, hr2', ht2⟩
    have hs1 := HB1.out.size
    have HB2 := Lib.hid (HB1.out.alloc HB1.out.size (.cells #[.int .u32 y1, .int .u16 y2, .int .u32 y3, .int .u16 y4, .string y5, .int .u64 y6] 75))
    have HH2 := Lib.hid (HH1.out.keep ((Below.refl _ w1).alloc (Nat.le_refl _) (.cells #[.int .u32 y1, .int .u16 y2, .int .u32 y3, .int .u16 y4, .string y5, .int .u64 y6] 75)))
    have X2 := (X1.out.alloc (.cells #[.int .u32 y1, .int .u16 y2, .int .u32 y3, .int .u16 y4, .string y5, .int .u64 y6] 75)).touch ht2 (fun e => by have e2 : gv = w.heap.size := Option.some.inj e; omega)
    have Y2 := Y.out.touch ht2 (fun e => by have e2 : gv = w1.heap.size := Option.some.inj e; omega)
    have G2 := HH2.out.box.touch ht2 (fun e => by have e2 : gv = g := Option.some.inj e; omega)
    have AF := Lib.hid (HH2.out.put (v' := ⟨some ⟨gv, 0, none⟩, L.length - 1, c⟩) hr2' ht2 (fun b hb => .inl (own_eq hb)) (by rw [length_erase hj]; omega) (erase_ok HH2.out.ok))
    clear c0 c1 c2 c3 c4 c5 g1 gl
    have g1 := G2.cell 1 _ rfl
    have gf := G2.free 1 _ rfl
    have gl := G2.lt
    have x0 := X2.cell 0 _ rfl
    have x1 := X2.cell 1 _ rfl
    have x2 := X2.cell 2 _ rfl
    have x3 := X2.cell 3 _ rfl
    have x4 := X2.cell 4 _ rfl
    have x5 := X2.cell 5 _ rfl
    have xf0 := X2.free 0 _ rfl
    have xf1 := X2.free 1 _ rfl
    have xf2 := X2.free 2 _ rfl
    have xf3 := X2.free 3 _ rfl
    have xf4 := X2.free 4 _ rfl
    have xf5 := X2.free 5 _ rfl
    have xl := X2.lt
    have z0 := Y2.cell 0 _ rfl
    have z1 := Y2.cell 1 _ rfl
    have z2 := Y2.cell 2 _ rfl
    have z3 := Y2.cell 3 _ rfl
    have z4 := Y2.cell 4 _ rfl
    have z5 := Y2.cell 5 _ rfl
    have yl := Y2.lt
    have n1 : ¬ g = w.heap.size := by omega
    have n2 : ¬ g = w1.heap.size := by omega
    have n3 : ¬ w.heap.size = w1.heap.size := by have := X1.out.lt; omega
    clear D X2 Y2 G2 hr2' ht2
    go_wp2_with fail
    refine bodyPost_ret (v := (.tuple #[.agg #[.int .u32 y1, .int .u16 y2, .int .u32 y3, .int .u16 y4, .string y5, .int .u64 y6], .int .i64 0])) (by simp [results, Try.results29, go_sem, *]) rfl ?_
    refine ⟨rfl, ?_⟩
    have ht := Touch.sets (F := fun b => b = w.heap.size) (Touch.refl _ (w2.setCell ⟨g, 1, none⟩ (.slice (some ⟨gv, 0, none⟩) (L.length - 1) c))) w.heap.size (fun _ => rfl) (ci ⟨y1, y2, y3, y4, y5, y6⟩) 0
    exact Aft.fin HB2.out AF.out (Nat.le_refl _) (by have := X1.out.lt; simp; omega) HLT.out ht
def dropPost (k : Bool) (g room : Nat) (v : Sl) (pick : Int) (L : List Pi) (w : World) (e : Ending) (w' : World) : Prop := TakePost k g room v 18446744073709551615 pick L w e w'
set_option maxHeartbeats 3200000 in
set_option maxRecDepth 100000 in
theorem drop_any (pick : Int) (hp : pick ≤ 9223372036854775807) (g room : Nat) (v : Sl) (L : List Pi) (w : World) (h : Bs true g room v L w) :
    Calls Try.prog 31 #[.pointer (some ⟨g, 0, none⟩), .int .i64 pick] w (dropPost true g room v pick L w) := by
  have hB : Hid (Below w.heap.size w (w.alloc (.cells #[.int .u32 0, .int .u16 0, .int .u32 0, .int .u16 0, .string ⟨#[]⟩, .int .u64 0] 75))) := (Below.refl _ w).alloc (Nat.le_refl _) _
  have X := Lib.hid (Cs.new w [.int .u32 0, .int .u16 0, .int .u32 0, .int .u16 0, .string ⟨#[]⟩, .int .u64 0] 75)
  have F := take_any 18446744073709551615 pick hp g room v L _ (h.keep hB.out)
  have HLT := Lib.hid h.lt
  unfold dropPost
  unfold TakePost at F ⊢
  generalize takeX 18446744073709551615 pick L = y at *
  obtain ⟨y1, y2, y3, y4, y5, y6⟩ := y
  generalize (pickE 18446744073709551615 pick L).2 = er at *
  generalize takeL 18446744073709551615 pick L = L2 at *
  simp only at F
  clear h
  go_enter Try.func31, Try.ntmps31
  go_wp2_with fail
  refine F.mono ?_; rintro e w1 ⟨rfl, hA⟩
  have X1 : Cs w.heap.size [.int .u32 0, .int .u16 0, .int .u32 0, .int .u16 0, .string ⟨#[]⟩, .int .u64 0] w1 := X.out.touch hA.choose_spec.2.1 (fun hk => Nat.lt_irrefl _ (HLT.out _ hk))
  have x0 := X1.cell 0 _ rfl
  have x1 := X1.cell 1 _ rfl
  have x2 := X1.cell 2 _ rfl
  have x3 := X1.cell 3 _ rfl
  have x4 := X1.cell 4 _ rfl
  have x5 := X1.cell 5 _ rfl
  have xf0 := X1.free 0 _ rfl
  have xf1 := X1.free 1 _ rfl
  have xf2 := X1.free 2 _ rfl
  have xf3 := X1.free 3 _ rfl
  have xf4 := X1.free 4 _ rfl
  have xf5 := X1.free 5 _ rfl
  have xl := X1.lt
  have HA := Lib.hid hA
  clear X1 F hA
  go_wp2_with fail
  refine bodyPost_ret (v := (.tuple #[.agg #[.int .u32 y1, .int .u16 y2, .int .u32 y3, .int .u16 y4, .string y5, .int .u64 y6], .int .i64 er])) (by simp [results, Try.results31, go_sem, *]) rfl ?_
  refine ⟨rfl, ?_⟩
  have ht := Touch.sets (F := fun b => b = w.heap.size) (Touch.refl _ w1) w.heap.size (fun _ => rfl) (ci ⟨y1, y2, y3, y4, y5, y6⟩) 0
  exact Aft.fin hB.out HA.out (Nat.le_refl _) (by simp) HLT.out ht
end Go.Proofs.Ytdpgmdkclaahdaa.Bg