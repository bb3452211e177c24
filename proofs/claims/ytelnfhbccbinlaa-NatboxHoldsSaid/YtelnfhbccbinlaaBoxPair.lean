/- pair: two boxes, each with somebody inside that asked a third. -/
import Derived.Test.YtelnfhbccbinlaaBoxTwo
namespace Go.Proofs.Ytelnfhbccbinlaa
open Go.Sort Go.RowKit Go.BigFrame
set_option linter.unusedVariables false
set_option linter.unusedSimpArgs false

def xOne (m s : Int) : List Pb := (outP m 100 8 0 s 7 500 5 []).2
theorem three {m : Int} (h : rightT m 0 = true) : m = 0 ∨ m = 1 ∨ m = 2 := by
  unfold rightT kiB at h
  simp at h; omega
theorem one_out {m : Int} (h : m = 0 ∨ m = 1 ∨ m = 2) : (outP m 100 8 0 10 7 500 5 [] = (0, xOne m 10) ∧ poAt (xOne m 10) 0 = 20000) ∧ (outP m 100 8 0 20 7 500 5 [] = (0, xOne m 20) ∧ poAt (xOne m 20) 0 = 20000) := by
  rcases h with rfl | rfl | rfl
  · exact ⟨⟨by kernel_rfl, by kernel_rfl⟩, ⟨by kernel_rfl, by kernel_rfl⟩⟩
  · exact ⟨⟨by kernel_rfl, by kernel_rfl⟩, ⟨by kernel_rfl, by kernel_rfl⟩⟩
  · exact ⟨⟨by kernel_rfl, by kernel_rfl⟩, ⟨by kernel_rfl, by kernel_rfl⟩⟩
theorem T2.low {B B' gx gy : Nat} {rs rs' : List Nat} {X Y : Bx} {w : World} (h : T2 B' rs' gx gy X Y w) (hB : B ≤ B') (hr : ∀ k, k ∈ rs → k < B') : T2 B rs gx gy X Y w := by
  obtain ⟨hb, hr', S1, S2, h1, h2⟩ := h
  have l1 := h1.out
  have l2 := h2.out
  obtain ⟨v1, L1, a1, b1, _⟩ := h1
  obtain ⟨v2, L2, a2, b2, _⟩ := h2
  refine ⟨Nat.le_trans hB hb, fun k hk => Nat.lt_of_lt_of_le (hr k hk) hb, S1, S2, ⟨v1, L1, a1, b1, fun k hk => ?_⟩, ⟨v2, L2, a2, b2, fun k hk => ?_⟩⟩
  · obtain ⟨c1, c2, c3⟩ := l1 k hk
    refine ⟨Nat.le_trans hB c1, c2, fun e => e.elim (fun e => ?_) (fun e => c3 (.inr e))⟩
    have := hr k e; omega
  · obtain ⟨c1, c2, c3⟩ := l2 k hk
    refine ⟨Nat.le_trans hB c1, c2, fun e => e.elim (fun e => ?_) (fun e => c3 (.inr e))⟩
    have := hr k e; omega
def PairPost (B : Nat) (rs : List Nat) (m f n g : Int) (w : World) (e : Ending) (w' : World) : Prop :=
  ∃ gx gy, e = .returned (.tuple #[.pointer (some ⟨gx, 0, none⟩), .pointer (some ⟨gy, 0, none⟩), .agg #[.int .u32 1001, .int .u16 20000], .agg #[.int .u32 1002, .int .u16 20000]]) ∧ T2 B rs gx gy ⟨m, f, 1001, 100, 8, xOne m 10⟩ ⟨n, g, 1002, 100, 8, xOne n 20⟩ w' ∧ Below w.heap.size w w'
theorem badN_pair {m f ip : Int} (h : rightT m f = true) (hip : ip = 1001 ∨ ip = 1002) : badN m f ip 100 ((8 : Nat) : Int) = false := by
  unfold badN; rw [h]; rcases hip with rfl | rfl <;> rfl
set_option maxHeartbeats 6400000 in
set_option maxRecDepth 100000 in
theorem pair_any {B : Nat} {rs : List Nat} {m f n g : Int} {w : World} (h1 : rightT m f = true) (h2 : rightT n g = true) (hm : m = 0 ∨ m = 1 ∨ m = 2) (hn : n = 0 ∨ n = 1 ∨ n = 2) (hB : B ≤ w.heap.size) (hr : ∀ k, k ∈ rs → k < w.heap.size) :
    Calls Try.prog 25 #[.agg #[.int .i64 m, .int .i64 f], .agg #[.int .i64 n, .int .i64 g]] w (PairPost B rs m f n g w) := by
  have HI : Hid (Below w.heap.size w ((((w.alloc (.cells #[.int .i64 m, .int .i64 f] 23)).alloc (.cells #[.int .i64 n, .int .i64 g] 23)).alloc (.cells #[.int .u32 0, .int .u16 0] 38)).alloc (.cells #[.int .u32 0, .int .u16 0] 38))) := by show Below _ _ _; (repeat (first | with_reducible exact Below.refl _ _ | with_reducible refine Below.drew ?_ | with_reducible refine below_drewN ?_ _ | with_reducible refine Below.alloc ?_ (by first | omega | (simp; done) | (simp; omega)) _ | with_reducible refine Below.setCell ?_ (by first | omega | (simp; done) | (simp; omega)) _))
  have HX : Hid (Cs w.heap.size [.int .i64 m, .int .i64 f] ((((w.alloc (.cells #[.int .i64 m, .int .i64 f] 23)).alloc (.cells #[.int .i64 n, .int .i64 g] 23)).alloc (.cells #[.int .u32 0, .int .u16 0] 38)).alloc (.cells #[.int .u32 0, .int .u16 0] 38))) := (((Cs.new w [.int .i64 m, .int .i64 f] 23).alloc _).alloc _).alloc _
  have HY : Hid (Cs (w.heap.size + 1) [.int .i64 n, .int .i64 g] ((((w.alloc (.cells #[.int .i64 m, .int .i64 f] 23)).alloc (.cells #[.int .i64 n, .int .i64 g] 23)).alloc (.cells #[.int .u32 0, .int .u16 0] 38)).alloc (.cells #[.int .u32 0, .int .u16 0] 38))) := by
    have h1 := Cs.new (w.alloc (.cells #[.int .i64 m, .int .i64 f] 23)) [.int .i64 n, .int .i64 g] 23
    simp only [World.size_alloc] at h1
    exact (h1.alloc _).alloc _
  have HZ : Hid (Cs (w.heap.size + 1 + 1) [.int .u32 0, .int .u16 0] ((((w.alloc (.cells #[.int .i64 m, .int .i64 f] 23)).alloc (.cells #[.int .i64 n, .int .i64 g] 23)).alloc (.cells #[.int .u32 0, .int .u16 0] 38)).alloc (.cells #[.int .u32 0, .int .u16 0] 38))) := by
    have h1 := Cs.new ((w.alloc (.cells #[.int .i64 m, .int .i64 f] 23)).alloc (.cells #[.int .i64 n, .int .i64 g] 23)) [.int .u32 0, .int .u16 0] 38
    simp only [World.size_alloc] at h1
    exact h1.alloc _
  have HV : Hid (Cs (w.heap.size + 1 + 1 + 1) [.int .u32 0, .int .u16 0] ((((w.alloc (.cells #[.int .i64 m, .int .i64 f] 23)).alloc (.cells #[.int .i64 n, .int .i64 g] 23)).alloc (.cells #[.int .u32 0, .int .u16 0] 38)).alloc (.cells #[.int .u32 0, .int .u16 0] 38))) := by
    have h1 := Cs.new (((w.alloc (.cells #[.int .i64 m, .int .i64 f] 23)).alloc (.cells #[.int .i64 n, .int .i64 g] 23)).alloc (.cells #[.int .u32 0, .int .u16 0] 38)) [.int .u32 0, .int .u16 0] 38
    simp only [World.size_alloc] at h1
    exact h1
  have HHB := Lib.hid hB
  have HHR : Hid (∀ k, k ∈ [w.heap.size + 1 + 1 + 1, w.heap.size + 1 + 1, w.heap.size + 1] → k < w.heap.size + 1 + 1 + 1 + 1) := fun k hk => by
    simp only [List.mem_cons, List.not_mem_nil, or_false] at hk
    omega
  have HRS := Lib.hid hr
  have M1 := Lib.hid (badN_pair h1 (.inl rfl))
  have M2 := Lib.hid (badN_pair h2 (.inr rfl))
  have E1 := Lib.hid (one_out hm).1
  have E2 := Lib.hid (one_out hn).2
  clear hB hr h1 h2 hm hn
  have x0 := HX.out.cell 0 _ rfl
  have x1 := HX.out.cell 1 _ rfl
  generalize hgen : xOne m 10 = l1 at *
  generalize hgen2 : xOne n 20 = l2 at *
  have N1 := newO (m := m) (f := f) (ip := 1001) (hold := 100) (room := 8) (B := w.heap.size) (rs := [w.heap.size + 1 + 1 + 1, w.heap.size + 1 + 1, w.heap.size + 1]) (w := ((((w.alloc (.cells #[.int .i64 m, .int .i64 f] 23)).alloc (.cells #[.int .i64 n, .int .i64 g] 23)).alloc (.cells #[.int .u32 0, .int .u16 0] 38)).alloc (.cells #[.int .u32 0, .int .u16 0] 38))) HI.out.size (by simp only [World.size_alloc]; exact HHR.out) M1.out (by omega)
  go_enter Try.func25, Try.ntmps25
  go_wp2_with fail
  refine N1.mono ?_; rintro e w1 ⟨gx, rfl, hb, b1⟩
  replace HI := Lib.hid (HI.out.trans (b1.mono HI.out.size))
  replace HY := Lib.hid (HY.out.keep b1)
  replace HZ := Lib.hid (HZ.out.keep b1)
  replace HV := Lib.hid (HV.out.keep b1)
  clear x0 x1 HX N1
  have N2 := new2 (m := n) (f := g) (ip := 1002) (hold := 100) (room := 8) hb M2.out (by omega)
  have y0 := HY.out.cell 0 _ rfl
  have y1 := HY.out.cell 1 _ rfl
  have yl := HY.out.lt
  clear hb b1
  go_wp2_with fail
  refine N2.mono ?_; rintro e w2 ⟨gy, rfl, ht, b2⟩
  replace HI := Lib.hid (HI.out.trans (b2.mono HI.out.size))
  replace HZ := Lib.hid ((HZ.out.keep b2).alloc (.cells #[.int .u32 500, .int .u16 5] 38))
  replace HV := Lib.hid ((HV.out.keep b2).alloc (.cells #[.int .u32 500, .int .u16 5] 38))
  have HT := ht.alloc (.cells #[.int .u32 500, .int .u16 5] 38)
  have H3 := Lib.hid (Cs.new w2 [.int .u32 500, .int .u16 5] 38)
  have O1 := out2 HT (si := 10) (sp := 7) (di := 500) (dp := 5) (now := 0) (by kernel_rfl) (by omega) E1.out.1 E1.out.2
  have TI : Hid (Tr w.heap.size [] w (w2.alloc (.cells #[.int .u32 500, .int .u16 5] 38))) := Tr.of_below (HI.out.alloc HI.out.size _)
  clear y0 y1 yl N2 ht b2 HY HI HT
  go_wp2_with fail
  refine O1.mono ?_; rintro e w3 ⟨rfl, ht, t3⟩
  have HT := ht.swap.alloc (.cells #[.int .u32 1001, .int .u16 20000] 38)
  have H4 := Lib.hid ((H3.out.tr t3 (by simp)).alloc (.cells #[.int .u32 1001, .int .u16 20000] 38))
  have HZ2 := Lib.hid ((HZ.out.tr t3 (by simp)).alloc (.cells #[.int .u32 1001, .int .u16 20000] 38))
  have HV2 := Lib.hid ((HV.out.tr t3 (by simp)).alloc (.cells #[.int .u32 1001, .int .u16 20000] 38))
  have HS3 := Lib.hid (HV.out.tr t3 (by simp)).lt
  have HP := Lib.hid (Cs.new w3 [.int .u32 1001, .int .u16 20000] 38)
  have O2 := out2 HT (si := 20) (sp := 7) (di := 500) (dp := 5) (now := 0) (by kernel_rfl) (by omega) E2.out.1 E2.out.2
  have TI2 : Hid (Tr w.heap.size [] w (w3.alloc (.cells #[.int .u32 1001, .int .u16 20000] 38))) := (TI.out.trans t3 (fun k hk => by simp [hk])).trans (rs' := []) (Tr.of_below ((Below.refl _ w3).alloc (Nat.le_refl _) _)) (fun k hk => hk)
  have c0 := H4.out.cell 0 _ rfl
  have c1 := H4.out.cell 1 _ rfl
  have cl := H4.out.lt
  clear O1 ht t3 HT H3 HZ HV TI
  go_wp2_with fail
  refine O2.mono ?_; rintro e w4 ⟨rfl, ht, t4⟩
  have HT := Lib.hid (ht.swap.alloc (.cells #[.int .u32 1002, .int .u16 20000] 38))
  have HZ3 := Lib.hid ((HZ2.out.tr t4 (by simp)).alloc (.cells #[.int .u32 1002, .int .u16 20000] 38))
  have HV3 := Lib.hid ((HV2.out.tr t4 (by simp)).alloc (.cells #[.int .u32 1002, .int .u16 20000] 38))
  have HP3 := Lib.hid ((HP.out.tr t4 (by simp)).alloc (.cells #[.int .u32 1002, .int .u16 20000] 38))
  have HS4 := Lib.hid (HV2.out.tr t4 (by simp)).lt
  have HQ := Lib.hid (Cs.new w4 [.int .u32 1002, .int .u16 20000] 38)
  have TI3 : Hid (Tr w.heap.size [] w (w4.alloc (.cells #[.int .u32 1002, .int .u16 20000] 38))) := (TI2.out.trans t4 (fun k hk => by simp [hk])).trans (rs' := []) (Tr.of_below ((Below.refl _ w4).alloc (Nat.le_refl _) _)) (fun k hk => hk)
  clear O2 ht t4 c0 c1 cl HZ2 HV2 HP TI2 H4
  have hs4 : w.heap.size + 1 + 1 + 1 < w4.heap.size := HS4.out
  have hs3 : w.heap.size + 1 + 1 + 1 < w3.heap.size := HS3.out
  go_wp2_with fail
  have p0 := HP3.out.cell 0 _ rfl
  have p1 := HP3.out.cell 1 _ rfl
  have pl := HP3.out.lt
  have z0 := HZ3.out.cell 0 _ rfl
  have z1 := HZ3.out.cell 1 _ rfl
  have zf0 := HZ3.out.free 0 _ rfl
  have zf1 := HZ3.out.free 1 _ rfl
  have zl := HZ3.out.lt
  have v0 := HV3.out.cell 0 _ rfl
  have v1 := HV3.out.cell 1 _ rfl
  have vf0 := HV3.out.free 0 _ rfl
  have vf1 := HV3.out.free 1 _ rfl
  have vl := HV3.out.lt
  have q0 := HQ.out.cell 0 _ rfl
  have q1 := HQ.out.cell 1 _ rfl
  have ql := HQ.out.lt
  have HRES := Lib.hid (show xOne m 10 = l1 from hgen)
  have HRES2 := Lib.hid (show xOne n 20 = l2 from hgen2)
  clear hgen hgen2
  generalize (w4.alloc (.cells #[.int .u32 1002, .int .u16 20000] 38)) = w5 at *
  go_region
  all_goals go_wp2_with fail
  all_goals
    refine bodyPost_ret (v := .tuple #[.pointer (some ⟨gx, 0, none⟩), .pointer (some ⟨gy, 0, none⟩), .agg #[.int .u32 1001, .int .u16 20000], .agg #[.int .u32 1002, .int .u16 20000]]) (by simp [results, Try.results25, go_sem, *]) rfl ?_
    refine ⟨gx, gy, rfl, ?_, ?_⟩
    · have h := (((((HT.out.set (p := ⟨w.heap.size + 1 + 1, 0, none⟩) (by simp) (.int .u32 1001)).set (p := ⟨w.heap.size + 1 + 1, 1, none⟩) (by simp) (.int .u16 20000)).set (p := ⟨w.heap.size + 1 + 1 + 1, 0, none⟩) (by simp) (.int .u32 1002)).set (p := ⟨w.heap.size + 1 + 1 + 1, 1, none⟩) (by simp) (.int .u16 20000)).keep ((Below.refl _ _).drew)).low (rs := rs) HHB.out HRS.out
      rw [HRES.out, HRES2.out]
      exact h
    · have hb := TI3.out.below (Nat.le_refl _)
      have hlt := hs3
      exact ((((hb.setCell (by simp; omega) _).setCell (by simp; omega) _).setCell (by simp; omega) _).setCell (by simp; omega) _).drew
end Go.Proofs.Ytelnfhbccbinlaa
