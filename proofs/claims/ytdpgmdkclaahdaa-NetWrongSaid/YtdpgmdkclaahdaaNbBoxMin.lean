/- slices.MinFunc over bindings: the first that ends soonest. -/
import Derived.Test.YtdpgmdkclaahdaaNbBoxS
namespace Go.Proofs.Ytdpgmdkclaahdaa.Nb
open Go.Sort Go.RowKit Go.BigFrame
set_option linter.unusedVariables false
set_option linter.unusedSimpArgs false

def minB (x : Bd) (L : List Bd) : Bd := L.foldl (fun m y => if y.1.un < m.1.un then y else m) x
def minP (x : Pb) (l : List Pb) : Pb := l.foldl (fun m y => if y.un < m.un then y else m) x
theorem minB_fst : ∀ (L : List Bd) (x : Bd), (minB x L).1 = minP x.1 (L.map (·.1))
  | [], _ => rfl
  | y :: r, x => by
    unfold minB minP
    rw [List.foldl_cons, List.map_cons, List.foldl_cons]
    by_cases h : y.1.un < x.1.un
    · rw [if_pos h, if_pos h]; exact minB_fst r y
    · rw [if_neg h, if_neg h]; exact minB_fst r x
theorem minP_mem : ∀ (l : List Pb) (x : Pb), minP x l ∈ x :: l
  | [], x => by simp [minP]
  | y :: r, x => by
    unfold minP
    rw [List.foldl_cons]
    by_cases h : y.un < x.un
    · rw [if_pos h]; exact List.mem_cons_of_mem _ (minP_mem r y)
    · rw [if_neg h]
      rcases List.mem_cons.1 (minP_mem r x) with h1 | h1
      · exact List.mem_cons.2 (.inl h1)
      · exact List.mem_cons_of_mem _ (List.mem_cons_of_mem _ h1)
theorem minB_take {x : Bd} {L : List Bd} {j : Nat} (h : j < L.length) : minB x (L.take (j + 1)) = if L[j].1.un < (minB x (L.take j)).1.un then L[j] else minB x (L.take j) := by
  unfold minB
  rw [List.take_succ_eq_append_getElem h, List.foldl_append]; rfl
def MinPost (x : Bd) (w : World) (e : Ending) (w' : World) : Prop := e = .returned (.agg #[.int .u32 x.1.ii, .int .u16 x.1.ip, .int .u32 x.1.ki, .int .u16 x.1.kp, .int .u16 x.1.po, .slice x.2.a x.2.n x.2.c, .int .u64 x.1.un]) ∧ Below w.heap.size w w'
def MinJ (w : World) (x : Bd) (L : List Bd) (i : Value) (wr : World) : Prop := ∃ j : Nat, j ≤ L.length ∧ i = .int .i64 ((j + 1 : Nat) : Int) ∧ Rw 7 (w.heap.size + 1) 107 [ch (minB x (L.take j))] wr ∧ Cs w.heap.size [.int .u32 0, .int .u16 0, .int .u32 0, .int .u16 0, .int .u16 0, .slice none 0 0, .int .u64 0] wr ∧ Below w.heap.size w wr
theorem _root_.Go.Proofs.Ytdpgmdkclaahdaa.Cs.of_rw {z g : Nat} {t : TypeId} {c : List Value} {w : World} (h : Rw z g t [c] w) : Cs g c w :=
  ⟨fun i v hv => by have := h.cell 0 i c v rfl hv; simpa using this, fun i v _ => h.free i, h.lt, ⟨_, _, h.heap⟩⟩
set_option maxHeartbeats 3200000 in
theorem minF_any (a : Option Addr) (cap : Nat) (x : Bd) (L : List Bd) (hl : L.length ≤ 1000) (w : World) (hr : RdB w a (x :: L)) :
    Calls Try.prog 80 #[.slice a (L.length + 1) cap, .func (.func 81) #[] #[]] w (MinPost (minB x L) w) := by
  obtain ⟨b, off, rfl, hbl, hcc⟩ := hr (by simp)
  have Hcc := Lib.hid hcc
  clear hcc
  have hx0 : (x :: L)[0]? = some x := rfl
  have c0 := Hcc.out 0 x hx0 0 _ rfl
  have c1 := Hcc.out 0 x hx0 1 _ rfl
  have c2 := Hcc.out 0 x hx0 2 _ rfl
  have c3 := Hcc.out 0 x hx0 3 _ rfl
  have c4 := Hcc.out 0 x hx0 4 _ rfl
  have c5 := Hcc.out 0 x hx0 5 _ rfl
  have c6 := Hcc.out 0 x hx0 6 _ rfl
  simp only [Nat.zero_mul, Nat.add_zero] at c0 c1 c2 c3 c4 c5 c6
  have R0 : Hid (Rw 7 (w.heap.size + 1) 107 [ch x] ((w.alloc (.cells #[.int .u32 0, .int .u16 0, .int .u32 0, .int .u16 0, .int .u16 0, .slice none 0 0, .int .u64 0] 107)).alloc (.cells #[.int .u32 x.1.ii, .int .u16 x.1.ip, .int .u32 x.1.ki, .int .u16 x.1.kp, .int .u16 x.1.po, .slice x.2.a x.2.n x.2.c, .int .u64 x.1.un] 107))) := by
    refine ⟨by simp [ch], ?_⟩
    have := heap_alloc_new (w.alloc (.cells #[.int .u32 0, .int .u16 0, .int .u32 0, .int .u16 0, .int .u16 0, .slice none 0 0, .int .u64 0] 107)) (.cells #[.int .u32 x.1.ii, .int .u16 x.1.ip, .int .u32 x.1.ki, .int .u16 x.1.kp, .int .u16 x.1.po, .slice x.2.a x.2.n x.2.c, .int .u64 x.1.un] 107)
    rw [World.size_alloc] at this
    rw [this]; rfl
  have X0 : Hid (Cs w.heap.size [.int .u32 0, .int .u16 0, .int .u32 0, .int .u16 0, .int .u16 0, .slice none 0 0, .int .u64 0] ((w.alloc (.cells #[.int .u32 0, .int .u16 0, .int .u32 0, .int .u16 0, .int .u16 0, .slice none 0 0, .int .u64 0] 107)).alloc (.cells #[.int .u32 x.1.ii, .int .u16 x.1.ip, .int .u32 x.1.ki, .int .u16 x.1.kp, .int .u16 x.1.po, .slice x.2.a x.2.n x.2.c, .int .u64 x.1.un] 107))) :=
    (Cs.new w [.int .u32 0, .int .u16 0, .int .u32 0, .int .u16 0, .int .u16 0, .slice none 0 0, .int .u64 0] 107).alloc _
  have B0 : Hid (Below w.heap.size w ((w.alloc (.cells #[.int .u32 0, .int .u16 0, .int .u32 0, .int .u16 0, .int .u16 0, .slice none 0 0, .int .u64 0] 107)).alloc (.cells #[.int .u32 x.1.ii, .int .u16 x.1.ip, .int .u32 x.1.ki, .int .u16 x.1.kp, .int .u16 x.1.po, .slice x.2.a x.2.n x.2.c, .int .u64 x.1.un] 107))) := by show Below _ _ _; (repeat (first | with_reducible exact Below.refl _ _ | with_reducible refine Below.drew ?_ | with_reducible refine below_drewN ?_ _ | with_reducible refine Below.alloc ?_ (by first | omega | (simp; done) | (simp; omega)) _ | with_reducible refine Below.setCell ?_ (by first | omega | (simp; done) | (simp; omega)) _))
  have hl2 : (L.length : Int) ≤ 1000 := by omega
  obtain ⟨⟨r1, r2, r3, r4, r5, r6, r7⟩, ⟨s1, s2, s3⟩⟩ := x
  simp only at c0 c1 c2 c3 c4 c5 c6
  clear hr hx0
  go_enter Try.func80, Try.ntmps80
  go_wp2_with fail
  go_loopw [6] (fun i wr => MinJ w (⟨r1, r2, r3, r4, r5, r6, r7⟩, ⟨s1, s2, s3⟩) L i wr) (fun i _ => L.length + 1 - (intOf i).toNat)
  case atStart => exact ⟨0, Nat.zero_le _, rfl, R0.out, X0.out, B0.out⟩
  case round =>
    obtain ⟨j, hj, rfl, hR, hX, hB⟩ := hrel
    clear c0 c1 c2 c3 c4 c5 c6 R0 X0 B0
    have hj0 : (0 : Int) ≤ j := by omega
    by_cases hlt : j < L.length
    · have hlt' : (j : Int) < L.length := by omega
      have hx : (((⟨r1, r2, r3, r4, r5, r6, r7⟩, ⟨s1, s2, s3⟩) : Bd) :: L)[j + 1]? = some L[j] := by rw [List.getElem?_cons_succ]; exact List.getElem?_eq_getElem hlt
      have cc := fun k v hv => (hB.cell (p := ⟨b, off + (j + 1) * 7 + k, none⟩) hbl).trans (Hcc.out (j + 1) _ hx k v hv)
      have c0 := cc 0 _ rfl
      have c1 := cc 1 _ rfl
      have c2 := cc 2 _ rfl
      have c3 := cc 3 _ rfl
      have c4 := cc 4 _ rfl
      have c5 := cc 5 _ rfl
      have c6 := cc 6 _ rfl
      have HT := Lib.hid (minB_take (x := (⟨r1, r2, r3, r4, r5, r6, r7⟩, ⟨s1, s2, s3⟩)) hlt)
      have HR := Lib.hid hR
      have HX := Lib.hid hX
      have HB := Lib.hid hB
      have N1 := nearM_any L[j] (minB (⟨r1, r2, r3, r4, r5, r6, r7⟩, ⟨s1, s2, s3⟩) (L.take j))
      have X1 := Cs.of_rw hR
      have x0 := X1.cell 0 _ rfl
      have x1 := X1.cell 1 _ rfl
      have x2 := X1.cell 2 _ rfl
      have x3 := X1.cell 3 _ rfl
      have x4 := X1.cell 4 _ rfl
      have x5 := X1.cell 5 _ rfl
      have x6 := X1.cell 6 _ rfl
      have xl := X1.lt
      have blt := Nat.lt_of_lt_of_le hbl hB.size
      generalize minB (⟨r1, r2, r3, r4, r5, r6, r7⟩, ⟨s1, s2, s3⟩) (L.take j) = mm at *
      generalize L[j] = y at *
      obtain ⟨⟨t1, t2, t3, t4, t5, t6, t7⟩, ⟨z1, z2, z3⟩⟩ := y
      obtain ⟨⟨m1, m2, m3, m4, m5, m6, m7⟩, ⟨k1, k2, k3⟩⟩ := mm
      simp only [Nat.add_zero] at c0 c1 c2 c3 c4 c5 c6 x0 x1 x2 x3 x4 x5 x6 N1 HT
      clear cc hR hX hB X1 hx
      have HJ := Lib.hid hj
      have hk0 : (0 : Int) ≤ ((j + 1 : Nat) : Int) := by omega
      have hk1 : ((j + 1 : Nat) : Int) < (L.length : Int) + 1 := by omega
      have hk2 : j + 1 < L.length + 1 := by omega
      have hk3 : 0 < j + 1 := by omega
      have HJ2 : Hid (j + 1 ≤ L.length) := by show j + 1 ≤ L.length; omega
      clear hj0 hlt' hlt hj
      have hje := Lib.hid (rfl : j + 1 = j + 1)
      generalize j + 1 = k at *
      go_upto_region 7 with fail
      have c0 := cell_regrown c0
      have c1 := cell_regrown c1
      have c2 := cell_regrown c2
      have c3 := cell_regrown c3
      have c4 := cell_regrown c4
      have c5 := cell_regrown c5
      have c6 := cell_regrown c6
      have x0 := cell_regrown x0
      have x1 := cell_regrown x1
      have x2 := cell_regrown x2
      have x3 := cell_regrown x3
      have x4 := cell_regrown x4
      have x5 := cell_regrown x5
      have x6 := cell_regrown x6
      have K1 := fun d os => Calls.regrown_of (N1 (grow (redrawn wr d) os))
      clear N1
      have Hcm : Hid (cmpI t6 m6 = if t6 < m6 then -1 else if t6 > m6 then 1 else 0) := rfl
      generalize cmpI t6 m6 = cc at *
      (refine wp_region_quiet_below (by kernel_rfl) (by kernel_rfl) ?_; (repeat (go_big_quiet_step (first | with_reducible exact K1 _ _))); refine wpQuiet_nil ?_; intro _ hw'; obtain ⟨⟨dq, osq⟩, hw''⟩ := hw'; subst hw'')
      have bq := below_regrown wr dq osq
      have c0 := c0 dq osq
      have c1 := c1 dq osq
      have c2 := c2 dq osq
      have c3 := c3 dq osq
      have c4 := c4 dq osq
      have c5 := c5 dq osq
      have c6 := c6 dq osq
      clear K1 x0 x1 x2 x3 x4 x5 x6
      have RR := Lib.hid (HR.out.touch (Touch.of_below (fun _ => False) bq) (fun h => h))
      have XX := Lib.hid (HX.out.keep bq)
      have BB := Lib.hid (HB.out.trans (bq.mono HB.out.size))
      have blt2 := Nat.lt_of_lt_of_le blt bq.size
      clear bq HR HX HB blt
      simp only at *
      generalize grow (redrawn wr dq) osq = w2 at *
      by_cases hlt2 : t6 < m6
      · have hcc : cc = -1 := by rw [Hcm.out, if_pos hlt2]
        subst hcc
        have hT : Hid (minB (⟨r1, r2, r3, r4, r5, r6, r7⟩, ⟨s1, s2, s3⟩) (L.take k) = (⟨t1, t2, t3, t4, t5, t6, t7⟩, ⟨z1, z2, z3⟩)) := by
          show _ = _
          rw [HT.out, if_pos hlt2]
        have X1 := Cs.of_rw RR.out
        have x0 := X1.cell 0 _ rfl
        have x1 := X1.cell 1 _ rfl
        have x2 := X1.cell 2 _ rfl
        have x3 := X1.cell 3 _ rfl
        have x4 := X1.cell 4 _ rfl
        have x5 := X1.cell 5 _ rfl
        have x6 := X1.cell 6 _ rfl
        have f0 := fun o => RR.out.free o
        have xl := X1.lt
        clear X1 HT hlt2 Hcm
        go_wp2_with fail
        go_roundw
        case rel =>
          refine ⟨k, HJ2.out, by go_num, ?_, ?_, ?_⟩
          · rw [hT.out]
            exact RR.out.put 0 (ch (⟨t1, t2, t3, t4, t5, t6, t7⟩, ⟨z1, z2, z3⟩)) rfl (by simp)
          · exact XX.out.touch (Touch.sets (F := fun k => k = w.heap.size + 1) (Touch.refl _ w2) (w.heap.size + 1) (fun _ => rfl) (ch (⟨t1, t2, t3, t4, t5, t6, t7⟩, ⟨z1, z2, z3⟩)) 0) (fun h => by simp at h)
          · exact BB.out.trans ((Touch.sets (F := fun k => k = w.heap.size + 1) (Touch.refl _ w2) (w.heap.size + 1) (fun _ => rfl) (ch (⟨t1, t2, t3, t4, t5, t6, t7⟩, ⟨z1, z2, z3⟩)) 0).below BB.out.size (fun _ _ h => by omega))
        case measure => simp [intOf]; omega
      · have hcc : (cc < 0) = False := by rw [Hcm.out, if_neg hlt2]; split <;> simp
        have hT : Hid (minB (⟨r1, r2, r3, r4, r5, r6, r7⟩, ⟨s1, s2, s3⟩) (L.take k) = (⟨m1, m2, m3, m4, m5, m6, m7⟩, ⟨k1, k2, k3⟩)) := by
          show _ = _
          rw [HT.out, if_neg hlt2]
        have hcc : 0 ≤ cc := by simp at hcc; exact hcc
        clear HT hlt2 Hcm
        go_wp2_with fail
        go_roundw
        case rel => exact ⟨k, HJ2.out, by go_num, by rw [hT.out]; exact RR.out, XX.out, BB.out⟩
        case measure => simp [intOf]; omega
    · obtain rfl : j = L.length := by omega
      rw [List.take_length] at hR
      have HB := Lib.hid hB
      have X1 := Cs.of_rw hR
      have XX := Lib.hid hX
      have hR2 := Lib.hid hR
      generalize minB (⟨r1, r2, r3, r4, r5, r6, r7⟩, ⟨s1, s2, s3⟩) L = mm at *
      obtain ⟨⟨m1, m2, m3, m4, m5, m6, m7⟩, ⟨k1, k2, k3⟩⟩ := mm
      have x0 := X1.cell 0 _ rfl
      have x1 := X1.cell 1 _ rfl
      have x2 := X1.cell 2 _ rfl
      have x3 := X1.cell 3 _ rfl
      have x4 := X1.cell 4 _ rfl
      have x5 := X1.cell 5 _ rfl
      have x6 := X1.cell 6 _ rfl
      have y0 := XX.out.cell 0 _ rfl
      have y1 := XX.out.cell 1 _ rfl
      have y2 := XX.out.cell 2 _ rfl
      have y3 := XX.out.cell 3 _ rfl
      have y4 := XX.out.cell 4 _ rfl
      have y5 := XX.out.cell 5 _ rfl
      have y6 := XX.out.cell 6 _ rfl
      have f0 := XX.out.free 0 _ rfl
      have f1 := XX.out.free 1 _ rfl
      have f2 := XX.out.free 2 _ rfl
      have f3 := XX.out.free 3 _ rfl
      have f4 := XX.out.free 4 _ rfl
      have f5 := XX.out.free 5 _ rfl
      have f6 := XX.out.free 6 _ rfl
      have xl := X1.lt
      have yl := XX.out.lt
      clear hR hX hB X1 hR2
      go_wp2_with fail
      refine bodyPost_ret (v := .agg #[.int .u32 m1, .int .u16 m2, .int .u32 m3, .int .u16 m4, .int .u16 m5, .slice k1 k2 k3, .int .u64 m6]) (by simp [results, Try.results80, go_sem, *]) rfl ⟨rfl, ?_⟩
      have hb := HB.out
      (have zzh := Below.size hb; repeat (first | with_reducible exact hb | with_reducible refine Below.setCell ?_ (by first | omega | (simp; done) | (simp; omega)) _ | with_reducible refine Below.alloc ?_ (by first | omega | (simp; done) | (simp; omega)) _ | with_reducible refine Below.drew ?_))
end Go.Proofs.Ytdpgmdkclaahdaa.Nb