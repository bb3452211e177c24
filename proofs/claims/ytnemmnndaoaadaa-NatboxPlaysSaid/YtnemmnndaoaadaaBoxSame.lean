/- The law's helper same: two boxes that hold the same. -/
import Derived.Test.YtnemmnndaoaadaaBoxN2
namespace Go.Proofs.Ytnemmnndaoaadaa
open Go.Sort Go.RowKit Go.BigFrame
set_option linter.unusedVariables false
set_option linter.unusedSimpArgs false

theorem rebN {W w : World} {lo : List (Nat × List Value)} {g gx : Nat} {X Y : Bx} (h : LN W lo g gx X Y w) (ip : Int) :
    Calls Try.prog 13 #[.pointer (some ⟨g, 0, none⟩), .int .u32 ip] w (fun e w' => e = .returned (.int .i64 (rebE ip)) ∧ LN W lo g gx (rebT X ip) Y w') := by
  unfold rebE rebT
  by_cases hip : ip = 0
  · subst hip
    rw [if_pos rfl, if_pos rfl]
    exact (rebind_bad g w).mono fun e w' hh => ⟨hh.1, h.keep hh.2⟩
  · rw [if_neg hip, if_neg hip]
    obtain ⟨S1, S2, h1, h2⟩ := h.ex
    exact (rebind1 hip h1).mono fun e w' hh => ⟨hh.1, ln_prog h S1 S2 h1 h2 hh.2⟩
theorem field_m (m f : Int) (w : World) : (Instr.field 23 (.agg #[.int .i64 m, .int .i64 f]) 0).run Try.prog w = .ok (.int .i64 m) w := by kernel_rfl
theorem field_f (m f : Int) (w : World) : (Instr.field 23 (.agg #[.int .i64 m, .int .i64 f]) 1).run Try.prog w = .ok (.int .i64 f) w := by kernel_rfl
def SmO (n : Nat) (w1 : World) (iv : Value) (wr : World) : Prop := ∃ i : Nat, iv = .int .i64 (i : Nat) ∧ i ≤ n ∧ Below w1.heap.size w1 wr
theorem map_at {L M : List Bd} {i : Nat} {x : Bd} (h : L.map (·.1) = M.map (·.1)) (hx : M[i]? = some x) : ∃ s, L[i]? = some (x.1, s) := by
  have h1 : (L.map (·.1))[i]? = some x.1 := by rw [h, List.getElem?_map, hx]; rfl
  rw [List.getElem?_map, Option.map_eq_some_iff] at h1
  obtain ⟨y, hy, he⟩ := h1
  exact ⟨y.2, by rw [hy, ← he]⟩
set_option maxHeartbeats 6400000 in
set_option maxRecDepth 100000 in
theorem same_at {B : Nat} {R S1 S2 : Nat → Prop} {g gx : Nat} {X : Bx} {v : Sl} {L : List Bd} {w : World} (h1 : B1 B R g X S1 w) (h2 : RBs gx S2 X.m X.f X.ip X.hold X.room v L w) (hl : L.map (·.1) = X.l) :
    Calls Try.prog 18 #[.pointer (some ⟨g, 0, none⟩), .pointer (some ⟨gx, 0, none⟩)] w fun e w' => e = .returned (.bool true) ∧ Below w.heap.size w w' := by
  have KB := binds1 h1
  have H1 := Lib.hid h1
  have H2 := Lib.hid h2
  have hlen : L.length ≤ 64 := by have := h2.len; have := h2.r2; omega
  have hlX : X.l.length = L.length := by rw [← hl, List.length_map]
  have hn := h2.n
  have HL := Lib.hid hl
  obtain ⟨m, f, ip, hold, room, l⟩ := X
  obtain ⟨av, nv, cv⟩ := v
  simp only at hn hlX
  subst hn
  clear h1 h2 hl
  go_enter Try.func18, Try.ntmps18
  go_wp2_with fail
  refine KB.mono ?_; rintro e w1 ⟨a, n, c, rfl, ⟨hna, M, hM, hrd, hmm⟩, b1⟩
  replace H1 := Lib.hid (H1.out.keep b1)
  replace H2 := Lib.hid (H2.out.keep b1)
  have HB := Lib.hid b1
  obtain rfl : n = L.length := by rw [hna]; exact hlX
  have HR := Lib.hid hrd
  have HMM := Lib.hid hmm
  have hML : M.length = L.length := by
    have : (M.map (·.1)).length = l.length := by rw [hM]
    rw [List.length_map] at this
    omega
  have HLM : Hid (L.map (·.1) = M.map (·.1)) := by show _ = _; rw [HL.out, hM]
  have HML := Lib.hid hML
  clear KB b1 hna hrd hmm hM hML hlX
  have hl2 : (L.length : Int) ≤ 64 := by omega
  generalize hln : L.length = ln at *
  replace hln := Lib.hid hln
  have x0 := cell_regrown (H2.out.box.cell 0 _ rfl)
  have x1 := cell_regrown (H2.out.box.cell 1 _ rfl)
  have x2 := cell_regrown (H2.out.box.cell 2 _ rfl)
  have x5 := cell_regrown (H2.out.box.cell 5 _ rfl)
  have C1 := fun d os => Calls.regrown_of ((ip1 (H1.out.keep (below_regrown w1 d os))).mono (fun e w' hh => ⟨hh.1, by rw [hh.2]; exact Below.refl _ _⟩))
  have C2 := fun d os => Calls.regrown_of (type1 (H1.out.keep (below_regrown w1 d os)))
  simp only at C1 C2
  have FM := field_m m f
  have FF := field_f m f
  go_upto_region 2 with fail
  (refine wp_region_quiet_below (by kernel_rfl) (by kernel_rfl) ?_; (repeat (go_big_quiet_step (first | with_reducible exact C1 _ _ | with_reducible exact C2 _ _))); refine wpQuiet_nil ?_; intro _ hw'; obtain ⟨⟨dq, osq⟩, hw''⟩ := hw'; subst hw'')
  have bq := below_regrown w1 dq osq
  replace H2 := Lib.hid (H2.out.keep bq)
  replace HB := Lib.hid (HB.out.trans (bq.mono HB.out.size))
  have HR2 := Lib.hid (HR.out.keep bq)
  have HMM2 : Hid (∀ x ∈ M, RdA (grow (redrawn w1 dq) osq) (grow (redrawn w1 dq) osq).heap.size x.2.a x.1.met ∧ x.2.n = x.1.met.length) := fun x hx => ⟨((HMM.out x hx).1.below bq).more bq.size, (HMM.out x hx).2⟩
  clear x0 x1 x2 x5 C1 C2 bq HR HMM H1
  simp only at *
  generalize (grow (redrawn w1 dq) osq) = w2 at *
  go_wp2_with fail
  go_loopw [6] (fun iv wr => SmO ln w2 iv wr) (fun iv _ => 100 - (intOf iv).toNat)
  case atStart => exact ⟨0, rfl, Nat.zero_le _, Below.refl _ _⟩
  case round =>
    obtain ⟨i, rfl, hi, hb⟩ := hrel
    have hi0 : (0 : Int) ≤ i := by omega
    have HBr := Lib.hid hb
    by_cases hlt : i < ln
    · have hlt' : (i : Int) < ln := by omega
      have HI : Hid (i + 1 ≤ ln) := hlt
      have H3 := Lib.hid (H2.out.keep hb)
      obtain ⟨mb, mo, rfl, hmb, hmc⟩ := (HR2.out.keep hb) (by rw [HML.out]; omega)
      obtain ⟨gv, rfl⟩ := H3.out.block (by rw [hln.out]; omega)
      obtain ⟨-, C, hC, hcap, htk, hlc, hmx⟩ := rrow_open (show RfRow 0 wr (.slice (some ⟨gv, 0, none⟩) ln cv) L from H3.out.row)
      obtain ⟨x, hx⟩ : ∃ x, M[i]? = some x := ⟨_, List.getElem?_eq_getElem (by rw [HML.out]; exact hlt)⟩
      obtain ⟨s2, hy⟩ := map_at HLM.out hx
      have hCi := take_at htk hy
      have hmr := H3.out.met _ (List.mem_of_getElem? hy)
      have hm16 := H3.out.m16 _ (List.mem_of_getElem? hy)
      have hxr := HMM2.out x (List.mem_of_getElem? hx)
      have c0 := hmc i x hx 0 _ rfl
      have c1 := hmc i x hx 1 _ rfl
      have c2 := hmc i x hx 2 _ rfl
      have c3 := hmc i x hx 3 _ rfl
      have c4 := hmc i x hx 4 _ rfl
      have c5 := hmc i x hx 5 _ rfl
      have c6 := hmc i x hx 6 _ rfl
      have d0 := hC.cell i 0 _ _ hCi rfl
      have d1 := hC.cell i 1 _ _ hCi rfl
      have d2 := hC.cell i 2 _ _ hCi rfl
      have d3 := hC.cell i 3 _ _ hCi rfl
      have d4 := hC.cell i 4 _ _ hCi rfl
      have d5 := hC.cell i 5 _ _ hCi rfl
      have d6 := hC.cell i 6 _ _ hCi rfl
      have blt := hC.lt
      have e5 := H3.out.box.cell 5 _ rfl
      have gl := H3.out.box.lt
      obtain ⟨⟨u1, u2, u3, u4, u5, u6, u7⟩, ⟨s1a, s1n, s1c⟩⟩ := x
      obtain ⟨s2a, s2n, s2c⟩ := s2
      have hs1 := hxr.2
      have hs2 := hmr.1.1
      have RA1 := Lib.hid ((hxr.1.below (hb.mono (Nat.le_refl _))).more hb.size)
      have RA2 := Lib.hid hmr.2.1
      simp only at hs1 hs2 hm16
      subst hs1 hs2
      simp only [Nat.add_zero] at c0 c1 c2 c3 c4 c5 c6 d0 d1 d2 d3 d4 d5 d6
      have hu7 : (u7.length : Int) ≤ 16 := by omega
      clear hmc hC hcap htk hlc hmx hx hy hCi hmr hxr hb hlen
      go_upto_region 8 with fail
      have Y : Hid (Cs wr.heap.size [.int .u32 u1, .int .u16 u2, .int .u32 u3, .int .u16 u4, .int .u16 u5, .slice s2a u7.length s2c, .int .u64 u6] (wr.alloc (.cells #[.int .u32 u1, .int .u16 u2, .int .u32 u3, .int .u16 u4, .int .u16 u5, .slice s2a u7.length s2c, .int .u64 u6] 73))) := Cs.new wr [.int .u32 u1, .int .u16 u2, .int .u32 u3, .int .u16 u4, .int .u16 u5, .slice s2a u7.length s2c, .int .u64 u6] 73
      have b4 : Below wr.heap.size wr (wr.alloc (.cells #[.int .u32 u1, .int .u16 u2, .int .u32 u3, .int .u16 u4, .int .u16 u5, .slice s2a u7.length s2c, .int .u64 u6] 73)) := (Below.refl _ wr).alloc (Nat.le_refl _) _
      have HB4 := Lib.hid (HBr.out.trans (b4.mono HBr.out.size))
      replace RA1 := Lib.hid (RA1.out.keep b4)
      replace RA2 := Lib.hid (RA2.out.keep b4)
      have k0 := (b4.cell (p := ⟨mb, mo + i * 7, none⟩) (by show mb < _; exact hmb)).trans c0
      have k1 := (b4.cell (p := ⟨mb, mo + i * 7 + 1, none⟩) (by show mb < _; exact hmb)).trans c1
      have k2 := (b4.cell (p := ⟨mb, mo + i * 7 + 2, none⟩) (by show mb < _; exact hmb)).trans c2
      have k3 := (b4.cell (p := ⟨mb, mo + i * 7 + 3, none⟩) (by show mb < _; exact hmb)).trans c3
      have k4 := (b4.cell (p := ⟨mb, mo + i * 7 + 4, none⟩) (by show mb < _; exact hmb)).trans c4
      have k5 := (b4.cell (p := ⟨mb, mo + i * 7 + 5, none⟩) (by show mb < _; exact hmb)).trans c5
      have k6 := (b4.cell (p := ⟨mb, mo + i * 7 + 6, none⟩) (by show mb < _; exact hmb)).trans c6
      have hmb4 : mb < (wr.alloc (.cells #[.int .u32 u1, .int .u16 u2, .int .u32 u3, .int .u16 u4, .int .u16 u5, .slice s2a u7.length s2c, .int .u64 u6] 73)).heap.size := Nat.lt_of_lt_of_le hmb b4.size
      clear c0 c1 c2 c3 c4 c5 c6 d0 d1 d2 d3 d4 d5 d6 e5 gl blt b4 hmb H3
      generalize (wr.alloc (.cells #[.int .u32 u1, .int .u16 u2, .int .u32 u3, .int .u16 u4, .int .u16 u5, .slice s2a u7.length s2c, .int .u64 u6] 73)) = w4 at *
      generalize wr.heap.size = yb at *
      have K5 := Lib.hid k5
      replace k0 := cell_regrown k0
      replace k1 := cell_regrown k1
      replace k2 := cell_regrown k2
      replace k3 := cell_regrown k3
      replace k4 := cell_regrown k4
      replace k5 := cell_regrown k5
      replace k6 := cell_regrown k6
      have y0 := cell_regrown (Y.out.cell 0 _ rfl)
      have y1 := cell_regrown (Y.out.cell 1 _ rfl)
      have y2 := cell_regrown (Y.out.cell 2 _ rfl)
      have y3 := cell_regrown (Y.out.cell 3 _ rfl)
      have y4 := cell_regrown (Y.out.cell 4 _ rfl)
      have y5 := cell_regrown (Y.out.cell 5 _ rfl)
      have y6 := cell_regrown (Y.out.cell 6 _ rfl)
      have CA := fun d os => Calls.regrown_of (ref_any u1 u2 (grow (redrawn w4 d) os))
      have CB := fun d os => Calls.regrown_of (ref_any u3 u4 (grow (redrawn w4 d) os))
      (refine wp_region_quiet_below (by kernel_rfl) (by kernel_rfl) ?_; (repeat (go_big_quiet_step (first | with_reducible exact CA _ _ | with_reducible exact CB _ _))); refine wpQuiet_nil ?_; intro _ hw'; obtain ⟨⟨dq, osq⟩, hw''⟩ := hw'; subst hw'')
      have bq := below_regrown w4 dq osq
      replace HB4 := Lib.hid (HB4.out.trans (bq.mono HB4.out.size))
      replace RA1 := Lib.hid (RA1.out.keep bq)
      replace RA2 := Lib.hid (RA2.out.keep bq)
      replace Y := Lib.hid (Y.out.keep bq)
      replace K5 := Lib.hid ((bq.cell (p := ⟨mb, mo + i * 7 + 5, none⟩) (by show mb < _; exact hmb4)).trans K5.out)
      replace hmb4 := Nat.lt_of_lt_of_le hmb4 bq.size
      clear k0 k1 k2 k3 k4 k5 k6 y0 y1 y2 y3 y4 y5 y6 CA CB bq
      generalize (grow (redrawn w4 dq) osq) = w5 at *
      go_wp2_with fail
      go_loopw [8] (fun kv wz => SmO u7.length w5 kv wz) (fun kv _ => 100 - (intOf kv).toNat)
      case atStart => exact ⟨0, rfl, Nat.zero_le _, Below.refl _ _⟩
      case round =>
        obtain ⟨k, rfl, hk, hb⟩ := hrel
        have hk0 : (0 : Int) ≤ k := by omega
        have HBz := Lib.hid hb
        have Yz := Lib.hid (Y.out.keep hb)
        have y5 := Yz.out.cell 5 _ rfl
        have yl := Yz.out.lt
        by_cases hlk : k < u7.length
        · have hlk' : (k : Int) < u7.length := by omega
          have HK : Hid (k + 1 ≤ u7.length) := hlk
          obtain ⟨b1, o1, rfl, hb1, hc1⟩ := (RA1.out.keep hb) (by omega)
          obtain ⟨b2, o2, rfl, hb2, hc2⟩ := (RA2.out.keep hb) (by omega)
          obtain ⟨p0, p1⟩ := hc1 k hlk
          obtain ⟨q0, q1⟩ := hc2 k hlk
          have k5 := (hb.cell (p := ⟨mb, mo + i * 7 + 5, none⟩) (by show mb < _; exact hmb4)).trans K5.out
          have CA := fun d os => Calls.regrown_of (ref_any u7[k].1 u7[k].2 (grow (redrawn wr d) os))
          generalize u7[k].1 = t1 at *
          generalize u7[k].2 = t2 at *
          clear hc1 hc2 hb
          go_upto_region 13 with fail
          replace k5 := cell_regrown k5
          replace p0 := cell_regrown p0
          replace p1 := cell_regrown p1
          replace q0 := cell_regrown q0
          replace q1 := cell_regrown q1
          replace y5 := cell_regrown y5
          (refine wp_region_quiet_below (by kernel_rfl) (by kernel_rfl) ?_; (repeat (go_big_quiet_step (first | with_reducible exact CA _ _))); refine wpQuiet_nil ?_; intro _ hw'; obtain ⟨⟨dq, osq⟩, hw''⟩ := hw'; subst hw'')
          have HB5 := Lib.hid (HBz.out.trans ((below_regrown wr dq osq).mono HBz.out.size))
          clear k5 p0 p1 q0 q1 y5 CA HBz
          go_wp2_with fail
          go_roundw
          case rel => exact ⟨k + 1, by go_num, HK.out, HB5.out⟩
          case measure => have := HK.out; simp [intOf]; omega
        · obtain rfl : k = u7.length := by omega
          have HB5 := Lib.hid (HB4.out.trans (hb.mono HB4.out.size))
          clear hb HB4
          go_wp2_with fail
          go_roundw
          case rel => exact ⟨i + 1, by go_num, HI.out, HB5.out⟩
          case measure => have := HI.out; simp [intOf]; omega
    · obtain rfl : i = ln := by omega
      have HB5 := Lib.hid (HB.out.trans (hb.mono HB.out.size))
      go_wp2_with fail
      go_ret
      exact ⟨rfl, HB5.out⟩
theorem sameN {W w : World} {lo : List (Nat × List Value)} {g gx : Nat} {X : Bx} (h : LN W lo g gx X X w) :
    Calls Try.prog 18 #[.pointer (some ⟨g, 0, none⟩), .pointer (some ⟨gx, 0, none⟩)] w fun e w' => e = .returned (.bool true) ∧ LN W lo g gx X X w' := by
  obtain ⟨S1, S2, h1, v, L, h2, h3, h4⟩ := h.ex
  exact (same_at h1 h2 h3).mono fun e w' hh => ⟨hh.1, h.keep hh.2⟩
end Go.Proofs.Ytnemmnndaoaadaa
