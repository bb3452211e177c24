/- The statement BagPlays: for any room and any deeds: datagrams are put, taken, lost, doubled, delayed as the document's own bag does it: what is told, and what is under way. No conditions. -/
import Derived.Test.YtoclhckcgjmhjaaBagWide
import Derived.Test.YtoclhckcgjmhjaaBagEx
import Derived.ChangeMaps5
import Derived.ShutString
import Derived.OpenShut
import Derived.SizedLaws
namespace Go.Proofs.Ytoclhckcgjmhjaa
open Go.Sort Go.RowKit Go.BigFrame Go.ChangeShapes Go.WideShapes Go.ChangeAt
open Go.ChangeMaps (open_string shut_string)
set_option linter.unusedVariables false
set_option linter.unusedSimpArgs false

def PlJ (B gx gy room : Nat) (w : World) (len : Nat) (iv : Value) (wr : World) : Prop := ∃ (i : Nat) (L : List Pi), i ≤ len ∧ i ≤ 80 ∧ iv = .int .i64 (i : Nat) ∧ P2 B [] gx gy room L L w wr
def ItJ9 (L : List Pi) (w : World) (jv : Value) (wr : World) : Prop := ∃ j : Nat, j ≤ L.length ∧ jv = .int .i64 (j : Nat) ∧ Below w.heap.size w wr
theorem P2.start {B gx gy room : Nat} {w0 w1 w2 w3 : World} (hB : Below B w0 w1) (hlo : B ≤ w1.heap.size) (hx : w1.heap.size ≤ gx) (h1 : Bs true gx room ⟨none, 0, 0⟩ [] w2) (b2 : Below w1.heap.size w1 w2) (hy : w2.heap.size ≤ gy) (h2 : Bs false gy room ⟨none, 0, 0⟩ [] w3) (b3 : Below w2.heap.size w2 w3) : P2 B [] gx gy room [] [] w0 w3 := by
  have ho : ∀ g k, OwnS g ⟨none, 0, 0⟩ k → k = g := fun g k hk => by
    rcases hk with hk | hk
    · exact hk
    · simp [Sl.v, Value.ownBlock] at hk
  have hs := b2.size
  refine ⟨fun x hx => by simp at hx, by have := b3.size; omega, (hB.trans (b2.mono hlo)).trans (b3.mono (by omega)), _, _, h1.keep b3, h2, fun k hk => ⟨by rw [ho _ _ hk]; omega, by simp⟩, fun k hk => ⟨by rw [ho _ _ hk]; omega, by simp⟩, fun k hk hk2 => ?_⟩
  rw [ho _ _ hk] at hk2
  have := ho _ _ hk2
  have := h1.box.lt
  omega
set_option maxHeartbeats 400000000 in
set_option maxRecDepth 100000 in
theorem bagPlays_walk (r : Int) (near : Bool) (a : Option Addr) (len cap : Nat) (w : World) (hr0 : -9223372036854775808 ≤ r) (hr1 : r ≤ 9223372036854775807) (wl : DeedRow w a len cap) :
    Calls Try.prog 4 #[.int .i64 r, .bool near, .slice a len cap] w fun e w' => e = .returned (.bool true) ∧ Below w.heap.size w w' := by
  have hlen63 := wl.len
  have WL := Lib.hid wl
  clear wl
  obtain ⟨u, hu⟩ : ∃ u, IntKind.u64.wrap r = u := ⟨_, rfl⟩
  have hu0 : 0 ≤ u := by rw [← hu, IntKind.wrap_u64]; omega
  obtain ⟨q, hq⟩ : ∃ q : Int, u.tmod 12 = q := ⟨_, rfl⟩
  have hq2 : q = u % 12 := by rw [← hq]; exact tmod_pos _ _ hu0
  have wq := IntWalk.i64_in q ⟨by omega, by omega⟩
  go_enter Try.func4, Try.ntmps4
  go_wp2_with fail
  refine (examples_yes _).mono ?_; rintro e w1 ⟨rfl, b1⟩
  have HB1 := Lib.hid b1
  clear b1
  go_upto_if 28 with fail
  go_cut [0] (fun rv wx => ∃ r2 : Int, rv = .int .i64 r2 ∧ -9223372036854775808 ≤ r2 ∧ r2 ≤ 9223372036854775807 ∧ wx = w1)
  case first =>
    cases near
    · go_wp2_with fail
      go_meet
      exact ⟨r, rfl, hr0, hr1, rfl⟩
    · go_wp2_with fail
      go_meet
      exact ⟨_, rfl, by omega, by omega, rfl⟩
  case rest =>
    obtain ⟨r2, rfl, h20, h21, hwc⟩ := hcut
    replace hwc := hwc.symm
    subst hwc
    clear hq wq hq2 hu hu0
    by_cases hbad : r2 < 1 ∨ 256 < r2
    · have N1 := new_bad r2 w1 hbad
      have N2 := rnew_bad r2 w1 hbad
      clear hbad
      go_wp2_with fail
      (with_reducible refine N1.mono ?_); rintro e w2 ⟨rfl, rfl⟩
      go_wp2_with fail
      (with_reducible refine N2.mono ?_); rintro e w3 ⟨rfl, rfl⟩
      go_wp2_with fail
      go_ret
      exact ⟨rfl, HB1.out⟩
    · obtain ⟨room, rfl⟩ : ∃ room : Nat, r2 = (room : Int) := ⟨r2.toNat, by omega⟩
      have hrm1 : 1 ≤ room := by omega
      have hrm2 : room ≤ 256 := by omega
      have N1 := new_ok room hrm1 hrm2 w1
      have N2 := fun w2 => rnew_ok room hrm1 hrm2 w2
      clear hbad
      go_wp2_with fail
      (with_reducible refine N1.mono ?_); rintro e w2 ⟨gx, rfl, hgx, hb1, b2⟩
      have N3 := N2 w2
      clear N1 N2
      have H1 := Lib.hid hb1
      have B2 := Lib.hid b2
      have G1 := Lib.hid hgx
      clear hb1 b2 hgx
      go_wp2_with fail
      (with_reducible refine N3.mono ?_); rintro e w3 ⟨gy, rfl, hgy, hb2, b3⟩
      have PS := Lib.hid (P2.start HB1.out HB1.out.size G1.out H1.out B2.out hgy hb2 b3)
      clear N3 hgy hb2 b3 H1 B2 G1 HB1
      go_wp2_with fail
      go_loopw [11] (fun iv wr => PlJ w.heap.size gx gy room w len iv wr) (fun i _ => 80 - (intOf i).toNat)
      case atStart => exact ⟨0, [], Nat.zero_le _, by omega, rfl, PS.out⟩
      case round =>
        obtain ⟨i, L, hil, hi80, rfl, hP⟩ := hrel
        clear PS
        have PS := Lib.hid hP
        clear hP
        have hi0 : (0 : Int) ≤ i := by omega
        have hi80' : (i : Int) ≤ 80 := by omega
        by_cases hgo : i < len ∧ i < 80
        · obtain ⟨g1, g2⟩ := hgo
          have hd1 : decide ((i : Int) < (len : Int)) = true := decide_eq_true (by omega)
          have hd2 : decide ((i : Int) < 80) = true := decide_eq_true (by omega)
          have hd3 : decide (i < len) = true := decide_eq_true g1
          have hil' : (i : Int) < len := by omega
          obtain ⟨bd, off, rfl, hbd, hdd⟩ := WL.out.at_ (by omega)
          obtain ⟨d, hfit, hdc⟩ := hdd i g1
          have HI1 : Hid (i + 1 ≤ len ∧ i + 1 ≤ 80) := ⟨g1, g2⟩
          have KC := fun j v hj => (PS.out.bel.cell (p := ⟨bd, off + i * 10 + j, none⟩) hbd).trans (hdc j v hj)
          have c0 := KC 0 _ rfl
          have c1 := KC 1 _ rfl
          have c2 := KC 2 _ rfl
          have c3 := KC 3 _ rfl
          have c4 := KC 4 _ rfl
          have c5 := KC 5 _ rfl
          have c6 := KC 6 _ rfl
          have c7 := KC 7 _ rfl
          have c8 := KC 8 _ rfl
          have c9 := KC 9 _ rfl
          have hbw : bd < wr.heap.size := Nat.lt_of_lt_of_le hbd PS.out.bel.size
          have f0 := bounds_u8 hfit.k
          have f1 := hfit.b
          unfold maxLen at f1
          have f2 := bounds_u64 hfit.t
          have f3 := bounds_i64 hfit.pick
          have f4 := bounds_u64 hfit.now
          clear hdd hdc KC hfit
          obtain ⟨dk, ⟨x1, x2, x3, x4, x5, x6⟩, dp, dn, dr⟩ := d
          simp only [Nat.add_zero] at c0 c1 c2 c3 c4 c5 c6 c7 c8 c9 f0 f1 f2 f3 f4
          obtain ⟨f00, f01⟩ := f0
          obtain ⟨f20, f21⟩ := f2
          obtain ⟨f30, f31⟩ := f3
          obtain ⟨f40, f41⟩ := f4
          obtain ⟨m, hm⟩ : ∃ m : Int, dk.tmod 10 = m := ⟨_, rfl⟩
          have hm2 : m = dk % 10 := by rw [← hm]; exact tmod_pos _ _ f00
          clear hm2
          have hdt : dn.tmod 12 = dn % 12 := tmod_pos _ _ f40
          obtain ⟨nw, hnw⟩ : ∃ nw : Int, (if dr then dn % 12 else dn) = nw := ⟨_, rfl⟩
          have hPA := Lib.hid (PS.out.alloc [.int .u8 dk, .int .u32 x1, .int .u16 x2, .int .u32 x3, .int .u16 x4, .string x5, .int .u64 x6, .int .i64 dp, .int .u64 dn, .bool dr] 64)
          clear PS
          go_upto_if 75 with fail
          generalize (wr.alloc (.cells #[.int .u8 dk, .int .u32 x1, .int .u16 x2, .int .u32 x3, .int .u16 x4, .string x5, .int .u64 x6, .int .i64 dp, .int .u64 dn, .bool dr] 64)) = w5 at *
          generalize wr.heap.size = db at *
          have d0 := hPA.out.hd.cell 0 _ rfl; have d1 := hPA.out.hd.cell 1 _ rfl; have d2 := hPA.out.hd.cell 2 _ rfl; have d3 := hPA.out.hd.cell 3 _ rfl; have d4 := hPA.out.hd.cell 4 _ rfl; have d5 := hPA.out.hd.cell 5 _ rfl; have d6 := hPA.out.hd.cell 6 _ rfl; have d7 := hPA.out.hd.cell 7 _ rfl; have d8 := hPA.out.hd.cell 8 _ rfl; have d9 := hPA.out.hd.cell 9 _ rfl
          have dl := hPA.out.hd.lt
          go_cut [13] (fun nv wx => nv = .int .u64 nw ∧ wx = w5)
          case first =>
            cases dr
            · have hn3 : dn = nw := hnw
              subst hn3
              go_wp2_with fail
              go_meet
              exact ⟨rfl, rfl⟩
            · have hn3 : dn % 12 = nw := hnw
              go_wp2_with fail
              go_meet
              exact ⟨by rw [← hn3], rfl⟩
          case rest =>
            obtain ⟨rfl, hwc⟩ := hcut
            replace hwc := hwc.symm
            subst hwc
            clear c0 c1 c2 c3 c4 c5 c6 c7 c8 c9 hdt
            by_cases hA : m = 4 ∨ m = 5 ∨ m = 6
            · go_upto_if 91 with fail
              go_cut [91] (fun bv wx => bv = .bool true ∧ wx = w5)
              case first =>
                rcases hA with rfl | rfl | rfl
                · go_wp2_with fail
                  go_meet
                  exact ⟨rfl, rfl⟩
                · go_wp2_with fail
                  go_meet
                  exact ⟨rfl, rfl⟩
                · go_wp2_with fail
                  go_meet
                  exact ⟨rfl, rfl⟩
              case rest =>
                obtain ⟨rfl, hwc⟩ := hcut
                replace hwc := hwc.symm
                subst hwc
                as_aux_lemma =>
                  obtain ⟨⟨y1, y2, y3, y4, y5, y6⟩, hy⟩ : ∃ y : Pi, takeX nw dp L = y := ⟨_, rfl⟩
                  obtain ⟨er, her⟩ : ∃ er : Int, (pickE nw dp L).2 = er := ⟨_, rfl⟩
                  obtain ⟨L2, hL2⟩ : ∃ L2, takeL nw dp L = L2 := ⟨_, rfl⟩
                  obtain ⟨nn, hnn⟩ : ∃ nn : Nat, L2.length = nn := ⟨_, rfl⟩
                  obtain ⟨rr, hrr⟩ : ∃ rr : Nat, readyP nw L2 = rr := ⟨_, rfl⟩
                  have HLn := Lib.hid hnn
                  have HRn := Lib.hid hrr
                  have HY := Lib.hid hy
                  have HE := Lib.hid her
                  have HL2 := Lib.hid hL2
                  have T1 := hPA.out.tkX nw dp f31 hy her hL2
                  clear hy her hL2 hnn hrr
                  go_wp2_with fail
                  (with_reducible refine T1.mono ?_); rintro e w6 ⟨rfl, h6⟩
                  have e7 := h6.hd.cell 7 _ rfl
                  have el := h6.hd.lt
                  have h7 := h6.alloc [.int .u32 y1, .int .u16 y2, .int .u32 y3, .int .u16 y4, .string y5, .int .u64 y6] 62
                  have T2 := h7.tkY nw dp f31 HY.out HE.out HL2.out
                  clear T1 h6 h7
                  go_wp2_with fail
                  (with_reducible refine T2.mono ?_); rintro e w7 ⟨rfl, h7⟩
                  have h8 := h7.alloc [.int .u32 y1, .int .u16 y2, .int .u32 y3, .int .u16 y4, .string y5, .int .u64 y6] 68
                  clear T2 h7 e7 el
                  go_upto_region 27 with fail
                  generalize (w7.alloc (.cells #[.int .u32 y1, .int .u16 y2, .int .u32 y3, .int .u16 y4, .string y5, .int .u64 y6] 68)) = w8 at *
                  generalize w7.heap.size = qb at *
                  generalize w6.heap.size = pb at *
                  have K0 := cell_regrown (h8.snd.cell 0 _ rfl)
                  have K1 := cell_regrown (h8.snd.cell 1 _ rfl)
                  have K2 := cell_regrown (h8.snd.cell 2 _ rfl)
                  have K3 := cell_regrown (h8.snd.cell 3 _ rfl)
                  have K4 := cell_regrown (h8.snd.cell 4 _ rfl)
                  have K5 := cell_regrown (h8.snd.cell 5 _ rfl)
                  have Q0 := cell_regrown (h8.hd.cell 0 _ rfl)
                  have Q1 := cell_regrown (h8.hd.cell 1 _ rfl)
                  have Q2 := cell_regrown (h8.hd.cell 2 _ rfl)
                  have Q3 := cell_regrown (h8.hd.cell 3 _ rfl)
                  have Q4 := cell_regrown (h8.hd.cell 4 _ rfl)
                  have Q5 := cell_regrown (h8.hd.cell 5 _ rfl)
                  have RC := fun d os => Calls.regrown_of (ref_any y1 y2 y3 y4 y5 y6 (grow (redrawn w8 d) os))
                  have H8 := Lib.hid h8
                  clear h8
                  (refine wp_region_quiet_below (by kernel_rfl) (by kernel_rfl) ?_; (repeat (go_big_quiet_step (first | with_reducible exact RC _ _))); refine wpQuiet_nil ?_; intro _ hw'; obtain ⟨⟨dq, osq⟩, hw''⟩ := hw'; subst hw'')
                  have PF := Lib.hid (H8.out.keep (below_regrown w8 dq osq))
                  clear K0 K1 K2 K3 K4 K5 Q0 Q1 Q2 Q3 Q4 Q5 RC H8
                  generalize (grow (redrawn w8 dq) osq) = wz at *
                  go_upto_region 36 with fail
                  try go_simp
                  obtain ⟨ay, cy, ky, kl, -⟩ := PF.out.boxY
                  rw [HLn.out] at ky
                  have K0 := cell_regrown ky
                  have KL := fun d os => Calls.regrown_of ((PF.out.keep (below_regrown wz d os)).lenX HLn.out)
                  have KX := fun d os => Calls.regrown_of ((PF.out.keep (below_regrown wz d os)).readyX nw HRn.out)
                  have KY := fun d os => Calls.regrown_of ((PF.out.keep (below_regrown wz d os)).readyY nw HRn.out)
                  (refine wp_region_quiet_below (by kernel_rfl) (by kernel_rfl) ?_; (repeat (go_big_quiet_step (first | with_reducible exact KL _ _ | with_reducible exact KX _ _ | with_reducible exact KY _ _))); refine wpQuiet_nil ?_; intro _ hw'; obtain ⟨⟨dq, osq⟩, hw''⟩ := hw'; subst hw'')
                  go_wp2
                  go_roundw
                  case rel => exact ⟨i + 1, L2, HI1.out.1, HI1.out.2, by go_num, (PF.out.keep (below_regrown wz dq osq)).sub (fun x hx => by simp at hx)⟩
                  case measure => have := HI1.out.2; simp [intOf]; omega
            · have n4 : (m == 4) = false := by rw [beq_eq_false_iff_ne]; omega
              have n5 : (m == 5) = false := by rw [beq_eq_false_iff_ne]; omega
              have n6 : (m == 6) = false := by rw [beq_eq_false_iff_ne]; omega
              clear hA
              by_cases h7 : m = 7
              · have n7 : (m == 7) = true := by rw [beq_iff_eq]; exact h7
                clear h7
                as_aux_lemma =>
                  obtain ⟨⟨y1, y2, y3, y4, y5, y6⟩, hy⟩ : ∃ y : Pi, takeX 18446744073709551615 dp L = y := ⟨_, rfl⟩
                  obtain ⟨er, her⟩ : ∃ er : Int, (pickE 18446744073709551615 dp L).2 = er := ⟨_, rfl⟩
                  obtain ⟨L2, hL2⟩ : ∃ L2, takeL 18446744073709551615 dp L = L2 := ⟨_, rfl⟩
                  obtain ⟨nn, hnn⟩ : ∃ nn : Nat, L2.length = nn := ⟨_, rfl⟩
                  obtain ⟨rr, hrr⟩ : ∃ rr : Nat, readyP nw L2 = rr := ⟨_, rfl⟩
                  have HLn := Lib.hid hnn
                  have HRn := Lib.hid hrr
                  have HY := Lib.hid hy
                  have HE := Lib.hid her
                  have HL2 := Lib.hid hL2
                  have T1 := hPA.out.dropX dp f31 hy her hL2
                  clear hy her hL2 hnn hrr
                  go_wp2_with fail
                  (with_reducible refine T1.mono ?_); rintro e w6 ⟨rfl, h6⟩
                  have e7 := h6.hd.cell 7 _ rfl
                  have el := h6.hd.lt
                  have h7 := h6.alloc [.int .u32 y1, .int .u16 y2, .int .u32 y3, .int .u16 y4, .string y5, .int .u64 y6] 62
                  have T2 := h7.dropY dp f31 HY.out HE.out HL2.out
                  clear T1 h6 h7
                  go_wp2_with fail
                  (with_reducible refine T2.mono ?_); rintro e w7 ⟨rfl, h7⟩
                  have h8 := h7.alloc [.int .u32 y1, .int .u16 y2, .int .u32 y3, .int .u16 y4, .string y5, .int .u64 y6] 68
                  clear T2 h7 e7 el
                  go_upto_region 31 with fail
                  generalize (w7.alloc (.cells #[.int .u32 y1, .int .u16 y2, .int .u32 y3, .int .u16 y4, .string y5, .int .u64 y6] 68)) = w8 at *
                  generalize w7.heap.size = qb at *
                  generalize w6.heap.size = pb at *
                  have K0 := cell_regrown (h8.snd.cell 0 _ rfl)
                  have K1 := cell_regrown (h8.snd.cell 1 _ rfl)
                  have K2 := cell_regrown (h8.snd.cell 2 _ rfl)
                  have K3 := cell_regrown (h8.snd.cell 3 _ rfl)
                  have K4 := cell_regrown (h8.snd.cell 4 _ rfl)
                  have K5 := cell_regrown (h8.snd.cell 5 _ rfl)
                  have Q0 := cell_regrown (h8.hd.cell 0 _ rfl)
                  have Q1 := cell_regrown (h8.hd.cell 1 _ rfl)
                  have Q2 := cell_regrown (h8.hd.cell 2 _ rfl)
                  have Q3 := cell_regrown (h8.hd.cell 3 _ rfl)
                  have Q4 := cell_regrown (h8.hd.cell 4 _ rfl)
                  have Q5 := cell_regrown (h8.hd.cell 5 _ rfl)
                  have RC := fun d os => Calls.regrown_of (ref_any y1 y2 y3 y4 y5 y6 (grow (redrawn w8 d) os))
                  have H8 := Lib.hid h8
                  clear h8
                  (refine wp_region_quiet_below (by kernel_rfl) (by kernel_rfl) ?_; (repeat (go_big_quiet_step (first | with_reducible exact RC _ _))); refine wpQuiet_nil ?_; intro _ hw'; obtain ⟨⟨dq, osq⟩, hw''⟩ := hw'; subst hw'')
                  have PF := Lib.hid (H8.out.keep (below_regrown w8 dq osq))
                  clear K0 K1 K2 K3 K4 K5 Q0 Q1 Q2 Q3 Q4 Q5 RC H8
                  generalize (grow (redrawn w8 dq) osq) = wz at *
                  go_upto_region 36 with fail
                  try go_simp
                  obtain ⟨ay, cy, ky, kl, -⟩ := PF.out.boxY
                  rw [HLn.out] at ky
                  have K0 := cell_regrown ky
                  have KL := fun d os => Calls.regrown_of ((PF.out.keep (below_regrown wz d os)).lenX HLn.out)
                  have KX := fun d os => Calls.regrown_of ((PF.out.keep (below_regrown wz d os)).readyX nw HRn.out)
                  have KY := fun d os => Calls.regrown_of ((PF.out.keep (below_regrown wz d os)).readyY nw HRn.out)
                  (refine wp_region_quiet_below (by kernel_rfl) (by kernel_rfl) ?_; (repeat (go_big_quiet_step (first | with_reducible exact KL _ _ | with_reducible exact KX _ _ | with_reducible exact KY _ _))); refine wpQuiet_nil ?_; intro _ hw'; obtain ⟨⟨dq, osq⟩, hw''⟩ := hw'; subst hw'')
                  go_wp2
                  go_roundw
                  case rel => exact ⟨i + 1, L2, HI1.out.1, HI1.out.2, by go_num, (PF.out.keep (below_regrown wz dq osq)).sub (fun x hx => by simp at hx)⟩
                  case measure => have := HI1.out.2; simp [intOf]; omega
              · have n7 : (m == 7) = false := by rw [beq_eq_false_iff_ne]; exact h7
                by_cases h8 : m = 8
                · have n8 : (m == 8) = true := by rw [beq_iff_eq]; exact h8
                  clear h7 h8
                  as_aux_lemma =>
                    obtain ⟨er, her⟩ : ∃ er : Int, twiceE room dp L = er := ⟨_, rfl⟩
                    obtain ⟨L2, hL2⟩ : ∃ L2, twiceL room dp L = L2 := ⟨_, rfl⟩
                    obtain ⟨nn, hnn⟩ : ∃ nn : Nat, L2.length = nn := ⟨_, rfl⟩
                    obtain ⟨rr, hrr⟩ : ∃ rr : Nat, readyP nw L2 = rr := ⟨_, rfl⟩
                    have HLn := Lib.hid hnn
                    have HRn := Lib.hid hrr
                    clear hnn hrr
                    have HE := Lib.hid her
                    have HL2 := Lib.hid hL2
                    have TX := Lib.hid ((hPA.out.keep ((Below.refl w5.heap.size w5).drew)).twiceX dp f31 her hL2)
                    clear her hL2
                    go_upto_region 33 with fail
                    go_region_held (fun w' => w'.cell? ⟨db, 7, none⟩ = some (.int .i64 dp) ∧ db < w'.heap.size) (first | exact ⟨d7, dl⟩ | exact ⟨e7, el⟩ | exact ⟨k7, kl⟩) (first | (go_at_call 28; refine TX.out.mono ?_; rintro e wx ⟨rfl, hx⟩; have P1 := Lib.hid hx; have e7 := hx.hd.cell 7 _ rfl; have el := hx.hd.lt; clear hx) | (go_at_call 29; refine (P1.out.twiceY dp f31 HE.out HL2.out).mono ?_; rintro e wz ⟨rfl, hy⟩; have PF := Lib.hid hy; have k7 := hy.hd.cell 7 _ rfl; have kl := hy.hd.lt; clear hy) | fail)
                    all_goals (
                      go_upto_region 36 with fail
                      try go_simp
                      obtain ⟨ay, cy, ky, kl, -⟩ := PF.out.boxY
                      rw [HLn.out] at ky
                      have K0 := cell_regrown ky
                      have KL := fun d os => Calls.regrown_of ((PF.out.keep (below_regrown wz d os)).lenX HLn.out)
                      have KX := fun d os => Calls.regrown_of ((PF.out.keep (below_regrown wz d os)).readyX nw HRn.out)
                      have KY := fun d os => Calls.regrown_of ((PF.out.keep (below_regrown wz d os)).readyY nw HRn.out)
                      (refine wp_region_quiet_below (by kernel_rfl) (by kernel_rfl) ?_; (repeat (go_big_quiet_step (first | with_reducible exact KL _ _ | with_reducible exact KX _ _ | with_reducible exact KY _ _))); refine wpQuiet_nil ?_; intro _ hw'; obtain ⟨⟨dq, osq⟩, hw''⟩ := hw'; subst hw'')
                      go_wp2
                      go_roundw
                      case rel => exact ⟨i + 1, L2, HI1.out.1, HI1.out.2, by go_num, (PF.out.keep (below_regrown wz dq osq)).sub (fun x hx => by simp at hx)⟩
                      case measure => have := HI1.out.2; simp [intOf]; omega)
                · have n8 : (m == 8) = false := by rw [beq_eq_false_iff_ne]; exact h8
                  by_cases h9 : m = 9
                  · have n9 : (m == 9) = true := by rw [beq_iff_eq]; exact h9
                    clear h7 h8 h9
                    as_aux_lemma =>
                      obtain ⟨er, her⟩ : ∃ er : Int, (pickE 18446744073709551615 dp L).2 = er := ⟨_, rfl⟩
                      obtain ⟨L2, hL2⟩ : ∃ L2, delayL dp dn L = L2 := ⟨_, rfl⟩
                      obtain ⟨nn, hnn⟩ : ∃ nn : Nat, L2.length = nn := ⟨_, rfl⟩
                      obtain ⟨rr, hrr⟩ : ∃ rr : Nat, readyP nw L2 = rr := ⟨_, rfl⟩
                      have HLn := Lib.hid hnn
                      have HRn := Lib.hid hrr
                      clear hnn hrr
                      have HE := Lib.hid her
                      have HL2 := Lib.hid hL2
                      have TX := Lib.hid ((hPA.out.keep ((Below.refl w5.heap.size w5).drew)).delayX dp dn f31 ⟨f40, f41⟩ her hL2)
                      clear her hL2
                      go_upto_region 35 with fail
                      go_region_held (fun w' => w'.cell? ⟨db, 7, none⟩ = some (.int .i64 dp) ∧ w'.cell? ⟨db, 8, none⟩ = some (.int .u64 dn) ∧ db < w'.heap.size) (first | exact ⟨d7, d8, dl⟩ | exact ⟨e7, e8, el⟩ | exact ⟨k7, k8, kl⟩) (first | (go_at_call 30; refine TX.out.mono ?_; rintro e wx ⟨rfl, hx⟩; have P1 := Lib.hid hx; have e7 := hx.hd.cell 7 _ rfl; have e8 := hx.hd.cell 8 _ rfl; have el := hx.hd.lt; clear hx) | (go_at_call 31; refine (P1.out.delayY dp dn f31 ⟨f40, f41⟩ HE.out HL2.out).mono ?_; rintro e wz ⟨rfl, hy⟩; have PF := Lib.hid hy; have k7 := hy.hd.cell 7 _ rfl; have k8 := hy.hd.cell 8 _ rfl; have kl := hy.hd.lt; clear hy) | fail)
                      all_goals (
                        go_upto_region 36 with fail
                        try go_simp
                        obtain ⟨ay, cy, ky, kl, -⟩ := PF.out.boxY
                        rw [HLn.out] at ky
                        have K0 := cell_regrown ky
                        have KL := fun d os => Calls.regrown_of ((PF.out.keep (below_regrown wz d os)).lenX HLn.out)
                        have KX := fun d os => Calls.regrown_of ((PF.out.keep (below_regrown wz d os)).readyX nw HRn.out)
                        have KY := fun d os => Calls.regrown_of ((PF.out.keep (below_regrown wz d os)).readyY nw HRn.out)
                        (refine wp_region_quiet_below (by kernel_rfl) (by kernel_rfl) ?_; (repeat (go_big_quiet_step (first | with_reducible exact KL _ _ | with_reducible exact KX _ _ | with_reducible exact KY _ _))); refine wpQuiet_nil ?_; intro _ hw'; obtain ⟨⟨dq, osq⟩, hw''⟩ := hw'; subst hw'')
                        go_wp2
                        go_roundw
                        case rel => exact ⟨i + 1, L2, HI1.out.1, HI1.out.2, by go_num, (PF.out.keep (below_regrown wz dq osq)).sub (fun x hx => by simp at hx)⟩
                        case measure => have := HI1.out.2; simp [intOf]; omega)
                  · have n9 : (m == 9) = false := by rw [beq_eq_false_iff_ne]; exact h9
                    clear h7 h8 h9
                    as_aux_lemma =>
                      obtain ⟨⟨y1, y2, y3, y4, y5, y6⟩, hy⟩ : ∃ y : Pi, itemP ⟨dk, ⟨x1, x2, x3, x4, x5, x6⟩, dp, dn, dr⟩ = y := ⟨_, rfl⟩
                      have hyt : 0 ≤ y6 ∧ y6 ≤ 18446744073709551615 ∧ y5.size ≤ 9223372036854775807 := by
                        unfold itemP at hy
                        cases dr
                        · have h9 : (⟨x1, x2, x3, x4, x5, x6⟩ : Pi) = ⟨y1, y2, y3, y4, y5, y6⟩ := hy
                          injection h9 with _ _ _ _ q5 q6
                          subst q5 q6
                          exact ⟨f20, f21, by omega⟩
                        · have h9 : (⟨1, 1, 2, 2, (⟨#[109]⟩ : ByteArray) ++ x5.extract 0 (min x5.size 9), x6 % 9⟩ : Pi) = ⟨y1, y2, y3, y4, y5, y6⟩ := hy
                          injection h9 with _ _ _ _ q5 q6
                          refine ⟨by omega, by omega, ?_⟩
                          rw [← q5, ByteArray.size_append, ByteArray.size_extract]
                          have : (⟨#[109]⟩ : ByteArray).size = 1 := rfl
                          omega
                      obtain ⟨hy0, hy1, hy2⟩ := hyt
                      obtain ⟨er, her⟩ : ∃ er : Int, putE room ⟨y1, y2, y3, y4, y5, y6⟩ L = er := ⟨_, rfl⟩
                      obtain ⟨L2, hL2⟩ : ∃ L2, putL room ⟨y1, y2, y3, y4, y5, y6⟩ L = L2 := ⟨_, rfl⟩
                      obtain ⟨nn, hnn⟩ : ∃ nn : Nat, L2.length = nn := ⟨_, rfl⟩
                      obtain ⟨rr, hrr⟩ : ∃ rr : Nat, readyP nw L2 = rr := ⟨_, rfl⟩
                      have HLn := Lib.hid hnn
                      have HRn := Lib.hid hrr
                      clear hnn hrr
                      have HE := Lib.hid her
                      have HL2 := Lib.hid hL2
                      have IT := Lib.hid (fun w' => item_any dk x1 x2 x3 x4 x5 x6 dp dn dr (by omega) f20 _ hy w')
                      have RT := Lib.hid (fun w' => ref_any y1 y2 y3 y4 y5 y6 w')
                      have PS := Lib.hid (hPA.out.keep ((Below.refl w5.heap.size w5).drew))
                      clear her hL2 hy
                      go_upto_region 21 with fail
                      go_region_law (first | (go_simp; go_at_call 33; refine (IT.out _).mono ?_; rintro e wi ⟨rfl, bi⟩; replace PS := Lib.hid (PS.out.keep bi); have g0 := PS.out.hd.cell 0 _ rfl; have g1 := PS.out.hd.cell 1 _ rfl; have g2 := PS.out.hd.cell 2 _ rfl; have g3 := PS.out.hd.cell 3 _ rfl; have g4 := PS.out.hd.cell 4 _ rfl; have g5 := PS.out.hd.cell 5 _ rfl; have g6 := PS.out.hd.cell 6 _ rfl; have g7 := PS.out.hd.cell 7 _ rfl; have g8 := PS.out.hd.cell 8 _ rfl; have g9 := PS.out.hd.cell 9 _ rfl; have gl := PS.out.hd.lt; clear bi) | (go_simp; go_at_call 25; refine (RT.out _).mono ?_; rintro e wi ⟨rfl, bi⟩; replace PS := Lib.hid (PS.out.keep bi); have g0 := PS.out.hd.cell 0 _ rfl; have g1 := PS.out.hd.cell 1 _ rfl; have g2 := PS.out.hd.cell 2 _ rfl; have g3 := PS.out.hd.cell 3 _ rfl; have g4 := PS.out.hd.cell 4 _ rfl; have g5 := PS.out.hd.cell 5 _ rfl; have g6 := PS.out.hd.cell 6 _ rfl; have g7 := PS.out.hd.cell 7 _ rfl; have g8 := PS.out.hd.cell 8 _ rfl; have g9 := PS.out.hd.cell 9 _ rfl; have gl := PS.out.hd.lt; clear bi) | (go_simp; go_at_call 32; refine (PS.out.putX y1 y2 y3 y4 y5 y6 hy0 hy1 hy2 HE.out HL2.out).mono ?_; rintro e wx ⟨rfl, hx⟩; replace PS := Lib.hid hx; have g0 := PS.out.hd.cell 0 _ rfl; have g1 := PS.out.hd.cell 1 _ rfl; have g2 := PS.out.hd.cell 2 _ rfl; have g3 := PS.out.hd.cell 3 _ rfl; have g4 := PS.out.hd.cell 4 _ rfl; have g5 := PS.out.hd.cell 5 _ rfl; have g6 := PS.out.hd.cell 6 _ rfl; have g7 := PS.out.hd.cell 7 _ rfl; have g8 := PS.out.hd.cell 8 _ rfl; have g9 := PS.out.hd.cell 9 _ rfl; have gl := PS.out.hd.lt; clear hx) | (go_simp; go_at_call 34; refine (PS.out.putY y1 y2 y3 y4 y5 y6 hy0 hy1 hy2 HE.out HL2.out).mono ?_; rintro e wz ⟨rfl, hx⟩; have PF := Lib.hid hx; clear hx))
                      all_goals (
                        go_upto_region 36 with fail
                        try go_simp
                        obtain ⟨ay, cy, ky, kl, -⟩ := PF.out.boxY
                        rw [HLn.out] at ky
                        have K0 := cell_regrown ky
                        have KL := fun d os => Calls.regrown_of ((PF.out.keep (below_regrown wz d os)).lenX HLn.out)
                        have KX := fun d os => Calls.regrown_of ((PF.out.keep (below_regrown wz d os)).readyX nw HRn.out)
                        have KY := fun d os => Calls.regrown_of ((PF.out.keep (below_regrown wz d os)).readyY nw HRn.out)
                        (refine wp_region_quiet_below (by kernel_rfl) (by kernel_rfl) ?_; (repeat (go_big_quiet_step (first | with_reducible exact KL _ _ | with_reducible exact KX _ _ | with_reducible exact KY _ _))); refine wpQuiet_nil ?_; intro _ hw'; obtain ⟨⟨dq, osq⟩, hw''⟩ := hw'; subst hw'')
                        go_wp2
                        go_roundw
                        case rel => exact ⟨i + 1, L2, HI1.out.1, HI1.out.2, by go_num, (PF.out.keep (below_regrown wz dq osq)).sub (fun x hx => by simp at hx)⟩
                        case measure => have := HI1.out.2; simp [intOf]; omega)
        · go_upto_region 13 with fail
          go_cut [65] (fun cv wx => cv = .bool false ∧ wx = wr)
          case first =>
            by_cases hq1 : i < len
            · have h1 : decide ((i : Int) < (len : Int)) = true := decide_eq_true (by omega)
              have h2 : decide ((i : Int) < 80) = false := decide_eq_false (by omega)
              have h3 : decide (i < len) = true := decide_eq_true hq1
              go_wp2_with fail
              go_meet
              exact ⟨rfl, rfl⟩
            · have h1 : decide ((i : Int) < (len : Int)) = false := decide_eq_false (by omega)
              have h3 : decide (i < len) = false := decide_eq_false hq1
              go_wp2_with fail
              go_meet
              exact ⟨rfl, rfl⟩
          case rest =>
            obtain ⟨rfl, hwc⟩ := hcut
            replace hwc := hwc.symm
            subst hwc
            as_aux_lemma =>
              have T1 := PS.out.items
              go_wp2_with fail
              (with_reducible refine T1.mono ?_); rintro e w5 ⟨v, rfl, hn, hrd, b5, -⟩
              obtain ⟨ia, inn, ic⟩ := v
              simp only at hn
              subst hn
              have PL := Lib.hid (PS.out.keep b5)
              have HRD := Lib.hid hrd
              simp only at HRD
              have hL256 : (L.length : Int) ≤ 256 := by
                obtain ⟨v9, u9, k9, _⟩ := PL.out.t
                have := k9.len; have := k9.r2; omega
              clear T1 b5 hrd PS
              go_wp2_with fail
              go_loopw [24] (fun jv wx => ItJ9 L w5 jv wx) (fun jv _ => L.length - (intOf jv).toNat)
              case atStart => exact ⟨0, Nat.zero_le _, rfl, Below.refl _ _⟩
              case round =>
                obtain ⟨j, hj, rfl, hb⟩ := hrel
                have hj0 : (0 : Int) ≤ j := by omega
                have PJ := Lib.hid (PL.out.keep hb)
                have HRJ := Lib.hid (HRD.out.keep hb)
                have HBJ := Lib.hid hb
                clear hb
                obtain ⟨ay, cy, ky, kl, hrdY⟩ := PJ.out.boxY
                by_cases hlt : j < L.length
                · have hlt' : (j : Int) < L.length := by omega
                  have hx : L[j]? = some L[j] := List.getElem?_eq_getElem hlt
                  have HJ1 : Hid (j + 1 ≤ L.length) := hlt
                  obtain ⟨b1, o1, rfl, hb1, hc1⟩ := HRJ.out (by omega)
                  obtain ⟨b2, o2, rfl, hb2, hc2⟩ := hrdY (by omega)
                  have a0 := cell_regrown (hc1 j _ hx 0 _ rfl)
                  have a1 := cell_regrown (hc1 j _ hx 1 _ rfl)
                  have a2 := cell_regrown (hc1 j _ hx 2 _ rfl)
                  have a3 := cell_regrown (hc1 j _ hx 3 _ rfl)
                  have a4 := cell_regrown (hc1 j _ hx 4 _ rfl)
                  have a5 := cell_regrown (hc1 j _ hx 5 _ rfl)
                  have z0 := cell_regrown (hc2 j _ hx 0 _ rfl)
                  have z1 := cell_regrown (hc2 j _ hx 1 _ rfl)
                  have z2 := cell_regrown (hc2 j _ hx 2 _ rfl)
                  have z3 := cell_regrown (hc2 j _ hx 3 _ rfl)
                  have z4 := cell_regrown (hc2 j _ hx 4 _ rfl)
                  have z5 := cell_regrown (hc2 j _ hx 5 _ rfl)
                  have K0 := cell_regrown ky
                  clear hc1 hc2 hrdY hx
                  generalize L[j] = y at *
                  obtain ⟨y1, y2, y3, y4, y5, y6⟩ := y
                  simp only [Nat.add_zero] at a0 a1 a2 a3 a4 a5 z0 z1 z2 z3 z4 z5
                  have RC := fun d os => Calls.regrown_of (ref_any y1 y2 y3 y4 y5 y6 (grow (redrawn wr d) os))
                  go_upto_region 42 with fail
                  (refine wp_region_quiet_below (by kernel_rfl) (by kernel_rfl) ?_; (repeat (go_big_quiet_step (first | with_reducible exact RC _ _))); refine wpQuiet_nil ?_; intro _ hw'; obtain ⟨⟨dq, osq⟩, hw''⟩ := hw'; subst hw'')
                  go_wp2
                  go_roundw
                  case rel => exact ⟨j + 1, HJ1.out, by go_num, HBJ.out.trans ((below_regrown _ dq osq).mono HBJ.out.size)⟩
                  case measure => simp [intOf]; omega
                · obtain rfl : j = L.length := by omega
                  have HBF := Lib.hid PJ.out.bel
                  clear PJ HRJ hrdY
                  go_wp2_with fail
                  go_ret
                  exact ⟨rfl, HBF.out⟩
theorem bagPlays_run (r : Int) (near : Bool) (a : Option Addr) (len cap : Nat) (w : World) (wr : (Lit.int .i64 r).wf = true) (wl : DeedRow w a len cap) :
    Calls Try.prog 4 #[.int .i64 r, .bool near, .slice a len cap] w fun e w' => e = .returned (.bool true) ∧ Below w.heap.size w w' := by
  obtain ⟨h0, h1⟩ := bounds_i64 wr
  exact bagPlays_walk r near a len cap w h0 h1 wl
theorem bagPlays_own : ownKnob Try.prog.godebug = none := by kernel_rfl
theorem bagPlays_laid : laidOutB Try.prog = true := by kernel_rfl
set_option maxRecDepth 100000 in
theorem bagPlays_lifted (os : Os) (started : os.Started) (H : Type) (enc : TypeId × Value → H) :
    ReturnsInHanded {} Try.checked os 4 .any (Rows.bagPlaysSpec.pre6 enc Try.prog Try.f4 Rows.bagPlaysRow.domain false) (Rows.bagPlaysSpec.post enc Try.prog Try.f4 false true false false) := by
  refine returnsInHanded_of_change (C := Try.checked) bagPlays_own started (by kernel_rfl) Try.func4
    (ChangeSpec.witness6 (enc := enc) (C := Try.checked) false ⟨#[], #[.int .i64 0, .bool false, .slice none 0 0], []⟩ 8 (by kernel_rfl) (by kernel_rfl) (by kernel_rfl) (by kernel_rfl)) ?_
  intro W base args ds gs before hval0 hW hcnd _
  have hval : ∀ (j : Nat) t v, Try.f4.params[j]? = some t → args[j]? = some v → Value.okWide Try.prog W .any base t v := hval0
  have hW' := hW
  obtain ⟨p, q, hA0, hV, rfl, hfz, hnd⟩ := hW
  have hA : DataW.TrodAll enc Try.prog W 0 (fun _ => true) true Try.f4.params.toList args.toList ds p := hA0
  rw [Try.params4] at hA hval
  obtain ⟨v0, vs0, d0, ds0, p0, q0, hargs, rfl, rfl, h0, r0⟩ := trodAll_cons hA
  obtain ⟨v1, vs1, d1, ds1, p1, q1, rfl, rfl, rfl, h1, r1⟩ := trodAll_cons r0
  obtain ⟨v2, vs2, d2, ds2, p2, q2, rfl, rfl, rfl, h2, r2⟩ := trodAll_cons r1
  obtain ⟨rfl, rfl, rfl⟩ := trodAll_nil r2
  obtain rfl : args = #[v0, v1, v2] := by cases args; simp_all
  obtain ⟨rfl, rfl⟩ := trodVars_none hV
  obtain ⟨a0, rfl, rfl, rfl, w0⟩ := open_int Try.underlying3 (hval 0 3 v0 rfl rfl) h0
  obtain ⟨a1, rfl, rfl, rfl⟩ := open_bool Try.underlying4 (hval 1 4 v1 rfl rfl) h1
  obtain ⟨a2, len2, cap2, rfl⟩ := okWide_slice Try.underlying55 (hval 2 55 v2 rfl rfl)
  have k2 := h2
  have lt2 : ∀ x ∈ p2, x.block < W.heap.size := by obtain ⟨m, hm⟩ := k2; exact DataW.trod_lt m _ _ _ hm
  have w2 : DeedRow W a2 len2 cap2 := by
    obtain ⟨fuel, hf⟩ := h2
    exact deeds_open hf
  clear hA0 hval0
  refine (bagPlays_run a0 a1 a2 len2 cap2 W w0 w2).mono fun e W' ⟨he, bel⟩ => ?_
  subst he
  exact ⟨_, rfl, _, _, _, [], _, [], hW', trodAll_mk1 (shut_bool Try.underlying4 _), (trodAll_cons_mk (shut_int Try.underlying3 w0) (trodAll_cons_mk (shut_bool Try.underlying4 _) (trodAll_cons_mk (Below.trod bagPlays_laid (by kernel_rfl) (of_decide_eq_true (by kernel_rfl)) k2 bel lt2) trodAll_mk0))), rfl, bel.frame _, fun h => by cases h⟩
theorem bagPlays_over : Rows.bagPlaysRow.holds Try.pinned (OpenSpec.ofChange Rows.bagPlaysSpec) :=
  OpenClaim.holds_of_wide 4 Try.f4 rfl rfl rfl rfl rfl rfl rfl ⟨rfl, rfl, rfl, rfl, rfl⟩ rfl rfl rfl rfl rfl (by kernel_rfl) Try.func4 (by kernel_rfl)
    (of_decide_eq_true (by kernel_rfl)) (by unfold Func.isWrapper; first | (rw [if_pos (by decide +kernel)]; kernel_rfl) | (rw [if_neg (by decide +kernel)]; exact ⟨rfl, rfl⟩))
    (fun os started H enc _ => bagPlays_lifted os started H enc)
theorem bagPlays_holds : Rows.BagPlaysSaid := bagPlays_over
#print axioms bagPlays_holds
end Go.Proofs.Ytoclhckcgjmhjaa
