/- The statement NatboxAnew: for any type, however many sent ahead, whatever other IP: a box that begins anew lets in nothing that it let in, and gives its first port again. No conditions. -/
import Derived.Test.YtelnfhbccbinlaaBoxReg
import Derived.ChangeOld
import Derived.ChangeMaps5
import Derived.ShutString
import Derived.OpenShut
import Derived.SizedLaws
import Derived.Lib.QuietBelow
import Derived.BigQuiet
namespace Go.Proofs.Ytelnfhbccbinlaa
open Go.Sort Go.RowKit Go.BigFrame Go.ChangeShapes Go.WideShapes Go.ChangeAt
open Go.ChangeMaps (open_string shut_string)
set_option linter.unusedVariables false
set_option linter.unusedSimpArgs false


def aneL (m : Int) : Nat → List Pb
  | 0 => []
  | i + 1 => (outP m 50 8 0 (100 + (i : Nat)) 1 53 8 (aneL m i)).2
def aneO (m : Int) : Nat × List Pb := outP m 50 8 1 167772161 7 53 8 []
theorem aneO_eq (m : Int) : outP m 50 8 1 167772161 7 53 8 [] = ((aneO m).1, (aneO m).2) := rfl
set_option maxRecDepth 100000 in
theorem ane_fin : ∀ m : Fin 3, (∀ k : Fin 7, (aneL (m.val : Nat) k.val).length = k.val) ∧ poAt (aneO (m.val : Nat)).2 (aneO (m.val : Nat)).1 = 20000 := by decide +kernel
theorem ane_len {m : Int} {k : Nat} (hm : 0 ≤ m ∧ m ≤ 2) (hk : k ≤ 6) : (aneL m k).length = k := by
  obtain ⟨m', rfl⟩ := Int.eq_ofNat_of_zero_le hm.1
  exact (ane_fin ⟨m', by omega⟩).1 ⟨k, by omega⟩
theorem ane_port {m : Int} (hm : 0 ≤ m ∧ m ≤ 2) : poAt (aneO m).2 (aneO m).1 = 20000 := by
  obtain ⟨m', rfl⟩ := Int.eq_ofNat_of_zero_le hm.1
  exact (ane_fin ⟨m', by omega⟩).2
theorem ane_right {m f : Int} (hm : 0 ≤ m ∧ m ≤ 2) (hf : 0 ≤ f ∧ f ≤ 2) : rightT m f = true := by
  unfold rightT kiB; simp; omega
theorem ane_badN {m f : Int} (h : rightT m f = true) : badN m f 9 50 ((8 : Nat) : Int) = false := by unfold badN; rw [h]; rfl
theorem ane_badO {si sp now : Int} (h1 : ¬ si = 0) (h3 : ¬ sp = 0) (h2 : now ≤ 1000) : badO si sp 53 8 now = false := by
  unfold badO noneI; simp [h1, h3]; omega
theorem ane_in (f : Int) : inQ f 50 1 20000 53 8 [] = ((0, 0, 5), []) := rfl
def dan : List Value := [.int .u8 0, .int .u8 1, .int .u8 3, .int .u8 0, .int .u8 0, .int .u32 0, .int .u16 0, .int .u64 0]
theorem ane_outer (w : World) : Calls Try.prog 14 #[.agg #[.int .u8 0, .int .u8 1, .int .u8 3, .int .u8 0, .int .u8 0, .int .u32 0, .int .u16 0, .int .u64 0]] w fun e w' => e = .returned (.agg #[.int .u32 53, .int .u16 8]) ∧ Below w.heap.size w w' := outer_any 0 1 3 0 0 0 0 0 (by omega) w
theorem ane_inner (w : World) : Calls Try.prog 22 #[.agg #[.int .u8 0, .int .u8 1, .int .u8 3, .int .u8 0, .int .u8 0, .int .u32 0, .int .u16 0, .int .u64 0]] w fun e w' => e = .returned (.agg #[.int .u32 167772161, .int .u16 7]) ∧ Below w.heap.size w w' := inner_any 0 1 3 0 0 0 0 0 (by omega) w
def AneJ (B s g : Nat) (m f : Int) (c : Nat) (w : World) (iv : Value) (wr : World) : Prop := ∃ i : Nat, i ≤ c ∧ iv = .int .i64 (i : Nat) ∧ L1 B [(s, dan)] g ⟨m, f, 9, 50, 8, aneL m i⟩ wr ∧ Below B w wr
set_option maxHeartbeats 32000000 in
set_option maxRecDepth 100000 in
theorem natboxAnew_walk (t b ip : Int) (c : Nat) (w : World) (hk : 1 + b % 6 = (c : Int)) (ht0 : 0 ≤ t) (ht1 : t ≤ 255) (hb0 : 0 ≤ b) (hb1 : b ≤ 255) :
    Calls Try.prog 8 #[.int .u8 t, .int .u8 b, .int .u32 ip] w fun e w' => e = .returned (.bool true) ∧ Below w.heap.size w w' := by
  have hm : 0 ≤ t % 3 ∧ t % 3 ≤ 2 := by omega
  have hf : 0 ≤ t / 3 % 3 ∧ t / 3 % 3 ≤ 2 := by omega
  have hc1 : 1 ≤ c := by omega
  have hc2 : c ≤ 6 := by omega
  have NB := Lib.hid (ane_badN (ane_right hm hf))
  have hm3 : t.tmod 3 = t % 3 := tmod_pos _ _ ht0
  have hf3 : (t / 3).tmod 3 = t / 3 % 3 := tmod_pos _ _ (by omega)
  have hb6 : b.tmod 6 = b % 6 := tmod_pos _ _ hb0
  have HM := Lib.hid hm
  clear hm hf
  go_enter Try.func8, Try.ntmps8
  go_wp2_with fail
  refine (examples_yes _).mono ?_; rintro e w1 ⟨rfl, b1⟩
  have HI := Lib.hid b1
  have h0 : Cl [] w1 := fun x hx => by simp at hx
  have N1 := newL (B := w.heap.size) (l := []) b1.size h0 NB.out (by omega)
  clear b1 h0
  go_wp2_with fail
  refine N1.mono ?_; rintro e w2 ⟨g, rfl, ht, b2⟩
  have ht := ht.alloc dan 40
  have hB : Hid (Below w.heap.size w (w2.alloc (.cells #[.int .u8 0, .int .u8 1, .int .u8 3, .int .u8 0, .int .u8 0, .int .u32 0, .int .u16 0, .int .u64 0] 40))) := (HI.out.trans (b2.mono HI.out.size)).alloc (HI.out.trans (b2.mono HI.out.size)).size _
  have HT : Hid (L1 w.heap.size [(w2.heap.size, dan)] g ⟨t % 3, t / 3 % 3, 9, 50, 8, []⟩ (w2.alloc (.cells #[.int .u8 0, .int .u8 1, .int .u8 3, .int .u8 0, .int .u8 0, .int .u32 0, .int .u16 0, .int .u64 0] 40))) := ht
  clear N1 b2 HI ht NB
  go_wp2_with fail
  generalize (w2.alloc (.cells #[.int .u8 0, .int .u8 1, .int .u8 3, .int .u8 0, .int .u8 0, .int .u32 0, .int .u16 0, .int .u64 0] 40)) = w3 at *
  generalize w2.heap.size = s at *
  generalize t % 3 = m at *
  generalize t / 3 % 3 = f at *
  clear hm3 hf3
  go_loopw [11] (fun iv wr => AneJ w.heap.size s g m f c w iv wr) (fun i _ => c - (intOf i).toNat)
  case atStart => exact ⟨0, Nat.zero_le _, rfl, HT.out, hB.out⟩
  case round =>
    obtain ⟨i, hi, rfl, hL, hb⟩ := hrel
    clear HT hB
    have hi0 : (0 : Int) ≤ i := by omega
    have hkb : 1 + b % 6 = (c : Int) := hk
    have xs := hL.c.at s dan (by simp)
    have xl := xs.lt
    have x0 := xs.cell 0 _ rfl
    have x1 := xs.cell 1 _ rfl
    have x2 := xs.cell 2 _ rfl
    have x3 := xs.cell 3 _ rfl
    have x4 := xs.cell 4 _ rfl
    have x5 := xs.cell 5 _ rfl
    have x6 := xs.cell 6 _ rfl
    have x7 := xs.cell 7 _ rfl
    clear xs
    by_cases hlt : i < c
    · have hlt' : (i : Int) < c := by omega
      have hi6 : (i : Int) ≤ 6 := by omega
      have hb := Lib.hid hb
      have hL := Lib.hid hL
      have HI1 : Hid (i + 1 ≤ c) := hlt
      go_wp2_with fail
      refine (ane_outer _).mono ?_; rintro e w4 ⟨rfl, d4⟩
      have C := (hL.out.keep d4).outx (si := 100 + (i : Int)) (sp := 1) (di := 53) (dp := 8) (now := 0) (j := _) (l' := aneL m (i + 1)) (ane_badO (by omega) (by omega) (by omega)) (by omega) rfl rfl
      have HB4 := Lib.hid (hb.out.trans (d4.mono hL.out.t.1))
      clear hL hb d4 x0 x1 x2 x3 x4 x5 x6 x7 xl
      go_wp2_with fail
      refine C.mono ?_; rintro e w5 ⟨rfl, ht, b5⟩
      have HT := Lib.hid ht
      have HB5 := Lib.hid (HB4.out.trans b5)
      clear C ht b5 HB4
      go_wp2_with fail
      go_roundw
      case rel => exact ⟨i + 1, HI1.out, by go_num, HT.out, HB5.out⟩
      case measure => simp [intOf]; omega
    · obtain rfl : i = c := by omega
      have hb := Lib.hid hb
      have HL := Lib.hid hL
      clear hL
      by_cases hz : ip = 0
      · subst hz
        go_wp2_with fail
        refine (rebind_bad g _).mono ?_; rintro e w4 ⟨rfl, d4⟩
        have HL4 := Lib.hid (HL.out.keep d4)
        have HB4 := Lib.hid (hb.out.trans (d4.mono HL.out.t.1))
        clear HL hb d4 x0 x1 x2 x3 x4 x5 x6 x7 xl
        go_wp2_with fail
        refine (ipO HL4.out.t).mono ?_; rintro e w5 ⟨rfl, rfl⟩
        have BI := bindsO HL4.out.t
        go_wp2_with fail
        refine BI.mono ?_; rintro e w6 ⟨ba, bn, bc, rfl, ⟨hn, -⟩, b6⟩
        obtain rfl : bn = i := by rw [hn]; exact ane_len HM.out hc2
        have HB6 := Lib.hid (HB4.out.trans (b6.mono HL4.out.t.1))
        clear BI hn b6
        go_wp2_with fail
        go_ret
        exact ⟨rfl, HB6.out⟩
      · have hzf : (ip == 0) = false := by rw [beq_eq_false_iff_ne]; exact hz
        have R := L1.rebindx hz HL.out
        go_wp2_with fail
        refine R.mono ?_; rintro e w4 ⟨rfl, hL, b4⟩
        have HB4 := Lib.hid (hb.out.trans b4)
        clear R b4 hb HL x0 x1 x2 x3 x4 x5 x6 x7 xl
        have xs := hL.c.at s dan (by simp)
        have xl := xs.lt
        have x0 := xs.cell 0 _ rfl
        have x1 := xs.cell 1 _ rfl
        have x2 := xs.cell 2 _ rfl
        have x3 := xs.cell 3 _ rfl
        have x4 := xs.cell 4 _ rfl
        have x5 := xs.cell 5 _ rfl
        have x6 := xs.cell 6 _ rfl
        have x7 := xs.cell 7 _ rfl
        clear xs
        have HL := Lib.hid hL
        clear hL
        go_wp2_with fail
        refine (ane_outer _).mono ?_; rintro e w5 ⟨rfl, d5⟩
        have C := (HL.out.keep d5).inx (now := 1) (port := 20000) (si := 53) (sp := 8) (a := 0) (b := 0) (c := 5) (l' := []) rfl (by omega) (ane_in f)
        have HB5 := Lib.hid (HB4.out.trans (d5.mono HL.out.t.1))
        clear HB4 HL d5 x0 x1 x2 x3 x4 x5 x6 x7 xl
        go_wp2_with fail
        refine C.mono ?_; rintro e w6 ⟨rfl, hL, b6⟩
        have hL := hL.alloc [.int .u32 0, .int .u16 0] 38
        have HB6 := HB5.out.trans b6
        have HW : Hid (Below w.heap.size w (w6.alloc (.cells #[.int .u32 0, .int .u16 0] 38))) := HB6.alloc HB6.size _
        have HL : Hid (L1 w.heap.size [(w6.heap.size, [.int .u32 0, .int .u16 0]), (s, dan)] g ⟨m, f, ip, 50, 8, []⟩ (w6.alloc (.cells #[.int .u32 0, .int .u16 0] 38))) := hL
        clear C hL b6 HB6 HB5
        go_upto_region 16 with fail
        generalize (w6.alloc (.cells #[.int .u32 0, .int .u16 0] 38)) = w7 at *
        generalize w6.heap.size = s6 at *
        go_cut [15, 16] (fun pv ev wx => OutJ w.heap.size [(s6, [.int .u32 0, .int .u16 0]), (s, dan)] g ⟨m, f, ip, 50, 8, (aneO m).2⟩ ip 20000 0 w pv ev wx)
        case first =>
          have kX := HL.out.c.at s dan (by simp [dan])
          have k0 := kX.cell 0 _ rfl
          have k1 := kX.cell 1 _ rfl
          have k2 := kX.cell 2 _ rfl
          have k3 := kX.cell 3 _ rfl
          have k4 := kX.cell 4 _ rfl
          have k5 := kX.cell 5 _ rfl
          have k6 := kX.cell 6 _ rfl
          have k7 := kX.cell 7 _ rfl
          have kl := kX.lt
          have BL := Lib.hid ((Below.refl _ _).drew : Below w7.heap.size w7 w7.drew); go_region_law (first | (go_simp; go_at_call 22; with_reducible refine (ane_inner _).mono ?_; rintro e wN ⟨rfl, dN⟩; (first | (replace ZK := Lib.hid (z_keep ZK.out dN); replace BL := Lib.hid (bl_same BL.out dN)) | (have ZK := Lib.hid (z_newd dN); replace BL := Lib.hid (bl_allocd dN)) | (have ZK := Lib.hid (z_new BL.out dN); replace BL := Lib.hid (bl_alloc BL.out dN)) | (replace BL := Lib.hid (bl_same BL.out dN))); have kX := (HL.out.c.at s dan (by simp [dan])).keep BL.out; have k0 := kX.cell 0 _ rfl; have k1 := kX.cell 1 _ rfl; have k2 := kX.cell 2 _ rfl; have k3 := kX.cell 3 _ rfl; have k4 := kX.cell 4 _ rfl; have k5 := kX.cell 5 _ rfl; have k6 := kX.cell 6 _ rfl; have k7 := kX.cell 7 _ rfl; have kl := kX.lt; clear dN) | (go_simp; go_at_call 14; with_reducible refine (ane_outer _).mono ?_; rintro e wN ⟨rfl, dN⟩; (first | (replace ZK := Lib.hid (z_keep ZK.out dN); replace BL := Lib.hid (bl_same BL.out dN)) | (have ZK := Lib.hid (z_newd dN); replace BL := Lib.hid (bl_allocd dN)) | (have ZK := Lib.hid (z_new BL.out dN); replace BL := Lib.hid (bl_alloc BL.out dN)) | (replace BL := Lib.hid (bl_same BL.out dN))); have kX := (HL.out.c.at s dan (by simp [dan])).keep BL.out; have k0 := kX.cell 0 _ rfl; have k1 := kX.cell 1 _ rfl; have k2 := kX.cell 2 _ rfl; have k3 := kX.cell 3 _ rfl; have k4 := kX.cell 4 _ rfl; have k5 := kX.cell 5 _ rfl; have k6 := kX.cell 6 _ rfl; have k7 := kX.cell 7 _ rfl; have kl := kX.lt; clear dN) | (go_simp; go_at_call 21; first | (have MN := (HL.out.add BL.out ZK.out).outx (si := 167772161) (sp := 7) (di := 53) (dp := 8) (now := 1) (j := (aneO m).1) (l' := (aneO m).2) (p := 20000) (ane_badO (by omega) (by omega) (by omega)) (by omega) (aneO_eq m) (ane_port HM.out); (with_reducible refine MN.mono ?_); clear MN; rintro e wO ⟨rfl, hO, bO⟩; have FZ := after_a HL.out HW.out BL.out ZK.out.2 hO bO ip 20000 0; have z0 := FZ.2.cell 0 _ rfl; have z1 := FZ.2.cell 1 _ rfl; have zf0 := FZ.2.free 0 _ rfl; have zf1 := FZ.2.free 1 _ rfl; have zl := FZ.2.lt; have FIN := Lib.hid FZ.1; clear FZ hO bO) | (have MN := (HL.out.add (bl_now BL.out _) (z_now BL.out)).outx (si := 167772161) (sp := 7) (di := 53) (dp := 8) (now := 1) (j := (aneO m).1) (l' := (aneO m).2) (p := 20000) (ane_badO (by omega) (by omega) (by omega)) (by omega) (aneO_eq m) (ane_port HM.out); (with_reducible refine MN.mono ?_); clear MN; rintro e wO ⟨rfl, hO, bO⟩; have FZ := after_a HL.out HW.out (bl_now BL.out _) (z_now BL.out).2 hO bO ip 20000 0; have z0 := FZ.2.cell 0 _ rfl; have z1 := FZ.2.cell 1 _ rfl; have zf0 := FZ.2.free 0 _ rfl; have zf1 := FZ.2.free 1 _ rfl; have zl := FZ.2.lt; have FIN := Lib.hid FZ.1; clear FZ hO bO) | (have MN := (HL.out.keep BL.out).outx (si := 167772161) (sp := 7) (di := 53) (dp := 8) (now := 1) (j := (aneO m).1) (l' := (aneO m).2) (p := 20000) (ane_badO (by omega) (by omega) (by omega)) (by omega) (aneO_eq m) (ane_port HM.out); (with_reducible refine MN.mono ?_); clear MN; rintro e wO ⟨rfl, hO, bO⟩; have FIN := Lib.hid (after_b HL.out HW.out BL.out hO bO ip 20000 0); clear hO bO)))
          all_goals go_wp2_with fail
          all_goals go_meet
          all_goals exact FIN.out
        case rest =>
          obtain ⟨z0, rfl, rfl, hl, hb⟩ := hcut
          have y := hl.c.at z0 [.int .u32 ip, .int .u16 20000] (by simp)
          have y0 := y.cell 0 _ rfl
          have y1 := y.cell 1 _ rfl
          have yl := y.lt
          clear y
          generalize wc = w8 at *
          replace HL := Lib.hid hl
          replace HW := Lib.hid hb
          clear hl hb
          go_wp2_with fail
          refine (ipO HL.out.t).mono ?_; rintro e w9 ⟨rfl, rfl⟩
          go_wp2_with fail
          go_ret
          exact ⟨rfl, HW.out⟩
theorem natboxAnew_run (t b ip : Int) (w : World) (h0 : (Lit.int .u8 t).wf = true) (h1 : (Lit.int .u8 b).wf = true) (h2 : (Lit.int .u32 ip).wf = true) :
    Calls Try.prog 8 #[.int .u8 t, .int .u8 b, .int .u32 ip] w fun e w' => e = .returned (.bool true) ∧ Below w.heap.size w w' := by
  obtain ⟨ht0, ht1⟩ := bounds_u8 h0
  obtain ⟨hb0, hb1⟩ := bounds_u8 h1
  obtain ⟨c, hc⟩ : ∃ c : Nat, 1 + b % 6 = (c : Int) := ⟨(1 + b % 6).toNat, by omega⟩
  exact natboxAnew_walk t b ip c w hc ht0 ht1 hb0 hb1
theorem natboxAnew_own : ownKnob Try.prog.godebug = none := by kernel_rfl
theorem natboxAnew_laid : laidOutB Try.prog = true := by kernel_rfl
set_option maxRecDepth 100000 in
theorem natboxAnew_lifted (os : Os) (started : os.Started) (H : Type) (enc : TypeId × Value → H) :
    ReturnsInHanded {} Try.checked os 8 .any (Rows.natboxAnewSpec.pre6 enc Try.prog Try.f8 Rows.natboxAnewRow.domain false) (Rows.natboxAnewSpec.post enc Try.prog Try.f8 false true false false) := by
  refine returnsInHanded_of_change (C := Try.checked) natboxAnew_own started (by kernel_rfl) Try.func8
    (ChangeSpec.witness6 (enc := enc) (C := Try.checked) false ⟨#[], #[.int .u8 0, .int .u8 0, .int .u32 0], []⟩ 8 (by kernel_rfl) (by kernel_rfl) (by kernel_rfl) (by kernel_rfl)) ?_
  intro W base args ds gs before hval0 hW hcnd _
  have hval : ∀ (j : Nat) t v, Try.f8.params[j]? = some t → args[j]? = some v → Value.okWide Try.prog W .any base t v := hval0
  have hW' := hW
  obtain ⟨p, q, hA0, hV, rfl, hfz, hnd⟩ := hW
  have hA : DataW.TrodAll enc Try.prog W 0 (fun _ => true) true Try.f8.params.toList args.toList ds p := hA0
  rw [Try.params8] at hA hval
  obtain ⟨v0, vs0, d0, ds0, p0, q0, hargs, rfl, rfl, h0, r0⟩ := trodAll_cons hA
  obtain ⟨v1, vs1, d1, ds1, p1, q1, rfl, rfl, rfl, h1, r1⟩ := trodAll_cons r0
  obtain ⟨v2, vs2, d2, ds2, p2, q2, rfl, rfl, rfl, h2, r2⟩ := trodAll_cons r1
  obtain ⟨rfl, rfl, rfl⟩ := trodAll_nil r2
  obtain rfl : args = #[v0, v1, v2] := by cases args; simp_all
  obtain ⟨rfl, rfl⟩ := trodVars_none hV
  obtain ⟨a0, rfl, rfl, rfl, w0⟩ := open_int Try.underlying5 (hval 0 5 v0 rfl rfl) h0
  obtain ⟨a1, rfl, rfl, rfl, w1⟩ := open_int Try.underlying5 (hval 1 5 v1 rfl rfl) h1
  obtain ⟨a2, rfl, rfl, rfl, w2⟩ := open_int Try.underlying24 (hval 2 24 v2 rfl rfl) h2
  clear hA0 hval0
  refine (natboxAnew_run a0 a1 a2 W w0 w1 w2).mono fun e W' ⟨he, bel⟩ => ?_
  subst he
  exact ⟨_, rfl, _, _, _, [], _, [], hW', trodAll_mk1 (shut_bool Try.underlying4 _), (trodAll_cons_mk (shut_int Try.underlying5 w0) (trodAll_cons_mk (shut_int Try.underlying5 w1) (trodAll_cons_mk (shut_int Try.underlying24 w2) trodAll_mk0))), rfl, bel.frame _, fun h => by cases h⟩
theorem natboxAnew_over : Rows.natboxAnewRow.holds Try.pinned (OpenSpec.ofChange Rows.natboxAnewSpec) :=
  OpenClaim.holds_of_wide 8 Try.f8 rfl rfl rfl rfl rfl rfl rfl ⟨rfl, rfl, rfl, rfl, rfl⟩ rfl rfl rfl rfl rfl (by kernel_rfl) Try.func8 (by kernel_rfl)
    (of_decide_eq_true (by kernel_rfl)) (by unfold Func.isWrapper; first | (rw [if_pos (by decide +kernel)]; kernel_rfl) | (rw [if_neg (by decide +kernel)]; exact ⟨rfl, rfl⟩))
    (fun os started H enc _ => natboxAnew_lifted os started H enc)
theorem natboxAnew_holds : Rows.NatboxAnewSaid := natboxAnew_over
#print axioms natboxAnew_holds
end Go.Proofs.Ytelnfhbccbinlaa
