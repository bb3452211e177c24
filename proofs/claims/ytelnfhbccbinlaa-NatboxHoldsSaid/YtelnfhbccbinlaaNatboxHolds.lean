/- The statement NatboxHolds: for any type, hold, room and list of deeds: a binding is kept as long as it is used, and no longer; each has its own port; there are never more than there is room. No conditions. -/
import Derived.Test.YtelnfhbccbinlaaBoxReg
import Derived.Test.YtelnfhbccbinlaaBoxHold
import Derived.Test.YtelnfhbccbinlaaBoxDeeds
import Derived.ChangeOld
import Derived.ChangeMaps5
import Derived.ShutString
import Derived.OpenShut
import Derived.SizedLaws
import Derived.Lib.QuietBelow
import Derived.BigQuiet
namespace Go.Proofs.Ytelnfhbccbinlaa
open Go.Sort Go.RowKit Go.BigFrame Go.ChangeShapes Go.WideShapes Go.ChangeAt
open Go.ChangeMaps (open_string shut_string)
set_option linter.unusedVariables false
set_option linter.unusedSimpArgs false


theorem hds_right {m f : Int} (hm : 0 ≤ m ∧ m ≤ 2) (hf : 0 ≤ f ∧ f ≤ 2) : rightT m f = true := by
  unfold rightT kiB; simp; omega
theorem hds_badN {m f h : Int} {c : Nat} (hr : rightT m f = true) (h1 : 1 ≤ h) (h2 : h ≤ 30) (c1 : 1 ≤ c) (c2 : c ≤ 6) : badN m f 9 h (c : Nat) = false := by
  unfold badN; rw [hr]; simp; omega
/-- a cell of a block of our own is written -/
theorem L1.setc {B g z : Nat} {x : Bx} {vs : List Value} {w : World} (h : L1 B [(z, vs)] g x w) (k : Nat) (v : Value) (hk : k < vs.length) : L1 B [(z, vs.set k v)] g x (w.setCell ⟨z, k, none⟩ v) := by
  refine ⟨h.t.set (p := ⟨z, k, none⟩) (by simp) v, fun y hy => ?_⟩
  obtain rfl : y = (z, vs.set k v) := by simpa using hy
  exact (h.c.at z vs (by simp)).set k v hk
def HdsJ (B g : Nat) (m f h : Int) (c len : Nat) (w : World) (nv iv : Value) (wr : World) : Prop :=
  ∃ (now : Int) (i : Nat) (l : List Pb), i ≤ len ∧ i ≤ 60 ∧ nv = .int .u64 now ∧ iv = .int .i64 (i : Nat) ∧ 0 ≤ now ∧ now ≤ 7 * i ∧ HoldI h c now l ∧ L1 B [] g ⟨m, f, 9, h, c, l⟩ wr ∧ Below B w wr
def HkJ (bn : Nat) (w8 : World) (kv : Value) (wx : World) : Prop := ∃ k : Nat, k ≤ bn ∧ kv = .int .i64 (k : Nat) ∧ Below w8.heap.size w8 wx
set_option maxHeartbeats 32000000 in
set_option maxRecDepth 100000 in
theorem natboxHolds_walk (t b r h : Int) (a : Option Addr) (len cap : Nat) (c : Nat) (w : World) (hh : 1 + b % 30 = h) (hk : 1 + r % 6 = (c : Int)) (ht0 : 0 ≤ t) (ht1 : t ≤ 255) (hb0 : 0 ≤ b) (hb1 : b ≤ 255) (hr0 : 0 ≤ r) (hr1 : r ≤ 255) (wl : DeedRow w a len cap) :
    Calls Try.prog 6 #[.int .u8 t, .int .u8 b, .int .u8 r, .slice a len cap] w fun e w' => e = .returned (.bool true) ∧ Below w.heap.size w w' := by
  have hm : 0 ≤ t % 3 ∧ t % 3 ≤ 2 := by omega
  have hf : 0 ≤ t / 3 % 3 ∧ t / 3 % 3 ≤ 2 := by omega
  have hc1 : 1 ≤ c := by omega
  have hc2 : c ≤ 6 := by omega
  have hh1 : 1 ≤ h := by omega
  have hh2 : h ≤ 30 := by omega
  have hlen : (len : Int) ≤ 9223372036854775807 := by have := wl.len; omega
  have NB := Lib.hid (hds_badN (hds_right hm hf) hh1 hh2 hc1 hc2)
  have hm3 : t.tmod 3 = t % 3 := tmod_pos _ _ ht0
  have hf3 : (t / 3).tmod 3 = t / 3 % 3 := tmod_pos _ _ (by omega)
  have hb6 : b.tmod 30 = b % 30 := tmod_pos _ _ hb0
  have hr6 : r.tmod 6 = r % 6 := tmod_pos _ _ hr0
  have HF := Lib.hid hf
  have WL := Lib.hid wl
  clear hm hf wl
  go_enter Try.func6, Try.ntmps6
  go_wp2_with fail
  refine (examples_yes _).mono ?_; rintro e w1 ⟨rfl, b1⟩
  have HI := Lib.hid b1
  have h0 : Cl [] w1 := fun x hx => by simp at hx
  have N1 := newL (B := w.heap.size) (l := []) b1.size h0 NB.out (by omega)
  clear b1 h0
  go_wp2_with fail
  refine N1.mono ?_; rintro e w2 ⟨g, rfl, ht, b2⟩
  have HB : Hid (Below w.heap.size w w2) := HI.out.trans (b2.mono HI.out.size)
  have HT := Lib.hid ht
  clear N1 b2 HI ht NB
  go_wp2_with fail
  generalize t % 3 = m at *
  generalize t / 3 % 3 = f at *
  clear hm3 hf3 hb6 hr6
  go_loopw [14, 15] (fun nv iv wr => HdsJ w.heap.size g m f h c len w nv iv wr) (fun _ i _ => len - (intOf i).toNat)
  case atStart => exact ⟨0, 0, [], Nat.zero_le _, Nat.zero_le _, rfl, rfl, by omega, by omega, hold_nil _ _ _, HT.out, HB.out⟩
  case round =>
    obtain ⟨now, i, l, hi, hi60, rfl, rfl, hn0, hn7, hI, hL, hb⟩ := hrel
    clear HT HB
    have hi0 : (0 : Int) ≤ i := by omega
    have HL := Lib.hid hL
    have HB := Lib.hid hb
    have HH := Lib.hid hI
    clear hL hb hI
    by_cases hlt : i < len ∧ i < 60
    · obtain ⟨hlt, hlt6⟩ := hlt
      have hlt' : (i : Int) < len := by omega
      have hlt6' : (i : Int) < 60 := by omega
      have HI1 : Hid (i + 1 ≤ len ∧ i + 1 ≤ 60) := ⟨hlt, hlt6⟩
      obtain ⟨bb, off, rfl, hbl, hcc⟩ := WL.out.at_ (by omega)
      obtain ⟨⟨dk, di, dd, dp, db, da, dc, dr⟩, hd, hc⟩ := hcc i hlt
      have c0 := (HB.out.cell (p := ⟨bb, off + i * 8 + 0, none⟩) hbl).trans (hc 0 _ rfl)
      have c1 := (HB.out.cell (p := ⟨bb, off + i * 8 + 1, none⟩) hbl).trans (hc 1 _ rfl)
      have c2 := (HB.out.cell (p := ⟨bb, off + i * 8 + 2, none⟩) hbl).trans (hc 2 _ rfl)
      have c3 := (HB.out.cell (p := ⟨bb, off + i * 8 + 3, none⟩) hbl).trans (hc 3 _ rfl)
      have c4 := (HB.out.cell (p := ⟨bb, off + i * 8 + 4, none⟩) hbl).trans (hc 4 _ rfl)
      have c5 := (HB.out.cell (p := ⟨bb, off + i * 8 + 5, none⟩) hbl).trans (hc 5 _ rfl)
      have c6 := (HB.out.cell (p := ⟨bb, off + i * 8 + 6, none⟩) hbl).trans (hc 6 _ rfl)
      have c7 := (HB.out.cell (p := ⟨bb, off + i * 8 + 7, none⟩) hbl).trans (hc 7 _ rfl)
      have di0 := bounds_u8 hd.i
      have dd0 := bounds_u8 hd.o
      have db0 := bounds_u8 hd.b
      obtain ⟨di0, di1⟩ := di0
      obtain ⟨dd0, dd1⟩ := dd0
      obtain ⟨db0, db1⟩ := db0
      have q1 : di.tmod 250 = di % 250 := tmod_pos _ _ di0
      have q2 : dd.tmod 250 = dd % 250 := tmod_pos _ _ dd0
      have q3 : db.tmod 8 = db % 8 := tmod_pos _ _ db0
      have hbl' : bb < wr.heap.size := Nat.lt_of_lt_of_le hbl HB.out.size
      simp only [Nat.add_zero] at c0
      clear hcc hc hd
      go_upto_region 17 with fail
      have hei : 0 ≤ di % 250 ∧ di % 250 ≤ 249 := by omega
      have heo : 0 ≤ dd % 250 ∧ dd % 250 ≤ 249 := by omega
      have hnw : now ≤ now + db % 8 ∧ now + db % 8 ≤ 7 * (i : Int) + 7 := by omega
      have HL2 : Hid (L1 w.heap.size [(wr.heap.size, [.int .u8 dk, .int .u8 (di % 250), .int .u8 (dd % 250), .int .u8 dp, .int .u8 db, .int .u32 da, .int .u16 dc, .int .u64 dr])] g ⟨m, f, 9, h, c, l⟩ (wr.alloc (.cells #[.int .u8 dk, .int .u8 (di % 250), .int .u8 (dd % 250), .int .u8 dp, .int .u8 db, .int .u32 da, .int .u16 dc, .int .u64 dr] 40))) := HL.out.alloc [.int .u8 dk, .int .u8 (di % 250), .int .u8 (dd % 250), .int .u8 dp, .int .u8 db, .int .u32 da, .int .u16 dc, .int .u64 dr] 40
      have HW : Hid (Below w.heap.size w (wr.alloc (.cells #[.int .u8 dk, .int .u8 (di % 250), .int .u8 (dd % 250), .int .u8 dp, .int .u8 db, .int .u32 da, .int .u16 dc, .int .u64 dr] 40))) := HB.out.alloc HB.out.size _
      clear HL HB c0 c1 c2 c3 c4 c5 c6 c7 q1 q2 q3
      have HL := HL2
      clear HL2
      generalize (wr.alloc (.cells #[.int .u8 dk, .int .u8 (di % 250), .int .u8 (dd % 250), .int .u8 dp, .int .u8 db, .int .u32 da, .int .u16 dc, .int .u64 dr] 40)) = w4 at *
      generalize wr.heap.size = z at *
      generalize di % 250 = ei at *
      generalize dd % 250 = eo at *
      generalize hnw' : now + db % 8 = nw at *
      clear di0 di1 dd0 dd1 db0 db1
      obtain ⟨hei0, hei1⟩ := hei
      obtain ⟨heo0, heo1⟩ := heo
      obtain ⟨hnw0, hnw1⟩ := hnw
      obtain ⟨A, x, Bl, hO, hx1, hx2, hx3, hx4, hIo⟩ := hold_out (m := m) (now' := nw) (si := innIP ei da) (sp := innPort ei dc) (di := outIP eo da) (dp := outPort eo dc) HH.out hc1 hh1 hnw0
      have hIn := hold_in (f := f) (si := innIP ei da) (sp := innPort ei dc) HF.out hx1 hx2 hx3 hx4 hIo
      have INN := fun w => inner_any dk ei eo dp db da dc dr (by omega) w
      have OUTR := fun w => outer_any dk ei eo dp db da dc dr (by omega) w
      have hsi : innIP ei da = 167772160 + ei % 8 := if_neg (by omega)
      have hsp : innPort ei dc = 7 := if_neg (by omega)
      have hdi : outIP eo da = 50 + eo % 4 := if_neg (by omega)
      have hdp : outPort eo dc = 8 + eo / 4 % 3 := if_neg (by omega)
      have BO := Lib.hid (show badO (innIP ei da) (innPort ei dc) (outIP eo da) (outPort eo dc) nw = false from by
        rw [hsi, hsp, hdi, hdp]; unfold badO noneI; simp; omega)
      have BI0 := Lib.hid (show badI (outIP eo da) (outPort eo dc) nw = false from by
        rw [hdi, hdp]; unfold badI noneI; simp; omega)
      clear hsi hsp hdi hdp hnw'
      generalize innIP ei da = si at *
      generalize innPort ei dc = sp at *
      generalize outIP eo da = oi at *
      generalize outPort eo dc = op at *
      have hpo := @po_mid A Bl x
      generalize x.po = po at *
      have HOUT := Lib.hid hO
      have HIN := Lib.hid hIn
      have HPO := Lib.hid hpo
      have HIO := Lib.hid hIo
      have hLl : 1 ≤ (A ++ x :: Bl).length := by rw [List.length_append, List.length_cons]; omega
      clear hO hIn hpo hIo hx1 hx2 hx3 hx4 HH
      generalize A.length = j at *
      generalize A ++ x :: Bl = l2 at *
      go_cut [17, 18] (fun pv ev wx => OutJ w.heap.size [(z, [.int .u8 dk, .int .u8 ei, .int .u8 eo, .int .u8 dp, .int .u8 db, .int .u32 da, .int .u16 dc, .int .u64 dr])] g ⟨m, f, 9, h, c, l2⟩ 9 po 0 w pv ev wx)
      case first =>
        as_aux_lemma =>
          have kX := HL.out.c.at z [.int .u8 dk, .int .u8 ei, .int .u8 eo, .int .u8 dp, .int .u8 db, .int .u32 da, .int .u16 dc, .int .u64 dr] (by simp)
          have k0 := kX.cell 0 _ rfl
          have k1 := kX.cell 1 _ rfl
          have k2 := kX.cell 2 _ rfl
          have k3 := kX.cell 3 _ rfl
          have k4 := kX.cell 4 _ rfl
          have k5 := kX.cell 5 _ rfl
          have k6 := kX.cell 6 _ rfl
          have k7 := kX.cell 7 _ rfl
          have kl := kX.lt
          have BL := Lib.hid ((Below.refl _ _).drew : Below w4.heap.size w4 w4.drew); go_region_law (first | (go_simp; go_at_call 22; with_reducible refine (INN _).mono ?_; rintro e wN ⟨rfl, dN⟩; (first | (replace ZK := Lib.hid (z_keep ZK.out dN); replace BL := Lib.hid (bl_same BL.out dN)) | (have ZK := Lib.hid (z_newd dN); replace BL := Lib.hid (bl_allocd dN)) | (have ZK := Lib.hid (z_new BL.out dN); replace BL := Lib.hid (bl_alloc BL.out dN)) | (replace BL := Lib.hid (bl_same BL.out dN))); have kX := (HL.out.c.at z [.int .u8 dk, .int .u8 ei, .int .u8 eo, .int .u8 dp, .int .u8 db, .int .u32 da, .int .u16 dc, .int .u64 dr] (by simp)).keep BL.out; have k0 := kX.cell 0 _ rfl; have k1 := kX.cell 1 _ rfl; have k2 := kX.cell 2 _ rfl; have k3 := kX.cell 3 _ rfl; have k4 := kX.cell 4 _ rfl; have k5 := kX.cell 5 _ rfl; have k6 := kX.cell 6 _ rfl; have k7 := kX.cell 7 _ rfl; have kl := kX.lt; clear dN) | (go_simp; go_at_call 14; with_reducible refine (OUTR _).mono ?_; rintro e wN ⟨rfl, dN⟩; (first | (replace ZK := Lib.hid (z_keep ZK.out dN); replace BL := Lib.hid (bl_same BL.out dN)) | (have ZK := Lib.hid (z_newd dN); replace BL := Lib.hid (bl_allocd dN)) | (have ZK := Lib.hid (z_new BL.out dN); replace BL := Lib.hid (bl_alloc BL.out dN)) | (replace BL := Lib.hid (bl_same BL.out dN))); have kX := (HL.out.c.at z [.int .u8 dk, .int .u8 ei, .int .u8 eo, .int .u8 dp, .int .u8 db, .int .u32 da, .int .u16 dc, .int .u64 dr] (by simp)).keep BL.out; have k0 := kX.cell 0 _ rfl; have k1 := kX.cell 1 _ rfl; have k2 := kX.cell 2 _ rfl; have k3 := kX.cell 3 _ rfl; have k4 := kX.cell 4 _ rfl; have k5 := kX.cell 5 _ rfl; have k6 := kX.cell 6 _ rfl; have k7 := kX.cell 7 _ rfl; have kl := kX.lt; clear dN) | (go_simp; go_at_call 21; first | (have MN := (HL.out.add BL.out ZK.out).outx (si := si) (sp := sp) (di := oi) (dp := op) (now := nw) (j := j) (l' := l2) (p := po) BO.out (by omega) HOUT.out HPO.out; (with_reducible refine MN.mono ?_); clear MN; rintro e wO ⟨rfl, hO, bO⟩; have FZ := after_a HL.out HW.out BL.out ZK.out.2 hO bO 9 po 0; have z0 := FZ.2.cell 0 _ rfl; have z1 := FZ.2.cell 1 _ rfl; have zf0 := FZ.2.free 0 _ rfl; have zf1 := FZ.2.free 1 _ rfl; have zl := FZ.2.lt; have FIN := Lib.hid FZ.1; clear FZ hO bO) | (have MN := (HL.out.add (bl_now BL.out _) (z_now BL.out)).outx (si := si) (sp := sp) (di := oi) (dp := op) (now := nw) (j := j) (l' := l2) (p := po) BO.out (by omega) HOUT.out HPO.out; (with_reducible refine MN.mono ?_); clear MN; rintro e wO ⟨rfl, hO, bO⟩; have FZ := after_a HL.out HW.out (bl_now BL.out _) (z_now BL.out).2 hO bO 9 po 0; have z0 := FZ.2.cell 0 _ rfl; have z1 := FZ.2.cell 1 _ rfl; have zf0 := FZ.2.free 0 _ rfl; have zf1 := FZ.2.free 1 _ rfl; have zl := FZ.2.lt; have FIN := Lib.hid FZ.1; clear FZ hO bO) | (have MN := (HL.out.keep BL.out).outx (si := si) (sp := sp) (di := oi) (dp := op) (now := nw) (j := j) (l' := l2) (p := po) BO.out (by omega) HOUT.out HPO.out; (with_reducible refine MN.mono ?_); clear MN; rintro e wO ⟨rfl, hO, bO⟩; have FIN := Lib.hid (after_b HL.out HW.out BL.out hO bO 9 po 0); clear hO bO)))
          all_goals go_wp2_with fail
          all_goals go_meet
          all_goals exact FIN.out
      case rest =>
        obtain ⟨z0, rfl, rfl, hl, hb⟩ := hcut
        generalize wc = w5 at *
        replace HL := Lib.hid hl
        replace HW := Lib.hid hb
        clear hl hb BO HOUT HPO
        go_upto_region 18 with fail
        go_cut [19, 20] (fun pv ev wx => OutJ w.heap.size [(z0, [.int .u32 9, .int .u16 po]), (z, [.int .u8 dk, .int .u8 ei, .int .u8 eo, .int .u8 dp, .int .u8 db, .int .u32 da, .int .u16 dc, .int .u64 dr])] g ⟨m, f, 9, h, c, l2⟩ si sp 0 w pv ev wx)
        case first =>
          as_aux_lemma =>
            have kX := HL.out.c.at z [.int .u8 dk, .int .u8 ei, .int .u8 eo, .int .u8 dp, .int .u8 db, .int .u32 da, .int .u16 dc, .int .u64 dr] (by simp)
            have k0 := kX.cell 0 _ rfl
            have k1 := kX.cell 1 _ rfl
            have k2 := kX.cell 2 _ rfl
            have k3 := kX.cell 3 _ rfl
            have k4 := kX.cell 4 _ rfl
            have k5 := kX.cell 5 _ rfl
            have k6 := kX.cell 6 _ rfl
            have k7 := kX.cell 7 _ rfl
            have kl := kX.lt
            have kY := HL.out.c.at z0 [.int .u32 9, .int .u16 po] (by simp)
            have m0 := kY.cell 0 _ rfl
            have m1 := kY.cell 1 _ rfl
            have ml := kY.lt
            have BL := Lib.hid ((Below.refl _ _).drew : Below w5.heap.size w5 w5.drew); go_region_law (first | (go_simp; go_at_call 14; with_reducible refine (OUTR _).mono ?_; rintro e wN ⟨rfl, dN⟩; (first | (replace ZK := Lib.hid (z_keep ZK.out dN); replace BL := Lib.hid (bl_same BL.out dN)) | (have ZK := Lib.hid (z_newd dN); replace BL := Lib.hid (bl_allocd dN)) | (have ZK := Lib.hid (z_new BL.out dN); replace BL := Lib.hid (bl_alloc BL.out dN)) | (replace BL := Lib.hid (bl_same BL.out dN))); have kX := (HL.out.c.at z [.int .u8 dk, .int .u8 ei, .int .u8 eo, .int .u8 dp, .int .u8 db, .int .u32 da, .int .u16 dc, .int .u64 dr] (by simp)).keep BL.out; have k0 := kX.cell 0 _ rfl; have k1 := kX.cell 1 _ rfl; have k2 := kX.cell 2 _ rfl; have k3 := kX.cell 3 _ rfl; have k4 := kX.cell 4 _ rfl; have k5 := kX.cell 5 _ rfl; have k6 := kX.cell 6 _ rfl; have k7 := kX.cell 7 _ rfl; have kl := kX.lt; have kY := (HL.out.c.at z0 [.int .u32 9, .int .u16 po] (by simp)).keep BL.out; have m0 := kY.cell 0 _ rfl; have m1 := kY.cell 1 _ rfl; have ml := kY.lt; clear dN) | (go_simp; go_at_call 13; first | (have MN := (HL.out.add BL.out ZK.out).inx (si := oi) (sp := op) (now := nw) (port := po) (a := si) (b := sp) (c := 0) (l' := l2) BI0.out (by omega) HIN.out; (with_reducible refine MN.mono ?_); clear MN; rintro e wO ⟨rfl, hO, bO⟩; have FZ := after_a HL.out HW.out BL.out ZK.out.2 hO bO si sp 0; have z0 := FZ.2.cell 0 _ rfl; have z1 := FZ.2.cell 1 _ rfl; have zf0 := FZ.2.free 0 _ rfl; have zf1 := FZ.2.free 1 _ rfl; have zl := FZ.2.lt; have FIN := Lib.hid FZ.1; clear FZ hO bO) | (have MN := (HL.out.add (bl_now BL.out _) (z_now BL.out)).inx (si := oi) (sp := op) (now := nw) (port := po) (a := si) (b := sp) (c := 0) (l' := l2) BI0.out (by omega) HIN.out; (with_reducible refine MN.mono ?_); clear MN; rintro e wO ⟨rfl, hO, bO⟩; have FZ := after_a HL.out HW.out (bl_now BL.out _) (z_now BL.out).2 hO bO si sp 0; have z0 := FZ.2.cell 0 _ rfl; have z1 := FZ.2.cell 1 _ rfl; have zf0 := FZ.2.free 0 _ rfl; have zf1 := FZ.2.free 1 _ rfl; have zl := FZ.2.lt; have FIN := Lib.hid FZ.1; clear FZ hO bO) | (have MN := (HL.out.keep BL.out).inx (si := oi) (sp := op) (now := nw) (port := po) (a := si) (b := sp) (c := 0) (l' := l2) BI0.out (by omega) HIN.out; (with_reducible refine MN.mono ?_); clear MN; rintro e wO ⟨rfl, hO, bO⟩; have FIN := Lib.hid (after_b HL.out HW.out BL.out hO bO si sp 0); clear hO bO)))
            all_goals go_wp2_with fail
            all_goals go_meet
            all_goals exact FIN.out
        case rest =>
          obtain ⟨z1, rfl, rfl, hl, hb⟩ := hcut
          generalize wc = w6 at *
          replace HL := Lib.hid hl
          replace HW := Lib.hid hb
          clear hl hb BI0 HIN
          go_upto_region 19 with fail
          have kX := HL.out.c.at z [.int .u8 dk, .int .u8 ei, .int .u8 eo, .int .u8 dp, .int .u8 db, .int .u32 da, .int .u16 dc, .int .u64 dr] (by simp)
          have e0 := cell_regrown (kX.cell 0 _ rfl)
          have e1 := cell_regrown (kX.cell 1 _ rfl)
          have e2 := cell_regrown (kX.cell 2 _ rfl)
          have e3 := cell_regrown (kX.cell 3 _ rfl)
          have e4 := cell_regrown (kX.cell 4 _ rfl)
          have e5 := cell_regrown (kX.cell 5 _ rfl)
          have e6 := cell_regrown (kX.cell 6 _ rfl)
          have e7 := cell_regrown (kX.cell 7 _ rfl)
          have kY := HL.out.c.at z0 [.int .u32 9, .int .u16 po] (by simp)
          have kZ := HL.out.c.at z1 [.int .u32 si, .int .u16 sp] (by simp)
          have m0 := cell_regrown (kY.cell 0 _ rfl)
          have m1 := cell_regrown (kY.cell 1 _ rfl)
          have n0 := cell_regrown (kZ.cell 0 _ rfl)
          have n1 := cell_regrown (kZ.cell 1 _ rfl)
          clear kX kY kZ
          have C1 := fun d os => Calls.regrown_of (INN (grow (redrawn w6 d) os))
          (refine wp_region_quiet_below (by kernel_rfl) (by kernel_rfl) ?_; (repeat (go_big_quiet_step (first | with_reducible exact C1 _ _))); refine wpQuiet_nil ?_; intro _ hw'; obtain ⟨⟨dq, osq⟩, hw''⟩ := hw'; subst hw'')
          have bq := below_regrown w6 dq osq
          generalize (grow (redrawn w6 dq) osq) = w7 at *
          have HL7 := Lib.hid (HL.out.keep bq)
          have HW7 := Lib.hid (HW.out.trans (bq.mono HW.out.size))
          clear HL HW bq C1 m0 m1 n0 n1 INN OUTR e0 e1 e2 e3 e4 e5 e6 e7
          have BI := bindsO HL7.out.t
          go_wp2_with fail
          refine BI.mono ?_; rintro e w8 ⟨ba, bn, bc, rfl, ⟨hn, M, hM, hr, -⟩, b8⟩
          have HL8 := Lib.hid (HL7.out.keep b8)
          have HW8 := Lib.hid (HW7.out.trans (b8.mono HL7.out.t.1))
          have hMl0 : M.length = bn := by have := congrArg List.length hM; rw [List.length_map] at this; rw [hn]; exact this
          have hb1' : 1 ≤ bn := by rw [hn]; exact hLl
          have hbc : bn ≤ c := by rw [hn]; exact HIO.out.w.len
          have hbc6 : (bn : Int) ≤ 6 := by omega
          have hbcI : (bn : Int) ≤ c := by omega
          have hbcI1 : (1 : Int) ≤ bn := by omega
          have hbg1 : decide ((c : Int) < bn) = false := by rw [decide_eq_false_iff_not]; omega
          have hbg2 : ((bn : Int) == 0) = false := by rw [beq_eq_false_iff_ne]; omega
          have HM := Lib.hid hM
          have HMl := Lib.hid hMl0
          have HR := Lib.hid hr
          clear BI hn hM hr b8 HL7 HW7 hMl0
          go_wp2_with fail
          go_loopw [22] (fun kv wx => HkJ bn w8 kv wx) (fun kv _ => bn - (intOf kv).toNat)
          case atStart => exact ⟨0, Nat.zero_le _, rfl, Below.refl _ _⟩
          case round =>
            obtain ⟨k, hk0, rfl, bk⟩ := hrel
            have HK := Lib.hid bk
            clear bk
            have hkz : (0 : Int) ≤ k := by omega
            by_cases hkl : k < bn
            · have hkl' : (k : Int) < bn := by omega
              have HK1 : Hid (k + 1 ≤ bn) := hkl
              have hkM : k < M.length := by rw [HMl.out]; exact hkl
              obtain ⟨b', off', rfl, hbl2, hcc⟩ := (HR.out.keep HK.out) (by omega)
              have hx : M[k]? = some M[k] := List.getElem?_eq_getElem hkM
              have c4 := cell_regrown (hcc k _ hx 4 _ rfl)
              have c6 := cell_regrown (hcc k _ hx 6 _ rfl)
              have hin : M[k].1 ∈ l2 := by rw [← HM.out]; exact List.mem_map.2 ⟨_, List.getElem_mem hkM, rfl⟩
              have f1 := (HIO.out.un _ hin).1
              have f2 := (HIO.out.un _ hin).2
              have f3 := (HIO.out.w.po _ hin).1
              have f4 := (HIO.out.w.po _ hin).2
              have g1 : decide (M[k].1.un ≤ nw) = false := by rw [decide_eq_false_iff_not]; omega
              have g2 : decide (nw + h < M[k].1.un) = false := by rw [decide_eq_false_iff_not]; omega
              have g3 : decide (M[k].1.po < 20000) = false := by rw [decide_eq_false_iff_not]; omega
              have g4 : decide (20127 < M[k].1.po) = false := by rw [decide_eq_false_iff_not]; omega
              have hMI : (M.length : Int) = bn := by rw [HMl.out]
              by_cases hk00 : k = 0
              · subst hk00
                clear hcc hin
                generalize M[0] = y at *
                obtain ⟨⟨y1, y2, y3, y4, y5, y6, y7⟩, ⟨s1, s2, s3⟩⟩ := y
                simp only [Nat.zero_mul, Nat.add_zero] at c4 c6 g1 g2 g3 g4
                clear f1 f2 f3 f4 hx
                go_upto_region 25 with fail
                (refine wp_region_quiet_below (by kernel_rfl) (by kernel_rfl) ?_; (repeat (go_big_quiet_step (first | with_reducible exact dum _ _))); refine wpQuiet_nil ?_; intro _ hw'; obtain ⟨⟨dq, osq⟩, hw''⟩ := hw'; subst hw'')
                have bq := below_regrown wr dq osq
                go_wp2_with fail
                go_roundw
                case rel => exact ⟨1, HK1.out, by go_num, HK.out.trans (bq.mono HK.out.size)⟩
                case measure => simp [intOf]; omega
              · obtain ⟨k', rfl⟩ : ∃ k', k = k' + 1 := ⟨k - 1, by omega⟩
                have hkM' : k' < M.length := by omega
                have hx' : M[k']? = some M[k'] := List.getElem?_eq_getElem hkM'
                have d4 := cell_regrown (hcc k' _ hx' 4 _ rfl)
                have hr0 : M[k'].1.po < M[k' + 1].1.po := by
                  have h1 := List.pairwise_iff_getElem.1 HIO.out.w.rise k' (k' + 1) (by rw [← HM.out, List.length_map]; omega) (by rw [← HM.out, List.length_map]; omega) (by omega)
                  have h2 := HM.out
                  subst h2
                  simpa using h1
                have g5 : decide (M[k' + 1].1.po ≤ M[k'].1.po) = false := by rw [decide_eq_false_iff_not]; omega
                have hkp : decide ((0 : Int) < ((k' + 1 : Nat) : Int)) = true := by rw [decide_eq_true_iff]; omega
                have hkm : ((k' + 1 : Nat) : Int) - 1 = ((k' : Nat) : Int) := by omega
                have hkl2 : (k' : Int) < bn := by omega
                have hkn : decide (0 < k' + 1) = true := by rw [decide_eq_true_iff]; omega
                clear hcc hin
                generalize M[k' + 1] = y at *
                generalize M[k'] = v at *
                obtain ⟨⟨y1, y2, y3, y4, y5, y6, y7⟩, ⟨s1, s2, s3⟩⟩ := y
                obtain ⟨⟨v1, v2, v3, v4, v5, v6, v7⟩, ⟨r1, r2, r3⟩⟩ := v
                simp only at c4 c6 d4 g1 g2 g3 g4 g5
                clear f1 f2 f3 f4 hx hx' hr0
                generalize hkk : k' + 1 = kk at *
                go_upto_region 25 with fail
                (refine wp_region_quiet_below (by kernel_rfl) (by kernel_rfl) ?_; (repeat (go_big_quiet_step (first | with_reducible exact dum _ _))); refine wpQuiet_nil ?_; intro _ hw'; obtain ⟨⟨dq, osq⟩, hw''⟩ := hw'; subst hw'')
                have bq := below_regrown wr dq osq
                go_wp2_with fail
                go_roundw
                case rel => exact ⟨kk + 1, HK1.out, by go_num, HK.out.trans (bq.mono HK.out.size)⟩
                case measure => simp [intOf]; omega
            · obtain rfl : k = bn := by omega
              go_wp2_with fail
              go_roundw
              case rel => exact ⟨nw, i + 1, l2, HI1.out.1, HI1.out.2, rfl, by go_num, by omega, by push_cast; omega, HIO.out, (HL8.out.keep HK.out).sub (by simp), HW8.out.trans (HK.out.mono HW8.out.size)⟩
              case measure => simp [intOf]; omega
    · by_cases h1 : i < len
      · have h2 : ¬ i < 60 := fun h => hlt ⟨h1, h⟩
        have k1 : (i : Int) < len := by omega
        have k2 : ¬ (i : Int) < 60 := by omega
        have k3 : decide ((i : Int) < 60) = false := by rw [decide_eq_false_iff_not]; omega
        have k4 : (i : Int) ≤ 60 := by omega
        clear hlt
        have BI := bindsO HL.out.t
        clear WL
        go_wp2_with fail
        refine BI.mono ?_; rintro e w3 ⟨ba, bn, bc, rfl, ⟨hn, -⟩, b3⟩
        have hn' : bn = l.length := hn
        have HL3 := Lib.hid (HL.out.keep b3)
        have HB3 := Lib.hid (HB.out.trans (b3.mono HL.out.t.1))
        have S := HL3.out.sweepx (now := now)
        rw [sweep_all HH.out, Int.sub_self] at S
        have e0 : ((l.length : Int) - (([] : List Pb).length : Nat)) = (bn : Int) := by rw [hn']; simp
        have E0 := Lib.hid e0
        clear BI b3 HL HB hn hn' e0
        go_wp2_with fail
        refine S.mono ?_; rintro e w4 ⟨rfl, hL4, b4⟩
        have HB4 := Lib.hid (HB3.out.trans b4)
        clear S
        have S := hL4.sweepx (now := now + h)
        rw [sweep_none HH.out, E0.out] at S
        clear b4 hL4 HB3 HL3 E0
        go_wp2_with fail
        refine S.mono ?_; rintro e w5 ⟨rfl, hL5, b5⟩
        have HB5 := Lib.hid (HB4.out.trans b5)
        have HL5 := Lib.hid hL5
        have BI := bindsO HL5.out.t
        clear S b5 hL5 HB4
        go_wp2_with fail
        refine BI.mono ?_; rintro e w6 ⟨ba2, bn2, bc2, rfl, ⟨hn2, -⟩, b6⟩
        obtain rfl : bn2 = 0 := hn2
        have HB6 := Lib.hid (HB5.out.trans (b6.mono HL5.out.t.1))
        clear BI b6 HB5
        go_wp2_with fail
        go_ret
        exact ⟨rfl, HB6.out⟩
      · have k1 : ¬ (i : Int) < len := by omega
        have k3 : decide ((i : Int) < len) = false := by rw [decide_eq_false_iff_not]; omega
        have k4 : (i : Int) ≤ 60 := by omega
        clear hlt
        have BI := bindsO HL.out.t
        clear WL
        go_wp2_with fail
        refine BI.mono ?_; rintro e w3 ⟨ba, bn, bc, rfl, ⟨hn, -⟩, b3⟩
        have hn' : bn = l.length := hn
        have HL3 := Lib.hid (HL.out.keep b3)
        have HB3 := Lib.hid (HB.out.trans (b3.mono HL.out.t.1))
        have S := HL3.out.sweepx (now := now)
        rw [sweep_all HH.out, Int.sub_self] at S
        have e0 : ((l.length : Int) - (([] : List Pb).length : Nat)) = (bn : Int) := by rw [hn']; simp
        have E0 := Lib.hid e0
        clear BI b3 HL HB hn hn' e0
        go_wp2_with fail
        refine S.mono ?_; rintro e w4 ⟨rfl, hL4, b4⟩
        have HB4 := Lib.hid (HB3.out.trans b4)
        clear S
        have S := hL4.sweepx (now := now + h)
        rw [sweep_none HH.out, E0.out] at S
        clear b4 hL4 HB3 HL3 E0
        go_wp2_with fail
        refine S.mono ?_; rintro e w5 ⟨rfl, hL5, b5⟩
        have HB5 := Lib.hid (HB4.out.trans b5)
        have HL5 := Lib.hid hL5
        have BI := bindsO HL5.out.t
        clear S b5 hL5 HB4
        go_wp2_with fail
        refine BI.mono ?_; rintro e w6 ⟨ba2, bn2, bc2, rfl, ⟨hn2, -⟩, b6⟩
        obtain rfl : bn2 = 0 := hn2
        have HB6 := Lib.hid (HB5.out.trans (b6.mono HL5.out.t.1))
        clear BI b6 HB5
        go_wp2_with fail
        go_ret
        exact ⟨rfl, HB6.out⟩
theorem natboxHolds_run (t b r : Int) (a : Option Addr) (len cap : Nat) (w : World) (h0 : (Lit.int .u8 t).wf = true) (h1 : (Lit.int .u8 b).wf = true) (h2 : (Lit.int .u8 r).wf = true) (wl : DeedRow w a len cap) :
    Calls Try.prog 6 #[.int .u8 t, .int .u8 b, .int .u8 r, .slice a len cap] w fun e w' => e = .returned (.bool true) ∧ Below w.heap.size w w' := by
  obtain ⟨ht0, ht1⟩ := bounds_u8 h0
  obtain ⟨hb0, hb1⟩ := bounds_u8 h1
  obtain ⟨hr0, hr1⟩ := bounds_u8 h2
  obtain ⟨c, hc⟩ : ∃ c : Nat, 1 + r % 6 = (c : Int) := ⟨(1 + r % 6).toNat, by omega⟩
  exact natboxHolds_walk t b r (1 + b % 30) a len cap c w rfl hc ht0 ht1 hb0 hb1 hr0 hr1 wl
theorem natboxHolds_own : ownKnob Try.prog.godebug = none := by kernel_rfl
theorem natboxHolds_laid : laidOutB Try.prog = true := by kernel_rfl
set_option maxRecDepth 100000 in
theorem natboxHolds_lifted (os : Os) (started : os.Started) (H : Type) (enc : TypeId × Value → H) :
    ReturnsInHanded {} Try.checked os 6 .any (Rows.natboxHoldsSpec.pre6 enc Try.prog Try.f6 Rows.natboxHoldsRow.domain false) (Rows.natboxHoldsSpec.post enc Try.prog Try.f6 false true false false) := by
  refine returnsInHanded_of_change (C := Try.checked) natboxHolds_own started (by kernel_rfl) Try.func6
    (ChangeSpec.witness6 (enc := enc) (C := Try.checked) false ⟨#[], #[.int .u8 0, .int .u8 0, .int .u8 0, .slice none 0 0], []⟩ 8 (by kernel_rfl) (by kernel_rfl) (by kernel_rfl) (by kernel_rfl)) ?_
  intro W base args ds gs before hval0 hW hcnd _
  have hval : ∀ (j : Nat) t v, Try.f6.params[j]? = some t → args[j]? = some v → Value.okWide Try.prog W .any base t v := hval0
  have hW' := hW
  obtain ⟨p, q, hA0, hV, rfl, hfz, hnd⟩ := hW
  have hA : DataW.TrodAll enc Try.prog W 0 (fun _ => true) true Try.f6.params.toList args.toList ds p := hA0
  rw [Try.params6] at hA hval
  obtain ⟨v0, vs0, d0, ds0, p0, q0, hargs, rfl, rfl, h0, r0⟩ := trodAll_cons hA
  obtain ⟨v1, vs1, d1, ds1, p1, q1, rfl, rfl, rfl, h1, r1⟩ := trodAll_cons r0
  obtain ⟨v2, vs2, d2, ds2, p2, q2, rfl, rfl, rfl, h2, r2⟩ := trodAll_cons r1
  obtain ⟨v3, vs3, d3, ds3, p3, q3, rfl, rfl, rfl, h3, r3⟩ := trodAll_cons r2
  obtain ⟨rfl, rfl, rfl⟩ := trodAll_nil r3
  obtain rfl : args = #[v0, v1, v2, v3] := by cases args; simp_all
  obtain ⟨rfl, rfl⟩ := trodVars_none hV
  obtain ⟨a0, rfl, rfl, rfl, w0⟩ := open_int Try.underlying5 (hval 0 5 v0 rfl rfl) h0
  obtain ⟨a1, rfl, rfl, rfl, w1⟩ := open_int Try.underlying5 (hval 1 5 v1 rfl rfl) h1
  obtain ⟨a2, rfl, rfl, rfl, w2⟩ := open_int Try.underlying5 (hval 2 5 v2 rfl rfl) h2
  obtain ⟨a3, len3, cap3, rfl⟩ := okWide_slice Try.underlying26 (hval 3 26 v3 rfl rfl)
  have k3 := h3
  have lt3 : ∀ x ∈ p3, x.block < W.heap.size := by obtain ⟨m, hm⟩ := k3; exact DataW.trod_lt m _ _ _ hm
  have w3 : DeedRow W a3 len3 cap3 := by
    obtain ⟨fuel, hf⟩ := h3
    exact deeds_open hf
  clear hA0 hval0
  refine (natboxHolds_run a0 a1 a2 a3 len3 cap3 W w0 w1 w2 w3).mono fun e W' ⟨he, bel⟩ => ?_
  subst he
  exact ⟨_, rfl, _, _, _, [], _, [], hW', trodAll_mk1 (shut_bool Try.underlying4 _), (trodAll_cons_mk (shut_int Try.underlying5 w0) (trodAll_cons_mk (shut_int Try.underlying5 w1) (trodAll_cons_mk (shut_int Try.underlying5 w2) (trodAll_cons_mk (Below.trod natboxHolds_laid (by kernel_rfl) (of_decide_eq_true (by kernel_rfl)) k3 bel lt3) trodAll_mk0)))), rfl, bel.frame _, fun h => by cases h⟩
theorem natboxHolds_over : Rows.natboxHoldsRow.holds Try.pinned (OpenSpec.ofChange Rows.natboxHoldsSpec) :=
  OpenClaim.holds_of_wide 6 Try.f6 rfl rfl rfl rfl rfl rfl rfl ⟨rfl, rfl, rfl, rfl, rfl⟩ rfl rfl rfl rfl rfl (by kernel_rfl) Try.func6 (by kernel_rfl)
    (of_decide_eq_true (by kernel_rfl)) (by unfold Func.isWrapper; first | (rw [if_pos (by decide +kernel)]; kernel_rfl) | (rw [if_neg (by decide +kernel)]; exact ⟨rfl, rfl⟩))
    (fun os started H enc _ => natboxHolds_lifted os started H enc)
theorem natboxHolds_holds : Rows.NatboxHoldsSaid := natboxHolds_over
#print axioms natboxHolds_holds
end Go.Proofs.Ytelnfhbccbinlaa
