/- The statement NatboxMaps: for any type and two outside of few: what one inside sends to them comes from one port just if they go by one key; two inside never share one. No conditions. -/
import Derived.Test.YtelnfhbccbinlaaBoxReg
import Derived.ChangeOld
import Derived.ChangeMaps5
import Derived.ShutString
import Derived.OpenShut
import Derived.SizedLaws
import Derived.Lib.QuietBelow
import Derived.BigQuiet
namespace Go.Proofs.Ytelnfhbccbinlaa
open Go.Sort Go.RowKit Go.BigFrame Go.ChangeShapes Go.WideShapes Go.ChangeAt
open Go.ChangeMaps (open_string shut_string)
set_option linter.unusedVariables false
set_option linter.unusedSimpArgs false

def mp1 (m o : Int) : Nat × List Pb := outP m 50 16 0 167772161 7 (outIP o 0) (outPort o 0) []
def mp2 (m o q : Int) : Nat × List Pb := outP m 50 16 0 167772161 7 (outIP q 0) (outPort q 0) (mp1 m o).2
def mp3 (m o q : Int) : Nat × List Pb := outP m 50 16 0 167772162 7 (outIP o 0) (outPort o 0) (mp2 m o q).2
def mp4 (m o q : Int) : Nat × List Pb := outP m 50 16 3 167772161 7 (outIP o 0) (outPort o 0) (mp3 m o q).2
def mpp1 (m o : Int) : Int := poAt (mp1 m o).2 (mp1 m o).1
def mpp2 (m o q : Int) : Int := poAt (mp2 m o q).2 (mp2 m o q).1
def mpp3 (m o q : Int) : Int := poAt (mp3 m o q).2 (mp3 m o q).1
def mpp4 (m o q : Int) : Int := poAt (mp4 m o q).2 (mp4 m o q).1
theorem mp1_eq (m o : Int) : outP m 50 16 0 167772161 7 (outIP o 0) (outPort o 0) [] = ((mp1 m o).1, (mp1 m o).2) := rfl
theorem mpp1_eq (m o : Int) : poAt (mp1 m o).2 (mp1 m o).1 = mpp1 m o := rfl
theorem mp2_eq (m o q : Int) : outP m 50 16 0 167772161 7 (outIP q 0) (outPort q 0) (mp1 m o).2 = ((mp2 m o q).1, (mp2 m o q).2) := rfl
theorem mpp2_eq (m o q : Int) : poAt (mp2 m o q).2 (mp2 m o q).1 = mpp2 m o q := rfl
theorem mp3_eq (m o q : Int) : outP m 50 16 0 167772162 7 (outIP o 0) (outPort o 0) (mp2 m o q).2 = ((mp3 m o q).1, (mp3 m o q).2) := rfl
theorem mpp3_eq (m o q : Int) : poAt (mp3 m o q).2 (mp3 m o q).1 = mpp3 m o q := rfl
theorem mp4_eq (m o q : Int) : outP m 50 16 3 167772161 7 (outIP o 0) (outPort o 0) (mp3 m o q).2 = ((mp4 m o q).1, (mp4 m o q).2) := rfl
theorem mpp4_eq (m o q : Int) : poAt (mp4 m o q).2 (mp4 m o q).1 = mpp4 m o q := rfl
set_option maxRecDepth 100000 in
theorem maps_fin : ∀ m : Fin 3, ∀ o q : Fin 12, (mpp1 (m.val : Nat) (o.val : Nat) = mpp2 (m.val : Nat) (o.val : Nat) (q.val : Nat) ↔ (keyIP (m.val : Nat) (outIP (o.val : Nat) 0) = keyIP (m.val : Nat) (outIP (q.val : Nat) 0) ∧ keyPort (m.val : Nat) (outPort (o.val : Nat) 0) = keyPort (m.val : Nat) (outPort (q.val : Nat) 0))) ∧ mpp3 (m.val : Nat) (o.val : Nat) (q.val : Nat) ≠ mpp1 (m.val : Nat) (o.val : Nat) ∧ mpp3 (m.val : Nat) (o.val : Nat) (q.val : Nat) ≠ mpp2 (m.val : Nat) (o.val : Nat) (q.val : Nat) ∧ mpp4 (m.val : Nat) (o.val : Nat) (q.val : Nat) = mpp1 (m.val : Nat) (o.val : Nat) := by decide +kernel
theorem maps_fact {m o q : Int} (hm : 0 ≤ m ∧ m ≤ 2) (ho : 0 ≤ o ∧ o < 12) (hq : 0 ≤ q ∧ q < 12) : (mpp1 m o = mpp2 m o q ↔ (keyIP m (outIP o 0) = keyIP m (outIP q 0) ∧ keyPort m (outPort o 0) = keyPort m (outPort q 0))) ∧ mpp3 m o q ≠ mpp1 m o ∧ mpp3 m o q ≠ mpp2 m o q ∧ mpp4 m o q = mpp1 m o := by
  obtain ⟨m', rfl⟩ := Int.eq_ofNat_of_zero_le hm.1
  obtain ⟨o', rfl⟩ := Int.eq_ofNat_of_zero_le ho.1
  obtain ⟨q', rfl⟩ := Int.eq_ofNat_of_zero_le hq.1
  exact maps_fin ⟨m', by omega⟩ ⟨o', by omega⟩ ⟨q', by omega⟩
theorem badN_maps {m f : Int} (h : rightT m f = true) : badN m f 9 50 ((16 : Nat) : Int) = false := by unfold badN; rw [h]; rfl
theorem right_of3 {m f : Int} (hm : 0 ≤ m ∧ m ≤ 2) (hf : 0 ≤ f ∧ f ≤ 2) : rightT m f = true := by
  unfold rightT kiB; simp; omega
theorem badO_maps {si o now : Int} (h1 : ¬ si = 0) (ho : 0 ≤ o ∧ o < 12) (h2 : now ≤ 1000) : badO si 7 (outIP o 0) (outPort o 0) now = false := by
  have h3 : outIP o 0 = 50 + o % 4 := if_neg (by omega)
  have h4 : outPort o 0 = 8 + o / 4 % 3 := if_neg (by omega)
  unfold badO noneI; rw [h3, h4]; simp [h1]; omega
def dee (i o : Int) : List Value := [.int .u8 0, .int .u8 i, .int .u8 o, .int .u8 0, .int .u8 0, .int .u32 0, .int .u16 0, .int .u64 0]
theorem inn1 : innIP 1 0 = 167772161 ∧ innPort 1 0 = 7 ∧ innIP 2 0 = 167772162 ∧ innPort 2 0 = 7 := ⟨rfl, rfl, rfl, rfl⟩
theorem inner_1 (o : Int) (w : World) : Calls Try.prog 22 #[.agg #[.int .u8 0, .int .u8 1, .int .u8 o, .int .u8 0, .int .u8 0, .int .u32 0, .int .u16 0, .int .u64 0]] w fun e w' => e = .returned (.agg #[.int .u32 167772161, .int .u16 7]) ∧ Below w.heap.size w w' := inner_any 0 1 o 0 0 0 0 0 (by omega) w
theorem inner_2 (o : Int) (w : World) : Calls Try.prog 22 #[.agg #[.int .u8 0, .int .u8 2, .int .u8 o, .int .u8 0, .int .u8 0, .int .u32 0, .int .u16 0, .int .u64 0]] w fun e w' => e = .returned (.agg #[.int .u32 167772162, .int .u16 7]) ∧ Below w.heap.size w w' := inner_any 0 2 o 0 0 0 0 0 (by omega) w
set_option maxHeartbeats 32000000 in
set_option maxRecDepth 100000 in
theorem natboxMaps_walk (t a b : Int) (w : World) (ht0 : 0 ≤ t ∧ t ≤ 255) (ha : 0 ≤ a ∧ a ≤ 255) (hb : 0 ≤ b ∧ b ≤ 255) :
    Calls Try.prog 7 #[.int .u8 t, .int .u8 a, .int .u8 b] w fun e w' => e = .returned (.bool true) ∧ Below w.heap.size w w' := by
  obtain ⟨ht0, ht1⟩ := ht0
  obtain ⟨ha0, ha1⟩ := ha
  obtain ⟨hb0, hb1⟩ := hb
  have hm : 0 ≤ t % 3 ∧ t % 3 ≤ 2 := by omega
  have hf : 0 ≤ t / 3 % 3 ∧ t / 3 % 3 ≤ 2 := by omega
  have ho : 0 ≤ a % 12 ∧ a % 12 < 12 := by omega
  have hq : 0 ≤ b % 12 ∧ b % 12 < 12 := by omega
  have FA := Lib.hid (maps_fact hm ho hq)
  have NB := Lib.hid (badN_maps (right_of3 hm hf))
  have hm3 : t.tmod 3 = t % 3 := tmod_pos _ _ ht0
  have hf3 : (t / 3).tmod 3 = t / 3 % 3 := tmod_pos _ _ (by omega)
  have ho3 : a.tmod 12 = a % 12 := tmod_pos _ _ ha0
  have hq3 : b.tmod 12 = b % 12 := tmod_pos _ _ hb0
  have HO := Lib.hid ho
  have HQ := Lib.hid hq
  clear hm hf ho hq
  go_enter Try.func7, Try.ntmps7
  go_wp2_with fail
  refine (examples_yes _).mono ?_; rintro e w1 ⟨rfl, b1⟩
  have HI : Hid (Below w.heap.size w (w1.alloc (.cells #[.int .i64 (t % 3), .int .i64 (t / 3 % 3)] 23))) := b1.alloc b1.size _
  have h0 : Cl [] w1 := fun x hx => by simp at hx
  have h1 := h0.alloc [.int .i64 (t % 3), .int .i64 (t / 3 % 3)] 23
  have N1 := newL (B := w.heap.size) HI.out.size h1 NB.out (by omega)
  clear b1 h0 h1
  go_wp2_with fail
  refine N1.mono ?_; rintro e w2 ⟨g, rfl, hl, b2⟩
  clear N1
  generalize t % 3 = m at *
  generalize t / 3 % 3 = f at *
  generalize a % 12 = o at *
  generalize b % 12 = q at *
  have hb2 := HI.out.trans (b2.mono HI.out.size)
  have HW : Hid (Below w.heap.size w (((w2.alloc (.cells #[.int .u8 0, .int .u8 1, .int .u8 o, .int .u8 0, .int .u8 0, .int .u32 0, .int .u16 0, .int .u64 0] 40)).alloc (.cells #[.int .u8 0, .int .u8 1, .int .u8 q, .int .u8 0, .int .u8 0, .int .u32 0, .int .u16 0, .int .u64 0] 40)).alloc (.cells #[.int .u8 0, .int .u8 2, .int .u8 o, .int .u8 0, .int .u8 0, .int .u32 0, .int .u16 0, .int .u64 0] 40))) := by
    show Below _ _ _
    (have zzh := Below.size hb2; repeat (first | with_reducible exact hb2 | with_reducible refine Below.setCell ?_ (by first | omega | (simp; done) | (simp; omega)) _ | with_reducible refine Below.alloc ?_ (by first | omega | (simp; done) | (simp; omega)) _ | with_reducible refine Below.drew ?_))
  have HL := ((hl.alloc (dee 1 o) 40).alloc (dee 1 q) 40).alloc (dee 2 o) 40
  simp only [World.size_alloc] at HL
  clear hl b2 HI hb2
  have HL0 : Hid (L1 w.heap.size [(w2.heap.size + 1 + 1, dee 2 o), (w2.heap.size + 1, dee 1 q), (w2.heap.size, dee 1 o), (w1.heap.size, [.int .i64 m, .int .i64 f])] g ⟨m, f, 9, 50, 16, []⟩ (((w2.alloc (.cells #[.int .u8 0, .int .u8 1, .int .u8 o, .int .u8 0, .int .u8 0, .int .u32 0, .int .u16 0, .int .u64 0] 40)).alloc (.cells #[.int .u8 0, .int .u8 1, .int .u8 q, .int .u8 0, .int .u8 0, .int .u32 0, .int .u16 0, .int .u64 0] 40)).alloc (.cells #[.int .u8 0, .int .u8 2, .int .u8 o, .int .u8 0, .int .u8 0, .int .u32 0, .int .u16 0, .int .u64 0] 40))) := HL
  clear HL
  have HL := HL0
  clear HL0
  go_upto_region 11 with fail
  generalize (((w2.alloc (.cells #[.int .u8 0, .int .u8 1, .int .u8 o, .int .u8 0, .int .u8 0, .int .u32 0, .int .u16 0, .int .u64 0] 40)).alloc (.cells #[.int .u8 0, .int .u8 1, .int .u8 q, .int .u8 0, .int .u8 0, .int .u32 0, .int .u16 0, .int .u64 0] 40)).alloc (.cells #[.int .u8 0, .int .u8 2, .int .u8 o, .int .u8 0, .int .u8 0, .int .u32 0, .int .u16 0, .int .u64 0] 40)) = w3 at *
  generalize w2.heap.size = s at *
  generalize w1.heap.size = s1 at *
  clear hm3 hf3 ho3 hq3
  go_cut [14, 15] (fun pv ev wx => OutJ w.heap.size [(s + 1 + 1, dee 2 o), (s + 1, dee 1 q), (s, dee 1 o), (s1, [.int .i64 m, .int .i64 f])] g ⟨m, f, 9, 50, 16, (mp1 m o).2⟩ 9 (mpp1 m o) 0 w pv ev wx)
  case first =>
    as_aux_lemma =>
      have kX := HL.out.c.at (s) (dee 1 o) (by simp [dee])
      have k0 := kX.cell 0 _ rfl
      have k1 := kX.cell 1 _ rfl
      have k2 := kX.cell 2 _ rfl
      have k3 := kX.cell 3 _ rfl
      have k4 := kX.cell 4 _ rfl
      have k5 := kX.cell 5 _ rfl
      have k6 := kX.cell 6 _ rfl
      have k7 := kX.cell 7 _ rfl
      have kl := kX.lt
      have BL := Lib.hid ((Below.refl _ _).drew : Below w3.heap.size w3 w3.drew); go_region_law (first | (go_simp; go_at_call 22; with_reducible refine (inner_1 _ _).mono ?_; rintro e wN ⟨rfl, dN⟩; (first | (replace ZK := Lib.hid (z_keep ZK.out dN); replace BL := Lib.hid (bl_same BL.out dN)) | (have ZK := Lib.hid (z_newd dN); replace BL := Lib.hid (bl_allocd dN)) | (have ZK := Lib.hid (z_new BL.out dN); replace BL := Lib.hid (bl_alloc BL.out dN)) | (replace BL := Lib.hid (bl_same BL.out dN))); have kX := (HL.out.c.at (s) (dee 1 o) (by simp [dee])).keep BL.out; have k0 := kX.cell 0 _ rfl; have k1 := kX.cell 1 _ rfl; have k2 := kX.cell 2 _ rfl; have k3 := kX.cell 3 _ rfl; have k4 := kX.cell 4 _ rfl; have k5 := kX.cell 5 _ rfl; have k6 := kX.cell 6 _ rfl; have k7 := kX.cell 7 _ rfl; have kl := kX.lt; clear dN) | (go_simp; go_at_call 14; with_reducible refine (outer_any 0 1 o 0 0 0 0 0 (by have := HO.out; omega) _).mono ?_; rintro e wN ⟨rfl, dN⟩; (first | (replace ZK := Lib.hid (z_keep ZK.out dN); replace BL := Lib.hid (bl_same BL.out dN)) | (have ZK := Lib.hid (z_newd dN); replace BL := Lib.hid (bl_allocd dN)) | (have ZK := Lib.hid (z_new BL.out dN); replace BL := Lib.hid (bl_alloc BL.out dN)) | (replace BL := Lib.hid (bl_same BL.out dN))); have kX := (HL.out.c.at (s) (dee 1 o) (by simp [dee])).keep BL.out; have k0 := kX.cell 0 _ rfl; have k1 := kX.cell 1 _ rfl; have k2 := kX.cell 2 _ rfl; have k3 := kX.cell 3 _ rfl; have k4 := kX.cell 4 _ rfl; have k5 := kX.cell 5 _ rfl; have k6 := kX.cell 6 _ rfl; have k7 := kX.cell 7 _ rfl; have kl := kX.lt; clear dN) | (go_simp; go_at_call 21; first | (have MN := (HL.out.add BL.out ZK.out).outx (si := 167772161) (sp := 7) (di := outIP o 0) (dp := outPort o 0) (now := 0) (j := (mp1 m o).1) (l' := (mp1 m o).2) (p := mpp1 m o) (badO_maps (by omega) HO.out (by omega)) (by omega) (mp1_eq _ _) (mpp1_eq _ _); (with_reducible refine MN.mono ?_); clear MN; rintro e wO ⟨rfl, hO, bO⟩; have FZ := after_a HL.out HW.out BL.out ZK.out.2 hO bO 9 (mpp1 m o) 0; have z0 := FZ.2.cell 0 _ rfl; have z1 := FZ.2.cell 1 _ rfl; have zf0 := FZ.2.free 0 _ rfl; have zf1 := FZ.2.free 1 _ rfl; have zl := FZ.2.lt; have FIN := Lib.hid FZ.1; clear FZ hO bO) | (have MN := (HL.out.add (bl_now BL.out _) (z_now BL.out)).outx (si := 167772161) (sp := 7) (di := outIP o 0) (dp := outPort o 0) (now := 0) (j := (mp1 m o).1) (l' := (mp1 m o).2) (p := mpp1 m o) (badO_maps (by omega) HO.out (by omega)) (by omega) (mp1_eq _ _) (mpp1_eq _ _); (with_reducible refine MN.mono ?_); clear MN; rintro e wO ⟨rfl, hO, bO⟩; have FZ := after_a HL.out HW.out (bl_now BL.out _) (z_now BL.out).2 hO bO 9 (mpp1 m o) 0; have z0 := FZ.2.cell 0 _ rfl; have z1 := FZ.2.cell 1 _ rfl; have zf0 := FZ.2.free 0 _ rfl; have zf1 := FZ.2.free 1 _ rfl; have zl := FZ.2.lt; have FIN := Lib.hid FZ.1; clear FZ hO bO) | (have MN := (HL.out.keep BL.out).outx (si := 167772161) (sp := 7) (di := outIP o 0) (dp := outPort o 0) (now := 0) (j := (mp1 m o).1) (l' := (mp1 m o).2) (p := mpp1 m o) (badO_maps (by omega) HO.out (by omega)) (by omega) (mp1_eq _ _) (mpp1_eq _ _); (with_reducible refine MN.mono ?_); clear MN; rintro e wO ⟨rfl, hO, bO⟩; have FIN := Lib.hid (after_b HL.out HW.out BL.out hO bO 9 (mpp1 m o) 0); clear hO bO)))
      all_goals go_wp2_with fail
      all_goals go_meet
      all_goals exact FIN.out
  case rest =>
    obtain ⟨z0, rfl, rfl, hl, hb⟩ := hcut
    generalize wc = w4 at *
    replace HL := Lib.hid hl
    replace HW := Lib.hid hb
    clear hl hb
    go_upto_region 12 with fail
    go_cut [16, 17] (fun pv ev wx => OutJ w.heap.size ((z0, [.int .u32 9, .int .u16 (mpp1 m o)]) :: [(s + 1 + 1, dee 2 o), (s + 1, dee 1 q), (s, dee 1 o), (s1, [.int .i64 m, .int .i64 f])]) g ⟨m, f, 9, 50, 16, (mp2 m o q).2⟩ 9 (mpp2 m o q) 0 w pv ev wx)
    case first =>
      as_aux_lemma =>
        have kX := HL.out.c.at (s + 1) (dee 1 q) (by simp [dee])
        have k0 := kX.cell 0 _ rfl
        have k1 := kX.cell 1 _ rfl
        have k2 := kX.cell 2 _ rfl
        have k3 := kX.cell 3 _ rfl
        have k4 := kX.cell 4 _ rfl
        have k5 := kX.cell 5 _ rfl
        have k6 := kX.cell 6 _ rfl
        have k7 := kX.cell 7 _ rfl
        have kl := kX.lt
        have BL := Lib.hid ((Below.refl _ _).drew : Below w4.heap.size w4 w4.drew); go_region_law (first | (go_simp; go_at_call 22; with_reducible refine (inner_1 _ _).mono ?_; rintro e wN ⟨rfl, dN⟩; (first | (replace ZK := Lib.hid (z_keep ZK.out dN); replace BL := Lib.hid (bl_same BL.out dN)) | (have ZK := Lib.hid (z_newd dN); replace BL := Lib.hid (bl_allocd dN)) | (have ZK := Lib.hid (z_new BL.out dN); replace BL := Lib.hid (bl_alloc BL.out dN)) | (replace BL := Lib.hid (bl_same BL.out dN))); have kX := (HL.out.c.at (s + 1) (dee 1 q) (by simp [dee])).keep BL.out; have k0 := kX.cell 0 _ rfl; have k1 := kX.cell 1 _ rfl; have k2 := kX.cell 2 _ rfl; have k3 := kX.cell 3 _ rfl; have k4 := kX.cell 4 _ rfl; have k5 := kX.cell 5 _ rfl; have k6 := kX.cell 6 _ rfl; have k7 := kX.cell 7 _ rfl; have kl := kX.lt; clear dN) | (go_simp; go_at_call 14; with_reducible refine (outer_any 0 1 q 0 0 0 0 0 (by have := HQ.out; omega) _).mono ?_; rintro e wN ⟨rfl, dN⟩; (first | (replace ZK := Lib.hid (z_keep ZK.out dN); replace BL := Lib.hid (bl_same BL.out dN)) | (have ZK := Lib.hid (z_newd dN); replace BL := Lib.hid (bl_allocd dN)) | (have ZK := Lib.hid (z_new BL.out dN); replace BL := Lib.hid (bl_alloc BL.out dN)) | (replace BL := Lib.hid (bl_same BL.out dN))); have kX := (HL.out.c.at (s + 1) (dee 1 q) (by simp [dee])).keep BL.out; have k0 := kX.cell 0 _ rfl; have k1 := kX.cell 1 _ rfl; have k2 := kX.cell 2 _ rfl; have k3 := kX.cell 3 _ rfl; have k4 := kX.cell 4 _ rfl; have k5 := kX.cell 5 _ rfl; have k6 := kX.cell 6 _ rfl; have k7 := kX.cell 7 _ rfl; have kl := kX.lt; clear dN) | (go_simp; go_at_call 21; first | (have MN := (HL.out.add BL.out ZK.out).outx (si := 167772161) (sp := 7) (di := outIP q 0) (dp := outPort q 0) (now := 0) (j := (mp2 m o q).1) (l' := (mp2 m o q).2) (p := mpp2 m o q) (badO_maps (by omega) HQ.out (by omega)) (by omega) (mp2_eq _ _ _) (mpp2_eq _ _ _); (with_reducible refine MN.mono ?_); clear MN; rintro e wO ⟨rfl, hO, bO⟩; have FZ := after_a HL.out HW.out BL.out ZK.out.2 hO bO 9 (mpp2 m o q) 0; have z0 := FZ.2.cell 0 _ rfl; have z1 := FZ.2.cell 1 _ rfl; have zf0 := FZ.2.free 0 _ rfl; have zf1 := FZ.2.free 1 _ rfl; have zl := FZ.2.lt; have FIN := Lib.hid FZ.1; clear FZ hO bO) | (have MN := (HL.out.add (bl_now BL.out _) (z_now BL.out)).outx (si := 167772161) (sp := 7) (di := outIP q 0) (dp := outPort q 0) (now := 0) (j := (mp2 m o q).1) (l' := (mp2 m o q).2) (p := mpp2 m o q) (badO_maps (by omega) HQ.out (by omega)) (by omega) (mp2_eq _ _ _) (mpp2_eq _ _ _); (with_reducible refine MN.mono ?_); clear MN; rintro e wO ⟨rfl, hO, bO⟩; have FZ := after_a HL.out HW.out (bl_now BL.out _) (z_now BL.out).2 hO bO 9 (mpp2 m o q) 0; have z0 := FZ.2.cell 0 _ rfl; have z1 := FZ.2.cell 1 _ rfl; have zf0 := FZ.2.free 0 _ rfl; have zf1 := FZ.2.free 1 _ rfl; have zl := FZ.2.lt; have FIN := Lib.hid FZ.1; clear FZ hO bO) | (have MN := (HL.out.keep BL.out).outx (si := 167772161) (sp := 7) (di := outIP q 0) (dp := outPort q 0) (now := 0) (j := (mp2 m o q).1) (l' := (mp2 m o q).2) (p := mpp2 m o q) (badO_maps (by omega) HQ.out (by omega)) (by omega) (mp2_eq _ _ _) (mpp2_eq _ _ _); (with_reducible refine MN.mono ?_); clear MN; rintro e wO ⟨rfl, hO, bO⟩; have FIN := Lib.hid (after_b HL.out HW.out BL.out hO bO 9 (mpp2 m o q) 0); clear hO bO)))
        all_goals go_wp2_with fail
        all_goals go_meet
        all_goals exact FIN.out
    case rest =>
      obtain ⟨z1, rfl, rfl, hl, hb⟩ := hcut
      generalize wc = w5 at *
      replace HL := Lib.hid hl
      replace HW := Lib.hid hb
      clear hl hb
      go_upto_region 13 with fail
      go_cut [18, 19] (fun pv ev wx => OutJ w.heap.size ((z1, [.int .u32 9, .int .u16 (mpp2 m o q)]) :: ((z0, [.int .u32 9, .int .u16 (mpp1 m o)]) :: [(s + 1 + 1, dee 2 o), (s + 1, dee 1 q), (s, dee 1 o), (s1, [.int .i64 m, .int .i64 f])])) g ⟨m, f, 9, 50, 16, (mp3 m o q).2⟩ 9 (mpp3 m o q) 0 w pv ev wx)
      case first =>
        as_aux_lemma =>
          have kX := HL.out.c.at (s + 1 + 1) (dee 2 o) (by simp [dee])
          have k0 := kX.cell 0 _ rfl
          have k1 := kX.cell 1 _ rfl
          have k2 := kX.cell 2 _ rfl
          have k3 := kX.cell 3 _ rfl
          have k4 := kX.cell 4 _ rfl
          have k5 := kX.cell 5 _ rfl
          have k6 := kX.cell 6 _ rfl
          have k7 := kX.cell 7 _ rfl
          have kl := kX.lt
          have BL := Lib.hid ((Below.refl _ _).drew : Below w5.heap.size w5 w5.drew); go_region_law (first | (go_simp; go_at_call 22; with_reducible refine (inner_2 _ _).mono ?_; rintro e wN ⟨rfl, dN⟩; (first | (replace ZK := Lib.hid (z_keep ZK.out dN); replace BL := Lib.hid (bl_same BL.out dN)) | (have ZK := Lib.hid (z_newd dN); replace BL := Lib.hid (bl_allocd dN)) | (have ZK := Lib.hid (z_new BL.out dN); replace BL := Lib.hid (bl_alloc BL.out dN)) | (replace BL := Lib.hid (bl_same BL.out dN))); have kX := (HL.out.c.at (s + 1 + 1) (dee 2 o) (by simp [dee])).keep BL.out; have k0 := kX.cell 0 _ rfl; have k1 := kX.cell 1 _ rfl; have k2 := kX.cell 2 _ rfl; have k3 := kX.cell 3 _ rfl; have k4 := kX.cell 4 _ rfl; have k5 := kX.cell 5 _ rfl; have k6 := kX.cell 6 _ rfl; have k7 := kX.cell 7 _ rfl; have kl := kX.lt; clear dN) | (go_simp; go_at_call 14; with_reducible refine (outer_any 0 2 o 0 0 0 0 0 (by have := HO.out; omega) _).mono ?_; rintro e wN ⟨rfl, dN⟩; (first | (replace ZK := Lib.hid (z_keep ZK.out dN); replace BL := Lib.hid (bl_same BL.out dN)) | (have ZK := Lib.hid (z_newd dN); replace BL := Lib.hid (bl_allocd dN)) | (have ZK := Lib.hid (z_new BL.out dN); replace BL := Lib.hid (bl_alloc BL.out dN)) | (replace BL := Lib.hid (bl_same BL.out dN))); have kX := (HL.out.c.at (s + 1 + 1) (dee 2 o) (by simp [dee])).keep BL.out; have k0 := kX.cell 0 _ rfl; have k1 := kX.cell 1 _ rfl; have k2 := kX.cell 2 _ rfl; have k3 := kX.cell 3 _ rfl; have k4 := kX.cell 4 _ rfl; have k5 := kX.cell 5 _ rfl; have k6 := kX.cell 6 _ rfl; have k7 := kX.cell 7 _ rfl; have kl := kX.lt; clear dN) | (go_simp; go_at_call 21; first | (have MN := (HL.out.add BL.out ZK.out).outx (si := 167772162) (sp := 7) (di := outIP o 0) (dp := outPort o 0) (now := 0) (j := (mp3 m o q).1) (l' := (mp3 m o q).2) (p := mpp3 m o q) (badO_maps (by omega) HO.out (by omega)) (by omega) (mp3_eq _ _ _) (mpp3_eq _ _ _); (with_reducible refine MN.mono ?_); clear MN; rintro e wO ⟨rfl, hO, bO⟩; have FZ := after_a HL.out HW.out BL.out ZK.out.2 hO bO 9 (mpp3 m o q) 0; have z0 := FZ.2.cell 0 _ rfl; have z1 := FZ.2.cell 1 _ rfl; have zf0 := FZ.2.free 0 _ rfl; have zf1 := FZ.2.free 1 _ rfl; have zl := FZ.2.lt; have FIN := Lib.hid FZ.1; clear FZ hO bO) | (have MN := (HL.out.add (bl_now BL.out _) (z_now BL.out)).outx (si := 167772162) (sp := 7) (di := outIP o 0) (dp := outPort o 0) (now := 0) (j := (mp3 m o q).1) (l' := (mp3 m o q).2) (p := mpp3 m o q) (badO_maps (by omega) HO.out (by omega)) (by omega) (mp3_eq _ _ _) (mpp3_eq _ _ _); (with_reducible refine MN.mono ?_); clear MN; rintro e wO ⟨rfl, hO, bO⟩; have FZ := after_a HL.out HW.out (bl_now BL.out _) (z_now BL.out).2 hO bO 9 (mpp3 m o q) 0; have z0 := FZ.2.cell 0 _ rfl; have z1 := FZ.2.cell 1 _ rfl; have zf0 := FZ.2.free 0 _ rfl; have zf1 := FZ.2.free 1 _ rfl; have zl := FZ.2.lt; have FIN := Lib.hid FZ.1; clear FZ hO bO) | (have MN := (HL.out.keep BL.out).outx (si := 167772162) (sp := 7) (di := outIP o 0) (dp := outPort o 0) (now := 0) (j := (mp3 m o q).1) (l' := (mp3 m o q).2) (p := mpp3 m o q) (badO_maps (by omega) HO.out (by omega)) (by omega) (mp3_eq _ _ _) (mpp3_eq _ _ _); (with_reducible refine MN.mono ?_); clear MN; rintro e wO ⟨rfl, hO, bO⟩; have FIN := Lib.hid (after_b HL.out HW.out BL.out hO bO 9 (mpp3 m o q) 0); clear hO bO)))
          all_goals go_wp2_with fail
          all_goals go_meet
          all_goals exact FIN.out
      case rest =>
        obtain ⟨z2, rfl, rfl, hl, hb⟩ := hcut
        generalize wc = w6 at *
        replace HL := Lib.hid hl
        replace HW := Lib.hid hb
        clear hl hb
        go_upto_region 14 with fail
        go_cut [20, 21] (fun pv ev wx => OutJ w.heap.size ((z2, [.int .u32 9, .int .u16 (mpp3 m o q)]) :: ((z1, [.int .u32 9, .int .u16 (mpp2 m o q)]) :: ((z0, [.int .u32 9, .int .u16 (mpp1 m o)]) :: [(s + 1 + 1, dee 2 o), (s + 1, dee 1 q), (s, dee 1 o), (s1, [.int .i64 m, .int .i64 f])]))) g ⟨m, f, 9, 50, 16, (mp4 m o q).2⟩ 9 (mpp4 m o q) 0 w pv ev wx)
        case first =>
          as_aux_lemma =>
            have kX := HL.out.c.at (s) (dee 1 o) (by simp [dee])
            have k0 := kX.cell 0 _ rfl
            have k1 := kX.cell 1 _ rfl
            have k2 := kX.cell 2 _ rfl
            have k3 := kX.cell 3 _ rfl
            have k4 := kX.cell 4 _ rfl
            have k5 := kX.cell 5 _ rfl
            have k6 := kX.cell 6 _ rfl
            have k7 := kX.cell 7 _ rfl
            have kl := kX.lt
            have BL := Lib.hid ((Below.refl _ _).drew : Below w6.heap.size w6 w6.drew); go_region_law (first | (go_simp; go_at_call 22; with_reducible refine (inner_1 _ _).mono ?_; rintro e wN ⟨rfl, dN⟩; (first | (replace ZK := Lib.hid (z_keep ZK.out dN); replace BL := Lib.hid (bl_same BL.out dN)) | (have ZK := Lib.hid (z_newd dN); replace BL := Lib.hid (bl_allocd dN)) | (have ZK := Lib.hid (z_new BL.out dN); replace BL := Lib.hid (bl_alloc BL.out dN)) | (replace BL := Lib.hid (bl_same BL.out dN))); have kX := (HL.out.c.at (s) (dee 1 o) (by simp [dee])).keep BL.out; have k0 := kX.cell 0 _ rfl; have k1 := kX.cell 1 _ rfl; have k2 := kX.cell 2 _ rfl; have k3 := kX.cell 3 _ rfl; have k4 := kX.cell 4 _ rfl; have k5 := kX.cell 5 _ rfl; have k6 := kX.cell 6 _ rfl; have k7 := kX.cell 7 _ rfl; have kl := kX.lt; clear dN) | (go_simp; go_at_call 14; with_reducible refine (outer_any 0 1 o 0 0 0 0 0 (by have := HO.out; omega) _).mono ?_; rintro e wN ⟨rfl, dN⟩; (first | (replace ZK := Lib.hid (z_keep ZK.out dN); replace BL := Lib.hid (bl_same BL.out dN)) | (have ZK := Lib.hid (z_newd dN); replace BL := Lib.hid (bl_allocd dN)) | (have ZK := Lib.hid (z_new BL.out dN); replace BL := Lib.hid (bl_alloc BL.out dN)) | (replace BL := Lib.hid (bl_same BL.out dN))); have kX := (HL.out.c.at (s) (dee 1 o) (by simp [dee])).keep BL.out; have k0 := kX.cell 0 _ rfl; have k1 := kX.cell 1 _ rfl; have k2 := kX.cell 2 _ rfl; have k3 := kX.cell 3 _ rfl; have k4 := kX.cell 4 _ rfl; have k5 := kX.cell 5 _ rfl; have k6 := kX.cell 6 _ rfl; have k7 := kX.cell 7 _ rfl; have kl := kX.lt; clear dN) | (go_simp; go_at_call 21; first | (have MN := (HL.out.add BL.out ZK.out).outx (si := 167772161) (sp := 7) (di := outIP o 0) (dp := outPort o 0) (now := 3) (j := (mp4 m o q).1) (l' := (mp4 m o q).2) (p := mpp4 m o q) (badO_maps (by omega) HO.out (by omega)) (by omega) (mp4_eq _ _ _) (mpp4_eq _ _ _); (with_reducible refine MN.mono ?_); clear MN; rintro e wO ⟨rfl, hO, bO⟩; have FZ := after_a HL.out HW.out BL.out ZK.out.2 hO bO 9 (mpp4 m o q) 0; have z0 := FZ.2.cell 0 _ rfl; have z1 := FZ.2.cell 1 _ rfl; have zf0 := FZ.2.free 0 _ rfl; have zf1 := FZ.2.free 1 _ rfl; have zl := FZ.2.lt; have FIN := Lib.hid FZ.1; clear FZ hO bO) | (have MN := (HL.out.add (bl_now BL.out _) (z_now BL.out)).outx (si := 167772161) (sp := 7) (di := outIP o 0) (dp := outPort o 0) (now := 3) (j := (mp4 m o q).1) (l' := (mp4 m o q).2) (p := mpp4 m o q) (badO_maps (by omega) HO.out (by omega)) (by omega) (mp4_eq _ _ _) (mpp4_eq _ _ _); (with_reducible refine MN.mono ?_); clear MN; rintro e wO ⟨rfl, hO, bO⟩; have FZ := after_a HL.out HW.out (bl_now BL.out _) (z_now BL.out).2 hO bO 9 (mpp4 m o q) 0; have z0 := FZ.2.cell 0 _ rfl; have z1 := FZ.2.cell 1 _ rfl; have zf0 := FZ.2.free 0 _ rfl; have zf1 := FZ.2.free 1 _ rfl; have zl := FZ.2.lt; have FIN := Lib.hid FZ.1; clear FZ hO bO) | (have MN := (HL.out.keep BL.out).outx (si := 167772161) (sp := 7) (di := outIP o 0) (dp := outPort o 0) (now := 3) (j := (mp4 m o q).1) (l' := (mp4 m o q).2) (p := mpp4 m o q) (badO_maps (by omega) HO.out (by omega)) (by omega) (mp4_eq _ _ _) (mpp4_eq _ _ _); (with_reducible refine MN.mono ?_); clear MN; rintro e wO ⟨rfl, hO, bO⟩; have FIN := Lib.hid (after_b HL.out HW.out BL.out hO bO 9 (mpp4 m o q) 0); clear hO bO)))
            all_goals go_wp2_with fail
            all_goals go_meet
            all_goals exact FIN.out
        case rest =>
          obtain ⟨z3, rfl, rfl, hl, hb⟩ := hcut
          generalize wc = w7 at *
          replace HL := Lib.hid hl
          replace HW := Lib.hid hb
          clear hl hb
          go_upto_region 15 with fail
          have e0 := HL.out.c.at (z0) ([.int .u32 9, .int .u16 (mpp1 m o)]) (by simp)
          have e0_0 := cell_regrown (e0.cell 0 _ rfl)
          have e0_1 := cell_regrown (e0.cell 1 _ rfl)
          have e0_0p := e0.cell 0 _ rfl
          have e0_1p := e0.cell 1 _ rfl
          have e0_l := e0.lt
          clear e0
          have e1 := HL.out.c.at (z1) ([.int .u32 9, .int .u16 (mpp2 m o q)]) (by simp)
          have e1_0 := cell_regrown (e1.cell 0 _ rfl)
          have e1_1 := cell_regrown (e1.cell 1 _ rfl)
          have e1_0p := e1.cell 0 _ rfl
          have e1_1p := e1.cell 1 _ rfl
          have e1_l := e1.lt
          clear e1
          have e2 := HL.out.c.at (z2) ([.int .u32 9, .int .u16 (mpp3 m o q)]) (by simp)
          have e2_0 := cell_regrown (e2.cell 0 _ rfl)
          have e2_1 := cell_regrown (e2.cell 1 _ rfl)
          have e2_0p := e2.cell 0 _ rfl
          have e2_1p := e2.cell 1 _ rfl
          have e2_l := e2.lt
          clear e2
          have e3 := HL.out.c.at (z3) ([.int .u32 9, .int .u16 (mpp4 m o q)]) (by simp)
          have e3_0 := cell_regrown (e3.cell 0 _ rfl)
          have e3_1 := cell_regrown (e3.cell 1 _ rfl)
          have e3_0p := e3.cell 0 _ rfl
          have e3_1p := e3.cell 1 _ rfl
          have e3_l := e3.lt
          clear e3
          have et := HL.out.c.at (s1) ([.int .i64 m, .int .i64 f]) (by simp)
          have et_0 := cell_regrown (et.cell 0 _ rfl)
          have et_1 := cell_regrown (et.cell 1 _ rfl)
          have et_0p := et.cell 0 _ rfl
          have et_1p := et.cell 1 _ rfl
          have et_l := et.lt
          clear et
          have ea := HL.out.c.at (s) (dee 1 o) (by simp [dee])
          have ea_0 := cell_regrown (ea.cell 0 _ rfl)
          have ea_1 := cell_regrown (ea.cell 1 _ rfl)
          have ea_2 := cell_regrown (ea.cell 2 _ rfl)
          have ea_3 := cell_regrown (ea.cell 3 _ rfl)
          have ea_4 := cell_regrown (ea.cell 4 _ rfl)
          have ea_5 := cell_regrown (ea.cell 5 _ rfl)
          have ea_6 := cell_regrown (ea.cell 6 _ rfl)
          have ea_7 := cell_regrown (ea.cell 7 _ rfl)
          have ea_0p := ea.cell 0 _ rfl
          have ea_1p := ea.cell 1 _ rfl
          have ea_2p := ea.cell 2 _ rfl
          have ea_3p := ea.cell 3 _ rfl
          have ea_4p := ea.cell 4 _ rfl
          have ea_5p := ea.cell 5 _ rfl
          have ea_6p := ea.cell 6 _ rfl
          have ea_7p := ea.cell 7 _ rfl
          have ea_l := ea.lt
          clear ea
          have eb := HL.out.c.at (s + 1) (dee 1 q) (by simp [dee])
          have eb_0 := cell_regrown (eb.cell 0 _ rfl)
          have eb_1 := cell_regrown (eb.cell 1 _ rfl)
          have eb_2 := cell_regrown (eb.cell 2 _ rfl)
          have eb_3 := cell_regrown (eb.cell 3 _ rfl)
          have eb_4 := cell_regrown (eb.cell 4 _ rfl)
          have eb_5 := cell_regrown (eb.cell 5 _ rfl)
          have eb_6 := cell_regrown (eb.cell 6 _ rfl)
          have eb_7 := cell_regrown (eb.cell 7 _ rfl)
          have eb_0p := eb.cell 0 _ rfl
          have eb_1p := eb.cell 1 _ rfl
          have eb_2p := eb.cell 2 _ rfl
          have eb_3p := eb.cell 3 _ rfl
          have eb_4p := eb.cell 4 _ rfl
          have eb_5p := eb.cell 5 _ rfl
          have eb_6p := eb.cell 6 _ rfl
          have eb_7p := eb.cell 7 _ rfl
          have eb_l := eb.lt
          clear eb
          have C1 := fun d os => Calls.regrown_of (outer_any 0 1 o 0 0 0 0 0 (by have := HO.out; omega) (grow (redrawn w7 d) os))
          have C2 := fun d os => Calls.regrown_of (outer_any 0 1 q 0 0 0 0 0 (by have := HQ.out; omega) (grow (redrawn w7 d) os))
          have C3 := fun d os => Calls.regrown_of (key_any m f (outIP o 0) (outPort o 0) (grow (redrawn w7 d) os))
          have C4 := fun d os => Calls.regrown_of (key_any m f (outIP q 0) (outPort q 0) (grow (redrawn w7 d) os))
          have FB := FA.out
          clear FA HL NB HO HQ
          obtain ⟨F1, F2, F3, F4⟩ := FB
          generalize keyIP m (outIP o 0) = j1 at *
          generalize keyPort m (outPort o 0) = j2 at *
          generalize keyIP m (outIP q 0) = j3 at *
          generalize keyPort m (outPort q 0) = j4 at *
          generalize mpp4 m o q = x4 at *
          generalize mpp3 m o q = x3 at *
          generalize mpp2 m o q = x2 at *
          generalize mpp1 m o = x1 at *
          subst F4
          by_cases K : j1 = j3 ∧ j2 = j4
          · obtain ⟨rfl, rfl⟩ := K
            obtain rfl := F1.2 ⟨rfl, rfl⟩
            clear F1 F3
            (refine wp_region_quiet_below (by kernel_rfl) (by kernel_rfl) ?_; (repeat (go_big_quiet_step (first | with_reducible exact C1 _ _ | with_reducible exact C2 _ _ | with_reducible exact C3 _ _ | with_reducible exact C4 _ _))); refine wpQuiet_nil ?_; intro _ hw'; obtain ⟨⟨dq, osq⟩, hw''⟩ := hw'; subst hw'')
            go_wp2
            go_ret
            exact ⟨rfl, HW.out.trans ((below_regrown w7 dq osq).mono HW.out.size)⟩
          · have F5 : ¬ x4 = x2 := fun h => K (F1.1 h)
            by_cases K1 : j1 = j3
            · have K2 : ¬ j2 = j4 := fun h => K ⟨K1, h⟩
              subst K1
              clear F1 K
              (refine wp_region_quiet_below (by kernel_rfl) (by kernel_rfl) ?_; (repeat (go_big_quiet_step (first | with_reducible exact C1 _ _ | with_reducible exact C2 _ _ | with_reducible exact C3 _ _ | with_reducible exact C4 _ _))); refine wpQuiet_nil ?_; intro _ hw'; obtain ⟨⟨dq, osq⟩, hw''⟩ := hw'; subst hw'')
              go_wp2
              go_ret
              exact ⟨rfl, HW.out.trans ((below_regrown w7 dq osq).mono HW.out.size)⟩
            · clear F1 K
              (refine wp_region_quiet_below (by kernel_rfl) (by kernel_rfl) ?_; (repeat (go_big_quiet_step (first | with_reducible exact C1 _ _ | with_reducible exact C2 _ _ | with_reducible exact C3 _ _ | with_reducible exact C4 _ _))); refine wpQuiet_nil ?_; intro _ hw'; obtain ⟨⟨dq, osq⟩, hw''⟩ := hw'; subst hw'')
              go_wp2
              go_ret
              exact ⟨rfl, HW.out.trans ((below_regrown w7 dq osq).mono HW.out.size)⟩
theorem natboxMaps_run (t a b : Int) (w : World) (h0 : (Lit.int .u8 t).wf = true) (h1 : (Lit.int .u8 a).wf = true) (h2 : (Lit.int .u8 b).wf = true) :
    Calls Try.prog 7 #[.int .u8 t, .int .u8 a, .int .u8 b] w fun e w' => e = .returned (.bool true) ∧ Below w.heap.size w w' := by
  have b0 := bounds_u8 h0
  have b1 := bounds_u8 h1
  have b2 := bounds_u8 h2
  exact natboxMaps_walk t a b w b0 b1 b2
theorem natboxMaps_own : ownKnob Try.prog.godebug = none := by kernel_rfl
theorem natboxMaps_laid : laidOutB Try.prog = true := by kernel_rfl
set_option maxRecDepth 100000 in
theorem natboxMaps_lifted (os : Os) (started : os.Started) (H : Type) (enc : TypeId × Value → H) :
    ReturnsInHanded {} Try.checked os 7 .any (Rows.natboxMapsSpec.pre6 enc Try.prog Try.f7 Rows.natboxMapsRow.domain false) (Rows.natboxMapsSpec.post enc Try.prog Try.f7 false true false false) := by
  refine returnsInHanded_of_change (C := Try.checked) natboxMaps_own started (by kernel_rfl) Try.func7
    (ChangeSpec.witness6 (enc := enc) (C := Try.checked) false ⟨#[], #[.int .u8 0, .int .u8 0, .int .u8 0], []⟩ 8 (by kernel_rfl) (by kernel_rfl) (by kernel_rfl) (by kernel_rfl)) ?_
  intro W base args ds gs before hval0 hW hcnd _
  have hval : ∀ (j : Nat) t v, Try.f7.params[j]? = some t → args[j]? = some v → Value.okWide Try.prog W .any base t v := hval0
  have hW' := hW
  obtain ⟨p, q, hA0, hV, rfl, hfz, hnd⟩ := hW
  have hA : DataW.TrodAll enc Try.prog W 0 (fun _ => true) true Try.f7.params.toList args.toList ds p := hA0
  rw [Try.params7] at hA hval
  obtain ⟨v0, vs0, d0, ds0, p0, q0, hargs, rfl, rfl, h0, r0⟩ := trodAll_cons hA
  obtain ⟨v1, vs1, d1, ds1, p1, q1, rfl, rfl, rfl, h1, r1⟩ := trodAll_cons r0
  obtain ⟨v2, vs2, d2, ds2, p2, q2, rfl, rfl, rfl, h2, r2⟩ := trodAll_cons r1
  obtain ⟨rfl, rfl, rfl⟩ := trodAll_nil r2
  obtain rfl : args = #[v0, v1, v2] := by cases args; simp_all
  obtain ⟨rfl, rfl⟩ := trodVars_none hV
  obtain ⟨a0, rfl, rfl, rfl, w0⟩ := open_int Try.underlying5 (hval 0 5 v0 rfl rfl) h0
  obtain ⟨a1, rfl, rfl, rfl, w1⟩ := open_int Try.underlying5 (hval 1 5 v1 rfl rfl) h1
  obtain ⟨a2, rfl, rfl, rfl, w2⟩ := open_int Try.underlying5 (hval 2 5 v2 rfl rfl) h2
  clear hA0 hval0
  refine (natboxMaps_run a0 a1 a2 W w0 w1 w2).mono fun e W' ⟨he, bel⟩ => ?_
  subst he
  exact ⟨_, rfl, _, _, _, [], _, [], hW', trodAll_mk1 (shut_bool Try.underlying4 _), (trodAll_cons_mk (shut_int Try.underlying5 w0) (trodAll_cons_mk (shut_int Try.underlying5 w1) (trodAll_cons_mk (shut_int Try.underlying5 w2) trodAll_mk0))), rfl, bel.frame _, fun h => by cases h⟩
theorem natboxMaps_over : Rows.natboxMapsRow.holds Try.pinned (OpenSpec.ofChange Rows.natboxMapsSpec) :=
  OpenClaim.holds_of_wide 7 Try.f7 rfl rfl rfl rfl rfl rfl rfl ⟨rfl, rfl, rfl, rfl, rfl⟩ rfl rfl rfl rfl rfl (by kernel_rfl) Try.func7 (by kernel_rfl)
    (of_decide_eq_true (by kernel_rfl)) (by unfold Func.isWrapper; first | (rw [if_pos (by decide +kernel)]; kernel_rfl) | (rw [if_neg (by decide +kernel)]; exact ⟨rfl, rfl⟩))
    (fun os started H enc _ => natboxMaps_lifted os started H enc)
theorem natboxMaps_holds : Rows.NatboxMapsSaid := natboxMaps_over
#print axioms natboxMaps_holds
end Go.Proofs.Ytelnfhbccbinlaa
