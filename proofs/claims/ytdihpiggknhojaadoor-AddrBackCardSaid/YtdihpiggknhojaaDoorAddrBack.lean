/- The statement AddrBack: what is told is read, and what is put is got, as it was; shorter, or longer, it is none; for every address and every byte. No conditions but the row's own: the library's tables lie as the program's text lays them. -/
import Derived.Test.YtdihpiggknhojaaDoorAddrEx
import Derived.Test.YtdihpiggknhojaaDoorAddrLaid
import Derived.Test.YtdihpiggknhojaaDoorAddrSmall
import Derived.Test.YtdihpiggknhojaaDoorPackLess
import Derived.SevenTiedAt
import Derived.ChangeOld
import Derived.ChangeMaps5
import Derived.ShutString
import Derived.OpenShut
import Derived.SizedLaws
import Derived.Lib.SmallJoins
import Derived.Deep.RegionHeld3
import Derived.Deep.DeepCutAuto
namespace Go.Proofs.YtdihpiggknhojaaDoor
open Go.RowKit Go.ChangeShapes Go.WideShapes Go.ChangeAt
open Go.ChangeMaps (open_string shut_string)
set_option linter.unusedVariables false
set_option linter.unusedSimpArgs false

theorem text_at {a p : Nat} {T : ByteArray} (h : Hid (atx a p = T)) (h1 : a < 4294967296) (h2 : p < 65536) (w : World) (ht : Tab w) :
    Calls Tryd.prog 11 #[.agg #[.int .u32 a, .int .u16 p]] w fun e w' => e = .returned (.string T) ∧ Below w.heap.size w w' := by
  rw [← h.out]
  exact text_any a p h1 h2 w ht
theorem put_at {a p : Nat} {A : ByteArray} (h : Hid (putB a p = A)) (h1 : a < 4294967296) (h2 : p < 65536) (w : World) :
    Calls Tryd.prog 13 #[.agg #[.int .u32 a, .int .u16 p]] w fun e w' => e = .returned (.string A) ∧ Below w.heap.size w w' := by
  rw [← h.out]
  exact put_any a p h1 h2 w
theorem get_of {s : ByteArray} {o : Option (Nat × Nat)} (h : Hid (getI s = o)) : getI s = o := h.out
theorem getI_put (a p : Nat) (h1 : a < 4294967296) (h2 : p < 65536) : getI (putB a p) = some (a, p) := by
  unfold getI
  rw [if_pos (putB_size a p)]
  have hs := numB_size a 4
  have e1 : valB (putB a p) 4 = a := by
    rw [putB, valB_append _ _ _ hs, valB_num, Nat.mod_eq_of_lt (by simpa using h1)]
  have e2 : (putB a p).extract 4 (putB a p).size = numB p 2 := by
    rw [putB, ba_cut _ _ _ hs]
  rw [e1, e2]
  have e3 : valB (numB p 2) 2 = p := by rw [valB_num, Nat.mod_eq_of_lt (by simpa using h2)]
  rw [e3]
theorem getI_size {s : ByteArray} (h : s.size ≠ 6) : getI s = none := by unfold getI; rw [if_neg h]
theorem one_conv (w : World) (B : UInt8) (g : Nat) (h : w.cell? ⟨g, 0, none⟩ = some (.int .u8 (B.toNat : Int))) : (convert 35 9 (.slice (some ⟨g, 0, none⟩) 1 1)).run Tryd.prog w = .ok (.string ⟨#[B]⟩) w := by
  have hcv := run_convert_bytes_back (P := Tryd.prog) w 35 9 5 ⟨g, 0, none⟩ 1 [B] Tryd.underlying35 Tryd.underlying5 Tryd.underlying9 (fun j hj => by
    obtain rfl : j = 0 := by simpa using hj
    simpa [Addr.add] using h)
  exact hcv
theorem sto2 {wb wx : World} {g : Nat} {v0 v1 : Value} (h : Bel wb wx) (hg : wb.heap.size ≤ g) : Bel wb ((wx.setCell ⟨g, 0, none⟩ v0).setCell ⟨g, 1, none⟩ v1) := (h.setCell (p := ⟨g, 0, none⟩) hg _).setCell (p := ⟨g, 1, none⟩) hg _
def LongCut (wb : World) (p b : Value) (wx : World) : Prop := b = .bool false ∧ (∃ g, p = .pointer (some ⟨g, 0, none⟩)) ∧ Bel wb wx

set_option maxRecDepth 100000 in
set_option maxHeartbeats 4000000 in
theorem addrBack_walk (a p : Nat) (B : UInt8) (h1 : a < 4294967296) (h2 : p < 65536) (w : World) (ht : Tab w) :
    Calls Tryd.prog 5 #[.agg #[.int .u32 a, .int .u16 p], .int .u8 (B.toNat : Int)] w fun e w' => e = .returned (.bool true) ∧ Below w.heap.size w w' := by
  have HT := Lib.hid ht
  clear ht
  have hz := (atx_size a p h1 h2).1
  have r1 := rd_txt a p h1 h2
  have r2 := rdL_zero a p
  have r3 : rdL (txtL a p ++ [58]) = none := rdL_count (by rw [List.count_append, txtL_count]; decide)
  rw [← atx_data] at r1 r2 r3
  obtain ⟨T, hT⟩ : ∃ T, atx a p = T := ⟨_, rfl⟩
  rw [hT] at r1 r2 r3 hz
  have R1 := Lib.hid r1
  have R2 : Hid (rdL ((⟨#[48]⟩ : ByteArray) ++ T).data.toList = none) := by show _ = _; rw [ba_append]; exact r2
  have R3 : Hid (rdL (T ++ (⟨#[58]⟩ : ByteArray)).data.toList = none) := by show _ = _; rw [ba_append]; exact r3
  have HTx := Lib.hid hT
  have gz := putB_size a p
  have g1 := getI_put a p h1 h2
  obtain ⟨P, hP⟩ : ∃ P, putB a p = P := ⟨_, rfl⟩
  rw [hP] at gz g1
  have HP := Lib.hid hP
  have G1 := Lib.hid g1
  have G2 : Hid (getI (P ++ (⟨#[B]⟩ : ByteArray)) = none) := getI_size (by simp only [ByteArray.size_append, one_size]; omega)
  have hsz := extract_le P 1 P.size (Nat.le_refl _)
  have g3 : getI (P.extract 1 P.size) = none := getI_size (by
    have := congrArg List.length (cut_list P 1)
    rw [ba_len, List.length_drop, ba_len] at this
    omega)
  rw [gz] at hsz g3
  obtain ⟨P5, hP5⟩ : ∃ P5, P.extract 1 6 = P5 := ⟨_, rfl⟩
  rw [hP5] at hsz g3
  have G3 := Lib.hid g3
  clear g3
  have hB := B.toNat_lt
  clear hT hP r1 r2 r3 g1
  go_enter Tryd.func5, Tryd.ntmps5
  go_wp2_with fail
  refine (examples_yes _ (HT.out.below (by (repeat (first | exact Below.refl _ _ | refine Below.drew ?_ | refine below_drewN ?_ _ | refine Below.alloc ?_ (by first | omega | (simp; done) | (simp; omega)) _ | refine Below.setCell ?_ (by first | omega | (simp; done) | (simp; omega)) _))))).mono ?_; rintro e w1 ⟨rfl, b1⟩; obtain ⟨hc1, hf1, hz1⟩ := bcell b1; (try simp at hz1); have kc1_0 := fun o => hc1 (w.heap.size) o (by first | omega | (simp; done) | (simp; omega)); have kf1_0 := fun o => hf1 (w.heap.size) o (by first | omega | (simp; done) | (simp; omega)); have kl1_0 : w.heap.size < w1.heap.size := (by omega); clear hc1 hf1
  go_wp2_with fail
  refine (text_at HTx h1 h2 _ (HT.out.below (by (have zz0 := Below.size b1; (try simp at zz0); repeat (first | exact Below.refl _ _ | refine Below.drew ?_ | refine below_drewN ?_ _ | refine Below.alloc ?_ (by first | omega | (simp; done) | (simp; omega)) _ | refine Below.setCell ?_ (by first | omega | (simp; done) | (simp; omega)) _ | (with_reducible refine Below.trans ?_ (Below.mono b1 (by first | omega | (simp; done) | (simp; omega))))))))).mono ?_; rintro e w2 ⟨rfl, b2⟩; obtain ⟨hc2, hf2, hz2⟩ := bcell b2; (try simp at hz2); have kc2_0 := fun o => hc2 (w.heap.size) o (by first | omega | (simp; done) | (simp; omega)); have kf2_0 := fun o => hf2 (w.heap.size) o (by first | omega | (simp; done) | (simp; omega)); have kl2_0 : w.heap.size < w2.heap.size := (by omega); clear hc2 hf2
  go_wp2_with fail
  refine (read_yes R1 (by omega) _).mono ?_; rintro e w3 ⟨rfl, b3⟩; obtain ⟨hc3, hf3, hz3⟩ := bcell b3; (try simp at hz3); have kc3_0 := fun o => hc3 (w.heap.size) o (by first | omega | (simp; done) | (simp; omega)); have kf3_0 := fun o => hf3 (w.heap.size) o (by first | omega | (simp; done) | (simp; omega)); have kl3_0 : w.heap.size < w3.heap.size := (by omega); clear hc3 hf3
  go_wp2_with fail
  refine (put_at HP h1 h2 _).mono ?_; rintro e w4 ⟨rfl, b4⟩; obtain ⟨hc4, hf4, hz4⟩ := bcell b4; (try simp at hz4); have kc4_0 := fun o => hc4 (w.heap.size) o (by first | omega | (simp; done) | (simp; omega)); have kf4_0 := fun o => hf4 (w.heap.size) o (by first | omega | (simp; done) | (simp; omega)); have kl4_0 : w.heap.size < w4.heap.size := (by omega); have kc4_1 := fun o => hc4 (w3.heap.size) o (by first | omega | (simp; done) | (simp; omega)); have kf4_1 := fun o => hf4 (w3.heap.size) o (by first | omega | (simp; done) | (simp; omega)); have kl4_1 : w3.heap.size < w4.heap.size := (by omega); clear hc4 hf4
  go_wp2_with fail
  refine (get_yes G1.out (by omega) _).mono ?_; rintro e w5 ⟨rfl, b5⟩; obtain ⟨hc5, hf5, hz5⟩ := bcell b5; (try simp at hz5); have kc5_0 := fun o => hc5 (w.heap.size) o (by first | omega | (simp; done) | (simp; omega)); have kf5_0 := fun o => hf5 (w.heap.size) o (by first | omega | (simp; done) | (simp; omega)); have kl5_0 : w.heap.size < w5.heap.size := (by omega); have kc5_1 := fun o => hc5 (w3.heap.size) o (by first | omega | (simp; done) | (simp; omega)); have kf5_1 := fun o => hf5 (w3.heap.size) o (by first | omega | (simp; done) | (simp; omega)); have kl5_1 : w3.heap.size < w5.heap.size := (by omega); clear hc5 hf5
  go_upto_region 6 with fail
  have XA : Two w.heap.size (.int .u32 a) (.int .u16 p) (w5.alloc (Obj.cells #[Value.int IntKind.u32 (a : Int), Value.int IntKind.u16 (p : Int)] 25)) := by refine ⟨?_, ?_, ?_, ?_⟩ <;> go_simp
  have XX : Two w3.heap.size (.int .u32 a) (.int .u16 p) (w5.alloc (Obj.cells #[Value.int IntKind.u32 (a : Int), Value.int IntKind.u16 (p : Int)] 25)) := by refine ⟨?_, ?_, ?_, ?_⟩ <;> go_simp
  have XY : Two w5.heap.size (.int .u32 a) (.int .u16 p) (w5.alloc (Obj.cells #[Value.int IntKind.u32 (a : Int), Value.int IntKind.u16 (p : Int)] 25)) := Two.new _ _ _ _
  have hB5 : Hid (Below w.heap.size w (w5.alloc (Obj.cells #[Value.int IntKind.u32 (a : Int), Value.int IntKind.u16 (p : Int)] 25))) := by
    show Below _ _ _
    (have zz0 := Below.size b5; (try simp at zz0); have zz1 := Below.size b4; (try simp at zz1); have zz2 := Below.size b3; (try simp at zz2); have zz3 := Below.size b2; (try simp at zz3); have zz4 := Below.size b1; (try simp at zz4); repeat (first | exact Below.refl _ _ | refine Below.drew ?_ | refine below_drewN ?_ _ | refine Below.alloc ?_ (by first | omega | (simp; done) | (simp; omega)) _ | refine Below.setCell ?_ (by first | omega | (simp; done) | (simp; omega)) _ | (with_reducible refine Below.trans ?_ (Below.mono b5 (by first | omega | (simp; done) | (simp; omega)))) | (with_reducible refine Below.trans ?_ (Below.mono b4 (by first | omega | (simp; done) | (simp; omega)))) | (with_reducible refine Below.trans ?_ (Below.mono b3 (by first | omega | (simp; done) | (simp; omega)))) | (with_reducible refine Below.trans ?_ (Below.mono b2 (by first | omega | (simp; done) | (simp; omega)))) | (with_reducible refine Below.trans ?_ (Below.mono b1 (by first | omega | (simp; done) | (simp; omega))))))
  generalize (w5.alloc (Obj.cells #[Value.int IntKind.u32 (a : Int), Value.int IntKind.u16 (p : Int)] 25)) = wb at *
  clear b1 b2 b3 b4 b5 hz1 hz2 hz3 hz4 hz5 kc1_0 kf1_0 kl1_0 kc2_0 kf2_0 kl2_0 kc3_0 kf3_0 kl3_0 kc4_0 kf4_0 kl4_0 kc5_0 kf5_0 kl5_0 kc4_1 kf4_1 kl4_1 kc5_1 kf5_1 kl5_1
  have n35 : w3.heap.size < wb.heap.size := XX.lt
  have n55 : w5.heap.size < wb.heap.size := XY.lt
  have n05 : w.heap.size < wb.heap.size := XA.lt
  have QB : Bel wb wb := Bel.refl _
  have mkS : Hid (∀ w', Bel wb w' → w'.cell? ⟨w.heap.size, 0, none⟩ = some (.int .u32 a) ∧ w'.cell? ⟨w.heap.size, 1, none⟩ = some (.int .u16 p) ∧ Bel wb w') := fun w' h => ⟨(XA.keep h.out).c0, (XA.keep h.out).c1, h⟩
  have HXA := Lib.hid XA
  have HXX := Lib.hid XX
  have HXY := Lib.hid XY
  obtain ⟨x0, x1, _, _⟩ := XA
  clear XX XY
  have cv := fun w g h => one_conv w B g h
  go_cut [10, 11] (fun pt bt wx => LongCut wb pt bt wx)
  case first =>
    go_region_held (fun w' => w'.cell? ⟨w.heap.size, 0, none⟩ = some (.int .u32 a) ∧ w'.cell? ⟨w.heap.size, 1, none⟩ = some (.int .u16 p) ∧ Bel wb w') (first | exact mkS.out _ QB | exact mkS.out _ QB.drew | exact mkS.out _ (QB.alloc _) | exact mkS.out _ (QB.drew.alloc _) | exact mkS.out _ ((QB.alloc _).alloc _) | exact mkS.out _ ((QB.drew.alloc _).alloc _) | exact mkS.out _ (sto2 QB (by omega)) | exact mkS.out _ (sto2 QB.drew (by omega))) (first | (go_at_call 13; refine (put_at HP h1 h2 _).mono ?_; rintro e wx ⟨rfl, hb⟩; have QB := Bel.call (by first | exact QB | exact QB.drew | exact (QB.alloc _) | exact (QB.drew.alloc _) | exact ((QB.alloc _).alloc _) | exact ((QB.drew.alloc _).alloc _) | exact ((QB.alloc _).drew.alloc _)) hb; have qz := QB.out.size; obtain ⟨hc, hf, hz⟩ := bcell hb; (try simp at hz); (try have hl0 : wb.heap.size < wx.heap.size := (by omega)); (try have kc0 := fun o => hc (wb.heap.size) o (by first | omega | (simp; done) | (simp; omega))); (try have hl1 : wb.heap.size + 1 < wx.heap.size := (by omega)); (try have kc1 := fun o => hc (wb.heap.size + 1) o (by first | omega | (simp; done) | (simp; omega)))) | (go_at_call 24; refine (get_no G2.out (by simp only [ByteArray.size_append, one_size]; omega) _).mono ?_; rintro e wx ⟨rfl, hb⟩; have QB := Bel.call (by first | exact QB | exact QB.drew | exact (QB.alloc _) | exact (QB.drew.alloc _) | exact ((QB.alloc _).alloc _) | exact ((QB.drew.alloc _).alloc _) | exact ((QB.alloc _).drew.alloc _)) hb; have qz := QB.out.size; obtain ⟨hc, hf, hz⟩ := bcell hb; (try simp at hz)))
    all_goals go_wp2
    all_goals go_meet
    all_goals (refine ⟨rfl, ⟨_, rfl⟩, ?_⟩)
    all_goals (first | exact QB.alloc _ | exact sto2 QB (by omega))
  case rest =>
    obtain ⟨rfl, ⟨g, rfl⟩, QC⟩ := hcut
    generalize wc = wd at *
    have HA : Hid (Two w.heap.size (.int .u32 a) (.int .u16 p) wd) := HXA.out.keep QC.out
    have HX : Hid (Two w3.heap.size (.int .u32 a) (.int .u16 p) wd) := HXX.out.keep QC.out
    have HY : Hid (Two w5.heap.size (.int .u32 a) (.int .u16 p) wd) := HXY.out.keep QC.out
    have hsz2 := QC.out.size
    have m0 : w.heap.size < wd.heap.size := by omega
    have hBd : Hid (Below w.heap.size w wd) := hB5.out.trans (QC.out.mono hB5.out.size)
    have HTd : Hid (Tab wd) := HT.out.below hBd.out
    have Q0 : Hid (Bel wd wd) := Bel.refl _
    have a00 := HA.out.c0
    have a01 := HA.out.c1
    clear QC QB mkS hB5 HXA HXX HXY x0 x1 cv n35 n55 n05 HT hsz2
    go_wp2_with fail
    refine (text_at HTx h1 h2 _ HTd.out).mono ?_; rintro e v1 ⟨rfl, d1⟩
    have Q1 : Hid (Bel wd v1) := Bel.call (by first | exact Q0.out | exact Q0.out.alloc _) d1
    have m1 : w.heap.size < v1.heap.size := Nat.lt_of_lt_of_le m0 Q1.out.out.size
    have a10 := (HA.out.keep Q1.out.out).c0
    have a11 := (HA.out.keep Q1.out.out).c1
    clear d1 a00 a01
    go_wp2_with fail
    refine (read_no R2 (by simp only [ByteArray.size_append, one_size]; omega) _).mono ?_; rintro e v2 ⟨rfl, d2⟩
    have Q2 : Hid (Bel wd v2) := Bel.call (by first | exact Q1.out | exact Q1.out.alloc _) d2
    have m2 : w.heap.size < v2.heap.size := Nat.lt_of_lt_of_le m0 Q2.out.out.size
    have a20 := (HA.out.keep Q2.out.out).c0
    have a21 := (HA.out.keep Q2.out.out).c1
    clear d2 a10 a11
    go_wp2_with fail
    refine (text_at HTx h1 h2 _ (HTd.out.below (by first | exact Q2.out.out | exact (Q2.out.alloc _).out))).mono ?_; rintro e v3 ⟨rfl, d3⟩
    have Q3 : Hid (Bel wd v3) := Bel.call (by first | exact Q2.out | exact Q2.out.alloc _) d3
    have m3 : w.heap.size < v3.heap.size := Nat.lt_of_lt_of_le m0 Q3.out.out.size
    have a30 := (HA.out.keep Q3.out.out).c0
    have a31 := (HA.out.keep Q3.out.out).c1
    clear d3 a20 a21
    go_wp2_with fail
    refine (read_no R3 (by simp only [ByteArray.size_append, one_size]; omega) _).mono ?_; rintro e v4 ⟨rfl, d4⟩
    have Q4 : Hid (Bel wd v4) := Bel.call (by first | exact Q3.out | exact Q3.out.alloc _) d4
    have m4 : w.heap.size < v4.heap.size := Nat.lt_of_lt_of_le m0 Q4.out.out.size
    have a40 := (HA.out.keep Q4.out.out).c0
    have a41 := (HA.out.keep Q4.out.out).c1
    clear d4 a30 a31
    go_wp2_with fail
    refine (put_at HP h1 h2 _).mono ?_; rintro e v5 ⟨rfl, d5⟩
    have Q5 : Hid (Bel wd v5) := Bel.call (by first | exact Q4.out | exact Q4.out.alloc _) d5
    have m5 : w.heap.size < v5.heap.size := Nat.lt_of_lt_of_le m0 Q5.out.out.size
    have a50 := (HA.out.keep Q5.out.out).c0
    have a51 := (HA.out.keep Q5.out.out).c1
    clear d5 a40 a41
    go_wp2_with fail
    refine (put_at HP h1 h2 _).mono ?_; rintro e v6 ⟨rfl, d6⟩
    have Q6 : Hid (Bel wd v6) := Bel.call (by first | exact Q5.out | exact Q5.out.alloc _) d6
    have m6 : w.heap.size < v6.heap.size := Nat.lt_of_lt_of_le m0 Q6.out.out.size
    have a60 := (HA.out.keep Q6.out.out).c0
    have a61 := (HA.out.keep Q6.out.out).c1
    clear d6 a50 a51
    go_wp2_with fail
    refine (get_no G3.out (by omega) _).mono ?_; rintro e v7 ⟨rfl, d7⟩
    have Q7 : Hid (Bel wd v7) := Bel.call (by first | exact Q6.out | exact Q6.out.alloc _) d7
    have m7 : w.heap.size < v7.heap.size := Nat.lt_of_lt_of_le m0 Q7.out.out.size
    have a70 := (HA.out.keep Q7.out.out).c0
    have a71 := (HA.out.keep Q7.out.out).c1
    clear d7 a60 a61
    have b0 := (HX.out.keep Q7.out.out).c0
    have b1 := (HX.out.keep Q7.out.out).c1
    have c0 := (HY.out.keep Q7.out.out).c0
    have c1 := (HY.out.keep Q7.out.out).c1
    have m3 : w3.heap.size < v7.heap.size := (HX.out.keep Q7.out.out).lt
    have m5 : w5.heap.size < v7.heap.size := (HY.out.keep Q7.out.out).lt
    go_wp2
    go_ret
    exact ⟨rfl, hBd.out.trans (Below.mono (by first | exact Q7.out.out | exact (Q7.out.alloc _).out) hBd.out.size)⟩

theorem addrBack_run (a p : Int) (b : Int) (w : World) (wa : (Lit.int .u32 a).wf = true) (wp : (Lit.int .u16 p).wf = true) (wb : (Lit.int .u8 b).wf = true) (ht : Tab w) :
    Calls Tryd.prog 5 #[.agg #[.int .u32 a, .int .u16 p], .int .u8 b] w fun e w' => e = .returned (.bool true) ∧ Below w.heap.size w w' := by
  have ba := bounds_u32 wa
  have bp := bounds_u16 wp
  have bb := bounds_u8 wb
  obtain ⟨a, rfl⟩ := Int.eq_ofNat_of_zero_le ba.1
  obtain ⟨p, rfl⟩ := Int.eq_ofNat_of_zero_le bp.1
  obtain ⟨b, rfl⟩ := Int.eq_ofNat_of_zero_le bb.1
  have hB : ((UInt8.ofNat b).toNat : Int) = b := by rw [ofNat_toNat b (by omega)]
  have h := addrBack_walk a p (UInt8.ofNat b) (by omega) (by omega) w ht
  rw [hB] at h
  exact h

theorem addrBack_own : ownKnob Tryd.prog.godebug = none := by kernel_rfl
theorem addrBack_laid : laidOutB Tryd.prog = true := by kernel_rfl
set_option maxRecDepth 100000 in
theorem addrBack_lifted (os : Os) (started : os.Started) (H : Type) (enc : TypeId × Value → H) :
    ReturnsInHanded {} Tryd.checked os 5 .any (fun w args => (Rows.addrBackSpec.pre enc Tryd.prog Tryd.f5 [] false w args ∧ laidMetH Tryd.prog seatLaid w) ∧ sizedMet enc Tryd.prog Tryd.f5 (OpenSpec.ofChange Rows.addrBackSpec) false w args) (Rows.addrBackSpec.post enc Tryd.prog Tryd.f5 false true false false) := by
  refine returnsInHanded_of_change_and (C := Tryd.checked) (X := fun w _ => laidMetH Tryd.prog seatLaid w) (fun _ _ _ hh h => h.of_heap hh) addrBack_own started (by kernel_rfl) Tryd.func5
    (ChangeSpec.witness_shaped (enc := enc) (C := Tryd.checked) (os := os) (X := fun w _ => laidMetH Tryd.prog seatLaid w) false (World.doorLaid Tryd.prog seatSteps os) #[.agg #[.int .u32 0, .int .u16 0], .int .u8 0] 8 rfl (World.shaped_of_RefB (by kernel_rfl) (by kernel_rfl)) (by kernel_rfl) (by kernel_rfl) (by kernel_rfl) (door_met os _)) ?_
  intro W base args ds gs before hval0 hW hcnd hsz hL _
  have hval : ∀ (j : Nat) t v, Tryd.f5.params[j]? = some t → args[j]? = some v → Value.okWide Tryd.prog W .any base t v := hval0
  have hW' := hW
  obtain ⟨p, q, hA0, hV, rfl, hfz, hnd⟩ := hW
  have hA : DataW.TrodAll enc Tryd.prog W 0 (fun _ => true) true Tryd.f5.params.toList args.toList ds p := hA0
  rw [Tryd.params5] at hA hval
  obtain ⟨v0, vs0, d0, ds0, p0, q0, hargs, rfl, rfl, h0, r0⟩ := trodAll_cons hA
  obtain ⟨v1, vs1, d1, ds1, p1, q1, rfl, rfl, rfl, h1, r1⟩ := trodAll_cons r0
  obtain ⟨rfl, rfl, rfl⟩ := trodAll_nil r1
  obtain rfl : args = #[v0, v1] := by cases args; simp_all
  obtain ⟨rfl, rfl⟩ := trodVars_none hV
  have k0 := h0
  have lt0 : ∀ x ∈ p0, x.block < W.heap.size := by obtain ⟨m, hm⟩ := k0; exact DataW.trod_lt m _ _ _ hm
  obtain ⟨c0_0, c0_1, y0_0, y0_1, n0, rfl, rfl, rfl, t0_0, t0_1⟩ := Joins.open_agg2 Tryd.underlying25 (by kernel_rfl) (by kernel_rfl) (hval 0 25 v0 rfl rfl) h0
  obtain ⟨a0_0, e0_0, rfl, w0_0⟩ := DataW.trod_int Tryd.underlying22 t0_0
  obtain rfl := (List.cons.inj e0_0).1
  obtain ⟨a0_1, e0_1, rfl, w0_1⟩ := DataW.trod_int Tryd.underlying23 t0_1
  obtain rfl := (List.cons.inj e0_1).1
  obtain ⟨a1, rfl, rfl, rfl, w1⟩ := open_int Tryd.underlying5 (hval 1 5 v1 rfl rfl) h1
  clear hA0 hval0
  refine (addrBack_run a0_0 a0_1 a1 W w0_0 w0_1 w1 (tab_of_laid hL)).mono fun e W' ⟨he, bel⟩ => ?_
  subst he
  exact ⟨_, rfl, _, _, _, [], _, [], hW', trodAll_mk1 (shut_bool Tryd.underlying4 _), (trodAll_cons_mk (Below.trod addrBack_laid (by kernel_rfl) (of_decide_eq_true (by kernel_rfl)) k0 bel lt0) (trodAll_cons_mk (shut_int Tryd.underlying5 w1) trodAll_mk0)), rfl, bel.frame _, fun h => by cases h⟩
theorem addrBack_over : Rows.addrBackRow.holds Tryd.pinned (OpenSpec.ofChange Rows.addrBackSpec) :=
  OpenClaim.holds_of_wide 5 Tryd.f5 rfl rfl rfl rfl rfl rfl rfl ⟨rfl, rfl, rfl, rfl, rfl⟩ rfl rfl rfl rfl rfl (by kernel_rfl) Tryd.func5 (by kernel_rfl)
    (of_decide_eq_true (by kernel_rfl)) (by unfold Func.isWrapper; first | (rw [if_pos (by decide +kernel)]; kernel_rfl) | (rw [if_neg (by decide +kernel)]; exact ⟨rfl, rfl⟩))
    (fun os started H enc _ => addrBack_lifted os started H enc)
theorem addrBack_holds : Rows.AddrBackCardSaid :=
  Claim7.holds_tied_plain_at .later [] [.data, .data, .data] true Rows.addrBackCard.stood.harness false addrBack_over (fun _ h => by cases h) (by kernel_rfl) (fun _ h => by cases h) addrBack_row_tie rfl ⟨rfl, rfl⟩ (by kernel_rfl) rfl
    (fun f fn hf hfn => by
      obtain rfl : f = 5 := Option.some.inj ((show Tryd.prog.funcNamed "scuttlebutt/scuttlebuttlaw03.AddrBack" = some 5 by kernel_rfl).symm.trans hf) |>.symm
      obtain rfl : fn = Tryd.f5 := (Option.some.inj (Tryd.func5.symm.trans hfn)).symm
      exact ⟨by kernel_rfl, fun j t ht => by
        rw [Tryd.params5] at ht
        have hm : t ∈ [25, 5] := by simpa using Array.mem_of_getElem? ht
        have hall : ([25, 5].all fun u => !Tryd.prog.wantsStandIn u) = true := by kernel_rfl
        exact (show Tryd.prog.wantsStandIn t = false by simpa using List.all_eq_true.1 hall t hm)⟩)
    (by kernel_rfl)
#print axioms addrBack_holds
end Go.Proofs.YtdihpiggknhojaaDoor
