/- Contracts of read and Get, of a kind that has no field, and of what is no kind. -/
import Derived.Test.YtmhlnlippfaclaaDoorWirePut
namespace Go.Proofs.YtmhlnlippfaclaaDoor
open Go.Sort Go.RowKit Go.BigFrame
set_option linter.unusedVariables false
set_option linter.unusedSimpArgs false

theorem store_cx (a : Addr) (w : World) : (store a (.complex .f64 0 0)).run Tryd.prog w = stored Tryd.prog w a (.complex .f64 0 0) .plain := run_store Tryd.prog w a _ .plain rfl
/-- a datagram of the fields that all have alone -/
def m0 (k f q : Nat) : Ms := ⟨k, f, q, 0, 0, 0, 0, 0, false, ⟨#[]⟩, none, 0, [], true, false, true, numB 1000000 4 ++ numB 1000000 4⟩
/-- what three numbers of the bytes are -/
structure Three (s : ByteArray) (k f q : Nat) : Prop where
  is : ∃ s1 b1 s2 b2 s3 b3, Hid (rdn s false 1 = (k, s1, b1)) ∧ Hid (rdn s1 b1 1 = (f, s2, b2)) ∧ Hid (rdn s2 b2 4 = (q, s3, b3)) ∧ s1.size ≤ s.size ∧ s2.size ≤ s.size
  k : k < 256
  f : f < 256
  q : q < 4294967296
  s : s.size ≤ 9223372036854775807
def mcs (k f q : Nat) : List Value := [.int .i64 (k : Nat), .int .i64 (f : Nat), .int .u32 (q : Nat), .int .i64 0, .int .u32 0, .int .u16 0, .complex .f64 0 0, .bool false, .string ⟨#[]⟩, .slice none 0 0]
set_option maxHeartbeats 1600000 in
theorem read_nokind {s : ByteArray} {k f q : Nat} (h : Three s k f q) (hk : kindB k = false) (w : World) :
    Calls Tryd.prog 14 #[.string s] w fun e w' => e = .returned (.agg (mcs k f q).toArray) ∧ Below w.heap.size w w' := by
  obtain ⟨⟨s1, b1, s2, b2, s3, b3, h1, h2, h3, z1, z2⟩, hk2, hf2, hq2, hs⟩ := h
  have K := isKind_any k
  rw [hk] at K
  have c1 := IntWalk.i64_in (k : Int) ⟨by omega, by omega⟩
  have c2 := IntWalk.i64_in (f : Int) ⟨by omega, by omega⟩
  have c3 := IntWalk.u32_in (q : Int) ⟨by omega, by omega⟩
  clear hk
  have SX := store_cx
  go_enter Tryd.func14, Tryd.ntmps14
  go_wp2
  refine wp_scope_fwd 0 rfl ?_
  go_wp2_with fail
  refine (read_any _ _).mono ?_; rintro e w1 ⟨rfl, d1⟩; obtain ⟨hc1, hf1, hz1⟩ := bcell d1; (try simp at hz1); have kc1_0 := fun o => hc1 (w.heap.size) o (by first | omega | (simp; done) | (simp; omega)); have kf1_0 := fun o => hf1 (w.heap.size) o (by first | omega | (simp; done) | (simp; omega)); have kl1_0 : w.heap.size < w1.heap.size := (by omega); clear hc1 hf1
  go_wp2_with fail
  refine (num_is h1 (by omega) _).mono ?_; rintro e w2 ⟨rfl, d2⟩; obtain ⟨hc2, hf2, hz2⟩ := bcell d2; (try simp at hz2); have kc2_0 := fun o => hc2 (w.heap.size) o (by first | omega | (simp; done) | (simp; omega)); have kf2_0 := fun o => hf2 (w.heap.size) o (by first | omega | (simp; done) | (simp; omega)); have kl2_0 : w.heap.size < w2.heap.size := (by omega); clear hc2 hf2
  go_wp2_with fail
  refine (num_is h2 (by omega) _).mono ?_; rintro e w3 ⟨rfl, d3⟩; obtain ⟨hc3, hf3, hz3⟩ := bcell d3; (try simp at hz3); have kc3_0 := fun o => hc3 (w.heap.size) o (by first | omega | (simp; done) | (simp; omega)); have kf3_0 := fun o => hf3 (w.heap.size) o (by first | omega | (simp; done) | (simp; omega)); have kl3_0 : w.heap.size < w3.heap.size := (by omega); clear hc3 hf3
  go_wp2_with fail
  refine (num_is h3 (by omega) _).mono ?_; rintro e w4 ⟨rfl, d4⟩; obtain ⟨hc4, hf4, hz4⟩ := bcell d4; (try simp at hz4); have kc4_0 := fun o => hc4 (w.heap.size) o (by first | omega | (simp; done) | (simp; omega)); have kf4_0 := fun o => hf4 (w.heap.size) o (by first | omega | (simp; done) | (simp; omega)); have kl4_0 : w.heap.size < w4.heap.size := (by omega); clear hc4 hf4
  go_wp2_with fail
  refine (K _).mono ?_; rintro e w5 ⟨rfl, rfl⟩
  go_wp2_with fail
  go_step3
  go_wp2
  refine ⟨rfl, ?_⟩
  go_wp2
  rw [Exit.noGoto_ret]
  refine bodyPost_ret (v := .agg (mcs k f q).toArray) (by simp [results, Tryd.results14, go_sem, mcs, *]) rfl ⟨rfl, ?_⟩
  (have zz0 := Below.size d4; (try simp at zz0); have zz1 := Below.size d3; (try simp at zz1); have zz2 := Below.size d2; (try simp at zz2); have zz3 := Below.size d1; (try simp at zz3); repeat (first | with_reducible exact Below.refl _ _ | with_reducible refine Below.drew ?_ | with_reducible refine below_drewN ?_ _ | with_reducible refine Below.alloc ?_ (by first | omega | (simp; done) | (simp; omega)) _ | with_reducible refine Below.setCell ?_ (by first | omega | (simp; done) | (simp; omega)) _ | (with_reducible refine Below.trans ?_ (Below.mono d4 (by first | omega | (simp; done) | (simp; omega)))) | (with_reducible refine Below.trans ?_ (Below.mono d3 (by first | omega | (simp; done) | (simp; omega)))) | (with_reducible refine Below.trans ?_ (Below.mono d2 (by first | omega | (simp; done) | (simp; omega)))) | (with_reducible refine Below.trans ?_ (Below.mono d1 (by first | omega | (simp; done) | (simp; omega))))))
def ReadJ (w0 : World) (i : Value) (wr : World) : Prop := ∃ j : Nat, j ≤ 6 ∧ i = .int .i64 j ∧ Below w0.heap.size w0 wr
def zcs : List Value := mcs 0 0 0
set_option maxHeartbeats 1600000 in
theorem read_bare {s : ByteArray} {k f q : Nat} (h : Three s k f q) (hk : kindB k = true) (hk17 : k < 17) (hno : ∀ j, j < 6 → hasB k j = false) (w : World) (ht : Tab w) :
    Calls Tryd.prog 14 #[.string s] w fun e w' => e = .returned (.agg (mcs k f q).toArray) ∧ Below w.heap.size w w' := by
  obtain ⟨⟨s1, b1, s2, b2, s3, b3, h1, h2, h3, z1, z2⟩, hk2, hf2, hq2, hs⟩ := h
  have K := isKind_any k
  rw [hk] at K
  have HF := Lib.hid (fun j hj w ht => hasField_j k hk17 j hj w ht)
  have c1 := IntWalk.i64_in (k : Int) ⟨by omega, by omega⟩
  have c2 := IntWalk.i64_in (f : Int) ⟨by omega, by omega⟩
  have c3 := IntWalk.u32_in (q : Int) ⟨by omega, by omega⟩
  have HT := Lib.hid ht
  clear hk hk17 ht
  have SX := store_cx
  go_enter Tryd.func14, Tryd.ntmps14
  have X : Hid (Cs w.heap.size (mcs 0 0 0) (w.alloc (.cells #[.int .i64 0, .int .i64 0, .int .u32 0, .int .i64 0, .int .u32 0, .int .u16 0, .complex .f64 0 0, .bool false, .string ⟨#[]⟩, .slice none 0 0] 35))) := Cs.new w (mcs 0 0 0) 35
  have hB : Hid (Below w.heap.size w (w.alloc (.cells #[.int .i64 0, .int .i64 0, .int .u32 0, .int .i64 0, .int .u32 0, .int .u16 0, .complex .f64 0 0, .bool false, .string ⟨#[]⟩, .slice none 0 0] 35))) := by show Below _ _ _; (repeat (first | with_reducible exact Below.refl _ _ | with_reducible refine Below.drew ?_ | with_reducible refine below_drewN ?_ _ | with_reducible refine Below.alloc ?_ (by first | omega | (simp; done) | (simp; omega)) _ | with_reducible refine Below.setCell ?_ (by first | omega | (simp; done) | (simp; omega)) _))
  have hs0 : w.heap.size < (w.alloc (.cells #[.int .i64 0, .int .i64 0, .int .u32 0, .int .i64 0, .int .u32 0, .int .u16 0, .complex .f64 0 0, .bool false, .string ⟨#[]⟩, .slice none 0 0] 35)).heap.size := by simp
  go_wp2
  refine wp_scope_fwd 0 rfl ?_
  go_wp2_with fail
  refine (read_any _ _).mono ?_; rintro e w1 ⟨rfl, d1⟩
  replace hB : Hid (Below w.heap.size w _) := (hB.out).trans (d1.mono (hB.out).size); replace X := Lib.hid (X.out.keep d1); clear d1
  go_wp2_with fail
  refine (num_is h1 (by omega) _).mono ?_; rintro e w2 ⟨rfl, d2⟩
  replace hB : Hid (Below w.heap.size w _) := (hB.out).trans (d2.mono (hB.out).size); replace X := Lib.hid (X.out.keep d2); clear d2
  go_wp2_with fail
  refine (num_is h2 (by omega) _).mono ?_; rintro e w3 ⟨rfl, d3⟩
  replace hB : Hid (Below w.heap.size w _) := ((hB.out.alloc (hB.out).size _)).trans (d3.mono ((hB.out.alloc (hB.out).size _)).size); replace X := Lib.hid ((X.out.alloc _).keep d3); clear d3
  go_wp2_with fail
  refine (num_is h3 (by omega) _).mono ?_; rintro e w4 ⟨rfl, d4⟩
  replace hB : Hid (Below w.heap.size w _) := ((hB.out.alloc (hB.out).size _)).trans (d4.mono ((hB.out.alloc (hB.out).size _)).size); replace X := Lib.hid ((X.out.alloc _).keep d4); clear d4
  go_wp2_with fail
  refine (K _).mono ?_; rintro e w5 ⟨rfl, rfl⟩
  have hne : w.heap.size < w4.heap.size := X.out.lt
  have e5 : ((w4.alloc (.cells #[.string s3, .bool b3] 61)).alloc (.cells #[.int .i64 (k : Nat), .int .i64 (f : Nat), .int .u32 (q : Nat), .int .i64 0, .int .u32 0, .int .u16 0, .complex .f64 0 0, .bool false, .string ⟨#[]⟩, .slice none 0 0] 35)).heap.size = w4.heap.size + 2 := by simp
  have Y : Hid (Cs (w4.heap.size + 1) (mcs k f q) ((w4.alloc (.cells #[.string s3, .bool b3] 61)).alloc (.cells #[.int .i64 (k : Nat), .int .i64 (f : Nat), .int .u32 (q : Nat), .int .i64 0, .int .u32 0, .int .u16 0, .complex .f64 0 0, .bool false, .string ⟨#[]⟩, .slice none 0 0] 35))) := by
    have h := Cs.new (w4.alloc (.cells #[.string s3, .bool b3] 61)) (mcs k f q) 35
    rw [World.size_alloc] at h
    exact h
  replace X : Hid (Cs w.heap.size (mcs 0 0 0) ((w4.alloc (.cells #[.string s3, .bool b3] 61)).alloc (.cells #[.int .i64 (k : Nat), .int .i64 (f : Nat), .int .u32 (q : Nat), .int .i64 0, .int .u32 0, .int .u16 0, .complex .f64 0 0, .bool false, .string ⟨#[]⟩, .slice none 0 0] 35))) := (X.out.alloc _).alloc _
  replace hB : Hid (Below w.heap.size w ((w4.alloc (.cells #[.string s3, .bool b3] 61)).alloc (.cells #[.int .i64 (k : Nat), .int .i64 (f : Nat), .int .u32 (q : Nat), .int .i64 0, .int .u32 0, .int .u16 0, .complex .f64 0 0, .bool false, .string ⟨#[]⟩, .slice none 0 0] 35))) := (hB.out.alloc hB.out.size _).alloc (by have := hB.out.size; simp; omega) _
  have HT5 : Hid (Tab ((w4.alloc (.cells #[.string s3, .bool b3] 61)).alloc (.cells #[.int .i64 (k : Nat), .int .i64 (f : Nat), .int .u32 (q : Nat), .int .i64 0, .int .u32 0, .int .u16 0, .complex .f64 0 0, .bool false, .string ⟨#[]⟩, .slice none 0 0] 35))) := HT.out.below hB.out
  generalize ((w4.alloc (.cells #[.string s3, .bool b3] 61)).alloc (.cells #[.int .i64 (k : Nat), .int .i64 (f : Nat), .int .u32 (q : Nat), .int .i64 0, .int .u32 0, .int .u16 0, .complex .f64 0 0, .bool false, .string ⟨#[]⟩, .slice none 0 0] 35)) = w5 at *
  clear K HT h1 h2 h3
  go_wp2_with fail
  go_loopw [10, 38] (fun _ i wr => ReadJ w5 i wr) (fun _ i _ => 6 - (intOf i).toNat)
  case atStart => exact ⟨0, Nat.zero_le _, rfl, Below.refl _ _⟩
  case round =>
    obtain ⟨j, hj, rfl, hb⟩ := hrel
    replace X := Lib.hid (X.out.keep hb)
    replace Y := Lib.hid (Y.out.keep hb)
    have HT6 := Lib.hid (HT5.out.below hb)
    have hB1 : Hid (Below w.heap.size w wr) := hB.out.trans (hb.mono hB.out.size)
    clear HT5 hB
    have x0 := Y.out.cell 0 _ rfl
    by_cases hlt : j < 6
    · have hlt' : (j : Int) < 6 := by omega
      have H := HF.out j hlt wr HT6.out
      rw [hno j hlt] at H
      clear HF hno
      go_wp2_with fail
      refine H.mono ?_; rintro e w6 ⟨rfl, b6⟩
      go_wp2
      go_roundw
      case rel => exact ⟨j + 1, by omega, by go_num, hb.trans (b6.mono hb.size)⟩
      case measure => simp [intOf]; omega
    · obtain rfl : j = 6 := by omega
      clear HF hno HT6 hb
      have x1 := Y.out.cell 1 _ rfl
      have x2 := Y.out.cell 2 _ rfl
      have x3 := Y.out.cell 3 _ rfl
      have x4 := Y.out.cell 4 _ rfl
      have x5 := Y.out.cell 5 _ rfl
      have x6 := Y.out.cell 6 _ rfl
      have x7 := Y.out.cell 7 _ rfl
      have x8 := Y.out.cell 8 _ rfl
      have x9 := Y.out.cell 9 _ rfl
      have r0 := X.out.cell 0 _ rfl
      have r1 := X.out.cell 1 _ rfl
      have r2 := X.out.cell 2 _ rfl
      have r3 := X.out.cell 3 _ rfl
      have r4 := X.out.cell 4 _ rfl
      have r5 := X.out.cell 5 _ rfl
      have r6 := X.out.cell 6 _ rfl
      have r7 := X.out.cell 7 _ rfl
      have r8 := X.out.cell 8 _ rfl
      have r9 := X.out.cell 9 _ rfl
      have g0 := X.out.free 0 _ rfl
      have g1 := X.out.free 1 _ rfl
      have g2 := X.out.free 2 _ rfl
      have g3 := X.out.free 3 _ rfl
      have g4 := X.out.free 4 _ rfl
      have g5 := X.out.free 5 _ rfl
      have g6 := X.out.free 6 _ rfl
      have g7 := X.out.free 7 _ rfl
      have g8 := X.out.free 8 _ rfl
      have g9 := X.out.free 9 _ rfl
      go_wp2
      go_step3
      go_wp2
      simp only [Exit.jump]
      refine bodyPost_ret (v := .agg (mcs k f q).toArray) (by simp [results, Tryd.results14, go_sem, mcs, *]) rfl ⟨rfl, ?_⟩
      have hB2 := hB1.out
      (have zzh := Below.size hB2; repeat (first | with_reducible exact hB2 | with_reducible refine Below.setCell ?_ (by first | omega | (simp; done) | (simp; omega)) _ | with_reducible refine Below.alloc ?_ (by first | omega | (simp; done) | (simp; omega)) _ | with_reducible refine Below.drew ?_))
end Go.Proofs.YtmhlnlippfaclaaDoor
