/- The law WireLimits: bodies, news and datagrams at their bounds. -/
import Derived.Test.YtmhlnlippfaclaaDoorWireBound
import Derived.Deep.RegionLaw
import Derived.Deep.DeepCutAuto
import Derived.Deep.DrawnRows
import Derived.SevenTiedAt
import Derived.ChangeOld
import Derived.ChangeMaps5
import Derived.ShutString
import Derived.OpenShut
import Derived.SizedLaws
import Derived.Lib.SmallJoins
namespace Go.Proofs.YtmhlnlippfaclaaDoor
open Go.Sort Go.RowKit Go.BigFrame Go.ChangeShapes Go.WideShapes Go.ChangeAt
open Go.ChangeMaps (open_string shut_string)
set_option linter.unusedVariables false
set_option linter.unusedSimpArgs false

def tcs (t : Rec) (own : Bool) : List Value := [.int .i64 t.id, .int .i64 t.st, .int .u32 t.n, .int .u32 t.ip, .int .u16 t.port, .bool own]
theorem info_rec : (Tryd.prog.info? 27).map (fun i => (i.zero, i.size, i.bytes)) = some (some (.agg #[.int .i64 0, .int .i64 0, .int .u32 0, .int .u32 0, .int .u16 0]), 5, 32) := by kernel_rfl
def aL (n : Nat) : List Value := [.int .i64 5, .int .i64 1, .int .u32 0, .int .i64 2, .int .u32 0, .int .u16 0, .complex .f64 0 0, .bool false, .string (zeros n), .slice none 0 0]
def RoundJ (w0 : World) (gx : Nat) (X : List Value) (ga : Nat) (A : List Value) (gb gc B : Nat) (R : Rec) (k : Nat) (i : Value) (wr : World) : Prop :=
  ∃ (j : Nat) (vb vc : Value), j ≤ k ∧ i = .int .i64 j ∧ St gx X ga A gb gc B R vb j vc j wr ∧ Below w0.heap.size w0 wr
set_option maxRecDepth 100000 in
set_option maxHeartbeats 40000000 in
theorem wireLimits_walk (t : Rec) (o : Bool) (ht : t.Ok) (size many : Int) (wsz : (Lit.int .u16 size).wf = true) (wmn : (Lit.int .u8 many).wf = true) (w : World) (hT : Tab w) :
    Calls Tryd.prog 3 #[.int .u16 size, .int .u8 many, .agg #[.int .i64 t.id, .int .i64 t.st, .int .u32 t.n, .int .u32 t.ip, .int .u16 t.port, .bool o]] w fun e w' => e = .returned (.bool true) ∧ Below w.heap.size w w' := by
  obtain ⟨R, hRok, hRr, TH⟩ := thing_own t ht
  have TH := Lib.hid TH
  have HT := Lib.hid hT
  have HT0 := Lib.hid hT
  have bs := bounds_u16 wsz
  have bm := bounds_u8 wmn
  obtain ⟨n, hn⟩ : ∃ n : Nat, size % 1100 = n := ⟨(size % 1100).toNat, by omega⟩
  obtain ⟨k, hk⟩ : ∃ k : Nat, many % 40 = k := ⟨(many % 40).toNat, by omega⟩
  have hn2 : size.tmod 1100 = n := by rw [tmod_pos _ _ (by omega)]; exact hn
  have hk2 : many.tmod 40 = k := by rw [tmod_pos _ _ (by omega)]; exact hk
  have ln : n < 1100 := by omega
  have lk : k < 40 := by omega
  have c1 := IntWalk.i64_in (n : Int) ⟨by omega, by omega⟩
  have c2 := IntWalk.i64_in (k : Int) ⟨by omega, by omega⟩
  have mk1 := run_make_row' (P := Tryd.prog) 31 5 (.int .u8 0) 1 Tryd.underlying31 info_u8 rfl .i64 .i64 n (by omega) (by omega)
  obtain ⟨m, hm⟩ : ∃ m : Nat, 1000 + n = m := ⟨_, rfl⟩
  have mk2 := run_make_row' (P := Tryd.prog) 31 5 (.int .u8 0) 1 Tryd.underlying31 info_u8 rfl .i64 .i64 m (by omega) (by omega)
  have c3 := IntWalk.i64_in (m : Int) ⟨by omega, by omega⟩
  have hm2 : (1000 : Int) + n = m := by omega
  have GZ := get_Z n ln
  rw [hm] at GZ
  replace GZ := Lib.hid GZ
  have cv := conv_zeros
  have SX := store_cx
  clear hT wsz wmn bs bm ht
  go_enter Tryd.func3, Tryd.ntmps3
  have X : Hid (Cs w.heap.size (tcs t o) (w.alloc (.cells (tcs t o).toArray 29))) := Cs.new w (tcs t o) 29
  have hB : Hid (Below w.heap.size w (w.alloc (.cells (tcs t o).toArray 29))) := by show Below _ _ _; (repeat (first | with_reducible exact Below.refl _ _ | with_reducible refine Below.drew ?_ | with_reducible refine below_drewN ?_ _ | with_reducible refine Below.alloc ?_ (by first | omega | (simp; done) | (simp; omega)) _ | with_reducible refine Below.setCell ?_ (by first | omega | (simp; done) | (simp; omega)) _))
  go_wp2_with fail
  refine (examples_yes _ (HT.out.below hB.out)).mono ?_; rintro e w1 ⟨rfl, d⟩
  replace HT : Hid (Tab w1) := (HT.out.below hB.out).below d
  replace hB : Hid (Below w.heap.size w _) := (hB.out).trans (d.mono (hB.out).size); replace X := Lib.hid (X.out.keep d); clear d
  have x5 := X.out.cell 5 (.bool o) rfl
  have z5 := X.out.free 5 (.bool o) rfl
  go_upto_region 7 with fail
  replace X : Hid (Cs w.heap.size (tcs t true) (w1.setCell ⟨w.heap.size, 5, none⟩ (.bool true))) := X.out.set 5 (.bool true) (by simp [tcs])
  have bs : Below w.heap.size w1 (w1.setCell ⟨w.heap.size, 5, none⟩ (.bool true)) := (Below.refl _ _).setCell (p := ⟨w.heap.size, 5, none⟩) (Nat.le_refl _) _
  have hlx : w.heap.size < w1.heap.size := by have := X.out.lt; simpa [World.setCell] using this
  replace HT : Hid (Tab (w1.setCell ⟨w.heap.size, 5, none⟩ (.bool true))) := HT0.out.below (hB.out.trans bs)
  replace hB : Hid (Below w.heap.size w (w1.setCell ⟨w.heap.size, 5, none⟩ (.bool true))) := hB.out.trans bs
  clear bs x5 z5
  generalize (w1.setCell ⟨w.heap.size, 5, none⟩ (.bool true)) = w2 at *
  have S0 : Hid (St w.heap.size (tcs t true) (w2.heap.size + 1) (aL n) (w2.heap.size + 1 + 1) (w2.heap.size + 1 + 1 + 1) (w2.heap.size + 1 + 1 + 1 + 1) R (.slice none 0 0) 0 (.slice none 0 0) 0 ((((w2.alloc (.cells (madeCells #[.int .u8 0] n) 5)).alloc (.cells #[.int .i64 5, .int .i64 1, .int .u32 0, .int .i64 2, .int .u32 0, .int .u16 0, .complex .f64 0 0, .bool false, .string (zeros n), .slice none 0 0] 35)).alloc (.cells #[.int .i64 1, .int .i64 1, .int .u32 0, .int .i64 2, .int .u32 0, .int .u16 0, .complex .f64 0 0, .bool false, .string ⟨#[]⟩, .slice none 0 0] 35)).alloc (.cells #[.int .i64 15, .int .i64 1, .int .u32 0, .int .i64 0, .int .u32 0, .int .u16 0, .complex .f64 0 0, .bool false, .string ⟨#[]⟩, .slice none 0 0] 35))) := st_start X.out (.cells (madeCells #[.int .u8 0] n) 5) (aL n) R
  have hlo : w.heap.size ≤ w2.heap.size := hB.out.size
  replace hB : Hid (Below w.heap.size w ((((w2.alloc (.cells (madeCells #[.int .u8 0] n) 5)).alloc (.cells #[.int .i64 5, .int .i64 1, .int .u32 0, .int .i64 2, .int .u32 0, .int .u16 0, .complex .f64 0 0, .bool false, .string (zeros n), .slice none 0 0] 35)).alloc (.cells #[.int .i64 1, .int .i64 1, .int .u32 0, .int .i64 2, .int .u32 0, .int .u16 0, .complex .f64 0 0, .bool false, .string ⟨#[]⟩, .slice none 0 0] 35)).alloc (.cells #[.int .i64 15, .int .i64 1, .int .u32 0, .int .i64 0, .int .u32 0, .int .u16 0, .complex .f64 0 0, .bool false, .string ⟨#[]⟩, .slice none 0 0] 35))) := (((hB.out.alloc hlo _).alloc (by simp; omega) _).alloc (by simp; omega) _).alloc (by simp; omega) _
  replace HT : Hid (Tab ((((w2.alloc (.cells (madeCells #[.int .u8 0] n) 5)).alloc (.cells #[.int .i64 5, .int .i64 1, .int .u32 0, .int .i64 2, .int .u32 0, .int .u16 0, .complex .f64 0 0, .bool false, .string (zeros n), .slice none 0 0] 35)).alloc (.cells #[.int .i64 1, .int .i64 1, .int .u32 0, .int .i64 2, .int .u32 0, .int .u16 0, .complex .f64 0 0, .bool false, .string ⟨#[]⟩, .slice none 0 0] 35)).alloc (.cells #[.int .i64 15, .int .i64 1, .int .u32 0, .int .i64 0, .int .u32 0, .int .u16 0, .complex .f64 0 0, .bool false, .string ⟨#[]⟩, .slice none 0 0] 35))) := HT0.out.below hB.out
  go_wp2_with fail
  generalize ((((w2.alloc (.cells (madeCells #[.int .u8 0] n) 5)).alloc (.cells #[.int .i64 5, .int .i64 1, .int .u32 0, .int .i64 2, .int .u32 0, .int .u16 0, .complex .f64 0 0, .bool false, .string (zeros n), .slice none 0 0] 35)).alloc (.cells #[.int .i64 1, .int .i64 1, .int .u32 0, .int .i64 2, .int .u32 0, .int .u16 0, .complex .f64 0 0, .bool false, .string ⟨#[]⟩, .slice none 0 0] 35)).alloc (.cells #[.int .i64 15, .int .i64 1, .int .u32 0, .int .i64 0, .int .u32 0, .int .u16 0, .complex .f64 0 0, .bool false, .string ⟨#[]⟩, .slice none 0 0] 35)) = w5 at *
  generalize w2.heap.size = h2 at *
  clear X mk1 hlx
  go_loopw [13] (fun i wr => RoundJ w w.heap.size (tcs t true) (h2 + 1) (aL n) (h2 + 1 + 1) (h2 + 1 + 1 + 1) (h2 + 1 + 1 + 1 + 1) R k i wr) (fun i _ => k - (intOf i).toNat)
  case atStart => exact ⟨0, _, _, Nat.zero_le _, rfl, S0.out, hB.out⟩
  case round =>
    obtain ⟨j, vb, vc, hj, rfl, hS, hb⟩ := hrel
    by_cases hlt : j < k
    · have hlt' : (j : Int) < k := by omega
      obtain ⟨i0, hi0, hz0, hz1, hz2⟩ := info_parts info_rec
      have HS := Lib.hid hS
      have HB := Lib.hid hb
      have x0 := hS.x.cell 0 _ rfl
      have x1 := hS.x.cell 1 _ rfl
      have x2 := hS.x.cell 2 _ rfl
      have x3 := hS.x.cell 3 _ rfl
      have x4 := hS.x.cell 4 _ rfl
      have x5 := hS.x.cell 5 _ rfl
      have y9 := hS.b.cell 9 _ rfl
      have z9 := hS.b.free 9 _ rfl
      have h5 : w.heap.size ≤ h2 + 1 + 1 + 1 + 1 := by omega
      have h5' : w.heap.size ≤ h2 + 1 + 1 := by omega
      clear hS hb
      go_upto_region 13 with fail
      go_cut [] (fun wx => ∃ vb', St w.heap.size (tcs t true) (h2 + 1) (aL n) (h2 + 1 + 1) (h2 + 1 + 1 + 1) (h2 + 1 + 1 + 1 + 1) R vb' (j + 1) vc j wx ∧ Below w.heap.size w wx)
      case first =>
        go_region_law (first
          | (refine step_append_lies _ (by rfl) _ _ _ (by rfl) (h2 + 1 + 1 + 1 + 1) 27 i0 _ 5 32 Tryd.underlying33 hi0 hz0 hz1 hz2 rfl (by omega) vb j (reps R j) (by rfl) (QS.alloc _).ob ⟨_, 0, none⟩ 1 1 (rcs R) (by rfl) (by rfl) (World.news_of_block (cs := (rcs R).toArray) (t := 27) (fr := (0, 0)) (heap_alloc_new _ _)) (by simp [rcs, Value.oneCell']) (by omega) (by unfold maxLen; omega) (by omega) (by have := QS.sz; simp; omega) _ rfl ?_; intro g cap w9 hown hgrow hat hlt9; have qf := St.farB (QS.alloc _) hgrow; have qc9 := qf.cell 9 _ rfl; have qz9 := qf.free 9 _ rfl; have fin := St.stepB (QS.alloc _) hgrow hown hat; have bin := below_step (p := ⟨h2 + 1 + 1, 9, none⟩) (u := .slice (some ⟨g, 0, none⟩) (j + 1) cap) ((HB.out.drew.trans (hbx.mono HB.out.drew.size)).alloc (HB.out.drew.trans (hbx.mono HB.out.drew.size)).size _) hgrow (fun k hk => Nat.le_trans h5 (QS.rowB k hk)) h5'; clear qf hown hgrow hat)
          | (go_simp; go_at_call 5; refine (TH.out _).mono ?_; rintro e wx ⟨rfl, hbx⟩; have QS := HS.out.drew.keep hbx; have q9 := QS.b.cell 9 _ rfl; have qw9 := QS.b.free 9 _ rfl; have ql9 := QS.b.lt))
        all_goals go_wp2
        all_goals go_meet
        all_goals exact ⟨_, fin, bin⟩
      case rest =>
        obtain ⟨vb2, hS2, hb2⟩ := hcut
        generalize wc = w6 at *
        replace HS := Lib.hid hS2
        replace HB := Lib.hid hb2
        clear x0 x1 x2 x3 x4 x5 y9 z9
        have x0 := hS2.x.cell 0 _ rfl
        have x1 := hS2.x.cell 1 _ rfl
        have x2 := hS2.x.cell 2 _ rfl
        have x3 := hS2.x.cell 3 _ rfl
        have x4 := hS2.x.cell 4 _ rfl
        have x5 := hS2.x.cell 5 _ rfl
        have y9 := hS2.c.cell 9 _ rfl
        have z9 := hS2.c.free 9 _ rfl
        have h5'' : w.heap.size ≤ h2 + 1 + 1 + 1 := by omega
        clear hS2 hb2
        go_upto_region 14 with fail
        go_region_law (first
          | (refine step_append_lies _ (by rfl) _ _ _ (by rfl) (h2 + 1 + 1 + 1 + 1) 27 i0 _ 5 32 Tryd.underlying33 hi0 hz0 hz1 hz2 rfl (by omega) vc j (reps R j) (by rfl) (QS.alloc _).oc ⟨_, 0, none⟩ 1 1 (rcs R) (by rfl) (by rfl) (World.news_of_block (cs := (rcs R).toArray) (t := 27) (fr := (0, 0)) (heap_alloc_new _ _)) (by simp [rcs, Value.oneCell']) (by omega) (by unfold maxLen; omega) (by omega) (by have := QS.sz; simp; omega) _ rfl ?_; intro g cap w9 hown hgrow hat hlt9; have qf := St.farC (QS.alloc _) hgrow; have qc9 := qf.cell 9 _ rfl; have qz9 := qf.free 9 _ rfl; have fin := St.stepC (QS.alloc _) hgrow hown hat; have bin := below_step (p := ⟨h2 + 1 + 1 + 1, 9, none⟩) (u := .slice (some ⟨g, 0, none⟩) (j + 1) cap) ((HB.out.drew.trans (hbx.mono HB.out.drew.size)).alloc (HB.out.drew.trans (hbx.mono HB.out.drew.size)).size _) hgrow (fun k hk => Nat.le_trans h5 (QS.rowC k hk)) h5''; clear qf hown hgrow hat)
          | (go_simp; go_at_call 5; refine (TH.out _).mono ?_; rintro e wx ⟨rfl, hbx⟩; have QS := HS.out.drew.keep hbx; have q9 := QS.c.cell 9 _ rfl; have qw9 := QS.c.free 9 _ rfl; have ql9 := QS.c.lt))
        all_goals go_wp2
        all_goals go_roundw
        all_goals first
          | exact ⟨j + 1, _, _, by omega, by go_num, fin, bin⟩
          | (simp [intOf]; omega)
    · obtain rfl : j = k := by omega
      obtain ⟨S1, P1⟩ := put_relay n ln
      obtain ⟨A2, cap2, rfl, D2⟩ := own_RdR hS.ob
      obtain ⟨A3, cap3, rfl, D3⟩ := own_RdR hS.oc
      obtain ⟨S2, P2⟩ := put_ping A2 cap2 j R hRok hRr lk
      obtain ⟨S3, P3⟩ := put_sync A3 cap3 j R hRok hRr lk
      have P1 := Lib.hid P1
      have P2 := Lib.hid P2
      have P3 := Lib.hid P3
      have HB := Lib.hid hb
      have HT := Lib.hid (HT0.out.below hb)
      have a := Lib.hid hS.a
      have b := Lib.hid hS.b
      have c := Lib.hid hS.c
      have D2 := Lib.hid D2
      have D3 := Lib.hid D3
      generalize hok1 : (decide (1 ≤ n) && decide (n ≤ 900)) = ok1 at *
      generalize hok2 : decide (j ≤ 8) = ok2 at *
      generalize hok3 : decide (j ≤ 32) = ok3 at *
      generalize hE : errZ n = E at *
      replace hok1 := Lib.hid hok1
      replace hok2 := Lib.hid hok2
      replace hok3 := Lib.hid hok3
      replace hE := Lib.hid hE
      clear hS hb S0 hB TH
      have x0 := a.out.cell 0 _ rfl
      have x1 := a.out.cell 1 _ rfl
      have x2 := a.out.cell 2 _ rfl
      have x3 := a.out.cell 3 _ rfl
      have x4 := a.out.cell 4 _ rfl
      have x5 := a.out.cell 5 _ rfl
      have x6 := a.out.cell 6 _ rfl
      have x7 := a.out.cell 7 _ rfl
      have x8 := a.out.cell 8 _ rfl
      have x9 := a.out.cell 9 _ rfl
      go_wp2_with fail
      refine (P1.out _ HT.out).mono ?_; rintro e w6 ⟨rfl, d⟩
      replace HT := Lib.hid (HT.out.below d)
      replace HB : Hid (Below w.heap.size w w6) := HB.out.trans (d.mono HB.out.size)
      replace b := Lib.hid (b.out.keep d)
      replace c := Lib.hid (c.out.keep d)
      replace D2 := Lib.hid ((D2.out.below d).more d.size)
      replace D3 := Lib.hid ((D3.out.below d).more d.size)
      clear d a P1
      clear x0 x1 x2 x3 x4 x5 x6 x7 x8 x9
      have x0 := b.out.cell 0 _ rfl
      have x1 := b.out.cell 1 _ rfl
      have x2 := b.out.cell 2 _ rfl
      have x3 := b.out.cell 3 _ rfl
      have x4 := b.out.cell 4 _ rfl
      have x5 := b.out.cell 5 _ rfl
      have x6 := b.out.cell 6 _ rfl
      have x7 := b.out.cell 7 _ rfl
      have x8 := b.out.cell 8 _ rfl
      have x9 := b.out.cell 9 _ rfl
      go_wp2_with fail
      refine (P2.out _ HT.out D2.out).mono ?_; rintro e w7 ⟨rfl, d⟩
      replace HT := Lib.hid (HT.out.below d)
      replace HB : Hid (Below w.heap.size w w7) := HB.out.trans (d.mono HB.out.size)
      replace c := Lib.hid (c.out.keep d)
      replace D3 := Lib.hid ((D3.out.below d).more d.size)
      clear d b P2 D2
      clear x0 x1 x2 x3 x4 x5 x6 x7 x8 x9
      have x0 := c.out.cell 0 _ rfl
      have x1 := c.out.cell 1 _ rfl
      have x2 := c.out.cell 2 _ rfl
      have x3 := c.out.cell 3 _ rfl
      have x4 := c.out.cell 4 _ rfl
      have x5 := c.out.cell 5 _ rfl
      have x6 := c.out.cell 6 _ rfl
      have x7 := c.out.cell 7 _ rfl
      have x8 := c.out.cell 8 _ rfl
      have x9 := c.out.cell 9 _ rfl
      go_wp2_with fail
      refine (P3.out _ HT.out D3.out).mono ?_; rintro e w8 ⟨rfl, d⟩
      replace HT := Lib.hid (HT.out.below d)
      replace HB : Hid (Below w.heap.size w w8) := HB.out.trans (d.mono HB.out.size)
      clear d c P3 D3
      clear x0 x1 x2 x3 x4 x5 x6 x7 x8 x9
      have lo8 : w.heap.size ≤ w8.heap.size := HB.out.size
      go_wp2_with fail
      refine (GZ.out _ (HT.out.alloc _)).mono ?_; rintro e w9 ⟨rfl, d⟩
      replace HB : Hid (Below w.heap.size w w9) := (HB.out.alloc lo8 _).trans (d.mono (HB.out.alloc lo8 _).size)
      clear d HT GZ mk2 cv
      have hcn : (n = 0) ∨ (1 ≤ n ∧ n ≤ 24) ∨ (24 < n ∧ n ≤ 900) ∨ (900 < n) := by omega
      have hcj : (j ≤ 8) ∨ (8 < j ∧ j ≤ 32) ∨ (32 < j) := by omega
      clear hlt hj
      rcases hcn with hcn | hcn | hcn | hcn <;> rcases hcj with hcj | hcj | hcj
      · have i1 : ¬ (1 : Int) ≤ n := by omega
        have i3 : ¬ (1024 : Int) < m := by omega
        have k1 : (j : Int) ≤ 8 := by omega
        have k2 : (j : Int) ≤ 32 := by omega
        have o1 : ok1 = false := by rw [← hok1.out]; simp; omega
        have o2 : ok2 = true := by rw [← hok2.out]; simp; omega
        have o3 : ok3 = true := by rw [← hok3.out]; simp; omega
        have o4 : E = 2 := by rw [← hE.out]; unfold errZ; rw [if_pos (by omega)]
        subst o1 o2 o3 o4
        clear hok1 hok2 hok3 hE
        go_wp2
        go_ret
        exact ⟨bool_ret (by first | rfl | (simp; done) | (simp; omega)), HB.out.alloc HB.out.size _⟩
      · have i1 : ¬ (1 : Int) ≤ n := by omega
        have i3 : ¬ (1024 : Int) < m := by omega
        have k1 : ¬ (j : Int) ≤ 8 := by omega
        have k2 : (j : Int) ≤ 32 := by omega
        have o1 : ok1 = false := by rw [← hok1.out]; simp; omega
        have o2 : ok2 = false := by rw [← hok2.out]; simp; omega
        have o3 : ok3 = true := by rw [← hok3.out]; simp; omega
        have o4 : E = 2 := by rw [← hE.out]; unfold errZ; rw [if_pos (by omega)]
        subst o1 o2 o3 o4
        clear hok1 hok2 hok3 hE
        go_wp2
        go_ret
        exact ⟨bool_ret (by first | rfl | (simp; done) | (simp; omega)), HB.out.alloc HB.out.size _⟩
      · have i1 : ¬ (1 : Int) ≤ n := by omega
        have i3 : ¬ (1024 : Int) < m := by omega
        have k1 : ¬ (j : Int) ≤ 8 := by omega
        have k2 : ¬ (j : Int) ≤ 32 := by omega
        have o1 : ok1 = false := by rw [← hok1.out]; simp; omega
        have o2 : ok2 = false := by rw [← hok2.out]; simp; omega
        have o3 : ok3 = false := by rw [← hok3.out]; simp; omega
        have o4 : E = 2 := by rw [← hE.out]; unfold errZ; rw [if_pos (by omega)]
        subst o1 o2 o3 o4
        clear hok1 hok2 hok3 hE
        go_wp2
        go_ret
        exact ⟨bool_ret (by first | rfl | (simp; done) | (simp; omega)), HB.out.alloc HB.out.size _⟩
      · have i1 : (1 : Int) ≤ n := by omega
        have i2 : (n : Int) ≤ 900 := by omega
        have i3 : ¬ (1024 : Int) < m := by omega
        have k1 : (j : Int) ≤ 8 := by omega
        have k2 : (j : Int) ≤ 32 := by omega
        have o1 : ok1 = true := by rw [← hok1.out]; simp; omega
        have o2 : ok2 = true := by rw [← hok2.out]; simp; omega
        have o3 : ok3 = true := by rw [← hok3.out]; simp; omega
        have o4 : E = 2 := by rw [← hE.out]; unfold errZ; rw [if_pos (by omega)]
        subst o1 o2 o3 o4
        clear hok1 hok2 hok3 hE
        go_wp2
        go_ret
        exact ⟨bool_ret (by first | rfl | (simp; done) | (simp; omega)), HB.out.alloc HB.out.size _⟩
      · have i1 : (1 : Int) ≤ n := by omega
        have i2 : (n : Int) ≤ 900 := by omega
        have i3 : ¬ (1024 : Int) < m := by omega
        have k1 : ¬ (j : Int) ≤ 8 := by omega
        have k2 : (j : Int) ≤ 32 := by omega
        have o1 : ok1 = true := by rw [← hok1.out]; simp; omega
        have o2 : ok2 = false := by rw [← hok2.out]; simp; omega
        have o3 : ok3 = true := by rw [← hok3.out]; simp; omega
        have o4 : E = 2 := by rw [← hE.out]; unfold errZ; rw [if_pos (by omega)]
        subst o1 o2 o3 o4
        clear hok1 hok2 hok3 hE
        go_wp2
        go_ret
        exact ⟨bool_ret (by first | rfl | (simp; done) | (simp; omega)), HB.out.alloc HB.out.size _⟩
      · have i1 : (1 : Int) ≤ n := by omega
        have i2 : (n : Int) ≤ 900 := by omega
        have i3 : ¬ (1024 : Int) < m := by omega
        have k1 : ¬ (j : Int) ≤ 8 := by omega
        have k2 : ¬ (j : Int) ≤ 32 := by omega
        have o1 : ok1 = true := by rw [← hok1.out]; simp; omega
        have o2 : ok2 = false := by rw [← hok2.out]; simp; omega
        have o3 : ok3 = false := by rw [← hok3.out]; simp; omega
        have o4 : E = 2 := by rw [← hE.out]; unfold errZ; rw [if_pos (by omega)]
        subst o1 o2 o3 o4
        clear hok1 hok2 hok3 hE
        go_wp2
        go_ret
        exact ⟨bool_ret (by first | rfl | (simp; done) | (simp; omega)), HB.out.alloc HB.out.size _⟩
      · have i1 : (1 : Int) ≤ n := by omega
        have i2 : (n : Int) ≤ 900 := by omega
        have i3 : (1024 : Int) < m := by omega
        have k1 : (j : Int) ≤ 8 := by omega
        have k2 : (j : Int) ≤ 32 := by omega
        have o1 : ok1 = true := by rw [← hok1.out]; simp; omega
        have o2 : ok2 = true := by rw [← hok2.out]; simp; omega
        have o3 : ok3 = true := by rw [← hok3.out]; simp; omega
        have o4 : E = 3 := by rw [← hE.out]; unfold errZ; rw [if_neg (by omega)]
        subst o1 o2 o3 o4
        clear hok1 hok2 hok3 hE
        go_wp2
        go_ret
        exact ⟨bool_ret (by first | rfl | (simp; done) | (simp; omega)), HB.out.alloc HB.out.size _⟩
      · have i1 : (1 : Int) ≤ n := by omega
        have i2 : (n : Int) ≤ 900 := by omega
        have i3 : (1024 : Int) < m := by omega
        have k1 : ¬ (j : Int) ≤ 8 := by omega
        have k2 : (j : Int) ≤ 32 := by omega
        have o1 : ok1 = true := by rw [← hok1.out]; simp; omega
        have o2 : ok2 = false := by rw [← hok2.out]; simp; omega
        have o3 : ok3 = true := by rw [← hok3.out]; simp; omega
        have o4 : E = 3 := by rw [← hE.out]; unfold errZ; rw [if_neg (by omega)]
        subst o1 o2 o3 o4
        clear hok1 hok2 hok3 hE
        go_wp2
        go_ret
        exact ⟨bool_ret (by first | rfl | (simp; done) | (simp; omega)), HB.out.alloc HB.out.size _⟩
      · have i1 : (1 : Int) ≤ n := by omega
        have i2 : (n : Int) ≤ 900 := by omega
        have i3 : (1024 : Int) < m := by omega
        have k1 : ¬ (j : Int) ≤ 8 := by omega
        have k2 : ¬ (j : Int) ≤ 32 := by omega
        have o1 : ok1 = true := by rw [← hok1.out]; simp; omega
        have o2 : ok2 = false := by rw [← hok2.out]; simp; omega
        have o3 : ok3 = false := by rw [← hok3.out]; simp; omega
        have o4 : E = 3 := by rw [← hE.out]; unfold errZ; rw [if_neg (by omega)]
        subst o1 o2 o3 o4
        clear hok1 hok2 hok3 hE
        go_wp2
        go_ret
        exact ⟨bool_ret (by first | rfl | (simp; done) | (simp; omega)), HB.out.alloc HB.out.size _⟩
      · have i1 : (1 : Int) ≤ n := by omega
        have i2 : ¬ (n : Int) ≤ 900 := by omega
        have i3 : (1024 : Int) < m := by omega
        have k1 : (j : Int) ≤ 8 := by omega
        have k2 : (j : Int) ≤ 32 := by omega
        have o1 : ok1 = false := by rw [← hok1.out]; simp; omega
        have o2 : ok2 = true := by rw [← hok2.out]; simp; omega
        have o3 : ok3 = true := by rw [← hok3.out]; simp; omega
        have o4 : E = 3 := by rw [← hE.out]; unfold errZ; rw [if_neg (by omega)]
        subst o1 o2 o3 o4
        clear hok1 hok2 hok3 hE
        go_wp2
        go_ret
        exact ⟨bool_ret (by first | rfl | (simp; done) | (simp; omega)), HB.out.alloc HB.out.size _⟩
      · have i1 : (1 : Int) ≤ n := by omega
        have i2 : ¬ (n : Int) ≤ 900 := by omega
        have i3 : (1024 : Int) < m := by omega
        have k1 : ¬ (j : Int) ≤ 8 := by omega
        have k2 : (j : Int) ≤ 32 := by omega
        have o1 : ok1 = false := by rw [← hok1.out]; simp; omega
        have o2 : ok2 = false := by rw [← hok2.out]; simp; omega
        have o3 : ok3 = true := by rw [← hok3.out]; simp; omega
        have o4 : E = 3 := by rw [← hE.out]; unfold errZ; rw [if_neg (by omega)]
        subst o1 o2 o3 o4
        clear hok1 hok2 hok3 hE
        go_wp2
        go_ret
        exact ⟨bool_ret (by first | rfl | (simp; done) | (simp; omega)), HB.out.alloc HB.out.size _⟩
      · have i1 : (1 : Int) ≤ n := by omega
        have i2 : ¬ (n : Int) ≤ 900 := by omega
        have i3 : (1024 : Int) < m := by omega
        have k1 : ¬ (j : Int) ≤ 8 := by omega
        have k2 : ¬ (j : Int) ≤ 32 := by omega
        have o1 : ok1 = false := by rw [← hok1.out]; simp; omega
        have o2 : ok2 = false := by rw [← hok2.out]; simp; omega
        have o3 : ok3 = false := by rw [← hok3.out]; simp; omega
        have o4 : E = 3 := by rw [← hE.out]; unfold errZ; rw [if_neg (by omega)]
        subst o1 o2 o3 o4
        clear hok1 hok2 hok3 hE
        go_wp2
        go_ret
        exact ⟨bool_ret (by first | rfl | (simp; done) | (simp; omega)), HB.out.alloc HB.out.size _⟩
end Go.Proofs.YtmhlnlippfaclaaDoor
