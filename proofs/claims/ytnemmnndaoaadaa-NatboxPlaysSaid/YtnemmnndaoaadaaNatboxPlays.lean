/- A box lets out and in, forgets, begins anew, deed by deed, as the chapter says: for every type, IP, time it holds, room, and every list of deeds. (Written by wip/tools/gen_nat08.py.) -/
import Derived.Test.YtnemmnndaoaadaaBoxSame
import Derived.Deep.RegionHeld3
import Derived.Deep.DeepCutAuto
import Derived.Deep.CutBlock
import Derived.ChangeSame
import Derived.ChangeOld
import Derived.ChangeMaps5
import Derived.ShutString
import Derived.OpenShut
import Derived.SizedLaws
import Derived.Lib.SmallJoins
namespace Go.Proofs.Ytnemmnndaoaadaa
open Go.Sort Go.RowKit Go.BigFrame Go.ChangeShapes Go.WideShapes Go.ChangeAt Go.Deep
open Go.ChangeMaps (open_string shut_string)
set_option linter.unusedVariables false
set_option linter.unusedSimpArgs false

theorem wrap_lo (n : Int) : 0 ≤ IntKind.u64.wrap n := by
  simp [IntKind.wrap, IntKind.signed]
  exact Int.emod_nonneg _ (by decide)
def NpPost (w : World) (e : Ending) (w' : World) : Prop := e = .returned (.bool true) ∧ Below w.heap.size w w'
/-- behind 'near' -/
def NrJ (tb : Nat) (w : World) (av bv cv : Value) (wx : World) : Prop := ∃ m f ip hold room : Int, av = .int .u32 ip ∧ bv = .int .u64 hold ∧ cv = .int .i64 room ∧ 0 ≤ hold ∧ Cs tb [.int .i64 m, .int .i64 f] wx ∧ Below w.heap.size w wx
def NpJ (m : Nat) (W : World) (g gx : Nat) (nv iv : Value) (wr : World) : Prop := ∃ (i : Nat) (now : Int) (X : Bx), iv = .int .i64 (i : Nat) ∧ nv = .int .u64 now ∧ i ≤ m ∧ 0 ≤ now ∧ now ≤ 7 * (i : Int) ∧ LN W [] g gx X X wr
def AtJ (w : World) (av : Value) (wx : World) : Prop := ∃ t : Int, av = .int .u64 t ∧ 0 ≤ t ∧ w = wx
def PoJ (w : World) (av : Value) (wx : World) : Prop := ∃ t : Int, av = .int .u16 t ∧ w = wx
def BoJ (w : World) (av : Value) (wx : World) : Prop := av = .bool true ∧ w = wx
def OnJ (W : World) (lo : List (Nat × List Value)) (g gx : Nat) (X Y : Bx) (ra rb rc : Int) (pv ev : Value) (wx : World) : Prop := ∃ zz, pv = .pointer (some ⟨zz, 0, none⟩) ∧ ev = .int .i64 rc ∧ LN W ((zz, [.int .u32 ra, .int .u16 rb]) :: lo) g gx X Y wx
def SwJ (W : World) (g gx : Nat) (fv : Value) (wx : World) : Prop := fv = .bool true ∧ ∃ X, LN W [] g gx X X wx
theorem badN_room {m f ip hold room : Int} (h : badN m f ip hold room = false) : ∃ n : Nat, room = (n : Int) ∧ 1 ≤ n ∧ n ≤ 64 ∧ 1 ≤ hold ∧ hold ≤ 1000000 ∨ hold < 0 := by
  unfold badN at h
  simp only [Bool.or_eq_false_iff, decide_eq_false_iff_not] at h
  refine ⟨room.toNat, ?_⟩
  omega
theorem ln_start {W w w1 w2 : World} {m f ip hold : Int} {room g gx : Nat} (h0 : Below W.heap.size W w) (h1 : B1 W.heap.size (fun _ => False) g ⟨m, f, ip, hold, room, []⟩ (fun k => k = g) w1) (hb1 : Below w.heap.size w w1) (hx : Cs gx (bcells m f ip hold room ⟨none, 0, 0⟩) w2) (hgx : w1.heap.size ≤ gx) (hb2 : Below w1.heap.size w1 w2) (hr : 1 ≤ room ∧ room ≤ 64) (hh : 1 ≤ hold ∧ hold ≤ 1000000) :
    LN W [] g gx ⟨m, f, ip, hold, room, []⟩ ⟨m, f, ip, hold, room, []⟩ w2 := by
  have hg := h1.lt
  refine ⟨h0.trans ((hb1.mono h0.size).trans (hb2.mono (Nat.le_trans h0.size hb1.size))), ⟨fun k => k = g, fun k => k = gx, (h1.keep hb2).more fun k hk e => ?_, ⟨none, 0, 0⟩, [], ⟨hx, World.ownsRow_nil _ _ _ _, rfl, rfl, fun k hk => by simp [Sl.v, Value.ownBlock] at hk, by simp, fun k hk => by rw [hk]; exact hx.lt, holdW_nil room, hr.1, hr.2, hh.1, hh.2, by simp⟩, rfl, fun k hk => ⟨?_, fun e => ?_⟩⟩, by simp⟩
  · rcases e with e | e
    · simp at e
    · omega
  · have := h0.size; have := hb1.size; omega
  · rcases e with e | e
    · simp at e
    · omega
set_option maxHeartbeats 12800000 in
set_option maxRecDepth 100000 in
theorem nat_run (m0 f0 ip0 hold0 room0 : Int) (near : Bool) (a : Option Addr) (len cap : Nat) (w : World) (w0 : (Lit.int .i64 m0).wf = true) (w1' : (Lit.int .i64 f0).wf = true) (w2' : (Lit.int .u32 ip0).wf = true) (w3' : (Lit.int .u64 hold0).wf = true) (w4' : (Lit.int .i64 room0).wf = true) (hd : DeedRow w a len cap) :
    Calls Try.prog 3 #[.agg #[.int .i64 m0, .int .i64 f0], .int .u32 ip0, .int .u64 hold0, .int .i64 room0, .bool near, .slice a len cap] w (NpPost w) := by
  have K0 := examples_yes
  have HD := Lib.hid hd
  have hln := hd.len
  have hl2 : (len : Int) ≤ 9223372036854775807 := by omega
  obtain ⟨bip0, bip1⟩ := bounds_u32 w2'
  obtain ⟨bh0, bh1⟩ := bounds_u64 w3'
  have TX : Hid (Cs w.heap.size [.int .i64 m0, .int .i64 f0] (w.alloc (.cells #[.int .i64 m0, .int .i64 f0] 23))) := Cs.new w [.int .i64 m0, .int .i64 f0] 23
  have HB : Hid (Below w.heap.size w (w.alloc (.cells #[.int .i64 m0, .int .i64 f0] 23))) := (Below.refl _ w).alloc (Nat.le_refl _) _
  clear hd hln w0 w1' w2' w3' w4'
  go_enter Try.func3, Try.ntmps3
  go_wp2_with fail
  refine (K0 _).mono ?_; rintro e w1 ⟨rfl, b1⟩
  replace TX := Lib.hid (TX.out.keep b1)
  replace HB := Lib.hid (HB.out.trans (b1.mono HB.out.size))
  clear b1 K0
  have t0 := TX.out.cell 0 _ rfl; have t1 := TX.out.cell 1 _ rfl; have tf0 := TX.out.free 0 _ rfl; have tf1 := TX.out.free 1 _ rfl; have tl := TX.out.lt
  go_upto_if 35 with fail
  go_cut [1, 2, 3] (fun av bv cv wx => NrJ w.heap.size w av bv cv wx)
  case first =>
    cases near with
    | false =>
      have FN : Hid (NrJ w.heap.size w (.int .u32 ip0) (.int .u64 hold0) (.int .i64 room0) w1) := ⟨m0, f0, ip0, hold0, room0, rfl, rfl, rfl, bh0, TX.out, HB.out⟩
      go_wp2_with fail
      go_meet
      exact FN.out
    | true =>
      have hu := wrap_lo m0
      have hv := wrap_lo f0
      have hz := wrap_lo room0
      obtain ⟨mm, hmm⟩ : ∃ q, IntKind.u64.wrap m0 % 3 = q := ⟨_, rfl⟩
      obtain ⟨mf, hmf⟩ : ∃ q, IntKind.u64.wrap f0 % 3 = q := ⟨_, rfl⟩
      obtain ⟨mr, hmr⟩ : ∃ q, IntKind.u64.wrap room0 % 6 = q := ⟨_, rfl⟩
      obtain ⟨mi, hmi⟩ : ∃ q, ip0 % 9 = q := ⟨_, rfl⟩
      obtain ⟨mh, hmh⟩ : ∃ q, hold0 % 30 = q := ⟨_, rfl⟩
      have hm2 : (IntKind.u64.wrap m0).tmod 3 = mm := by rw [tmod_pos _ _ hu]; exact hmm
      have hf2 : (IntKind.u64.wrap f0).tmod 3 = mf := by rw [tmod_pos _ _ hv]; exact hmf
      have hr2 : (IntKind.u64.wrap room0).tmod 6 = mr := by rw [tmod_pos _ _ hz]; exact hmr
      have hi2 : ip0.tmod 9 = mi := by rw [tmod_pos _ _ bip0]; exact hmi
      have hh2 : hold0.tmod 30 = mh := by rw [tmod_pos _ _ bh0]; exact hmh
      have q0 : 0 ≤ mm ∧ mm < 3 := by omega
      have q1 : 0 ≤ mf ∧ mf < 3 := by omega
      have q2 : 0 ≤ mr ∧ mr < 6 := by omega
      have q3 : 0 ≤ mi ∧ mi < 9 := by omega
      have q4 : 0 ≤ mh ∧ mh < 30 := by omega
      have c1 := IntWalk.i64_in mm ⟨by omega, by omega⟩
      have c2 := IntWalk.i64_in mf ⟨by omega, by omega⟩
      have c3 := IntWalk.i64_in mr ⟨by omega, by omega⟩
      have c4 := IntWalk.i64_in (1 + mr) ⟨by omega, by omega⟩
      have c5 := IntWalk.u32_in (mi + 1) ⟨by omega, by omega⟩
      have c6 := IntWalk.u64_in (1 + mh) ⟨by omega, by omega⟩
      go_wp2_with fail
      go_meet
      refine ⟨mm, mf, _, _, _, rfl, rfl, rfl, by omega, ?_, ?_⟩
      · exact (TX.out.set 0 (.int .i64 mm) (by simp)).set 1 (.int .i64 mf) (by simp)
      · have hB := HB.out
        (have zzh := Below.size hB; repeat (first | with_reducible exact hB | with_reducible refine Below.setCell ?_ (by first | omega | (simp; done) | (simp; omega)) _ | with_reducible refine Below.alloc ?_ (by first | omega | (simp; done) | (simp; omega)) _ | with_reducible refine Below.drew ?_))
  case rest =>
  obtain ⟨m, f, ip, hold, room, rfl, rfl, rfl, hh0, hT, hB⟩ := hcut
  generalize wc = w2 at *
  clear t0 t1 tf0 tf1 tl TX HB bip0 bip1 bh0 bh1
  replace TX := Lib.hid hT
  have HB := Lib.hid hB
  clear hT hB
  have t0 := TX.out.cell 0 _ rfl; have t1 := TX.out.cell 1 _ rfl; have tl := TX.out.lt
  cases hbn : badN m f ip hold room with
  | true =>
    have N1 := new_bad m f ip hold room w2 hbn hh0
    go_wp2_with fail
    refine N1.mono ?_; rintro e w3 ⟨rfl, b3⟩
    replace TX := Lib.hid (TX.out.keep b3)
    replace HB := Lib.hid (HB.out.trans (b3.mono HB.out.size))
    have N2 := rnew_bad m f ip hold room w3 hbn hh0
    clear t0 t1 tl N1 b3 hbn
    have t0 := TX.out.cell 0 _ rfl; have t1 := TX.out.cell 1 _ rfl; have tl := TX.out.lt
    go_wp2_with fail
    refine N2.mono ?_; rintro e w4 ⟨rfl, b4⟩
    have HB4 := Lib.hid (HB.out.trans (b4.mono HB.out.size))
    clear t0 t1 tl N2 b4 HB TX
    go_wp2
    go_ret
    exact ⟨rfl, HB4.out⟩
  | false =>
    obtain ⟨rm, hrm⟩ := badN_room hbn
    have hrm : room = (rm : Int) ∧ 1 ≤ rm ∧ rm ≤ 64 ∧ 1 ≤ hold ∧ hold ≤ 1000000 := by omega
    obtain ⟨rfl, hr1, hr2, hh1, hh2⟩ := hrm
    have N1 := new1 (B := w.heap.size) (R := fun _ => False) (w := w2) HB.out.size (fun _ h => h.elim) hbn hh0
    go_wp2_with fail
    refine N1.mono ?_; rintro e w3 ⟨g, rfl, hg, hB1, b3⟩
    replace TX := Lib.hid (TX.out.keep b3)
    have N2 := rnew_ok m f ip hold rm w3 hbn hh0
    have H1 := Lib.hid hB1
    have B3 := Lib.hid b3
    clear t0 t1 tl N1 b3 hbn hg hB1
    have t0 := TX.out.cell 0 _ rfl; have t1 := TX.out.cell 1 _ rfl; have tl := TX.out.lt
    go_wp2_with fail
    refine N2.mono ?_; rintro e w4 ⟨gx, rfl, hgx, hgl, hcx, b4⟩
    have S0 : Hid (NpJ (min len 80) w g gx (.int .u64 0) (.int .i64 0) w4) := ⟨0, 0, _, rfl, rfl, Nat.zero_le _, by omega, by omega, ln_start HB.out H1.out B3.out hcx hgx b4 ⟨hr1, hr2⟩ ⟨hh1, hh2⟩⟩
    clear t0 t1 tl N2 b4 HB TX H1 B3 hgx hgl hcx hr1 hr2 hh1 hh2 hh0
    go_wp2_with fail
    go_loopw [17, 18] (fun nv iv wr => NpJ (min len 80) w g gx nv iv wr) (fun _ iv _ => 100 - (intOf iv).toNat)
    case atStart => exact S0.out
    case round =>
      obtain ⟨i, now, X, rfl, rfl, hi, hn0, hn1, h⟩ := hrel
      clear S0
      have hi0 : (0 : Int) ≤ i := by omega
      by_cases hlt : i < min len 80
      · have hlt1 : (i : Int) < len := by omega
        have hlt2 : (i : Int) < 80 := by omega
        have HI : Hid (i + 1 ≤ min len 80) := hlt
        obtain ⟨b, off, rfl, hbl, hcc⟩ := HD.out.at_ (by omega)
        obtain ⟨d, hf, hc⟩ := hcc i (by omega)
        have hbc : ∀ k v, d.cells[k]? = some v → wr.cell? ⟨b, off + i * 8 + k, none⟩ = some v := fun k v hv => (h.below.cell (p := ⟨b, off + i * 8 + k, none⟩) hbl).trans (hc k v hv)
        have hbl' : b < wr.heap.size := Nat.lt_of_lt_of_le hbl h.below.size
        obtain ⟨dk, di, dd, dp, db, da, dc, dr⟩ := d
        obtain ⟨dk0, dk1⟩ := bounds_u8 hf.k
        obtain ⟨di0, di1⟩ := bounds_u8 hf.i
        obtain ⟨dd0, dd1⟩ := bounds_u8 hf.o
        obtain ⟨dp0, dp1⟩ := bounds_u8 hf.p
        obtain ⟨db0, db1⟩ := bounds_u8 hf.b
        obtain ⟨dr0, dr1⟩ := bounds_u64 hf.r
        have c0 := hbc 0 _ rfl
        have c1 := hbc 1 _ rfl
        have c2 := hbc 2 _ rfl
        have c3 := hbc 3 _ rfl
        have c4 := hbc 4 _ rfl
        have c5 := hbc 5 _ rfl
        have c6 := hbc 6 _ rfl
        have c7 := hbc 7 _ rfl
        simp only [Nat.add_zero] at c0 c1 c2 c3 c4 c5 c6 c7 dk0 dk1 di0 di1 dd0 dd1 dp0 dp1 db0 db1 dr0 dr1
        have HL : Hid (LN w [(wr.heap.size, [.int .u8 dk, .int .u8 di, .int .u8 dd, .int .u8 dp, .int .u8 db, .int .u32 da, .int .u16 dc, .int .u64 dr])] g gx X X (wr.alloc (.cells (List.toArray [.int .u8 dk, .int .u8 di, .int .u8 dd, .int .u8 dp, .int .u8 db, .int .u32 da, .int .u16 dc, .int .u64 dr]) 40))) := h.alloc [.int .u8 dk, .int .u8 di, .int .u8 dd, .int .u8 dp, .int .u8 db, .int .u32 da, .int .u16 dc, .int .u64 dr] 40
        clear hcc hc hf hbc h hbl
        go_upto_region 20 with fail
        change Hid (LN w [(wr.heap.size, [.int .u8 dk, .int .u8 di, .int .u8 dd, .int .u8 dp, .int .u8 db, .int .u32 da, .int .u16 dc, .int .u64 dr])] g gx X X (wr.alloc (.cells #[.int .u8 dk, .int .u8 di, .int .u8 dd, .int .u8 dp, .int .u8 db, .int .u32 da, .int .u16 dc, .int .u64 dr] 40))) at HL
        generalize (wr.alloc (.cells #[.int .u8 dk, .int .u8 di, .int .u8 dd, .int .u8 dp, .int .u8 db, .int .u32 da, .int .u16 dc, .int .u64 dr] 40)) = w5 at *
        generalize wr.heap.size = z at *
        clear c0 c1 c2 c3 c4 c5 c6 c7 hbl'
        have kX := HL.out.at z [.int .u8 dk, .int .u8 di, .int .u8 dd, .int .u8 dp, .int .u8 db, .int .u32 da, .int .u16 dc, .int .u64 dr] (by simp)
        have k0 := kX.cell 0 _ rfl; have k1 := kX.cell 1 _ rfl; have k2 := kX.cell 2 _ rfl; have k3 := kX.cell 3 _ rfl; have k4 := kX.cell 4 _ rfl; have k5 := kX.cell 5 _ rfl; have k6 := kX.cell 6 _ rfl; have k7 := kX.cell 7 _ rfl; have kl := kX.lt
        obtain ⟨nb, hnb⟩ : ∃ q, db % 8 = q := ⟨_, rfl⟩
        have hnb2 : db.tmod 8 = nb := by rw [tmod_pos _ _ db0]; exact hnb
        have nb0 : 0 ≤ nb ∧ nb < 8 := by omega
        have cw := IntWalk.u64_in nb ⟨by omega, by omega⟩
        have cw2 := IntWalk.u64_in (now + nb) ⟨by omega, by omega⟩
        clear kX
        go_upto_if 115 with fail
        clear hnb hnb2 cw cw2
        obtain ⟨now2, hnow2⟩ : ∃ q, q = now + nb := ⟨_, rfl⟩
        have hq0 : 0 ≤ now2 := by omega
        have hq1 : now2 ≤ 7 * ((i : Int) + 1) := by omega
        rw [← hnow2]
        clear hnow2 hn0 hn1 nb0
        go_cut [20] (fun av wx => AtJ w5 av wx)
        case first =>
          by_cases hby : 252 < db
          · go_wp2_with fail
            go_meet
            exact ⟨dr, rfl, dr0, rfl⟩
          · have hby2 : decide (252 < db) = false := decide_eq_false hby
            go_wp2_with fail
            go_meet
            exact ⟨now2, rfl, hq0, rfl⟩
        case rest =>
        obtain ⟨at_, rfl, hat0, rfl⟩ := hcut
        obtain ⟨kk, hkk⟩ : ∃ q, dk % 11 = q := ⟨_, rfl⟩
        have hkk2 : dk.tmod 11 = kk := by rw [tmod_pos _ _ dk0]; exact hkk
        have kk0 : 0 ≤ kk ∧ kk < 11 := by omega
        go_upto_block 2 with fail
        clear hkk hkk2
        go_cut [21] (fun fv wx => SwJ w g gx fv wx)
        case first =>
          have hway : (kk = 5 ∨ kk = 6 ∨ kk = 7 ∨ kk = 8) ∨ kk = 9 ∨ kk = 10 ∨ kk < 5 := by omega
          rcases hway with hin | rfl | rfl | hlo
          · as_aux_lemma =>
              go_upto_if 152 with fail
              go_cut [152] (fun c wx => BoJ w5 c wx)
              case first =>
                rcases hin with rfl | rfl | rfl | rfl
                · go_wp2_with fail
                  go_meet
                  exact ⟨rfl, rfl⟩
                · go_wp2_with fail
                  go_meet
                  exact ⟨rfl, rfl⟩
                · go_wp2_with fail
                  go_meet
                  exact ⟨rfl, rfl⟩
                · go_wp2_with fail
                  go_meet
                  exact ⟨rfl, rfl⟩
              case rest =>
              obtain ⟨rfl, rfl⟩ := hcut
              obtain ⟨np, hnp⟩ : ∃ q, dp % 8 = q := ⟨_, rfl⟩
              have hnp2 : dp.tmod 8 = np := by rw [tmod_pos _ _ dp0]; exact hnp
              have np0 : 0 ≤ np ∧ np < 8 := by omega
              have cp1 := IntWalk.u16_in np ⟨by omega, by omega⟩
              have cp2 := IntWalk.u16_in (20000 + np) ⟨by omega, by omega⟩
              go_upto_if 164 with fail
              clear hnp hnp2 cp1 cp2
              go_cut [22] (fun pv wx => PoJ w5 pv wx)
              case first =>
                by_cases hpp : 250 < dp
                · go_wp2_with fail
                  go_meet
                  exact ⟨_, rfl, rfl⟩
                · have hpp2 : decide (250 < dp) = false := decide_eq_false hpp
                  go_wp2_with fail
                  go_meet
                  exact ⟨_, rfl, rfl⟩
              case rest =>
              obtain ⟨pt, rfl, rfl⟩ := hcut
              clear np0
              have OUTR := fun w => outer_any dk di dd dp db da dc dr ⟨dd0, dd1⟩ w
              generalize outIP dd da = oi at *
              generalize outPort dd dc = op at *
              go_wp2_with fail
              refine (OUTR _).mono ?_; rintro e w6 ⟨rfl, b6⟩
              replace HL := Lib.hid (HL.out.keep b6)
              have K := inN HL.out at_ pt oi op hat0
              obtain ⟨R, hR⟩ : ∃ R, inT X at_ pt oi op = R := ⟨_, rfl⟩
              obtain ⟨⟨ra, rb, rc⟩, l2⟩ := R
              rw [hR] at K
              simp only [ansV] at K
              have HR := Lib.hid hR
              clear hR b6 k0 k1 k2 k3 k4 k5 k6 k7 kl
              go_wp2_with fail
              refine K.mono ?_; rintro e w7 ⟨rfl, h⟩
              have h := h.alloc [.int .u32 ra, .int .u16 rb] 38
              replace HL := Lib.hid h
              clear K h
              go_upto_region 37 with fail
              change Hid (LN w [(w7.heap.size, [.int .u32 ra, .int .u16 rb]), (z, [.int .u8 dk, .int .u8 di, .int .u8 dd, .int .u8 dp, .int .u8 db, .int .u32 da, .int .u16 dc, .int .u64 dr])] g gx (withL X l2) X (w7.alloc (.cells #[.int .u32 ra, .int .u16 rb] 38))) at HL
              generalize (w7.alloc (.cells #[.int .u32 ra, .int .u16 rb] 38)) = w8 at *
              generalize w7.heap.size = za at *
              have kX := HL.out.at z [.int .u8 dk, .int .u8 di, .int .u8 dd, .int .u8 dp, .int .u8 db, .int .u32 da, .int .u16 dc, .int .u64 dr] (by simp)
              have k0 := kX.cell 0 _ rfl; have k1 := kX.cell 1 _ rfl; have k2 := kX.cell 2 _ rfl; have k3 := kX.cell 3 _ rfl; have k4 := kX.cell 4 _ rfl; have k5 := kX.cell 5 _ rfl; have k6 := kX.cell 6 _ rfl; have k7 := kX.cell 7 _ rfl; have kl := kX.lt
              clear kX
              go_wp2_with fail
              refine (OUTR _).mono ?_; rintro e w9 ⟨rfl, b9⟩
              replace HL := Lib.hid (HL.out.keep b9)
              clear b9 k0 k1 k2 k3 k4 k5 k6 k7 kl OUTR
              have K := ref_any oi op
              go_wp2_with fail
              refine (K _).mono ?_; rintro e w10 ⟨rfl, b10⟩
              replace HL := Lib.hid (HL.out.keep b10)
              clear K b10
              have K := inX HL.out at_ pt oi op hat0
              rw [HR.out] at K
              simp only [ansV] at K
              go_wp2_with fail
              refine K.mono ?_; rintro e w11 ⟨rfl, h⟩
              have h := h.alloc [.int .u32 ra, .int .u16 rb] 44
              replace HL := Lib.hid h
              clear K h HR
              go_upto_region 38 with fail
              change Hid (LN w [(w11.heap.size, [.int .u32 ra, .int .u16 rb]), (za, [.int .u32 ra, .int .u16 rb]), (z, [.int .u8 dk, .int .u8 di, .int .u8 dd, .int .u8 dp, .int .u8 db, .int .u32 da, .int .u16 dc, .int .u64 dr])] g gx (withL X l2) (withL X l2) (w11.alloc (.cells #[.int .u32 ra, .int .u16 rb] 44))) at HL
              generalize (w11.alloc (.cells #[.int .u32 ra, .int .u16 rb] 44)) = w12 at *
              generalize w11.heap.size = zb at *
              have kA := HL.out.at za [.int .u32 ra, .int .u16 rb] (by simp)
              have kB := HL.out.at zb [.int .u32 ra, .int .u16 rb] (by simp)
              have a0 := cell_regrown (kA.cell 0 _ rfl)
              have a1 := cell_regrown (kA.cell 1 _ rfl)
              have b0 := cell_regrown (kB.cell 0 _ rfl)
              have b1 := cell_regrown (kB.cell 1 _ rfl)
              have C := fun d os => Calls.regrown_of (ref_any ra rb (grow (redrawn w12 d) os))
              clear kA kB
              (refine wp_region_quiet_below (by kernel_rfl) (by kernel_rfl) ?_; (repeat (go_big_quiet_step (first | with_reducible exact C _ _))); refine wpQuiet_nil ?_; intro _ hw'; obtain ⟨⟨dq, osq⟩, hw''⟩ := hw'; subst hw'')
              have FN : Hid (SwJ w g gx (.bool true) (grow (redrawn w12 dq) osq)) := ⟨rfl, _, (HL.out.sub (lo' := []) (by simp)).keep (below_regrown w12 dq osq)⟩
              clear a0 a1 b0 b1 C HL
              go_wp2_with fail
              go_meet
              exact FN.out
          · as_aux_lemma =>
              have K := sweepN HL.out at_
              go_wp2_with fail
              refine K.mono ?_; rintro e w6 ⟨rfl, h⟩
              have K2 := sweepX h at_
              clear K h
              generalize (X.l.length : Int) - (sweepP at_ X.l).length = sn at *
              go_wp2_with fail
              refine K2.mono ?_; rintro e w7 ⟨rfl, h⟩
              have FN : Hid (SwJ w g gx (.bool true) w7) := ⟨rfl, _, h.sub (lo' := []) (by simp)⟩
              clear K2 h HL k0 k1 k2 k3 k4 k5 k6 k7 kl
              go_wp2_with fail
              go_meet
              exact FN.out
          · as_aux_lemma =>
              obtain ⟨ni, hni⟩ : ∃ q, di % 8 = q := ⟨_, rfl⟩
              have hni2 : di.tmod 8 = ni := by rw [tmod_pos _ _ di0]; exact hni
              have ni0 : 0 ≤ ni ∧ ni < 8 := by omega
              by_cases hz : ni = 0
              · obtain ⟨nr, hnr⟩ : ∃ q, dp % 4 = q := ⟨_, rfl⟩
                have hnr2 : dp.tmod 4 = nr := by rw [tmod_pos _ _ dp0]; exact hnr
                have nr0 : 0 ≤ nr ∧ nr < 4 := by omega
                have cr := IntWalk.u32_in nr ⟨by omega, by omega⟩
                subst hz
                clear ni0
                have SF : Hid (∀ X' Y' wx, LN w [(z, [.int .u8 dk, .int .u8 di, .int .u8 dd, .int .u8 dp, .int .u8 db, .int .u32 da, .int .u16 dc, .int .u64 dr])] g gx X' Y' wx → wx.cell? ⟨z, 3, none⟩ = some (.int .u8 dp)) := fun X' Y' wx hh => (hh.at z [.int .u8 dk, .int .u8 di, .int .u8 dd, .int .u8 dp, .int .u8 db, .int .u32 da, .int .u16 dc, .int .u64 dr] (by simp)).cell 3 _ rfl
                have PA := Lib.hid HL.out.drew
                go_upto_region 43 with fail
                clear k0 k1 k2 k3 k4 k5 k6 k7 kl HL
                go_region_held3 (fun w' => w'.cell? ⟨z, 3, none⟩ = some (.int .u8 dp)) (first | exact SF.out _ _ _ PA.out | exact SF.out _ _ _ PB.out | exact SF.out _ _ _ PC.out | exact SF.out _ _ _ PD.out) (first | (go_at_call 13; first | (refine (rebN PA.out nr).mono ?_; rintro e wN ⟨rfl, hN⟩; have PB := Lib.hid hN; clear hN) | (refine (rebN PC.out nr).mono ?_; rintro e wN ⟨rfl, hN⟩; have PD := Lib.hid hN; clear hN)) | (go_at_call 14; first | (refine (rebX PA.out nr).mono ?_; rintro e wN ⟨rfl, hN⟩; have PC := Lib.hid hN; clear hN) | (refine (rebX PB.out nr).mono ?_; rintro e wN ⟨rfl, hN⟩; have PD := Lib.hid hN; clear hN)) | fail)
                all_goals generalize rebE nr = re at *
                all_goals go_wp2_with fail
                all_goals go_meet
                all_goals exact ⟨rfl, _, PD.out.sub (lo' := []) (by simp)⟩
              · have hz2 : (ni == 0) = false := by rw [beq_eq_false_iff_ne]; exact hz
                have FN : Hid (SwJ w g gx (.bool true) w5) := ⟨rfl, X, HL.out.sub (lo' := []) (by simp)⟩
                go_wp2_with fail
                go_meet
                exact FN.out
          · as_aux_lemma =>
              have n5 : (kk == 5) = false := by rw [beq_eq_false_iff_ne]; omega
              have n6 : (kk == 6) = false := by rw [beq_eq_false_iff_ne]; omega
              have n7 : (kk == 7) = false := by rw [beq_eq_false_iff_ne]; omega
              have n8 : (kk == 8) = false := by rw [beq_eq_false_iff_ne]; omega
              have n9 : (kk == 9) = false := by rw [beq_eq_false_iff_ne]; omega
              have n10 : (kk == 10) = false := by rw [beq_eq_false_iff_ne]; omega
              have INN := fun w => inner_any dk di dd dp db da dc dr ⟨di0, di1⟩ w
              have OUTR := fun w => outer_any dk di dd dp db da dc dr ⟨dd0, dd1⟩ w
              generalize innIP di da = si at *
              generalize innPort di dc = sp at *
              generalize outIP dd da = oi at *
              generalize outPort dd dc = op at *
              obtain ⟨R, hR⟩ : ∃ R, outT X at_ si sp oi op = R := ⟨_, rfl⟩
              obtain ⟨⟨ra, rb, rc⟩, l2⟩ := R
              have HR := Lib.hid hR
              clear hR
              go_upto_region 26 with fail
              clear k0 k1 k2 k3 k4 k5 k6 k7 kl
              go_cut [27, 28] (fun pv ev wx => OnJ w [(z, [.int .u8 dk, .int .u8 di, .int .u8 dd, .int .u8 dp, .int .u8 db, .int .u32 da, .int .u16 dc, .int .u64 dr])] g gx (withL X l2) X ra rb rc pv ev wx)
              case first =>
                as_aux_lemma =>
                  have SF : Hid (∀ lo' X' Y' wx, (z, [.int .u8 dk, .int .u8 di, .int .u8 dd, .int .u8 dp, .int .u8 db, .int .u32 da, .int .u16 dc, .int .u64 dr]) ∈ lo' → LN w lo' g gx X' Y' wx → wx.cell? ⟨z, 0, none⟩ = some (.int .u8 dk) ∧ wx.cell? ⟨z, 1, none⟩ = some (.int .u8 di) ∧ wx.cell? ⟨z, 2, none⟩ = some (.int .u8 dd) ∧ wx.cell? ⟨z, 3, none⟩ = some (.int .u8 dp) ∧ wx.cell? ⟨z, 4, none⟩ = some (.int .u8 db) ∧ wx.cell? ⟨z, 5, none⟩ = some (.int .u32 da) ∧ wx.cell? ⟨z, 6, none⟩ = some (.int .u16 dc) ∧ wx.cell? ⟨z, 7, none⟩ = some (.int .u64 dr)) := fun lo' X' Y' wx hm hh => ⟨(hh.at z [.int .u8 dk, .int .u8 di, .int .u8 dd, .int .u8 dp, .int .u8 db, .int .u32 da, .int .u16 dc, .int .u64 dr] hm).cell 0 _ rfl, (hh.at z [.int .u8 dk, .int .u8 di, .int .u8 dd, .int .u8 dp, .int .u8 db, .int .u32 da, .int .u16 dc, .int .u64 dr] hm).cell 1 _ rfl, (hh.at z [.int .u8 dk, .int .u8 di, .int .u8 dd, .int .u8 dp, .int .u8 db, .int .u32 da, .int .u16 dc, .int .u64 dr] hm).cell 2 _ rfl, (hh.at z [.int .u8 dk, .int .u8 di, .int .u8 dd, .int .u8 dp, .int .u8 db, .int .u32 da, .int .u16 dc, .int .u64 dr] hm).cell 3 _ rfl, (hh.at z [.int .u8 dk, .int .u8 di, .int .u8 dd, .int .u8 dp, .int .u8 db, .int .u32 da, .int .u16 dc, .int .u64 dr] hm).cell 4 _ rfl, (hh.at z [.int .u8 dk, .int .u8 di, .int .u8 dd, .int .u8 dp, .int .u8 db, .int .u32 da, .int .u16 dc, .int .u64 dr] hm).cell 5 _ rfl, (hh.at z [.int .u8 dk, .int .u8 di, .int .u8 dd, .int .u8 dp, .int .u8 db, .int .u32 da, .int .u16 dc, .int .u64 dr] hm).cell 6 _ rfl, (hh.at z [.int .u8 dk, .int .u8 di, .int .u8 dd, .int .u8 dp, .int .u8 db, .int .u32 da, .int .u16 dc, .int .u64 dr] hm).cell 7 _ rfl⟩
                  have PA := Lib.hid HL.out.drew
                  have PZ := Lib.hid (HL.out.alloc [.int .u32 0, .int .u16 0] 38).drew
                  have OC : Hid (∀ lo' w', LN w lo' g gx X X w' → Calls Try.prog 15 #[.pointer (some ⟨g, 0, none⟩), .int .u64 at_, .agg #[.int .u32 si, .int .u16 sp], .agg #[.int .u32 oi, .int .u16 op]] w' (fun e wO => e = .returned (.tuple #[.agg #[.int .u32 ra, .int .u16 rb], .int .i64 rc]) ∧ LN w lo' g gx (withL X l2) X wO)) := fun lo' w' hh => by
                    have K := outN hh at_ si sp oi op hat0
                    rw [HR.out] at K
                    exact K
                  have zlt5 := (HL.out.at z [.int .u8 dk, .int .u8 di, .int .u8 dd, .int .u8 dp, .int .u8 db, .int .u32 da, .int .u16 dc, .int .u64 dr] (by simp)).lt
                  clear HL HR
                  go_region_held3 (fun w' => w'.cell? ⟨z, 0, none⟩ = some (.int .u8 dk) ∧ w'.cell? ⟨z, 1, none⟩ = some (.int .u8 di) ∧ w'.cell? ⟨z, 2, none⟩ = some (.int .u8 dd) ∧ w'.cell? ⟨z, 3, none⟩ = some (.int .u8 dp) ∧ w'.cell? ⟨z, 4, none⟩ = some (.int .u8 db) ∧ w'.cell? ⟨z, 5, none⟩ = some (.int .u32 da) ∧ w'.cell? ⟨z, 6, none⟩ = some (.int .u16 dc) ∧ w'.cell? ⟨z, 7, none⟩ = some (.int .u64 dr)) (first | exact SF.out _ _ _ _ (by simp) PA.out | exact SF.out _ _ _ _ (by simp) PZ.out | exact SF.out _ _ _ _ (by simp) PQ.out | exact SF.out _ _ _ _ (by simp) (PQ.out.alloc [.int .u32 0, .int .u16 0] 38) | exact SF.out _ _ _ _ (by simp) PO.out | exact SF.out _ _ _ _ (by simp) (PO.out.alloc [.int .u32 0, .int .u16 0] 38) | exact SF.out _ _ _ _ (by simp) (PO.out.alloc [.int .u32 ra, .int .u16 rb] 38) | exact SF.out _ _ _ _ (by simp) (PO.out.laid (by intro y hy; simp at hy; first | (subst hy; simp only; omega) | (rcases hy with rfl | rfl <;> (simp only; omega))))) (first | (go_at_call 16; refine (INN _).mono ?_; rintro e wN ⟨rfl, dN⟩; (first | (replace PQ := Lib.hid (PQ.out.keep dN)) | (replace PQ := Lib.hid ((PQ.out.alloc [.int .u32 0, .int .u16 0] 38).keep dN)) | (have PQ := Lib.hid (PA.out.keep dN)) | (have PQ := Lib.hid (PZ.out.keep dN))); have zlt := (PQ.out.at z [.int .u8 dk, .int .u8 di, .int .u8 dd, .int .u8 dp, .int .u8 db, .int .u32 da, .int .u16 dc, .int .u64 dr] (by simp)).lt; clear dN) | (go_at_call 8; refine (OUTR _).mono ?_; rintro e wN ⟨rfl, dN⟩; (first | (replace PQ := Lib.hid (PQ.out.keep dN)) | (replace PQ := Lib.hid ((PQ.out.alloc [.int .u32 0, .int .u16 0] 38).keep dN)) | (have PQ := Lib.hid (PA.out.keep dN)) | (have PQ := Lib.hid (PZ.out.keep dN))); have zlt := (PQ.out.at z [.int .u8 dk, .int .u8 di, .int .u8 dd, .int .u8 dp, .int .u8 db, .int .u32 da, .int .u16 dc, .int .u64 dr] (by simp)).lt; clear dN) | (go_at_call 15; (first | refine (OC.out _ _ PQ.out).mono ?_ | refine (OC.out _ _ (PQ.out.alloc [.int .u32 0, .int .u16 0] 38)).mono ?_); rintro e wO ⟨rfl, hO⟩; have PO := Lib.hid hO; have qz := (hO.c _ (List.mem_cons_self ..)).1; have zz0 := qz.cell 0 _ rfl; have zz1 := qz.cell 1 _ rfl; have zf0 := qz.free 0 _ rfl; have zf1 := qz.free 1 _ rfl; have zzl := qz.lt; clear qz hO) | fail)
                  all_goals go_wp2_with fail
                  all_goals go_meet
                  all_goals first | exact ⟨_, rfl, rfl, PO.out.laid (by intro y hy; simp at hy; first | (subst hy; simp only; omega) | (rcases hy with rfl | rfl <;> (simp only; omega)))⟩ | exact ⟨_, rfl, rfl, PO.out.alloc [.int .u32 ra, .int .u16 rb] 38⟩
              case rest =>
              obtain ⟨za, rfl, rfl, h⟩ := hcut
              generalize wc = w6 at *
              replace HL := Lib.hid h
              clear h
              have kX := HL.out.at z [.int .u8 dk, .int .u8 di, .int .u8 dd, .int .u8 dp, .int .u8 db, .int .u32 da, .int .u16 dc, .int .u64 dr] (by simp)
              have k0 := kX.cell 0 _ rfl; have k1 := kX.cell 1 _ rfl; have k2 := kX.cell 2 _ rfl; have k3 := kX.cell 3 _ rfl; have k4 := kX.cell 4 _ rfl; have k5 := kX.cell 5 _ rfl; have k6 := kX.cell 6 _ rfl; have k7 := kX.cell 7 _ rfl; have kl := kX.lt
              clear kX
              go_upto_region 27 with fail
              clear k0 k1 k2 k3 k4 k5 k6 k7 kl
              go_cut [29, 30] (fun pv ev wx => OnJ w [(za, [.int .u32 ra, .int .u16 rb]), (z, [.int .u8 dk, .int .u8 di, .int .u8 dd, .int .u8 dp, .int .u8 db, .int .u32 da, .int .u16 dc, .int .u64 dr])] g gx (withL X l2) (withL X l2) ra rb rc pv ev wx)
              case first =>
                as_aux_lemma =>
                  have SF : Hid (∀ lo' X' Y' wx, (z, [.int .u8 dk, .int .u8 di, .int .u8 dd, .int .u8 dp, .int .u8 db, .int .u32 da, .int .u16 dc, .int .u64 dr]) ∈ lo' → LN w lo' g gx X' Y' wx → wx.cell? ⟨z, 0, none⟩ = some (.int .u8 dk) ∧ wx.cell? ⟨z, 1, none⟩ = some (.int .u8 di) ∧ wx.cell? ⟨z, 2, none⟩ = some (.int .u8 dd) ∧ wx.cell? ⟨z, 3, none⟩ = some (.int .u8 dp) ∧ wx.cell? ⟨z, 4, none⟩ = some (.int .u8 db) ∧ wx.cell? ⟨z, 5, none⟩ = some (.int .u32 da) ∧ wx.cell? ⟨z, 6, none⟩ = some (.int .u16 dc) ∧ wx.cell? ⟨z, 7, none⟩ = some (.int .u64 dr)) := fun lo' X' Y' wx hm hh => ⟨(hh.at z [.int .u8 dk, .int .u8 di, .int .u8 dd, .int .u8 dp, .int .u8 db, .int .u32 da, .int .u16 dc, .int .u64 dr] hm).cell 0 _ rfl, (hh.at z [.int .u8 dk, .int .u8 di, .int .u8 dd, .int .u8 dp, .int .u8 db, .int .u32 da, .int .u16 dc, .int .u64 dr] hm).cell 1 _ rfl, (hh.at z [.int .u8 dk, .int .u8 di, .int .u8 dd, .int .u8 dp, .int .u8 db, .int .u32 da, .int .u16 dc, .int .u64 dr] hm).cell 2 _ rfl, (hh.at z [.int .u8 dk, .int .u8 di, .int .u8 dd, .int .u8 dp, .int .u8 db, .int .u32 da, .int .u16 dc, .int .u64 dr] hm).cell 3 _ rfl, (hh.at z [.int .u8 dk, .int .u8 di, .int .u8 dd, .int .u8 dp, .int .u8 db, .int .u32 da, .int .u16 dc, .int .u64 dr] hm).cell 4 _ rfl, (hh.at z [.int .u8 dk, .int .u8 di, .int .u8 dd, .int .u8 dp, .int .u8 db, .int .u32 da, .int .u16 dc, .int .u64 dr] hm).cell 5 _ rfl, (hh.at z [.int .u8 dk, .int .u8 di, .int .u8 dd, .int .u8 dp, .int .u8 db, .int .u32 da, .int .u16 dc, .int .u64 dr] hm).cell 6 _ rfl, (hh.at z [.int .u8 dk, .int .u8 di, .int .u8 dd, .int .u8 dp, .int .u8 db, .int .u32 da, .int .u16 dc, .int .u64 dr] hm).cell 7 _ rfl⟩
                  have PA := Lib.hid HL.out.drew
                  have PZ := Lib.hid (HL.out.alloc [.int .u32 0, .int .u16 0] 44).drew
                  have OC : Hid (∀ lo' w', LN w lo' g gx (withL X l2) X w' → Calls Try.prog 17 #[.pointer (some ⟨gx, 0, none⟩), .int .u64 at_, .agg #[.int .u32 si, .int .u16 sp], .agg #[.int .u32 oi, .int .u16 op]] w' (fun e wO => e = .returned (.tuple #[.agg #[.int .u32 ra, .int .u16 rb], .int .i64 rc]) ∧ LN w lo' g gx (withL X l2) (withL X l2) wO)) := fun lo' w' hh => by
                    have K := outX hh at_ si sp oi op hat0
                    rw [HR.out] at K
                    exact K
                  have zlt5 := (HL.out.at z [.int .u8 dk, .int .u8 di, .int .u8 dd, .int .u8 dp, .int .u8 db, .int .u32 da, .int .u16 dc, .int .u64 dr] (by simp)).lt; have zlu5 := (HL.out.at za [.int .u32 ra, .int .u16 rb] (by simp)).lt
                  clear HL HR
                  go_region_held3 (fun w' => w'.cell? ⟨z, 0, none⟩ = some (.int .u8 dk) ∧ w'.cell? ⟨z, 1, none⟩ = some (.int .u8 di) ∧ w'.cell? ⟨z, 2, none⟩ = some (.int .u8 dd) ∧ w'.cell? ⟨z, 3, none⟩ = some (.int .u8 dp) ∧ w'.cell? ⟨z, 4, none⟩ = some (.int .u8 db) ∧ w'.cell? ⟨z, 5, none⟩ = some (.int .u32 da) ∧ w'.cell? ⟨z, 6, none⟩ = some (.int .u16 dc) ∧ w'.cell? ⟨z, 7, none⟩ = some (.int .u64 dr)) (first | exact SF.out _ _ _ _ (by simp) PA.out | exact SF.out _ _ _ _ (by simp) PZ.out | exact SF.out _ _ _ _ (by simp) PQ.out | exact SF.out _ _ _ _ (by simp) (PQ.out.alloc [.int .u32 0, .int .u16 0] 44) | exact SF.out _ _ _ _ (by simp) PO.out | exact SF.out _ _ _ _ (by simp) (PO.out.alloc [.int .u32 0, .int .u16 0] 44) | exact SF.out _ _ _ _ (by simp) (PO.out.alloc [.int .u32 ra, .int .u16 rb] 44) | exact SF.out _ _ _ _ (by simp) (PO.out.laid (by intro y hy; simp at hy; first | (subst hy; simp only; omega) | (rcases hy with rfl | rfl <;> (simp only; omega))))) (first | (go_at_call 16; refine (INN _).mono ?_; rintro e wN ⟨rfl, dN⟩; (first | (replace PQ := Lib.hid (PQ.out.keep dN)) | (replace PQ := Lib.hid ((PQ.out.alloc [.int .u32 0, .int .u16 0] 44).keep dN)) | (have PQ := Lib.hid (PA.out.keep dN)) | (have PQ := Lib.hid (PZ.out.keep dN))); have zlt := (PQ.out.at z [.int .u8 dk, .int .u8 di, .int .u8 dd, .int .u8 dp, .int .u8 db, .int .u32 da, .int .u16 dc, .int .u64 dr] (by simp)).lt; have zlu := (PQ.out.at za [.int .u32 ra, .int .u16 rb] (by simp)).lt; clear dN) | (go_at_call 8; refine (OUTR _).mono ?_; rintro e wN ⟨rfl, dN⟩; (first | (replace PQ := Lib.hid (PQ.out.keep dN)) | (replace PQ := Lib.hid ((PQ.out.alloc [.int .u32 0, .int .u16 0] 44).keep dN)) | (have PQ := Lib.hid (PA.out.keep dN)) | (have PQ := Lib.hid (PZ.out.keep dN))); have zlt := (PQ.out.at z [.int .u8 dk, .int .u8 di, .int .u8 dd, .int .u8 dp, .int .u8 db, .int .u32 da, .int .u16 dc, .int .u64 dr] (by simp)).lt; have zlu := (PQ.out.at za [.int .u32 ra, .int .u16 rb] (by simp)).lt; clear dN) | (go_at_call 10; refine (ref_any _ _ _).mono ?_; rintro e wN ⟨rfl, dN⟩; (first | (replace PQ := Lib.hid (PQ.out.keep dN)) | (replace PQ := Lib.hid ((PQ.out.alloc [.int .u32 0, .int .u16 0] 44).keep dN)) | (have PQ := Lib.hid (PA.out.keep dN)) | (have PQ := Lib.hid (PZ.out.keep dN))); have zlt := (PQ.out.at z [.int .u8 dk, .int .u8 di, .int .u8 dd, .int .u8 dp, .int .u8 db, .int .u32 da, .int .u16 dc, .int .u64 dr] (by simp)).lt; have zlu := (PQ.out.at za [.int .u32 ra, .int .u16 rb] (by simp)).lt; clear dN) | (go_at_call 17; (first | refine (OC.out _ _ PQ.out).mono ?_ | refine (OC.out _ _ (PQ.out.alloc [.int .u32 0, .int .u16 0] 44)).mono ?_); rintro e wO ⟨rfl, hO⟩; have PO := Lib.hid hO; have qz := (hO.c _ (List.mem_cons_self ..)).1; have zz0 := qz.cell 0 _ rfl; have zz1 := qz.cell 1 _ rfl; have zf0 := qz.free 0 _ rfl; have zf1 := qz.free 1 _ rfl; have zzl := qz.lt; clear qz hO) | fail)
                  all_goals go_wp2_with fail
                  all_goals go_meet
                  all_goals first | exact ⟨_, rfl, rfl, PO.out.laid (by intro y hy; simp at hy; first | (subst hy; simp only; omega) | (rcases hy with rfl | rfl <;> (simp only; omega)))⟩ | exact ⟨_, rfl, rfl, PO.out.alloc [.int .u32 ra, .int .u16 rb] 44⟩
              case rest =>
              obtain ⟨zb, rfl, rfl, h⟩ := hcut
              generalize wc = w12 at *
              replace HL := Lib.hid h
              clear h
              go_upto_region 28 with fail
              have kA := HL.out.at za [.int .u32 ra, .int .u16 rb] (by simp)
              have kB := HL.out.at zb [.int .u32 ra, .int .u16 rb] (by simp)
              have a0 := cell_regrown (kA.cell 0 _ rfl)
              have a1 := cell_regrown (kA.cell 1 _ rfl)
              have b0 := cell_regrown (kB.cell 0 _ rfl)
              have b1 := cell_regrown (kB.cell 1 _ rfl)
              have C := fun d os => Calls.regrown_of (ref_any ra rb (grow (redrawn w12 d) os))
              clear kA kB
              (refine wp_region_quiet_below (by kernel_rfl) (by kernel_rfl) ?_; (repeat (go_big_quiet_step (first | with_reducible exact C _ _))); refine wpQuiet_nil ?_; intro _ hw'; obtain ⟨⟨dq, osq⟩, hw''⟩ := hw'; subst hw'')
              have FN : Hid (SwJ w g gx (.bool true) (grow (redrawn w12 dq) osq)) := ⟨rfl, _, (HL.out.sub (lo' := []) (by simp)).keep (below_regrown w12 dq osq)⟩
              clear a0 a1 b0 b1 C HL
              go_wp2_with fail
              go_meet
              exact FN.out
        case rest =>
          obtain ⟨rfl, X2, h⟩ := hcut
          generalize wc = w9 at *
          clear k0 k1 k2 k3 k4 k5 k6 k7 kl HL
          have K := sameN h
          clear h
          go_wp2_with fail
          refine K.mono ?_; rintro e w10 ⟨rfl, h⟩
          have HN := Lib.hid h
          clear K h
          go_wp2_with fail
          go_roundw
          case rel => exact ⟨i + 1, now2, X2, by go_num, rfl, HI.out, hq0, by omega, HN.out⟩
          case measure => have := HI.out; simp [intOf]; omega
      · obtain rfl : i = min len 80 := by omega
        have HB := Lib.hid h.below
        have hend : (((min len 80 : Nat) : Int) < len ∧ ¬ ((min len 80 : Nat) : Int) < 80) ∨ ¬ ((min len 80 : Nat) : Int) < len := by omega
        clear h
        generalize min len 80 = mm at *
        rcases hend with ⟨h1, h2⟩ | h1
        · have h3 : decide ((mm : Int) < 80) = false := decide_eq_false h2
          go_wp2_with fail
          go_ret
          exact ⟨rfl, HB.out⟩
        · have h3 : decide ((mm : Int) < len) = false := decide_eq_false h1
          go_wp2_with fail
          go_ret
          exact ⟨rfl, HB.out⟩
theorem natboxPlays_own : ownKnob Try.prog.godebug = none := by kernel_rfl
theorem natboxPlays_laid : laidOutB Try.prog = true := by kernel_rfl
set_option maxRecDepth 100000 in
theorem natboxPlays_lifted (os : Os) (started : os.Started) (H : Type) (enc : TypeId × Value → H) :
    ReturnsInHanded {} Try.checked os 3 .any (Rows.natboxPlaysSpec.pre6 enc Try.prog Try.f3 Rows.natboxPlaysRow.domain false) (Rows.natboxPlaysSpec.post enc Try.prog Try.f3 false true false false) := by
  refine returnsInHanded_of_change (C := Try.checked) natboxPlays_own started (by kernel_rfl) Try.func3
    (ChangeSpec.witness6 (enc := enc) (C := Try.checked) false ⟨#[], #[.agg #[.int .i64 0, .int .i64 0], .int .u32 0, .int .u64 0, .int .i64 0, .bool false, .slice none 0 0], []⟩ 8 (by kernel_rfl) (by kernel_rfl) (by kernel_rfl) (by kernel_rfl)) ?_
  intro W base args ds gs before hval0 hW hcnd _
  have hval : ∀ (j : Nat) t v, Try.f3.params[j]? = some t → args[j]? = some v → Value.okWide Try.prog W .any base t v := hval0
  have hW' := hW
  obtain ⟨p, q, hA0, hV, rfl, hfz, hnd⟩ := hW
  have hA : DataW.TrodAll enc Try.prog W 0 (fun _ => true) true Try.f3.params.toList args.toList ds p := hA0
  rw [Try.params3] at hA hval
  obtain ⟨v0, vs0, d0, ds0, p0, q0, hargs, rfl, rfl, h0, r0⟩ := trodAll_cons hA
  obtain ⟨v1, vs1, d1, ds1, p1, q1, rfl, rfl, rfl, h1, r1⟩ := trodAll_cons r0
  obtain ⟨v2, vs2, d2, ds2, p2, q2, rfl, rfl, rfl, h2, r2⟩ := trodAll_cons r1
  obtain ⟨v3, vs3, d3, ds3, p3, q3, rfl, rfl, rfl, h3, r3⟩ := trodAll_cons r2
  obtain ⟨v4, vs4, d4, ds4, p4, q4, rfl, rfl, rfl, h4, r4⟩ := trodAll_cons r3
  obtain ⟨v5, vs5, d5, ds5, p5, q5, rfl, rfl, rfl, h5, r5⟩ := trodAll_cons r4
  obtain ⟨rfl, rfl, rfl⟩ := trodAll_nil r5
  obtain rfl : args = #[v0, v1, v2, v3, v4, v5] := by cases args; simp_all
  obtain ⟨rfl, rfl⟩ := trodVars_none hV
  have k0 := h0
  have lt0 : ∀ x ∈ p0, x.block < W.heap.size := by obtain ⟨m, hm⟩ := k0; exact DataW.trod_lt m _ _ _ hm
  obtain ⟨c0_0, c0_1, y0_0, y0_1, n0, rfl, rfl, rfl, t0_0, t0_1⟩ := Joins.open_agg2 Try.underlying23 (by kernel_rfl) (by kernel_rfl) (hval 0 23 v0 rfl rfl) h0
  obtain ⟨a0_0, e0_0, rfl, w0_0⟩ := DataW.trod_int Try.underlying3 t0_0
  obtain rfl := (List.cons.inj e0_0).1
  obtain ⟨a0_1, e0_1, rfl, w0_1⟩ := DataW.trod_int Try.underlying3 t0_1
  obtain rfl := (List.cons.inj e0_1).1
  obtain ⟨a1, rfl, rfl, rfl, w1⟩ := open_int Try.underlying24 (hval 1 24 v1 rfl rfl) h1
  obtain ⟨a2, rfl, rfl, rfl, w2⟩ := open_int Try.underlying25 (hval 2 25 v2 rfl rfl) h2
  obtain ⟨a3, rfl, rfl, rfl, w3⟩ := open_int Try.underlying3 (hval 3 3 v3 rfl rfl) h3
  obtain ⟨a4, rfl, rfl, rfl⟩ := open_bool Try.underlying4 (hval 4 4 v4 rfl rfl) h4
  obtain ⟨a5, len5, cap5, rfl⟩ := okWide_slice Try.underlying26 (hval 5 26 v5 rfl rfl)
  have k5 := h5
  have lt5 : ∀ x ∈ p5, x.block < W.heap.size := by obtain ⟨m, hm⟩ := k5; exact DataW.trod_lt m _ _ _ hm
  have w5 : DeedRow W a5 len5 cap5 := by
    obtain ⟨fuel, hf⟩ := h5
    exact deeds_open hf
  clear hA0 hval0
  refine (nat_run a0_0 a0_1 a1 a2 a3 a4 a5 len5 cap5 W w0_0 w0_1 w1 w2 w3 w5).mono fun e W' ⟨he, bel⟩ => ?_
  subst he
  exact ⟨_, rfl, _, _, _, [], _, [], hW', trodAll_mk1 (shut_bool Try.underlying4 _), (trodAll_cons_mk (Below.trod natboxPlays_laid (by kernel_rfl) (of_decide_eq_true (by kernel_rfl)) k0 bel lt0) (trodAll_cons_mk (shut_int Try.underlying24 w1) (trodAll_cons_mk (shut_int Try.underlying25 w2) (trodAll_cons_mk (shut_int Try.underlying3 w3) (trodAll_cons_mk (shut_bool Try.underlying4 _) (trodAll_cons_mk (Below.trod natboxPlays_laid (by kernel_rfl) (of_decide_eq_true (by kernel_rfl)) k5 bel lt5) trodAll_mk0)))))), rfl, bel.frame _, fun h => by cases h⟩
theorem natboxPlays_over : Rows.natboxPlaysRow.holds Try.pinned (OpenSpec.ofChange Rows.natboxPlaysSpec) :=
  OpenClaim.holds_of_wide 3 Try.f3 rfl rfl rfl rfl rfl rfl rfl ⟨rfl, rfl, rfl, rfl, rfl⟩ rfl rfl rfl rfl rfl (by kernel_rfl) Try.func3 (by kernel_rfl)
    (of_decide_eq_true (by kernel_rfl)) (by unfold Func.isWrapper; first | (rw [if_pos (by decide +kernel)]; kernel_rfl) | (rw [if_neg (by decide +kernel)]; exact ⟨rfl, rfl⟩))
    (fun os started H enc _ => natboxPlays_lifted os started H enc)
theorem natboxPlays_holds : Rows.NatboxPlaysSaid := natboxPlays_over
#print axioms natboxPlays_holds
end Go.Proofs.Ytnemmnndaoaadaa
