/- ReachPlays: votes are taken, rounds begin, and end, deed by deed, as the chapter says: the class, the address, the votes: for any numbers of rounds, any time, every list of deeds. -/
import Derived.Test.YtnkjepemliccpaaRcDeeds
import Derived.Deep.CutBlock
namespace Go.Proofs.Ytnkjepemliccpaa
open Go.Sort Go.RowKit Go.BigFrame Go.ChangeShapes Go.WideShapes Go.Deep
set_option linter.unusedVariables false
set_option linter.unusedSimpArgs false

theorem wrap_lo16 (n : Int) : 0 ≤ IntKind.u64.wrap n := by
  simp [IntKind.wrap, IntKind.signed]
  exact Int.emod_nonneg _ (by decide)
theorem argN_yes {r h : Int} (c : r < 1 ∨ 8 < r ∨ h = 0 ∨ 1000000 < h) : argN r h = true := by
  cases e : argN r h with
  | true => rfl
  | false =>
    have := argN_no e
    omega
def PyJ (n : Nat) (w : World) (g gx : Nat) (iv : Value) (wr : World) : Prop := ∃ (i : Nat) (k : Rc) (x : Rx), iv = .int .i64 (i : Nat) ∧ i ≤ n ∧ i ≤ 80 ∧ St w [hR g k, hQ gx x k] wr
def PzJ (l : Nat) (w9 : World) (iv : Value) (wr : World) : Prop := ∃ q : Nat, iv = .int .i64 (q : Nat) ∧ q ≤ l ∧ Below w9.heap.size w9 wr
set_option maxHeartbeats 25600000 in
set_option maxRecDepth 100000 in
theorem plays_walk (r0 h0 : Int) (nr : Bool) (a : Option Addr) (n cap : Nat) (w : World) (hh0 : 0 ≤ h0) (hdr : Hid (DeedRow w a n cap)) :
    Calls Try.prog 3 #[.int .i64 r0, .int .u64 h0, .bool nr, .slice a n cap] w fun e w' => e = .returned (.bool true) ∧ Below w.heap.size w w' := by
  have E := ex_any w
  go_enter Try.func3, Try.ntmps3
  go_wp2_with fail
  refine E.mono ?_; rintro e w1 ⟨rfl, b1⟩
  replace b1 := Lib.hid b1
  clear E
  go_upto_if 25 with fail
  go_cut [0, 1] (fun rv hv wx => ∃ R Hd : Int, rv = .int .i64 R ∧ hv = .int .u64 Hd ∧ 0 ≤ Hd ∧ w1 = wx)
  case first =>
    cases nr with
    | false =>
      go_wp2_with fail
      go_meet
      exact ⟨r0, h0, rfl, rfl, hh0, rfl⟩
    | true =>
      have hu1 := wrap_lo16 r0
      obtain ⟨m1, hm1⟩ : ∃ m, IntKind.u64.wrap r0 % 4 = m := ⟨_, rfl⟩
      have n1 : (IntKind.u64.wrap r0).tmod 4 = m1 := by rw [tmod_pos _ _ hu1]; exact hm1
      obtain ⟨m2, hm2⟩ : ∃ m, h0 % 30 = m := ⟨_, rfl⟩
      have n2 : h0.tmod 30 = m2 := by rw [tmod_pos _ _ hh0]; exact hm2
      have q1 : 0 ≤ m1 ∧ m1 < 4 := by omega
      have q2 : 0 ≤ m2 ∧ m2 < 30 := by omega
      have t1 := IntWalk.i64_in m1 ⟨by omega, by omega⟩
      have t1' := IntWalk.u64_in m1 ⟨by omega, by omega⟩
      have t2 := IntWalk.i64_in (1 + m1) ⟨by omega, by omega⟩
      have t3 := IntWalk.u64_in m2 ⟨by omega, by omega⟩
      have t4 := IntWalk.u64_in (1 + m2) ⟨by omega, by omega⟩
      have hf : (0 : Int) ≤ 1 + m2 := by omega
      clear hm1 hm2
      go_wp2_with fail
      go_meet
      exact ⟨1 + m1, 1 + m2, rfl, rfl, hf, rfl⟩
  case rest =>
  obtain ⟨R, Hd, rfl, rfl, hH, rfl⟩ := hcut
  clear hh0
  cases ha : argN R Hd with
  | true =>
    have K := new_bad R Hd ha w1
    have K2 := rnew_bad R Hd ha w1
    clear ha
    go_wp2_with fail
    refine K.mono ?_; rintro e w2 ⟨rfl, rfl⟩
    go_wp2_with fail
    refine K2.mono ?_; rintro e w2 ⟨rfl, rfl⟩
    clear K K2
    go_wp2
    go_ret
    exact ⟨rfl, b1.out⟩
  | false =>
  have K := new_l ha hH (n := R.toNat) rfl (St.start w w1 b1.out)
  clear b1
  go_wp2_with fail
  refine K.mono ?_; rintro e w2 ⟨g, rfl, s⟩
  clear K
  have K := rnew_l ha hH (n := R.toNat) rfl s
  clear s ha hH
  go_wp2_with fail
  refine K.mono ?_; rintro e w3 ⟨gx, x0, rfl, s⟩
  clear K
  have S0 : Hid (PyJ n w g gx (.int .i64 0) w3) := ⟨0, _, _, rfl, Nat.zero_le _, by omega, s.perm (List.Perm.swap _ _ _)⟩
  clear s
  go_wp2_with fail
  go_loopw [13] (fun iv wr => PyJ n w g gx iv wr) (fun iv _ => 81 - (intOf iv).toNat)
  case atStart => exact S0.out
  case round =>
    obtain ⟨i, k, x, rfl, hi, hi80, hs⟩ := hrel
    clear S0
    have HS := Lib.hid hs
    have hI0 : (0 : Int) ≤ i := by omega
    clear hs
    by_cases h1 : i < n
    · have h1' : (i : Int) < n := by omega
      have h1d : decide ((i : Int) < n) = true := decide_eq_true h1'
      by_cases h2 : i < 80
      · have h2' : (i : Int) < 80 := by omega
        have h2d : decide ((i : Int) < 80) = true := decide_eq_true h2'
        have hi1 : Hid (i + 1 ≤ n) := h1
        have hi2 : Hid (i + 1 ≤ 80) := h2
        obtain ⟨ba, oa, rfl, hbl, hcc⟩ := hdr.out.at_ (by omega)
        obtain ⟨d, hfit, hc⟩ := hcc i h1
        have hbw := HS.out.below
        have q0 := bounds_u8 hfit.k
        have q2 := bounds_u32 hfit.ip
        have q3 := bounds_u16 hfit.pt
        have q4 := bounds_u64 hfit.now
        have q5 := bounds_u32 hfit.seq
        have c0 := (hbw.cell (p := ⟨ba, oa + i * 7 + 0, none⟩) hbl).trans (hc 0 _ rfl)
        have c1 := (hbw.cell (p := ⟨ba, oa + i * 7 + 1, none⟩) hbl).trans (hc 1 _ rfl)
        have c2 := (hbw.cell (p := ⟨ba, oa + i * 7 + 2, none⟩) hbl).trans (hc 2 _ rfl)
        have c3 := (hbw.cell (p := ⟨ba, oa + i * 7 + 3, none⟩) hbl).trans (hc 3 _ rfl)
        have c4 := (hbw.cell (p := ⟨ba, oa + i * 7 + 4, none⟩) hbl).trans (hc 4 _ rfl)
        have c5 := (hbw.cell (p := ⟨ba, oa + i * 7 + 5, none⟩) hbl).trans (hc 5 _ rfl)
        have c6 := (hbw.cell (p := ⟨ba, oa + i * 7 + 6, none⟩) hbl).trans (hc 6 _ rfl)
        simp only [Nat.add_zero] at c0
        clear hcc hc hfit hbw h1 h2 hbl
        have SD : Hid (St w [hC wr.heap.size (cd d), hR g k, hQ gx x k] (wr.alloc (.cells #[.int .u8 d.k, .int .i64 d.who, .int .u32 d.ip, .int .u16 d.pt, .int .u64 d.now, .int .u32 d.seq, .bool d.near] 37))) := HS.out.box (cd d) 37
        go_upto_region 17 with fail
        generalize (wr.alloc (.cells #[.int .u8 d.k, .int .i64 d.who, .int .u32 d.ip, .int .u16 d.pt, .int .u64 d.now, .int .u32 d.seq, .bool d.near] 37)) = w4 at *
        generalize wr.heap.size = db at *
        clear c0 c1 c2 c3 c4 c5 c6 HS
        have x0 := (SD.out.cs (b := db) (vs := cd d) (by simp)).cell 0 _ rfl
        have x1 := (SD.out.cs (b := db) (vs := cd d) (by simp)).cell 1 _ rfl
        have x2 := (SD.out.cs (b := db) (vs := cd d) (by simp)).cell 2 _ rfl
        have x3 := (SD.out.cs (b := db) (vs := cd d) (by simp)).cell 3 _ rfl
        have x4 := (SD.out.cs (b := db) (vs := cd d) (by simp)).cell 4 _ rfl
        have x5 := (SD.out.cs (b := db) (vs := cd d) (by simp)).cell 5 _ rfl
        have x6 := (SD.out.cs (b := db) (vs := cd d) (by simp)).cell 6 _ rfl
        go_upto_if 75 with fail
        go_cut [] (fun wx => ∃ (d' : Deed) (ip pt : Nat), d'.ip = ip ∧ d'.pt = pt ∧ ip < 4294967296 ∧ pt < 65536 ∧ (0 ≤ d'.k ∧ d'.k < 256) ∧ 0 ≤ d'.now ∧ 0 ≤ d'.seq ∧ St w [hC db (cd d'), hR g k, hQ gx x k] wx)
        case first =>
          obtain ⟨dk, dwho, dip, dpt, dnow, dseq, dnear⟩ := d
          simp only at *
          cases dnear
          · as_aux_lemma =>
            clear x0 x1 x2 x3 x4 x5 x6
            go_wp2_with fail
            go_meet
            exact ⟨⟨dk, dwho, dip, dpt, dnow, dseq, false⟩, dip.toNat, dpt.toNat, by show dip = _; omega, by show dpt = _; omega, by omega, by omega, by show 0 ≤ dk ∧ dk < 256; omega, by show 0 ≤ dnow; omega, by show 0 ≤ dseq; omega, SD.out⟩
          · as_aux_lemma =>
            have hu1 := wrap_lo16 dwho
            obtain ⟨m1, hm1⟩ : ∃ m, IntKind.u64.wrap dwho % 6 = m := ⟨_, rfl⟩
            obtain ⟨m2, hm2⟩ : ∃ m, dip % 3 = m := ⟨_, rfl⟩
            obtain ⟨m3, hm3⟩ : ∃ m, dpt % 2 = m := ⟨_, rfl⟩
            obtain ⟨m4, hm4⟩ : ∃ m, dnow % 5 = m := ⟨_, rfl⟩
            obtain ⟨m5, hm5⟩ : ∃ m, dseq % 3 = m := ⟨_, rfl⟩
            have n1 : (IntKind.u64.wrap dwho).tmod 6 = m1 := by rw [tmod_pos _ _ hu1]; exact hm1
            have n2 : dip.tmod 3 = m2 := by rw [tmod_pos _ _ q2.1]; exact hm2
            have n3 : dpt.tmod 2 = m3 := by rw [tmod_pos _ _ q3.1]; exact hm3
            have n4 : dnow.tmod 5 = m4 := by rw [tmod_pos _ _ q4.1]; exact hm4
            have n5 : dseq.tmod 3 = m5 := by rw [tmod_pos _ _ q5.1]; exact hm5
            have r1 : 0 ≤ m1 ∧ m1 < 6 := by omega
            have r2 : 0 ≤ m2 ∧ m2 < 3 := by omega
            have r3 : 0 ≤ m3 ∧ m3 < 2 := by omega
            have r4 : 0 ≤ m4 ∧ m4 < 5 := by omega
            have r5 : 0 ≤ m5 ∧ m5 < 3 := by omega
            have t1 := IntWalk.i64_in m1 ⟨by omega, by omega⟩
            have t1' := IntWalk.u64_in m1 ⟨by omega, by omega⟩
            have t1b := IntWalk.i64_in (1 + m1) ⟨by omega, by omega⟩
            have t2 := IntWalk.u32_in m2 ⟨by omega, by omega⟩
            have t2b := IntWalk.u32_in (1 + m2) ⟨by omega, by omega⟩
            have t3 := IntWalk.u16_in m3 ⟨by omega, by omega⟩
            have t3b := IntWalk.u16_in (1 + m3) ⟨by omega, by omega⟩
            have t4 := IntWalk.u64_in m4 ⟨by omega, by omega⟩
            have t4i := IntWalk.u64_in (i : Int) ⟨by omega, by omega⟩
            have t4b := IntWalk.u64_in ((i : Int) + m4) ⟨by omega, by omega⟩
            have t5 := IntWalk.u32_in m5 ⟨by omega, by omega⟩
            have SF : Hid (St w [hC db (cd ⟨dk, 1 + m1, 1 + m2, 1 + m3, i + m4, m5, true⟩), hR g k, hQ gx x k] (((((w4.setCell ⟨db, 1, none⟩ (.int .i64 (1 + m1))).setCell ⟨db, 2, none⟩ (.int .u32 (1 + m2))).setCell ⟨db, 3, none⟩ (.int .u16 (1 + m3))).setCell ⟨db, 4, none⟩ (.int .u64 (i + m4))).setCell ⟨db, 5, none⟩ (.int .u32 m5))) :=
              St.setc [] _ (St.setc [] _ (St.setc [] _ (St.setc [] _ (St.setc [] _ SD.out 1 (.int .i64 (1 + m1)) (by simp [cd])) 2 (.int .u32 (1 + m2)) (by simp [cd])) 3 (.int .u16 (1 + m3)) (by simp [cd])) 4 (.int .u64 (i + m4)) (by simp [cd])) 5 (.int .u32 m5) (by simp [cd])
            clear hm1 hm2 hm3 hm4 hm5
            have f1 := (SD.out.cs (b := db) (vs := cd ⟨dk, dwho, dip, dpt, dnow, dseq, true⟩) (by simp)).free 1 _ rfl
            have f2 := (SD.out.cs (b := db) (vs := cd ⟨dk, dwho, dip, dpt, dnow, dseq, true⟩) (by simp)).free 2 _ rfl
            have f3 := (SD.out.cs (b := db) (vs := cd ⟨dk, dwho, dip, dpt, dnow, dseq, true⟩) (by simp)).free 3 _ rfl
            have f4 := (SD.out.cs (b := db) (vs := cd ⟨dk, dwho, dip, dpt, dnow, dseq, true⟩) (by simp)).free 4 _ rfl
            have f5 := (SD.out.cs (b := db) (vs := cd ⟨dk, dwho, dip, dpt, dnow, dseq, true⟩) (by simp)).free 5 _ rfl
            have hdl := (SD.out.cs (b := db) (vs := cd ⟨dk, dwho, dip, dpt, dnow, dseq, true⟩) (by simp)).lt
            go_wp2_with fail
            go_meet
            exact ⟨⟨dk, 1 + m1, 1 + m2, 1 + m3, i + m4, m5, true⟩, (1 + m2).toNat, (1 + m3).toNat, by show 1 + m2 = _; omega, by show 1 + m3 = _; omega, by omega, by omega, by show 0 ≤ dk ∧ dk < 256; omega, by show 0 ≤ (i : Int) + m4; omega, by show 0 ≤ m5; omega, SF.out⟩
        case rest =>
          obtain ⟨d2, ip, pt, e1, e2, hip, hpt, hk8, hn0, hq0', hs⟩ := hcut
          generalize wc = w5 at *
          clear SD x0 x1 x2 x3 x4 x5 x6 q0 q2 q3 q4 q5
          clear d
          have SD := Lib.hid hs
          clear hs
          obtain ⟨dk, dwho, dip, dpt, dnow, dseq, dnear⟩ := d2
          simp only at hk8 hn0 hq0' e1 e2
          subst e1 e2
          have x0 := (SD.out.cs (b := db) (vs := cd ⟨dk, dwho, ip, pt, dnow, dseq, dnear⟩) (by simp)).cell 0 _ rfl
          have x1 := (SD.out.cs (b := db) (vs := cd ⟨dk, dwho, ip, pt, dnow, dseq, dnear⟩) (by simp)).cell 1 _ rfl
          have x2 := (SD.out.cs (b := db) (vs := cd ⟨dk, dwho, ip, pt, dnow, dseq, dnear⟩) (by simp)).cell 2 _ rfl
          have x3 := (SD.out.cs (b := db) (vs := cd ⟨dk, dwho, ip, pt, dnow, dseq, dnear⟩) (by simp)).cell 3 _ rfl
          have x4 := (SD.out.cs (b := db) (vs := cd ⟨dk, dwho, ip, pt, dnow, dseq, dnear⟩) (by simp)).cell 4 _ rfl
          have x5 := (SD.out.cs (b := db) (vs := cd ⟨dk, dwho, ip, pt, dnow, dseq, dnear⟩) (by simp)).cell 5 _ rfl
          have x6 := (SD.out.cs (b := db) (vs := cd ⟨dk, dwho, ip, pt, dnow, dseq, dnear⟩) (by simp)).cell 6 _ rfl
          obtain ⟨q, hq⟩ : ∃ q, dk % 10 = q := ⟨_, rfl⟩
          have hq2 : dk.tmod 10 = q := by rw [tmod_pos _ _ hk8.1]; exact hq
          have hq0 : 0 ≤ q ∧ q < 10 := by omega
          have hqw := IntWalk.u8_in q ⟨by omega, by omega⟩
          have mkS : Hid (∀ H w', hC db (cd ⟨dk, dwho, ip, pt, dnow, dseq, dnear⟩) ∈ H → St w H w' → w'.cell? ⟨db, 1, none⟩ = some (.int .i64 dwho) ∧ w'.cell? ⟨db, 2, none⟩ = some (.int .u32 ip) ∧ w'.cell? ⟨db, 3, none⟩ = some (.int .u16 pt) ∧ w'.cell? ⟨db, 4, none⟩ = some (.int .u64 dnow) ∧ w'.cell? ⟨db, 5, none⟩ = some (.int .u32 dseq)) := fun H w' hm st =>
            ⟨(st.cs hm).cell 1 _ rfl, (st.cs hm).cell 2 _ rfl, (st.cs hm).cell 3 _ rfl, (st.cs hm).cell 4 _ rfl, (st.cs hm).cell 5 _ rfl⟩
          clear hq hk8
          go_upto_region 23 with fail
          go_step
          go_upto_block 2 with fail
          go_cut [15] (fun c wx => c = .bool true ∧ ∃ k' x', St w [hC db (cd ⟨dk, dwho, ip, pt, dnow, dseq, dnear⟩), hR g k', hQ gx x' k'] wx)
          case first =>
            have hcase : (q = 4 ∨ q = 5) ∨ q = 6 ∨ (q = 7 ∨ q = 8) ∨ q = 9 ∨ (q = 0 ∨ q = 1 ∨ q = 2 ∨ q = 3) := by omega
            clear hq0 hqw hq2
            rcases hcase with hc | rfl | hc | rfl | hc
            · as_aux_lemma =>
              obtain ⟨e, he⟩ : ∃ e, roundE k dnow = e := ⟨_, rfl⟩
              obtain ⟨k', hk'⟩ : ∃ k', roundD k dseq dnow = k' := ⟨_, rfl⟩
              have KD : Hid (∀ (H1 H2 : List Hl) wz, St w (H1 ++ hR g k :: H2) wz → Calls Try.prog 12 #[.pointer (some ⟨g, 0, none⟩), .int .u32 dseq, .int .u64 dnow] wz fun y w' => y = .returned (.int .i64 e) ∧ St w (H1 ++ hR g k' :: H2) w') := fun H1 H2 wz s => round_l dseq dnow he hk' H1 H2 s
              have KR : Hid (∀ (H1 H2 : List Hl) wz, St w (H1 ++ hQ gx x k :: H2) wz → Calls Try.prog 13 #[.pointer (some ⟨gx, 0, none⟩), .int .u32 dseq, .int .u64 dnow] wz fun y w' => y = .returned (.int .i64 e) ∧ ∃ x', St w (H1 ++ hQ gx x' k' :: H2) w') := fun H1 H2 wz s => rround_l dseq dnow he hk' H1 H2 s
              clear he hk'
              have SA := Lib.hid SD.out.drew
              clear SD x0 x1 x2 x3 x4 x5 x6 hn0 hq0' hip hpt
              rcases hc with rfl | rfl
              all_goals (as_aux_lemma =>
                go_upto_region 27 with fail
                go_region_held (fun w' => w'.cell? ⟨db, 1, none⟩ = some (.int .i64 dwho) ∧ w'.cell? ⟨db, 2, none⟩ = some (.int .u32 ip) ∧ w'.cell? ⟨db, 3, none⟩ = some (.int .u16 pt) ∧ w'.cell? ⟨db, 4, none⟩ = some (.int .u64 dnow) ∧ w'.cell? ⟨db, 5, none⟩ = some (.int .u32 dseq)) (exact mkS.out _ _ (by simp) SA.out) (first | (go_at_call 12; refine (KD.out [_] _ _ SA.out).mono ?_; rintro e wA ⟨rfl, sA⟩; have SA := Lib.hid sA; clear sA) | (go_at_call 13; refine (KR.out [_, _] _ _ SA.out).mono ?_; rintro e wA ⟨rfl, x', sA⟩; have SA := Lib.hid sA; clear sA) | fail)
                all_goals go_wp2_with fail
                all_goals go_meet
                all_goals exact ⟨by simp, _, _, SA.out⟩)
            · as_aux_lemma =>
              obtain ⟨e, he⟩ : ∃ e, heardB k dseq = e := ⟨_, rfl⟩
              obtain ⟨k', hk'⟩ : ∃ k', heardD k dseq = k' := ⟨_, rfl⟩
              have KD : Hid (∀ (H1 H2 : List Hl) wz, St w (H1 ++ hR g k :: H2) wz → Calls Try.prog 14 #[.pointer (some ⟨g, 0, none⟩), .int .u32 dseq] wz fun y w' => y = .returned (.bool e) ∧ St w (H1 ++ hR g k' :: H2) w') := fun H1 H2 wz s => heard_l dseq he hk' H1 H2 s
              have KR : Hid (∀ (H1 H2 : List Hl) wz, St w (H1 ++ hQ gx x k :: H2) wz → Calls Try.prog 15 #[.pointer (some ⟨gx, 0, none⟩), .int .u32 dseq] wz fun y w' => y = .returned (.bool e) ∧ ∃ x', St w (H1 ++ hQ gx x' k' :: H2) w') := fun H1 H2 wz s => rheard_l dseq he hk' H1 H2 s
              clear he hk'
              have SA := Lib.hid SD.out.drew
              clear SD x0 x1 x2 x3 x4 x5 x6 hn0 hq0' hip hpt
              go_upto_region 29 with fail
              go_region_held (fun w' => w'.cell? ⟨db, 1, none⟩ = some (.int .i64 dwho) ∧ w'.cell? ⟨db, 2, none⟩ = some (.int .u32 ip) ∧ w'.cell? ⟨db, 3, none⟩ = some (.int .u16 pt) ∧ w'.cell? ⟨db, 4, none⟩ = some (.int .u64 dnow) ∧ w'.cell? ⟨db, 5, none⟩ = some (.int .u32 dseq)) (exact mkS.out _ _ (by simp) SA.out) (first | (go_at_call 14; refine (KD.out [_] _ _ SA.out).mono ?_; rintro e wA ⟨rfl, sA⟩; have SA := Lib.hid sA; clear sA) | (go_at_call 15; refine (KR.out [_, _] _ _ SA.out).mono ?_; rintro e wA ⟨rfl, x', sA⟩; have SA := Lib.hid sA; clear sA) | fail)
              all_goals go_wp2_with fail
              all_goals go_meet
              all_goals exact ⟨by simp, _, _, SA.out⟩
            · as_aux_lemma =>
              obtain ⟨e, he⟩ : ∃ e, k.on = e := ⟨_, rfl⟩
              obtain ⟨k', hk'⟩ : ∃ k', endD k = k' := ⟨_, rfl⟩
              have KD : Hid (∀ (H1 H2 : List Hl) wz, St w (H1 ++ hR g k :: H2) wz → Calls Try.prog 16 #[.pointer (some ⟨g, 0, none⟩)] wz fun y w' => y = .returned (.bool e) ∧ St w (H1 ++ hR g k' :: H2) w') := fun H1 H2 wz s => end_l he hk' H1 H2 s
              have KR : Hid (∀ (H1 H2 : List Hl) wz, St w (H1 ++ hQ gx x k :: H2) wz → Calls Try.prog 17 #[.pointer (some ⟨gx, 0, none⟩)] wz fun y w' => y = .returned (.bool e) ∧ ∃ x', St w (H1 ++ hQ gx x' k' :: H2) w') := fun H1 H2 wz s => rend_l he hk' H1 H2 s
              clear he hk'
              have SA := SD
              clear SD x0 x1 x2 x3 x4 x5 x6 hn0 hq0' hip hpt
              rcases hc with rfl | rfl
              all_goals (as_aux_lemma =>
                go_upto_region 32 with fail
                go_wp2_with fail
                refine (KD.out [_] _ _ SA.out).mono ?_; rintro e wA ⟨rfl, sA⟩; have SA := Lib.hid sA; clear sA
                go_wp2_with fail
                refine (KR.out [_, _] _ _ SA.out).mono ?_; rintro e wA ⟨rfl, x', sA⟩; have SA := Lib.hid sA; clear sA
                all_goals go_wp2_with fail
                all_goals go_meet
                all_goals exact ⟨by simp, _, _, SA.out⟩)
            · as_aux_lemma =>
              obtain ⟨k', hk'⟩ : ∃ k', resetD k = k' := ⟨_, rfl⟩
              have KD : Hid (∀ (H1 H2 : List Hl) wz, St w (H1 ++ hR g k :: H2) wz → Calls Try.prog 18 #[.pointer (some ⟨g, 0, none⟩)] wz fun y w' => y = .returned (.tuple #[]) ∧ St w (H1 ++ hR g k' :: H2) w') := fun H1 H2 wz s => reset_l hk' H1 H2 s
              have KR : Hid (∀ (H1 H2 : List Hl) wz, St w (H1 ++ hQ gx x k :: H2) wz → Calls Try.prog 19 #[.pointer (some ⟨gx, 0, none⟩)] wz fun y w' => y = .returned (.tuple #[]) ∧ ∃ x', St w (H1 ++ hQ gx x' k' :: H2) w') := fun H1 H2 wz s => rreset_l hk' H1 H2 s
              clear hk'
              obtain ⟨m8, hm8⟩ : ∃ m, dseq % 8 = m := ⟨_, rfl⟩
              have n8 : dseq.tmod 8 = m8 := by rw [tmod_pos _ _ hq0']; exact hm8
              have r8 : 0 ≤ m8 ∧ m8 < 8 := by omega
              have t8 := IntWalk.u32_in m8 ⟨by omega, by omega⟩
              have SA := SD
              clear SD hn0 hq0' hip hpt hm8
              by_cases h8 : m8 = 0
              · subst h8
                go_wp2_with fail
                refine (KD.out [_] _ _ SA.out).mono ?_; rintro e wA ⟨rfl, sA⟩; have SA := Lib.hid sA; clear sA
                clear x0 x1 x2 x3 x4 x5 x6
                go_wp2_with fail
                refine (KR.out [_, _] _ _ SA.out).mono ?_; rintro e wA ⟨rfl, x', sA⟩; have SA := Lib.hid sA; clear sA
                go_wp2_with fail
                go_meet
                exact ⟨by simp, _, _, SA.out⟩
              · have e8 : (m8 == 0) = false := by rw [beq_eq_false_iff_ne]; exact h8
                go_wp2_with fail
                go_meet
                exact ⟨by simp, _, _, SA.out⟩
            · as_aux_lemma =>
              obtain ⟨e, he⟩ : ∃ e, seeE dwho ip pt dnow = e := ⟨_, rfl⟩
              obtain ⟨k', hk'⟩ : ∃ k', seeD k dwho ip pt dnow = k' := ⟨_, rfl⟩
              have KD : Hid (∀ (H1 H2 : List Hl) wz, St w (H1 ++ hR g k :: H2) wz → Calls Try.prog 20 #[.pointer (some ⟨g, 0, none⟩), .int .i64 dwho, .agg #[.int .u32 ip, .int .u16 pt], .int .u64 dnow] wz fun y w' => y = .returned (.int .i64 e) ∧ St w (H1 ++ hR g k' :: H2) w') := fun H1 H2 wz s => see_l dwho ip pt dnow hn0 hip hpt he hk' H1 H2 s
              have KR : Hid (∀ (H1 H2 : List Hl) wz, St w (H1 ++ hQ gx x k :: H2) wz → Calls Try.prog 21 #[.pointer (some ⟨gx, 0, none⟩), .int .i64 dwho, .agg #[.int .u32 ip, .int .u16 pt], .int .u64 dnow] wz fun y w' => y = .returned (.int .i64 e) ∧ ∃ x', St w (H1 ++ hQ gx x' k' :: H2) w') := fun H1 H2 wz s => rsee_l dwho ip pt dnow hn0 hip hpt he hk' H1 H2 s
              clear he hk'
              have SA := Lib.hid SD.out.drew
              clear SD x0 x1 x2 x3 x4 x5 x6 hn0 hq0' hip hpt
              rcases hc with rfl | rfl | rfl | rfl
              all_goals (as_aux_lemma =>
                go_upto_region 24 with fail
                go_region_held (fun w' => w'.cell? ⟨db, 1, none⟩ = some (.int .i64 dwho) ∧ w'.cell? ⟨db, 2, none⟩ = some (.int .u32 ip) ∧ w'.cell? ⟨db, 3, none⟩ = some (.int .u16 pt) ∧ w'.cell? ⟨db, 4, none⟩ = some (.int .u64 dnow) ∧ w'.cell? ⟨db, 5, none⟩ = some (.int .u32 dseq)) (exact mkS.out _ _ (by simp) SA.out) (first | (go_at_call 20; refine (KD.out [_] _ _ SA.out).mono ?_; rintro e wA ⟨rfl, sA⟩; have SA := Lib.hid sA; clear sA) | (go_at_call 21; refine (KR.out [_, _] _ _ SA.out).mono ?_; rintro e wA ⟨rfl, x', sA⟩; have SA := Lib.hid sA; clear sA) | (go_at_call 22; refine (refaddr_any ip pt _).mono ?_; rintro e wA ⟨rfl, bA⟩; have SA := Lib.hid (SA.out.keep bA); clear bA) | fail)
                all_goals go_wp2_with fail
                all_goals go_meet
                all_goals exact ⟨by simp, _, _, SA.out⟩)
          case rest =>
            as_aux_lemma =>
            obtain ⟨rfl, k1, x1', hs⟩ := hcut
            clear SD x0 x1 x2 x3 x4 x5 x6 hq0 hqw hq2 hn0 hq0' hip hpt mkS
            generalize wc = w6 at *
            have SD := Lib.hid hs
            clear hs
            obtain ⟨⟨bip, bpt, bn⟩, hbe⟩ : ∃ b, addrR k1 dnow = b := ⟨_, rfl⟩
            obtain ⟨ok, hok⟩ : ∃ b, decide (0 < bn) = b := ⟨_, rfl⟩
            have x4 := (SD.out.cs (b := db) (vs := cd ⟨dk, dwho, ip, pt, dnow, dseq, dnear⟩) (by simp)).cell 4 _ rfl
            have K := addr_l (g := g) dnow hbe hok SD.out (by simp)
            clear SD
            go_wp2_with fail
            refine K.mono ?_; rintro e w7 ⟨rfl, s7⟩
            clear K x4
            have s8 := s7.box [.int .u32 bip, .int .u16 bpt] 35
            clear s7
            go_upto_region 38 with fail
            generalize (w7.alloc (.cells #[.int .u32 bip, .int .u16 bpt] 35)) = w8 at *
            generalize w7.heap.size = b16 at *
            have x4 := (s8.cs (b := db) (vs := cd ⟨dk, dwho, ip, pt, dnow, dseq, dnear⟩) (by simp)).cell 4 _ rfl
            have K := raddr_l (g := gx) (x := x1') dnow hbe hok s8 (by simp)
            clear s8 hbe hok
            go_wp2_with fail
            refine K.mono ?_; rintro e w9 ⟨rfl, s9⟩
            clear K x4
            have s10 := s9.box [.int .u32 bip, .int .u16 bpt] 43
            clear s9
            go_upto_region 39 with fail
            generalize (w9.alloc (.cells #[.int .u32 bip, .int .u16 bpt] 43)) = w10 at *
            generalize w9.heap.size = b18 at *
            obtain ⟨L, hL⟩ : ∃ L, allV k1.vote = L := ⟨_, rfl⟩
            have hL33 : L.length ≤ 33 := by rw [← hL]; exact all_len _
            have K := votes_l (g := g) hL s10 (by simp)
            clear s10
            go_wp2_with fail
            refine K.mono ?_; rintro e w11 ⟨u, rfl, s11⟩
            clear K
            obtain ⟨⟨va, vn, vc⟩, xp, xsq, xgt⟩ := x1'
            have Q1 : Qs gx ⟨va, vn, vc⟩ xp xsq xgt k1 w11 := s11.get (h := hQ gx ⟨⟨va, vn, vc⟩, xp, xsq, xgt⟩ k1) (by simp)
            have hvn := Q1.n
            rw [hL] at hvn
            simp only at hvn
            subst hvn
            have SS := Lib.hid s11
            have RQ := Lib.hid (fun w' (b : Below w11.heap.size w11 w') => erow_keep Q1.row b)
            have RV := Lib.hid (fun w' (b : Below w11.heap.size w11 w') => erow_keep (s11.get (h := hV u L) (by simp)) b)
            have QB := Lib.hid (fun w' (b : Below w11.heap.size w11 w') => Q1.box.keep b)
            rw [hL] at RQ
            have KC := Lib.hid (fun w' (b : Below w11.heap.size w11 w') => class_any g k1 w' (s11.get (h := hR g k1) (by simp) |>.keep b))
            have KR := Lib.hid (fun w' (b : Below w11.heap.size w11 w') => rclass_any gx ⟨va, L.length, vc⟩ xp xsq xgt k1 w' (Q1.keep b))
            have X16 := s11.cs (b := b16) (vs := [.int .u32 bip, .int .u16 bpt]) (by simp)
            have X18 := s11.cs (b := b18) (vs := [.int .u32 bip, .int .u16 bpt]) (by simp)
            unfold ClassPost at KC KR
            generalize classI k1 = cl at *
            clear s11
            go_upto_region 40 with fail
            have k0 := cell_regrown (X16.cell 0 _ rfl)
            have k1' := cell_regrown (X16.cell 1 _ rfl)
            have k2 := cell_regrown (X18.cell 0 _ rfl)
            have k3 := cell_regrown (X18.cell 1 _ rfl)
            have k4 := cell_regrown (Q1.box.cell 2 _ rfl)
            have C1 := fun d os => Calls.regrown_of (refaddr_any bip bpt (grow (redrawn w11 d) os))
            have C2 := fun d os => Calls.regrown_of (KC.out (grow (redrawn w11 d) os) (below_regrown w11 d os))
            have C3 := fun d os => Calls.regrown_of (KR.out (grow (redrawn w11 d) os) (below_regrown w11 d os))
            clear X16 X18 Q1 KC KR
            (refine wp_region_quiet_below (by kernel_rfl) (by kernel_rfl) ?_; (repeat (go_big_quiet_step (first | with_reducible exact C1 _ _ | with_reducible exact C2 _ _ | with_reducible exact C3 _ _))); refine wpQuiet_nil ?_; intro _ hw'; obtain ⟨⟨dq, osq⟩, hw''⟩ := hw'; subst hw'')
            have B12 : Hid (Below w11.heap.size w11 (grow (redrawn w11 dq) osq)) := below_regrown w11 dq osq
            clear k0 k1' k2 k3 k4 C1 C2 C3
            generalize grow (redrawn w11 dq) osq = w12 at *
            have S1 : Hid (PzJ L.length w11 (.int .i64 0) w12) := ⟨0, rfl, Nat.zero_le _, B12.out⟩
            clear B12
            go_wp2_with fail
            go_loopw [21] (fun iv wr => PzJ L.length w11 iv wr) (fun iv _ => 34 - (intOf iv).toNat)
            case atStart => exact S1.out
            case round =>
              obtain ⟨q, rfl, hq, hbq⟩ := hrel
              clear S1
              have HBq := Lib.hid hbq
              clear hbq
              have hq0 : (0 : Int) ≤ q := by omega
              have q8 := IntWalk.i64_in ((q : Int) + 1) ⟨by omega, by omega⟩
              by_cases hql : q < L.length
              · as_aux_lemma =>
                have hql' : (q : Int) < L.length := by omega
                have hq1 : Hid (q + 1 ≤ L.length) := hql
                have hy : L[q]? = some L[q] := List.getElem?_eq_getElem hql
                have r1 := RV.out wr HBq.out
                have r2 := RQ.out wr HBq.out
                have x2 := (QB.out wr HBq.out).cell 2 _ rfl
                have gl := (QB.out wr HBq.out).lt
                obtain ⟨ua, un, uc⟩ := u
                have hun : un = L.length := erow_n r1
                subst hun
                rcases erow_form r1 with ⟨_, e⟩ | ⟨gu, cap1, e1, hg1⟩
                · rw [e] at hql; simp at hql
                rcases erow_form r2 with ⟨_, e⟩ | ⟨gv, cap2, e2, hg2⟩
                · rw [e] at hql; simp at hql
                simp only [Sl.v, Value.slice.injEq] at e1 e2
                obtain ⟨rfl, -, rfl⟩ := e1
                obtain ⟨rfl, -, rfl⟩ := e2
                have y0 := row_cell r1 hy 0 _ rfl
                have y1 := row_cell r1 hy 1 _ rfl
                have y2 := row_cell r1 hy 2 _ rfl
                have y3 := row_cell r1 hy 3 _ rfl
                have z0 := row_cell r2 hy 0 _ rfl
                have z1 := row_cell r2 hy 1 _ rfl
                have z2' := row_cell r2 hy 2 _ rfl
                have z3 := row_cell r2 hy 3 _ rfl
                simp only [Nat.add_zero] at y0 z0
                generalize L[q] = y at *
                obtain ⟨y1', y2', y3', y4'⟩ := y
                simp only at y0 y1 y2 y3 z0 z1 z2' z3
                have hc1 : L.length ≤ uc := by
                  obtain ⟨-, C, hC, hcap, ht, hlc, hm⟩ := erow_open cv_enc r1
                  exact hlc
                clear r1 r2 hy hql
                go_upto_region 45 with fail
                have k0 := cell_regrown y0
                have k1' := cell_regrown y1
                have k2 := cell_regrown y2
                have k3 := cell_regrown y3
                have l0 := cell_regrown z0
                have l1 := cell_regrown z1
                have l2 := cell_regrown z2'
                have l3 := cell_regrown z3
                have kx := cell_regrown x2
                have C1 := fun d os => Calls.regrown_of (refaddr_any y2' y3' (grow (redrawn wr d) os))
                clear y0 y1 y2 y3 z0 z1 z2' z3 x2
                (refine wp_region_quiet_below (by kernel_rfl) (by kernel_rfl) ?_; (repeat (go_big_quiet_step (first | with_reducible exact C1 _ _))); refine wpQuiet_nil ?_; intro _ hw'; obtain ⟨⟨dq, osq⟩, hw''⟩ := hw'; subst hw'')
                have BF : Hid (Below w11.heap.size w11 (grow (redrawn wr dq) osq)) := HBq.out.trans ((below_regrown wr dq osq).mono HBq.out.size)
                clear k0 k1' k2 k3 l0 l1 l2 l3 kx C1
                generalize grow (redrawn wr dq) osq = wz at *
                go_wp2
                go_roundw
                case rel => exact ⟨q + 1, by go_num, hq1.out, BF.out⟩
                case measure => simp [intOf]; omega
              · as_aux_lemma =>
                obtain rfl : q = L.length := by omega
                have SF : Hid (St w [hR g k1, hQ gx ⟨⟨va, L.length, vc⟩, xp, xsq, xgt⟩ k1] wr) := (SS.out.keep HBq.out).sub (by repeat (first | exact List.Sublist.refl _ | apply List.Sublist.cons))
                clear SS RQ RV QB HBq
                go_wp2_with fail
                go_roundw
                case rel => exact ⟨i + 1, k1, _, by go_num, hi1.out, hi2.out, SF.out⟩
                case measure => simp [intOf]; omega
      · as_aux_lemma =>
        obtain rfl : i = 80 := by omega
        have h2d : decide (((80 : Nat) : Int) < 80) = false := rfl
        have HB := Lib.hid HS.out.below
        clear HS
        go_wp2
        go_ret
        exact ⟨rfl, HB.out⟩
    · as_aux_lemma =>
      obtain rfl : i = n := by omega
      have h1d : decide ((i : Int) < i) = false := decide_eq_false (by omega)
      have HB := Lib.hid HS.out.below
      clear HS
      go_wp2
      go_ret
      exact ⟨rfl, HB.out⟩
theorem plays_run (r0 h0 : Int) (nr : Bool) (a : Option Addr) (len cap : Nat) (w : World) (wr : (Lit.int .i64 r0).wf = true) (wh : (Lit.int .u64 h0).wf = true) (wz : DeedRow w a len cap) :
    Calls Try.prog 3 #[.int .i64 r0, .int .u64 h0, .bool nr, .slice a len cap] w fun e w' => e = .returned (.bool true) ∧ Below w.heap.size w w' :=
  plays_walk r0 h0 nr a len cap w (bounds_u64 wh).1 wz
theorem reachPlays_own : ownKnob Try.prog.godebug = none := by kernel_rfl
theorem reachPlays_laid : laidOutB Try.prog = true := by kernel_rfl
set_option maxRecDepth 100000 in
theorem reachPlays_lifted (os : Os) (started : os.Started) (H : Type) (enc : TypeId × Value → H) :
    ReturnsInHanded {} Try.checked os 3 .any (Rows.reachPlaysSpec.pre6 enc Try.prog Try.f3 Rows.reachPlaysRow.domain false) (Rows.reachPlaysSpec.post enc Try.prog Try.f3 false true false false) := by
  refine returnsInHanded_of_change (C := Try.checked) reachPlays_own started (by kernel_rfl) Try.func3
    (ChangeSpec.witness6 (enc := enc) (C := Try.checked) false ⟨#[], #[.int .i64 0, .int .u64 0, .bool false, .slice none 0 0], []⟩ 8 (by kernel_rfl) (by kernel_rfl) (by kernel_rfl) (by kernel_rfl)) ?_
  intro W base args ds gs before hval0 hW hcnd _
  have hval : ∀ (j : Nat) t v, Try.f3.params[j]? = some t → args[j]? = some v → Value.okWide Try.prog W .any base t v := hval0
  have hW' := hW
  obtain ⟨p, q, hA0, hV, rfl, hfz, hnd⟩ := hW
  have hA : DataW.TrodAll enc Try.prog W 0 (fun _ => true) true Try.f3.params.toList args.toList ds p := hA0
  rw [Try.params3] at hA hval
  obtain ⟨v0, vs0, d0, ds0, p0, q0, hargs, rfl, rfl, h0, r0⟩ := trodAll_cons hA
  obtain ⟨v1, vs1, d1, ds1, p1, q1, rfl, rfl, rfl, h1, r1⟩ := trodAll_cons r0
  obtain ⟨v2, vs2, d2, ds2, p2, q2, rfl, rfl, rfl, h2, r2⟩ := trodAll_cons r1
  obtain ⟨v3, vs3, d3, ds3, p3, q3, rfl, rfl, rfl, h3, r3⟩ := trodAll_cons r2
  obtain ⟨rfl, rfl, rfl⟩ := trodAll_nil r3
  obtain rfl : args = #[v0, v1, v2, v3] := by cases args; simp_all
  obtain ⟨rfl, rfl⟩ := trodVars_none hV
  obtain ⟨a0, rfl, rfl, rfl, w0⟩ := open_int Try.underlying3 (hval 0 3 v0 rfl rfl) h0
  obtain ⟨a1, rfl, rfl, rfl, w1⟩ := open_int Try.underlying22 (hval 1 22 v1 rfl rfl) h1
  obtain ⟨a2, rfl, rfl, rfl⟩ := open_bool Try.underlying4 (hval 2 4 v2 rfl rfl) h2
  obtain ⟨a3, len3, cap3, rfl⟩ := okWide_slice Try.underlying23 (hval 3 23 v3 rfl rfl)
  have k3 := h3
  have lt3 : ∀ x ∈ p3, x.block < W.heap.size := by obtain ⟨m, hm⟩ := k3; exact DataW.trod_lt m _ _ _ hm
  have w3 : DeedRow W a3 len3 cap3 := by
    obtain ⟨fuel, hf⟩ := h3
    exact deeds_open hf
  clear hA0 hval0
  refine (plays_run a0 a1 a2 a3 len3 cap3 W w0 w1 w3).mono fun e W' ⟨he, bel⟩ => ?_
  subst he
  exact ⟨_, rfl, _, _, _, [], _, [], hW', trodAll_mk1 (shut_bool Try.underlying4 _), (trodAll_cons_mk (shut_int Try.underlying3 w0) (trodAll_cons_mk (shut_int Try.underlying22 w1) (trodAll_cons_mk (shut_bool Try.underlying4 _) (trodAll_cons_mk (Below.trod reachPlays_laid (by kernel_rfl) (of_decide_eq_true (by kernel_rfl)) k3 bel lt3) trodAll_mk0)))), rfl, bel.frame _, fun h => by cases h⟩
theorem reachPlays_over : Rows.reachPlaysRow.holds Try.pinned (OpenSpec.ofChange Rows.reachPlaysSpec) :=
  OpenClaim.holds_of_wide 3 Try.f3 rfl rfl rfl rfl rfl rfl rfl ⟨rfl, rfl, rfl, rfl, rfl⟩ rfl rfl rfl rfl rfl (by kernel_rfl) Try.func3 (by kernel_rfl)
    (of_decide_eq_true (by kernel_rfl)) (by unfold Func.isWrapper; first | (rw [if_pos (by decide +kernel)]; kernel_rfl) | (rw [if_neg (by decide +kernel)]; exact ⟨rfl, rfl⟩))
    (fun os started H enc _ => reachPlays_lifted os started H enc)
theorem reachPlays_holds : Rows.ReachPlaysSaid := reachPlays_over
#print axioms reachPlays_holds
end Go.Proofs.Ytnkjepemliccpaa
