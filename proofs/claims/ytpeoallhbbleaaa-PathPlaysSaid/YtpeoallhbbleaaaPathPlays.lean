/- PathPlays: ways are wanted, opened, heard, lost, go on, deed by deed, as the chapter says: what is to be sent, and what they are: for any numbers, every list of deeds. -/
import Derived.Test.YtpeoallhbbleaaaPaDeeds
import Derived.Deep.CutBlock
namespace Go.Proofs.Ytpeoallhbbleaaa
open Go.Sort Go.RowKit Go.BigFrame Go.ChangeShapes Go.WideShapes Go.Deep
set_option linter.unusedVariables false
set_option linter.unusedSimpArgs false

theorem wrap_lo18 (n : Int) : 0 ≤ IntKind.u64.wrap n := by
  simp [IntKind.wrap, IntKind.signed]
  exact Int.emod_nonneg _ (by decide)
theorem all_of {k : Tk} (h : OkK k) {q : Nat} {x : Pt} (hx : (allP k.p)[q]? = some x) : isP k x.peer = true ∧ ofX k x.peer = x := by
  obtain ⟨j, h2, rfl, hs⟩ := mem_lo (List.mem_of_getElem? hx)
  have e := (h.yes j hs).peer
  rw [e]
  have e1 : isP k (j : Int) = true := by rw [isP_at h]; exact hs
  refine ⟨e1, ?_⟩
  unfold ofX
  rw [e1, if_pos rfl, Int.toNat_natCast]
def PyJ (n : Nat) (w : World) (g gx : Nat) (nv iv : Value) (wr : World) : Prop := ∃ (i : Nat) (now : Int) (k : Tk) (x : Sl), iv = .int .i64 (i : Nat) ∧ nv = .int .u64 now ∧ (0 ≤ now ∧ now ≤ 5 * i) ∧ i ≤ n ∧ i ≤ 80 ∧ St w [hT g k, hQ gx x k] wr
def PdJ (L : List (Int × Int)) (w : World) (H : List Hl) (fv qv : Value) (wr : World) : Prop := ∃ q : Nat, fv = .bool true ∧ qv = .int .i64 (q : Nat) ∧ q ≤ L.length ∧ St w H wr
def PzJ (l : Nat) (w : World) (H : List Hl) (iv : Value) (wr : World) : Prop := ∃ q : Nat, iv = .int .i64 (q : Nat) ∧ q ≤ l ∧ St w H wr
set_option maxHeartbeats 51200000 in
set_option maxRecDepth 100000 in
theorem plays_walk (t0 b0 k0 h0 : Int) (nr : Bool) (a : Option Addr) (n cap : Nat) (w : World) (hb0 : 0 ≤ b0) (hk0 : 0 ≤ k0) (hh0 : 0 ≤ h0) (hdr : Hid (DeedRow w a n cap)) :
    Calls Try.prog 3 #[.int .i64 t0, .int .u64 b0, .int .u64 k0, .int .u64 h0, .bool nr, .slice a n cap] w fun e w' => e = .returned (.bool true) ∧ Below w.heap.size w w' := by
  have E := ex_any w
  go_enter Try.func3, Try.ntmps3
  go_wp2_with fail
  refine E.mono ?_; rintro e w1 ⟨rfl, b1⟩
  replace b1 := Lib.hid b1
  clear E
  go_upto_if 33 with fail
  go_cut [0, 1, 2, 3] (fun tv bv kv hv wx => ∃ T Bs Kp Hd : Int, tv = .int .i64 T ∧ bv = .int .u64 Bs ∧ kv = .int .u64 Kp ∧ hv = .int .u64 Hd ∧ (0 ≤ Bs ∧ 0 ≤ Kp ∧ 0 ≤ Hd) ∧ w1 = wx)
  case first =>
    cases nr with
    | false =>
      go_wp2_with fail
      go_meet
      exact ⟨t0, b0, k0, h0, rfl, rfl, rfl, rfl, ⟨hb0, hk0, hh0⟩, rfl⟩
    | true =>
      have hu1 := wrap_lo18 t0
      obtain ⟨m1, hm1⟩ : ∃ m, IntKind.u64.wrap t0 % 4 = m := ⟨_, rfl⟩
      have n1 : (IntKind.u64.wrap t0).tmod 4 = m1 := by rw [tmod_pos _ _ hu1]; exact hm1
      obtain ⟨m2, hm2⟩ : ∃ m, b0 % 4 = m := ⟨_, rfl⟩
      have n2 : b0.tmod 4 = m2 := by rw [tmod_pos _ _ hb0]; exact hm2
      obtain ⟨m3, hm3⟩ : ∃ m, k0 % 8 = m := ⟨_, rfl⟩
      have n3 : k0.tmod 8 = m3 := by rw [tmod_pos _ _ hk0]; exact hm3
      obtain ⟨m4, hm4⟩ : ∃ m, h0 % 20 = m := ⟨_, rfl⟩
      have n4 : h0.tmod 20 = m4 := by rw [tmod_pos _ _ hh0]; exact hm4
      have q1 : 0 ≤ m1 ∧ m1 < 4 := by omega
      have q2 : 0 ≤ m2 ∧ m2 < 4 := by omega
      have q3 : 0 ≤ m3 ∧ m3 < 8 := by omega
      have q4 : 0 ≤ m4 ∧ m4 < 20 := by omega
      have t1 := IntWalk.i64_in m1 ⟨by omega, by omega⟩
      have t1' := IntWalk.u64_in m1 ⟨by omega, by omega⟩
      have t2 := IntWalk.i64_in (1 + m1) ⟨by omega, by omega⟩
      have t3 := IntWalk.u64_in m2 ⟨by omega, by omega⟩
      have t4 := IntWalk.u64_in (1 + m2) ⟨by omega, by omega⟩
      have t5 := IntWalk.u64_in m3 ⟨by omega, by omega⟩
      have t6 := IntWalk.u64_in (1 + m3) ⟨by omega, by omega⟩
      have t7 := IntWalk.u64_in m4 ⟨by omega, by omega⟩
      have t8 := IntWalk.u64_in (1 + m4) ⟨by omega, by omega⟩
      have hf : (0 : Int) ≤ 1 + m2 ∧ (0 : Int) ≤ 1 + m3 ∧ (0 : Int) ≤ 1 + m4 := ⟨by omega, by omega, by omega⟩
      clear hm1 hm2 hm3 hm4
      go_wp2_with fail
      go_meet
      exact ⟨1 + m1, 1 + m2, 1 + m3, 1 + m4, rfl, rfl, rfl, rfl, hf, rfl⟩
  case rest =>
  obtain ⟨T, Bs, Kp, Hd, rfl, rfl, rfl, rfl, hH, rfl⟩ := hcut
  clear hb0 hk0 hh0
  cases ha : mayI T Bs Kp Hd with
  | false =>
    have K := new_bad T Bs Kp Hd ha w1
    have K2 := rnew_bad T Bs Kp Hd ha hH.1 hH.2.1 hH.2.2 w1
    clear ha
    go_wp2_with fail
    refine K.mono ?_; rintro e w2 ⟨rfl, rfl⟩
    go_wp2_with fail
    refine K2.mono ?_; rintro e w2 ⟨rfl, rfl⟩
    clear K K2
    go_wp2
    go_ret
    exact ⟨rfl, b1.out⟩
  | true =>
  have K := newT_l ha (St.start w w1 b1.out)
  clear b1
  go_wp2_with fail
  refine K.mono ?_; rintro e w2 ⟨g, rfl, s⟩
  clear K
  have K := rnew_l ha s
  clear s ha hH
  go_wp2_with fail
  refine K.mono ?_; rintro e w3 ⟨gx, x0, rfl, s⟩
  clear K
  have S0 : Hid (PyJ n w g gx (.int .u64 0) (.int .i64 0) w3) := ⟨0, 0, _, _, rfl, rfl, by omega, Nat.zero_le _, by omega, s.perm (List.Perm.swap _ _ _)⟩
  clear s
  go_wp2_with fail
  go_loopw [17, 18] (fun nv iv wr => PyJ n w g gx nv iv wr) (fun _ iv _ => 81 - (intOf iv).toNat)
  case atStart => exact S0.out
  case round =>
    obtain ⟨i, now, k, x, rfl, rfl, hnw, hi, hi80, hs⟩ := hrel
    clear S0
    have HS := Lib.hid hs
    have hI0 : (0 : Int) ≤ i := by omega
    clear hs
    by_cases h1 : i < n
    · have h1' : (i : Int) < n := by omega
      have h1d : decide ((i : Int) < n) = true := decide_eq_true h1'
      by_cases h2 : i < 80
      · have h2' : (i : Int) < 80 := by omega
        have h2d : decide ((i : Int) < 80) = true := decide_eq_true h2'
        have hi1 : Hid (i + 1 ≤ n) := h1
        have hi2 : Hid (i + 1 ≤ 80) := h2
        obtain ⟨ba, oa, rfl, hbl, hcc⟩ := hdr.out.at_ (by omega)
        obtain ⟨d, hfit, hc⟩ := hcc i h1
        have hbw := HS.out.below
        have q0 := bounds_u8 hfit.k
        have q2 := bounds_u32 hfit.ip
        have q3 := bounds_u16 hfit.pt
        have q4 := bounds_u64 hfit.now
        have c0 := (hbw.cell (p := ⟨ba, oa + i * 6 + 0, none⟩) hbl).trans (hc 0 _ rfl)
        have c1 := (hbw.cell (p := ⟨ba, oa + i * 6 + 1, none⟩) hbl).trans (hc 1 _ rfl)
        have c2 := (hbw.cell (p := ⟨ba, oa + i * 6 + 2, none⟩) hbl).trans (hc 2 _ rfl)
        have c3 := (hbw.cell (p := ⟨ba, oa + i * 6 + 3, none⟩) hbl).trans (hc 3 _ rfl)
        have c4 := (hbw.cell (p := ⟨ba, oa + i * 6 + 4, none⟩) hbl).trans (hc 4 _ rfl)
        have c5 := (hbw.cell (p := ⟨ba, oa + i * 6 + 5, none⟩) hbl).trans (hc 5 _ rfl)
        have hbl2 := Nat.lt_of_lt_of_le hbl hbw.size
        simp only [Nat.add_zero] at c0
        clear hcc hc hfit hbw h1 h2 hbl
        have SD : Hid (St w [hC wr.heap.size (cd d), hT g k, hQ gx x k] (wr.alloc (.cells #[.int .u8 d.k, .int .i64 d.who, .int .u32 d.ip, .int .u16 d.pt, .int .u64 d.now, .bool d.near] 37))) := HS.out.box (cd d) 37
        go_upto_region 20 with fail
        generalize (wr.alloc (.cells #[.int .u8 d.k, .int .i64 d.who, .int .u32 d.ip, .int .u16 d.pt, .int .u64 d.now, .bool d.near] 37)) = w4 at *
        generalize wr.heap.size = db at *
        clear c0 c1 c2 c3 c4 c5 hbl2 HS
        have x0 := (SD.out.cs (b := db) (vs := cd d) (by simp)).cell 0 _ rfl
        have x1 := (SD.out.cs (b := db) (vs := cd d) (by simp)).cell 1 _ rfl
        have x2 := (SD.out.cs (b := db) (vs := cd d) (by simp)).cell 2 _ rfl
        have x3 := (SD.out.cs (b := db) (vs := cd d) (by simp)).cell 3 _ rfl
        have x4 := (SD.out.cs (b := db) (vs := cd d) (by simp)).cell 4 _ rfl
        have x5 := (SD.out.cs (b := db) (vs := cd d) (by simp)).cell 5 _ rfl
        have dbl := (SD.out.cs (b := db) (vs := cd d) (by simp)).lt
        go_upto_if 95 with fail
        go_cut [17, 20] (fun nv av wx => ∃ (d' : Deed) (ip pt : Nat) (now' at_ : Int), nv = .int .u64 now' ∧ av = .int .u64 at_ ∧ d'.ip = ip ∧ d'.pt = pt ∧ ip < 4294967296 ∧ pt < 65536 ∧ (0 ≤ d'.k ∧ d'.k < 256) ∧ (0 ≤ now' ∧ now' ≤ 5 * ((i + 1 : Nat) : Int)) ∧ 0 ≤ at_ ∧ St w [hC db (cd d'), hT g k, hQ gx x k] wx)
        case first =>
          obtain ⟨dk, dwho, dip, dpt, dnow, dnear⟩ := d
          simp only at *
          cases dnear
          · as_aux_lemma =>
            clear x0 x1 x2 x3 x4 x5 dbl
            go_wp2_with fail
            go_meet
            exact ⟨⟨dk, dwho, dip, dpt, dnow, false⟩, dip.toNat, dpt.toNat, now, dnow, rfl, rfl, by show dip = _; omega, by show dpt = _; omega, by omega, by omega, by show 0 ≤ dk ∧ dk < 256; omega, by omega, by omega, SD.out⟩
          · as_aux_lemma =>
            have hu1 := wrap_lo18 dwho
            obtain ⟨m1, hm1⟩ : ∃ m, IntKind.u64.wrap dwho % 4 = m := ⟨_, rfl⟩
            obtain ⟨m2, hm2⟩ : ∃ m, dip % 2 = m := ⟨_, rfl⟩
            obtain ⟨m4, hm4⟩ : ∃ m, dnow % 6 = m := ⟨_, rfl⟩
            have n1 : (IntKind.u64.wrap dwho).tmod 4 = m1 := by rw [tmod_pos _ _ hu1]; exact hm1
            have n2 : dip.tmod 2 = m2 := by rw [tmod_pos _ _ q2.1]; exact hm2
            have n4 : dnow.tmod 6 = m4 := by rw [tmod_pos _ _ q4.1]; exact hm4
            have r1 : 0 ≤ m1 ∧ m1 < 4 := by omega
            have r2 : 0 ≤ m2 ∧ m2 < 2 := by omega
            have r4 : 0 ≤ m4 ∧ m4 < 6 := by omega
            have t1 := IntWalk.i64_in m1 ⟨by omega, by omega⟩
            have t1' := IntWalk.u64_in m1 ⟨by omega, by omega⟩
            have t1b := IntWalk.i64_in (1 + m1) ⟨by omega, by omega⟩
            have t2 := IntWalk.u32_in m2 ⟨by omega, by omega⟩
            have t2b := IntWalk.u32_in (1 + m2) ⟨by omega, by omega⟩
            have t4 := IntWalk.u64_in m4 ⟨by omega, by omega⟩
            have t4b := IntWalk.u64_in (now + m4) ⟨by omega, by omega⟩
            have SF : Hid (St w [hC db (cd ⟨dk, 1 + m1, 1 + m2, 9, dnow, true⟩), hT g k, hQ gx x k] (((w4.setCell ⟨db, 1, none⟩ (.int .i64 (1 + m1))).setCell ⟨db, 2, none⟩ (.int .u32 (1 + m2))).setCell ⟨db, 3, none⟩ (.int .u16 9))) :=
              St.setc [] _ (St.setc [] _ (St.setc [] _ SD.out 1 (.int .i64 (1 + m1)) (by simp [cd])) 2 (.int .u32 (1 + m2)) (by simp [cd])) 3 (.int .u16 9) (by simp [cd])
            clear hm1 hm2 hm4
            have f1 := (SD.out.cs (b := db) (vs := cd ⟨dk, dwho, dip, dpt, dnow, true⟩) (by simp)).free 1 _ rfl
            have f2 := (SD.out.cs (b := db) (vs := cd ⟨dk, dwho, dip, dpt, dnow, true⟩) (by simp)).free 2 _ rfl
            have f3 := (SD.out.cs (b := db) (vs := cd ⟨dk, dwho, dip, dpt, dnow, true⟩) (by simp)).free 3 _ rfl
            have hdl := (SD.out.cs (b := db) (vs := cd ⟨dk, dwho, dip, dpt, dnow, true⟩) (by simp)).lt
            go_wp2_with fail
            go_meet
            exact ⟨⟨dk, 1 + m1, 1 + m2, 9, dnow, true⟩, (1 + m2).toNat, 9, now + m4, now + m4, rfl, rfl, by show 1 + m2 = _; omega, rfl, by omega, by decide, by show 0 ≤ dk ∧ dk < 256; omega, by omega, by omega, SF.out⟩
        case rest =>
          obtain ⟨d2, ip, pt, now2, tm, rfl, rfl, e1, e2, hip, hpt, hk8, hnw2, hn0, hs⟩ := hcut
          generalize wc = w5 at *
          clear x0 x1 x2 x3 x4 x5 dbl q0 q2 q3 q4 SD hnw
          clear d
          have SD := Lib.hid hs
          have HNW := Lib.hid hnw2
          clear hs hnw2
          obtain ⟨dk, dwho, dip, dpt, dnow, dnear⟩ := d2
          simp only at hk8 e1 e2
          subst e1 e2
          have x0 := (SD.out.cs (b := db) (vs := cd ⟨dk, dwho, ip, pt, dnow, dnear⟩) (by simp)).cell 0 _ rfl
          have x1 := (SD.out.cs (b := db) (vs := cd ⟨dk, dwho, ip, pt, dnow, dnear⟩) (by simp)).cell 1 _ rfl
          have x2 := (SD.out.cs (b := db) (vs := cd ⟨dk, dwho, ip, pt, dnow, dnear⟩) (by simp)).cell 2 _ rfl
          have x3 := (SD.out.cs (b := db) (vs := cd ⟨dk, dwho, ip, pt, dnow, dnear⟩) (by simp)).cell 3 _ rfl
          have x4 := (SD.out.cs (b := db) (vs := cd ⟨dk, dwho, ip, pt, dnow, dnear⟩) (by simp)).cell 4 _ rfl
          have x5 := (SD.out.cs (b := db) (vs := cd ⟨dk, dwho, ip, pt, dnow, dnear⟩) (by simp)).cell 5 _ rfl
          obtain ⟨q, hq⟩ : ∃ q, dk % 9 = q := ⟨_, rfl⟩
          have hq2 : dk.tmod 9 = q := by rw [tmod_pos _ _ hk8.1]; exact hq
          have hq0 : 0 ≤ q ∧ q < 9 := by omega
          have hqw := IntWalk.u8_in q ⟨by omega, by omega⟩
          have mkS : Hid (∀ H w', hC db (cd ⟨dk, dwho, ip, pt, dnow, dnear⟩) ∈ H → St w H w' → w'.cell? ⟨db, 1, none⟩ = some (.int .i64 dwho) ∧ w'.cell? ⟨db, 2, none⟩ = some (.int .u32 ip) ∧ w'.cell? ⟨db, 3, none⟩ = some (.int .u16 pt)) := fun H w' hm st =>
            ⟨(st.cs hm).cell 1 _ rfl, (st.cs hm).cell 2 _ rfl, (st.cs hm).cell 3 _ rfl⟩
          clear hq hk8
          go_upto_region 27 with fail
          go_step
          go_upto_block 2 with fail
          go_cut [21] (fun c wx => c = .bool true ∧ ∃ k' x', St w [hC db (cd ⟨dk, dwho, ip, pt, dnow, dnear⟩), hT g k', hQ gx x' k'] wx)
          case first =>
            have hcase : (q = 0 ∨ q = 1) ∨ (q = 2 ∨ q = 3) ∨ q = 4 ∨ q = 5 ∨ (q = 6 ∨ q = 7 ∨ q = 8) := by omega
            clear hq0 hqw hq2
            rcases hcase with hc | hc | rfl | rfl | hc
            · as_aux_lemma =>
              obtain ⟨e, he⟩ : ∃ e, wantE k dwho tm = e := ⟨_, rfl⟩
              obtain ⟨k', hk'⟩ : ∃ k', wantD k dwho tm = k' := ⟨_, rfl⟩
              have KD : Hid (∀ (H1 H2 : List Hl) wz, St w (H1 ++ hT g k :: H2) wz → Calls Try.prog 12 #[.pointer (some ⟨g, 0, none⟩), .int .i64 dwho, .int .u64 tm] wz fun y w' => y = .returned (.int .i64 e) ∧ St w (H1 ++ hT g k' :: H2) w') := fun H1 H2 wz s => want_l dwho tm hn0 he hk' H1 H2 s
              have KR : Hid (∀ (H1 H2 : List Hl) wz, St w (H1 ++ hQ gx x k :: H2) wz → Calls Try.prog 13 #[.pointer (some ⟨gx, 0, none⟩), .int .i64 dwho, .int .u64 tm] wz fun y w' => y = .returned (.int .i64 e) ∧ ∃ x', St w (H1 ++ hQ gx x' k' :: H2) w') := fun H1 H2 wz s => rwant_l dwho tm hn0 he hk' H1 H2 s
              clear he hk'
              have SA := Lib.hid SD.out.drew
              clear SD x0 x1 x2 x3 x4 x5 hn0 hip hpt
              rcases hc with rfl | rfl
              all_goals (as_aux_lemma =>
                go_upto_region 37 with fail
                go_region_held (fun w' => w'.cell? ⟨db, 1, none⟩ = some (.int .i64 dwho) ∧ w'.cell? ⟨db, 2, none⟩ = some (.int .u32 ip) ∧ w'.cell? ⟨db, 3, none⟩ = some (.int .u16 pt)) (exact mkS.out _ _ (by simp) SA.out) (first | (go_at_call 12; refine (KD.out [_] _ _ SA.out).mono ?_; rintro e wA ⟨rfl, sA⟩; have SA := Lib.hid sA; clear sA) | (go_at_call 13; refine (KR.out [_, _] _ _ SA.out).mono ?_; rintro e wA ⟨rfl, x', sA⟩; have SA := Lib.hid sA; clear sA) | fail)
                all_goals go_wp2_with fail
                all_goals go_meet
                all_goals exact ⟨by simp, _, _, SA.out⟩)
            · as_aux_lemma =>
              obtain ⟨e, he⟩ : ∃ e, openE dwho ip pt tm = e := ⟨_, rfl⟩
              obtain ⟨k', hk'⟩ : ∃ k', openD k dwho ip pt tm = k' := ⟨_, rfl⟩
              have KD : Hid (∀ (H1 H2 : List Hl) wz, St w (H1 ++ hT g k :: H2) wz → Calls Try.prog 14 #[.pointer (some ⟨g, 0, none⟩), .int .i64 dwho, .agg #[.int .u32 ip, .int .u16 pt], .int .u64 tm] wz fun y w' => y = .returned (.int .i64 e) ∧ St w (H1 ++ hT g k' :: H2) w') := fun H1 H2 wz s => open_l dwho ip pt tm hn0 hip hpt he hk' H1 H2 s
              have KR : Hid (∀ (H1 H2 : List Hl) wz, St w (H1 ++ hQ gx x k :: H2) wz → Calls Try.prog 15 #[.pointer (some ⟨gx, 0, none⟩), .int .i64 dwho, .agg #[.int .u32 ip, .int .u16 pt], .int .u64 tm] wz fun y w' => y = .returned (.int .i64 e) ∧ ∃ x', St w (H1 ++ hQ gx x' k' :: H2) w') := fun H1 H2 wz s => ropen_l dwho ip pt tm hn0 hip hpt he hk' H1 H2 s
              clear he hk'
              have SA := Lib.hid SD.out.drew
              clear SD x0 x1 x2 x3 x4 x5 hn0 hip hpt
              rcases hc with rfl | rfl
              all_goals (as_aux_lemma =>
                go_upto_region 40 with fail
                go_region_held (fun w' => w'.cell? ⟨db, 1, none⟩ = some (.int .i64 dwho) ∧ w'.cell? ⟨db, 2, none⟩ = some (.int .u32 ip) ∧ w'.cell? ⟨db, 3, none⟩ = some (.int .u16 pt)) (exact mkS.out _ _ (by simp) SA.out) (first | (go_at_call 14; refine (KD.out [_] _ _ SA.out).mono ?_; rintro e wA ⟨rfl, sA⟩; have SA := Lib.hid sA; clear sA) | (go_at_call 15; refine (KR.out [_, _] _ _ SA.out).mono ?_; rintro e wA ⟨rfl, x', sA⟩; have SA := Lib.hid sA; clear sA) | (go_at_call 16; refine (refaddr_any ip pt _).mono ?_; rintro e wA ⟨rfl, bA⟩; have SA := Lib.hid (SA.out.keep bA); clear bA) | fail)
                all_goals go_wp2_with fail
                all_goals go_meet
                all_goals exact ⟨by simp, _, _, SA.out⟩)
            · as_aux_lemma =>
              obtain ⟨e, he⟩ : ∃ e, heardB k dwho ip pt tm = e := ⟨_, rfl⟩
              obtain ⟨k', hk'⟩ : ∃ k', heardD k dwho ip pt tm = k' := ⟨_, rfl⟩
              have KD : Hid (∀ (H1 H2 : List Hl) wz, St w (H1 ++ hT g k :: H2) wz → Calls Try.prog 17 #[.pointer (some ⟨g, 0, none⟩), .int .i64 dwho, .agg #[.int .u32 ip, .int .u16 pt], .int .u64 tm] wz fun y w' => y = .returned (.bool e) ∧ St w (H1 ++ hT g k' :: H2) w') := fun H1 H2 wz s => heard_l dwho ip pt tm hn0 he hk' H1 H2 s
              have KR : Hid (∀ (H1 H2 : List Hl) wz, St w (H1 ++ hQ gx x k :: H2) wz → Calls Try.prog 18 #[.pointer (some ⟨gx, 0, none⟩), .int .i64 dwho, .agg #[.int .u32 ip, .int .u16 pt], .int .u64 tm] wz fun y w' => y = .returned (.bool e) ∧ ∃ x', St w (H1 ++ hQ gx x' k' :: H2) w') := fun H1 H2 wz s => rheard_l dwho ip pt tm hn0 he hk' H1 H2 s
              clear he hk'
              have SA := Lib.hid SD.out.drew
              clear SD x0 x1 x2 x3 x4 x5 hn0 hip hpt
              go_upto_region 42 with fail
              go_region_held (fun w' => w'.cell? ⟨db, 1, none⟩ = some (.int .i64 dwho) ∧ w'.cell? ⟨db, 2, none⟩ = some (.int .u32 ip) ∧ w'.cell? ⟨db, 3, none⟩ = some (.int .u16 pt)) (exact mkS.out _ _ (by simp) SA.out) (first | (go_at_call 17; refine (KD.out [_] _ _ SA.out).mono ?_; rintro e wA ⟨rfl, sA⟩; have SA := Lib.hid sA; clear sA) | (go_at_call 18; refine (KR.out [_, _] _ _ SA.out).mono ?_; rintro e wA ⟨rfl, x', sA⟩; have SA := Lib.hid sA; clear sA) | (go_at_call 16; refine (refaddr_any ip pt _).mono ?_; rintro e wA ⟨rfl, bA⟩; have SA := Lib.hid (SA.out.keep bA); clear bA) | fail)
              all_goals go_wp2_with fail
              all_goals go_meet
              all_goals exact ⟨by simp, _, _, SA.out⟩
            · as_aux_lemma =>
              obtain ⟨e, he⟩ : ∃ e, isP k dwho = e := ⟨_, rfl⟩
              obtain ⟨k', hk'⟩ : ∃ k', lostD k dwho = k' := ⟨_, rfl⟩
              have KD : Hid (∀ (H1 H2 : List Hl) wz, St w (H1 ++ hT g k :: H2) wz → Calls Try.prog 19 #[.pointer (some ⟨g, 0, none⟩), .int .i64 dwho] wz fun y w' => y = .returned (.bool e) ∧ St w (H1 ++ hT g k' :: H2) w') := fun H1 H2 wz s => lost_l dwho he hk' H1 H2 s
              have KR : Hid (∀ (H1 H2 : List Hl) wz, St w (H1 ++ hQ gx x k :: H2) wz → Calls Try.prog 20 #[.pointer (some ⟨gx, 0, none⟩), .int .i64 dwho] wz fun y w' => y = .returned (.bool e) ∧ ∃ x', St w (H1 ++ hQ gx x' k' :: H2) w') := fun H1 H2 wz s => rlost_l dwho he hk' H1 H2 s
              clear he hk'
              have SA := Lib.hid SD.out.drew
              clear SD x0 x1 x2 x3 x4 x5 hn0 hip hpt
              go_upto_region 44 with fail
              go_region_held (fun w' => w'.cell? ⟨db, 1, none⟩ = some (.int .i64 dwho) ∧ w'.cell? ⟨db, 2, none⟩ = some (.int .u32 ip) ∧ w'.cell? ⟨db, 3, none⟩ = some (.int .u16 pt)) (exact mkS.out _ _ (by simp) SA.out) (first | (go_at_call 19; refine (KD.out [_] _ _ SA.out).mono ?_; rintro e wA ⟨rfl, sA⟩; have SA := Lib.hid sA; clear sA) | (go_at_call 20; refine (KR.out [_, _] _ _ SA.out).mono ?_; rintro e wA ⟨rfl, x', sA⟩; have SA := Lib.hid sA; clear sA) | fail)
              all_goals go_wp2_with fail
              all_goals go_meet
              all_goals exact ⟨by simp, _, _, SA.out⟩
            · as_aux_lemma =>
              obtain ⟨L, hL⟩ : ∃ L, dueL k tm = L := ⟨_, rfl⟩
              obtain ⟨k', hk'⟩ : ∃ k', dueD k tm = k' := ⟨_, rfl⟩
              have hL33 : L.length ≤ 33 := by rw [← hL]; exact dueL_len k tm
              have K := due_l tm hn0 hL hk' [_] [_] SD.out
              have KR : Hid (∀ (H1 H2 : List Hl) wz, St w (H1 ++ hQ gx x k :: H2) wz → Calls Try.prog 22 #[.pointer (some ⟨gx, 0, none⟩), .int .u64 tm] wz fun y w' => ∃ v : Sl, y = .returned (.slice v.a L.length v.c) ∧ St w (hR v L :: (H1 ++ hQ gx x k' :: H2)) w') := fun H1 H2 wz s => rdue_l tm hn0 hL hk' H1 H2 s
              clear SD x0 x1 x2 x3 x4 x5 hn0 hip hpt
              clear hL hk' mkS
              rcases hc with rfl | rfl | rfl
              all_goals (as_aux_lemma =>
                go_wp2_with fail
                refine K.mono ?_; rintro e w6 ⟨⟨ua, un, uc⟩, rfl, s⟩
                have K2 := KR.out [_, _, _] _ _ s
                clear s
                go_wp2_with fail
                refine K2.mono ?_; rintro e w7 ⟨⟨va, vn, vc⟩, rfl, s⟩
                clear K K2 KR
                simp only [List.cons_append, List.nil_append] at s ⊢
                have S1 : Hid (PdJ L w [hR ⟨va, vn, vc⟩ L, hS ⟨ua, un, uc⟩ L, hC db (cd ⟨dk, dwho, ip, pt, dnow, dnear⟩), hT g k', hQ gx x k'] (.bool true) (.int .i64 0) w7) := ⟨0, rfl, rfl, Nat.zero_le _, s⟩
                clear s
                go_wp2_with fail
                go_loopw [21, 24] (fun fv qv wr => PdJ L w [hR ⟨va, vn, vc⟩ L, hS ⟨ua, un, uc⟩ L, hC db (cd ⟨dk, dwho, ip, pt, dnow, dnear⟩), hT g k', hQ gx x k'] fv qv wr) (fun _ qv _ => 34 - (intOf qv).toNat)
                case atStart => simpa using S1.out
                case round =>
                  obtain ⟨z, rfl, rfl, hz, hs⟩ := hrel
                  clear S1
                  have SZ := Lib.hid hs
                  clear hs
                  have hz0 : (0 : Int) ≤ z := by omega
                  have z8 := IntWalk.i64_in ((z : Int) + 1) ⟨by omega, by omega⟩
                  by_cases hzl : z < L.length
                  · have hzl' : (z : Int) < L.length := by omega
                    have hz1 : Hid (z + 1 ≤ L.length) := hzl
                    obtain ⟨b1, o1, e1, l1, cc1⟩ := SZ.out.step (u := ⟨ua, un, uc⟩) (L := L) (by simp) (by omega)
                    obtain ⟨b2, o2, e2, l2, cc2⟩ := SZ.out.rstep (v := ⟨va, vn, vc⟩) (L := L) (by simp) (by omega)
                    simp only at e1 e2
                    subst e1 e2
                    have hy : L[z]? = some L[z] := List.getElem?_eq_getElem hzl
                    have c0 := cc1 z _ hy 0 _ rfl
                    have c1 := cc1 z _ hy 1 _ rfl
                    have d0 := cc2 z _ hy 0 _ rfl
                    have d1 := cc2 z _ hy 1 _ rfl
                    simp only [Nat.add_zero] at c0 d0
                    generalize L[z] = y at *
                    obtain ⟨y1, y2⟩ := y
                    simp only at c0 c1 d0 d1
                    clear cc1 cc2 hy hzl
                    go_upto_region 34 with fail
                    go_quiet (fail)
                    have S5 := Lib.hid (SZ.out.keep (below_drewN (Below.refl wr.heap.size wr) nq))
                    clear SZ c0 c1 d0 d1 l1 l2
                    generalize wr.drewN nq = w9 at *
                    go_wp2
                    go_roundw
                    case rel => exact ⟨z + 1, by simp, by go_num, hz1.out, S5.out⟩
                    case measure => simp [intOf]; omega
                  · have hzl' : ¬ ((z : Int) < L.length) := by omega
                    have hzl2 : decide ((z : Int) < L.length) = false := decide_eq_false hzl'
                    have SF : Hid (St w [hC db (cd ⟨dk, dwho, ip, pt, dnow, dnear⟩), hT g k', hQ gx x k'] wr) := SZ.out.sub (by repeat (first | exact List.Sublist.refl _ | apply List.Sublist.cons))
                    clear SZ
                    go_wp2_with fail
                    go_meet
                    exact ⟨rfl, _, _, SF.out⟩)
          case rest =>
            as_aux_lemma =>
            obtain ⟨rfl, k1, xx, hs⟩ := hcut
            clear SD x0 x1 x2 x3 x4 x5 hq0 hqw hq2 hn0 hip hpt mkS
            generalize wc = w6 at *
            have SD := Lib.hid hs
            clear hs
            obtain ⟨L, hL⟩ : ∃ L, allP k1.p = L := ⟨_, rfl⟩
            have hL33 : L.length ≤ 33 := by rw [← hL]; exact all_len _
            have K := all_l hL SD.out (g := g) (by simp)
            clear SD
            go_wp2_with fail
            refine K.mono ?_; rintro e w7 ⟨⟨ua, un, uc⟩, rfl, s⟩
            clear K
            obtain ⟨va, vn, vc⟩ := xx
            have SZ0 : Hid (St w [hP ⟨ua, un, uc⟩ L, hT g k1, hQ gx ⟨va, vn, vc⟩ k1] w7) := s.sub (List.Sublist.cons_cons _ (List.Sublist.cons _ (List.Sublist.refl _)))
            have Q0 : Qs gx ⟨va, vn, vc⟩ k1 w7 := SZ0.out.get (h := hQ gx ⟨va, vn, vc⟩ k1) (by simp)
            have hvn := Q0.n
            rw [hL] at hvn
            simp only at hvn
            subst hvn
            have g4 := Q0.box.cell 4 _ rfl
            have gl := Q0.box.lt
            have OFX : Hid (∀ q y, L[q]? = some y → isP k1 y.peer = true ∧ ofX k1 y.peer = y) := fun q y hy => all_of Q0.ok (by rw [hL]; exact hy)
            have S1 : Hid (PzJ L.length w [hP ⟨ua, un, uc⟩ L, hT g k1, hQ gx ⟨va, L.length, vc⟩ k1] (.int .i64 0) w7) := ⟨0, rfl, Nat.zero_le _, SZ0.out⟩
            replace hL := Lib.hid hL
            clear Q0 s SZ0
            go_wp2_with fail
            go_loopw [26] (fun iv wr => PzJ L.length w [hP ⟨ua, un, uc⟩ L, hT g k1, hQ gx ⟨va, L.length, vc⟩ k1] iv wr) (fun iv _ => 34 - (intOf iv).toNat)
            case atStart => exact S1.out
            case round =>
              obtain ⟨z, rfl, hz, hs⟩ := hrel
              clear S1 g4 gl
              have SZ := Lib.hid hs
              clear hs
              have hz0 : (0 : Int) ≤ z := by omega
              have z8 := IntWalk.i64_in ((z : Int) + 1) ⟨by omega, by omega⟩
              by_cases hzl : z < L.length
              · as_aux_lemma =>
                have hzl' : (z : Int) < L.length := by omega
                have hz1 : Hid (z + 1 ≤ L.length) := hzl
                have hy : L[z]? = some L[z] := List.getElem?_eq_getElem hzl
                have OF := OFX.out z _ hy
                have Q1 : Qs gx ⟨va, L.length, vc⟩ k1 wr := SZ.out.get (h := hQ gx ⟨va, L.length, vc⟩ k1) (by simp)
                obtain ⟨b2, e2, l2, cc2, _⟩ := Q1.cells (by rw [hL.out]; exact hy)
                obtain ⟨b1, o1, e1, l1, cc1⟩ := SZ.out.path (u := ⟨ua, un, uc⟩) (L := L) (by simp) (by omega)
                simp only at e1 e2
                subst e1 e2
                have g4 := Q1.box.cell 4 _ rfl
                have gl := Q1.box.lt
                have c0 := cc1 z _ hy 0 _ rfl
                have c1 := cc1 z _ hy 1 _ rfl
                have c2 := cc1 z _ hy 2 _ rfl
                have c3 := cc1 z _ hy 3 _ rfl
                have c4 := cc1 z _ hy 4 _ rfl
                have c5 := cc1 z _ hy 5 _ rfl
                have c6 := cc1 z _ hy 6 _ rfl
                have d0 := cc2 0 _ rfl
                have d1 := cc2 1 _ rfl
                have d2 := cc2 2 _ rfl
                have d3 := cc2 3 _ rfl
                have d4 := cc2 4 _ rfl
                have d5 := cc2 5 _ rfl
                have d6 := cc2 6 _ rfl
                simp only [Nat.add_zero] at c0 d0
                have hc1 : L.length ≤ vc := by
                  have hr := Q1.row
                  obtain ⟨-, C, hC, hcap, ht, hlc, hm⟩ := erow_open cp_enc hr
                  rw [hL.out] at hlc; exact hlc
                obtain ⟨y, hyy⟩ : ∃ y, L[z] = y := ⟨_, rfl⟩
                rw [hyy] at c0 c1 c2 c3 c4 c5 c6 d0 d1 d2 d3 d4 d5 d6 OF hy
                have HYY := Lib.hid hy
                clear hyy
                obtain ⟨x1, x2, x3, x4, x5, x6, x7⟩ := y
                simp only at c0 c1 c2 c3 c4 c5 c6 d0 d1 d2 d3 d4 d5 d6 OF
                clear cc1 cc2 hy hzl Q1
                go_upto_region 51 with fail
                have k0 := cell_regrown c0
                have k1' := cell_regrown c1
                have k2 := cell_regrown c2
                have k3 := cell_regrown c3
                have k4 := cell_regrown c4
                have k5 := cell_regrown c5
                have k6 := cell_regrown c6
                have j0 := cell_regrown d0
                have j1 := cell_regrown d1
                have j2 := cell_regrown d2
                have j3 := cell_regrown d3
                have j4 := cell_regrown d4
                have j5 := cell_regrown d5
                have j6 := cell_regrown d6
                have kx := cell_regrown g4
                have C1 := fun d os => Calls.regrown_of (same_any x1 x2 x3 x4 x5 x6 x7 (grow (redrawn wr d) os))
                have HSZ := Lib.hid (fun dq osq => SZ.out.keep (below_regrown wr dq osq))
                clear c0 c1 c2 c3 c4 c5 c6 d0 d1 d2 d3 d4 d5 d6 g4 SZ
                (refine wp_region_quiet_below (by kernel_rfl) (by kernel_rfl) ?_; (repeat (go_big_quiet_step (first | with_reducible exact C1 _ _))); refine wpQuiet_nil ?_; intro _ hw'; obtain ⟨⟨dq, osq⟩, hw''⟩ := hw'; subst hw'')
                have SY := Lib.hid (HSZ.out dq osq)
                clear k0 k1' k2 k3 k4 k5 k6 j0 j1 j2 j3 j4 j5 j6 kx C1 HSZ
                generalize grow (redrawn wr dq) osq = w8 at *
                obtain ⟨b1', o1', e1, l1', cc1⟩ := SY.out.path (u := ⟨some ⟨b1, o1, none⟩, un, uc⟩) (L := L) (by simp) (by have := hz1.out; omega)
                simp only [Option.some.injEq, Addr.mk.injEq, and_true] at e1
                obtain ⟨rfl, rfl⟩ := e1
                have hy : L[z]? = some ⟨x1, x2, x3, x4, x5, x6, x7⟩ := HYY.out
                have c0 := cc1 z _ hy 0 _ rfl
                simp only [Nat.add_zero] at c0
                have K := of_l (b := true) (x := ⟨x1, x2, x3, x4, x5, x6, x7⟩) x1 OF.1 OF.2 SY.out (g := g) (k := k1) (by simp)
                clear SY cc1
                go_wp2_with fail
                refine K.mono ?_; rintro e w9 ⟨rfl, s9⟩
                clear K c0
                simp only
                have s2 := s9.box [.int .i64 x1, .int .i64 x2, .int .i64 x3, .int .u32 x4, .int .u16 x5, .int .u64 x6, .int .u64 x7] 61
                clear s9
                go_upto_region 53 with fail
                generalize (w9.alloc (.cells #[.int .i64 x1, .int .i64 x2, .int .i64 x3, .int .u32 x4, .int .u16 x5, .int .u64 x6, .int .u64 x7] 61)) = w10 at *
                generalize w9.heap.size = bx at *
                have cx := s2.cs (b := bx) (vs := [.int .i64 x1, .int .i64 x2, .int .i64 x3, .int .u32 x4, .int .u16 x5, .int .u64 x6, .int .u64 x7]) (by simp)
                obtain ⟨b1'', o1'', e1, l1'', cc1⟩ := s2.path (u := ⟨some ⟨b1, o1, none⟩, un, uc⟩) (L := L) (by simp) (by have := hz1.out; omega)
                simp only [Option.some.injEq, Addr.mk.injEq, and_true] at e1
                obtain ⟨rfl, rfl⟩ := e1
                have c0 := cc1 z _ hy 0 _ rfl
                have c1 := cc1 z _ hy 1 _ rfl
                have c2 := cc1 z _ hy 2 _ rfl
                have c3 := cc1 z _ hy 3 _ rfl
                have c4 := cc1 z _ hy 4 _ rfl
                have c5 := cc1 z _ hy 5 _ rfl
                have c6 := cc1 z _ hy 6 _ rfl
                simp only [Nat.add_zero] at c0
                have d0 := cx.cell 0 _ rfl
                have d1 := cx.cell 1 _ rfl
                have d2 := cx.cell 2 _ rfl
                have d3 := cx.cell 3 _ rfl
                have d4 := cx.cell 4 _ rfl
                have d5 := cx.cell 5 _ rfl
                have d6 := cx.cell 6 _ rfl
                have dl := cx.lt
                have S4 := Lib.hid s2.drop
                clear s2 cc1 cx
                go_quiet (fail)
                have S5 := Lib.hid (S4.out.keep (below_drewN (Below.refl w10.heap.size w10) nq))
                clear S4 c0 c1 c2 c3 c4 c5 c6 d0 d1 d2 d3 d4 d5 d6
                generalize w10.drewN nq = w11 at *
                go_wp2
                go_roundw
                case rel => exact ⟨z + 1, by go_num, hz1.out, S5.out⟩
                case measure => simp [intOf]; omega
              · as_aux_lemma =>
                have hzl' : ¬ ((z : Int) < L.length) := by omega
                have SF : Hid (St w [hT g k1, hQ gx ⟨va, L.length, vc⟩ k1] wr) := SZ.out.drop
                clear SZ
                go_wp2_with fail
                go_roundw
                case rel => exact ⟨i + 1, now2, k1, _, by go_num, rfl, HNW.out, hi1.out, hi2.out, SF.out⟩
                case measure => simp [intOf]; omega
      · have h2d : decide ((i : Int) < 80) = false := decide_eq_false (by omega)
        have HB := Lib.hid HS.out.below
        clear HS
        go_wp2
        go_ret
        exact ⟨rfl, HB.out⟩
    · have h1d : decide ((i : Int) < n) = false := decide_eq_false (by omega)
      have HB := Lib.hid HS.out.below
      clear HS
      go_wp2
      go_ret
      exact ⟨rfl, HB.out⟩
theorem plays_run (t0 b0 k0 h0 : Int) (nr : Bool) (a : Option Addr) (len cap : Nat) (w : World) (w1 : (Lit.int .i64 t0).wf = true) (w2 : (Lit.int .u64 b0).wf = true) (w3 : (Lit.int .u64 k0).wf = true) (w4 : (Lit.int .u64 h0).wf = true) (wz : DeedRow w a len cap) :
    Calls Try.prog 3 #[.int .i64 t0, .int .u64 b0, .int .u64 k0, .int .u64 h0, .bool nr, .slice a len cap] w fun e w' => e = .returned (.bool true) ∧ Below w.heap.size w w' :=
  plays_walk t0 b0 k0 h0 nr a len cap w (bounds_u64 w2).1 (bounds_u64 w3).1 (bounds_u64 w4).1 wz
theorem pathPlays_own : ownKnob Try.prog.godebug = none := by kernel_rfl
theorem pathPlays_laid : laidOutB Try.prog = true := by kernel_rfl
set_option maxRecDepth 100000 in
theorem pathPlays_lifted (os : Os) (started : os.Started) (H : Type) (enc : TypeId × Value → H) :
    ReturnsInHanded {} Try.checked os 3 .any (Rows.pathPlaysSpec.pre6 enc Try.prog Try.f3 Rows.pathPlaysRow.domain false) (Rows.pathPlaysSpec.post enc Try.prog Try.f3 false true false false) := by
  refine returnsInHanded_of_change (C := Try.checked) pathPlays_own started (by kernel_rfl) Try.func3
    (ChangeSpec.witness6 (enc := enc) (C := Try.checked) false ⟨#[], #[.int .i64 0, .int .u64 0, .int .u64 0, .int .u64 0, .bool false, .slice none 0 0], []⟩ 8 (by kernel_rfl) (by kernel_rfl) (by kernel_rfl) (by kernel_rfl)) ?_
  intro W base args ds gs before hval0 hW hcnd _
  have hval : ∀ (j : Nat) t v, Try.f3.params[j]? = some t → args[j]? = some v → Value.okWide Try.prog W .any base t v := hval0
  have hW' := hW
  obtain ⟨p, q, hA0, hV, rfl, hfz, hnd⟩ := hW
  have hA : DataW.TrodAll enc Try.prog W 0 (fun _ => true) true Try.f3.params.toList args.toList ds p := hA0
  rw [Try.params3] at hA hval
  obtain ⟨v0, vs0, d0, ds0, p0, q0, hargs, rfl, rfl, h0, r0⟩ := trodAll_cons hA
  obtain ⟨v1, vs1, d1, ds1, p1, q1, rfl, rfl, rfl, h1, r1⟩ := trodAll_cons r0
  obtain ⟨v2, vs2, d2, ds2, p2, q2, rfl, rfl, rfl, h2, r2⟩ := trodAll_cons r1
  obtain ⟨v3, vs3, d3, ds3, p3, q3, rfl, rfl, rfl, h3, r3⟩ := trodAll_cons r2
  obtain ⟨v4, vs4, d4, ds4, p4, q4, rfl, rfl, rfl, h4, r4⟩ := trodAll_cons r3
  obtain ⟨v5, vs5, d5, ds5, p5, q5, rfl, rfl, rfl, h5, r5⟩ := trodAll_cons r4
  obtain ⟨rfl, rfl, rfl⟩ := trodAll_nil r5
  obtain rfl : args = #[v0, v1, v2, v3, v4, v5] := by cases args; simp_all
  obtain ⟨rfl, rfl⟩ := trodVars_none hV
  obtain ⟨a0, rfl, rfl, rfl, w0⟩ := open_int Try.underlying3 (hval 0 3 v0 rfl rfl) h0
  obtain ⟨a1, rfl, rfl, rfl, w1⟩ := open_int Try.underlying22 (hval 1 22 v1 rfl rfl) h1
  obtain ⟨a2, rfl, rfl, rfl, w2⟩ := open_int Try.underlying22 (hval 2 22 v2 rfl rfl) h2
  obtain ⟨a3, rfl, rfl, rfl, w3⟩ := open_int Try.underlying22 (hval 3 22 v3 rfl rfl) h3
  obtain ⟨a4, rfl, rfl, rfl⟩ := open_bool Try.underlying4 (hval 4 4 v4 rfl rfl) h4
  obtain ⟨a5, len5, cap5, rfl⟩ := okWide_slice Try.underlying23 (hval 5 23 v5 rfl rfl)
  have k5 := h5
  have lt5 : ∀ x ∈ p5, x.block < W.heap.size := by obtain ⟨m, hm⟩ := k5; exact DataW.trod_lt m _ _ _ hm
  have w5 : DeedRow W a5 len5 cap5 := by
    obtain ⟨fuel, hf⟩ := h5
    exact deeds_open hf
  clear hA0 hval0
  refine (plays_run a0 a1 a2 a3 a4 a5 len5 cap5 W w0 w1 w2 w3 w5).mono fun e W' ⟨he, bel⟩ => ?_
  subst he
  exact ⟨_, rfl, _, _, _, [], _, [], hW', trodAll_mk1 (shut_bool Try.underlying4 _), (trodAll_cons_mk (shut_int Try.underlying3 w0) (trodAll_cons_mk (shut_int Try.underlying22 w1) (trodAll_cons_mk (shut_int Try.underlying22 w2) (trodAll_cons_mk (shut_int Try.underlying22 w3) (trodAll_cons_mk (shut_bool Try.underlying4 _) (trodAll_cons_mk (Below.trod pathPlays_laid (by kernel_rfl) (of_decide_eq_true (by kernel_rfl)) k5 bel lt5) trodAll_mk0)))))), rfl, bel.frame _, fun h => by cases h⟩
theorem pathPlays_over : Rows.pathPlaysRow.holds Try.pinned (OpenSpec.ofChange Rows.pathPlaysSpec) :=
  OpenClaim.holds_of_wide 3 Try.f3 rfl rfl rfl rfl rfl rfl rfl ⟨rfl, rfl, rfl, rfl, rfl⟩ rfl rfl rfl rfl rfl (by kernel_rfl) Try.func3 (by kernel_rfl)
    (of_decide_eq_true (by kernel_rfl)) (by unfold Func.isWrapper; first | (rw [if_pos (by decide +kernel)]; kernel_rfl) | (rw [if_neg (by decide +kernel)]; exact ⟨rfl, rfl⟩))
    (fun os started H enc _ => pathPlays_lifted os started H enc)
theorem pathPlays_holds : Rows.PathPlaysSaid := pathPlays_over
#print axioms pathPlays_holds
end Go.Proofs.Ytpeoallhbbleaaa
