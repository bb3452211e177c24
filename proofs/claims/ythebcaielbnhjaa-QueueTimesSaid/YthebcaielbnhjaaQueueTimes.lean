/- QueueTimes: what is to be told so many times is told so many times, and no record twice in one lot: for every list of times, and however many at once. -/
import Derived.Test.YthebcaielbnhjaaQuTimes
import Derived.Deep.DeepCutAuto
import Derived.ChangeOld
import Derived.ChangeMaps5
import Derived.ShutString
import Derived.OpenShut
import Derived.SizedLaws
namespace Go.Proofs.Ythebcaielbnhjaa
open Go.Sort Go.RowKit Go.BigFrame Go.ChangeShapes Go.WideShapes Go.ChangeAt
open Go.ChangeMaps (open_string shut_string)
set_option linter.unusedVariables false
set_option linter.unusedSimpArgs false

theorem cnt_le (D : List Rec) (d : Int) : 0 ≤ cntR D d ∧ cntR D d ≤ D.length := by
  unfold cntR
  have := List.length_filter_le (fun r : Rec => decide (r.id = d)) D
  omega
/-- after i lots -/
structure TmS (S0 : List Im) (i : Nat) (S : List Im) (tv : Nat → Int) : Prop where
  ok : OkS 12 S
  ids : ∀ x ∈ S, 1 ≤ x.r.id ∧ x.r.id ≤ 12
  tot : ∀ d : Nat, tv d + leftS S d = leftS S0 d
  sum : sumI S ≤ 108
  late : 60 ≤ i → sumI S ≤ 168 - i
  lo : ∀ d, 0 ≤ tv d ∧ tv d ≤ 13 * i
theorem tm_first {Z : List Int} {n : Nat} {S : List Im} (h : AdS Z n S) (hn : n ≤ 12) : TmS S 0 S (fun _ => 0) :=
  ⟨h.ok, fun x hx => by have := h.ids x hx; omega, fun d => by omega, by have := h.sum; omega, fun h => by omega, fun d => by omega⟩
theorem told_lenk (S : List Im) (k : Int) : (toldS S k).length = cutS S k := by
  unfold toldS; rw [List.length_map, List.length_take]; have := cut_le S k; omega
theorem told_k (S : List Im) {k : Int} (h : 0 ≤ k) : ((toldS S k).length : Int) ≤ k := by
  rw [told_lenk]; unfold cutS; omega
theorem told_12 {S0 S : List Im} {i : Nat} {tv : Nat → Int} (h : TmS S0 i S tv) (k : Int) : (toldS S k).length ≤ 12 := by
  rw [told_lenk]; have := cut_le S k; have := h.ok.len; omega
theorem tm_i {S0 S : List Im} {i : Nat} {tv : Nat → Int} (h : TmS S0 i S tv) (hl : 0 < S.length) : i ≤ 200 := by
  have h1 := sum_len h.ok
  by_cases hi : 60 ≤ i
  · have := h.late hi; omega
  · omega
theorem tm_step {S0 S : List Im} {i : Nat} {tv : Nat → Int} (h : TmS S0 i S tv) (hl : 0 < S.length) {k : Int} (k0 : 0 ≤ k) (hk : 60 ≤ i → k = 3) : TmS S0 (i + 1) (someS S k) (tvJ tv (toldS S k) (toldS S k).length) := by
  have hs := some_sum h.ok k
  refine ⟨some_ok h.ok k, fun y hy => ?_, fun d => ?_, by rw [hs]; have := h.sum; omega, fun hi => ?_, fun d => ?_⟩
  · obtain ⟨x, hx, e⟩ := some_ids hy
    rw [← e]; exact h.ids x hx
  · rw [some_left h.ok]
    unfold tvJ
    rw [List.take_length]
    have := h.tot d
    omega
  · rw [hs]
    by_cases h2 : 60 ≤ i
    · have h3 := h.late h2
      have h4 := hk h2
      subst h4
      have : 1 ≤ cutS S 3 := by unfold cutS; omega
      omega
    · have := h.sum; omega
  · unfold tvJ
    rw [List.take_length]
    have h1 := h.lo d
    have h2 := cnt_le (toldS S k) d
    have h3 := told_12 h k
    omega
theorem tvj_lo {S0 S : List Im} {i : Nat} {tv : Nat → Int} (h : TmS S0 i S tv) (hi : i ≤ 200) (D : List Rec) (hD : D.length ≤ 12) (j p : Nat) : 0 ≤ tvJ tv D j p ∧ tvJ tv D j p ≤ 3000 := by
  have h1 := h.lo p
  have h2 := cnt_le (D.take j) p
  rw [List.length_take] at h2
  unfold tvJ
  omega
def AJ (Z : List Int) (n : Nat) (w0 : World) (g : Nat) (iv : Value) (wr : World) : Prop := ∃ (i : Nat) (v : Sl) (S : List Im), iv = .int .i64 (i : Nat) ∧ i ≤ n ∧ AdS Z i S ∧ St w0 [hQ true g 12 v S] wr
def TJ (S0 : List Im) (w0 : World) (g tb : Nat) (iv : Value) (wr : World) : Prop := ∃ (i : Nat) (v : Sl) (S : List Im) (tv : Nat → Int), iv = .int .i64 (i : Nat) ∧ i ≤ 300 ∧ TmS S0 i S tv ∧ St w0 [hC tb (tC tv), hQ true g 12 v S] wr
def MJ (D : List Rec) (S' : List Im) (tv : Nat → Int) (w0 : World) (g mb tb : Nat) (td v : Sl) (jv : Value) (wr : World) : Prop := ∃ j : Nat, jv = .int .i64 (j : Nat) ∧ j ≤ D.length ∧ St w0 [hC mb (mC (mvJ D j)), hE rcs 5 37 td D, hC tb (tC (tvJ tv D j)), hQ true g 12 v S'] wr
def FJ (n : Nat) (w0 : World) (H : List Hl) (iv : Value) (wr : World) : Prop := ∃ i : Nat, iv = .int .i64 (i : Nat) ∧ i ≤ n ∧ St w0 H wr
set_option maxHeartbeats 6400000 in
set_option maxRecDepth 20000 in
theorem times_walk (a : Option Addr) (len cap n : Nat) (Z : List Int) (a2 : Option Addr) (len2 cap2 : Nat) (Y : List Int) (w : World) (hr : Rd .u8 w w.heap.size a Z) (hZ : Z.length = len) (hlen : len ≤ 9223372036854775807) (hz : ∀ z ∈ Z, 0 ≤ z ∧ z ≤ 255)
    (hry : Rd .u8 w w.heap.size a2 Y) (hY : Y.length = len2) (hlen2 : len2 ≤ 9223372036854775807) (hy : ∀ z ∈ Y, 0 ≤ z ∧ z ≤ 255) (hn : n = min len 12) :
    Calls Try.prog 4 #[.slice a len cap, .slice a2 len2 cap2] w fun e w' => e = .returned (.bool true) ∧ Below w.heap.size w w' := by
  have E := ex_any w
  have HR := Lib.hid hr
  have HZ := Lib.hid hZ
  have HZZ := Lib.hid hz
  have HRY := Lib.hid hry
  have HY := Lib.hid hY
  have HYY := Lib.hid hy
  have hl2 : (len : Int) ≤ 9223372036854775807 := by omega
  have hl3 : (len2 : Int) ≤ 9223372036854775807 := by omega
  have hmn : min (len : Int) 12 = (n : Nat) := by omega
  have hnl : n ≤ len := by omega
  have hn12 : n ≤ 12 := by omega
  clear hr hZ hz hry hY hy hn
  go_enter Try.func4, Try.ntmps4
  go_wp2_with fail
  refine E.mono ?_; rintro e w1 ⟨rfl, b1⟩
  have K := newq_ok 12 (by decide) (by decide) (St.start w w1 b1)
  clear E b1
  go_wp2_with fail
  refine K.mono ?_; rintro e w2 ⟨g, rfl, s2⟩
  have S0 : Hid (AJ Z n w g (.int .i64 0) w2) := ⟨0, _, _, rfl, Nat.zero_le _, ad_nil Z, s2⟩
  clear K s2
  go_wp2_with fail
  go_loopw [9] (fun iv wr => AJ Z n w g iv wr) (fun iv _ => 100 - (intOf iv).toNat)
  case atStart => exact S0.out
  case round =>
    obtain ⟨i, v, S, rfl, hi, hO, hs⟩ := hrel
    clear S0
    have hI0 : (0 : Int) ≤ i := by omega
    have HS := Lib.hid hs
    have HO := Lib.hid hO
    clear hs hO
    by_cases hlt : i < n
    · have hlt' : (i : Int) < n := by omega
      have hltl : (i : Int) < len := by omega
      obtain ⟨b, off, rfl, hB, hc⟩ := (HR.out.below (HS.out.below)) (by rw [HZ.out]; omega)
      have c0 := hc i (by rw [HZ.out]; omega)
      have hzz := HZZ.out (Z.getD i 0) (by
        rw [List.getD_eq_getElem?_getD, List.getElem?_eq_getElem (by rw [HZ.out]; omega)]
        exact List.getElem_mem _)
      obtain ⟨q, hq⟩ : ∃ q, Z.getD i 0 % 9 = q := ⟨_, rfl⟩
      have hst := Lib.hid (ad_step HO.out (by omega) (n := 1 + q) (by rw [hq]))
      generalize Z.getD i 0 = z at *
      have hq2 : z.tmod 9 = q := by rw [tmod_pos _ _ hzz.1]; exact hq
      have q0 : 0 ≤ q ∧ q < 9 := by omega
      have cq := IntWalk.u8_in q ⟨by omega, by omega⟩
      have cq2 := IntWalk.i64_in q ⟨by omega, by omega⟩
      have cq3 := IntWalk.i64_in (1 + q) ⟨by omega, by omega⟩
      have ci1 := IntWalk.i64_in ((i : Int) + 1) ⟨by omega, by omega⟩
      have K := add_l (nR i) (nR_ok i) (1 + q) [] [] HS.out
      rw [hst.out.1] at K
      have hi1 : i + 1 ≤ n := hlt
      clear hc HS HO hB hzz hq
      go_wp2_with fail
      refine K.mono ?_; rintro e w3 ⟨rfl, v3, s3⟩
      have S3 := Lib.hid s3
      clear K s3 c0
      go_wp2
      go_roundw
      case rel => exact ⟨i + 1, v3, _, by go_num, hi1, hst.out.2, S3.out⟩
      case measure => simp [intOf]; omega
    · obtain rfl : i = n := by omega
      have hge : ¬ (i : Int) < i := by omega
      have hmk := run_make_row' (P := Try.prog) 66 3 (.int .i64 0) 8 Try.underlying66 info_int rfl .i64 .i64 13 (by omega) (by omega)
      simp only [Int.cast_ofNat_Int] at hmk
      generalize wr = w4 at *
      have S5 : Hid (TJ S w g w4.heap.size (.int .i64 0) (w4.alloc (.cells (madeCells #[.int .i64 0] 13) 3))) :=
        ⟨0, v, S, _, rfl, by omega, tm_first HO.out hn12, by have := HS.out.made (.int .i64 0) 13 3; rw [← tC_zero] at this; exact this⟩
      go_wp2_with fail
      generalize (w4.alloc (.cells (madeCells #[.int .i64 0] 13) 3)) = w5 at *
      generalize w4.heap.size = tb at *
      clear HS hmk
      go_loopw [11] (fun iv wr => TJ S w g tb iv wr) (fun iv _ => 400 - (intOf iv).toNat)
      case atStart => exact S5.out
      case round =>
        obtain ⟨k, v2, T, tv, rfl, hk3, hT, hs⟩ := hrel
        clear S5
        have hK0 : (0 : Int) ≤ k := by omega
        have hK3 : (k : Int) ≤ 300 := by omega
        obtain ⟨L, hL⟩ : ∃ L, T.length = L := ⟨_, rfl⟩
        have K := len_l (g := g) (room := 12) (v := v2) (S := T) hs (by simp)
        rw [hL] at K
        replace hL := Lib.hid hL
        have HS := Lib.hid hs
        have HT := Lib.hid hT
        clear hs hT
        by_cases hLp : 0 < L
        · have hLp' : (0 : Int) < L := by omega
          have hLd : decide ((0 : Int) < L) = true := decide_eq_true hLp'
          have hLn : decide (0 < L) = true := decide_eq_true hLp
          have hk200 : k ≤ 200 := tm_i HT.out (by rw [hL.out]; exact hLp)
          obtain ⟨bb, hbb⟩ : ∃ bb, (decide (k < len2) && decide (k < 60)) = bb := ⟨_, rfl⟩
          replace hbb := Lib.hid hbb
          go_wp2_with fail
          refine K.mono ?_; rintro e wl ⟨rfl, rfl⟩
          clear K
          go_upto_region 18 with fail
          go_cut [66] (fun c wx => c = .bool bb ∧ wl = wx)
          case first =>
            by_cases h1 : k < len2
            · have h1' : (k : Int) < len2 := by omega
              have h1d : decide ((k : Int) < len2) = true := decide_eq_true h1'
              by_cases h2 : k < 60
              · have h2' : (k : Int) < 60 := by omega
                have h2d : decide ((k : Int) < 60) = true := decide_eq_true h2'
                obtain rfl : bb = true := by rw [← hbb.out]; simp [h1, h2]
                clear hbb
                go_wp2_with fail
                go_meet
                exact ⟨rfl, rfl⟩
              · have h2' : ¬ (k : Int) < 60 := by omega
                have h2d : decide ((k : Int) < 60) = false := decide_eq_false h2'
                obtain rfl : bb = false := by rw [← hbb.out]; simp [h2]
                clear hbb
                go_wp2_with fail
                go_meet
                exact ⟨rfl, rfl⟩
            · have h1' : ¬ (k : Int) < len2 := by omega
              have h1d : decide ((k : Int) < len2) = false := decide_eq_false h1'
              obtain rfl : bb = false := by rw [← hbb.out]; simp [h1]
              clear hbb
              go_wp2_with fail
              go_meet
              exact ⟨rfl, rfl⟩
          case rest =>
            obtain ⟨rfl, rfl⟩ := hcut
            go_upto_if 66 with fail
            go_cut [12] (fun c wx => ∃ kk : Int, c = .int .i64 kk ∧ 0 ≤ kk ∧ kk ≤ 13 ∧ (60 ≤ k → kk = 3) ∧ wl = wx)
            case first =>
              cases bb
              · clear hbb
                go_wp2_with fail
                go_meet
                exact ⟨3, rfl, by omega, by omega, fun _ => rfl, rfl⟩
              · have h12 := hbb.out
                simp only [Bool.and_eq_true, decide_eq_true_eq] at h12
                obtain ⟨h1, h2⟩ := h12
                have h1' : (k : Int) < len2 := by omega
                obtain ⟨b, off, rfl, hB, hc⟩ := (HRY.out.below (HS.out.below)) (by rw [HY.out]; omega)
                have c0 := hc k (by rw [HY.out]; omega)
                have hzz := HYY.out (Y.getD k 0) (by
                  rw [List.getD_eq_getElem?_getD, List.getElem?_eq_getElem (by rw [HY.out]; omega)]
                  exact List.getElem_mem _)
                generalize Y.getD k 0 = z at *
                obtain ⟨q, hq⟩ : ∃ q, z % 14 = q := ⟨_, rfl⟩
                have hq2 : z.tmod 14 = q := by rw [tmod_pos _ _ hzz.1]; exact hq
                have q0 : 0 ≤ q ∧ q < 14 := by omega
                have cq := IntWalk.u8_in q ⟨by omega, by omega⟩
                have cq2 := IntWalk.i64_in q ⟨by omega, by omega⟩
                clear hc hB hzz hq hbb
                go_wp2_with fail
                go_meet
                exact ⟨q, rfl, by omega, by omega, fun h => by omega, rfl⟩
            case rest =>
              obtain ⟨kk, rfl, kk0, kk1, kk3, rfl⟩ := hcut
              clear hbb
              have KK3 := Lib.hid kk3
              have K := some_l kk [_] [] HS.out
              have HT' := Lib.hid (tm_step HT.out (by rw [hL.out]; exact hLp) kk0 kk3)
              have HM := Lib.hid (fun (r : Rec) (hr : r ∈ toldS T kk) => told_mem hr)
              have HN := Lib.hid (told_nodup HT.out.ok kk)
              have hD12 := told_12 HT.out kk
              have hDk := told_k T kk0
              generalize toldS T kk = D at *
              generalize someS T kk = T' at *
              have hDk' : ¬ kk < (D.length : Int) := by omega
              have hDkd : decide (kk < (D.length : Int)) = false := decide_eq_false hDk'
              clear kk3 HS
              go_wp2_with fail
              refine K.mono ?_; rintro e w6 ⟨td, v6, rfl, s6⟩
              have s6 : St w [hE rcs 5 37 td D, hC tb (tC tv), hQ true g 12 v6 T'] w6 := s6
              have S6 : Hid (MJ D T' tv w g w6.heap.size tb td v6 (.int .i64 0) (w6.alloc (.cells (madeCells #[.bool false] 13) 4))) :=
                ⟨0, rfl, Nat.zero_le _, by have := s6.made (.bool false) 13 4; rw [mv_zero, tv_zero]; exact this⟩
              have hmk := run_make_row' (P := Try.prog) 67 4 (.bool false) 1 Try.underlying67 info_bool rfl .i64 .i64 13 (by omega) (by omega)
              simp only [Int.cast_ofNat_Int] at hmk
              clear K s6
              go_wp2_with fail
              generalize (w6.alloc (.cells (madeCells #[.bool false] 13) 4)) = w7 at *
              generalize w6.heap.size = mb at *
              clear hmk
              go_loopw [15] (fun jv wr => MJ D T' tv w g mb tb td v6 jv wr) (fun jv _ => 100 - (intOf jv).toNat)
              case atStart => exact S6.out
              case round =>
                obtain ⟨j, rfl, hj, hs⟩ := hrel
                clear S6
                have hJ0 : (0 : Int) ≤ j := by omega
                by_cases hjl : j < D.length
                · have hjl' : (j : Int) < D.length := by omega
                  obtain ⟨x, hx⟩ : ∃ x, D[j]? = some x := ⟨_, List.getElem?_eq_getElem hjl⟩
                  obtain ⟨y, hy, hyx⟩ := HM.out x (List.mem_of_getElem? hx)
                  have hid := HT.out.ids y hy
                  rw [hyx] at hid
                  obtain ⟨p, hp⟩ : ∃ p : Nat, x.id = (p : Int) := ⟨x.id.toNat, by omega⟩
                  have hp1 : 1 ≤ p := by omega
                  have hp13 : p < 13 := by omega
                  obtain ⟨bu, ou, hbo, hbl, hcc⟩ := (hs.rd (T := 37) (u := td) (L := D) rcs_enc (by simp)) (by omega)
                  have c0 := hcc j _ hx 0 _ rfl
                  simp only [Nat.add_zero] at c0
                  have m0 := (hs.cs (b := mb) (vs := mC (mvJ D j)) (by simp)).cell p _ (mC_at _ hp13)
                  have mf := (hs.cs (b := mb) (vs := mC (mvJ D j)) (by simp)).free p _ (mC_at _ hp13)
                  rw [mv_new HN.out hx hp] at m0
                  have S8 : Hid (St w [hC mb (mC (mvJ D (j + 1))), hE rcs 5 37 td D, hC tb (tC (tvJ tv D j)), hQ true g 12 v6 T'] (wr.setCell ⟨mb, p, none⟩ (.bool true))) := by
                    have := St.setc [] [_, _, _] hs p (.bool true) (by rw [mC_len]; exact hp13)
                    rw [mv_step hx hp] at this
                    exact this
                  rw [hp] at c0
                  have hpi0 : (0 : Int) ≤ (p : Nat) := by omega
                  have hpi13 : (p : Int) < 13 := by omega
                  have hpA : ¬ (p : Int) < 1 := by omega
                  have hpB : ¬ (12 : Int) < p := by omega
                  have hpAd : decide ((p : Int) < 1) = false := decide_eq_false hpA
                  have hpBd : decide ((12 : Int) < p) = false := decide_eq_false hpB
                  have TB := Lib.hid (tvj_lo HT.out hk200 D hD12 j p)
                  have HV := Lib.hid (tv_step (tv := tv) hx hp)
                  have cpi := IntWalk.i64_in ((p : Nat) : Int) ⟨by omega, by omega⟩
                  have HU : Hid (td.a = some ⟨bu, ou, none⟩) := hbo
                  obtain ⟨ta, tn, tc⟩ := td
                  simp only at hbo
                  subst hbo
                  clear hcc hx hy hyx hid hp hs
                  go_upto_region 31 with fail
                  generalize (wr.setCell ⟨mb, p, none⟩ (.bool true)) = w8 at *
                  have t0 := (S8.out.cs (b := tb) (vs := tC (tvJ tv D j)) (by simp)).cell p _ (tC_at _ hp13)
                  have tf := (S8.out.cs (b := tb) (vs := tC (tvJ tv D j)) (by simp)).free p _ (tC_at _ hp13)
                  have S9 := Lib.hid (St.setc [_, _] [_] S8.out p (.int .i64 (tvJ tv D j p + 1)) (by rw [tC_len]; exact hp13))
                  rw [HV.out] at S9
                  have hj1 : j + 1 ≤ D.length := hjl
                  have tb1 := TB.out
                  generalize tvJ tv D j p = tt at *
                  have ct := IntWalk.i64_in (tt + 1) ⟨by omega, by omega⟩
                  clear c0 m0 mf S8 HU
                  go_wp2
                  go_roundw
                  case rel => exact ⟨j + 1, by go_num, hj1, S9.out⟩
                  case measure => simp [intOf]; omega
                · obtain rfl : j = D.length := by omega
                  have hge2 : ¬ (D.length : Int) < D.length := by omega
                  have hk2' : ¬ (200 : Int) < k := by omega
                  have hk2d : decide ((200 : Int) < k) = false := decide_eq_false hk2'
                  have S9 : Hid (St w [hC tb (tC (tvJ tv D D.length)), hQ true g 12 v6 T'] wr) := hs.sub (by simp)
                  have ck1 := IntWalk.i64_in ((k : Int) + 1) ⟨by omega, by omega⟩
                  clear hs
                  go_wp2
                  go_roundw
                  case rel => exact ⟨k + 1, v6, T', _, by go_num, by omega, HT'.out, S9.out⟩
                  case measure => simp [intOf]; omega
        · obtain rfl : L = 0 := by omega
          have hLd : decide ((0 : Int) < ((0 : Nat) : Int)) = false := rfl
          obtain rfl : T = [] := List.eq_nil_of_length_eq_zero hL.out
          have HF : Hid (∀ d : Nat, d < i → tv (d + 1) = 1 + Z.getD d 0 % 9) := fun d hd => by
            have h1 := HT.out.tot (d + 1)
            have h2 := HO.out.lefts d hd
            rw [left_nil] at h1
            rw [← h2, show ((d : Int) + 1) = ((d + 1 : Nat) : Int) by omega]
            omega
          have HLO := Lib.hid HT.out.lo
          clear HT HO hL
          go_wp2_with fail
          refine K.mono ?_; rintro e wl ⟨rfl, rfl⟩
          have SJ : Hid (FJ i w [hC tb (tC tv), hQ true g 12 v2 []] (.int .i64 0) wl) := ⟨0, rfl, Nat.zero_le _, HS.out⟩
          clear K HS
          go_wp2_with fail
          go_loopw [17] (fun iv wr => FJ i w [hC tb (tC tv), hQ true g 12 v2 []] iv wr) (fun iv _ => 100 - (intOf iv).toNat)
          case atStart => exact SJ.out
          case round =>
            obtain ⟨j, rfl, hj, hs⟩ := hrel
            clear SJ
            have hJ0 : (0 : Int) ≤ j := by omega
            have HS := Lib.hid hs
            by_cases hjn : j < i
            · have hjn' : (j : Int) < i := by omega
              have hjl' : (j : Int) < len := by omega
              go_upto_region 37 with fail
              go_cut [132] (fun c wx => c = .bool false ∧ Below wr.heap.size wr wx)
              case first =>
                obtain ⟨b, off, rfl, hB, hc⟩ := (HR.out.below (HS.out.below)) (by rw [HZ.out]; omega)
                have c0 := hc j (by rw [HZ.out]; omega)
                have hzz := HZZ.out (Z.getD j 0) (by
                  rw [List.getD_eq_getElem?_getD, List.getElem?_eq_getElem (by rw [HZ.out]; omega)]
                  exact List.getElem_mem _)
                have hf := HF.out j hjn
                obtain ⟨j', hj'⟩ : ∃ j', j + 1 = j' := ⟨_, rfl⟩
                rw [hj'] at hf
                have t0 := (hs.cs (b := tb) (vs := tC tv) (by simp)).cell j' _ (tC_at _ (by omega))
                rw [hf] at t0
                generalize Z.getD j 0 = z at *
                obtain ⟨q, hq⟩ : ∃ q, z % 9 = q := ⟨_, rfl⟩
                have hq2 : z.tmod 9 = q := by rw [tmod_pos _ _ hzz.1]; exact hq
                rw [hq] at t0
                have q0 : 0 ≤ q ∧ q < 9 := by omega
                have cq := IntWalk.u8_in q ⟨by omega, by omega⟩
                have cq2 := IntWalk.i64_in q ⟨by omega, by omega⟩
                have cq3 := IntWalk.i64_in (1 + q) ⟨by omega, by omega⟩
                have hjj : (j : Int) + 1 = (j' : Nat) := by omega
                have hj'0 : (0 : Int) ≤ (j' : Nat) := by omega
                have hj'l : (j' : Int) < 13 := by omega
                have cj' := IntWalk.i64_in ((j' : Nat) : Int) ⟨by omega, by omega⟩
                clear hc HS hB hzz hq hs hf hj' HF HLO
                go_quiet (fail)
                go_wp2_with fail
                go_meet
                exact ⟨rfl, below_drewN (Below.refl _ _) _⟩
              case rest =>
                obtain ⟨rfl, hb⟩ := hcut
                generalize wc = w7 at *
                have HS2 := Lib.hid (hs.keep hb)
                have hj1 : j + 1 ≤ i := hjn
                clear hb hs HS
                go_wp2
                go_roundw
                case rel => exact ⟨j + 1, by go_num, hj1, HS2.out⟩
                case measure => simp [intOf]; omega
            · obtain rfl : j = i := by omega
              have HB := Lib.hid hs.below
              clear hs HS
              go_wp2
              go_ret
              exact ⟨rfl, HB.out⟩
theorem times_run (a : Option Addr) (len cap : Nat) (zs : List Int) (a2 : Option Addr) (len2 cap2 : Nat) (ys : List Int) (w : World) (wz : ArgRow .u8 w a len cap zs) (wy : ArgRow .u8 w a2 len2 cap2 ys) :
    Calls Try.prog 4 #[.slice a len cap, .slice a2 len2 cap2] w fun e w' => e = .returned (.bool true) ∧ Below w.heap.size w w' := by
  obtain ⟨h1, h2, h3, h4, h5, h6⟩ := wz.rd
  obtain ⟨g1, g2, g3, g4, g5, g6⟩ := wy.rd
  exact times_walk a len cap _ (zs.take len) a2 len2 cap2 (ys.take len2) w h1 h2 (by omega) (fun z hz => bounds_u8 (h6 z hz)) g1 g2 (by omega) (fun z hz => bounds_u8 (g6 z hz)) rfl
theorem queueTimes_own : ownKnob Try.prog.godebug = none := by kernel_rfl
theorem queueTimes_laid : laidOutB Try.prog = true := by kernel_rfl
set_option maxRecDepth 100000 in
theorem queueTimes_lifted (os : Os) (started : os.Started) (H : Type) (enc : TypeId × Value → H) :
    ReturnsInHanded {} Try.checked os 4 .any (Rows.queueTimesSpec.pre6 enc Try.prog Try.f4 Rows.queueTimesRow.domain false) (Rows.queueTimesSpec.post enc Try.prog Try.f4 false true false false) := by
  refine returnsInHanded_of_change (C := Try.checked) queueTimes_own started (by kernel_rfl) Try.func4
    (ChangeSpec.witness6 (enc := enc) (C := Try.checked) false ⟨#[], #[.slice none 0 0, .slice none 0 0], []⟩ 8 (by kernel_rfl) (by kernel_rfl) (by kernel_rfl) (by kernel_rfl)) ?_
  intro W base args ds gs before hval0 hW hcnd _
  have hval : ∀ (j : Nat) t v, Try.f4.params[j]? = some t → args[j]? = some v → Value.okWide Try.prog W .any base t v := hval0
  have hW' := hW
  obtain ⟨p, q, hA0, hV, rfl, hfz, hnd⟩ := hW
  have hA : DataW.TrodAll enc Try.prog W 0 (fun _ => true) true Try.f4.params.toList args.toList ds p := hA0
  rw [Try.params4] at hA hval
  obtain ⟨v0, vs0, d0, ds0, p0, q0, hargs, rfl, rfl, h0, r0⟩ := trodAll_cons hA
  obtain ⟨v1, vs1, d1, ds1, p1, q1, rfl, rfl, rfl, h1, r1⟩ := trodAll_cons r0
  obtain ⟨rfl, rfl, rfl⟩ := trodAll_nil r1
  obtain rfl : args = #[v0, v1] := by cases args; simp_all
  obtain ⟨rfl, rfl⟩ := trodVars_none hV
  obtain ⟨a0, len0, cap0, rfl⟩ := okWide_slice Try.underlying65 (hval 0 65 v0 rfl rfl)
  have k0 := h0
  have lt0 : ∀ x ∈ p0, x.block < W.heap.size := by obtain ⟨m, hm⟩ := k0; exact DataW.trod_lt m _ _ _ hm
  obtain ⟨z0, w0⟩ : ∃ zs, ArgRow .u8 W a0 len0 cap0 zs := by
    obtain ⟨fuel, hf⟩ := h0
    rcases open_ints Try.underlying65 Try.underlying5 (by kernel_rfl) hf with ⟨hcs, _⟩ | ⟨x, l, c, zs, hcs, _, hl, hm, hz, _, hcell, hwz⟩
    · simp [Value.cells] at hcs
      obtain ⟨rfl, rfl, rfl⟩ := hcs
      exact ⟨[], .inl ⟨rfl, rfl, rfl, rfl⟩⟩
    · simp [Value.cells] at hcs
      obtain ⟨rfl, rfl, rfl⟩ := hcs
      exact ⟨zs, .inr ⟨_, rfl, hl, hm, by simpa using hz, hcell, hwz⟩⟩
  obtain ⟨a1, len1, cap1, rfl⟩ := okWide_slice Try.underlying65 (hval 1 65 v1 rfl rfl)
  have k1 := h1
  have lt1 : ∀ x ∈ p1, x.block < W.heap.size := by obtain ⟨m, hm⟩ := k1; exact DataW.trod_lt m _ _ _ hm
  obtain ⟨z1, w1⟩ : ∃ zs, ArgRow .u8 W a1 len1 cap1 zs := by
    obtain ⟨fuel, hf⟩ := h1
    rcases open_ints Try.underlying65 Try.underlying5 (by kernel_rfl) hf with ⟨hcs, _⟩ | ⟨x, l, c, zs, hcs, _, hl, hm, hz, _, hcell, hwz⟩
    · simp [Value.cells] at hcs
      obtain ⟨rfl, rfl, rfl⟩ := hcs
      exact ⟨[], .inl ⟨rfl, rfl, rfl, rfl⟩⟩
    · simp [Value.cells] at hcs
      obtain ⟨rfl, rfl, rfl⟩ := hcs
      exact ⟨zs, .inr ⟨_, rfl, hl, hm, by simpa using hz, hcell, hwz⟩⟩
  clear hA0 hval0
  refine (times_run a0 len0 cap0 z0 a1 len1 cap1 z1 W w0 w1).mono fun e W' ⟨he, bel⟩ => ?_
  subst he
  exact ⟨_, rfl, _, _, _, [], _, [], hW', trodAll_mk1 (shut_bool Try.underlying4 _), (trodAll_cons_mk (Below.trod queueTimes_laid (by kernel_rfl) (of_decide_eq_true (by kernel_rfl)) k0 bel lt0) (trodAll_cons_mk (Below.trod queueTimes_laid (by kernel_rfl) (of_decide_eq_true (by kernel_rfl)) k1 bel lt1) trodAll_mk0)), rfl, bel.frame _, fun h => by cases h⟩
theorem queueTimes_over : Rows.queueTimesRow.holds Try.pinned (OpenSpec.ofChange Rows.queueTimesSpec) :=
  OpenClaim.holds_of_wide 4 Try.f4 rfl rfl rfl rfl rfl rfl rfl ⟨rfl, rfl, rfl, rfl, rfl⟩ rfl rfl rfl rfl rfl (by kernel_rfl) Try.func4 (by kernel_rfl)
    (of_decide_eq_true (by kernel_rfl)) (by unfold Func.isWrapper; first | (rw [if_pos (by decide +kernel)]; kernel_rfl) | (rw [if_neg (by decide +kernel)]; exact ⟨rfl, rfl⟩))
    (fun os started H enc _ => queueTimes_lifted os started H enc)
theorem queueTimes_holds : Rows.QueueTimesSaid := queueTimes_over
#print axioms queueTimes_holds
end Go.Proofs.Ythebcaielbnhjaa
