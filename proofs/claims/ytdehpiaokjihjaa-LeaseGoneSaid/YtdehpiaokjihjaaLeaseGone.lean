/- LeaseGone: whose time is over is a client no more, who is released, too: however long it holds, whoever of eight is released, at whatever time. -/
import Derived.Test.YtdehpiaokjihjaaGoneMath
namespace Go.Proofs.Ytdehpiaokjihjaa
open Go.Sort Go.RowKit Go.BigFrame Go.ChangeShapes Go.WideShapes Go.Deep
set_option linter.unusedVariables false
set_option linter.unusedSimpArgs false

def G1J (h : Int) (w : World) (g : Nat) (iv : Value) (wr : World) : Prop := ∃ i : Nat, iv = .int .i64 ((i + 1 : Nat) : Int) ∧ i ≤ 8 ∧ (allV (gTb h i).cl).length ≤ i ∧ St w [hT g (gTb h i)] wr
def G2J (x h : Int) (w : World) (g : Nat) (iv : Value) (wr : World) : Prop := ∃ i : Nat, iv = .int .i64 ((i + 1 : Nat) : Int) ∧ i ≤ 8 ∧ St w [hT g (rTb x h i)] wr
def G3J (k : Tb) (w : World) (g : Nat) (iv : Value) (wr : World) : Prop := ∃ i : Nat, iv = .int .i64 ((i + 1 : Nat) : Int) ∧ i ≤ 8 ∧ St w [hT g k] wr
def G4J (k : Tb) (u : Sl) (L : List Vt) (w : World) (g : Nat) (iv : Value) (wr : World) : Prop := ∃ i : Nat, iv = .int .i64 (i : Nat) ∧ i ≤ L.length ∧ St w [hV u L, hT g k] wr
set_option maxHeartbeats 12800000 in
set_option maxRecDepth 100000 in
theorem gone_walk (hd x y : Int) (w : World) (hd8 : 0 ≤ hd ∧ hd < 256) (hx : 0 ≤ x ∧ x < 256) (hy : 0 ≤ y ∧ y < 256) :
    Calls Try.prog 4 #[.int .u8 hd, .int .u8 x, .int .u8 y] w fun e w' => e = .returned (.bool true) ∧ Below w.heap.size w w' := by
  have E := ex_any w
  obtain ⟨p, hp⟩ : ∃ p, hd % 40 = p := ⟨_, rfl⟩
  have hp2 : hd.tmod 40 = p := by rw [tmod_pos _ _ hd8.1]; exact hp
  obtain ⟨h, hh⟩ : ∃ h : Nat, 1 + p = h := ⟨(1 + p).toNat, by omega⟩
  have p8 := IntWalk.u8_in p ⟨by omega, by omega⟩
  have p64 := IntWalk.u64_in p ⟨by omega, by omega⟩
  have h64 : IntKind.u64.wrap (1 + p) = (h : Int) := by rw [hh]; exact IntWalk.u64_in _ ⟨by omega, by omega⟩
  have hh1 : (1 : Int) ≤ h := by omega
  have hh40 : (h : Int) ≤ 40 := by omega
  have y64 := IntWalk.u64_in y ⟨by omega, by omega⟩
  obtain ⟨at_, hat⟩ : ∃ a, 8 + y = a := ⟨_, rfl⟩
  have at64 : IntKind.u64.wrap (8 + y) = at_ := by rw [hat]; exact IntWalk.u64_in _ ⟨by omega, by omega⟩
  have hat8 : 8 ≤ at_ := by omega
  have hat9 : at_ < 300 := by omega
  have MY : mayI 8 (h : Int) = true := mayI_iff.2 ⟨by omega, by omega, by omega, by omega⟩
  clear hp hh hd8 hat
  go_enter Try.func4, Try.ntmps4
  go_wp2_with fail
  refine E.mono ?_; rintro e w0 ⟨rfl, b0'⟩
  have K := newT_l MY (St.start w w0 b0')
  clear E b0'
  go_wp2_with fail
  refine K.mono ?_; rintro e w1 ⟨g, rfl, s⟩
  have S0 : Hid (G1J h w g (.int .i64 1) w1) := ⟨0, rfl, by omega, by
    rw [gTb_zero]
    have : allV (newT 8 (h : Int)).cl = [] := by
      have h0 : allV (fun _ => zV) = [] := by kernel_rfl
      exact h0
    rw [this]; exact Nat.le_refl _, by rw [gTb_zero]; exact s⟩
  clear K s MY
  go_wp2_with fail
  go_loopw [11, 12, 13] (fun iv _ _ wr => G1J h w g iv wr) (fun iv _ _ _ => 10 - (intOf iv).toNat)
  case atStart => exact S0.out
  case round =>
    obtain ⟨i, rfl, hi, hc, hs⟩ := hrel
    clear S0
    have HS := Lib.hid hs
    clear hs
    by_cases hlt : i < 8
    · have GS := Lib.hid (g_step hh1 hh40 hlt hc)
      have hi1 : Hid (i + 1 ≤ 8) := hlt
      obtain ⟨j, hj⟩ : ∃ j, i + 1 = j := ⟨_, rfl⟩
      rw [hj] at GS ⊢
      have hj1 : (j : Int) ≤ 8 := by omega
      have hj0 : (0 : Int) ≤ j := by omega
      have v1 := IntWalk.u32_in (j : Int) ⟨by omega, by omega⟩
      have v2 := IntWalk.u64_in (j : Int) ⟨by omega, by omega⟩
      have v3 := IntWalk.i64_in ((j : Int) + 1) ⟨by omega, by omega⟩
      have K := grant_l (j : Int) j 1 (j : Int) hj0 (by omega) (by decide) GS.out.1 GS.out.2.1 GS.out.2.2.1 [] [] HS.out
      have HJ := Lib.hid hj
      clear HS hc hlt hj
      go_wp2_with fail
      refine K.mono ?_; rintro e w2 ⟨rfl, s⟩
      have S2 := Lib.hid s
      clear K s
      go_wp2
      go_roundw
      case rel => exact ⟨i + 1, by rw [HJ.out]; go_num, hi1.out, by rw [HJ.out]; exact GS.out.2.2.2, by rw [HJ.out]; exact S2.out⟩
      case measure => simp [intOf]; have := HJ.out; omega
    · obtain rfl : i = 8 := by omega
      have S1 : Hid (G2J x h w g (.int .i64 1) wr) := ⟨0, rfl, by omega, by rw [← rTb_zero]; exact HS.out⟩
      have hge : ¬ (((8 + 1 : Nat) : Int) ≤ 8) := by omega
      clear HS hc
      go_wp2_with fail
      go_loopw [14] (fun iv wr => G2J x h w g iv wr) (fun iv _ => 10 - (intOf iv).toNat)
      case atStart => exact S1.out
      case round =>
        obtain ⟨i, rfl, hi, hs⟩ := hrel
        clear S1
        have HS := Lib.hid hs
        clear hs
        by_cases hlt : i < 8
        · have hi1 : Hid (i + 1 ≤ 8) := hlt
          obtain ⟨j, hj⟩ : ∃ j, i + 1 = j := ⟨_, rfl⟩
          have hj1 : (j : Int) ≤ 8 := by omega
          have hj0 : (0 : Int) ≤ j := by omega
          have hi0 : (0 : Int) ≤ i := by omega
          have v1 : IntKind.i64.wrap ((j : Int) - 1) = (i : Int) := by rw [show (j : Int) - 1 = (i : Int) by omega]; exact IntWalk.i64_in _ ⟨by omega, by omega⟩
          have v3 := IntWalk.i64_in ((j : Int) + 1) ⟨by omega, by omega⟩
          have KR := Lib.hid (fun (hb : bitOn x i = true) => rel_l ((i + 1 : Nat) : Int) (rfl : isC (rTb x h i) ((i + 1 : Nat) : Int) = _) (r_yes hh1 hh40 hb) [] [] HS.out)
          have RN := Lib.hid (fun (hb : bitOn x i = false) => r_no (h := h) hb)
          rw [hj] at KR ⊢
          have HJ := Lib.hid hj
          clear hlt hj
          cases hb : bitOn x i with
          | true =>
            have hbt := (bit_yes hx.1 hb).1
            have K := KR.out hb
            clear KR RN hb HS
            go_wp2_with fail
            refine K.mono ?_; rintro e w2 ⟨rfl, s⟩
            have S2 := Lib.hid s
            clear K s
            go_wp2
            go_roundw
            case rel => exact ⟨i + 1, by rw [HJ.out]; go_num, hi1.out, by rw [HJ.out]; exact S2.out⟩
            case measure => simp [intOf]; have := HJ.out; omega
          | false =>
            have hbt := (bit_no hx.1 hb).1
            have EQ := Lib.hid (RN.out hb)
            clear KR RN hb
            go_wp2_with fail
            go_roundw
            case rel => exact ⟨i + 1, by rw [HJ.out]; go_num, hi1.out, by rw [← EQ.out]; exact HS.out⟩
            case measure => simp [intOf]; have := HJ.out; omega
        · obtain rfl : i = 8 := by omega
          have S3 : Hid (G3J (rTb x h 8) w g (.int .i64 1) wr) := ⟨0, rfl, by omega, HS.out⟩
          have hge2 : ¬ (((8 + 1 : Nat) : Int) ≤ 8) := by omega
          have HOF := Lib.hid (fun i (hi : i < 8) => r_of (x := x) hh1 hh40 hi hat8)
          have HAL := Lib.hid (fun v (hv : v ∈ allV (rTb x h 8).cl) => r_all (h := h) hv)
          have HRS := Lib.hid (all_rise (rTb_ok x hh1 hh40 8))
          have HOK := Lib.hid (rTb_ok x hh1 hh40 8)
          generalize rTb x h 8 = k at *
          clear HS
          go_wp2_with fail
          go_loopw [16, 17, 18] (fun iv _ _ wr => G3J k w g iv wr) (fun iv _ _ _ => 10 - (intOf iv).toNat)
          case atStart => exact S3.out
          case round =>
            obtain ⟨i, rfl, hi, hs⟩ := hrel
            clear S3
            have HS := Lib.hid hs
            clear hs
            by_cases hlt : i < 8
            · have hi1 : Hid (i + 1 ≤ 8) := hlt
              have hof := HOF.out i hlt
              obtain ⟨j, hj⟩ : ∃ j, i + 1 = j := ⟨_, rfl⟩
              rw [hj] at hof ⊢
              have hj1 : (j : Int) ≤ 8 := by omega
              have hj0 : (0 : Int) ≤ j := by omega
              have hi0 : (0 : Int) ≤ i := by omega
              have v1 : IntKind.i64.wrap ((j : Int) - 1) = (i : Int) := by rw [show (j : Int) - 1 = (i : Int) by omega]; exact IntWalk.i64_in _ ⟨by omega, by omega⟩
              have v2 := IntWalk.u64_in (j : Int) ⟨by omega, by omega⟩
              have v3 := IntWalk.i64_in ((j : Int) + 1) ⟨by omega, by omega⟩
              have v4 := IntWalk.u64_in ((j : Int) + h) ⟨by omega, by omega⟩
              obtain ⟨v0, hv0⟩ : ∃ v, ofA k (j : Int) at_ = v := ⟨_, rfl⟩
              have K := of_l (j : Int) at_ hof hv0 HS.out (g := g) (by simp)
              have HJ := Lib.hid hj
              obtain ⟨q1, q2, q3, q4⟩ := v0
              clear hlt hj hv0 hof HS
              simp only at K
              obtain ⟨lt, hlt⟩ : ∃ lt, decide (at_ < (j : Int) + h) = lt := ⟨_, rfl⟩
              rw [hlt] at K
              cases hb : bitOn x i with
              | true =>
                have hbt := (bit_yes hx.1 hb).2
                rw [hb] at K
                simp only [Bool.not_true, Bool.false_and] at K
                clear hb
                go_wp2_with fail
                refine K.mono ?_; rintro e w2 ⟨rfl, s⟩
                have S2 := Lib.hid (s.keep ((Below.refl _ w2).alloc (Nat.le_refl _) (.cells #[.int .u32 q2, .int .u16 q3] 32)))
                clear K s
                go_wp2
                go_roundw
                case rel => exact ⟨i + 1, by rw [HJ.out]; go_num, hi1.out, S2.out⟩
                case measure => simp [intOf]; have := HJ.out; omega
              | false =>
                have hbt := (bit_no hx.1 hb).2
                rw [hb] at K
                simp only [Bool.not_false, Bool.true_and] at K
                clear hb
                cases lt with
                | true =>
                  go_wp2_with fail
                  refine K.mono ?_; rintro e w2 ⟨rfl, s⟩
                  have S2 := Lib.hid (s.keep ((Below.refl _ w2).alloc (Nat.le_refl _) (.cells #[.int .u32 q2, .int .u16 q3] 32)))
                  clear K s
                  go_wp2
                  go_roundw
                  case rel => exact ⟨i + 1, by rw [HJ.out]; go_num, hi1.out, S2.out⟩
                  case measure => simp [intOf]; have := HJ.out; omega
                | false =>
                  go_wp2_with fail
                  refine K.mono ?_; rintro e w2 ⟨rfl, s⟩
                  have S2 := Lib.hid (s.keep ((Below.refl _ w2).alloc (Nat.le_refl _) (.cells #[.int .u32 q2, .int .u16 q3] 32)))
                  clear K s
                  go_wp2
                  go_roundw
                  case rel => exact ⟨i + 1, by rw [HJ.out]; go_num, hi1.out, S2.out⟩
                  case measure => simp [intOf]; have := HJ.out; omega
            · obtain rfl : i = 8 := by omega
              have hge3 : ¬ (((8 + 1 : Nat) : Int) ≤ 8) := by omega
              obtain ⟨L, hL⟩ : ∃ L, allV k.cl = L := ⟨_, rfl⟩
              have hl33 : L.length ≤ 33 := by rw [← hL]; exact all_len k.cl
              have K := clients_l hL HS.out (g := g) (by simp)
              have HLA : Hid (∀ (i : Nat) (v : Vt), L[i]? = some v → ∃ kk : Nat, kk < 8 ∧ v.who = ((kk + 1 : Nat) : Int) ∧ bitOn x kk = false) := fun i v hv => by
                obtain ⟨j, j1, j2, rfl, jb⟩ := HAL.out v (by rw [hL]; exact List.mem_of_getElem? hv)
                exact ⟨j - 1, by omega, by show (j : Int) = _; omega, jb⟩
              have HLR : Hid (∀ (i : Nat) (v v' : Vt), L[i]? = some v → L[i + 1]? = some v' → v.who < v'.who) := fun i v v' h1 h2 => by
                have h3 := HRS.out
                rw [hL] at h3
                obtain ⟨h4, rfl⟩ := List.getElem?_eq_some_iff.1 h1
                obtain ⟨h5, rfl⟩ := List.getElem?_eq_some_iff.1 h2
                exact List.pairwise_iff_getElem.1 h3 i (i + 1) h4 h5 (by omega)
              clear HS HOF HAL HRS hL
              go_wp2_with fail
              refine K.mono ?_; rintro e w2 ⟨u, rfl, s⟩
              have S4 : Hid (G4J k u L w g (.int .i64 (0 : Nat)) w2) := ⟨0, rfl, Nat.zero_le _, s⟩
              clear K s
              obtain ⟨ua, un, uc⟩ := u
              have hl33' : (L.length : Int) ≤ 33 := by omega
              go_wp2_with fail
              go_loopw [20] (fun iv wr => G4J k ⟨ua, un, uc⟩ L w g iv wr) (fun iv _ => L.length - (intOf iv).toNat)
              case atStart => exact S4.out
              case round =>
                obtain ⟨i, rfl, hi, hs⟩ := hrel
                clear S4
                have HS := Lib.hid hs
                clear hs
                have hi0 : (0 : Int) ≤ i := by omega
                by_cases hlt : i < L.length
                · have hlt2 : (i : Int) < L.length := by omega
                  have hi1 : Hid (i + 1 ≤ L.length) := hlt
                  have hi33 : (i : Int) < 33 := by omega
                  obtain ⟨b, off, hub, hbl, hcc⟩ := HS.out.client (u := ⟨ua, un, uc⟩) (L := L) (by simp) (by omega)
                  simp only at hub
                  subst hub
                  have hv : L[i]? = some L[i] := List.getElem?_eq_getElem hlt
                  obtain ⟨kk, kk8, hw, hbk⟩ := HLA.out i _ hv
                  have c0 := hcc i _ hv 0 _ rfl
                  have PRV : Hid (∀ i', i = i' + 1 → ∃ pp : Int, wr.cell? ⟨b, off + i' * 4, none⟩ = some (.int .i64 pp) ∧ pp < L[i].who) := fun i' e => by
                    have hv' : L[i']? = some L[i'] := List.getElem?_eq_getElem (by omega)
                    refine ⟨L[i'].who, ?_, HLR.out i' _ _ hv' (by rw [← e]; exact hv)⟩
                    have := hcc i' _ hv' 0 _ rfl
                    simpa using this
                  rw [hw] at c0 PRV
                  obtain ⟨pq, hpq⟩ : ∃ pq : Nat, kk + 1 = pq := ⟨_, rfl⟩
                  rw [hpq] at c0 PRV
                  simp only [Nat.add_zero] at c0
                  have hbt := (bit_no hx.1 hbk).1
                  have d1 : decide ((pq : Int) < 1) = false := decide_eq_false (by omega)
                  have d2 : decide (pq < 1) = false := decide_eq_false (by omega)
                  have d2' : decide (pq = 0) = false := decide_eq_false (by omega)
                  have d3 : decide ((8 : Int) < (pq : Int)) = false := decide_eq_false (by omega)
                  have d4 : decide (8 < pq) = false := decide_eq_false (by omega)
                  have v1 : IntKind.i64.wrap ((pq : Int) - 1) = (kk : Int) := by rw [show (pq : Int) - 1 = (kk : Int) by omega]; exact IntWalk.i64_in _ ⟨by omega, by omega⟩
                  have v3 := IntWalk.i64_in ((i : Int) + 1) ⟨by omega, by omega⟩
                  have hk0 : (0 : Int) ≤ kk := by omega
                  have hp0 : (0 : Int) ≤ pq := by omega
                  clear hcc hv hw hbk hpq HLA HLR hi hlt
                  cases i with
                  | zero =>
                    have z1 : decide ((0 : Int) < ((0 : Nat) : Int)) = false := by decide
                    clear PRV
                    simp only [Nat.zero_mul, Nat.add_zero] at c0
                    go_upto_region 30 with fail
                    have c0 := cell_regrown c0
                    go_quiet (fail)
                    have S5 := Lib.hid (HS.out.keep (below_drewN (Below.refl wr.heap.size wr) nq))
                    clear HS c0
                    generalize wr.drewN nq = w5 at *
                    go_wp2
                    go_roundw
                    case rel => exact ⟨0 + 1, by go_num, hi1.out, S5.out⟩
                    case measure => simp [intOf]; omega
                  | succ i =>
                    obtain ⟨pp, d0, hpp⟩ := PRV.out i rfl
                    obtain ⟨m, hm⟩ : ∃ m, i + 1 = m := ⟨_, rfl⟩
                    rw [hm] at hi0 hlt2 hi33 c0 v3 ⊢
                    have z1 : decide ((0 : Int) < (m : Int)) = true := decide_eq_true (by omega)
                    have z2 : decide (0 < m) = true := decide_eq_true (by omega)
                    have z3 : IntKind.i64.wrap ((m : Int) - 1) = (i : Int) := by rw [show (m : Int) - 1 = (i : Int) by omega]; exact IntWalk.i64_in _ ⟨by omega, by omega⟩
                    have z4 : decide ((pq : Int) ≤ pp) = false := decide_eq_false (by omega)
                    have z5 : (0 : Int) ≤ i := by omega
                    have z6 : (i : Int) < L.length := by omega
                    have z7 : i < L.length := by omega
                    have z8 : m < L.length := by omega
                    have HM := Lib.hid hm
                    clear PRV hpp hm
                    go_upto_region 30 with fail
                    have c0 := cell_regrown c0
                    have d0 := cell_regrown d0
                    go_quiet (fail)
                    have S5 := Lib.hid (HS.out.keep (below_drewN (Below.refl wr.heap.size wr) nq))
                    clear HS c0 d0
                    generalize wr.drewN nq = w5 at *
                    go_wp2
                    go_roundw
                    case rel => exact ⟨i + 1 + 1, by rw [HM.out]; go_num, hi1.out, S5.out⟩
                    case measure => simp [intOf]; omega
                · have hge4 : ¬ ((i : Int) < L.length) := by omega
                  have hge5 : ¬ (i < L.length) := by omega
                  obtain ⟨k3, hk3⟩ : ∃ k3, sweepD k at_ = k3 := ⟨_, rfl⟩
                  have K := sweep_l (g := g) at_ (rfl : sweepL k at_ = _) hk3 [_] [] HS.out
                  have HLV : Hid (∀ v ∈ allV k3.cl, at_ < v.tm) := fun v hv => by
                    rw [← hk3] at hv
                    obtain ⟨j, _, rfl, hj⟩ := mem_all.1 hv
                    exact sweep_live HOK.out at_ j hj
                  clear HS HLA HLR HOK hk3
                  go_wp2_with fail
                  refine K.mono ?_; rintro e w5 ⟨u5, rfl, s⟩
                  clear K
                  obtain ⟨M, hM⟩ : ∃ M, allV k3.cl = M := ⟨_, rfl⟩
                  have hm33 : M.length ≤ 33 := by rw [← hM]; exact all_len k3.cl
                  have hm33' : (M.length : Int) ≤ 33 := by omega
                  have K := clients_l hM s (g := g) (by simp)
                  rw [hM] at HLV
                  clear s hM
                  go_wp2_with fail
                  refine K.mono ?_; rintro e w6 ⟨u6, rfl, s⟩
                  have S6 : Hid (G4J k3 u6 M w g (.int .i64 (0 : Nat)) w6) := ⟨0, rfl, Nat.zero_le _, s.sub (by simp only [List.cons_append, List.nil_append]; repeat (first | exact List.Sublist.refl _ | apply List.Sublist.cons_cons | apply List.Sublist.cons))⟩
                  clear K s
                  obtain ⟨va, vn, vc⟩ := u6
                  go_wp2_with fail
                  go_loopw [22] (fun iv wr => G4J k3 ⟨va, vn, vc⟩ M w g iv wr) (fun iv _ => M.length - (intOf iv).toNat)
                  case atStart => exact S6.out
                  case round =>
                    obtain ⟨j, rfl, hj, hs⟩ := hrel
                    clear S6
                    have HS := Lib.hid hs
                    clear hs
                    have hj0 : (0 : Int) ≤ j := by omega
                    by_cases hlt : j < M.length
                    · have hlt2 : (j : Int) < M.length := by omega
                      have hj1 : Hid (j + 1 ≤ M.length) := hlt
                      obtain ⟨b, off, hub, hbl, hcc⟩ := HS.out.client (u := ⟨va, vn, vc⟩) (L := M) (by simp) (by omega)
                      simp only at hub
                      subst hub
                      have hv : M[j]? = some M[j] := List.getElem?_eq_getElem hlt
                      have c3 := hcc j _ hv 3 _ rfl
                      have htm := HLV.out _ (List.getElem_mem hlt)
                      generalize M[j].tm = tm at *
                      have d1 : decide (tm ≤ at_) = false := decide_eq_false (by omega)
                      have d2 : ¬ tm ≤ at_ := by omega
                      have v3 := IntWalk.i64_in ((j : Int) + 1) ⟨by omega, by omega⟩
                      clear hcc hv htm
                      go_wp2
                      go_roundw
                      case rel => exact ⟨j + 1, by go_num, hj1.out, HS.out⟩
                      case measure => simp [intOf]; omega
                    · have hge6 : ¬ ((j : Int) < M.length) := by omega
                      have K1 := Lib.hid (fun H1 wz (st : St w (H1 ++ hT g k3 :: []) wz) => rel_l 0 (isC_zero (k := k3)) (rel_none isC_zero) H1 [] st)
                      have K2 := Lib.hid (fun H1 wz (st : St w (H1 ++ hT g k3 :: []) wz) => rel_l 33 (isC_33 (k := k3)) (rel_none isC_33) H1 [] st)
                      have K := K1.out [_] _ HS.out
                      clear HS HLV K1
                      go_wp2_with fail
                      refine K.mono ?_; rintro e w7 ⟨rfl, s⟩
                      clear K
                      have K := K2.out [_] _ s
                      clear s K2
                      go_wp2_with fail
                      refine K.mono ?_; rintro e w8 ⟨rfl, s⟩
                      have BE := Lib.hid s.below
                      clear K s
                      go_wp2
                      refine bodyPost_ret (v := (.bool true)) (by simp [results, Try.results4, go_sem, *]) rfl ?_
                      exact ⟨rfl, BE.out⟩
theorem gone_run (hd x y : Int) (w : World) (w1 : (Lit.int .u8 hd).wf = true) (w2 : (Lit.int .u8 x).wf = true) (w3 : (Lit.int .u8 y).wf = true) :
    Calls Try.prog 4 #[.int .u8 hd, .int .u8 x, .int .u8 y] w fun e w' => e = .returned (.bool true) ∧ Below w.heap.size w w' := by
  have h1 := bounds_u8 w1
  have h2 := bounds_u8 w2
  have h3 := bounds_u8 w3
  exact gone_walk hd x y w ⟨h1.1, by omega⟩ ⟨h2.1, by omega⟩ ⟨h3.1, by omega⟩
theorem leaseGone_own : ownKnob Try.prog.godebug = none := by kernel_rfl
theorem leaseGone_laid : laidOutB Try.prog = true := by kernel_rfl
set_option maxRecDepth 100000 in
theorem leaseGone_lifted (os : Os) (started : os.Started) (H : Type) (enc : TypeId × Value → H) :
    ReturnsInHanded {} Try.checked os 4 .any (Rows.leaseGoneSpec.pre6 enc Try.prog Try.f4 Rows.leaseGoneRow.domain false) (Rows.leaseGoneSpec.post enc Try.prog Try.f4 false true false false) := by
  refine returnsInHanded_of_change (C := Try.checked) leaseGone_own started (by kernel_rfl) Try.func4
    (ChangeSpec.witness6 (enc := enc) (C := Try.checked) false ⟨#[], #[.int .u8 0, .int .u8 0, .int .u8 0], []⟩ 8 (by kernel_rfl) (by kernel_rfl) (by kernel_rfl) (by kernel_rfl)) ?_
  intro W base args ds gs before hval0 hW hcnd _
  have hval : ∀ (j : Nat) t v, Try.f4.params[j]? = some t → args[j]? = some v → Value.okWide Try.prog W .any base t v := hval0
  have hW' := hW
  obtain ⟨p, q, hA0, hV, rfl, hfz, hnd⟩ := hW
  have hA : DataW.TrodAll enc Try.prog W 0 (fun _ => true) true Try.f4.params.toList args.toList ds p := hA0
  rw [Try.params4] at hA hval
  obtain ⟨v0, vs0, d0, ds0, p0, q0, hargs, rfl, rfl, h0, r0⟩ := trodAll_cons hA
  obtain ⟨v1, vs1, d1, ds1, p1, q1, rfl, rfl, rfl, h1, r1⟩ := trodAll_cons r0
  obtain ⟨v2, vs2, d2, ds2, p2, q2, rfl, rfl, rfl, h2, r2⟩ := trodAll_cons r1
  obtain ⟨rfl, rfl, rfl⟩ := trodAll_nil r2
  obtain rfl : args = #[v0, v1, v2] := by cases args; simp_all
  obtain ⟨rfl, rfl⟩ := trodVars_none hV
  obtain ⟨a0, rfl, rfl, rfl, w0⟩ := open_int Try.underlying5 (hval 0 5 v0 rfl rfl) h0
  obtain ⟨a1, rfl, rfl, rfl, w1⟩ := open_int Try.underlying5 (hval 1 5 v1 rfl rfl) h1
  obtain ⟨a2, rfl, rfl, rfl, w2⟩ := open_int Try.underlying5 (hval 2 5 v2 rfl rfl) h2
  clear hA0 hval0
  refine (gone_run a0 a1 a2 W w0 w1 w2).mono fun e W' ⟨he, bel⟩ => ?_
  subst he
  exact ⟨_, rfl, _, _, _, [], _, [], hW', trodAll_mk1 (shut_bool Try.underlying4 _), (trodAll_cons_mk (shut_int Try.underlying5 w0) (trodAll_cons_mk (shut_int Try.underlying5 w1) (trodAll_cons_mk (shut_int Try.underlying5 w2) trodAll_mk0))), rfl, bel.frame _, fun h => by cases h⟩
theorem leaseGone_over : Rows.leaseGoneRow.holds Try.pinned (OpenSpec.ofChange Rows.leaseGoneSpec) :=
  OpenClaim.holds_of_wide 4 Try.f4 rfl rfl rfl rfl rfl rfl rfl ⟨rfl, rfl, rfl, rfl, rfl⟩ rfl rfl rfl rfl rfl (by kernel_rfl) Try.func4 (by kernel_rfl)
    (of_decide_eq_true (by kernel_rfl)) (by unfold Func.isWrapper; first | (rw [if_pos (by decide +kernel)]; kernel_rfl) | (rw [if_neg (by decide +kernel)]; exact ⟨rfl, rfl⟩))
    (fun os started H enc _ => leaseGone_lifted os started H enc)
theorem leaseGone_holds : Rows.LeaseGoneSaid := leaseGone_over
#print axioms leaseGone_holds
end Go.Proofs.Ytdehpiaokjihjaa
