/- PathMany: of many ways each goes on by itself, and is told by its peer, rising; no more is to be sent at once than there are ways: whichever of eight peers are wanted, whichever are open, at whatever time. -/
import Derived.Test.YtpeoallhbbleaaaPaEx
import Derived.Test.YtpeoallhbbleaaaManyMath
import Derived.Deep.DeepCutAuto
import Derived.ChangeOld
import Derived.ChangeMaps5
import Derived.ShutString
import Derived.OpenShut
import Derived.SizedLaws
namespace Go.Proofs.Ytpeoallhbbleaaa
open Go.Sort Go.RowKit Go.BigFrame Go.ChangeShapes Go.WideShapes Go.Deep
set_option linter.unusedVariables false
set_option linter.unusedSimpArgs false

def M1J (x y : Int) (w : World) (g : Nat) (mv iv : Value) (wr : World) : Prop :=
  ∃ i : Nat, iv = .int .i64 (i : Nat) ∧ mv = .int .i64 (cnt (fun j => bitOn x j || bitOn y j) i : Nat) ∧ i ≤ 8 ∧ St w [hT g (mK (bitOn x) (bitOn y) i)] wr
def M2J (x y q : Int) (w : World) (g : Nat) (nv : Value) (wr : World) : Prop :=
  ∃ (n : Int) (k : Tk), nv = .int .u64 n ∧ (0 ≤ n ∧ n ≤ q + 1) ∧ MInv (bitOn x) (bitOn y) n k ∧ St w [hT g k] wr
def M3J (L : List (Int × Int)) (u : Sl) (k : Tk) (w : World) (g : Nat) (iv : Value) (wr : World) : Prop :=
  ∃ i : Nat, iv = .int .i64 (i : Nat) ∧ i ≤ L.length ∧ St w [hS u L, hT g k] wr
set_option maxHeartbeats 12800000 in
set_option maxRecDepth 100000 in
theorem many_walk (x y z q : Int) (hx : 0 ≤ x ∧ x < 256) (hy : 0 ≤ y ∧ y < 256) (hz : 0 ≤ z) (hq : z % 40 = q) (w : World) :
    Calls Try.prog 7 #[.int .u8 x, .int .u8 y, .int .u8 z] w fun e w' => e = .returned (.bool true) ∧ Below w.heap.size w w' := by
  have E := ex_any w
  have hq2 : z.tmod 40 = q := by rw [tmod_pos _ _ hz]; exact hq
  have q8 := IntWalk.u8_in q ⟨by omega, by omega⟩
  have q64 := IntWalk.u64_in q ⟨by omega, by omega⟩
  have HQ : Hid (0 ≤ q ∧ q < 40) := ⟨by omega, by omega⟩
  clear hq hz
  go_enter Try.func7, Try.ntmps7
  go_wp2_with fail
  refine E.mono ?_; rintro e w0 ⟨rfl, b0'⟩
  have K := newT_l (t := 2) (bs := 3) (kp := 4) (hd := 20) (by decide) (St.start w w0 b0')
  clear E b0'
  go_wp2_with fail
  refine K.mono ?_; rintro e w1 ⟨g, rfl, s⟩
  have S0 : Hid (M1J x y w g (.int .i64 0) (.int .i64 0) w1) := ⟨0, rfl, rfl, by decide, by rw [mK_zero]; exact s⟩
  clear K s
  go_wp2_with fail
  go_loopw [10, 11] (fun mv iv wr => M1J x y w g mv iv wr) (fun _ iv _ => 9 - (intOf iv).toNat)
  case atStart => exact S0.out
  case round =>
    obtain ⟨i, rfl, rfl, hi, hs⟩ := hrel
    have HS := Lib.hid hs
    clear hs S0
    have hc8 := cnt_le (fun j => bitOn x j || bitOn y j) i
    by_cases hlt : i < 8
    · have hlt2 : (i : Int) < 8 := by omega
      have hi0 : (0 : Int) ≤ i := by omega
      have hi64 : (i : Int) ≤ 64 := by omega
      obtain ⟨j, hj⟩ : ∃ j, i + 1 = j := ⟨_, rfl⟩
      have v1 : IntKind.i64.wrap ((i : Int) + 1) = (j : Int) := by rw [show (i : Int) + 1 = (j : Int) by omega]; exact IntWalk.i64_in _ ⟨by omega, by omega⟩
      have HI1 : Hid (i + 1 ≤ 8) := hlt
      have MW := m_want (bitOn x) (bitOn y) hlt
      have MO := m_open (mK (bitOn x) (bitOn y) i) ⟨rfl, rfl⟩ hlt
      have MO2 := m_open (setP (mK (bitOn x) (bitOn y) i) (i + 1) (wnt (i + 1))) ⟨rfl, rfl⟩ hlt
      have MS := mP_succ (bitOn x) (bitOn y) i
      have MN := mP_same (bitOn x) (bitOn y) i
      have MC : cnt (fun j => bitOn x j || bitOn y j) (i + 1) = cnt (fun j => bitOn x j || bitOn y j) i + if (bitOn x i || bitOn y i) = true then 1 else 0 := rfl
      rw [set_set] at MO2
      have HJ := Lib.hid hj
      rw [hj] at MW MO MO2 MS MN MC
      generalize cnt (fun j => bitOn x j || bitOn y j) i = c at *
      clear hlt hj
      cases ha : bitOn x i with
      | true =>
        cases hb : bitOn y i with
        | true =>
          have hat := (bit_yes hx.1 ha).1
          have hbt := (bit_yes hy.1 hb).1
          have EQ : Hid (setP (mK (bitOn x) (bitOn y) i) j (opn j) = mK (bitOn x) (bitOn y) j) := MS (opn j) (by rw [hb]; rfl)
          have v2 := IntWalk.i64_in ((c : Int) + 1) ⟨by omega, by omega⟩
          have EC : Hid ((c : Int) + 1 = (cnt (fun j => bitOn x j || bitOn y j) j : Nat)) := by show _ = _; rw [MC, ha, hb]; rfl
          have K := want_l (j : Int) 0 (by decide) MW.1 MW.2 [] [] HS.out
          replace MO2 := Lib.hid MO2
          clear MW MO MS MN MC ha hb HS
          go_wp2_with fail
          refine K.mono ?_; rintro e w2 ⟨rfl, s⟩
          clear K
          have K := open_l (j : Int) 3 3 0 (by decide) (by decide) (by decide) MO2.out.1 MO2.out.2 [] [] s
          clear s MO2
          go_wp2_with fail
          refine K.mono ?_; rintro e w3 ⟨rfl, s⟩
          clear K
          have S2 := Lib.hid s
          clear s
          go_wp2_with fail
          go_roundw
          case rel => exact ⟨j, by rw [← HJ.out], by rw [← EC.out], by rw [← HJ.out]; exact HI1.out, by rw [← EQ.out]; exact S2.out⟩
          case measure => simp [intOf]; have := HJ.out; omega
        | false =>
          have hat := (bit_yes hx.1 ha).1
          have hbt := (bit_no hy.1 hb).1
          have EQ : Hid (setP (mK (bitOn x) (bitOn y) i) j (wnt j) = mK (bitOn x) (bitOn y) j) := MS (wnt j) (by rw [hb, ha]; rfl)
          have v2 := IntWalk.i64_in ((c : Int) + 1) ⟨by omega, by omega⟩
          have EC : Hid ((c : Int) + 1 = (cnt (fun j => bitOn x j || bitOn y j) j : Nat)) := by show _ = _; rw [MC, ha, hb]; rfl
          have K := want_l (j : Int) 0 (by decide) MW.1 MW.2 [] [] HS.out
          clear MW MO MS MN MC ha hb MO2 HS
          go_wp2_with fail
          refine K.mono ?_; rintro e w2 ⟨rfl, s⟩
          clear K
          have S2 := Lib.hid s
          clear s
          go_wp2_with fail
          go_roundw
          case rel => exact ⟨j, by rw [← HJ.out], by rw [← EC.out], by rw [← HJ.out]; exact HI1.out, by rw [← EQ.out]; exact S2.out⟩
          case measure => simp [intOf]; have := HJ.out; omega
      | false =>
        cases hb : bitOn y i with
        | true =>
          have hat := (bit_no hx.1 ha).1
          have hbt := (bit_yes hy.1 hb).1
          have EQ : Hid (setP (mK (bitOn x) (bitOn y) i) j (opn j) = mK (bitOn x) (bitOn y) j) := MS (opn j) (by rw [hb]; rfl)
          have v2 := IntWalk.i64_in ((c : Int) + 1) ⟨by omega, by omega⟩
          have EC : Hid ((c : Int) + 1 = (cnt (fun j => bitOn x j || bitOn y j) j : Nat)) := by show _ = _; rw [MC, ha, hb]; rfl
          have K := open_l (j : Int) 3 3 0 (by decide) (by decide) (by decide) MO.1 MO.2 [] [] HS.out
          clear MW MO MS MN MC ha hb MO2 HS
          go_wp2_with fail
          refine K.mono ?_; rintro e w2 ⟨rfl, s⟩
          clear K
          have S2 := Lib.hid s
          clear s
          go_wp2_with fail
          go_roundw
          case rel => exact ⟨j, by rw [← HJ.out], by rw [← EC.out], by rw [← HJ.out]; exact HI1.out, by rw [← EQ.out]; exact S2.out⟩
          case measure => simp [intOf]; have := HJ.out; omega
        | false =>
          have hat := (bit_no hx.1 ha).1
          have hbt := (bit_no hy.1 hb).1
          have EQ : Hid (mK (bitOn x) (bitOn y) i = mK (bitOn x) (bitOn y) j) := MN ha hb
          have EC : Hid ((c : Int) = (cnt (fun j => bitOn x j || bitOn y j) j : Nat)) := by show _ = _; rw [MC, ha, hb]; rfl
          clear MW MO MS MN MC ha hb MO2
          go_wp2_with fail
          have S2 := HS
          go_roundw
          case rel => exact ⟨j, by rw [← HJ.out], by rw [← EC.out], by rw [← HJ.out]; exact HI1.out, by rw [← EQ.out]; exact S2.out⟩
          case measure => simp [intOf]; have := HJ.out; omega
    · obtain rfl : i = 8 := by omega
      have hge : ¬ (((8 : Nat) : Int) < 8) := by decide
      have S1 : Hid (M2J x y q w g (.int .u64 0) wr) := ⟨0, _, rfl, by have := HQ.out; omega, m_start _ _ (HS.out.get (h := hT g (mK (bitOn x) (bitOn y) 8)) (by simp)).ok, HS.out⟩
      have HC : Hid (∀ now k, MInv (bitOn x) (bitOn y) now k → (allP k.p).length = cnt (fun j => bitOn x j || bitOn y j) 8) := fun now k h => m_all h
      generalize cnt (fun j => bitOn x j || bitOn y j) 8 = c at *
      clear HS hc8
      go_wp2_with fail
      go_loopw [12] (fun nv wr => M2J x y q w g nv wr) (fun nv _ => (42 - intOf nv).toNat)
      case atStart => exact S1.out
      case round =>
        obtain ⟨n, k, rfl, hn, hm, hs⟩ := hrel
        clear S1
        have HS := Lib.hid hs
        have HM := Lib.hid hm
        have HN := Lib.hid hn
        have hqq := HQ.out
        clear hs hm
        by_cases hnq : n ≤ q
        · have p1 := IntWalk.u64_in (n + 1) ⟨by omega, by omega⟩
          obtain ⟨k2, hk2⟩ : ∃ k2, dueD k n = k2 := ⟨_, rfl⟩
          obtain ⟨L, hL⟩ : ∃ L, dueL k n = L := ⟨_, rfl⟩
          have K := due_l n hn.1 hL hk2 [] [] HS.out
          have HO : Hid (∀ v ∈ L, MOne (bitOn y) n v.1 v.2) := fun v hv => m_one HM.out (by omega) (by rw [hL]; exact hv)
          have HR : Hid (L.Pairwise fun v v' => v.1 < v'.1) := by show List.Pairwise _ _; rw [← hL]; exact m_rise k n (by omega)
          have HA : Hid ((dueL k2 n).length = 0 ∧ dueD k2 n = k2) := by show _ ∧ _; rw [← hk2]; exact m_again HM.out.ok (by omega)
          have HX : Hid (MInv (bitOn x) (bitOn y) (n + 1) k2) := by show MInv _ _ _ _; rw [← hk2]; exact m_next HM.out hn.1 (by omega)
          have hl33 : L.length ≤ 33 := by rw [← hL]; exact dueL_len k n
          clear HS HM hk2 hL hqq hn
          go_wp2_with fail
          refine K.mono ?_; rintro e w2 ⟨u, rfl, s⟩
          obtain ⟨ua, un, uc⟩ := u
          have S2 : Hid (M3J L ⟨ua, un, uc⟩ k2 w g (.int .i64 0) w2) := ⟨0, rfl, Nat.zero_le _, s⟩
          clear K s
          go_wp2_with fail
          go_loopw [14, 15] (fun iv _ wr => M3J L ⟨ua, un, uc⟩ k2 w g iv wr) (fun iv _ _ => L.length - (intOf iv).toNat)
          case atStart => exact S2.out
          case round =>
            obtain ⟨i, rfl, hi, hs⟩ := hrel
            clear S2
            have HS := Lib.hid hs
            clear hs
            by_cases hlt : i < L.length
            · have hlt2 : (i : Int) < L.length := by omega
              have hi0 : (0 : Int) ≤ i := by omega
              have hi1 : Hid (i + 1 ≤ L.length) := hlt
              have hi33 : i < 33 := by omega
              obtain ⟨b, off, hub, hbl, hcc⟩ := HS.out.step (u := ⟨ua, un, uc⟩) (L := L) (by simp) (by omega)
              simp only at hub
              subst hub
              have hv : L[i]? = some L[i] := List.getElem?_eq_getElem hlt
              obtain ⟨⟨kk, kk8, hw, hkd⟩⟩ := HO.out L[i] (List.mem_of_getElem? hv)
              have c0 := hcc i _ hv 0 _ rfl
              have c1 := hcc i _ hv 1 _ rfl
              have PRV : Hid (∀ i', i = i' + 1 → ∃ pp : Int, wr.cell? ⟨b, off + i' * 2, none⟩ = some (.int .i64 pp) ∧ pp < L[i].1) := fun i' e => by
                have hv' : L[i']? = some L[i'] := List.getElem?_eq_getElem (by omega)
                refine ⟨L[i'].1, ?_, List.pairwise_iff_getElem.1 HR.out i' i (by omega) hlt (by omega)⟩
                have := hcc i' _ hv' 0 _ rfl
                simpa using this
              generalize L[i] = e at *
              obtain ⟨e1, e2⟩ := e
              simp only at hw hkd c0 c1 PRV
              subst hw
              obtain ⟨pq, hpq⟩ : ∃ pq : Nat, kk + 1 = pq := ⟨_, rfl⟩
              rw [hpq] at c0 PRV
              simp only [Nat.add_zero] at c0
              have v1 : IntKind.i64.wrap ((pq : Int) - 1) = (kk : Int) := by rw [show (pq : Int) - 1 = (kk : Int) by omega]; exact IntWalk.i64_in _ ⟨by omega, by omega⟩
              have v3 := IntWalk.i64_in ((i : Int) + 1) ⟨by omega, by omega⟩
              have hk0 : (0 : Int) ≤ kk := by omega
              have hk64 : (kk : Int) ≤ 64 := by omega
              have d1 : decide ((kk : Int) < 0) = false := decide_eq_false (by omega)
              have d3 : decide ((7 : Int) < (kk : Int)) = false := decide_eq_false (by omega)
              have d4 : decide (7 < kk) = false := decide_eq_false (by omega)
              have hp0 : (0 : Int) ≤ pq := by omega
              clear hcc hv hpq hi hlt
              cases i with
              | zero =>
                have z1 : decide ((0 : Int) < ((0 : Nat) : Int)) = false := by decide
                clear PRV
                simp only [Nat.zero_mul, Nat.add_zero] at c0 c1
                rcases hkd with ⟨rfl, hbb⟩ | ⟨rfl, hk20⟩
                · have hbt := bit_yes hy.1 hbb
                  obtain ⟨hbt1, hbt2⟩ := hbt
                  clear hbb
                  go_upto_region 25 with fail
                  have c0 := cell_regrown c0
                  have c1 := cell_regrown c1
                  go_quiet (fail)
                  have S5 := Lib.hid (HS.out.keep (below_drewN (Below.refl wr.heap.size wr) nq))
                  clear HS c0 c1
                  generalize wr.drewN nq = w5 at *
                  go_wp2
                  go_roundw
                  case rel => exact ⟨0 + 1, by go_num, hi1.out, S5.out⟩
                  case measure => simp [intOf]; omega
                · cases hbb : bitOn y kk with
                  | true =>
                    have hbt := bit_yes hy.1 hbb
                    have d20 : decide (n < 20) = false := decide_eq_false (by have := hk20 hbb; omega)
                    obtain ⟨hbt1, hbt2⟩ := hbt
                    clear hbb hk20
                    go_upto_region 25 with fail
                    have c0 := cell_regrown c0
                    have c1 := cell_regrown c1
                    go_quiet (fail)
                    have S5 := Lib.hid (HS.out.keep (below_drewN (Below.refl wr.heap.size wr) nq))
                    clear HS c0 c1
                    generalize wr.drewN nq = w5 at *
                    go_wp2
                    go_roundw
                    case rel => exact ⟨0 + 1, by go_num, hi1.out, S5.out⟩
                    case measure => simp [intOf]; omega
                  | false =>
                    have hbt := bit_no hy.1 hbb
                    obtain ⟨hbt1, hbt2⟩ := hbt
                    clear hbb hk20
                    go_upto_region 25 with fail
                    have c0 := cell_regrown c0
                    have c1 := cell_regrown c1
                    go_quiet (fail)
                    have S5 := Lib.hid (HS.out.keep (below_drewN (Below.refl wr.heap.size wr) nq))
                    clear HS c0 c1
                    generalize wr.drewN nq = w5 at *
                    go_wp2
                    go_roundw
                    case rel => exact ⟨0 + 1, by go_num, hi1.out, S5.out⟩
                    case measure => simp [intOf]; omega
              | succ i =>
                obtain ⟨pp, d0, hpp⟩ := PRV.out i rfl
                obtain ⟨m, hm⟩ : ∃ m, i + 1 = m := ⟨_, rfl⟩
                rw [hm] at hi0 hlt2 hi33 c0 c1 v3 ⊢
                have z1 : decide ((0 : Int) < (m : Int)) = true := decide_eq_true (by omega)
                have z2 : decide (0 < m) = true := decide_eq_true (by omega)
                have z3 : IntKind.i64.wrap ((m : Int) - 1) = (i : Int) := by rw [show (m : Int) - 1 = (i : Int) by omega]; exact IntWalk.i64_in _ ⟨by omega, by omega⟩
                have z4 : decide ((pq : Int) ≤ pp) = false := decide_eq_false (by omega)
                have z5 : (0 : Int) ≤ i := by omega
                have z6 : (i : Int) < L.length := by omega
                have z7 : i < L.length := by omega
                have z8 : m < L.length := by omega
                have HMM := Lib.hid hm
                clear PRV hpp hm
                rcases hkd with ⟨rfl, hbb⟩ | ⟨rfl, hk20⟩
                · have hbt := bit_yes hy.1 hbb
                  obtain ⟨hbt1, hbt2⟩ := hbt
                  clear hbb
                  go_upto_region 25 with fail
                  have c0 := cell_regrown c0
                  have c1 := cell_regrown c1
                  have d0 := cell_regrown d0
                  go_quiet (fail)
                  have S5 := Lib.hid (HS.out.keep (below_drewN (Below.refl wr.heap.size wr) nq))
                  clear HS c0 c1 d0
                  generalize wr.drewN nq = w5 at *
                  go_wp2
                  go_roundw
                  case rel => exact ⟨i + 1 + 1, by rw [HMM.out]; go_num, hi1.out, S5.out⟩
                  case measure => simp [intOf]; omega
                · cases hbb : bitOn y kk with
                  | true =>
                    have hbt := bit_yes hy.1 hbb
                    have d20 : decide (n < 20) = false := decide_eq_false (by have := hk20 hbb; omega)
                    obtain ⟨hbt1, hbt2⟩ := hbt
                    clear hbb hk20
                    go_upto_region 25 with fail
                    have c0 := cell_regrown c0
                    have c1 := cell_regrown c1
                    have d0 := cell_regrown d0
                    go_quiet (fail)
                    have S5 := Lib.hid (HS.out.keep (below_drewN (Below.refl wr.heap.size wr) nq))
                    clear HS c0 c1 d0
                    generalize wr.drewN nq = w5 at *
                    go_wp2
                    go_roundw
                    case rel => exact ⟨i + 1 + 1, by rw [HMM.out]; go_num, hi1.out, S5.out⟩
                    case measure => simp [intOf]; omega
                  | false =>
                    have hbt := bit_no hy.1 hbb
                    obtain ⟨hbt1, hbt2⟩ := hbt
                    clear hbb hk20
                    go_upto_region 25 with fail
                    have c0 := cell_regrown c0
                    have c1 := cell_regrown c1
                    have d0 := cell_regrown d0
                    go_quiet (fail)
                    have S5 := Lib.hid (HS.out.keep (below_drewN (Below.refl wr.heap.size wr) nq))
                    clear HS c0 c1 d0
                    generalize wr.drewN nq = w5 at *
                    go_wp2
                    go_roundw
                    case rel => exact ⟨i + 1 + 1, by rw [HMM.out]; go_num, hi1.out, S5.out⟩
                    case measure => simp [intOf]; omega
            · have hge4 : ¬ ((i : Int) < L.length) := by omega
              have hge5 : ¬ (i < L.length) := by omega
              have K := due_n (g := g) n HN.out.1 HA.out.1 HA.out.2 [_] [] HS.out
              have NX : Hid (0 ≤ n + 1 ∧ n + 1 ≤ q + 1) := ⟨by have := HN.out; omega, by omega⟩
              clear HS
              go_wp2_with fail
              refine K.mono ?_; rintro e w3 ⟨da, dc, rfl, s⟩
              have S3 := Lib.hid s.drop
              clear K s
              go_wp2
              go_roundw
              case rel => exact ⟨n + 1, k2, rfl, NX.out, HX.out, S3.out⟩
              case measure => simp [intOf]; have := HN.out; have := HQ.out; omega
        · have hnq2 : decide (n ≤ q) = false := decide_eq_false hnq
          obtain ⟨L, hL⟩ : ∃ L, allP k.p = L := ⟨_, rfl⟩
          have hc : L.length = c := by rw [← hL]; exact HC.out _ _ HM.out
          have K := all_l hL HS.out (g := g) (by simp)
          rw [hc] at K
          clear HS HM hc hL
          go_wp2_with fail
          refine K.mono ?_; rintro e w3 ⟨u, rfl, s⟩
          have F := Lib.hid s.below
          clear K s
          go_wp2
          refine bodyPost_ret (v := (.bool true)) (by simp [results, Try.results7, go_sem, *]) rfl ?_
          exact ⟨rfl, F.out⟩
theorem many_run (x y z : Int) (w : World) (w1 : (Lit.int .u8 x).wf = true) (w2 : (Lit.int .u8 y).wf = true) (w3 : (Lit.int .u8 z).wf = true) :
    Calls Try.prog 7 #[.int .u8 x, .int .u8 y, .int .u8 z] w fun e w' => e = .returned (.bool true) ∧ Below w.heap.size w w' := by
  have h1 := bounds_u8 w1
  have h2 := bounds_u8 w2
  exact many_walk x y z _ ⟨h1.1, by omega⟩ ⟨h2.1, by omega⟩ (bounds_u8 w3).1 rfl w
theorem pathMany_own : ownKnob Try.prog.godebug = none := by kernel_rfl
theorem pathMany_laid : laidOutB Try.prog = true := by kernel_rfl
set_option maxRecDepth 100000 in
theorem pathMany_lifted (os : Os) (started : os.Started) (H : Type) (enc : TypeId × Value → H) :
    ReturnsInHanded {} Try.checked os 7 .any (Rows.pathManySpec.pre6 enc Try.prog Try.f7 Rows.pathManyRow.domain false) (Rows.pathManySpec.post enc Try.prog Try.f7 false true false false) := by
  refine returnsInHanded_of_change (C := Try.checked) pathMany_own started (by kernel_rfl) Try.func7
    (ChangeSpec.witness6 (enc := enc) (C := Try.checked) false ⟨#[], #[.int .u8 0, .int .u8 0, .int .u8 0], []⟩ 8 (by kernel_rfl) (by kernel_rfl) (by kernel_rfl) (by kernel_rfl)) ?_
  intro W base args ds gs before hval0 hW hcnd _
  have hval : ∀ (j : Nat) t v, Try.f7.params[j]? = some t → args[j]? = some v → Value.okWide Try.prog W .any base t v := hval0
  have hW' := hW
  obtain ⟨p, q, hA0, hV, rfl, hfz, hnd⟩ := hW
  have hA : DataW.TrodAll enc Try.prog W 0 (fun _ => true) true Try.f7.params.toList args.toList ds p := hA0
  rw [Try.params7] at hA hval
  obtain ⟨v0, vs0, d0, ds0, p0, q0, hargs, rfl, rfl, h0, r0⟩ := trodAll_cons hA
  obtain ⟨v1, vs1, d1, ds1, p1, q1, rfl, rfl, rfl, h1, r1⟩ := trodAll_cons r0
  obtain ⟨v2, vs2, d2, ds2, p2, q2, rfl, rfl, rfl, h2, r2⟩ := trodAll_cons r1
  obtain ⟨rfl, rfl, rfl⟩ := trodAll_nil r2
  obtain rfl : args = #[v0, v1, v2] := by cases args; simp_all
  obtain ⟨rfl, rfl⟩ := trodVars_none hV
  obtain ⟨a0, rfl, rfl, rfl, w0⟩ := open_int Try.underlying5 (hval 0 5 v0 rfl rfl) h0
  obtain ⟨a1, rfl, rfl, rfl, w1⟩ := open_int Try.underlying5 (hval 1 5 v1 rfl rfl) h1
  obtain ⟨a2, rfl, rfl, rfl, w2⟩ := open_int Try.underlying5 (hval 2 5 v2 rfl rfl) h2
  clear hA0 hval0
  refine (many_run a0 a1 a2 W w0 w1 w2).mono fun e W' ⟨he, bel⟩ => ?_
  subst he
  exact ⟨_, rfl, _, _, _, [], _, [], hW', trodAll_mk1 (shut_bool Try.underlying4 _), (trodAll_cons_mk (shut_int Try.underlying5 w0) (trodAll_cons_mk (shut_int Try.underlying5 w1) (trodAll_cons_mk (shut_int Try.underlying5 w2) trodAll_mk0))), rfl, bel.frame _, fun h => by cases h⟩
theorem pathMany_over : Rows.pathManyRow.holds Try.pinned (OpenSpec.ofChange Rows.pathManySpec) :=
  OpenClaim.holds_of_wide 7 Try.f7 rfl rfl rfl rfl rfl rfl rfl ⟨rfl, rfl, rfl, rfl, rfl⟩ rfl rfl rfl rfl rfl (by kernel_rfl) Try.func7 (by kernel_rfl)
    (of_decide_eq_true (by kernel_rfl)) (by unfold Func.isWrapper; first | (rw [if_pos (by decide +kernel)]; kernel_rfl) | (rw [if_neg (by decide +kernel)]; exact ⟨rfl, rfl⟩))
    (fun os started H enc _ => pathMany_lifted os started H enc)
theorem pathMany_holds : Rows.PathManySaid := pathMany_over
#print axioms pathMany_holds
end Go.Proofs.Ytpeoallhbbleaaa
