/- DoubtMany: many are suspected at one time, each falls due by itself, those of one time by their numbers: since whatever time each of them is suspected. -/
import Derived.Test.YtplllaafllcigaaDbOne
import Derived.Deep.DeepCutAuto
import Derived.ChangeOld
import Derived.ChangeMaps5
import Derived.ShutString
import Derived.OpenShut
import Derived.SizedLaws
namespace Go.Proofs.Ytplllaafllcigaa
open Go.Sort Go.RowKit Go.BigFrame Go.ChangeShapes Go.WideShapes Go.Deep
set_option linter.unusedVariables false
set_option linter.unusedSimpArgs false

theorem arg_u8m {w : World} {a : Option Addr} {len cap : Nat} {zs : List Int} (wz : ArgRow .u8 w a len cap zs) : ∃ ys : List Int, ys.length = len ∧ (∀ z ∈ ys, 0 ≤ z ∧ z < 256) ∧ Rd .u8 w w.heap.size a ys ∧ len ≤ 9223372036854775807 := by
  rcases wz with ⟨rfl, rfl, rfl, rfl⟩ | ⟨x, rfl, h1, h2, h3, h4, h5⟩
  · exact ⟨[], rfl, by simp, Rd.nil _ _ _ _, by omega⟩
  · have hl : (zs.take len).length = len := by rw [List.length_take]; omega
    refine ⟨zs.take len, hl, fun z hz => ?_, fun hp => ?_, by unfold maxLen at h2; omega⟩
    · have := bounds_u8 (h5 z (List.mem_of_mem_take hz)); omega
    · obtain ⟨b, off, spot⟩ := x
      have h0 := h4 0 (by omega)
      have hs : spot = none := by simpa [Addr.add] using World.cell?_spot h0
      subst hs
      refine ⟨b, off, rfl, by simpa [Addr.add] using World.block_lt_of_cell? _ _ h0, fun i hi => ?_⟩
      have := h4 i (by omega)
      rw [add_at] at this
      rw [this]
      have : i < len := by omega
      simp [List.getD_eq_getElem?_getD, List.getElem?_take, this]


/-- since when the j-th is suspected -/
def sinceM (zs : List Int) (j : Nat) : Int := zs.getD (j - 1) 0 % 16
def mkM (zs : List Int) (j : Nat) : It := ⟨j, 1, sinceM zs j, 5, []⟩
def kB (zs : List Int) (i : Nat) : Nat → It := fun j => if 1 ≤ j ∧ j ≤ i then mkM zs j else zIt
def kN (zs : List Int) (m : Nat) (now : Int) : Nat → It := fun j => if 1 ≤ j ∧ j ≤ m ∧ now ≤ sinceM zs j + 5 then mkM zs j else zIt
theorem since_b (zs : List Int) (j : Nat) : 0 ≤ sinceM zs j ∧ sinceM zs j < 16 := by unfold sinceM; omega
theorem until_M (zs : List Int) (j : Nat) : untilI (mkM zs j) = sinceM zs j + 5 := by unfold untilI mkM; simp
theorem susp_M (zs : List Int) (j : Nat) : susp (mkM zs j) = true := rfl
theorem kB_zero (zs : List Int) : kB zs 0 = newD := by
  funext j
  unfold kB
  rw [if_neg (by omega)]; rfl
theorem kB_no (zs : List Int) (i : Nat) : suspI (kB zs i) ((i + 1 : Nat) : Int) = false := by
  unfold suspI
  rw [Int.toNat_natCast]
  have : kB zs i (i + 1) = zIt := by unfold kB; rw [if_neg (by omega)]
  rw [this, susp_z, Bool.and_false]
theorem kB_upd (zs : List Int) (i : Nat) : updD (kB zs i) (i + 1) (mkM zs (i + 1)) = kB zs (i + 1) := by
  funext j
  by_cases h : j = i + 1
  · subst h
    rw [updD_same]; unfold kB; rw [if_pos (by omega)]
  · rw [updD_ne h]
    unfold kB
    by_cases h2 : 1 ≤ j ∧ j ≤ i
    · rw [if_pos h2, if_pos (by omega)]
    · rw [if_neg h2, if_neg (by omega)]
theorem kB_begin (zs : List Int) (i : Nat) (hi : i < 30) : beginE (kB zs i) ((i + 1 : Nat) : Int) 1 (sinceM zs (i + 1)) 5 = 0 ∧ beginD (kB zs i) ((i + 1 : Nat) : Int) 1 (sinceM zs (i + 1)) 5 = kB zs (i + 1) := by
  have hs := since_b zs (i + 1)
  have e := beginE_zero (k := kB zs i) (inc := 1) (argB_ok (i := ((i + 1 : Nat) : Int)) (now := sinceM zs (i + 1)) (hold := 5) (by omega) (by omega) (by omega) (by decide) (by decide)) (by rw [kB_no]; simp)
  refine ⟨e, ?_⟩
  rw [beginD_yes e, Int.toNat_natCast]
  exact kB_upd zs i
theorem kB_kN (zs : List Int) (m : Nat) : kB zs m = kN zs m 0 := by
  funext j
  have hs := since_b zs j
  unfold kB kN
  by_cases h : 1 ≤ j ∧ j ≤ m
  · rw [if_pos h, if_pos ⟨h.1, h.2, by omega⟩]
  · rw [if_neg h, if_neg (fun e => h ⟨e.1, e.2.1⟩)]
theorem kN_rest (zs : List Int) (m : Nat) (now : Int) : restD (kN zs m now) now = kN zs m (now + 1) := by
  funext j
  unfold restD
  by_cases h : 1 ≤ j ∧ j ≤ m ∧ now ≤ sinceM zs j + 5
  · have e : kN zs m now j = mkM zs j := by unfold kN; rw [if_pos h]
    rw [e]
    unfold dueB
    rw [susp_M, until_M, Bool.true_and]
    by_cases h2 : sinceM zs j + 5 ≤ now
    · rw [if_pos (decide_eq_true h2)]
      unfold kN; rw [if_neg (by omega)]
    · rw [if_neg (by simpa using h2)]
      unfold kN; rw [if_pos (by omega)]
  · have e : kN zs m now j = zIt := by unfold kN; rw [if_neg h]
    rw [e, dueB_z, if_neg (by simp)]
    unfold kN; rw [if_neg (by omega)]
theorem kN_end (zs : List Int) (m : Nat) : allL (kN zs m 30) = [] := by
  have e : kN zs m 30 = newD := by
    funext j
    have hs := since_b zs j
    unfold kN; rw [if_neg (by omega)]; rfl
  rw [e]; exact all_new
theorem kB_len (zs : List Int) : ∀ (m : Nat), m ≤ 30 → (allL (kB zs m)).length = m
  | 0, _ => by rw [kB_zero, all_new]; rfl
  | m + 1, h => by
    have ih := kB_len zs m (by omega)
    have hz : susp (kB zs m (m + 1)) = false := by unfold kB; rw [if_neg (by omega)]; rfl
    unfold allL at ih ⊢
    rw [cut_at susp (kB zs m) (i := m + 1) (by omega), hz] at ih
    rw [← kB_upd, cut_at susp _ (i := m + 1) (by omega), updD_same, susp_M, lo_upd, hi_upd]
    simp only [Bool.false_eq_true, if_false, List.append_nil, List.length_append] at ih
    simp only [if_true, List.length_append, List.length_cons, List.length_nil]
    omega
theorem filter_len {α : Type} (p : α → Bool) : ∀ (l : List α), (l.filter p).length + (l.filter fun x => !p x).length = l.length
  | [] => rfl
  | a :: l => by
    have := filter_len p l
    cases h : p a with
    | true => simp [h]; omega
    | false => simp [h]; omega
theorem kN_len (zs : List Int) (m : Nat) (now : Int) : (dueL (kN zs m now) now).length + (allL (kN zs m (now + 1))).length = (allL (kN zs m now)).length := by
  rw [← kN_rest, all_rest, due_all]
  exact filter_len _ _
/-- who falls due now -/
theorem kN_due {zs : List Int} {m : Nat} {now : Int} {j : Nat} (hj : j < (dueL (kN zs m now) now).length) : ∃ p : Nat, p < m ∧ ((dueL (kN zs m now) now)[j]).id = (p : Int) + 1 ∧ zs.getD p 0 % 16 + 5 = now := by
  have hm : (dueL (kN zs m now) now)[j] ∈ loL (dueB now) (kN zs m now) 33 := List.getElem_mem hj
  obtain ⟨i, hi, e, hq⟩ := mem_lo hm
  rw [e]
  by_cases h : 1 ≤ i ∧ i ≤ m ∧ now ≤ sinceM zs i + 5
  · have e2 : kN zs m now i = mkM zs i := by unfold kN; rw [if_pos h]
    rw [e2] at hq ⊢
    unfold dueB at hq
    rw [susp_M, until_M, Bool.true_and, decide_eq_true_eq] at hq
    refine ⟨i - 1, by omega, ?_, ?_⟩
    · show (i : Int) = _
      omega
    · have : sinceM zs i = zs.getD (i - 1) 0 % 16 := rfl
      omega
  · have e2 : kN zs m now i = zIt := by unfold kN; rw [if_neg h]
    rw [e2, dueB_z] at hq; simp at hq
/-- by their numbers -/
theorem kN_up {zs : List Int} {m : Nat} {now : Int} : (dueL (kN zs m now) now).Pairwise fun a b => a.id < b.id := by
  unfold dueL
  rw [List.pairwise_filter, List.pairwise_map]
  refine List.Pairwise.imp_of_mem ?_ (List.pairwise_lt_range (n := 33))
  intro a b ha hb hab h1 h2
  have val : ∀ i : Nat, dueB now (kN zs m now i) = true → (kN zs m now i).id = i := fun i hi => by
    by_cases h : 1 ≤ i ∧ i ≤ m ∧ now ≤ sinceM zs i + 5
    · unfold kN; rw [if_pos h]; rfl
    · have e2 : kN zs m now i = zIt := by unfold kN; rw [if_neg h]
      rw [e2, dueB_z] at hi; simp at hi
  rw [val a h1, val b h2]
  omega
def MaJ (zs : List Int) (m : Nat) (w : World) (g : Nat) (iv : Value) (wr : World) : Prop := ∃ (i : Nat) (V : Nat → Sl), iv = .int .i64 (i : Nat) ∧ i ≤ m ∧ St w [hD g V (kB zs i)] wr
def MbJ (zs : List Int) (m : Nat) (w : World) (g : Nat) (mv nv : Value) (wr : World) : Prop := ∃ (q now : Nat) (V : Nat → Sl), nv = .int .u64 (now : Nat) ∧ now ≤ 30 ∧ mv = .int .i64 (q : Nat) ∧ q + (allL (kN zs m now)).length = m ∧ St w [hD g V (kN zs m now)] wr
def McJ (q n : Nat) (w5 : World) (mv iv : Value) (wr : World) : Prop := ∃ j : Nat, iv = .int .i64 (j : Nat) ∧ j ≤ n ∧ mv = .int .i64 ((q + j : Nat) : Int) ∧ wr = w5
set_option maxHeartbeats 6400000 in
set_option maxRecDepth 100000 in
theorem many_walk (a : Option Addr) (n cap : Nat) (zs : List Int) (w : World) (hnl : n ≤ 9223372036854775807) (hn : Hid (zs.length = n)) (h8 : Hid (∀ z ∈ zs, 0 ≤ z ∧ z < 256)) (hr : Hid (Rd .u8 w w.heap.size a zs)) :
    Calls Try.prog 6 #[.slice a n cap] w fun e w' => e = .returned (.bool true) ∧ Below w.heap.size w w' := by
  have E := ex_any w
  obtain ⟨m, hm⟩ : ∃ m : Nat, min n 30 = m := ⟨_, rfl⟩
  have hm30 : m ≤ 30 := by omega
  have hmn : m ≤ n := by omega
  replace hm := Lib.hid hm
  go_enter Try.func6, Try.ntmps6
  go_wp2_with fail
  refine E.mono ?_; rintro e w0 ⟨rfl, b0'⟩
  have K := new_l (St.start w w0 b0')
  clear E b0'
  go_wp2_with fail
  refine K.mono ?_; rintro e w1 ⟨g, rfl, s⟩
  have S := Lib.hid s
  clear K s
  go_upto_region 7 with fail
  go_cut [5] (fun c wx => c = .int .i64 (m : Nat) ∧ w1 = wx)
  case first =>
    by_cases c1 : n < 30
    · have d1 : (n : Int) < 30 := by omega
      obtain rfl : n = m := by rw [← hm.out]; omega
      have d2 : ¬ (30 : Int) < (n : Int) := by omega
      have d3 : min (n : Int) 30 = n := by omega
      have d4 : ¬ (30 : Int) ≤ (n : Int) := by omega
      clear hm c1 hm30
      go_wp2_with fail
      go_meet
      exact ⟨rfl, rfl⟩
    · have d1 : ¬ (n : Int) < 30 := by omega
      obtain rfl : 30 = m := by rw [← hm.out]; omega
      have d2 : (30 : Int) ≤ (n : Int) := by omega
      have d3 : min (n : Int) 30 = 30 := by omega
      clear hm c1 hm30
      go_wp2_with fail
      go_meet
      exact ⟨rfl, rfl⟩
  case rest =>
  obtain ⟨rfl, rfl⟩ := hcut
  clear hm
  have hm30' : (m : Int) ≤ 30 := by omega
  have S0 : Hid (MaJ zs m w g (.int .i64 0) w1) := ⟨0, _, rfl, Nat.zero_le _, by rw [kB_zero]; exact S.out⟩
  clear S
  go_wp2_with fail
  go_loopw [6] (fun iv wr => MaJ zs m w g iv wr) (fun iv _ => 31 - (intOf iv).toNat)
  case atStart => exact S0.out
  case round =>
    obtain ⟨i, V, rfl, hi, hs⟩ := hrel
    clear S0
    have HS := Lib.hid hs
    have hI0 : (0 : Int) ≤ i := by omega
    clear hs
    by_cases h1 : i < m
    · have h1' : (i : Int) < m := by omega
      have h1n : (i : Int) < n := by omega
      have hi1 : Hid (i + 1 ≤ m) := h1
      obtain ⟨ba, oa, rfl, hbl, hcc⟩ := (hr.out.below HS.out.below) (by rw [hn.out]; omega)
      have c0 := hcc i (by rw [hn.out]; omega)
      have hx8 := h8.out (zs.getD i 0) (by rw [List.getD_eq_getElem?_getD, List.getElem?_eq_getElem (by rw [hn.out]; omega)]; exact List.getElem_mem _)
      have KB := kB_begin zs i (by omega)
      have hsi : sinceM zs (i + 1) = zs.getD i 0 % 16 := rfl
      generalize zs.getD i 0 = x at *
      have hv2 : x.tmod 16 = sinceM zs (i + 1) := by rw [tmod_pos _ _ hx8.1, hsi]
      have hv0 := since_b zs (i + 1)
      have K1 := begin_l ((i : Int) + 1) 1 (sinceM zs (i + 1)) 5 hv0.1 (by decide) KB.1 KB.2 [] [] HS.out
      generalize sinceM zs (i + 1) = v at *
      have v5 := IntWalk.u8_in v ⟨by omega, by omega⟩
      have v6 := IntWalk.u64_in v ⟨by omega, by omega⟩
      have v7 : IntKind.i64.wrap ((i : Int) + 1) = (i : Int) + 1 := IntWalk.i64_in _ ⟨by omega, by omega⟩
      clear hcc HS h1 hbl hx8 hsi KB
      go_wp2_with fail
      refine K1.mono ?_; rintro e w4 ⟨rfl, V4, s⟩
      replace s := Lib.hid s
      clear K1 c0
      go_wp2
      go_roundw
      case rel => exact ⟨i + 1, V4, by go_num, hi1.out, s.out⟩
      case measure => simp [intOf]; omega
    · obtain rfl : i = m := by omega
      clear h1
      have S1 : Hid (MbJ zs i w g (.int .i64 0) (.int .u64 0) wr) := ⟨0, 0, V, rfl, by omega, rfl, by
        have := kB_len zs i hm30
        rw [kB_kN] at this
        show 0 + (allL (kN zs i 0)).length = i
        omega, by have := HS.out; rw [kB_kN] at this; exact this⟩
      clear HS
      go_wp2_with fail
      go_loopw [7, 8] (fun mv nv wr => MbJ zs i w g mv nv wr) (fun _ nv _ => 31 - (intOf nv).toNat)
      case atStart => exact S1.out
      case round =>
        obtain ⟨q, now, V, rfl, hnow, rfl, hq, hs⟩ := hrel
        clear S1
        have HS := Lib.hid hs
        have HQ := Lib.hid hq
        clear hs hq
        by_cases h3 : now < 30
        · have h3' : (now : Int) < 30 := by omega
          have K1 := due_l (now : Int) rfl (kN_rest zs i now) [] [] HS.out
          have DU := Lib.hid (fun j => kN_due (zs := zs) (m := i) (now := (now : Int)) (j := j))
          have DP := Lib.hid (kN_up (zs := zs) (m := i) (now := (now : Int)))
          have DL := Lib.hid (kN_len zs i (now : Int))
          have hi3 : Hid (now + 1 ≤ 30) := h3
          have HDB : Hid ((dueL (kN zs i (now : Int)) now).length ≤ 33) := lo_len (dueB now) (kN zs i now) 33
          generalize hD2 : dueL (kN zs i (now : Int)) now = D at *
          clear hD2 HS h3
          go_wp2_with fail
          refine K1.mono ?_; rintro e w5 ⟨u, P, V5, rfl, hP, s⟩
          replace hP := Lib.hid hP
          replace s := Lib.hid s
          clear K1
          obtain ⟨ua, un, uc⟩ := u
          have S2 : Hid (McJ q D.length w5 (.int .i64 (q : Nat)) (.int .i64 0) w5) := ⟨0, rfl, Nat.zero_le _, rfl, rfl⟩
          have hD33 : (D.length : Int) ≤ 33 := by have := HDB.out; omega
          have hq30 : (q : Int) ≤ 30 := by have := HQ.out; omega
          go_wp2_with fail
          go_loopw [7, 10] (fun mv iv wr => McJ q D.length w5 mv iv wr) (fun _ iv _ => D.length - (intOf iv).toNat)
          case atStart => exact S2.out
          case round =>
            obtain ⟨j, rfl, hj, rfl, rfl⟩ := hrel
            clear S2
            have hJ0 : (0 : Int) ≤ j := by omega
            by_cases h4 : j < D.length
            · have h4' : (j : Int) < D.length := by omega
              have hj1 : Hid (j + 1 ≤ D.length) := h4
              obtain ⟨p, hp, hid, hz⟩ := DU.out j h4
              have hpn : (p : Int) < n := by omega
              have hp0 : (0 : Int) ≤ p := by omega
              obtain ⟨ba, oa, rfl, hbl, hcc⟩ := (hr.out.below s.out.below) (by rw [hn.out]; omega)
              have c0 := hcc p (by rw [hn.out]; omega)
              have hx8 := h8.out (zs.getD p 0) (by rw [List.getD_eq_getElem?_getD, List.getElem?_eq_getElem (by rw [hn.out]; omega)]; exact List.getElem_mem _)
              generalize zs.getD p 0 = x at *
              obtain ⟨v, hv⟩ : ∃ v, x % 16 = v := ⟨_, rfl⟩
              have hv2 : x.tmod 16 = v := by rw [tmod_pos _ _ hx8.1]; exact hv
              have hv0 : 0 ≤ v ∧ v < 16 := by omega
              rw [hv] at hz
              have v5 := IntWalk.u8_in v ⟨by omega, by omega⟩
              have v6 := IntWalk.u64_in v ⟨by omega, by omega⟩
              have v7 : IntKind.u64.wrap (v + 5) = (now : Int) := by rw [hz]; exact IntWalk.u64_in _ ⟨by omega, by omega⟩
              have hPl : P.length = D.length := by rw [← hP.out, List.length_map]
              obtain ⟨bu, ou, hbo, hbu, cu⟩ := s.out.item (T := 53) (u := ⟨ua, un, uc⟩) (P := P) (by simp) (by omega)
              simp only at hbo
              subst hbo
              have cell : ∀ t : Nat, (ht : t < D.length) → wr.cell? ⟨bu, ou + t * 5, none⟩ = some (.int .i64 D[t].id) := fun t ht => by
                have hx : P[t]? = some P[t] := List.getElem?_eq_getElem (by omega)
                have h5 := cu t _ hx 0 _ rfl
                have h6 : (P.map Prod.fst)[t]? = D[t]? := by rw [hP.out]
                rw [List.getElem?_map, hx, List.getElem?_eq_getElem ht] at h6
                have h7 : P[t].1 = D[t] := by simpa using h6
                rw [Nat.add_zero] at h5
                rw [h5, ← h7]
              have u0 := cell j h4
              obtain ⟨d, hd⟩ : ∃ d, d = (D[j]'h4).id := ⟨_, rfl⟩
              replace hid : d = (p : Int) + 1 := hd.trans hid
              replace u0 : wr.cell? ⟨bu, ou + j * 5, none⟩ = some (.int .i64 d) := by rw [hd]; exact u0
              have e1 : decide (d < 1) = false := decide_eq_false (by omega)
              have e2 : decide ((i : Int) < d) = false := decide_eq_false (by omega)
              have e3 : IntKind.i64.wrap (d - 1) = (p : Int) := by rw [show d - 1 = (p : Int) by omega]; exact IntWalk.i64_in _ ⟨by omega, by omega⟩
              have e4 : ((now : Int) != (now : Int)) = false := by simp
              have k8 : IntKind.i64.wrap (((q + j : Nat) : Int) + 1) = ((q + (j + 1) : Nat) : Int) := by rw [show ((q + j : Nat) : Int) + 1 = ((q + (j + 1) : Nat) : Int) by omega]; exact IntWalk.i64_in _ ⟨by omega, by omega⟩
              clear hcc hx8 hv hz hid hbl hbu cu
              rcases Nat.eq_zero_or_pos j with h5 | h5
              · subst h5
                simp only [Nat.zero_mul, Nat.add_zero] at u0
                clear cell hd DU DP h4
                go_wp2
                go_roundw
                case rel => exact ⟨1, rfl, hj1.out, rfl, rfl⟩
                case measure => simp [intOf]; omega
              · obtain ⟨t, ht⟩ : ∃ t, j = t + 1 := ⟨j - 1, by omega⟩
                have htD : t < D.length := by omega
                have u1 : wr.cell? ⟨bu, ou + t * 5, none⟩ = some (.int .i64 (D[t]'htD).id) := cell t htD
                have e5 : decide (d ≤ (D[t]'htD).id) = false := decide_eq_false (by
                  have h8 := List.pairwise_iff_getElem.1 DP.out t j htD h4 (by omega)
                  rw [hd]
                  exact Int.not_le.2 h8)
                have e6 : IntKind.i64.wrap ((j : Int) - 1) = (t : Int) := by rw [show (j : Int) - 1 = (t : Int) by omega]; exact IntWalk.i64_in _ ⟨by omega, by omega⟩
                have e7 : (0 : Int) < (j : Int) := by omega
                have e8 : decide ((0 : Int) < (j : Int)) = true := decide_eq_true e7
                have e9 : (t : Int) < D.length := by omega
                have e10 : (0 : Int) ≤ t := by omega
                replace ht := Lib.hid ht
                generalize (D[t]'htD).id = d' at *
                clear htD cell hd DU DP h4
                go_wp2
                go_roundw
                case rel => exact ⟨j + 1, by go_num, hj1.out, rfl, rfl⟩
                case measure => simp [intOf]; omega
            · obtain rfl : j = D.length := by omega
              have FS := Lib.hid (s.out.drop)
              have FQ : Hid (q + D.length + (allL (kN zs i (now + 1 : Nat))).length = i) := by
                have h6 := DL.out
                have h7 := HQ.out
                show q + D.length + (allL (kN zs i ((now : Int) + 1))).length = i
                omega
              have k9 : IntKind.u64.wrap ((now : Int) + 1) = (now : Int) + 1 := IntWalk.u64_in _ ⟨by omega, by omega⟩
              clear s DU DP DL HQ h4
              go_wp2
              go_roundw
              case rel => exact ⟨q + D.length, now + 1, V5, by go_num, hi3.out, rfl, FQ.out, FS.out⟩
              case measure => simp [intOf]; omega
        · obtain rfl : now = 30 := by omega
          have hq : q = i := by have := HQ.out; rw [show (((30 : Nat) : Nat) : Int) = 30 from rfl, kN_end] at this; simpa using this
          subst hq
          have L := items_nil (kN_end zs q) (g := g) (V := V) HS.out (by exact List.mem_cons_self) wr (Below.refl _ _)
          have FB := Lib.hid HS.out.below
          clear HS HQ
          go_wp2_with fail
          refine L.mono ?_; rintro e w6 ⟨rfl, b6⟩
          have BE := Lib.hid (FB.out.trans (b6.mono FB.out.size))
          clear b6 L
          go_wp2
          go_ret
          exact ⟨rfl, BE.out⟩
theorem many_run (a : Option Addr) (len cap : Nat) (zs : List Int) (w : World) (wz : ArgRow .u8 w a len cap zs) :
    Calls Try.prog 6 #[.slice a len cap] w fun e w' => e = .returned (.bool true) ∧ Below w.heap.size w w' := by
  obtain ⟨za, h1, h2, h3, h4⟩ := arg_u8m wz
  exact many_walk a len cap za w h4 h1 h2 h3
theorem doubtMany_own : ownKnob Try.prog.godebug = none := by kernel_rfl
theorem doubtMany_laid : laidOutB Try.prog = true := by kernel_rfl
set_option maxRecDepth 100000 in
theorem doubtMany_lifted (os : Os) (started : os.Started) (H : Type) (enc : TypeId × Value → H) :
    ReturnsInHanded {} Try.checked os 6 .any (Rows.doubtManySpec.pre6 enc Try.prog Try.f6 Rows.doubtManyRow.domain false) (Rows.doubtManySpec.post enc Try.prog Try.f6 false true false false) := by
  refine returnsInHanded_of_change (C := Try.checked) doubtMany_own started (by kernel_rfl) Try.func6
    (ChangeSpec.witness6 (enc := enc) (C := Try.checked) false ⟨#[], #[.slice none 0 0], []⟩ 8 (by kernel_rfl) (by kernel_rfl) (by kernel_rfl) (by kernel_rfl)) ?_
  intro W base args ds gs before hval0 hW hcnd _
  have hval : ∀ (j : Nat) t v, Try.f6.params[j]? = some t → args[j]? = some v → Value.okWide Try.prog W .any base t v := hval0
  have hW' := hW
  obtain ⟨p, q, hA0, hV, rfl, hfz, hnd⟩ := hW
  have hA : DataW.TrodAll enc Try.prog W 0 (fun _ => true) true Try.f6.params.toList args.toList ds p := hA0
  rw [Try.params6] at hA hval
  obtain ⟨v0, vs0, d0, ds0, p0, q0, hargs, rfl, rfl, h0, r0⟩ := trodAll_cons hA
  obtain ⟨rfl, rfl, rfl⟩ := trodAll_nil r0
  obtain rfl : args = #[v0] := by cases args; simp_all
  obtain ⟨rfl, rfl⟩ := trodVars_none hV
  obtain ⟨a0, len0, cap0, rfl⟩ := okWide_slice Try.underlying50 (hval 0 50 v0 rfl rfl)
  have k0 := h0
  have lt0 : ∀ x ∈ p0, x.block < W.heap.size := by obtain ⟨m, hm⟩ := k0; exact DataW.trod_lt m _ _ _ hm
  obtain ⟨z0, w0⟩ : ∃ zs, ArgRow .u8 W a0 len0 cap0 zs := by
    obtain ⟨fuel, hf⟩ := h0
    rcases open_ints Try.underlying50 Try.underlying5 (by kernel_rfl) hf with ⟨hcs, _⟩ | ⟨x, l, c, zs, hcs, _, hl, hm, hz, _, hcell, hwz⟩
    · simp [Value.cells] at hcs
      obtain ⟨rfl, rfl, rfl⟩ := hcs
      exact ⟨[], .inl ⟨rfl, rfl, rfl, rfl⟩⟩
    · simp [Value.cells] at hcs
      obtain ⟨rfl, rfl, rfl⟩ := hcs
      exact ⟨zs, .inr ⟨_, rfl, hl, hm, by simpa using hz, hcell, hwz⟩⟩
  clear hA0 hval0
  refine (many_run a0 len0 cap0 z0 W w0).mono fun e W' ⟨he, bel⟩ => ?_
  subst he
  exact ⟨_, rfl, _, _, _, [], _, [], hW', trodAll_mk1 (shut_bool Try.underlying4 _), (trodAll_cons_mk (Below.trod doubtMany_laid (by kernel_rfl) (of_decide_eq_true (by kernel_rfl)) k0 bel lt0) trodAll_mk0), rfl, bel.frame _, fun h => by cases h⟩
theorem doubtMany_over : Rows.doubtManyRow.holds Try.pinned (OpenSpec.ofChange Rows.doubtManySpec) :=
  OpenClaim.holds_of_wide 6 Try.f6 rfl rfl rfl rfl rfl rfl rfl ⟨rfl, rfl, rfl, rfl, rfl⟩ rfl rfl rfl rfl rfl (by kernel_rfl) Try.func6 (by kernel_rfl)
    (of_decide_eq_true (by kernel_rfl)) (by unfold Func.isWrapper; first | (rw [if_pos (by decide +kernel)]; kernel_rfl) | (rw [if_neg (by decide +kernel)]; exact ⟨rfl, rfl⟩))
    (fun os started H enc _ => doubtMany_lifted os started H enc)
theorem doubtMany_holds : Rows.DoubtManySaid := doubtMany_over
#print axioms doubtMany_holds
end Go.Proofs.Ytplllaafllcigaa
