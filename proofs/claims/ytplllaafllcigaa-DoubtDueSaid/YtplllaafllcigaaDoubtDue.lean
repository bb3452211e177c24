/- DoubtDue: one falls due just at its time, and not ahead; who confirms makes it no later, each counts once; with nobody it is all that it holds, with many still something: for every time, however long it holds, whoever confirms. -/
import Derived.Test.YtplllaafllcigaaDbOne
import Derived.Deep.DeepCutAuto
import Derived.ChangeOld
import Derived.ChangeMaps5
import Derived.ShutString
import Derived.OpenShut
import Derived.SizedLaws
namespace Go.Proofs.Ytplllaafllcigaa
open Go.Sort Go.RowKit Go.BigFrame Go.ChangeShapes Go.WideShapes Go.Deep
set_option linter.unusedVariables false
set_option linter.unusedSimpArgs false

theorem arg_u8 {w : World} {a : Option Addr} {len cap : Nat} {zs : List Int} (wz : ArgRow .u8 w a len cap zs) : ∃ ys : List Int, ys.length = len ∧ (∀ z ∈ ys, 0 ≤ z ∧ z < 256) ∧ Rd .u8 w w.heap.size a ys ∧ len ≤ 9223372036854775807 := by
  rcases wz with ⟨rfl, rfl, rfl, rfl⟩ | ⟨x, rfl, h1, h2, h3, h4, h5⟩
  · exact ⟨[], rfl, by simp, Rd.nil _ _ _ _, by omega⟩
  · have hl : (zs.take len).length = len := by rw [List.length_take]; omega
    refine ⟨zs.take len, hl, fun z hz => ?_, fun hp => ?_, by unfold maxLen at h2; omega⟩
    · have := bounds_u8 (h5 z (List.mem_of_mem_take hz)); omega
    · obtain ⟨b, off, spot⟩ := x
      have h0 := h4 0 (by omega)
      have hs : spot = none := by simpa [Addr.add] using World.cell?_spot h0
      subst hs
      refine ⟨b, off, rfl, by simpa [Addr.add] using World.block_lt_of_cell? _ _ h0, fun i hi => ?_⟩
      have := h4 i (by omega)
      rw [add_at] at this
      rw [this]
      have : i < len := by omega
      simp [List.getD_eq_getElem?_getD, List.getElem?_take, this]

/-- when one falls due whom m confirm -/
def uM (t h : Int) (m : Nat) : Int := t + (h + m) / ((m : Int) + 1)
theorem until_uM (t h : Int) (W : List Int) : untilI ⟨5, 3, t, h, W⟩ = uM t h W.length := rfl
theorem uM_zero (t h : Int) : uM t h 0 = t + h := by unfold uM; simp
theorem uM_step (t h : Int) (m : Nat) (hh : 1 ≤ h) : uM t h (m + 1) ≤ uM t h m := by
  unfold uM
  have hm : (0 : Int) < (m : Int) + 1 := by omega
  have hm2 : (0 : Int) < ((m + 1 : Nat) : Int) + 1 := by omega
  have h1 : (h + m) / ((m : Int) + 1) < (h + m) / ((m : Int) + 1) + 1 := by omega
  rw [Int.ediv_lt_iff_lt_mul hm] at h1
  have h0 : 0 ≤ (h + m) / ((m : Int) + 1) := Int.ediv_nonneg (by omega) (by omega)
  have h2 : (h + ((m + 1 : Nat) : Int)) / (((m + 1 : Nat) : Int) + 1) < (h + m) / ((m : Int) + 1) + 1 := by
    rw [Int.ediv_lt_iff_lt_mul hm2]
    generalize (h + m) / ((m : Int) + 1) = q at *
    have e1 : (q + 1) * (((m + 1 : Nat) : Int) + 1) = (q + 1) * ((m : Int) + 1) + (q + 1) := by
      rw [show (((m + 1 : Nat) : Int) + 1) = ((m : Int) + 1) + 1 by omega, Int.mul_add (q + 1) ((m : Int) + 1) 1, Int.mul_one]
    rw [e1]
    omega
  omega
theorem uM_lo (t h : Int) (m : Nat) (hh : 1 ≤ h) : t < uM t h m := by
  unfold uM
  have hm : (0 : Int) < (m : Int) + 1 := by omega
  have : 1 ≤ (h + m) / ((m : Int) + 1) := by rw [Int.le_ediv_iff_mul_le hm]; omega
  omega
theorem uM_hi (t h : Int) (hh : 1 ≤ h) : ∀ m, uM t h m ≤ t + h
  | 0 => by rw [uM_zero]; exact Int.le_refl _
  | m + 1 => Int.le_trans (uM_step t h m hh) (uM_hi t h hh m)
def DuJ (n : Nat) (w : World) (g : Nat) (t h : Int) (lv mv iv : Value) (wr : World) : Prop :=
  ∃ (i : Nat) (W : List Int) (V : Nat → Sl), iv = .int .i64 (i : Nat) ∧ i ≤ n ∧ i ≤ 20 ∧ W.length ≤ i ∧ lv = .int .u64 (uM t h W.length) ∧ mv = .int .u64 ((W.length : Int) + 1) ∧ St w [hD g V (oneD 5 ⟨5, 3, t, h, W⟩)] wr
/-- what a number confirms -/
theorem conf_ways (t h : Int) (W : List Int) (v : Int) (hh : 1 ≤ h) : ∃ (F : Int) (W' : List Int), confE (oneD 5 ⟨5, 3, t, h, W⟩) 5 3 v = F ∧ confD (oneD 5 ⟨5, 3, t, h, W⟩) 5 3 v = oneD 5 ⟨5, 3, t, h, W'⟩ ∧ ((F = 0 ∧ W'.length = W.length + 1) ∨ ((F == 0) = false ∧ F ≠ 0 ∧ W' = W)) := by
  by_cases h1 : nodeI v = false ∨ v = 5
  · obtain ⟨e1, e2⟩ := conf_one_arg (n := 5) (x := ⟨5, 3, t, h, W⟩) (inc := 3) h1
    exact ⟨1, W, e1, e2, .inr ⟨rfl, by decide, rfl⟩⟩
  · have h2 : nodeI v = true ∧ v ≠ 5 := by
      simp only [not_or, Bool.not_eq_false] at h1
      exact h1
    by_cases h3 : v ∈ W
    · obtain ⟨e1, e2⟩ := conf_one_old (n := 5) (x := ⟨5, 3, t, h, W⟩) (by decide) (by decide) hh h2.1 h2.2 h3
      exact ⟨6, W, e1, e2, .inr ⟨rfl, by decide, rfl⟩⟩
    · obtain ⟨e1, e2⟩ := conf_one (n := 5) (x := ⟨5, 3, t, h, W⟩) (by decide) (by decide) hh h2.1 h2.2 h3
      exact ⟨0, _, e1, e2, .inl ⟨rfl, ins_len v W⟩⟩
set_option maxHeartbeats 6400000 in
set_option maxRecDepth 100000 in
theorem due_walk (t y : Int) (ht : 0 ≤ t ∧ t ≤ 65535) (hy : 0 ≤ y ∧ y ≤ 65535) (a : Option Addr) (n cap : Nat) (zs : List Int) (w : World) (hn : Hid (zs.length = n)) (h8 : Hid (∀ z ∈ zs, 0 ≤ z ∧ z < 256)) (hr : Hid (Rd .u8 w w.heap.size a zs)) :
    Calls Try.prog 4 #[.int .u16 t, .int .u16 y, .slice a n cap] w fun e w' => e = .returned (.bool true) ∧ Below w.heap.size w w' := by
  have E := ex_any w
  have v0 := IntWalk.u64_in t ⟨by omega, by omega⟩
  have v1 := IntWalk.u64_in y ⟨by omega, by omega⟩
  obtain ⟨h, hh⟩ : ∃ h, 1 + y = h := ⟨_, rfl⟩
  have k1 : IntKind.u64.wrap (1 + y) = h := by rw [hh]; exact IntWalk.u64_in h ⟨by omega, by omega⟩
  have b0 : 1 ≤ h ∧ h ≤ 65536 := by omega
  clear hh
  have k4 : IntKind.u64.wrap (t + h) = t + h := IntWalk.u64_in _ ⟨by omega, by omega⟩
  have F1 := Lib.hid (begin_one (n := 5) (inc := 3) (now := t) (hold := h) (by decide) (by decide) (by omega) b0.1 (by omega))
  have F2 : Hid (untilV (oneD 5 ⟨5, 3, t, h, []⟩) 5 = t + h ∧ suspI (oneD 5 ⟨5, 3, t, h, []⟩) 5 = true) := by
    obtain ⟨e1, e2⟩ := until_one (n := 5) (x := ⟨5, 3, t, h, []⟩) (by decide) (by decide) b0.1
    exact ⟨e1.trans ((until_uM t h []).trans (uM_zero t h)), e2⟩
  have UZ := Lib.hid (uM_zero t h)
  have UL := Lib.hid (fun m => uM_lo t h m b0.1)
  have UH := Lib.hid (fun m => uM_hi t h b0.1 m)
  have US := Lib.hid (fun m => uM_step t h m b0.1)
  have BT := Lib.hid ht
  have BH := Lib.hid b0
  clear ht hy b0
  go_enter Try.func4, Try.ntmps4
  go_wp2_with fail
  refine E.mono ?_; rintro e w0 ⟨rfl, b0'⟩
  have K := new_l (St.start w w0 b0')
  clear E b0'
  go_wp2_with fail
  refine K.mono ?_; rintro e w1 ⟨g, rfl, s⟩
  clear K
  have K := begin_l 5 3 t h BT.out.1 (by have := BH.out.1; omega) F1.out.1 F1.out.2 [] [] s
  clear s
  go_wp2_with fail
  refine K.mono ?_; rintro e w2 ⟨rfl, V2, s⟩
  clear K
  have K := until_l 5 F2.out.1 F2.out.2 s (g := g) (V := V2) (by exact List.mem_cons_self)
  clear s
  go_wp2_with fail
  refine K.mono ?_; rintro e w3 ⟨rfl, s⟩
  have S0 : Hid (DuJ n w g t h (.int .u64 (t + h)) (.int .u64 1) (.int .i64 0) w3) := ⟨0, [], V2, rfl, Nat.zero_le _, by omega, Nat.le_refl _, by rw [← UZ.out]; rfl, rfl, s⟩
  clear K s
  go_wp2_with fail
  go_loopw [12, 15, 16] (fun lv mv iv wr => DuJ n w g t h lv mv iv wr) (fun _ _ iv _ => 21 - (intOf iv).toNat)
  case atStart => exact S0.out
  case round =>
    obtain ⟨i, W, V, rfl, hi, hi20, hWi, rfl, rfl, hs⟩ := hrel
    clear S0
    have HS := Lib.hid hs
    have hI0 : (0 : Int) ≤ i := by omega
    have HWI := Lib.hid hWi
    clear hs hWi
    have hfin : ∀ (cnd : ¬ (i < n ∧ i < 20)), True := fun _ => trivial
    by_cases h1 : i < n
    · have h1' : (i : Int) < n := by omega
      have h1d : decide ((i : Int) < n) = true := decide_eq_true h1'
      by_cases h2 : i < 20
      · have h2' : (i : Int) < 20 := by omega
        have h2d : decide ((i : Int) < 20) = true := decide_eq_true h2'
        have hi1 : Hid (i + 1 ≤ n) := h1
        have hi2 : Hid (i + 1 ≤ 20) := h2
        obtain ⟨ba, oa, rfl, hbl, hcc⟩ := (hr.out.below HS.out.below) (by rw [hn.out]; omega)
        have c0 := hcc i (by rw [hn.out]; exact h1)
        have hx8 := h8.out (zs.getD i 0) (by rw [List.getD_eq_getElem?_getD, List.getElem?_eq_getElem (by rw [hn.out]; exact h1)]; exact List.getElem_mem _)
        generalize zs.getD i 0 = x at *
        obtain ⟨v, hv⟩ : ∃ v, x % 40 = v := ⟨_, rfl⟩
        have hv2 : x.tmod 40 = v := by rw [tmod_pos _ _ hx8.1]; exact hv
        have hv0 : 0 ≤ v ∧ v < 40 := by omega
        have v5 := IntWalk.u8_in v ⟨by omega, by omega⟩
        have v6 := IntWalk.i64_in v ⟨by omega, by omega⟩
        obtain ⟨F, W', e1, e2, hw⟩ := conf_ways t h W v BH.out.1
        have K1 := conf_l 5 3 v e1 e2 [] [] HS.out
        have HW := Lib.hid hw
        have HX : Hid (untilV (oneD 5 ⟨5, 3, t, h, W'⟩) 5 = uM t h W'.length ∧ suspI (oneD 5 ⟨5, 3, t, h, W'⟩) 5 = true) := by
          obtain ⟨e1, e2⟩ := until_one (n := 5) (x := ⟨5, 3, t, h, W'⟩) (by decide) (by decide) BH.out.1
          exact ⟨e1.trans (until_uM t h W'), e2⟩
        have hle : uM t h W'.length ≤ uM t h W.length := by
          rcases hw with ⟨_, e⟩ | ⟨_, _, e⟩
          · rw [e]; exact US.out _
          · rw [e]; exact Int.le_refl _
        have hlo := UL.out W'.length
        have g1 : decide (uM t h W.length < uM t h W'.length) = false := decide_eq_false (by omega)
        have g2 : decide (uM t h W'.length ≤ t) = false := decide_eq_false (by omega)
        have HML : Hid (W.length ≤ 20) := by have := HWI.out; show _ ≤ _; omega
        have k9 : IntKind.u64.wrap ((W.length : Int) + 1 + 1) = (W.length : Int) + 1 + 1 := by have := HML.out; exact IntWalk.u64_in _ ⟨by omega, by omega⟩
        clear hcc HS h1 h2 hbl hx8 hv hw e1 e2 hlo hle
        generalize hu1 : uM t h W.length = U1 at *
        generalize hu2 : uM t h W'.length = U2 at *
        replace hu2 := Lib.hid hu2
        clear hu1
        go_wp2_with fail
        refine K1.mono ?_; rintro e w4 ⟨rfl, V4, s⟩
        clear K1 c0
        have K2 := until_l 5 HX.out.1 HX.out.2 s (g := g) (V := V4) (by exact List.mem_cons_self)
        clear s
        go_wp2_with fail
        refine K2.mono ?_; rintro e w5 ⟨rfl, s⟩
        replace s := Lib.hid s
        clear K2
        rcases HW.out with ⟨rfl, hl⟩ | ⟨q1, q2, rfl⟩
        · replace hl := Lib.hid hl
          clear HW
          go_wp2
          go_roundw
          case rel => exact ⟨i + 1, W', V4, by go_num, hi1.out, hi2.out, by rw [hl.out]; have := HWI.out; omega, by rw [hu2.out], by rw [hl.out]; go_num, s.out⟩
          case measure => simp [intOf]; omega
        · clear HW
          go_wp2
          go_roundw
          case rel => exact ⟨i + 1, _, V4, by go_num, hi1.out, hi2.out, Nat.le_trans HWI.out (Nat.le_succ _), by rw [hu2.out], rfl, s.out⟩
          case measure => simp [intOf]; omega
      · obtain rfl : i = 20 := by omega
        have h2d : decide (((20 : Nat) : Int) < 20) = false := rfl
        clear h2
        obtain ⟨m, hm⟩ : ∃ m, W.length = m := ⟨_, rfl⟩
        have hm20 : m ≤ 20 := by have := HWI.out; omega
        have hlo := UL.out m
        have hhi := UH.out m
        have bt := BT.out
        have bh := BH.out
        obtain ⟨U, hU⟩ : ∃ U, uM t h m = U := ⟨_, rfl⟩
        rw [hU] at hlo hhi
        obtain ⟨U0, hU0⟩ : ∃ U0, U - 1 = U0 := ⟨_, rfl⟩
        have k10 : IntKind.u64.wrap (U - 1) = U0 := by rw [hU0]; exact IntWalk.u64_in _ ⟨by omega, by omega⟩
        have D1 : Hid (dueL (oneD 5 ⟨5, 3, t, h, W⟩) U0 = [] ∧ restD (oneD 5 ⟨5, 3, t, h, W⟩) U0 = oneD 5 ⟨5, 3, t, h, W⟩) := by
          have hd : dueB U0 ⟨5, 3, t, h, W⟩ = false := by
            unfold dueB
            rw [until_uM, hm, hU, decide_eq_false (by omega), Bool.and_false]
          show _ = _ ∧ _ = _
          rw [one_due (by decide), one_rest, hd]
          exact ⟨rfl, rfl⟩
        have D2 : Hid (dueL (oneD 5 ⟨5, 3, t, h, W⟩) U = [⟨5, 3, t, h, W⟩] ∧ restD (oneD 5 ⟨5, 3, t, h, W⟩) U = newD) := by
          have hd : dueB U ⟨5, 3, t, h, W⟩ = true := by
            unfold dueB
            rw [until_uM, hm, hU, decide_eq_true (Int.le_refl _), susp_yes (by exact bh.1)]; rfl
          show _ = _ ∧ _ = _
          rw [one_due (by decide), one_rest, hd]
          exact ⟨rfl, rfl⟩
        obtain ⟨Q, hQ⟩ : ∃ Q, (h + m) / ((m : Int) + 1) = Q := ⟨_, rfl⟩
        have hUQ : t + Q = U := by rw [← hU, ← hQ]; rfl
        have k11 : IntKind.u64.wrap (h + ((m : Int) + 1)) = h + ((m : Int) + 1) := IntWalk.u64_in _ ⟨by omega, by omega⟩
        have k12 : IntKind.u64.wrap (h + ((m : Int) + 1) - 1) = h + m := by rw [show h + ((m : Int) + 1) - 1 = h + m by omega]; exact IntWalk.u64_in _ ⟨by omega, by omega⟩
        have k13 : (h + (m : Int)).tdiv ((m : Int) + 1) = Q := by rw [Int.tdiv_eq_ediv_of_nonneg (by omega)]; exact hQ
        have k14 : IntKind.u64.wrap Q = Q := IntWalk.u64_in _ ⟨by omega, by omega⟩
        have k15 : IntKind.u64.wrap (t + Q) = U := by rw [hUQ]; exact IntWalk.u64_in _ ⟨by omega, by omega⟩
        have k16 : IntKind.u64.wrap (m : Int) = m := IntWalk.u64_in _ ⟨by omega, by omega⟩
        have k17 : IntKind.u64.wrap ((m : Int) + 1 - 1) = m := by rw [show (m : Int) + 1 - 1 = m by omega]; exact k16
        have z1 : ((m : Int) + 1 == 0) = false := by rw [beq_eq_false_iff_ne]; omega
        have z2 : ¬ (m : Int) + 1 = 0 := by omega
        rw [hm, hU]
        have KA := due_l U0 D1.out.1 D1.out.2 [] [] HS.out
        clear HS hU hU0 hQ hUQ hlo hhi hm20 bt bh
        go_wp2_with fail
        refine KA.mono ?_; rintro e w6 ⟨u1, P1, V6, rfl, hP1, s⟩
        clear KA hP1
        have KB := due_l U D2.out.1 D2.out.2 [_] [] s
        clear s
        go_wp2_with fail
        refine KB.mono ?_; rintro e w7 ⟨u, P, V7, rfl, hP, s⟩
        obtain ⟨s1, rfl⟩ := map_one hP
        clear KB hP
        have KC := due_l U (due_new U) (rest_new U) [_, _] [] s
        clear s
        go_wp2_with fail
        refine KC.mono ?_; rintro e w8 ⟨u2, P2, V8, rfl, hP2, s⟩
        clear KC hP2
        obtain ⟨bu, ou, hu, hbu, cu⟩ := s.item (T := 53) (u := u) (P := [(⟨5, 3, t, h, W⟩, s1)]) (by simp) (by simp)
        have n1 := s.who (T := 53) (u := u) (P := [(⟨5, 3, t, h, W⟩, s1)]) (by simp) (p := (⟨5, 3, t, h, W⟩, s1)) (by simp)
        have u0 := cu 0 _ rfl 0 _ rfl
        have u4 := cu 0 _ rfl 4 _ rfl
        obtain ⟨ua, un, uc⟩ := u
        obtain ⟨sa, sn, sc⟩ := s1
        simp only at hu n1
        subst hu
        rw [hm] at n1
        have n2 : sn = m := n1
        subst n2
        simp only [Nat.zero_mul, Nat.add_zero] at u0 u4
        have FB := Lib.hid s.below
        clear s cu n1 hm
        simp only [List.length_cons, List.length_nil]
        go_wp2
        go_ret
        exact ⟨rfl, FB.out⟩
    · obtain rfl : i = n := by omega
      have h1d : decide ((i : Int) < i) = false := decide_eq_false (by omega)
      clear h1
      obtain ⟨m, hm⟩ : ∃ m, W.length = m := ⟨_, rfl⟩
      have hm20 : m ≤ 20 := by have := HWI.out; omega
      have hlo := UL.out m
      have hhi := UH.out m
      have bt := BT.out
      have bh := BH.out
      obtain ⟨U, hU⟩ : ∃ U, uM t h m = U := ⟨_, rfl⟩
      rw [hU] at hlo hhi
      obtain ⟨U0, hU0⟩ : ∃ U0, U - 1 = U0 := ⟨_, rfl⟩
      have k10 : IntKind.u64.wrap (U - 1) = U0 := by rw [hU0]; exact IntWalk.u64_in _ ⟨by omega, by omega⟩
      have D1 : Hid (dueL (oneD 5 ⟨5, 3, t, h, W⟩) U0 = [] ∧ restD (oneD 5 ⟨5, 3, t, h, W⟩) U0 = oneD 5 ⟨5, 3, t, h, W⟩) := by
        have hd : dueB U0 ⟨5, 3, t, h, W⟩ = false := by
          unfold dueB
          rw [until_uM, hm, hU, decide_eq_false (by omega), Bool.and_false]
        show _ = _ ∧ _ = _
        rw [one_due (by decide), one_rest, hd]
        exact ⟨rfl, rfl⟩
      have D2 : Hid (dueL (oneD 5 ⟨5, 3, t, h, W⟩) U = [⟨5, 3, t, h, W⟩] ∧ restD (oneD 5 ⟨5, 3, t, h, W⟩) U = newD) := by
        have hd : dueB U ⟨5, 3, t, h, W⟩ = true := by
          unfold dueB
          rw [until_uM, hm, hU, decide_eq_true (Int.le_refl _), susp_yes (by exact bh.1)]; rfl
        show _ = _ ∧ _ = _
        rw [one_due (by decide), one_rest, hd]
        exact ⟨rfl, rfl⟩
      obtain ⟨Q, hQ⟩ : ∃ Q, (h + m) / ((m : Int) + 1) = Q := ⟨_, rfl⟩
      have hUQ : t + Q = U := by rw [← hU, ← hQ]; rfl
      have k11 : IntKind.u64.wrap (h + ((m : Int) + 1)) = h + ((m : Int) + 1) := IntWalk.u64_in _ ⟨by omega, by omega⟩
      have k12 : IntKind.u64.wrap (h + ((m : Int) + 1) - 1) = h + m := by rw [show h + ((m : Int) + 1) - 1 = h + m by omega]; exact IntWalk.u64_in _ ⟨by omega, by omega⟩
      have k13 : (h + (m : Int)).tdiv ((m : Int) + 1) = Q := by rw [Int.tdiv_eq_ediv_of_nonneg (by omega)]; exact hQ
      have k14 : IntKind.u64.wrap Q = Q := IntWalk.u64_in _ ⟨by omega, by omega⟩
      have k15 : IntKind.u64.wrap (t + Q) = U := by rw [hUQ]; exact IntWalk.u64_in _ ⟨by omega, by omega⟩
      have k16 : IntKind.u64.wrap (m : Int) = m := IntWalk.u64_in _ ⟨by omega, by omega⟩
      have k17 : IntKind.u64.wrap ((m : Int) + 1 - 1) = m := by rw [show (m : Int) + 1 - 1 = m by omega]; exact k16
      have z1 : ((m : Int) + 1 == 0) = false := by rw [beq_eq_false_iff_ne]; omega
      have z2 : ¬ (m : Int) + 1 = 0 := by omega
      rw [hm, hU]
      have KA := due_l U0 D1.out.1 D1.out.2 [] [] HS.out
      clear HS hU hU0 hQ hUQ hlo hhi hm20 bt bh
      go_wp2_with fail
      refine KA.mono ?_; rintro e w6 ⟨u1, P1, V6, rfl, hP1, s⟩
      clear KA hP1
      have KB := due_l U D2.out.1 D2.out.2 [_] [] s
      clear s
      go_wp2_with fail
      refine KB.mono ?_; rintro e w7 ⟨u, P, V7, rfl, hP, s⟩
      obtain ⟨s1, rfl⟩ := map_one hP
      clear KB hP
      have KC := due_l U (due_new U) (rest_new U) [_, _] [] s
      clear s
      go_wp2_with fail
      refine KC.mono ?_; rintro e w8 ⟨u2, P2, V8, rfl, hP2, s⟩
      clear KC hP2
      obtain ⟨bu, ou, hu, hbu, cu⟩ := s.item (T := 53) (u := u) (P := [(⟨5, 3, t, h, W⟩, s1)]) (by simp) (by simp)
      have n1 := s.who (T := 53) (u := u) (P := [(⟨5, 3, t, h, W⟩, s1)]) (by simp) (p := (⟨5, 3, t, h, W⟩, s1)) (by simp)
      have u0 := cu 0 _ rfl 0 _ rfl
      have u4 := cu 0 _ rfl 4 _ rfl
      obtain ⟨ua, un, uc⟩ := u
      obtain ⟨sa, sn, sc⟩ := s1
      simp only at hu n1
      subst hu
      rw [hm] at n1
      have n2 : sn = m := n1
      subst n2
      simp only [Nat.zero_mul, Nat.add_zero] at u0 u4
      have FB := Lib.hid s.below
      clear s cu n1 hm
      simp only [List.length_cons, List.length_nil]
      go_wp2
      go_ret
      exact ⟨rfl, FB.out⟩
theorem due_run (t y : Int) (a : Option Addr) (len cap : Nat) (zs : List Int) (w : World) (wt : (Lit.int .u16 t).wf = true) (wy : (Lit.int .u16 y).wf = true) (wz : ArgRow .u8 w a len cap zs) :
    Calls Try.prog 4 #[.int .u16 t, .int .u16 y, .slice a len cap] w fun e w' => e = .returned (.bool true) ∧ Below w.heap.size w w' := by
  obtain ⟨za, h1, h2, h3, _⟩ := arg_u8 wz
  exact due_walk t y (bounds_u16 wt) (bounds_u16 wy) a len cap za w h1 h2 h3
theorem doubtDue_own : ownKnob Try.prog.godebug = none := by kernel_rfl
theorem doubtDue_laid : laidOutB Try.prog = true := by kernel_rfl
set_option maxRecDepth 100000 in
theorem doubtDue_lifted (os : Os) (started : os.Started) (H : Type) (enc : TypeId × Value → H) :
    ReturnsInHanded {} Try.checked os 4 .any (Rows.doubtDueSpec.pre6 enc Try.prog Try.f4 Rows.doubtDueRow.domain false) (Rows.doubtDueSpec.post enc Try.prog Try.f4 false true false false) := by
  refine returnsInHanded_of_change (C := Try.checked) doubtDue_own started (by kernel_rfl) Try.func4
    (ChangeSpec.witness6 (enc := enc) (C := Try.checked) false ⟨#[], #[.int .u16 0, .int .u16 0, .slice none 0 0], []⟩ 8 (by kernel_rfl) (by kernel_rfl) (by kernel_rfl) (by kernel_rfl)) ?_
  intro W base args ds gs before hval0 hW hcnd _
  have hval : ∀ (j : Nat) t v, Try.f4.params[j]? = some t → args[j]? = some v → Value.okWide Try.prog W .any base t v := hval0
  have hW' := hW
  obtain ⟨p, q, hA0, hV, rfl, hfz, hnd⟩ := hW
  have hA : DataW.TrodAll enc Try.prog W 0 (fun _ => true) true Try.f4.params.toList args.toList ds p := hA0
  rw [Try.params4] at hA hval
  obtain ⟨v0, vs0, d0, ds0, p0, q0, hargs, rfl, rfl, h0, r0⟩ := trodAll_cons hA
  obtain ⟨v1, vs1, d1, ds1, p1, q1, rfl, rfl, rfl, h1, r1⟩ := trodAll_cons r0
  obtain ⟨v2, vs2, d2, ds2, p2, q2, rfl, rfl, rfl, h2, r2⟩ := trodAll_cons r1
  obtain ⟨rfl, rfl, rfl⟩ := trodAll_nil r2
  obtain rfl : args = #[v0, v1, v2] := by cases args; simp_all
  obtain ⟨rfl, rfl⟩ := trodVars_none hV
  obtain ⟨a0, rfl, rfl, rfl, w0⟩ := open_int Try.underlying49 (hval 0 49 v0 rfl rfl) h0
  obtain ⟨a1, rfl, rfl, rfl, w1⟩ := open_int Try.underlying49 (hval 1 49 v1 rfl rfl) h1
  obtain ⟨a2, len2, cap2, rfl⟩ := okWide_slice Try.underlying50 (hval 2 50 v2 rfl rfl)
  have k2 := h2
  have lt2 : ∀ x ∈ p2, x.block < W.heap.size := by obtain ⟨m, hm⟩ := k2; exact DataW.trod_lt m _ _ _ hm
  obtain ⟨z2, w2⟩ : ∃ zs, ArgRow .u8 W a2 len2 cap2 zs := by
    obtain ⟨fuel, hf⟩ := h2
    rcases open_ints Try.underlying50 Try.underlying5 (by kernel_rfl) hf with ⟨hcs, _⟩ | ⟨x, l, c, zs, hcs, _, hl, hm, hz, _, hcell, hwz⟩
    · simp [Value.cells] at hcs
      obtain ⟨rfl, rfl, rfl⟩ := hcs
      exact ⟨[], .inl ⟨rfl, rfl, rfl, rfl⟩⟩
    · simp [Value.cells] at hcs
      obtain ⟨rfl, rfl, rfl⟩ := hcs
      exact ⟨zs, .inr ⟨_, rfl, hl, hm, by simpa using hz, hcell, hwz⟩⟩
  clear hA0 hval0
  refine (due_run a0 a1 a2 len2 cap2 z2 W w0 w1 w2).mono fun e W' ⟨he, bel⟩ => ?_
  subst he
  exact ⟨_, rfl, _, _, _, [], _, [], hW', trodAll_mk1 (shut_bool Try.underlying4 _), (trodAll_cons_mk (shut_int Try.underlying49 w0) (trodAll_cons_mk (shut_int Try.underlying49 w1) (trodAll_cons_mk (Below.trod doubtDue_laid (by kernel_rfl) (of_decide_eq_true (by kernel_rfl)) k2 bel lt2) trodAll_mk0))), rfl, bel.frame _, fun h => by cases h⟩
theorem doubtDue_over : Rows.doubtDueRow.holds Try.pinned (OpenSpec.ofChange Rows.doubtDueSpec) :=
  OpenClaim.holds_of_wide 4 Try.f4 rfl rfl rfl rfl rfl rfl rfl ⟨rfl, rfl, rfl, rfl, rfl⟩ rfl rfl rfl rfl rfl (by kernel_rfl) Try.func4 (by kernel_rfl)
    (of_decide_eq_true (by kernel_rfl)) (by unfold Func.isWrapper; first | (rw [if_pos (by decide +kernel)]; kernel_rfl) | (rw [if_neg (by decide +kernel)]; exact ⟨rfl, rfl⟩))
    (fun os started H enc _ => doubtDue_lifted os started H enc)
theorem doubtDue_holds : Rows.DoubtDueSaid := doubtDue_over
#print axioms doubtDue_holds
end Go.Proofs.Ytplllaafllcigaa
