/- ReachVotes: the address that is told is one that was voted for, by no less than any other one; old votes do not count: for at most thirty votes, by whomever, for whichever of five addresses, at any time. -/
import Derived.Test.YtnkjepemliccpaaRcArg
import Derived.Test.YtnkjepemliccpaaRcBest
namespace Go.Proofs.Ytnkjepemliccpaa
open Go.Sort Go.RowKit Go.BigFrame Go.ChangeShapes Go.WideShapes Go.Deep
set_option linter.unusedVariables false
set_option linter.unusedSimpArgs false

def rU (A : Nat → Nat) : List Value := rowF 33 fun j => .int .u64 (A j : Nat)
def rI (n : Nat) (W : Nat → Nat) : List Value := rowF n fun j => .int .i64 (W j : Nat)
theorem rU_zero : (rU fun _ => 0) = [.int .u64 0, .int .u64 0, .int .u64 0, .int .u64 0, .int .u64 0, .int .u64 0, .int .u64 0, .int .u64 0, .int .u64 0, .int .u64 0, .int .u64 0, .int .u64 0, .int .u64 0, .int .u64 0, .int .u64 0, .int .u64 0, .int .u64 0, .int .u64 0, .int .u64 0, .int .u64 0, .int .u64 0, .int .u64 0, .int .u64 0, .int .u64 0, .int .u64 0, .int .u64 0, .int .u64 0, .int .u64 0, .int .u64 0, .int .u64 0, .int .u64 0, .int .u64 0, .int .u64 0] := by kernel_rfl
theorem rI_zero : (rI 33 fun _ => 0) = [.int .i64 0, .int .i64 0, .int .i64 0, .int .i64 0, .int .i64 0, .int .i64 0, .int .i64 0, .int .i64 0, .int .i64 0, .int .i64 0, .int .i64 0, .int .i64 0, .int .i64 0, .int .i64 0, .int .i64 0, .int .i64 0, .int .i64 0, .int .i64 0, .int .i64 0, .int .i64 0, .int .i64 0, .int .i64 0, .int .i64 0, .int .i64 0, .int .i64 0, .int .i64 0, .int .i64 0, .int .i64 0, .int .i64 0, .int .i64 0, .int .i64 0, .int .i64 0, .int .i64 0] := by kernel_rfl
theorem r6_zero : (rI 6 fun _ => 0) = [.int .i64 0, .int .i64 0, .int .i64 0, .int .i64 0, .int .i64 0, .int .i64 0] := by kernel_rfl
theorem rU_len (A : Nat → Nat) : (rU A).length = 33 := rowF_len _ _
theorem rI_len (n : Nat) (W : Nat → Nat) : (rI n W).length = n := rowF_len _ _
theorem rU_at (A : Nat → Nat) {j : Nat} (h : j < 33) : (rU A)[j]? = some (.int .u64 (A j : Nat)) := rowF_at _ _ _ h
theorem rI_at (n : Nat) (W : Nat → Nat) {j : Nat} (h : j < n) : (rI n W)[j]? = some (.int .i64 (W j : Nat)) := rowF_at _ _ _ h
theorem rU_set (A : Nat → Nat) (k x : Nat) : (rU A).set k (.int .u64 (x : Nat)) = rU (updN A k x) := by
  unfold rU; rw [rowF_set]; exact rowF_congr fun j _ => by unfold updN; by_cases h : j = k <;> simp [h]
theorem rI_set (n : Nat) (W : Nat → Nat) (k x : Nat) : (rI n W).set k (.int .i64 (x : Nat)) = rI n (updN W k x) := by
  unfold rI; rw [rowF_set]; exact rowF_congr fun j _ => by unfold updN; by_cases h : j = k <;> simp [h]
theorem rI_congr {n : Nat} {a b : Nat → Nat} (h : ∀ j, j < n → a j = b j) : rI n a = rI n b := rowF_congr fun j hj => by show Value.int .i64 (a j : Nat) = Value.int .i64 (b j : Nat); rw [h j hj]
def Hs (bA bW g : Nat) (W A : Nat → Nat) : List Hl := [hC bA (rU A), hC bW (rI 33 W), hR g (kW W A)]
def VaJ (bA bW g : Nat) (w : World) (iv : Value) (wr : World) : Prop := ∃ (i : Nat) (W A : Nat → Nat), iv = .int .i64 (i : Nat) ∧ i ≤ 30 ∧ OkW W A ∧ St w (Hs bA bW g W A) wr
def VbJ (bA bW bM g : Nat) (W A : Nat → Nat) (t : Nat) (w : World) (iv : Value) (wr : World) : Prop := ∃ j : Nat, iv = .int .i64 (j : Nat) ∧ 1 ≤ j ∧ j ≤ 33 ∧ St w (hC bM (rI 6 (cM W A t j)) :: Hs bA bW g W A) wr
def VcJ (bA bW bM g : Nat) (W A : Nat → Nat) (t : Nat) (w : World) (bv iv : Value) (wr : World) : Prop := ∃ j b : Nat, iv = .int .i64 (j : Nat) ∧ bv = .int .i64 (b : Nat) ∧ 1 ≤ j ∧ j ≤ 6 ∧ BestB (cM W A t 33) j b ∧ St w (hC bM (rI 6 (cM W A t 33)) :: Hs bA bW g W A) wr
set_option maxHeartbeats 25600000 in
set_option maxRecDepth 100000 in
theorem votes_walk (a1 a2 : Option Addr) (n m c1 c2 : Nat) (xs ys : List Int) (now : Int) (w : World) (hnl : n ≤ 9223372036854775807) (hml : m ≤ 9223372036854775807)
    (hn : Hid (xs.length = n)) (h8 : Hid (∀ z ∈ xs, 0 ≤ z ∧ z < 256)) (hr : Hid (Rd .u8 w w.heap.size a1 xs))
    (hm : Hid (ys.length = m)) (g8 : Hid (∀ z ∈ ys, 0 ≤ z ∧ z < 256)) (gr : Hid (Rd .u8 w w.heap.size a2 ys)) (hy : 0 ≤ now ∧ now < 256) :
    Calls Try.prog 5 #[.slice a1 n c1, .slice a2 m c2, .int .u8 now] w fun e w' => e = .returned (.bool true) ∧ Below w.heap.size w w' := by
  have E := ex_any w
  obtain ⟨t, ht⟩ : ∃ t : Nat, now % 60 = t := ⟨(now % 60).toNat, by omega⟩
  have ht60 : t < 60 := by omega
  have htm : now.tmod 60 = t := by rw [tmod_pos _ _ hy.1]; exact ht
  have t8 := IntWalk.u8_in (t : Int) ⟨by omega, by omega⟩
  have t64 := IntWalk.u64_in (t : Int) ⟨by omega, by omega⟩
  clear ht hy
  go_enter Try.func5, Try.ntmps5
  go_wp2_with fail
  refine E.mono ?_; rintro e w0 ⟨rfl, b0'⟩
  have K := new_l (r := 2) (h := 20) (by decide) (by decide) (n := 2) rfl (St.start w w0 b0')
  rw [kW_zero] at K
  clear E b0'
  go_wp2_with fail
  refine K.mono ?_; rintro e w1 ⟨g, rfl, s⟩
  clear K
  have s2 := s.box (rI 33 fun _ => 0) 64
  have S1 : Hid (St w (Hs (w1.heap.size + 0) (w1.heap.size + 1) g (fun _ => 0) (fun _ => 0)) ((w1.alloc (.cells #[.int .u64 0, .int .u64 0, .int .u64 0, .int .u64 0, .int .u64 0, .int .u64 0, .int .u64 0, .int .u64 0, .int .u64 0, .int .u64 0, .int .u64 0, .int .u64 0, .int .u64 0, .int .u64 0, .int .u64 0, .int .u64 0, .int .u64 0, .int .u64 0, .int .u64 0, .int .u64 0, .int .u64 0, .int .u64 0, .int .u64 0, .int .u64 0, .int .u64 0, .int .u64 0, .int .u64 0, .int .u64 0, .int .u64 0, .int .u64 0, .int .u64 0, .int .u64 0, .int .u64 0] 63)).alloc (.cells #[.int .i64 0, .int .i64 0, .int .i64 0, .int .i64 0, .int .i64 0, .int .i64 0, .int .i64 0, .int .i64 0, .int .i64 0, .int .i64 0, .int .i64 0, .int .i64 0, .int .i64 0, .int .i64 0, .int .i64 0, .int .i64 0, .int .i64 0, .int .i64 0, .int .i64 0, .int .i64 0, .int .i64 0, .int .i64 0, .int .i64 0, .int .i64 0, .int .i64 0, .int .i64 0, .int .i64 0, .int .i64 0, .int .i64 0, .int .i64 0, .int .i64 0, .int .i64 0, .int .i64 0] 64))) := by
    have s3 := (s.box (rU fun _ => 0) 63).box (rI 33 fun _ => 0) 64
    rw [World.size_alloc] at s3
    have s4 := s3.perm (H' := Hs (w1.heap.size + 0) (w1.heap.size + 1) g (fun _ => 0) (fun _ => 0)) (List.Perm.swap _ _ _)
    rw [rU_zero, rI_zero] at s4
    exact s4
  clear s s2
  go_upto_region 9 with fail
  generalize ((w1.alloc (.cells #[.int .u64 0, .int .u64 0, .int .u64 0, .int .u64 0, .int .u64 0, .int .u64 0, .int .u64 0, .int .u64 0, .int .u64 0, .int .u64 0, .int .u64 0, .int .u64 0, .int .u64 0, .int .u64 0, .int .u64 0, .int .u64 0, .int .u64 0, .int .u64 0, .int .u64 0, .int .u64 0, .int .u64 0, .int .u64 0, .int .u64 0, .int .u64 0, .int .u64 0, .int .u64 0, .int .u64 0, .int .u64 0, .int .u64 0, .int .u64 0, .int .u64 0, .int .u64 0, .int .u64 0] 63)).alloc (.cells #[.int .i64 0, .int .i64 0, .int .i64 0, .int .i64 0, .int .i64 0, .int .i64 0, .int .i64 0, .int .i64 0, .int .i64 0, .int .i64 0, .int .i64 0, .int .i64 0, .int .i64 0, .int .i64 0, .int .i64 0, .int .i64 0, .int .i64 0, .int .i64 0, .int .i64 0, .int .i64 0, .int .i64 0, .int .i64 0, .int .i64 0, .int .i64 0, .int .i64 0, .int .i64 0, .int .i64 0, .int .i64 0, .int .i64 0, .int .i64 0, .int .i64 0, .int .i64 0, .int .i64 0] 64)) = w2 at *
  rw [Nat.add_zero] at S1
  generalize w1.heap.size + 1 = bW at *
  generalize w1.heap.size = bA at *
  have S0 : Hid (VaJ bA bW g w (.int .i64 0) w2) := ⟨0, _, _, rfl, by omega, okW_zero, S1.out⟩
  clear S1
  go_wp2_with fail
  go_loopw [12, 13] (fun iv _ wr => VaJ bA bW g w iv wr) (fun iv _ _ => 31 - (intOf iv).toNat)
  case atStart => exact S0.out
  case round =>
    obtain ⟨i, W, A, rfl, hi, hk, hs⟩ := hrel
    clear S0
    have HS := Lib.hid hs
    have HK := Lib.hid hk
    have hI0 : (0 : Int) ≤ i := by omega
    clear hs hk
    obtain ⟨bb, hbb⟩ : ∃ bb, bb = ((decide ((i : Int) < n) && decide ((i : Int) < m)) && decide ((i : Int) < 30)) := ⟨_, rfl⟩
    replace hbb := Lib.hid hbb
    go_upto_region 10 with fail
    go_cut [47] (fun c wx => c = .bool bb ∧ wr = wx)
    case first =>
      by_cases d1 : (i : Int) < n
      · by_cases d2 : (i : Int) < m
        · by_cases d3 : (i : Int) < 30
          · have hq : bb = true := by rw [hbb.out, decide_eq_true d1, decide_eq_true d2, decide_eq_true d3]; rfl
            subst hq
            go_wp2_with fail
            go_meet
            exact ⟨rfl, rfl⟩
          · have hq : bb = false := by rw [hbb.out, decide_eq_false d3, Bool.and_false]
            subst hq
            go_wp2_with fail
            go_meet
            exact ⟨rfl, rfl⟩
        · have hq : bb = false := by rw [hbb.out, decide_eq_false d2, Bool.and_false, Bool.false_and]
          subst hq
          go_wp2_with fail
          go_meet
          exact ⟨rfl, rfl⟩
      · have hq : bb = false := by rw [hbb.out, decide_eq_false d1, Bool.false_and, Bool.false_and]
        subst hq
        go_wp2_with fail
        go_meet
        exact ⟨rfl, rfl⟩
    case rest =>
    obtain ⟨rfl, rfl⟩ := hcut
    cases bb with
    | true =>
      have h1 : i < n ∧ i < m ∧ i < 30 := by
        have := hbb.out
        simp only [Bool.true_eq, Bool.and_eq_true, decide_eq_true_eq] at this
        omega
      clear hbb
      obtain ⟨h1, h2, h3⟩ := h1
      have h1n : (i : Int) < n := by omega
      have h2n : (i : Int) < m := by omega
      have hi1 : Hid (i + 1 ≤ 30) := h3
      have i8 := IntWalk.i64_in ((i : Int) + 1) ⟨by omega, by omega⟩
      have iu := IntWalk.u64_in (i : Int) ⟨by omega, by omega⟩
      have lA : w.heap.size ≤ bA := (HS.out.all (hC bA (rU A)) (by simp [Hs])).2 bA rfl
      have lW : w.heap.size ≤ bW := (HS.out.all (hC bW (rI 33 W)) (by simp [Hs])).2 bW rfl
      obtain ⟨ba, oa, rfl, hbl, hcc⟩ := (hr.out.below HS.out.below) (by rw [hn.out]; omega)
      have x0 := hcc i (by rw [hn.out]; omega)
      have hx8 := h8.out (xs.getD i 0) (by rw [List.getD_eq_getElem?_getD, List.getElem?_eq_getElem (by rw [hn.out]; omega)]; exact List.getElem_mem _)
      generalize xs.getD i 0 = x at *
      obtain ⟨kk, hkk⟩ : ∃ kk : Nat, 1 + x % 32 = kk := ⟨(1 + x % 32).toNat, by omega⟩
      obtain ⟨v, hv⟩ : ∃ v, x % 32 = v := ⟨_, rfl⟩
      have v2 : x.tmod 32 = v := by rw [tmod_pos _ _ hx8.1]; exact hv
      have v5 := IntWalk.u8_in v ⟨by omega, by omega⟩
      have v6 := IntWalk.i64_in v ⟨by omega, by omega⟩
      have v7 : IntKind.i64.wrap (1 + v) = (kk : Nat) := by rw [← hv, hkk]; exact IntWalk.i64_in _ ⟨by omega, by omega⟩
      have kk0 : (0 : Int) ≤ kk := by omega
      have kk1 : 1 ≤ kk := by omega
      have kk2 : kk ≤ 32 := by omega
      have kk3 : (kk : Int) < 33 := by omega
      clear hcc hx8 hkk hv
      have XA := Lib.hid (HS.out.cs (b := bA) (vs := rU A) (by simp [Hs]))
      have yA := XA.out.cell kk _ (rU_at A (by omega))
      have fA := XA.out.free kk _ (rU_at A (by omega))
      have lyA := XA.out.lt
      have S4 : Hid (St w [hC bA (rU (updN A kk i)), hC bW (rI 33 W), hR g (kW W A)] (wr.setCell ⟨bA, kk, none⟩ (.int .u64 (i : Nat)))) := by
        have := St.setc [] _ (show St w ([] ++ hC bA (rU A) :: [hC bW (rI 33 W), hR g (kW W A)]) wr from HS.out) kk (.int .u64 (i : Nat)) (by rw [rU_len]; omega)
        rw [rU_set] at this
        exact this
      clear XA HS
      go_upto_region 14 with fail
      generalize (wr.setCell ⟨bA, kk, none⟩ (.int .u64 (i : Nat))) = w4 at *
      clear x0 yA fA lyA
      obtain ⟨bc, oc, rfl, hbl2, hcc⟩ := (gr.out.below S4.out.below) (by rw [hm.out]; omega)
      have x0 := hcc i (by rw [hm.out]; omega)
      have hx8 := g8.out (ys.getD i 0) (by rw [List.getD_eq_getElem?_getD, List.getElem?_eq_getElem (by rw [hm.out]; omega)]; exact List.getElem_mem _)
      generalize ys.getD i 0 = y at *
      obtain ⟨ww, hww⟩ : ∃ ww : Nat, 1 + y % 5 = ww := ⟨(1 + y % 5).toNat, by omega⟩
      obtain ⟨u, hu⟩ : ∃ u, y % 5 = u := ⟨_, rfl⟩
      have z2 : y.tmod 5 = u := by rw [tmod_pos _ _ hx8.1]; exact hu
      have z5 := IntWalk.u8_in u ⟨by omega, by omega⟩
      have z6 := IntWalk.i64_in u ⟨by omega, by omega⟩
      have z7 : IntKind.i64.wrap (1 + u) = (ww : Nat) := by rw [← hu, hww]; exact IntWalk.i64_in _ ⟨by omega, by omega⟩
      have ww1 : 1 ≤ ww := by omega
      have ww5 : ww ≤ 5 := by omega
      have zu : IntKind.u32.wrap (ww : Int) = ww := IntWalk.u32_in _ ⟨by omega, by omega⟩
      clear hcc hx8 hww hu
      have XW := Lib.hid (S4.out.cs (b := bW) (vs := rI 33 W) (by simp))
      have yW := XW.out.cell kk _ (rI_at 33 W (by omega))
      have fW := XW.out.free kk _ (rI_at 33 W (by omega))
      have lyW := XW.out.lt
      have S5 : Hid (St w [hC bA (rU (updN A kk i)), hC bW (rI 33 (updN W kk ww)), hR g (kW W A)] (w4.setCell ⟨bW, kk, none⟩ (.int .i64 (ww : Nat)))) := by
        have := St.setc [_] _ (show St w ([hC bA (rU (updN A kk i))] ++ hC bW (rI 33 W) :: [hR g (kW W A)]) w4 from S4.out) kk (.int .i64 (ww : Nat)) (by rw [rI_len]; omega)
        rw [rI_set] at this
        exact this
      clear XW S4
      go_upto_region 15 with fail
      generalize (w4.setCell ⟨bW, kk, none⟩ (.int .i64 (ww : Nat))) = w5 at *
      clear x0 yW fW lyW v2 v5 v6 v7 z2 z5 z6 z7
      have XW := Lib.hid (S5.out.cs (b := bW) (vs := rI 33 (updN W kk ww)) (by simp))
      have yW := XW.out.cell kk _ (rI_at 33 _ (by omega))
      rw [updN_same] at yW
      have lyW := XW.out.lt
      have SE := see_kW W A (x := ww) (i := i) kk1 kk2 ww1 (by omega)
      have K := see_l (kk : Int) ww 9 (i : Int) (by omega) (by omega) (by decide) SE.1 SE.2 [_, _] [] S5.out
      have HK2 := Lib.hid (okW_put HK.out (k := kk) (x := ww) (i := i) kk1 ww5 (by omega))
      clear XW S5 HK SE
      go_wp2_with fail
      refine K.mono ?_; rintro e w6 ⟨rfl, s⟩
      replace s := Lib.hid s
      clear K yW lyW
      go_wp2
      go_roundw
      case rel => exact ⟨i + 1, updN W kk ww, updN A kk i, by go_num, hi1.out, HK2.out, s.out⟩
      case measure => simp [intOf]; omega
    | false =>
      clear hbb
      have S1 : Hid (St w (hC wr.heap.size (rI 6 (cM W A t 1)) :: Hs bA bW g W A) (wr.alloc (.cells #[.int .i64 0, .int .i64 0, .int .i64 0, .int .i64 0, .int .i64 0, .int .i64 0] 65))) := by
        have h := HS.out.box (rI 6 fun _ => 0) 65
        have e : rI 6 (cM W A t 1) = rI 6 fun _ => 0 := rI_congr fun j _ => cM_one HK.out t j
        rw [e]
        rw [r6_zero] at h ⊢
        exact h
      clear HS hi hI0
      go_upto_region 19 with fail
      generalize (wr.alloc (.cells #[.int .i64 0, .int .i64 0, .int .i64 0, .int .i64 0, .int .i64 0, .int .i64 0] 65)) = w3 at *
      generalize wr.heap.size = bM at *
      have S2 : Hid (VbJ bA bW bM g W A t w (.int .i64 1) w3) := ⟨1, rfl, Nat.le_refl _, by omega, S1.out⟩
      clear S1
      go_wp2_with fail
      go_loopw [16] (fun iv wr => VbJ bA bW bM g W A t w iv wr) (fun iv _ => 34 - (intOf iv).toNat)
      case atStart => exact S2.out
      case round =>
        obtain ⟨j, rfl, hj1, hj2, hs⟩ := hrel
        clear S2
        have HS := Lib.hid hs
        clear hs
        have hJ0 : (0 : Int) ≤ j := by omega
        have j8 := IntWalk.i64_in ((j : Int) + 1) ⟨by omega, by omega⟩
        by_cases hlt : j ≤ 32
        · have hlt' : (j : Int) ≤ 32 := by omega
          have hlt2 : (j : Int) < 33 := by omega
          have hj3 : Hid (j + 1 ≤ 33) := by show j + 1 ≤ 33; omega
          have hj4 : Hid (1 ≤ j + 1) := by show 1 ≤ j + 1; omega
          have XA := HS.out.cs (b := bA) (vs := rU A) (by simp [Hs])
          have XW := HS.out.cs (b := bW) (vs := rI 33 W) (by simp [Hs])
          have XM := HS.out.cs (b := bM) (vs := rI 6 (cM W A t j)) (by simp [Hs])
          have yA := XA.cell j _ (rU_at A (by omega))
          have lyA := XA.lt
          have yW := XW.cell j _ (rI_at 33 W (by omega))
          have lyW := XW.lt
          have hA := HK.out.a29 j
          have hW := HK.out.w5 j
          have ua := IntWalk.u64_in ((A j : Int) + 20) ⟨by omega, by omega⟩
          have CN := Lib.hid (fun c => cM_none (W := W) (A := A) (t := t) (k := j) (c := c))
          have CH := Lib.hid (fun c => cM_hit (W := W) (A := A) (t := t) (k := j) (c := c))
          by_cases h1 : 0 < W j
          · have h1' : (0 : Int) < (W j : Nat) := by omega
            by_cases h2 : t < A j + 20
            · have h2' : (t : Int) < (A j : Nat) + 20 := by omega
              have yM := XM.cell (W j) _ (rI_at 6 _ (by omega))
              have fM := XM.free (W j) _ (rI_at 6 _ (by omega))
              have lyM := XM.lt
              have hcl := cM_le W A t j (W j)
              have uc : IntKind.i64.wrap ((cM W A t j (W j) : Nat) + 1 : Int) = ((cM W A t j (W j) + 1 : Nat) : Int) := by rw [show ((cM W A t j (W j) : Nat) : Int) + 1 = ((cM W A t j (W j) + 1 : Nat) : Int) by omega]; exact IntWalk.i64_in _ ⟨by omega, by omega⟩
              have w60 : (0 : Int) ≤ (W j : Nat) := by omega
              have w65 : ((W j : Nat) : Int) < 6 := by omega
              have S4 : Hid (St w (hC bM (rI 6 (cM W A t (j + 1))) :: Hs bA bW g W A) (wr.setCell ⟨bM, W j, none⟩ (.int .i64 ((cM W A t j (W j) + 1 : Nat) : Int)))) := by
                have h := St.setc [] _ (show St w ([] ++ hC bM (rI 6 (cM W A t j)) :: Hs bA bW g W A) wr from HS.out) (W j) (.int .i64 ((cM W A t j (W j) + 1 : Nat) : Int)) (by rw [rI_len]; omega)
                rw [rI_set] at h
                have e : rI 6 (updN (cM W A t j) (W j) (cM W A t j (W j) + 1)) = rI 6 (cM W A t (j + 1)) := rI_congr fun c _ => by
                  rw [CH.out c ⟨h1, h2⟩]
                  unfold updN
                  by_cases e : c = W j
                  · rw [if_pos e, if_pos e, e]
                  · rw [if_neg e, if_neg e]
                rw [e] at h
                exact h
              clear HS XA XW XM CN CH hA hW hcl h1 h2 hlt
              generalize cM W A t j (W j) = cc at *
              generalize W j = wj at *
              generalize A j = aj at *
              go_wp2
              go_roundw
              case rel => exact ⟨j + 1, by go_num, hj4.out, hj3.out, S4.out⟩
              case measure => simp [intOf]; omega
            · have h2' : ¬ (t : Int) < (A j : Nat) + 20 := by omega
              have S4 : Hid (St w (hC bM (rI 6 (cM W A t (j + 1))) :: Hs bA bW g W A) wr) := by
                have e : rI 6 (cM W A t (j + 1)) = rI 6 (cM W A t j) := rI_congr fun c _ => CN.out c (by omega)
                rw [e]; exact HS.out
              clear HS XA XW XM CN CH hA hW h1 h2 hlt
              generalize W j = wj at *
              generalize A j = aj at *
              go_wp2
              go_roundw
              case rel => exact ⟨j + 1, by go_num, hj4.out, hj3.out, S4.out⟩
              case measure => simp [intOf]; omega
          · have h1' : ¬ (0 : Int) < (W j : Nat) := by omega
            have S4 : Hid (St w (hC bM (rI 6 (cM W A t (j + 1))) :: Hs bA bW g W A) wr) := by
              have e : rI 6 (cM W A t (j + 1)) = rI 6 (cM W A t j) := rI_congr fun c _ => CN.out c (by omega)
              rw [e]; exact HS.out
            clear HS XA XW XM CN CH hA hW h1 hlt
            generalize W j = wj at *
            generalize A j = aj at *
            go_wp2
            go_roundw
            case rel => exact ⟨j + 1, by go_num, hj4.out, hj3.out, S4.out⟩
            case measure => simp [intOf]; omega
        · obtain rfl : j = 33 := by omega
          have S3 : Hid (VcJ bA bW bM g W A t w (.int .i64 0) (.int .i64 1) wr) := ⟨1, 0, rfl, rfl, Nat.le_refl _, by omega, bestB_start, HS.out⟩
          clear HS hlt hj1 hj2 hJ0 j8
          go_wp2_with fail
          go_loopw [17, 18] (fun bv iv wr => VcJ bA bW bM g W A t w bv iv wr) (fun _ iv _ => 7 - (intOf iv).toNat)
          case atStart => exact S3.out
          case round =>
            obtain ⟨j, b, rfl, rfl, hj1, hj2, hb, hs⟩ := hrel
            clear S3
            have HS := Lib.hid hs
            have HB := Lib.hid hb
            clear hs hb
            have hJ0 : (0 : Int) ≤ j := by omega
            have hblt := HB.out.lt
            have j8 := IntWalk.i64_in ((j : Int) + 1) ⟨by omega, by omega⟩
            by_cases hlt : j ≤ 5
            · have hlt' : (j : Int) ≤ 5 := by omega
              have hlt2 : (j : Int) < 6 := by omega
              have hb0 : (0 : Int) ≤ b := by omega
              have hb6 : (b : Int) < 6 := by omega
              have hj3 : Hid (j + 1 ≤ 6) := by show j + 1 ≤ 6; omega
              have hj4 : Hid (1 ≤ j + 1) := by show 1 ≤ j + 1; omega
              have S4 := Lib.hid HS.out.drew
              have XM := S4.out.cs (b := bM) (vs := rI 6 (cM W A t 33)) (by simp [Hs])
              have yj := XM.cell j _ (rI_at 6 _ (by omega))
              have yb := XM.cell b _ (rI_at 6 _ (by omega))
              have lyM := XM.lt
              have BN := Lib.hid (fun hg => bestB_new HB.out hj1 (cM_zero W A t 33) hg)
              have BK := Lib.hid (fun hg => bestB_keep HB.out hj1 (cM_zero W A t 33) hg)
              by_cases hg : cM W A t 33 b < cM W A t 33 j
              · have hg' : ((cM W A t 33 b : Nat) : Int) < (cM W A t 33 j : Nat) := by omega
                have FB := Lib.hid (BN.out hg)
                clear BN BK HS XM HB hg
                generalize cM W A t 33 b = cb at *
                generalize cM W A t 33 j = cj at *
                go_wp2_with fail
                go_region
                go_wp2
                go_roundw
                case rel => exact ⟨j + 1, j, by go_num, rfl, hj4.out, hj3.out, FB.out, S4.out⟩
                case measure => simp [intOf]; omega
              · have hg' : ¬ ((cM W A t 33 b : Nat) : Int) < (cM W A t 33 j : Nat) := by omega
                have FB := Lib.hid (BK.out hg)
                clear BN BK HS XM HB hg
                generalize cM W A t 33 b = cb at *
                generalize cM W A t 33 j = cj at *
                go_wp2_with fail
                go_region
                go_wp2
                go_roundw
                case rel => refine ⟨_, _, _, _, _, _, _, _, _, _, _, _, _, _, ?_, rfl⟩; exact ⟨j + 1, b, by go_num, rfl, hj4.out, hj3.out, FB.out, S4.out⟩
                case measure => simp [intOf]; omega
            · obtain rfl : j = 6 := by omega
              have BT := best_told HK.out t HB.out
              clear hlt hj1 hj2 hJ0 j8
              rcases Nat.eq_zero_or_pos b with h0 | h0
              · subst h0
                have AD := BT.1 rfl
                have K := addr_l (t : Int) AD (b := false) (by decide) HS.out (g := g) (by simp [Hs])
                clear AD BT HB hblt HS HK
                go_wp2_with fail
                refine K.mono ?_; rintro e w6 ⟨rfl, s⟩
                clear K
                have s2 := s.box [.int .u32 0, .int .u16 0] 35
                have KN := none_any 0 0 (by decide) (by decide)
                clear s
                go_upto_region 32 with fail
                generalize (w6.alloc (.cells #[.int .u32 0, .int .u16 0] 35)) = w7 at *
                generalize w6.heap.size = bz at *
                have X := s2.cs (b := bz) (vs := [.int .u32 0, .int .u16 0]) (by simp)
                have x0 := X.cell 0 _ rfl
                have x1 := X.cell 1 _ rfl
                have xl := X.lt
                have BF := Lib.hid s2.below
                clear X s2
                go_wp2_with fail
                refine (KN w7).mono ?_; rintro e w8 ⟨rfl, b8⟩
                have BE := Lib.hid (BF.out.trans (b8.mono BF.out.size))
                clear b8 x0 x1 xl KN BF
                go_wp2
                go_ret
                exact ⟨bool_ret (by decide), BE.out⟩
              · obtain ⟨nn, hnn, AD⟩ := BT.2 h0
                have K := addr_l (t : Int) AD (b := true) (decide_eq_true hnn) HS.out (g := g) (by simp [Hs])
                have e1 : ¬ (b : Int) = 0 := by omega
                have e2 : ((b : Int) == 0) = false := by rw [beq_eq_false_iff_ne]; exact e1
                have e3 := IntWalk.i64_in (b : Int) ⟨by omega, by omega⟩
                have h0' : (0 : Int) < b := by omega
                clear AD BT HB HS HK hnn
                go_wp2_with fail
                refine K.mono ?_; rintro e w6 ⟨rfl, s⟩
                clear K
                have s2 := s.box [.int .u32 b, .int .u16 9] 35
                clear s
                go_upto_region 33 with fail
                generalize (w6.alloc (.cells #[.int .u32 b, .int .u16 9] 35)) = w7 at *
                generalize w6.heap.size = bz at *
                have X := s2.cs (b := bz) (vs := [.int .u32 b, .int .u16 9]) (by simp)
                have x0 := X.cell 0 _ rfl
                have x1 := X.cell 1 _ rfl
                have xl := X.lt
                have BE := Lib.hid s2.below
                clear X s2
                go_wp2
                go_ret
                exact ⟨rfl, BE.out⟩
theorem votes_run (a1 : Option Addr) (n c1 : Nat) (xs : List Int) (a2 : Option Addr) (m c2 : Nat) (ys : List Int) (now : Int) (w : World) (wx : ArgRow .u8 w a1 n c1 xs) (wy : ArgRow .u8 w a2 m c2 ys) (wn : (Lit.int .u8 now).wf = true) :
    Calls Try.prog 5 #[.slice a1 n c1, .slice a2 m c2, .int .u8 now] w fun e w' => e = .returned (.bool true) ∧ Below w.heap.size w w' := by
  obtain ⟨za, h1, h2, h3, h4⟩ := arg_u8m wx
  obtain ⟨zb, g1, g2, g3, g4⟩ := arg_u8m wy
  have h5 := bounds_u8 wn
  exact votes_walk a1 a2 n m c1 c2 za zb now w h4 g4 h1 h2 h3 g1 g2 g3 ⟨h5.1, by omega⟩
theorem reachVotes_own : ownKnob Try.prog.godebug = none := by kernel_rfl
theorem reachVotes_laid : laidOutB Try.prog = true := by kernel_rfl
set_option maxRecDepth 100000 in
theorem reachVotes_lifted (os : Os) (started : os.Started) (H : Type) (enc : TypeId × Value → H) :
    ReturnsInHanded {} Try.checked os 5 .any (Rows.reachVotesSpec.pre6 enc Try.prog Try.f5 Rows.reachVotesRow.domain false) (Rows.reachVotesSpec.post enc Try.prog Try.f5 false true false false) := by
  refine returnsInHanded_of_change (C := Try.checked) reachVotes_own started (by kernel_rfl) Try.func5
    (ChangeSpec.witness6 (enc := enc) (C := Try.checked) false ⟨#[], #[.slice none 0 0, .slice none 0 0, .int .u8 0], []⟩ 8 (by kernel_rfl) (by kernel_rfl) (by kernel_rfl) (by kernel_rfl)) ?_
  intro W base args ds gs before hval0 hW hcnd _
  have hval : ∀ (j : Nat) t v, Try.f5.params[j]? = some t → args[j]? = some v → Value.okWide Try.prog W .any base t v := hval0
  have hW' := hW
  obtain ⟨p, q, hA0, hV, rfl, hfz, hnd⟩ := hW
  have hA : DataW.TrodAll enc Try.prog W 0 (fun _ => true) true Try.f5.params.toList args.toList ds p := hA0
  rw [Try.params5] at hA hval
  obtain ⟨v0, vs0, d0, ds0, p0, q0, hargs, rfl, rfl, h0, r0⟩ := trodAll_cons hA
  obtain ⟨v1, vs1, d1, ds1, p1, q1, rfl, rfl, rfl, h1, r1⟩ := trodAll_cons r0
  obtain ⟨v2, vs2, d2, ds2, p2, q2, rfl, rfl, rfl, h2, r2⟩ := trodAll_cons r1
  obtain ⟨rfl, rfl, rfl⟩ := trodAll_nil r2
  obtain rfl : args = #[v0, v1, v2] := by cases args; simp_all
  obtain ⟨rfl, rfl⟩ := trodVars_none hV
  obtain ⟨a0, len0, cap0, rfl⟩ := okWide_slice Try.underlying62 (hval 0 62 v0 rfl rfl)
  have k0 := h0
  have lt0 : ∀ x ∈ p0, x.block < W.heap.size := by obtain ⟨m, hm⟩ := k0; exact DataW.trod_lt m _ _ _ hm
  obtain ⟨z0, w0⟩ : ∃ zs, ArgRow .u8 W a0 len0 cap0 zs := by
    obtain ⟨fuel, hf⟩ := h0
    rcases open_ints Try.underlying62 Try.underlying5 (by kernel_rfl) hf with ⟨hcs, _⟩ | ⟨x, l, c, zs, hcs, _, hl, hm, hz, _, hcell, hwz⟩
    · simp [Value.cells] at hcs
      obtain ⟨rfl, rfl, rfl⟩ := hcs
      exact ⟨[], .inl ⟨rfl, rfl, rfl, rfl⟩⟩
    · simp [Value.cells] at hcs
      obtain ⟨rfl, rfl, rfl⟩ := hcs
      exact ⟨zs, .inr ⟨_, rfl, hl, hm, by simpa using hz, hcell, hwz⟩⟩
  obtain ⟨a1, len1, cap1, rfl⟩ := okWide_slice Try.underlying62 (hval 1 62 v1 rfl rfl)
  have k1 := h1
  have lt1 : ∀ x ∈ p1, x.block < W.heap.size := by obtain ⟨m, hm⟩ := k1; exact DataW.trod_lt m _ _ _ hm
  obtain ⟨z1, w1⟩ : ∃ zs, ArgRow .u8 W a1 len1 cap1 zs := by
    obtain ⟨fuel, hf⟩ := h1
    rcases open_ints Try.underlying62 Try.underlying5 (by kernel_rfl) hf with ⟨hcs, _⟩ | ⟨x, l, c, zs, hcs, _, hl, hm, hz, _, hcell, hwz⟩
    · simp [Value.cells] at hcs
      obtain ⟨rfl, rfl, rfl⟩ := hcs
      exact ⟨[], .inl ⟨rfl, rfl, rfl, rfl⟩⟩
    · simp [Value.cells] at hcs
      obtain ⟨rfl, rfl, rfl⟩ := hcs
      exact ⟨zs, .inr ⟨_, rfl, hl, hm, by simpa using hz, hcell, hwz⟩⟩
  obtain ⟨a2, rfl, rfl, rfl, w2⟩ := open_int Try.underlying5 (hval 2 5 v2 rfl rfl) h2
  clear hA0 hval0
  refine (votes_run a0 len0 cap0 z0 a1 len1 cap1 z1 a2 W w0 w1 w2).mono fun e W' ⟨he, bel⟩ => ?_
  subst he
  exact ⟨_, rfl, _, _, _, [], _, [], hW', trodAll_mk1 (shut_bool Try.underlying4 _), (trodAll_cons_mk (Below.trod reachVotes_laid (by kernel_rfl) (of_decide_eq_true (by kernel_rfl)) k0 bel lt0) (trodAll_cons_mk (Below.trod reachVotes_laid (by kernel_rfl) (of_decide_eq_true (by kernel_rfl)) k1 bel lt1) (trodAll_cons_mk (shut_int Try.underlying5 w2) trodAll_mk0))), rfl, bel.frame _, fun h => by cases h⟩
theorem reachVotes_over : Rows.reachVotesRow.holds Try.pinned (OpenSpec.ofChange Rows.reachVotesSpec) :=
  OpenClaim.holds_of_wide 5 Try.f5 rfl rfl rfl rfl rfl rfl rfl ⟨rfl, rfl, rfl, rfl, rfl⟩ rfl rfl rfl rfl rfl (by kernel_rfl) Try.func5 (by kernel_rfl)
    (of_decide_eq_true (by kernel_rfl)) (by unfold Func.isWrapper; first | (rw [if_pos (by decide +kernel)]; kernel_rfl) | (rw [if_neg (by decide +kernel)]; exact ⟨rfl, rfl⟩))
    (fun os started H enc _ => reachVotes_lifted os started H enc)
theorem reachVotes_holds : Rows.ReachVotesSaid := reachVotes_over
#print axioms reachVotes_holds
end Go.Proofs.Ytnkjepemliccpaa
