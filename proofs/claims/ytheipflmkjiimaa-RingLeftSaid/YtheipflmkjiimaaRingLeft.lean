/- RingLeft: those that are left are of the list that was mixed, each place once, but those that were told; who is next is told though nobody of the list is left: for every seed and any two lists. -/
import Derived.Test.YtheipflmkjiimaaRiEx
import Derived.Deep.DeepCutAuto
import Derived.ChangeOld
import Derived.ChangeMaps5
import Derived.ShutString
import Derived.OpenShut
import Derived.SizedLaws
namespace Go.Proofs.Ytheipflmkjiimaa
open Go.Sort Go.RowKit Go.BigFrame Go.ChangeShapes Go.WideShapes Go.Deep
set_option linter.unusedVariables false
set_option linter.unusedSimpArgs false

theorem left_first (s : Int) (l : List Int) : (leftR s [] l).length = l.length - 1 := by
  by_cases hl : 0 < l.length
  · rw [next_left s [] l hl, nextL_nil, List.length_tail, mixL_length]
  · unfold leftR; rw [if_pos (by omega)]; simp; omega
theorem id_in (s : Int) (L l : List Int) (hl : 0 < l.length) : isIn (idR s L l) l = true := by
  obtain ⟨x, r, s', h1, h2, -⟩ := nextL_cases s L l hl
  rw [next_id s L l hl, h1]
  exact isIn_iff.2 h2
theorem isIn_step {l : List Int} {j : Nat} (hj : j < l.length) (x : Int) : isIn x (l.take (j + 1)) = (isIn x (l.take j) || (l.getD j 0 == x)) := by
  rw [Bool.eq_iff_iff, Bool.or_eq_true, isIn_iff, isIn_iff, mem_take hj, beq_iff_eq]
  constructor
  · rintro (h | h)
    · exact .inl h
    · exact .inr h.symm
  · rintro (h | h)
    · exact .inl h
    · exact .inr h.symm
/-- which list: how long it is -/
inductive LsP (a : Option Addr) (n cap xl : Nat) (b : Option Addr) (n2 cap2 yl : Nat) : Option Addr → Nat → Nat → Nat → Prop
  | one : LsP a n cap xl b n2 cap2 yl a n cap xl
  | two : LsP a n cap xl b n2 cap2 yl b n2 cap2 yl
def ThJ (Y : List Int) (id : Int) (w0 : World) (H : List Hl) (tv iv : Value) (wr : World) : Prop := ∃ j : Nat, iv = .int .i64 (j : Nat) ∧ j ≤ Y.length ∧ tv = .bool (isIn id (Y.take j)) ∧ St w0 H wr
set_option maxHeartbeats 12800000 in
set_option maxRecDepth 100000 in
theorem left_walk (s : Int) (a : Option Addr) (n cap : Nat) (za : List Int) (b : Option Addr) (n2 cap2 : Nat) (zb : List Int) (w : World) (hn : Hid (za.length = n)) (h8 : Hid (∀ z ∈ za, 0 ≤ z ∧ z < 256)) (hr : Hid (Rd .u8 w w.heap.size a za)) (hn2 : Hid (zb.length = n2)) (h82 : Hid (∀ z ∈ zb, 0 ≤ z ∧ z < 256)) (hr2 : Hid (Rd .u8 w w.heap.size b zb)) :
    Calls Try.prog 7 #[.int .u64 s, .slice a n cap, .slice b n2 cap2] w fun e w' => e = .returned (.bool true) ∧ Below w.heap.size w w' := by
  have E := ex_any w
  go_enter Try.func7, Try.ntmps7
  go_wp2_with fail
  refine E.mono ?_; rintro e w1 ⟨rfl, b1⟩
  have K := new_l s (St.start w w1 b1)
  clear E b1
  go_wp2_with fail
  refine K.mono ?_; rintro e w2 ⟨g, rfl, s2⟩
  have HS : Hid (St w [hC (w2.heap.size + 1) [.bool false, .slice b n2 cap2, .int .i64 0], hC w2.heap.size [.bool false, .slice a n cap, .int .i64 0], hR g s ⟨none, 0, 0⟩ []] ((w2.alloc (.cells #[.bool false, .slice a n cap, .int .i64 0] 31)).alloc (.cells #[.bool false, .slice b n2 cap2, .int .i64 0] 31))) := by
    have := (s2.box [.bool false, .slice a n cap, .int .i64 0] 31).box [.bool false, .slice b n2 cap2, .int .i64 0] 31
    simp only [World.size_alloc] at this
    exact this
  clear K s2
  go_upto_region 7 with fail
  generalize ((w2.alloc (.cells #[.bool false, .slice a n cap, .int .i64 0] 31)).alloc (.cells #[.bool false, .slice b n2 cap2, .int .i64 0] 31)) = w3 at *
  generalize w2.heap.size + 1 = d2 at *
  generalize w2.heap.size = d1 at *
  have x0 := (HS.out.cs (b := d1) (vs := [.bool false, .slice a n cap, .int .i64 0]) (by simp)).cell 0 _ rfl
  have x1 := (HS.out.cs (b := d1) (vs := [.bool false, .slice a n cap, .int .i64 0]) (by simp)).cell 1 _ rfl
  have x2 := (HS.out.cs (b := d1) (vs := [.bool false, .slice a n cap, .int .i64 0]) (by simp)).cell 2 _ rfl
  have K := list_l HS.out false a n cap 0 za hn h8 hr.out
  have LA := Lib.hid (listD_le za)
  obtain ⟨X, hX⟩ : ∃ X, listD za = X := ⟨_, rfl⟩
  rw [hX] at K LA
  replace hX := Lib.hid hX
  clear HS
  go_wp2_with fail
  refine K.mono ?_; rintro e w4 ⟨u, rfl, s4⟩
  have K := next_l u (l := X) (by have := LA.out; omega) [_, _, _] [] (by simp) s4
  have FL := Lib.hid (left_first s X)
  generalize stR s [] X = s1 at *
  generalize idR s [] X = id0 at *
  obtain ⟨L1, hL1⟩ : ∃ L1, leftR s [] X = L1 := ⟨_, rfl⟩
  rw [hL1] at K FL
  obtain ⟨ox, hox⟩ : ∃ ox, okR X = ox := ⟨_, rfl⟩
  rw [hox] at K
  replace hox := Lib.hid hox
  clear hL1 s4 x0 x1 x2
  go_wp2_with fail
  refine K.mono ?_; rintro e w5 ⟨rfl, v1, s5⟩
  have s5b := s5.sub (H' := [hC d2 [.bool false, .slice b n2 cap2, .int .i64 0], hC d1 [.bool false, .slice a n cap, .int .i64 0], hR g s1 v1 L1]) (by simp)
  have K := left_l (g := g) (s := s1) (v := v1) (L := L1) s5b (by simp)
  clear s5 s5b
  go_wp2_with fail
  refine K.mono ?_; rintro e w6 ⟨t6, rfl, s6⟩
  have HS := Lib.hid s6.drop
  have x0 := (HS.out.cs (b := d2) (vs := [.bool false, .slice b n2 cap2, .int .i64 0]) (by simp)).cell 0 _ rfl
  have x1 := (HS.out.cs (b := d2) (vs := [.bool false, .slice b n2 cap2, .int .i64 0]) (by simp)).cell 1 _ rfl
  have x2 := (HS.out.cs (b := d2) (vs := [.bool false, .slice b n2 cap2, .int .i64 0]) (by simp)).cell 2 _ rfl
  have K := list_l HS.out false b n2 cap2 0 zb hn2 h82 hr2.out
  have LB := Lib.hid (listD_le zb)
  obtain ⟨Y, hY⟩ : ∃ Y, listD zb = Y := ⟨_, rfl⟩
  rw [hY] at K LB
  replace hY := Lib.hid hY
  clear HS s6
  go_wp2_with fail
  refine K.mono ?_; rintro e w7 ⟨u2, rfl, s7⟩
  have K := next_l u2 (l := Y) (by have := LB.out; omega) [_, _, _] [] (by simp) s7
  have FM := Lib.hid (left_len s1 L1 Y)
  have FI := Lib.hid (id_in s1 L1 Y)
  generalize stR s1 L1 Y = s2 at *
  generalize idR s1 L1 Y = id at *
  generalize leftR s1 L1 Y = L2 at *
  obtain ⟨oy, hoy⟩ : ∃ oy, okR Y = oy := ⟨_, rfl⟩
  rw [hoy] at K
  replace hoy := Lib.hid hoy
  clear s7 x0 x1 x2
  go_wp2_with fail
  refine K.mono ?_; rintro e w8 ⟨rfl, v2, s8⟩
  have SJ : Hid (ThJ Y id w [hC d2 [.bool false, .slice b n2 cap2, .int .i64 0], hC d1 [.bool false, .slice a n cap, .int .i64 0], hR g s2 v2 L2] (.bool false) (.int .i64 0) w8) := ⟨0, rfl, Nat.zero_le _, by simp [isIn], s8.sub (by simp)⟩
  clear K s8
  go_wp2_with fail
  go_loopw [16, 17] (fun tv iv wr => ThJ Y id w [hC d2 [.bool false, .slice b n2 cap2, .int .i64 0], hC d1 [.bool false, .slice a n cap, .int .i64 0], hR g s2 v2 L2] tv iv wr) (fun _ iv _ => Y.length - (intOf iv).toNat)
  case atStart => exact SJ.out
  case round =>
    obtain ⟨j, rfl, hj, rfl, hs⟩ := hrel
    clear SJ
    have HS := Lib.hid hs
    have hI0 : (0 : Int) ≤ j := by omega
    have x0 := (HS.out.cs (b := d2) (vs := [.bool false, .slice b n2 cap2, .int .i64 0]) (by simp)).cell 0 _ rfl
    have x1 := (HS.out.cs (b := d2) (vs := [.bool false, .slice b n2 cap2, .int .i64 0]) (by simp)).cell 1 _ rfl
    have x2 := (HS.out.cs (b := d2) (vs := [.bool false, .slice b n2 cap2, .int .i64 0]) (by simp)).cell 2 _ rfl
    have K := list_l HS.out false b n2 cap2 0 zb hn2 h82 hr2.out
    rw [hY.out] at K
    obtain ⟨yl, hyl⟩ : ∃ yl, Y.length = yl := ⟨_, rfl⟩
    rw [hyl] at K hj
    have hj12 : (yl : Int) ≤ 12 := by have := LB.out; omega
    have hj13 : (j : Int) ≤ 12 := by omega
    replace hyl := Lib.hid hyl
    clear hs
    go_wp2_with fail
    refine K.mono ?_; rintro e wb ⟨ub, rfl, sb⟩
    clear K HS x0 x1 x2
    have HB := Lib.hid sb
    by_cases hlt : j < yl
    · have hlt' : (j : Int) < yl := by omega
      have x0 := (HB.out.cs (b := d2) (vs := [.bool false, .slice b n2 cap2, .int .i64 0]) (by simp)).cell 0 _ rfl
      have x1 := (HB.out.cs (b := d2) (vs := [.bool false, .slice b n2 cap2, .int .i64 0]) (by simp)).cell 1 _ rfl
      have x2 := (HB.out.cs (b := d2) (vs := [.bool false, .slice b n2 cap2, .int .i64 0]) (by simp)).cell 2 _ rfl
      have K := list_l HB.out false b n2 cap2 0 zb hn2 h82 hr2.out
      rw [hY.out, hyl.out] at K
      have ST := Lib.hid (isIn_step (l := Y) (j := j) (by rw [hyl.out]; exact hlt) id)
      have hj1 : Hid (j + 1 ≤ Y.length) := by show _ ≤ _; rw [hyl.out]; exact hlt
      have HJ : Hid (j < Y.length) := by show _ < _; rw [hyl.out]; exact hlt
      obtain ⟨q, hq⟩ : ∃ q, isIn id (Y.take j) = q := ⟨_, rfl⟩
      rw [hq]
      rw [hq] at ST
      clear hq sb
      cases q
      · go_wp2_with fail
        refine K.mono ?_; rintro e wd ⟨ud, rfl, sd⟩
        obtain ⟨bb, oo, hbo, hbl, hcc⟩ := (sd.rdI (u := ud) (l := Y) (by simp)) (by have := HJ.out; omega)
        have c0 := hcc j HJ.out
        have HD := Lib.hid (sd.sub (H' := [hC d2 [.bool false, .slice b n2 cap2, .int .i64 0], hC d1 [.bool false, .slice a n cap, .int .i64 0], hR g s2 v2 L2]) (by simp))
        obtain ⟨ua, un, uc⟩ := ud
        simp only at hbo
        subst hbo
        clear K sd hcc x0 x1 x2 HB
        generalize Y.getD j 0 = y at *
        rw [Bool.false_or] at ST
        go_wp2_with fail
        go_roundw
        case rel => exact ⟨j + 1, by go_num, hj1.out, by rw [ST.out], HD.out⟩
        case measure => simp [intOf]; have := HJ.out; omega
      · have HD := Lib.hid (HB.out.sub (H' := [hC d2 [.bool false, .slice b n2 cap2, .int .i64 0], hC d1 [.bool false, .slice a n cap, .int .i64 0], hR g s2 v2 L2]) (by simp))
        rw [Bool.true_or] at ST
        clear K x0 x1 x2 HB
        go_wp2_with fail
        go_roundw
        case rel => exact ⟨j + 1, by go_num, hj1.out, by rw [ST.out], HD.out⟩
        case measure => simp [intOf]; have := HJ.out; omega
    · obtain rfl : j = yl := by omega
      have hge : ¬ (j : Int) < (j : Int) := by omega
      have e : Y.take j = Y := List.take_of_length_le (by rw [hyl.out]; exact Nat.le_refl _)
      rw [e]
      have HD := Lib.hid (HB.out.sub (H' := [hC d2 [.bool false, .slice b n2 cap2, .int .i64 0], hC d1 [.bool false, .slice a n cap, .int .i64 0], hR g s2 v2 L2]) (by simp))
      clear e sb HB
      generalize wb = w9 at *
      have mkS : Hid (∀ H w', hC d1 [.bool false, .slice a n cap, .int .i64 0] ∈ H → hC d2 [.bool false, .slice b n2 cap2, .int .i64 0] ∈ H → St w H w' → w'.cell? ⟨d1, 0, none⟩ = some (.bool false) ∧ w'.cell? ⟨d1, 1, none⟩ = some (.slice a n cap) ∧ w'.cell? ⟨d1, 2, none⟩ = some (.int .i64 0) ∧ w'.cell? ⟨d2, 0, none⟩ = some (.bool false) ∧ w'.cell? ⟨d2, 1, none⟩ = some (.slice b n2 cap2) ∧ w'.cell? ⟨d2, 2, none⟩ = some (.int .i64 0)) := fun H w' h1 h2 st =>
        ⟨(st.cs h1).cell 0 _ rfl, (st.cs h1).cell 1 _ rfl, (st.cs h1).cell 2 _ rfl, (st.cs h2).cell 0 _ rfl, (st.cs h2).cell 1 _ rfl, (st.cs h2).cell 2 _ rfl⟩
      have KL : Hid (∀ a' n' cap' len', LsP a n cap X.length b n2 cap2 j a' n' cap' len' → ∀ H wz, St w H wz → Calls Try.prog 13 #[.agg #[.bool false, .slice a' n' cap', .int .i64 0]] wz fun e w' => ∃ (u : Sl) (X' : List Int), e = .returned (.slice u.a len' u.c) ∧ St w (hI u X' :: H) w') := fun a' n' cap' len' hp H wz st => by
        cases hp with
        | one =>
          have := list_l st false a n cap 0 za hn h8 hr.out
          rw [hX.out] at this
          exact this.mono fun e w' ⟨u, he, hs⟩ => ⟨u, X, he, hs⟩
        | two =>
          have := list_l st false b n2 cap2 0 zb hn2 h82 hr2.out
          rw [hY.out, hyl.out] at this
          exact this.mono fun e w' ⟨u, he, hs⟩ => ⟨u, Y, he, hs⟩
      have KF : Hid (∀ H wz, hR g s2 v2 L2 ∈ H → St w H wz → Calls Try.prog 17 #[.pointer (some ⟨g, 0, none⟩)] wz fun e w' => ∃ (u : Sl) (X' : List Int), e = .returned (.slice u.a L2.length u.c) ∧ St w (hA u.a X' :: H) w') := fun H wz hm st =>
        (left_l (g := g) (s := s2) (v := v2) (L := L2) st hm).mono fun e w' ⟨u, he, hs⟩ => ⟨u, L2, he, hs⟩
      have d1l := (HD.out.cs (b := d1) (vs := [.bool false, .slice a n cap, .int .i64 0]) (by simp)).lt
      have d2l := (HD.out.cs (b := d2) (vs := [.bool false, .slice b n2 cap2, .int .i64 0]) (by simp)).lt
      have FM2 := FM.out
      have FL2 := FL.out
      rw [hyl.out] at FM2
      have hoy2 : oy = decide (0 < j) := by rw [← hoy.out, ← hyl.out]; rfl
      have hox2 : ox = decide (0 < X.length) := hox.out.symm
      have FI2 := Lib.hid FI.out
      rw [hyl.out] at FI2
      clear K FM FI FL hge hX hY hoy hox hyl hlt hn h8 hr hn2 h82 hr2
      generalize L2.length = m at *
      generalize L1.length = q at *
      generalize X.length = xl at *
      have e1 : decide (0 < (xl : Int)) = ox := by rw [hox2, decide_eq_decide]; omega
      have e2 : decide (0 < xl) = ox := hox2.symm
      have m1 : (if (xl : Int) - 1 < 0 then (0 : Int) else (xl : Int) - 1) = (q : Nat) := by split <;> omega
      have m2 : (if (0 : Int) < (xl : Int) - 1 then (xl : Int) - 1 else (0 : Int)) = (q : Nat) := by split <;> omega
      have m3 : (if (xl : Int) - 1 ≤ 0 then (0 : Int) else (xl : Int) - 1) = (q : Nat) := by split <;> omega
      have m4 : (if (0 : Int) ≤ (xl : Int) - 1 then (xl : Int) - 1 else (0 : Int)) = (q : Nat) := by split <;> omega
      obtain ⟨mm, hmm⟩ : ∃ mm : Nat, max q j = mm := ⟨_, rfl⟩
      have n1 : (if (q : Int) < (j : Int) then (j : Int) else (q : Int)) = (mm : Nat) := by split <;> omega
      have n2' : (if q < j then (j : Int) else (q : Int)) = (mm : Nat) := by split <;> omega
      have n3 : (if (j : Int) ≤ (q : Int) then (q : Int) else (j : Int)) = (mm : Nat) := by split <;> omega
      have n4 : (if j ≤ q then (q : Int) else (j : Int)) = (mm : Nat) := by split <;> omega
      have p1 : decide ((m : Int) ≤ (mm : Int)) = true := decide_eq_true (by omega)
      have p2 : decide (m ≤ mm) = true := decide_eq_true (by omega)
      have xw : IntKind.i64.wrap ((xl : Int) - 1) = (xl : Int) - 1 := IntWalk.i64_in _ ⟨by omega, by have := LA.out; omega⟩
      have e3 : decide (0 < (j : Int)) = oy := by rw [hoy2, decide_eq_decide]; omega
      have e4 : decide (0 < j) = oy := hoy2.symm
      obtain ⟨tb, htb⟩ : ∃ tb, isIn id Y = tb := ⟨_, rfl⟩
      rw [htb] at FI2 ⊢
      have htr : Hid (oy = true → tb = true) := fun h => FI2.out (by rw [h] at hoy2; simpa using hoy2.symm)
      clear hmm FM2 FI2 htb hox2 hoy2 FL2 hj LA LB hj12 hj13 hI0
      go_upto_region 17 with fail
      have SA := Lib.hid HD.out.drew
      clear HD
      cases oy
      · first | (go_region_held (fun w' => w'.cell? ⟨d1, 0, none⟩ = some (.bool false) ∧ w'.cell? ⟨d1, 1, none⟩ = some (.slice a n cap) ∧ w'.cell? ⟨d1, 2, none⟩ = some (.int .i64 0) ∧ w'.cell? ⟨d2, 0, none⟩ = some (.bool false) ∧ w'.cell? ⟨d2, 1, none⟩ = some (.slice b n2 cap2) ∧ w'.cell? ⟨d2, 2, none⟩ = some (.int .i64 0)) (exact mkS.out _ _ (by simp) (by simp) SA.out) (first | (go_at_call 13; refine (KL.out _ _ _ _ (by first | exact LsP.one | exact LsP.two) _ _ SA.out).mono ?_; rintro e wA ⟨uA, XA, rfl, sA⟩; have SA := Lib.hid sA; clear sA) | (go_at_call 17; refine (KF.out _ _ (by simp) SA.out).mono ?_; rintro e wA ⟨uA, XA, rfl, sA⟩; have SA := Lib.hid sA; clear sA) | fail)) | fail
        all_goals (have HB := Lib.hid SA.out.below; clear SA KL KF mkS)
        all_goals go_wp2
        all_goals go_ret
        all_goals exact ⟨rfl, HB.out⟩
      · obtain rfl : tb = true := htr.out rfl
        first | (go_region_held (fun w' => w'.cell? ⟨d1, 0, none⟩ = some (.bool false) ∧ w'.cell? ⟨d1, 1, none⟩ = some (.slice a n cap) ∧ w'.cell? ⟨d1, 2, none⟩ = some (.int .i64 0) ∧ w'.cell? ⟨d2, 0, none⟩ = some (.bool false) ∧ w'.cell? ⟨d2, 1, none⟩ = some (.slice b n2 cap2) ∧ w'.cell? ⟨d2, 2, none⟩ = some (.int .i64 0)) (exact mkS.out _ _ (by simp) (by simp) SA.out) (first | (go_at_call 13; refine (KL.out _ _ _ _ (by first | exact LsP.one | exact LsP.two) _ _ SA.out).mono ?_; rintro e wA ⟨uA, XA, rfl, sA⟩; have SA := Lib.hid sA; clear sA) | (go_at_call 17; refine (KF.out _ _ (by simp) SA.out).mono ?_; rintro e wA ⟨uA, XA, rfl, sA⟩; have SA := Lib.hid sA; clear sA) | fail)) | fail
        all_goals (have HB := Lib.hid SA.out.below; clear SA KL KF mkS)
        all_goals go_wp2
        all_goals go_ret
        all_goals exact ⟨rfl, HB.out⟩
theorem left_run (s : Int) (a : Option Addr) (len cap : Nat) (zs : List Int) (b : Option Addr) (len2 cap2 : Nat) (ys : List Int) (w : World) (_ : (Lit.int .u64 s).wf = true) (wz : ArgRow .u8 w a len cap zs) (wy : ArgRow .u8 w b len2 cap2 ys) :
    Calls Try.prog 7 #[.int .u64 s, .slice a len cap, .slice b len2 cap2] w fun e w' => e = .returned (.bool true) ∧ Below w.heap.size w w' := by
  obtain ⟨za, h1, h2, h3, _⟩ := arg_u8 wz
  obtain ⟨zb, g1, g2, g3, _⟩ := arg_u8 wy
  exact left_walk s a len cap za b len2 cap2 zb w h1 h2 h3 g1 g2 g3
theorem ringLeft_own : ownKnob Try.prog.godebug = none := by kernel_rfl
theorem ringLeft_laid : laidOutB Try.prog = true := by kernel_rfl
set_option maxRecDepth 100000 in
theorem ringLeft_lifted (os : Os) (started : os.Started) (H : Type) (enc : TypeId × Value → H) :
    ReturnsInHanded {} Try.checked os 7 .any (Rows.ringLeftSpec.pre6 enc Try.prog Try.f7 Rows.ringLeftRow.domain false) (Rows.ringLeftSpec.post enc Try.prog Try.f7 false true false false) := by
  refine returnsInHanded_of_change (C := Try.checked) ringLeft_own started (by kernel_rfl) Try.func7
    (ChangeSpec.witness6 (enc := enc) (C := Try.checked) false ⟨#[], #[.int .u64 0, .slice none 0 0, .slice none 0 0], []⟩ 8 (by kernel_rfl) (by kernel_rfl) (by kernel_rfl) (by kernel_rfl)) ?_
  intro W base args ds gs before hval0 hW hcnd _
  have hval : ∀ (j : Nat) t v, Try.f7.params[j]? = some t → args[j]? = some v → Value.okWide Try.prog W .any base t v := hval0
  have hW' := hW
  obtain ⟨p, q, hA0, hV, rfl, hfz, hnd⟩ := hW
  have hA : DataW.TrodAll enc Try.prog W 0 (fun _ => true) true Try.f7.params.toList args.toList ds p := hA0
  rw [Try.params7] at hA hval
  obtain ⟨v0, vs0, d0, ds0, p0, q0, hargs, rfl, rfl, h0, r0⟩ := trodAll_cons hA
  obtain ⟨v1, vs1, d1, ds1, p1, q1, rfl, rfl, rfl, h1, r1⟩ := trodAll_cons r0
  obtain ⟨v2, vs2, d2, ds2, p2, q2, rfl, rfl, rfl, h2, r2⟩ := trodAll_cons r1
  obtain ⟨rfl, rfl, rfl⟩ := trodAll_nil r2
  obtain rfl : args = #[v0, v1, v2] := by cases args; simp_all
  obtain ⟨rfl, rfl⟩ := trodVars_none hV
  obtain ⟨a0, rfl, rfl, rfl, w0⟩ := open_int Try.underlying22 (hval 0 22 v0 rfl rfl) h0
  obtain ⟨a1, len1, cap1, rfl⟩ := okWide_slice Try.underlying29 (hval 1 29 v1 rfl rfl)
  have k1 := h1
  have lt1 : ∀ x ∈ p1, x.block < W.heap.size := by obtain ⟨m, hm⟩ := k1; exact DataW.trod_lt m _ _ _ hm
  obtain ⟨z1, w1⟩ : ∃ zs, ArgRow .u8 W a1 len1 cap1 zs := by
    obtain ⟨fuel, hf⟩ := h1
    rcases open_ints Try.underlying29 Try.underlying5 (by kernel_rfl) hf with ⟨hcs, _⟩ | ⟨x, l, c, zs, hcs, _, hl, hm, hz, _, hcell, hwz⟩
    · simp [Value.cells] at hcs
      obtain ⟨rfl, rfl, rfl⟩ := hcs
      exact ⟨[], .inl ⟨rfl, rfl, rfl, rfl⟩⟩
    · simp [Value.cells] at hcs
      obtain ⟨rfl, rfl, rfl⟩ := hcs
      exact ⟨zs, .inr ⟨_, rfl, hl, hm, by simpa using hz, hcell, hwz⟩⟩
  obtain ⟨a2, len2, cap2, rfl⟩ := okWide_slice Try.underlying29 (hval 2 29 v2 rfl rfl)
  have k2 := h2
  have lt2 : ∀ x ∈ p2, x.block < W.heap.size := by obtain ⟨m, hm⟩ := k2; exact DataW.trod_lt m _ _ _ hm
  obtain ⟨z2, w2⟩ : ∃ zs, ArgRow .u8 W a2 len2 cap2 zs := by
    obtain ⟨fuel, hf⟩ := h2
    rcases open_ints Try.underlying29 Try.underlying5 (by kernel_rfl) hf with ⟨hcs, _⟩ | ⟨x, l, c, zs, hcs, _, hl, hm, hz, _, hcell, hwz⟩
    · simp [Value.cells] at hcs
      obtain ⟨rfl, rfl, rfl⟩ := hcs
      exact ⟨[], .inl ⟨rfl, rfl, rfl, rfl⟩⟩
    · simp [Value.cells] at hcs
      obtain ⟨rfl, rfl, rfl⟩ := hcs
      exact ⟨zs, .inr ⟨_, rfl, hl, hm, by simpa using hz, hcell, hwz⟩⟩
  clear hA0 hval0
  refine (left_run a0 a1 len1 cap1 z1 a2 len2 cap2 z2 W w0 w1 w2).mono fun e W' ⟨he, bel⟩ => ?_
  subst he
  exact ⟨_, rfl, _, _, _, [], _, [], hW', trodAll_mk1 (shut_bool Try.underlying4 _), (trodAll_cons_mk (shut_int Try.underlying22 w0) (trodAll_cons_mk (Below.trod ringLeft_laid (by kernel_rfl) (of_decide_eq_true (by kernel_rfl)) k1 bel lt1) (trodAll_cons_mk (Below.trod ringLeft_laid (by kernel_rfl) (of_decide_eq_true (by kernel_rfl)) k2 bel lt2) trodAll_mk0))), rfl, bel.frame _, fun h => by cases h⟩
theorem ringLeft_over : Rows.ringLeftRow.holds Try.pinned (OpenSpec.ofChange Rows.ringLeftSpec) :=
  OpenClaim.holds_of_wide 7 Try.f7 rfl rfl rfl rfl rfl rfl rfl ⟨rfl, rfl, rfl, rfl, rfl⟩ rfl rfl rfl rfl rfl (by kernel_rfl) Try.func7 (by kernel_rfl)
    (of_decide_eq_true (by kernel_rfl)) (by unfold Func.isWrapper; first | (rw [if_pos (by decide +kernel)]; kernel_rfl) | (rw [if_neg (by decide +kernel)]; exact ⟨rfl, rfl⟩))
    (fun os started H enc _ => ringLeft_lifted os started H enc)
theorem ringLeft_holds : Rows.RingLeftSaid := ringLeft_over
#print axioms ringLeft_holds
end Go.Proofs.Ytheipflmkjiimaa
