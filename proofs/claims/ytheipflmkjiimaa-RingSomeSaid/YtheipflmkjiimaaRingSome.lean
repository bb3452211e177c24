/- RingSome: some of a list are in it, each place once, and who is left stays; the same seed draws the same: for every seed, every list, however many. -/
import Derived.Test.YtheipflmkjiimaaRiBits
import Derived.Deep.DeepCutAuto
import Derived.ChangeOld
import Derived.ChangeMaps5
import Derived.ShutString
import Derived.OpenShut
import Derived.SizedLaws
namespace Go.Proofs.Ytheipflmkjiimaa
open Go.Sort Go.RowKit Go.BigFrame Go.ChangeShapes Go.WideShapes Go.Deep
set_option linter.unusedVariables false
set_option linter.unusedSimpArgs false

theorem listD_in {zs : List Int} {x : Int} (h : x ∈ listD zs) : 0 ≤ x ∧ x < 10 := by
  unfold listD at h
  obtain ⟨y, _, rfl⟩ := List.mem_map.1 h
  omega
theorem someD_count (s : Int) (l : List Int) (k : Int) (j : Nat) (d : Int) : ((someD s l k).take j).count d ≤ l.count d := by
  have h1 : ((someD s l k).take j).count d ≤ (mixL s l).1.count d := by
    unfold someD
    rw [List.take_take]
    exact (List.take_sublist _ _).count_le _
  rw [(mixL_perm s l).count_eq] at h1
  exact h1
theorem someD_mem {s : Int} {l : List Int} {k : Int} {x : Int} (h : x ∈ someD s l k) : x ∈ l :=
  (mixL_perm s l).subset (List.mem_of_mem_take h)
/-- how many of each -/
def cntF (f : Nat → Int) : List Value := rowF 10 fun d => .int .i64 (f d)
theorem cnt_set (f : Nat → Int) (p : Nat) (x : Int) : (cntF f).set p (.int .i64 x) = cntF (fun d => if d = p then x else f d) := by
  unfold cntF
  rw [rowF_set]
  exact rowF_congr fun d _ => by by_cases h : d = p <;> simp [h]
theorem cnt_zero : cntF (fun _ => 0) = List.replicate 10 (.int .i64 0) := rowF_const 10 _
theorem count_step {l : List Int} {j : Nat} (hj : j < l.length) (d : Int) : (l.take (j + 1)).count d = (l.take j).count d + if l.getD j 0 = d then 1 else 0 := by
  rw [List.take_succ_eq_append_getElem hj, List.count_append]
  have : l.getD j 0 = l[j] := by simp [List.getD_eq_getElem?_getD, hj]
  rw [this, List.count_singleton]
  by_cases h : l[j] = d
  · simp [h]
  · simp [h]
theorem getD_mem {l : List Int} {j : Nat} (hj : j < l.length) : l.getD j 0 ∈ l := by
  have : l.getD j 0 = l[j] := by simp [List.getD_eq_getElem?_getD, hj]
  rw [this]; exact List.getElem_mem hj
def SoJ (X : List Int) (f : Nat → Nat → Int) (w : World) (mb : Nat) (H : List Hl) (iv : Value) (wr : World) : Prop := ∃ j : Nat, iv = .int .i64 (j : Nat) ∧ j ≤ X.length ∧ St w (hC mb (cntF (f j)) :: H) wr
set_option maxHeartbeats 6400000 in
set_option maxRecDepth 100000 in
theorem some_walk (s : Int) (a : Option Addr) (n cap : Nat) (za : List Int) (k : Int) (hk : 0 ≤ k ∧ k ≤ 255) (w : World) (hn : Hid (za.length = n)) (h8 : Hid (∀ z ∈ za, 0 ≤ z ∧ z < 256)) (hr : Hid (Rd .u8 w w.heap.size a za)) :
    Calls Try.prog 6 #[.int .u64 s, .slice a n cap, .int .u8 k] w fun e w' => e = .returned (.bool true) ∧ Below w.heap.size w w' := by
  have E := ex_any w
  obtain ⟨q, hq⟩ : ∃ q, k % 15 = q := ⟨_, rfl⟩
  have hq2 : k.tmod 15 = q := by rw [tmod_pos _ _ hk.1]; exact hq
  have q0 : 0 ≤ q ∧ q < 15 := by omega
  have cq := IntWalk.i64_in q ⟨by omega, by omega⟩
  have cq8 := IntWalk.u8_in q ⟨by omega, by omega⟩
  obtain ⟨kk, rfl⟩ : ∃ kk : Nat, q = kk := ⟨q.toNat, by omega⟩
  clear hq
  go_enter Try.func6, Try.ntmps6
  go_wp2_with fail
  refine E.mono ?_; rintro e w1 ⟨rfl, b1⟩
  have SD : Hid (St w [hC w1.heap.size [.bool false, .slice a n cap, .int .i64 (kk : Nat)]] (w1.alloc (.cells #[.bool false, .slice a n cap, .int .i64 (kk : Nat)] 31))) := (St.start w w1 b1).box [.bool false, .slice a n cap, .int .i64 (kk : Nat)] 31
  clear E b1
  go_upto_region 5 with fail
  generalize (w1.alloc (.cells #[.bool false, .slice a n cap, .int .i64 (kk : Nat)] 31)) = w2 at *
  generalize w1.heap.size = db at *
  have K := new_l s SD.out
  clear SD
  go_wp2_with fail
  refine K.mono ?_; rintro e w3 ⟨gr, rfl, s3⟩
  have K := new_l s s3
  clear s3
  go_wp2_with fail
  refine K.mono ?_; rintro e w4 ⟨gs, rfl, s4⟩
  have HS := Lib.hid s4
  clear s4 K
  have x0 := (HS.out.cs (b := db) (vs := [.bool false, .slice a n cap, .int .i64 (kk : Nat)]) (by simp)).cell 0 _ rfl
  have x1 := (HS.out.cs (b := db) (vs := [.bool false, .slice a n cap, .int .i64 (kk : Nat)]) (by simp)).cell 1 _ rfl
  have x2 := (HS.out.cs (b := db) (vs := [.bool false, .slice a n cap, .int .i64 (kk : Nat)]) (by simp)).cell 2 _ rfl
  have K := list_l HS.out false a n cap kk za hn h8 hr.out
  have LX := Lib.hid (listD_le za)
  have MX := Lib.hid (fun x h => listD_in (zs := za) (x := x) h)
  obtain ⟨X, hX⟩ : ∃ X, listD za = X := ⟨_, rfl⟩
  rw [hX] at K LX MX
  replace hX := Lib.hid hX
  clear HS
  go_wp2_with fail
  refine K.mono ?_; rintro e w5 ⟨u5, rfl, s5⟩
  have K := next_l u5 (l := X) (by have := LX.out; omega) [_, _] [_] (by simp) s5
  obtain ⟨s1, hs1⟩ : ∃ s1, stR s [] X = s1 := ⟨_, rfl⟩
  obtain ⟨L1, hL1⟩ : ∃ L1, leftR s [] X = L1 := ⟨_, rfl⟩
  have LL := left_len s [] X
  rw [hL1] at LL
  rw [hs1, hL1] at K
  have HE := Lib.hid (And.intro hs1 hL1)
  clear x0 x1 x2 s5 hs1 hL1
  go_wp2_with fail
  refine K.mono ?_; rintro e w6 ⟨rfl, v1, s6⟩
  have HS := Lib.hid (s6.sub (H' := [hR gs s ⟨none, 0, 0⟩ [], hR gr s1 v1 L1, hC db [.bool false, .slice a n cap, .int .i64 (kk : Nat)]]) (by simp))
  have x0 := (HS.out.cs (b := db) (vs := [.bool false, .slice a n cap, .int .i64 (kk : Nat)]) (by simp)).cell 0 _ rfl
  have x1 := (HS.out.cs (b := db) (vs := [.bool false, .slice a n cap, .int .i64 (kk : Nat)]) (by simp)).cell 1 _ rfl
  have x2 := (HS.out.cs (b := db) (vs := [.bool false, .slice a n cap, .int .i64 (kk : Nat)]) (by simp)).cell 2 _ rfl
  have K := list_l HS.out false a n cap kk za hn h8 hr.out
  rw [hX.out] at K
  clear HS s6
  go_wp2_with fail
  refine K.mono ?_; rintro e w7 ⟨u7, rfl, s7⟩
  have K := next_l u7 (l := X) (by have := LX.out; omega) [_] [_, _] (by simp) s7
  rw [HE.out.1, HE.out.2] at K
  clear x0 x1 x2 s7
  go_wp2_with fail
  refine K.mono ?_; rintro e w8 ⟨rfl, v2, s8⟩
  have s8b := s8.sub (H' := [hR gs s1 v2 L1, hR gr s1 v1 L1, hC db [.bool false, .slice a n cap, .int .i64 (kk : Nat)]]) (by simp)
  have K := left_l (g := gr) (s := s1) (v := v1) (L := L1) s8b (by simp)
  clear HE s8 s8b
  go_wp2_with fail
  refine K.mono ?_; rintro e w9 ⟨t9, rfl, s9⟩
  have S9 := Lib.hid s9
  clear K s9
  have HA2 := Lib.hid (fun j d => someD_count s1 X kk j d)
  have HM2 := Lib.hid (fun x h => someD_mem (s := s1) (l := X) (k := kk) (x := x) h)
  have HL2 := Lib.hid (someD_len s1 X kk)
  obtain ⟨A, hA⟩ : ∃ A, someD s1 X kk = A := ⟨_, rfl⟩
  obtain ⟨s2, hs2⟩ : ∃ s2, (mixL s1 X).2 = s2 := ⟨_, rfl⟩
  rw [hA] at HA2 HM2 HL2
  have HE := Lib.hid (And.intro hA hs2)
  clear hA hs2
  go_upto_region 12 with fail
  go_cut [12] (fun av wx => ∃ t : Sl, av = .slice t.a A.length t.c ∧ St w [hA t.a A, hA t9.a L1, hR gs s1 v2 L1, hR gr s2 v1 L1, hC db [.bool false, .slice a n cap, .int .i64 (kk : Nat)]] wx)
  case first =>
    have SW := Lib.hid S9.out.drew
    clear S9
    have x0 := (SW.out.cs (b := db) (vs := [.bool false, .slice a n cap, .int .i64 (kk : Nat)]) (by simp)).cell 0 _ rfl
    have x1 := (SW.out.cs (b := db) (vs := [.bool false, .slice a n cap, .int .i64 (kk : Nat)]) (by simp)).cell 1 _ rfl
    have x2 := (SW.out.cs (b := db) (vs := [.bool false, .slice a n cap, .int .i64 (kk : Nat)]) (by simp)).cell 2 _ rfl
    have KA := list_l SW.out false a n cap kk za hn h8 hr.out
    rw [hX.out] at KA
    go_region_law (first
      | (go_simp; go_at_call 13; refine KA.mono ?_; rintro e wA ⟨uA, rfl, sA⟩; have SA := Lib.hid sA; clear sA x0 x1 x2; have x0 := (SA.out.cs (b := db) (vs := [.bool false, .slice a n cap, .int .i64 (kk : Nat)]) (by simp)).cell 0 _ rfl; have x1 := (SA.out.cs (b := db) (vs := [.bool false, .slice a n cap, .int .i64 (kk : Nat)]) (by simp)).cell 1 _ rfl; have x2 := (SA.out.cs (b := db) (vs := [.bool false, .slice a n cap, .int .i64 (kk : Nat)]) (by simp)).cell 2 _ rfl)
      | (go_simp; go_at_call 12; have KS := some_l uA (l := X) kk (by have := LX.out; omega) [_, _, _] [_] (by simp) SA.out; rw [HE.out.1, HE.out.2] at KS; refine KS.mono ?_; rintro e wS ⟨tS, rfl, sS⟩; have SS := Lib.hid (sS.sub (H' := [hA tS.a A, hA t9.a L1, hR gs s1 v2 L1, hR gr s2 v1 L1, hC db [.bool false, .slice a n cap, .int .i64 (kk : Nat)]]) (by simp)); clear sS))
    all_goals go_wp2_with fail
    all_goals go_meet
    all_goals exact ⟨tS, rfl, SS.out⟩
  case rest =>
    obtain ⟨t12, rfl, hs⟩ := hcut
    generalize wc = w12 at *
    have S12 := Lib.hid hs
    clear S9 hs
    go_upto_region 13 with fail
    go_cut [13] (fun av wx => ∃ t : Sl, av = .slice t.a A.length t.c ∧ St w [hA t.a A, hA t12.a A, hA t9.a L1, hR gs s2 v2 L1, hR gr s2 v1 L1, hC db [.bool false, .slice a n cap, .int .i64 (kk : Nat)]] wx)
    case first =>
      have SW := Lib.hid S12.out.drew
      clear S12
      have x0 := (SW.out.cs (b := db) (vs := [.bool false, .slice a n cap, .int .i64 (kk : Nat)]) (by simp)).cell 0 _ rfl
      have x1 := (SW.out.cs (b := db) (vs := [.bool false, .slice a n cap, .int .i64 (kk : Nat)]) (by simp)).cell 1 _ rfl
      have x2 := (SW.out.cs (b := db) (vs := [.bool false, .slice a n cap, .int .i64 (kk : Nat)]) (by simp)).cell 2 _ rfl
      have KA := list_l SW.out false a n cap kk za hn h8 hr.out
      rw [hX.out] at KA
      go_region_law (first
        | (go_simp; go_at_call 13; refine KA.mono ?_; rintro e wA ⟨uA, rfl, sA⟩; have SA := Lib.hid sA; clear sA x0 x1 x2; have x0 := (SA.out.cs (b := db) (vs := [.bool false, .slice a n cap, .int .i64 (kk : Nat)]) (by simp)).cell 0 _ rfl; have x1 := (SA.out.cs (b := db) (vs := [.bool false, .slice a n cap, .int .i64 (kk : Nat)]) (by simp)).cell 1 _ rfl; have x2 := (SA.out.cs (b := db) (vs := [.bool false, .slice a n cap, .int .i64 (kk : Nat)]) (by simp)).cell 2 _ rfl)
        | (go_simp; go_at_call 12; have KS := some_l uA (l := X) kk (by have := LX.out; omega) [_, _, _] [_, _] (by simp) SA.out; rw [HE.out.1, HE.out.2] at KS; refine KS.mono ?_; rintro e wS ⟨tS, rfl, sS⟩; have SS := Lib.hid (sS.sub (H' := [hA tS.a A, hA t12.a A, hA t9.a L1, hR gs s2 v2 L1, hR gr s2 v1 L1, hC db [.bool false, .slice a n cap, .int .i64 (kk : Nat)]]) (by simp)); clear sS))
      all_goals go_wp2_with fail
      all_goals go_meet
      all_goals exact ⟨tS, rfl, SS.out⟩
    case rest =>
      obtain ⟨t13, rfl, hs⟩ := hcut
      generalize wc = w13 at *
      have K := same_yes t12.a t13.a A.length t12.c t13.c A (by have h1 := HL2.out; have h2 := LX.out; unfold much at h1; omega) rfl w13 (hs.rdA (by simp)) (hs.rdA (by simp))
      have S13 := Lib.hid (hs.sub (H' := [hA t12.a A, hA t9.a L1, hR gs s2 v2 L1, hR gr s2 v1 L1, hC db [.bool false, .slice a n cap, .int .i64 (kk : Nat)]]) (by simp))
      clear S12 hs
      go_wp2_with fail
      refine K.mono ?_; rintro e w14 ⟨rfl, b14⟩
      have s14 := S13.out.keep b14
      have K := left_l (g := gr) (s := s2) (v := v1) (L := L1) s14 (by simp)
      clear S13 b14 s14
      go_wp2_with fail
      refine K.mono ?_; rintro e w15 ⟨t15, rfl, s15⟩
      have K := same_yes t9.a t15.a L1.length t9.c t15.c L1 (by have := LX.out; have : ([] : List Int).length = 0 := rfl; omega) rfl w15 (s15.rdA (by simp)) (s15.rdA (by simp))
      have S15 := Lib.hid (s15.sub (H' := [hA t12.a A, hR gs s2 v2 L1, hR gr s2 v1 L1, hC db [.bool false, .slice a n cap, .int .i64 (kk : Nat)]]) (by simp))
      clear s15
      go_wp2_with fail
      refine K.mono ?_; rintro e w16 ⟨rfl, b16⟩
      have S16 : Hid (St w [hC w16.heap.size (cntF (fun _ => 0)), hA t12.a A, hR gs s2 v2 L1, hR gr s2 v1 L1, hC db [.bool false, .slice a n cap, .int .i64 (kk : Nat)]] (w16.alloc (.cells #[.int .i64 0, .int .i64 0, .int .i64 0, .int .i64 0, .int .i64 0, .int .i64 0, .int .i64 0, .int .i64 0, .int .i64 0, .int .i64 0] 49))) := by
        have := (S15.out.keep b16).box (cntF (fun _ => 0)) 49
        rw [cnt_zero] at this ⊢; exact this
      clear K S15 b16
      go_upto_region 17 with fail
      generalize (w16.alloc (.cells #[.int .i64 0, .int .i64 0, .int .i64 0, .int .i64 0, .int .i64 0, .int .i64 0, .int .i64 0, .int .i64 0, .int .i64 0, .int .i64 0] 49)) = w17 at *
      generalize w16.heap.size = mb at *
      have x0 := (S16.out.cs (b := db) (vs := [.bool false, .slice a n cap, .int .i64 (kk : Nat)]) (by simp)).cell 0 _ rfl
      have x1 := (S16.out.cs (b := db) (vs := [.bool false, .slice a n cap, .int .i64 (kk : Nat)]) (by simp)).cell 1 _ rfl
      have x2 := (S16.out.cs (b := db) (vs := [.bool false, .slice a n cap, .int .i64 (kk : Nat)]) (by simp)).cell 2 _ rfl
      have K := list_l S16.out false a n cap kk za hn h8 hr.out
      rw [hX.out] at K
      clear S16
      go_wp2_with fail
      refine K.mono ?_; rintro e w18 ⟨ux, rfl, s18⟩
      obtain ⟨xl, hxl⟩ : ∃ xl, X.length = xl := ⟨_, rfl⟩
      obtain ⟨al, hal⟩ : ∃ al, A.length = al := ⟨_, rfl⟩
      rw [hxl] at HL2 LX
      rw [hal] at HL2
      rw [hxl, hal]
      have S18 : Hid (SoJ X (fun j d => ((X.take j).count (d : Int) : Nat)) w mb [hI ux X, hA t12.a A, hR gs s2 v2 L1, hR gr s2 v1 L1, hC db [.bool false, .slice a n cap, .int .i64 (kk : Nat)]] (.int .i64 0) w18) := ⟨0, rfl, Nat.zero_le _, by
        have e : (fun d : Nat => (((X.take 0).count (d : Int) : Nat) : Int)) = fun _ => 0 := by funext d; simp
        show St w (hC mb (cntF (fun d : Nat => (((X.take 0).count (d : Int) : Nat) : Int))) :: _) w18
        rw [e]
        have hp : [hC mb (cntF fun _ => 0), hI ux X, hA t12.a A, hR gs s2 v2 L1, hR gr s2 v1 L1, hC db [.bool false, .slice a n cap, .int .i64 (kk : Nat)]].Perm [hI ux X, hC mb (cntF fun _ => 0), hA t12.a A, hR gs s2 v2 L1, hR gr s2 v1 L1, hC db [.bool false, .slice a n cap, .int .i64 (kk : Nat)]] := List.Perm.swap _ _ _
        exact s18.perm hp⟩
      have Hxl := Lib.hid hxl
      have Hal := Lib.hid hal
      have hx12 : (xl : Int) ≤ 12 := by have := LX.out; omega
      have ha12 : al ≤ xl := by have := HL2.out; unfold much at this; omega
      have HAL : Hid (al = min kk xl) := by have := HL2.out; unfold much at this; show _ = _; omega
      clear K s18 x0 x1 x2 hxl hal LL
      go_wp2_with fail
      go_loopw [18] (fun iv wr => SoJ X (fun j d => ((X.take j).count (d : Int) : Nat)) w mb [hI ux X, hA t12.a A, hR gs s2 v2 L1, hR gr s2 v1 L1, hC db [.bool false, .slice a n cap, .int .i64 (kk : Nat)]] iv wr) (fun iv _ => xl - (intOf iv).toNat)
      case atStart => exact S18.out
      case round =>
        obtain ⟨j, rfl, hj, hs⟩ := hrel
        clear S18
        have HS := Lib.hid hs
        rw [Hxl.out] at hj
        have hJ0 : (0 : Int) ≤ j := by omega
        clear hs
        by_cases hlt : j < xl
        · have hlt' : (j : Int) < xl := by omega
          have hXl : j < X.length := by rw [Hxl.out]; exact hlt
          obtain ⟨bx, ox, hbo, hbl, hcc⟩ := (HS.out.rdI (u := ux) (l := X) (by simp)) (by omega)
          have cx := hcc j hXl
          have hmx := MX.out _ (getD_mem hXl)
          have ST := Lib.hid (count_step hXl)
          generalize X.getD j 0 = x at *
          obtain ⟨p, rfl⟩ : ∃ p : Nat, x = p := ⟨x.toNat, by omega⟩
          have hp10 : p < 10 := by omega
          have HC := HS.out.cs (b := mb) (vs := cntF (fun d => ((X.take j).count (d : Int) : Nat))) (by simp)
          have c1 := HC.cell p _ (rowF_at 10 _ p hp10)
          dsimp only at c1
          have f1 := HC.free p _ (rowF_at 10 _ p hp10)
          have l1 := HC.lt
          have hcl : (X.take j).count (p : Int) ≤ j := Nat.le_trans List.count_le_length (by rw [List.length_take]; omega)
          have FIN := Lib.hid (HS.out.setc [] [_, _, _, _, _] p (.int .i64 ((((X.take j).count (p : Int) : Nat) : Int) + 1)) (by unfold cntF; rw [rowF_len]; exact hp10))
          have EW : Hid (cntF (fun d => ((X.take (j + 1)).count (d : Int) : Nat)) = (cntF (fun d => ((X.take j).count (d : Int) : Nat))).set p (.int .i64 ((((X.take j).count (p : Int) : Nat) : Int) + 1))) := by
            show _ = _
            rw [cnt_set]
            unfold cntF
            refine rowF_congr fun d hd => ?_
            dsimp only
            rw [ST.out]
            by_cases h : d = p
            · subst h; simp
            · rw [if_neg h, if_neg (by omega)]; simp
          rw [← EW.out] at FIN
          generalize hct : (X.take j).count (p : Int) = ct at *
          have cw := IntWalk.i64_in ((ct : Int) + 1) ⟨by omega, by omega⟩
          have hj1 : Hid (j + 1 ≤ X.length) := hXl
          have hp0 : (0 : Int) ≤ (p : Int) := by omega
          have hp10' : (p : Int) < 10 := by omega
          obtain ⟨uxa, uxn, uxc⟩ := ux
          simp only at hbo
          subst hbo
          clear EW HC HS ST hcc hmx hct hXl
          go_wp2_with fail
          go_roundw
          case rel => exact ⟨j + 1, by go_num, hj1.out, FIN.out⟩
          case measure => simp [intOf]; omega
        · obtain rfl : j = xl := by omega
          have hge : ¬ (j : Int) < (j : Int) := by omega
          have e : X.take j = X := List.take_of_length_le (by rw [Hxl.out]; exact Nat.le_refl _)
          have S19 : Hid (SoJ A (fun i d => ((X.count (d : Int) : Nat) : Int) - ((A.take i).count (d : Int) : Nat)) w mb [hI ux X, hA t12.a A, hR gs s2 v2 L1, hR gr s2 v1 L1, hC db [.bool false, .slice a n cap, .int .i64 (kk : Nat)]] (.int .i64 0) wr) := ⟨0, rfl, Nat.zero_le _, by
            have e2 : (fun d : Nat => ((X.count (d : Int) : Nat) : Int) - (((A.take 0).count (d : Int) : Nat) : Int)) = fun d : Nat => (((X.take j).count (d : Int) : Nat) : Int) := by funext d; rw [e]; simp
            show St w (hC mb (cntF (fun d : Nat => ((X.count (d : Int) : Nat) : Int) - (((A.take 0).count (d : Int) : Nat) : Int))) :: _) wr
            rw [e2]
            exact HS.out⟩
          clear HS e hlt
          go_wp2_with fail
          go_loopw [19] (fun iv wr => SoJ A (fun i d => ((X.count (d : Int) : Nat) : Int) - ((A.take i).count (d : Int) : Nat)) w mb [hI ux X, hA t12.a A, hR gs s2 v2 L1, hR gr s2 v1 L1, hC db [.bool false, .slice a n cap, .int .i64 (kk : Nat)]] iv wr) (fun iv _ => al - (intOf iv).toNat)
          case atStart => exact S19.out
          case round =>
            obtain ⟨i, rfl, hi, hs⟩ := hrel
            clear S19
            have HS := Lib.hid hs
            rw [Hal.out] at hi
            have hI0 : (0 : Int) ≤ i := by omega
            clear hs
            by_cases hlt : i < al
            · have hlt' : (i : Int) < al := by omega
              have hAl : i < A.length := by rw [Hal.out]; exact hlt
              obtain ⟨bx, ox, hbo, hbl, hcc⟩ := (HS.out.rdA (a := t12.a) (l := A) (by simp)) (by omega)
              have cx := hcc i hAl
              have hbm : ¬ bx = mb := fun e => HS.out.two (H1 := []) (k := hA t12.a A) (by simp) bx ⟨by omega, by rw [hbo]; exact blk_some⟩ e
              have hmb : ¬ mb = bx := fun e => hbm e.symm
              have hmx := MX.out _ (HM2.out _ (getD_mem hAl))
              have ST := Lib.hid (count_step hAl)
              have HA3 := Lib.hid (HA2.out (i + 1))
              generalize A.getD i 0 = x at *
              obtain ⟨p, rfl⟩ : ∃ p : Nat, x = p := ⟨x.toNat, by omega⟩
              have hp10 : p < 10 := by omega
              have HC := HS.out.cs (b := mb) (vs := cntF (fun d => ((X.count (d : Int) : Nat) : Int) - ((A.take i).count (d : Int) : Nat))) (by simp)
              have c1 := HC.cell p _ (rowF_at 10 _ p hp10)
              dsimp only at c1
              have f1 := HC.free p _ (rowF_at 10 _ p hp10)
              have l1 := HC.lt
              have h1 := HA3.out (p : Int)
              rw [ST.out, if_pos rfl] at h1
              have h2 : X.count (p : Int) ≤ j := by rw [← Hxl.out]; exact List.count_le_length
              obtain ⟨ct, hct⟩ : ∃ ct : Int, ((X.count (p : Int) : Nat) : Int) - (((A.take i).count (p : Int) : Nat) : Int) = ct := ⟨_, rfl⟩
              have hc1 : 1 ≤ ct ∧ ct ≤ 12 := by omega
              have FIN := Lib.hid (HS.out.setc [] [_, _, _, _, _] p (.int .i64 (ct - 1)) (by unfold cntF; rw [rowF_len]; exact hp10))
              have EW : Hid (cntF (fun d => ((X.count (d : Int) : Nat) : Int) - ((A.take (i + 1)).count (d : Int) : Nat)) = (cntF (fun d => ((X.count (d : Int) : Nat) : Int) - ((A.take i).count (d : Int) : Nat))).set p (.int .i64 (ct - 1))) := by
                show _ = _
                rw [cnt_set]
                unfold cntF
                refine rowF_congr fun d hd => ?_
                dsimp only
                rw [ST.out]
                by_cases h : d = p
                · subst h; rw [if_pos rfl, if_pos rfl]; congr 1; omega
                · rw [if_neg h, if_neg (by omega)]; simp
              rw [← EW.out] at FIN
              rw [hct] at c1
              have cw := IntWalk.i64_in (ct - 1) ⟨by omega, by omega⟩
              have hi1 : Hid (i + 1 ≤ A.length) := hAl
              have hp0 : (0 : Int) ≤ (p : Int) := by omega
              have hp10' : (p : Int) < 10 := by omega
              have d1 : decide ((p : Int) < 0) = false := decide_eq_false (by omega)
              have d2 : decide ((9 : Int) < (p : Int)) = false := decide_eq_false (by omega)
              have d2n : decide (9 < p) = false := decide_eq_false (by omega)
              have d3 : ¬ ct - 1 < 0 := by omega
              obtain ⟨cm, hcm⟩ : ∃ cm, ct - 1 = cm := ⟨_, rfl⟩
              rw [hcm] at FIN cw d3
              have hcmw : IntKind.i64.wrap (ct - 1) = cm := by rw [hcm]; exact cw
              obtain ⟨t12a, t12n, t12c⟩ := t12
              simp only at hbo
              subst hbo
              clear EW HC HS ST hcc hmx hct hAl HA3 h1 h2 hcm hc1
              go_wp2_with fail
              go_roundw
              case rel => exact ⟨i + 1, by go_num, hi1.out, FIN.out⟩
              case measure => simp [intOf]; omega
            · obtain rfl : i = al := by omega
              have hge2 : ¬ (i : Int) < (i : Int) := by omega
              have x0 := (HS.out.cs (b := db) (vs := [.bool false, .slice a n cap, .int .i64 (kk : Nat)]) (by simp)).cell 0 _ rfl
              have x1 := (HS.out.cs (b := db) (vs := [.bool false, .slice a n cap, .int .i64 (kk : Nat)]) (by simp)).cell 1 _ rfl
              have x2 := (HS.out.cs (b := db) (vs := [.bool false, .slice a n cap, .int .i64 (kk : Nat)]) (by simp)).cell 2 _ rfl
              have K := state_l (g := gr) (s := s2) (v := v1) (L := L1) HS.out (by simp)
              have K2 := state_l (g := gs) (s := s2) (v := v2) (L := L1) HS.out (by simp)
              have HB := Lib.hid HS.out.below
              have xl0 := (HS.out.cs (b := db) (vs := [.bool false, .slice a n cap, .int .i64 (kk : Nat)]) (by simp)).lt
              have m1 : (if (j : Int) < (kk : Int) then (j : Int) else (kk : Int)) = (i : Nat) := by have := HAL.out; split <;> omega
              have m2 : (if j < kk then (j : Int) else (kk : Int)) = (i : Nat) := by have := HAL.out; split <;> omega
              have m3 : (if (kk : Int) ≤ (j : Int) then (kk : Int) else (j : Int)) = (i : Nat) := by have := HAL.out; split <;> omega
              have m4 : (if kk ≤ j then (kk : Int) else (j : Int)) = (i : Nat) := by have := HAL.out; split <;> omega
              clear HS hlt ha12
              go_wp2_with fail
              refine K.mono ?_; rintro e wz ⟨rfl, rfl⟩
              clear K
              go_wp2_with fail
              refine K2.mono ?_; rintro e wz ⟨rfl, rfl⟩
              clear K2
              go_wp2
              go_ret
              exact ⟨rfl, HB.out⟩
theorem some_run (s : Int) (a : Option Addr) (len cap : Nat) (zs : List Int) (k : Int) (w : World) (_ : (Lit.int .u64 s).wf = true) (wz : ArgRow .u8 w a len cap zs) (wk : (Lit.int .u8 k).wf = true) :
    Calls Try.prog 6 #[.int .u64 s, .slice a len cap, .int .u8 k] w fun e w' => e = .returned (.bool true) ∧ Below w.heap.size w w' := by
  obtain ⟨za, h1, h2, h3, _⟩ := arg_u8 wz
  exact some_walk s a len cap za k (bounds_u8 wk) w h1 h2 h3
theorem ringSome_own : ownKnob Try.prog.godebug = none := by kernel_rfl
theorem ringSome_laid : laidOutB Try.prog = true := by kernel_rfl
set_option maxRecDepth 100000 in
theorem ringSome_lifted (os : Os) (started : os.Started) (H : Type) (enc : TypeId × Value → H) :
    ReturnsInHanded {} Try.checked os 6 .any (Rows.ringSomeSpec.pre6 enc Try.prog Try.f6 Rows.ringSomeRow.domain false) (Rows.ringSomeSpec.post enc Try.prog Try.f6 false true false false) := by
  refine returnsInHanded_of_change (C := Try.checked) ringSome_own started (by kernel_rfl) Try.func6
    (ChangeSpec.witness6 (enc := enc) (C := Try.checked) false ⟨#[], #[.int .u64 0, .slice none 0 0, .int .u8 0], []⟩ 8 (by kernel_rfl) (by kernel_rfl) (by kernel_rfl) (by kernel_rfl)) ?_
  intro W base args ds gs before hval0 hW hcnd _
  have hval : ∀ (j : Nat) t v, Try.f6.params[j]? = some t → args[j]? = some v → Value.okWide Try.prog W .any base t v := hval0
  have hW' := hW
  obtain ⟨p, q, hA0, hV, rfl, hfz, hnd⟩ := hW
  have hA : DataW.TrodAll enc Try.prog W 0 (fun _ => true) true Try.f6.params.toList args.toList ds p := hA0
  rw [Try.params6] at hA hval
  obtain ⟨v0, vs0, d0, ds0, p0, q0, hargs, rfl, rfl, h0, r0⟩ := trodAll_cons hA
  obtain ⟨v1, vs1, d1, ds1, p1, q1, rfl, rfl, rfl, h1, r1⟩ := trodAll_cons r0
  obtain ⟨v2, vs2, d2, ds2, p2, q2, rfl, rfl, rfl, h2, r2⟩ := trodAll_cons r1
  obtain ⟨rfl, rfl, rfl⟩ := trodAll_nil r2
  obtain rfl : args = #[v0, v1, v2] := by cases args; simp_all
  obtain ⟨rfl, rfl⟩ := trodVars_none hV
  obtain ⟨a0, rfl, rfl, rfl, w0⟩ := open_int Try.underlying22 (hval 0 22 v0 rfl rfl) h0
  obtain ⟨a1, len1, cap1, rfl⟩ := okWide_slice Try.underlying29 (hval 1 29 v1 rfl rfl)
  have k1 := h1
  have lt1 : ∀ x ∈ p1, x.block < W.heap.size := by obtain ⟨m, hm⟩ := k1; exact DataW.trod_lt m _ _ _ hm
  obtain ⟨z1, w1⟩ : ∃ zs, ArgRow .u8 W a1 len1 cap1 zs := by
    obtain ⟨fuel, hf⟩ := h1
    rcases open_ints Try.underlying29 Try.underlying5 (by kernel_rfl) hf with ⟨hcs, _⟩ | ⟨x, l, c, zs, hcs, _, hl, hm, hz, _, hcell, hwz⟩
    · simp [Value.cells] at hcs
      obtain ⟨rfl, rfl, rfl⟩ := hcs
      exact ⟨[], .inl ⟨rfl, rfl, rfl, rfl⟩⟩
    · simp [Value.cells] at hcs
      obtain ⟨rfl, rfl, rfl⟩ := hcs
      exact ⟨zs, .inr ⟨_, rfl, hl, hm, by simpa using hz, hcell, hwz⟩⟩
  obtain ⟨a2, rfl, rfl, rfl, w2⟩ := open_int Try.underlying5 (hval 2 5 v2 rfl rfl) h2
  clear hA0 hval0
  refine (some_run a0 a1 len1 cap1 z1 a2 W w0 w1 w2).mono fun e W' ⟨he, bel⟩ => ?_
  subst he
  exact ⟨_, rfl, _, _, _, [], _, [], hW', trodAll_mk1 (shut_bool Try.underlying4 _), (trodAll_cons_mk (shut_int Try.underlying22 w0) (trodAll_cons_mk (Below.trod ringSome_laid (by kernel_rfl) (of_decide_eq_true (by kernel_rfl)) k1 bel lt1) (trodAll_cons_mk (shut_int Try.underlying5 w2) trodAll_mk0))), rfl, bel.frame _, fun h => by cases h⟩
theorem ringSome_over : Rows.ringSomeRow.holds Try.pinned (OpenSpec.ofChange Rows.ringSomeSpec) :=
  OpenClaim.holds_of_wide 6 Try.f6 rfl rfl rfl rfl rfl rfl rfl ⟨rfl, rfl, rfl, rfl, rfl⟩ rfl rfl rfl rfl rfl (by kernel_rfl) Try.func6 (by kernel_rfl)
    (of_decide_eq_true (by kernel_rfl)) (by unfold Func.isWrapper; first | (rw [if_pos (by decide +kernel)]; kernel_rfl) | (rw [if_neg (by decide +kernel)]; exact ⟨rfl, rfl⟩))
    (fun os started H enc _ => ringSome_lifted os started H enc)
theorem ringSome_holds : Rows.RingSomeSaid := ringSome_over
#print axioms ringSome_holds
end Go.Proofs.Ytheipflmkjiimaa
