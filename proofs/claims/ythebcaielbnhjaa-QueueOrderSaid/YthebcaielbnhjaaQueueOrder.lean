/- QueueOrder: what was told least is told first, of the same by its ID; what is told with it goes down: for every list of how often each is to be told, and however many at once. -/
import Derived.Test.YthebcaielbnhjaaQuFresh
import Derived.Deep.DeepCutAuto
import Derived.ChangeOld
import Derived.ChangeMaps5
import Derived.ShutString
import Derived.OpenShut
import Derived.SizedLaws
namespace Go.Proofs.Ythebcaielbnhjaa
open Go.Sort Go.RowKit Go.BigFrame Go.ChangeShapes Go.WideShapes Go.ChangeAt
open Go.ChangeMaps (open_string shut_string)
set_option linter.unusedVariables false
set_option linter.unusedSimpArgs false

/-- after i nodes -/
structure OrdS (i : Nat) (S : List Im) : Prop where
  ok : OkS 8 S
  len : S.length = i
  ids : ∀ x ∈ S, x.r.id ≤ i
  lo : ∀ x ∈ S, 2 ≤ x.left
  hi : ∀ x ∈ S, x.left ≤ 6
theorem ord_nil : OrdS 0 [] := ⟨ok_nil 8, rfl, by simp, by simp, by simp⟩
theorem ord_step {i : Nat} {S : List Im} (h : OrdS i S) (hi : i < 6) {n : Int} (hn : 2 ≤ n ∧ n ≤ 6) : OrdS (i + 1) (addS 8 S (nR i) n) := by
  have hid : ∀ y ∈ S, y.r.id ≠ (nR i).id := fun y hy e => by
    have := h.ids y hy; rw [e] at this; simp [nR] at this; omega
  obtain ⟨-, e⟩ := add_room (room := 8) (S := S) (r := nR i) (n := n) (nR_right (by omega)) ⟨by omega, by omega⟩ hid (by rw [h.len]; omega)
  have hp := put_perm ⟨nR i, n⟩ S
  have hm : ∀ x ∈ putS ⟨nR i, n⟩ S, x = ⟨nR i, n⟩ ∨ x ∈ S := fun x hx => List.mem_cons.1 (hp.subset hx)
  refine ⟨add_ok h.ok (nR_ok i) n, by rw [e, put_len, h.len], fun x hx => ?_, fun x hx => ?_, fun x hx => ?_⟩
  · rw [e] at hx
    rcases hm x hx with rfl | hx
    · simp [nR]
    · have := h.ids x hx; omega
  · rw [e] at hx
    rcases hm x hx with rfl | hx
    · exact hn.1
    · exact h.lo x hx
  · rw [e] at hx
    rcases hm x hx with rfl | hx
    · exact hn.2
    · exact h.hi x hx
def OJ1 (m : Nat) (w0 : World) (g : Nat) (iv : Value) (wr : World) : Prop := ∃ (i : Nat) (v : Sl) (S : List Im), iv = .int .i64 (i : Nat) ∧ i ≤ m ∧ OrdS i S ∧ St w0 [hQ true g 8 v S] wr
def OJ2 (m : Nat) (w0 : World) (H : List Hl) (iv : Value) (wr : World) : Prop := ∃ i : Nat, iv = .int .i64 (i : Nat) ∧ i ≤ m ∧ St w0 H wr
def OJ3 (S S' : List Im) (w0 : World) (H : List Hl) (lv wv iv : Value) (wr : World) : Prop := ∃ i : Nat, iv = .int .i64 (i : Nat) ∧ i ≤ S.length ∧ lv = .int .i64 (sumI (S'.take i)) ∧ wv = .int .i64 (sumI (S.take i)) ∧ St w0 H wr
set_option maxHeartbeats 6400000 in
set_option maxRecDepth 20000 in
theorem order_walk (a : Option Addr) (len cap m : Nat) (Z : List Int) (k : Int) (w : World) (hr : Rd .u8 w w.heap.size a Z) (hZ : Z.length = len) (hlen : len ≤ 9223372036854775807) (hz : ∀ z ∈ Z, 0 ≤ z ∧ z ≤ 255) (k0 : 0 ≤ k) (k1 : k ≤ 255) (hm : m = min len 6) :
    Calls Try.prog 6 #[.slice a len cap, .int .u8 k] w fun e w' => e = .returned (.bool true) ∧ Below w.heap.size w w' := by
  have E := ex_any w
  have HR := Lib.hid hr
  have HZ := Lib.hid hZ
  have HZZ := Lib.hid hz
  have HM := Lib.hid hm
  have hl2 : (len : Int) ≤ 9223372036854775807 := by omega
  have hml : m ≤ len := by omega
  have hm6 : m ≤ 6 := by omega
  clear hr hZ hz hm
  go_enter Try.func6, Try.ntmps6
  go_wp2_with fail
  refine E.mono ?_; rintro e w1 ⟨rfl, b1⟩
  have K := newq_ok 8 (by decide) (by decide) (St.start w w1 b1)
  clear E b1
  go_wp2_with fail
  refine K.mono ?_; rintro e w2 ⟨g, rfl, s2⟩
  have S0 : Hid (OJ1 m w g (.int .i64 0) w2) := ⟨0, _, _, rfl, Nat.zero_le _, ord_nil, s2⟩
  clear K s2
  go_wp2_with fail
  go_loopw [8] (fun iv wr => OJ1 m w g iv wr) (fun iv _ => 100 - (intOf iv).toNat)
  case atStart => exact S0.out
  case round =>
    obtain ⟨i, v, S, rfl, hi, hO, hs⟩ := hrel
    clear S0
    have hI0 : (0 : Int) ≤ i := by omega
    have HS := Lib.hid hs
    have HO := Lib.hid hO
    clear hs hO
    obtain ⟨bb, hbb⟩ : ∃ bb, decide (i < m) = bb := ⟨_, rfl⟩
    go_upto_region 8 with fail
    go_cut [37] (fun c wx => c = .bool bb ∧ wr = wx)
    case first =>
      by_cases h1 : i < len
      · have h1' : (i : Int) < len := by omega
        have h1d : decide ((i : Int) < len) = true := decide_eq_true h1'
        by_cases h2 : i < 6
        · have h2' : (i : Int) < 6 := by omega
          have h2d : decide ((i : Int) < 6) = true := decide_eq_true h2'
          obtain rfl : bb = true := by rw [← hbb]; exact decide_eq_true (by have := HM.out; omega)
          clear hbb
          go_wp2_with fail
          go_meet
          exact ⟨rfl, rfl⟩
        · have h2' : ¬ (i : Int) < 6 := by omega
          have h2d : decide ((i : Int) < 6) = false := decide_eq_false h2'
          obtain rfl : bb = false := by rw [← hbb]; exact decide_eq_false (by omega)
          clear hbb
          go_wp2_with fail
          go_meet
          exact ⟨rfl, rfl⟩
      · have h1' : ¬ (i : Int) < len := by omega
        have h1d : decide ((i : Int) < len) = false := decide_eq_false h1'
        obtain rfl : bb = false := by rw [← hbb]; exact decide_eq_false (by omega)
        clear hbb
        go_wp2_with fail
        go_meet
        exact ⟨rfl, rfl⟩
    case rest =>
      obtain ⟨rfl, rfl⟩ := hcut
      cases bb
      · obtain rfl : i = m := by have := of_decide_eq_false hbb; omega
        clear hbb
        have hSl := Lib.hid HO.out.len
        have K := items_l (g := g) (room := 8) (v := v) (S := S) HS.out (by simp)
        obtain ⟨q, hq⟩ : ∃ q, k % 8 = q := ⟨_, rfl⟩
        have hq2 : k.tmod 8 = q := by rw [tmod_pos _ _ k0]; exact hq
        have q0 : 0 ≤ q ∧ q < 8 := by omega
        have cq := IntWalk.u8_in q ⟨by omega, by omega⟩
        have cq2 := IntWalk.i64_in q ⟨by omega, by omega⟩
        have hSl2 : (S.length : Int) ≤ 6 := by have := hSl.out; omega
        go_wp2_with fail
        refine K.mono ?_; rintro e w3 ⟨u, rfl, s3⟩
        have K2 := some_l q [_] [] s3
        obtain ⟨l1, l2⟩ := some_all HO.out.lo q
        have hmin : min q (S.length : Int) = (cutS S q : Nat) := by unfold cutS; omega
        have hcl := cut_le S q
        have hDl : (toldS S q).length = cutS S q := toldTo_len hcl
        have hDx : Hid (toldS S q = toldTo S (cutS S q)) := rfl
        have hOk' := Lib.hid (some_ok HO.out.ok q)
        rw [hDl] at K2
        replace hDl := Lib.hid hDl
        generalize toldS S q = D at *
        generalize someS S q = S' at *
        generalize cutS S q = n at *
        have hnq : (n : Int) ≤ 6 := by omega
        clear K s3
        go_wp2_with fail
        refine K2.mono ?_; rintro e w4 ⟨td, v4, rfl, s4⟩
        have s4 : St w [hE rcs 5 37 td D, hE ci 6 61 u S, hQ true g 8 v4 S'] w4 := s4
        have K3 := len_l (g := g) (room := 8) (v := v4) (S := S') s4 (by simp)
        rw [l1] at K3
        have S4 := Lib.hid s4
        clear K2 s4
        go_wp2_with fail
        refine K3.mono ?_; rintro e w5 ⟨rfl, rfl⟩
        clear K3
        have SJ : Hid (OJ2 S.length w [hE rcs 5 37 td D, hE ci 6 61 u S, hQ true g 8 v4 S'] (.int .i64 0) w5) := ⟨0, rfl, Nat.zero_le _, S4.out⟩
        clear S4 HS
        go_wp2_with fail
        go_loopw [12] (fun iv wr => OJ2 S.length w [hE rcs 5 37 td D, hE ci 6 61 u S, hQ true g 8 v4 S'] iv wr) (fun iv _ => 100 - (intOf iv).toNat)
        case atStart => exact SJ.out
        case round =>
          obtain ⟨j, rfl, hj, hs⟩ := hrel
          clear SJ
          have hJ0 : (0 : Int) ≤ j := by omega
          have HS := Lib.hid hs
          by_cases hlt : j < S.length
          · have hlt' : (j : Int) < S.length := by omega
            obtain ⟨x, hx⟩ : ∃ x, S[j]? = some x := ⟨_, List.getElem?_eq_getElem hlt⟩
            obtain ⟨bu, ou, hbo, hbl, hcc⟩ := (hs.rd (T := 61) (u := u) (L := S) ci_enc (by simp)) (by omega)
            have hcx := hcc j _ hx
            have c0 := hcx 0 _ rfl
            have c1 := hcx 1 _ rfl
            have c2 := hcx 2 _ rfl
            have c3 := hcx 3 _ rfl
            have c4 := hcx 4 _ rfl
            have c5 := hcx 5 _ rfl
            simp only [Nat.add_zero] at c0
            have hxr : x.r.Ok := (HO.out.ok.ok x (List.mem_of_getElem? hx)).ok
            obtain ⟨ua, un, uc⟩ := u
            simp only at hbo
            subst hbo
            go_upto_region 19 with fail
            go_cut [145] (fun c wx => c = .bool false ∧ Below wr.heap.size wr wx)
            case first =>
              by_cases hjn : j < n
              · have hjn' : (j : Int) < n := by omega
                have hjnd : decide ((j : Int) < n) = true := decide_eq_true hjn'
                have hjnN : decide (j < n) = true := decide_eq_true hjn
                have hDj : D[j]? = some x.r := by
                  rw [hDx.out]; unfold toldTo
                  rw [List.getElem?_map, List.getElem?_take, if_pos hjn, hx]; rfl
                obtain ⟨bt, ot, hbt, hbtl, hct⟩ := (hs.rd (T := 37) (u := td) (L := D) rcs_enc (by simp)) (by rw [hDl.out]; omega)
                have hctx := hct j _ hDj
                have t0 := hctx 0 _ rfl
                have t1 := hctx 1 _ rfl
                have t2 := hctx 2 _ rfl
                have t3 := hctx 3 _ rfl
                have t4 := hctx 4 _ rfl
                simp only [Nat.add_zero] at t0
                obtain ⟨ta, tn, tc⟩ := td
                simp only at hbt
                subst hbt
                clear hct hctx hDj hs hjn
                by_cases hj1 : 0 < j
                · obtain ⟨y, hy⟩ : ∃ y, S[j - 1]? = some y := ⟨_, List.getElem?_eq_getElem (by omega)⟩
                  obtain ⟨j', hj'⟩ : ∃ j', j - 1 = j' := ⟨_, rfl⟩
                  have hlt2 := srt_at HO.out.ok.srt (x := y) (y := x) hy (by rw [show j - 1 + 1 = j by omega]; exact hx)
                  rw [hj'] at hy
                  have hcy := hcc j' _ hy
                  have p0 := hcy 0 _ rfl
                  have p5 := hcy 5 _ rfl
                  simp only [Nat.add_zero] at p0
                  have hjj : (j : Int) - 1 = (j' : Nat) := by omega
                  have hj'0 : (0 : Int) ≤ (j' : Nat) := by omega
                  have hj'l : (j' : Int) < S.length := by omega
                  have cj' := IntWalk.i64_in ((j' : Nat) : Int) ⟨by omega, by omega⟩
                  have hj1' : (0 : Int) < j := by omega
                  have hj1d : decide ((0 : Int) < j) = true := decide_eq_true hj1'
                  have hj1N : decide (0 < j) = true := decide_eq_true hj1
                  clear hcc hcx hcy hx hy hj' hj1
                  obtain ⟨⟨i1, s1, n1, a1, p1⟩, x1⟩ := x
                  obtain ⟨⟨i2, s2, n2, a2, p2⟩, y1⟩ := y
                  simp only at *
                  unfold LtI at hlt2
                  simp only at hlt2
                  rcases hlt2 with hlt2 | ⟨hlt2, hlt3⟩
                  · have e1 : decide (y1 < x1) = false := decide_eq_false (by omega)
                    have e2 : (y1 == x1) = false := by rw [beq_eq_false_iff_ne]; omega
                    have e3 : ¬ y1 = x1 := by omega
                    have e4 : ¬ y1 < x1 := by omega
                    clear hlt2
                    go_quiet (fail)
                    go_wp2_with fail
                    go_meet
                    exact ⟨rfl, below_drewN (Below.refl _ _) _⟩
                  · subst hlt2
                    have e1 : decide (y1 < y1) = false := decide_eq_false (by omega)
                    have e2 : decide (i1 ≤ i2) = false := decide_eq_false (by omega)
                    have e3 : ¬ i1 ≤ i2 := by omega
                    clear hlt3
                    go_quiet (fail)
                    go_wp2_with fail
                    go_meet
                    exact ⟨rfl, below_drewN (Below.refl _ _) _⟩
                · obtain rfl : j = 0 := by omega
                  have hj1d : decide ((0 : Int) < ((0 : Nat) : Int)) = false := rfl
                  clear hcc hcx hx hj1
                  obtain ⟨⟨i1, s1, n1, a1, p1⟩, x1⟩ := x
                  simp only [Nat.zero_mul, Nat.add_zero, Nat.zero_add] at *
                  go_quiet (fail)
                  go_wp2_with fail
                  go_meet
                  exact ⟨rfl, below_drewN (Below.refl _ _) _⟩
              · have hjn' : ¬ (j : Int) < n := by omega
                have hjnd : decide ((j : Int) < n) = false := decide_eq_false hjn'
                have hjnN : decide (j < n) = false := decide_eq_false hjn
                clear hs hjn
                by_cases hj1 : 0 < j
                · obtain ⟨y, hy⟩ : ∃ y, S[j - 1]? = some y := ⟨_, List.getElem?_eq_getElem (by omega)⟩
                  obtain ⟨j', hj'⟩ : ∃ j', j - 1 = j' := ⟨_, rfl⟩
                  have hlt2 := srt_at HO.out.ok.srt (x := y) (y := x) hy (by rw [show j - 1 + 1 = j by omega]; exact hx)
                  rw [hj'] at hy
                  have hcy := hcc j' _ hy
                  have p0 := hcy 0 _ rfl
                  have p5 := hcy 5 _ rfl
                  simp only [Nat.add_zero] at p0
                  have hjj : (j : Int) - 1 = (j' : Nat) := by omega
                  have hj'0 : (0 : Int) ≤ (j' : Nat) := by omega
                  have hj'l : (j' : Int) < S.length := by omega
                  have cj' := IntWalk.i64_in ((j' : Nat) : Int) ⟨by omega, by omega⟩
                  have hj1' : (0 : Int) < j := by omega
                  have hj1d : decide ((0 : Int) < j) = true := decide_eq_true hj1'
                  have hj1N : decide (0 < j) = true := decide_eq_true hj1
                  clear hcc hcx hcy hx hy hj' hj1
                  obtain ⟨⟨i1, s1, n1, a1, p1⟩, x1⟩ := x
                  obtain ⟨⟨i2, s2, n2, a2, p2⟩, y1⟩ := y
                  simp only at *
                  unfold LtI at hlt2
                  simp only at hlt2
                  rcases hlt2 with hlt2 | ⟨hlt2, hlt3⟩
                  · have e1 : decide (y1 < x1) = false := decide_eq_false (by omega)
                    have e2 : (y1 == x1) = false := by rw [beq_eq_false_iff_ne]; omega
                    have e3 : ¬ y1 = x1 := by omega
                    have e4 : ¬ y1 < x1 := by omega
                    clear hlt2
                    go_quiet (fail)
                    go_wp2_with fail
                    go_meet
                    exact ⟨rfl, below_drewN (Below.refl _ _) _⟩
                  · subst hlt2
                    have e1 : decide (y1 < y1) = false := decide_eq_false (by omega)
                    have e2 : decide (i1 ≤ i2) = false := decide_eq_false (by omega)
                    have e3 : ¬ i1 ≤ i2 := by omega
                    clear hlt3
                    go_quiet (fail)
                    go_wp2_with fail
                    go_meet
                    exact ⟨rfl, below_drewN (Below.refl _ _) _⟩
                · obtain rfl : j = 0 := by omega
                  have hj1d : decide ((0 : Int) < ((0 : Nat) : Int)) = false := rfl
                  clear hcc hcx hx hj1
                  obtain ⟨⟨i1, s1, n1, a1, p1⟩, x1⟩ := x
                  simp only [Nat.zero_mul, Nat.add_zero, Nat.zero_add] at *
                  go_quiet (fail)
                  go_wp2_with fail
                  go_meet
                  exact ⟨rfl, below_drewN (Below.refl _ _) _⟩
            case rest =>
              obtain ⟨rfl, hb⟩ := hcut
              generalize wc = w6 at *
              have HS2 := Lib.hid (hs.keep hb)
              have hj1 : j + 1 ≤ S.length := hlt
              clear hb hs hcc hcx hx c0 c1 c2 c3 c4 c5 HS
              go_wp2
              go_roundw
              case rel => exact ⟨j + 1, by go_num, hj1, HS2.out⟩
              case measure => simp [intOf]; omega
          · obtain rfl : j = S.length := by omega
            have hge : ¬ (S.length : Int) < S.length := by omega
            have K := items_l (g := g) (room := 8) (v := v4) (S := S') hs (by simp)
            clear hs
            go_wp2_with fail
            refine K.mono ?_; rintro e w6 ⟨u2, rfl, s6⟩
            rw [l1]
            have SJ : Hid (OJ3 S S' w [hE ci 6 61 u2 S', hE ci 6 61 u S] (.int .i64 0) (.int .i64 0) (.int .i64 0) w6) := ⟨0, rfl, Nat.zero_le _, rfl, rfl, s6.sub (by simp)⟩
            clear K s6 HS
            have HL1 := Lib.hid l1
            have HL2 := Lib.hid l2
            clear l1 l2 hDl hDx hmin
            go_wp2_with fail
            go_loopw [13, 14, 16] (fun lv wv iv wr => OJ3 S S' w [hE ci 6 61 u2 S', hE ci 6 61 u S] lv wv iv wr) (fun _ _ iv _ => 100 - (intOf iv).toNat)
            case atStart => exact SJ.out
            case round =>
              obtain ⟨j, rfl, hj, rfl, rfl, hs⟩ := hrel
              clear SJ
              have hJ0 : (0 : Int) ≤ j := by omega
              have sb1 := sum_bound (c := 100) (L := S'.take j) (fun x hx => by have := (hOk'.out.ok x (List.mem_of_mem_take hx)); exact ⟨by have := this.l1; omega, this.l2⟩)
              have sb2 := sum_bound (c := 100) (L := S.take j) (fun x hx => by have := (HO.out.ok.ok x (List.mem_of_mem_take hx)); exact ⟨by have := this.l1; omega, this.l2⟩)
              rw [List.length_take] at sb1 sb2
              have sb3 : sumI (S'.take j) ≤ 700 := by omega
              have sb4 : sumI (S.take j) ≤ 700 := by omega
              by_cases hlt : j < S.length
              · have hlt' : (j : Int) < S.length := by omega
                obtain ⟨x, hx⟩ : ∃ x, S[j]? = some x := ⟨_, List.getElem?_eq_getElem hlt⟩
                obtain ⟨y, hy⟩ : ∃ y, S'[j]? = some y := ⟨_, List.getElem?_eq_getElem (by rw [HL1.out]; exact hlt)⟩
                obtain ⟨bu, ou, hbo, hbl, hcc⟩ := (hs.rd (T := 61) (u := u) (L := S) ci_enc (by simp)) (by omega)
                obtain ⟨bn, on, hbn, hbnl, hcn⟩ := (hs.rd (T := 61) (u := u2) (L := S') ci_enc (by simp)) (by rw [HL1.out]; omega)
                have c5 := hcc j _ hx 5 _ rfl
                have d5 := hcn j _ hy 5 _ rfl
                obtain ⟨ua, un, uc⟩ := u
                obtain ⟨ua2, un2, uc2⟩ := u2
                simp only at hbo hbn
                subst hbo hbn
                have E1 := Lib.hid (sum_succ hy)
                have E2 := Lib.hid (sum_succ hx)
                have ox := HO.out.ok.ok x (List.mem_of_getElem? hx)
                have oy := hOk'.out.ok y (List.mem_of_getElem? hy)
                have ox1 := ox.l1
                have ox2 := ox.l2
                have oy1 := oy.l1
                have oy2 := oy.l2
                have w1 := IntWalk.i64_in (sumI (S'.take j) + y.left) ⟨by omega, by omega⟩
                have w2 := IntWalk.i64_in (sumI (S.take j) + x.left) ⟨by omega, by omega⟩
                have HS := Lib.hid hs
                have hj1 : j + 1 ≤ S.length := hlt
                clear hcc hcn hx hy ox oy hs sb1 sb2
                go_wp2
                go_roundw
                case rel => exact ⟨j + 1, by go_num, hj1, by rw [E1.out], by rw [E2.out], HS.out⟩
                case measure => simp [intOf]; omega
              · obtain rfl : j = S.length := by omega
                have hge : ¬ (S.length : Int) < S.length := by omega
                have e1 : S'.take S.length = S' := List.take_of_length_le (by rw [HL1.out]; exact Nat.le_refl _)
                have e2 : S.take S.length = S := List.take_of_length_le (Nat.le_refl _)
                have e3 : sumI S' = sumI S - (n : Nat) := HL2.out
                have HB := Lib.hid hs.below
                rw [e2] at sb2 sb4
                rw [e1, e2, e3]
                have w1 := IntWalk.i64_in (sumI S - (n : Nat)) ⟨by omega, by omega⟩
                clear e1 e2 e3 hs sb1 sb2 sb3 HL1 HL2
                generalize sumI S = sm at *
                go_wp2
                go_ret
                exact ⟨rfl, HB.out⟩
      · have hlt : i < m := of_decide_eq_true hbb
        clear hbb
        have hlt' : (i : Int) < len := by omega
        have hi6 : i < 6 := by omega
        have hi6' : (i : Int) < 6 := by omega
        obtain ⟨b, off, rfl, hB, hc⟩ := (HR.out.below (HS.out.below)) (by rw [HZ.out]; omega)
        have c0 := hc i (by rw [HZ.out]; omega)
        have hzz := HZZ.out (Z.getD i 0) (by
          rw [List.getD_eq_getElem?_getD, List.getElem?_eq_getElem (by rw [HZ.out]; omega)]
          exact List.getElem_mem _)
        generalize Z.getD i 0 = z at *
        obtain ⟨q, hq⟩ : ∃ q, z % 5 = q := ⟨_, rfl⟩
        have hq2 : z.tmod 5 = q := by rw [tmod_pos _ _ hzz.1]; exact hq
        have q0 : 0 ≤ q ∧ q < 5 := by omega
        have cq := IntWalk.u8_in q ⟨by omega, by omega⟩
        have cq2 := IntWalk.i64_in q ⟨by omega, by omega⟩
        have cq3 := IntWalk.i64_in (2 + q) ⟨by omega, by omega⟩
        have ci1 := IntWalk.i64_in ((i : Int) + 1) ⟨by omega, by omega⟩
        have K := add_l (nR i) (nR_ok i) (2 + q) [] [] HS.out
        have hst := Lib.hid (ord_step HO.out hi6 (n := 2 + q) ⟨by omega, by omega⟩)
        have hi1 : i + 1 ≤ m := hlt
        clear hc HS HO hB hzz hq
        go_wp2_with fail
        refine K.mono ?_; rintro e w3 ⟨rfl, v3, s3⟩
        have S3 := Lib.hid s3
        clear K s3 c0
        go_wp2
        go_roundw
        case rel => exact ⟨i + 1, v3, _, by go_num, hi1, hst.out, S3.out⟩
        case measure => simp [intOf]; omega
theorem order_run (a : Option Addr) (len cap : Nat) (zs : List Int) (k : Int) (w : World) (wz : ArgRow .u8 w a len cap zs) (ws : (Lit.int .u8 k).wf = true) :
    Calls Try.prog 6 #[.slice a len cap, .int .u8 k] w fun e w' => e = .returned (.bool true) ∧ Below w.heap.size w w' := by
  obtain ⟨h1, h2, h3, h4, h5, h6⟩ := wz.rd
  obtain ⟨s0, s1⟩ := bounds_u8 ws
  exact order_walk a len cap _ (zs.take len) k w h1 h2 (by omega) (fun z hz => bounds_u8 (h6 z hz)) s0 s1 rfl
theorem queueOrder_own : ownKnob Try.prog.godebug = none := by kernel_rfl
theorem queueOrder_laid : laidOutB Try.prog = true := by kernel_rfl
set_option maxRecDepth 100000 in
theorem queueOrder_lifted (os : Os) (started : os.Started) (H : Type) (enc : TypeId × Value → H) :
    ReturnsInHanded {} Try.checked os 6 .any (Rows.queueOrderSpec.pre6 enc Try.prog Try.f6 Rows.queueOrderRow.domain false) (Rows.queueOrderSpec.post enc Try.prog Try.f6 false true false false) := by
  refine returnsInHanded_of_change (C := Try.checked) queueOrder_own started (by kernel_rfl) Try.func6
    (ChangeSpec.witness6 (enc := enc) (C := Try.checked) false ⟨#[], #[.slice none 0 0, .int .u8 0], []⟩ 8 (by kernel_rfl) (by kernel_rfl) (by kernel_rfl) (by kernel_rfl)) ?_
  intro W base args ds gs before hval0 hW hcnd _
  have hval : ∀ (j : Nat) t v, Try.f6.params[j]? = some t → args[j]? = some v → Value.okWide Try.prog W .any base t v := hval0
  have hW' := hW
  obtain ⟨p, q, hA0, hV, rfl, hfz, hnd⟩ := hW
  have hA : DataW.TrodAll enc Try.prog W 0 (fun _ => true) true Try.f6.params.toList args.toList ds p := hA0
  rw [Try.params6] at hA hval
  obtain ⟨v0, vs0, d0, ds0, p0, q0, hargs, rfl, rfl, h0, r0⟩ := trodAll_cons hA
  obtain ⟨v1, vs1, d1, ds1, p1, q1, rfl, rfl, rfl, h1, r1⟩ := trodAll_cons r0
  obtain ⟨rfl, rfl, rfl⟩ := trodAll_nil r1
  obtain rfl : args = #[v0, v1] := by cases args; simp_all
  obtain ⟨rfl, rfl⟩ := trodVars_none hV
  obtain ⟨a0, len0, cap0, rfl⟩ := okWide_slice Try.underlying65 (hval 0 65 v0 rfl rfl)
  have k0 := h0
  have lt0 : ∀ x ∈ p0, x.block < W.heap.size := by obtain ⟨m, hm⟩ := k0; exact DataW.trod_lt m _ _ _ hm
  obtain ⟨z0, w0⟩ : ∃ zs, ArgRow .u8 W a0 len0 cap0 zs := by
    obtain ⟨fuel, hf⟩ := h0
    rcases open_ints Try.underlying65 Try.underlying5 (by kernel_rfl) hf with ⟨hcs, _⟩ | ⟨x, l, c, zs, hcs, _, hl, hm, hz, _, hcell, hwz⟩
    · simp [Value.cells] at hcs
      obtain ⟨rfl, rfl, rfl⟩ := hcs
      exact ⟨[], .inl ⟨rfl, rfl, rfl, rfl⟩⟩
    · simp [Value.cells] at hcs
      obtain ⟨rfl, rfl, rfl⟩ := hcs
      exact ⟨zs, .inr ⟨_, rfl, hl, hm, by simpa using hz, hcell, hwz⟩⟩
  obtain ⟨a1, rfl, rfl, rfl, w1⟩ := open_int Try.underlying5 (hval 1 5 v1 rfl rfl) h1
  clear hA0 hval0
  refine (order_run a0 len0 cap0 z0 a1 W w0 w1).mono fun e W' ⟨he, bel⟩ => ?_
  subst he
  exact ⟨_, rfl, _, _, _, [], _, [], hW', trodAll_mk1 (shut_bool Try.underlying4 _), (trodAll_cons_mk (Below.trod queueOrder_laid (by kernel_rfl) (of_decide_eq_true (by kernel_rfl)) k0 bel lt0) (trodAll_cons_mk (shut_int Try.underlying5 w1) trodAll_mk0)), rfl, bel.frame _, fun h => by cases h⟩
theorem queueOrder_over : Rows.queueOrderRow.holds Try.pinned (OpenSpec.ofChange Rows.queueOrderSpec) :=
  OpenClaim.holds_of_wide 6 Try.f6 rfl rfl rfl rfl rfl rfl rfl ⟨rfl, rfl, rfl, rfl, rfl⟩ rfl rfl rfl rfl rfl (by kernel_rfl) Try.func6 (by kernel_rfl)
    (of_decide_eq_true (by kernel_rfl)) (by unfold Func.isWrapper; first | (rw [if_pos (by decide +kernel)]; kernel_rfl) | (rw [if_neg (by decide +kernel)]; exact ⟨rfl, rfl⟩))
    (fun os started H enc _ => queueOrder_lifted os started H enc)
theorem queueOrder_holds : Rows.QueueOrderSaid := queueOrder_over
#print axioms queueOrder_holds
end Go.Proofs.Ythebcaielbnhjaa
