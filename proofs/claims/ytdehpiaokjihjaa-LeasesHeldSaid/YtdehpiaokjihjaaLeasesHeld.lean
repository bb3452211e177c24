/- LeasesHeld: held is just what was asked, and granted to a time that is not over; what was lost is not: till whatever time each of at most eight is granted, whichever are lost, at whatever time. -/
import Derived.Test.YtdehpiaokjihjaaHeldMath
namespace Go.Proofs.Ytdehpiaokjihjaa
open Go.Sort Go.RowKit Go.BigFrame Go.ChangeShapes Go.WideShapes Go.Deep
set_option linter.unusedVariables false
set_option linter.unusedSimpArgs false

def hP (u : Sl) (L : List (Nat × Nat)) : Hl := hW cc 1 50 u L
theorem St.pushW {α : Type} {c : α → List Value} {z : Nat} {T : TypeId} {w0 w w' : World} {u : Sl} {L : List α} {x : α} {g n cap : Nat} (H1 H2 : List Hl) (s : St w0 (H1 ++ hW c z T u L :: H2) w) (hn : n = L.length) (hown : w'.ownsRow 0 T z (.slice (some ⟨g, 0, none⟩) (n + 1) cap) (n + 1) ((L.map c).flatten ++ c x)) (hg : w.grownBy w' u.v.ownBlock) (hat : u.v.ownBlock = some g ∨ g = w.heap.size) :
    St w0 (H1 ++ hW c z T ⟨some ⟨g, 0, none⟩, n + 1, cap⟩ (L ++ [x]) :: H2) w' :=
  s.aft (h := hW c z T u L) (h' := hW c z T ⟨some ⟨g, 0, none⟩, n + 1, cap⟩ (L ++ [x])) (Touch.of_grown hg (fun _ h => h)) (erow_snoc hn hown) (fun b hb => by
    obtain rfl : g = b := by injection hb
    rcases hat with h | h
    · exact .inl h
    · exact .inr (by omega))
theorem St.rowW {α : Type} {c : α → List Value} {z : Nat} {T : TypeId} {w0 w : World} {H : List Hl} {u : Sl} {L : List α} {n : Nat} (s : St w0 H w) (hm : hW c z T u L ∈ H) (hn : u.n = n) (hl : L.length = n) : w.ownsRow 0 T z (.slice u.a n u.c) n (L.map c).flatten := by
  have h : ERow c z T w u.v L := s.get hm
  unfold ERow Sl.v at h
  rw [hl, hn] at h; exact h
def H1J (n0 : Nat) (w : World) (g : Nat) (sv pv iv : Value) (wr : World) : Prop := ∃ (i : Nat) (u v : Sl), iv = .int .i64 (i : Nat) ∧ i ≤ n0 ∧ i ≤ 8 ∧ u.n = i ∧ v.n = i ∧ sv = .slice u.a i u.c ∧ pv = .slice v.a i v.c ∧ St w [hI u (idL i), hP v (plL i), hE g (newL 8 5)] wr
def H2J (xs : List Int) (lost : Int) (m : Nat) (u : Sl) (w : World) (g : Nat) (iv : Value) (wr : World) : Prop := ∃ i : Nat, iv = .int .i64 (i : Nat) ∧ i ≤ m ∧ St w [hI u (idL m), hE g (hLs xs lost m i)] wr
def H3J (xs : List Int) (lost q : Int) (m : Nat) (u uh : Sl) (L : List Int) (w : World) (g : Nat) (mv iv : Value) (wr : World) : Prop := ∃ i : Nat, iv = .int .i64 (i : Nat) ∧ mv = .int .i64 ((loH q (hRl xs lost m m) (i + 1)).length : Nat) ∧ i ≤ m ∧ St w [hI uh L, hI u (idL m), hE g (hLs xs lost m m)] wr
set_option maxHeartbeats 12800000 in
set_option maxRecDepth 100000 in
theorem held_walk (a : Option Addr) (n0 cap : Nat) (xs : List Int) (lost y : Int) (w : World) (hnl : n0 ≤ 9223372036854775807) (hn0 : Hid (xs.length = n0)) (h8 : Hid (∀ z ∈ xs, 0 ≤ z ∧ z < 256)) (hr : Hid (Rd .u8 w w.heap.size a xs)) (hx : 0 ≤ lost ∧ lost < 256) (hy : 0 ≤ y ∧ y < 256) :
    Calls Try.prog 5 #[.slice a n0 cap, .int .u8 lost, .int .u8 y] w fun e w' => e = .returned (.bool true) ∧ Below w.heap.size w w' := by
  have E := ex_any w
  obtain ⟨q', hq'⟩ : ∃ q, y % 60 = q := ⟨_, rfl⟩
  have hq2' : y.tmod 60 = q' := by rw [tmod_pos _ _ hy.1]; exact hq'
  have q8' := IntWalk.u8_in q' ⟨by omega, by omega⟩
  have q64' := IntWalk.u64_in q' ⟨by omega, by omega⟩
  have q0' : 0 ≤ q' := by omega
  clear hq' hy
  obtain ⟨i0, hi0, hz0, hz1, hz2⟩ := info_parts info_int
  obtain ⟨i1, hi1, hy0, hy1, hy2⟩ := info_parts info_cx
  go_enter Try.func5, Try.ntmps5
  go_wp2_with fail
  refine E.mono ?_; rintro e w0 ⟨rfl, b0'⟩
  have K := newE_l (r := 8) (h := 5) (by decide) (St.start w w0 b0')
  clear E b0'
  go_wp2_with fail
  refine K.mono ?_; rintro e w1 ⟨g, rfl, s⟩
  have S0 : Hid (H1J n0 w g (.slice none 0 0) (.slice none 0 0) (.int .i64 0) w1) := ⟨0, nilS, nilS, rfl, Nat.zero_le _, by omega, rfl, rfl, rfl, rfl,
    (s.nil (h := hP nilS []) erow_nil (fun b hb => nil_own b hb)).nil (h := hI nilS []) erow_nil (fun b hb => nil_own b hb)⟩
  clear K s
  go_wp2_with fail
  go_loopw [10, 11, 12] (fun sv pv iv wr => H1J n0 w g sv pv iv wr) (fun _ _ iv _ => 9 - (intOf iv).toNat)
  case atStart => exact S0.out
  case round =>
    obtain ⟨i, u, v, rfl, hi, hi8, hun, hvn, rfl, rfl, hs⟩ := hrel
    clear S0
    obtain ⟨ua, un, uc⟩ := u
    obtain ⟨va, vn, vc⟩ := v
    simp only at hun hvn
    replace hun := hun.symm
    replace hvn := hvn.symm
    subst hun hvn
    have HS := Lib.hid hs
    have hI0 : (0 : Int) ≤ i := by omega
    clear hs
    simp only
    obtain ⟨bb, hbb⟩ : ∃ bb, bb = (decide ((i : Int) < n0) && decide ((i : Int) < 8)) := ⟨_, rfl⟩
    replace hbb := Lib.hid hbb
    go_upto_region 10 with fail
    go_cut [38] (fun c wx => c = .bool bb ∧ wr = wx)
    case first =>
      by_cases c1 : (i : Int) < n0
      · by_cases c2 : (i : Int) < 8
        · have hq : bb = true := by rw [hbb.out, decide_eq_true c1, decide_eq_true c2]; rfl
          subst hq
          go_wp2_with fail
          go_meet
          exact ⟨rfl, rfl⟩
        · have hq : bb = false := by rw [hbb.out, decide_eq_false c2, Bool.and_false]
          subst hq
          go_wp2_with fail
          go_meet
          exact ⟨rfl, rfl⟩
      · have hq : bb = false := by rw [hbb.out, decide_eq_false c1, Bool.false_and]
        subst hq
        go_wp2_with fail
        go_meet
        exact ⟨rfl, rfl⟩
    case rest =>
    obtain ⟨rfl, rfl⟩ := hcut
    cases bb with
    | true =>
      have h1 : i < n0 ∧ i < 8 := by
        have := hbb.out
        simp only [Bool.true_eq, Bool.and_eq_true, decide_eq_true_eq] at this
        omega
      have hi1' : Hid (i + 1 ≤ n0 ∧ i + 1 ≤ 8) := ⟨by omega, by omega⟩
      have hi88 : (i : Int) < 8 := by omega
      obtain ⟨j, hj⟩ : ∃ j : Nat, i + 1 = j := ⟨_, rfl⟩
      have v1 : IntKind.i64.wrap ((i : Int) + 1) = (j : Int) := by rw [show (i : Int) + 1 = (j : Int) by omega]; exact IntWalk.i64_in _ ⟨by omega, by omega⟩
      have HJ := Lib.hid hj
      have OW : Hid (∀ o, (wr.alloc o).ownsRow 0 3 1 (.slice ua i uc) i ((idL i).map c64).flatten) := fun o => (HS.out.alloc o).rowW (c := c64) (z := 1) (T := 3) (u := ⟨ua, i, uc⟩) (L := idL i) (by simp [hI]) rfl (idL_len i)
      clear hbb h1 hj hi hi8
      go_wp2_with (at_builtin; refine wpList_append_lies _ rfl (.tmp 41) (.tmp 44) 35 rfl 0 3 i0 _ 1 8 Try.underlying35 hi0 hz0 hz1 hz2 rfl (by omega) (.slice ua i uc) i ((idL i).map c64).flatten rfl (OW.out _) ⟨_, 0, none⟩ 1 1 (c64 (j : Int)) rfl rfl (World.news_of_block (cs := (c64 (j : Int)).toArray) (t := 3) (fr := (0, 0)) (heap_alloc_new _ _)) (c64_enc.one _) (by omega) ?c2 ?c3 ?c4 _ rfl ?_)
      case c2 => unfold maxLen; omega
      case c3 => omega
      case c4 => exact Nat.zero_le _
      intro g1 cap1 w9 hown hgrow hat hlt9
      have S1 : Hid (St w [hI ⟨some ⟨g1, 0, none⟩, i + 1, cap1⟩ (idL (i + 1)), hP ⟨va, i, vc⟩ (plL i), hE g (newL 8 5)] w9) := by
        have EJ : idL (i + 1) = idL i ++ [(j : Int)] := by rw [idL_succ, HJ.out]
        rw [EJ]
        exact (HS.out.alloc (.cells (c64 (j : Int)).toArray 3)).pushW [] _ (idL_len i).symm hown hgrow (hat.imp id (fun h => by rw [h]; simp))
      clear hown hgrow hat OW HS
      have OW : Hid (∀ o, (w9.alloc o).ownsRow 0 50 1 (.slice va i vc) i ((plL i).map cc).flatten) := fun o => (S1.out.alloc o).rowW (c := cc) (z := 1) (T := 50) (u := ⟨va, i, vc⟩) (L := plL i) (by simp [hP]) rfl (plL_len i)
      go_wp2_with (at_builtin; refine wpList_append_lies _ rfl (.tmp 46) (.tmp 50) 49 rfl 0 50 i1 _ 1 16 Try.underlying49 hi1 hy0 hy1 hy2 rfl (by omega) (.slice va i vc) i ((plL i).map cc).flatten rfl (OW.out _) ⟨_, 0, none⟩ 1 1 (cc (fI (i : Nat), 0)) rfl rfl (World.news_of_block (cs := (cc (fI (i : Nat), 0)).toArray) (t := 50) (fr := (0, 0)) (heap_alloc_new _ _)) (cc_enc.one _) (by omega) ?c2 ?c3 ?c4 _ rfl ?_)
      case c2 => unfold maxLen; omega
      case c3 => omega
      case c4 => exact Nat.zero_le _
      intro g2 cap2 w10 hown hgrow hat hlt10
      have S2 : Hid (St w [hI ⟨some ⟨g1, 0, none⟩, i + 1, cap1⟩ (idL (i + 1)), hP ⟨some ⟨g2, 0, none⟩, i + 1, cap2⟩ (plL (i + 1)), hE g (newL 8 5)] w10) := by
        rw [plL_succ]
        exact (S1.out.alloc (.cells (cc (fI (i : Nat), 0)).toArray 50)).pushW [_] _ (plL_len i).symm hown hgrow (hat.imp id (fun h => by rw [h]; simp))
      clear hown hgrow hat OW S1
      go_wp2
      go_roundw
      case rel => exact ⟨i + 1, ⟨some ⟨g1, 0, none⟩, i + 1, cap1⟩, ⟨some ⟨g2, 0, none⟩, i + 1, cap2⟩, by rw [HJ.out], hi1'.out.1, hi1'.out.2, rfl, rfl, rfl, rfl, S2.out⟩
      case measure => simp [intOf]; have := HJ.out; omega
    | false =>
      have HMN := Lib.hid hi
      have HM8 := Lib.hid hi8
      clear hbb hi0 hz0 hz1 hz2 hi1 hy0 hy1 hy2
      generalize i = m at *
      have R1 : RdE c64 1 wr ua (idL m) := erow_rd c64_enc (n := m) (cap := uc) (HS.out.get (h := hI ⟨ua, m, uc⟩ (idL m)) (by simp))
      have R2 : RdE cc 1 wr va (plL m) := erow_rd cc_enc (n := m) (cap := vc) (HS.out.get (h := hP ⟨va, m, vc⟩ (plL m)) (by simp))
      have K := ask_l (l := newL 8 5) (l' := hLs xs lost m 0) (g := g) 0 (by decide) (by decide) 0 0 (ids := idL m) (ps := plL m) (by rw [idL_len, plL_len]) (by rw [idL_len]; omega) uc vc (n := m) (idL_len m) R1 R2 (F := farL m) (by rw [held_may m hi8]; exact held_far m hi8) (L := idL m) (by rw [held_may m hi8]; exact held_ask m hi8 _) (hLs_zero xs lost m) [_, _] [] HS.out
      rw [idL_len] at K
      clear R1 R2 HS
      go_wp2_with fail
      refine K.mono ?_; rintro e w2 ⟨u3, rfl, s⟩
      have S1 : Hid (H2J xs lost m ⟨ua, m, uc⟩ w g (.int .i64 (0 : Nat)) w2) := ⟨0, rfl, Nat.zero_le _, s.sub (List.Sublist.cons _ (List.Sublist.cons_cons _ (List.Sublist.cons _ (List.Sublist.refl _))))⟩
      clear K s hi hi8
      have hm8 := HM8.out
      have hmn := HMN.out
      have hm8' : (m : Int) ≤ 8 := by omega
      go_wp2_with fail
      go_loopw [14] (fun iv wr => H2J xs lost m ⟨ua, m, uc⟩ w g iv wr) (fun iv _ => m - (intOf iv).toNat)
      case atStart => exact S1.out
      case round =>
        obtain ⟨i, rfl, hi, hs⟩ := hrel
        clear S1
        have HS := Lib.hid hs
        clear hs
        have hi0 : (0 : Int) ≤ i := by omega
        by_cases hlt : i < m
        · have hlt2 : (i : Int) < m := by omega
          have hi1 : Hid (i + 1 ≤ m) := hlt
          have hin : (i : Int) < n0 := by omega
          have v3 := IntWalk.i64_in ((i : Int) + 1) ⟨by omega, by omega⟩
          have GT := h_got (xs := xs) (lost := lost) hlt hm8 h8.out
          have HAK := Lib.hid (h_ask (xs := xs) (lost := lost) (m := m) (i := i) (by omega))
          have HLO := Lib.hid (fun hb => h_lost (xs := xs) (lost := lost) hlt hm8 hb)
          have HKE := Lib.hid (fun hb => h_kept (xs := xs) (lost := lost) hlt hb)
          have hx8 := h8.out (xs.getD i 0) (by rw [List.getD_eq_getElem?_getD, List.getElem?_eq_getElem (by rw [hn0.out]; omega)]; exact List.getElem_mem _)
          have CELL : Hid (∀ H wz, hI ⟨ua, m, uc⟩ (idL m) ∈ H → St w H wz → ∃ ba oa bb ob, a = some ⟨ba, oa, none⟩ ∧ ua = some ⟨bb, ob, none⟩ ∧ wz.cell? ⟨ba, oa + i, none⟩ = some (.int .u8 (xs.getD i 0)) ∧ wz.cell? ⟨bb, ob + i, none⟩ = some (.int .i64 ((i + 1 : Nat) : Int)) ∧ ba < wz.heap.size ∧ bb < wz.heap.size) := fun H wz hm st => by
            obtain ⟨ba, oa, e1, hbl, hcc⟩ := (hr.out.below st.below) (by rw [hn0.out]; omega)
            obtain ⟨bb, ob, e2, hb2, hcd⟩ := st.num hm (by rw [idL_len]; omega)
            exact ⟨ba, oa, bb, ob, e1, e2, hcc i (by rw [hn0.out]; omega), hcd i _ (idL_at hlt), Nat.lt_of_lt_of_le hbl st.below.size, hb2⟩
          obtain ⟨ba, oa, bb, ob, ea, eu, -, -, -, -⟩ := CELL.out _ wr (by simp) HS.out
          subst ea eu
          have CELL2 : Hid (∀ H wz, hI ⟨some ⟨bb, ob, none⟩, m, uc⟩ (idL m) ∈ H → St w H wz → wz.cell? ⟨ba, oa + i, none⟩ = some (.int .u8 (xs.getD i 0)) ∧ wz.cell? ⟨bb, ob + i, none⟩ = some (.int .i64 ((i + 1 : Nat) : Int)) ∧ ba < wz.heap.size ∧ bb < wz.heap.size) := fun H wz hm st => by
            obtain ⟨ba', oa', bb', ob', e1, e2, c1, c2, c3, c4⟩ := CELL.out H wz hm st
            simp only [Option.some.injEq, Addr.mk.injEq, and_true] at e1 e2
            obtain ⟨rfl, rfl⟩ := e1
            obtain ⟨rfl, rfl⟩ := e2
            exact ⟨c1, c2, c3, c4⟩
          have GD : gotD (hLs xs lost m i) ((i + 1 : Nat) : Int) (xs.getD i 0 % 60) 0 = hMid xs lost m i := GT.2
          have GB := GT.1
          have KG := Lib.hid (fun wz (st : St w [hI ⟨some ⟨bb, ob, none⟩, m, uc⟩ (idL m), hE g (hLs xs lost m i)] wz) => got_l ((i + 1 : Nat) : Int) (xs.getD i 0 % 60) 0 (by decide) GB GD [_] [] st)
          clear GT GB GD CELL
          generalize xs.getD i 0 = x at *
          obtain ⟨q, hq⟩ : ∃ q, x % 60 = q := ⟨_, rfl⟩
          have hqm : x.tmod 60 = q := by rw [tmod_pos _ _ hx8.1]; exact hq
          rw [hq] at KG
          have w1' := IntWalk.u8_in q ⟨by omega, by omega⟩
          have w2' := IntWalk.u64_in q ⟨by omega, by omega⟩
          have hq00 : 0 ≤ q := by omega
          clear hq
          obtain ⟨j, hj⟩ : ∃ j : Nat, i + 1 = j := ⟨_, rfl⟩
          rw [hj] at KG CELL2 HAK HLO HKE
          have HJ := Lib.hid hj
          have hj0 : (0 : Int) ≤ j := by omega
          clear hj hx8
          obtain ⟨gb, hgb⟩ : ∃ gb, decide (0 < q) = gb := ⟨_, rfl⟩
          rw [hgb] at KG
          obtain ⟨cA, cB, lA, lB⟩ := CELL2.out _ wr (by simp) HS.out
          go_upto_region 18 with fail
          go_cut [80] (fun c wx => c = .bool false ∧ St w [hI ⟨some ⟨bb, ob, none⟩, m, uc⟩ (idL m), hE g (hMid xs lost m i)] wx)
          case first =>
            have SA := Lib.hid HS.out.drew
            have mkS : Hid (∀ H w', hI ⟨some ⟨bb, ob, none⟩, m, uc⟩ (idL m) ∈ H → St w H w' → w'.cell? ⟨ba, oa + i, none⟩ = some (.int .u8 x) ∧ w'.cell? ⟨bb, ob + i, none⟩ = some (.int .i64 (j : Nat))) := fun H w' hm st => ⟨(CELL2.out H w' hm st).1, (CELL2.out H w' hm st).2.1⟩
            clear HS cA cB lA lB HLO HKE HAK
            cases gb with
            | true =>
              go_region_held (fun w' => w'.cell? ⟨ba, oa + i, none⟩ = some (.int .u8 x) ∧ w'.cell? ⟨bb, ob + i, none⟩ = some (.int .i64 (j : Nat))) (exact mkS.out _ _ (by simp) SA.out) (first
                | (go_at_call 15; refine (KG.out _ SA.out).mono ?_; rintro e wA ⟨rfl, sA⟩; have SA := Lib.hid sA; clear sA)
                | fail)
              all_goals go_wp2_with fail
              all_goals go_meet
              all_goals exact ⟨rfl, SA.out⟩
            | false =>
              go_region_held (fun w' => w'.cell? ⟨ba, oa + i, none⟩ = some (.int .u8 x) ∧ w'.cell? ⟨bb, ob + i, none⟩ = some (.int .i64 (j : Nat))) (exact mkS.out _ _ (by simp) SA.out) (first
                | (go_at_call 15; refine (KG.out _ SA.out).mono ?_; rintro e wA ⟨rfl, sA⟩; have SA := Lib.hid sA; clear sA)
                | fail)
              all_goals go_wp2_with fail
              all_goals go_meet
              all_goals exact ⟨rfl, SA.out⟩
          case rest =>
            obtain ⟨rfl, hs⟩ := hcut
            generalize wc = w5 at *
            have HS5 := Lib.hid hs
            clear HS hs cA cB lA lB KG hgb
            obtain ⟨cA, cB, lA, lB⟩ := CELL2.out _ w5 (by simp) HS5.out
            have KL := Lib.hid (fun (hb : bitOn lost i = true) => lost_l (j : Int) HAK.out (HLO.out hb) [_] [] HS5.out)
            cases hb : bitOn lost i with
            | true =>
              have hbt := (bit_yes hx.1 hb).1
              have K := KL.out hb
              clear KL hb HKE HLO HS5
              go_wp2_with fail
              refine K.mono ?_; rintro e w6 ⟨rfl, s⟩
              have S6 := Lib.hid s
              clear K s
              go_wp2
              go_roundw
              case rel => exact ⟨i + 1, by first | (rw [HJ.out]; done) | (rw [HJ.out]; go_num) | go_num, hi1.out, by rw [HJ.out]; exact S6.out⟩
              case measure => simp [intOf]; have := HJ.out; omega
            | false =>
              have hbt := (bit_no hx.1 hb).1
              have EQ := Lib.hid (HKE.out hb)
              clear KL hb HKE HLO
              go_wp2_with fail
              go_roundw
              case rel => exact ⟨i + 1, by first | (rw [HJ.out]; done) | (rw [HJ.out]; go_num) | go_num, hi1.out, by have := HS5.out; rw [EQ.out] at this; rw [HJ.out]; exact this⟩
              case measure => simp [intOf]; have := HJ.out; omega
        · obtain rfl : m = i := by omega
          have hge : ¬ ((m : Int) < m) := by omega
          obtain ⟨L, hL⟩ : ∃ L, heldL (hLs xs lost m m) q' = L := ⟨_, rfl⟩
          have K := held_l (g := g) q' hL HS.out (by simp)
          have hL2 : loH q' (hRl xs lost m m) 33 = L := hL
          have HALL : Hid (loH q' (hRl xs lost m m) (m + 1) = L) := by show _ = _; rw [← held_all hm8 q' q0', hL2]
          have HAT : Hid (∀ i, i < m → heldB (hRl xs lost m m (i + 1)) q' = true → L[(loH q' (hRl xs lost m m) (i + 1)).length]? = some ((i + 1 : Nat) : Int) ∧ (loH q' (hRl xs lost m m) (i + 1)).length < L.length) := fun i hi h => by
            rw [← hL2]; exact held_at (by omega) h
          have HHB : Hid (∀ i, i < m → heldB (hRl xs lost m m (i + 1)) q' = (!bitOn lost i && decide (q' < xs.getD i 0 % 60))) := fun i hi => h_held hi q' q0'
          have HZ : Hid (loH q' (hRl xs lost m m) 1 = []) := by
            have e := loH_no (now := q') (f := hRl xs lost m m) (i := 0) (h_off (.inl rfl) q' q0')
            exact e
          have HYE := Lib.hid (fun i => loH_yes (now := q') (f := hRl xs lost m m) (i := i))
          have HNO := Lib.hid (fun i => loH_no (now := q') (f := hRl xs lost m m) (i := i))
          have HLE := Lib.hid (loH_len q' (hRl xs lost m m))
          clear HS hL hL2
          go_wp2_with fail
          refine K.mono ?_; rintro e w5 ⟨uh, rfl, s⟩
          have S3 : Hid (H3J xs lost q' m ⟨ua, m, uc⟩ uh L w g (.int .i64 0) (.int .i64 (0 : Nat)) w5) := ⟨0, rfl, by rw [HZ.out]; rfl, Nat.zero_le _, s⟩
          clear K s HZ
          obtain ⟨va2, vn2, vc2⟩ := uh
          go_wp2_with fail
          go_loopw [16, 17] (fun mv iv wr => H3J xs lost q' m ⟨ua, m, uc⟩ ⟨va2, vn2, vc2⟩ L w g mv iv wr) (fun _ iv _ => m - (intOf iv).toNat)
          case atStart => exact S3.out
          case round =>
            obtain ⟨i, rfl, rfl, hi, hs⟩ := hrel
            clear S3
            have HS := Lib.hid hs
            clear hs
            have hi0 : (0 : Int) ≤ i := by omega
            by_cases hlt : i < m
            · have hlt2 : (i : Int) < m := by omega
              have hi1 : Hid (i + 1 ≤ m) := hlt
              have hin : (i : Int) < n0 := by omega
              have v3 := IntWalk.i64_in ((i : Int) + 1) ⟨by omega, by omega⟩
              have hx8 := h8.out (xs.getD i 0) (by rw [List.getD_eq_getElem?_getD, List.getElem?_eq_getElem (by rw [hn0.out]; omega)]; exact List.getElem_mem _)
              have hhb := HHB.out i hlt
              have hat := HAT.out i hlt
              have HYi := HYE.out (i + 1)
              have HNi := HNO.out (i + 1)
              have hle := HLE.out (i + 1)
              obtain ⟨ba, oa, ea, hbl, hcc⟩ := (hr.out.below HS.out.below) (by rw [hn0.out]; omega)
              obtain ⟨bb, ob, eu, hb2, hcd⟩ := HS.out.num (u := ⟨ua, m, uc⟩) (L := idL m) (by simp) (by rw [idL_len]; omega)
              simp only at eu
              subst ea eu
              have cA := hcc i (by rw [hn0.out]; omega)
              have cB := hcd i _ (idL_at hlt)
              have lA := Nat.lt_of_lt_of_le hbl HS.out.below.size
              generalize xs.getD i 0 = x at *
              obtain ⟨q, hq⟩ : ∃ q, x % 60 = q := ⟨_, rfl⟩
              have hqm : x.tmod 60 = q := by rw [tmod_pos _ _ hx8.1]; exact hq
              rw [hq] at hhb
              have w1' := IntWalk.u8_in q ⟨by omega, by omega⟩
              obtain ⟨j, hj⟩ : ∃ j : Nat, i + 1 = j := ⟨_, rfl⟩
              rw [hj] at hhb hat HYi HNi hle cB
              have HJ := Lib.hid hj
              have hj0 : (0 : Int) ≤ j := by omega
              obtain ⟨lt, hlt3⟩ : ∃ lt, decide (q' < q) = lt := ⟨_, rfl⟩
              rw [hlt3] at hhb
              have hj33 : j ≤ 9 := by omega
              rw [hj]
              obtain ⟨mm, hmm⟩ : ∃ mm, (loH q' (hRl xs lost m m) j).length = mm := ⟨_, rfl⟩
              rw [hmm] at hat hle ⊢
              have HMM := Lib.hid hmm
              clear hcc hcd hq hj hx8 hbl hmm
              cases hb : bitOn lost i with
              | true =>
                have hbt := (bit_yes hx.1 hb).2
                rw [hb] at hhb
                have HNX : Hid ((loH q' (hRl xs lost m m) (j + 1)).length = mm) := by show _ = _; rw [HNi (by rw [hhb]; rfl)]; exact HMM.out
                clear hb hhb hat HYi HNi
                go_wp2_with fail
                go_roundw
                case rel => exact ⟨i + 1, by first | (rw [HJ.out]; done) | go_num, by rw [HJ.out, HNX.out], hi1.out, HS.out⟩
                case measure => simp [intOf]; have := HJ.out; omega
              | false =>
                have hbt := (bit_no hx.1 hb).2
                rw [hb] at hhb
                cases lt with
                | false =>
                  have HNX : Hid ((loH q' (hRl xs lost m m) (j + 1)).length = mm) := by show _ = _; rw [HNi (by rw [hhb]; rfl)]; exact HMM.out
                  clear hb hhb hat HYi HNi
                  go_wp2_with fail
                  go_roundw
                  case rel => exact ⟨i + 1, by first | (rw [HJ.out]; done) | go_num, by rw [HJ.out, HNX.out], hi1.out, HS.out⟩
                  case measure => simp [intOf]; have := HJ.out; omega
                | true =>
                  have hh : heldB (hRl xs lost m m j) q' = true := by rw [hhb]; rfl
                  have HNX : Hid ((loH q' (hRl xs lost m m) (j + 1)).length = mm + 1) := by show _ = _; rw [HYi hh, List.length_append, HMM.out]; rfl
                  obtain ⟨ht1, ht2⟩ := hat hh
                  obtain ⟨bc, oc, eh, hb3, hce⟩ := HS.out.num (u := ⟨va2, vn2, vc2⟩) (L := L) (by simp) (by omega)
                  simp only at eh
                  subst eh
                  have cC := hce mm _ ht1
                  have g1 : decide ((L.length : Int) ≤ (mm : Int)) = false := decide_eq_false (by omega)
                  have g2 : decide (L.length ≤ mm) = false := decide_eq_false (by omega)
                  have g3 : (mm : Int) < L.length := by omega
                  have g4 : (0 : Int) ≤ mm := by omega
                  have v4 := IntWalk.i64_in ((mm : Int) + 1) ⟨by omega, by omega⟩
                  clear hb hhb hat HYi HNi hce ht1 hh
                  go_wp2_with fail
                  go_upto_region 28 with fail
                  have cB := cell_regrown cB
                  have cC := cell_regrown cC
                  go_quiet (fail)
                  have S5 := Lib.hid (HS.out.keep (below_drewN (Below.refl wr.heap.size wr) nq))
                  clear HS cA cB cC
                  generalize wr.drewN nq = w6 at *
                  go_wp2
                  go_roundw
                  case rel => exact ⟨i + 1, by first | (rw [HJ.out]; done) | go_num, by rw [HJ.out, HNX.out]; go_num, hi1.out, S5.out⟩
                  case measure => simp [intOf]; have := HJ.out; omega
            · obtain rfl : m = i := by omega
              have hge2 : ¬ ((m : Int) < m) := by omega
              have hml : (loH q' (hRl xs lost m m) (m + 1)).length = L.length := by rw [HALL.out]
              rw [hml]
              have K := lost_l (g := g) 20 (h_20 hm8) (rfl : lostD (hLs xs lost m m) 20 = _) [_, _] [] HS.out
              clear HS HAT HHB HYE HNO HLE HALL hml
              generalize L.length = ll at *
              go_wp2_with fail
              refine K.mono ?_; rintro e w6 ⟨rfl, s⟩
              have BE := Lib.hid s.below
              clear K s
              go_wp2
              refine bodyPost_ret (v := (.bool true)) (by simp [results, Try.results5, go_sem, *]) rfl ?_
              exact ⟨rfl, BE.out⟩
theorem held_run (a : Option Addr) (len cap : Nat) (zs : List Int) (lost y : Int) (w : World) (wz : ArgRow .u8 w a len cap zs) (w2 : (Lit.int .u8 lost).wf = true) (w3 : (Lit.int .u8 y).wf = true) :
    Calls Try.prog 5 #[.slice a len cap, .int .u8 lost, .int .u8 y] w fun e w' => e = .returned (.bool true) ∧ Below w.heap.size w w' := by
  obtain ⟨za, h1, h2, h3, h4⟩ := arg_u8m wz
  have h5 := bounds_u8 w2
  have h6 := bounds_u8 w3
  exact held_walk a len cap za lost y w h4 h1 h2 h3 ⟨h5.1, by omega⟩ ⟨h6.1, by omega⟩
theorem leasesHeld_own : ownKnob Try.prog.godebug = none := by kernel_rfl
theorem leasesHeld_laid : laidOutB Try.prog = true := by kernel_rfl
set_option maxRecDepth 100000 in
theorem leasesHeld_lifted (os : Os) (started : os.Started) (H : Type) (enc : TypeId × Value → H) :
    ReturnsInHanded {} Try.checked os 5 .any (Rows.leasesHeldSpec.pre6 enc Try.prog Try.f5 Rows.leasesHeldRow.domain false) (Rows.leasesHeldSpec.post enc Try.prog Try.f5 false true false false) := by
  refine returnsInHanded_of_change (C := Try.checked) leasesHeld_own started (by kernel_rfl) Try.func5
    (ChangeSpec.witness6 (enc := enc) (C := Try.checked) false ⟨#[], #[.slice none 0 0, .int .u8 0, .int .u8 0], []⟩ 8 (by kernel_rfl) (by kernel_rfl) (by kernel_rfl) (by kernel_rfl)) ?_
  intro W base args ds gs before hval0 hW hcnd _
  have hval : ∀ (j : Nat) t v, Try.f5.params[j]? = some t → args[j]? = some v → Value.okWide Try.prog W .any base t v := hval0
  have hW' := hW
  obtain ⟨p, q, hA0, hV, rfl, hfz, hnd⟩ := hW
  have hA : DataW.TrodAll enc Try.prog W 0 (fun _ => true) true Try.f5.params.toList args.toList ds p := hA0
  rw [Try.params5] at hA hval
  obtain ⟨v0, vs0, d0, ds0, p0, q0, hargs, rfl, rfl, h0, r0⟩ := trodAll_cons hA
  obtain ⟨v1, vs1, d1, ds1, p1, q1, rfl, rfl, rfl, h1, r1⟩ := trodAll_cons r0
  obtain ⟨v2, vs2, d2, ds2, p2, q2, rfl, rfl, rfl, h2, r2⟩ := trodAll_cons r1
  obtain ⟨rfl, rfl, rfl⟩ := trodAll_nil r2
  obtain rfl : args = #[v0, v1, v2] := by cases args; simp_all
  obtain ⟨rfl, rfl⟩ := trodVars_none hV
  obtain ⟨a0, len0, cap0, rfl⟩ := okWide_slice Try.underlying22 (hval 0 22 v0 rfl rfl)
  have k0 := h0
  have lt0 : ∀ x ∈ p0, x.block < W.heap.size := by obtain ⟨m, hm⟩ := k0; exact DataW.trod_lt m _ _ _ hm
  obtain ⟨z0, w0⟩ : ∃ zs, ArgRow .u8 W a0 len0 cap0 zs := by
    obtain ⟨fuel, hf⟩ := h0
    rcases open_ints Try.underlying22 Try.underlying5 (by kernel_rfl) hf with ⟨hcs, _⟩ | ⟨x, l, c, zs, hcs, _, hl, hm, hz, _, hcell, hwz⟩
    · simp [Value.cells] at hcs
      obtain ⟨rfl, rfl, rfl⟩ := hcs
      exact ⟨[], .inl ⟨rfl, rfl, rfl, rfl⟩⟩
    · simp [Value.cells] at hcs
      obtain ⟨rfl, rfl, rfl⟩ := hcs
      exact ⟨zs, .inr ⟨_, rfl, hl, hm, by simpa using hz, hcell, hwz⟩⟩
  obtain ⟨a1, rfl, rfl, rfl, w1⟩ := open_int Try.underlying5 (hval 1 5 v1 rfl rfl) h1
  obtain ⟨a2, rfl, rfl, rfl, w2⟩ := open_int Try.underlying5 (hval 2 5 v2 rfl rfl) h2
  clear hA0 hval0
  refine (held_run a0 len0 cap0 z0 a1 a2 W w0 w1 w2).mono fun e W' ⟨he, bel⟩ => ?_
  subst he
  exact ⟨_, rfl, _, _, _, [], _, [], hW', trodAll_mk1 (shut_bool Try.underlying4 _), (trodAll_cons_mk (Below.trod leasesHeld_laid (by kernel_rfl) (of_decide_eq_true (by kernel_rfl)) k0 bel lt0) (trodAll_cons_mk (shut_int Try.underlying5 w1) (trodAll_cons_mk (shut_int Try.underlying5 w2) trodAll_mk0))), rfl, bel.frame _, fun h => by cases h⟩
theorem leasesHeld_over : Rows.leasesHeldRow.holds Try.pinned (OpenSpec.ofChange Rows.leasesHeldSpec) :=
  OpenClaim.holds_of_wide 5 Try.f5 rfl rfl rfl rfl rfl rfl rfl ⟨rfl, rfl, rfl, rfl, rfl⟩ rfl rfl rfl rfl rfl (by kernel_rfl) Try.func5 (by kernel_rfl)
    (of_decide_eq_true (by kernel_rfl)) (by unfold Func.isWrapper; first | (rw [if_pos (by decide +kernel)]; kernel_rfl) | (rw [if_neg (by decide +kernel)]; exact ⟨rfl, rfl⟩))
    (fun os started H enc _ => leasesHeld_lifted os started H enc)
theorem leasesHeld_holds : Rows.LeasesHeldSaid := leasesHeld_over
#print axioms leasesHeld_holds
end Go.Proofs.Ytdehpiaokjihjaa
