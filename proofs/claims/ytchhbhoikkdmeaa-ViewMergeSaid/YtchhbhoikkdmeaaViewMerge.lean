/- ViewMerge: a list with one that is not right is not taken at all; else just those turn something that are over what was known: for every list of things, with one that is not right at any place, or none. -/
import Derived.Test.YtchhbhoikkdmeaaViRows
namespace Go.Proofs.Ytchhbhoikkdmeaa
open Go.Sort Go.RowKit Go.BigFrame Go.ChangeShapes Go.WideShapes Go.ChangeAt
open Go.ChangeMaps (open_string shut_string)
set_option linter.unusedVariables false
set_option linter.unusedSimpArgs false

def MgPost (w : World) (e : Ending) (w' : World) : Prop := e = .returned (.bool true) ∧ Below w.heap.size w w'
def MgLJ (O : List Rec) (w0 : World) (V : List (Nat × Vw)) (sv iv : Value) (wr : World) : Prop := ∃ (i : Nat) (u : Sl), iv = .int .i64 (i : Nat) ∧ i ≤ O.length ∧ sv = .slice u.a (O.take i).length u.c ∧ LS w0 V [iR u (O.take i)] wr
def MgWJ (O : List Rec) (w0 : World) (g1 g2 : Nat) (V : Vw) (u x : Sl) (mv iv : Value) (wr : World) : Prop := ∃ i : Nat, iv = .int .i64 (i : Nat) ∧ i ≤ O.length ∧ mv = .int .i64 ((turnedL newV (O.take i)).length : Nat) ∧ LS w0 [(g2, foldV newV (O.take i)), (g1, V)] [iR x (turnedL newV O), iR u O] wr
/-- the list with one that is not right at place k -/
def badL (O : List Rec) (k : Nat) : List Rec := O.take k ++ ([zRec] ++ O.drop k)
/-- the cells of a part of a row -/
theorem epart_cells {α : Type} {c : α → List Value} {z : Nat} (he : Enc c z) {T : TypeId} {w : World} {gv cap p : Nat} {L M : List α} (h : ERow c z T w (.slice (some ⟨gv, 0, none⟩) L.length cap) L) (hM : ∀ i x, M[i]? = some x → L[p + i]? = some x) : ∀ k u, (M.map c).flatten[k]? = some u → w.cell? ((⟨gv, p * z, none⟩ : Addr).add k) = some u := by
  obtain ⟨-, C, hC, -, ht, -⟩ := erow_open he h
  exact hC.sub (p := p) he.pos (he.all M) (fun i d hc => by
    rw [List.getElem?_map, Option.map_eq_some_iff] at hc
    obtain ⟨x, hx, rfl⟩ := hc
    exact taken_at ht (hM i x hx))
theorem badL_len (O : List Rec) (k : Nat) : (badL O k).length = O.length + 1 := by unfold badL; simp only [List.length_append, List.length_take, List.length_drop, List.length_cons, List.length_nil]; omega
theorem badL_ok {O : List Rec} (h : ∀ r ∈ O, r.Ok) (k : Nat) : ∀ r ∈ badL O k, r.Ok := by
  intro r hr
  unfold badL at hr
  simp only [List.mem_append, List.mem_singleton] at hr
  rcases hr with hr | rfl | hr
  · exact h r (List.mem_of_mem_take hr)
  · exact zRec_ok
  · exact h r (List.mem_of_mem_drop hr)
theorem badL_bad (O : List Rec) (k : Nat) : rightL (badL O k) = false := by
  unfold rightL badL
  rw [List.all_eq_false]
  exact ⟨zRec, by simp, by decide⟩
set_option maxHeartbeats 6400000 in
set_option maxRecDepth 20000 in
theorem merge_walk (a : Option Addr) (len cap m : Nat) (T : List Th) (bad : Bool) (q : Int) (w : World) (hm : m = min len 20) (hT : T.length = m) (hr : RdE tcs 6 w a T) (hok : ∀ t ∈ T, t.r.Ok) (hlen : len ≤ 9223372036854775807) (hq0 : 0 ≤ q) (hq1 : q ≤ 255) :
    Calls Try.prog 6 #[.slice a len cap, .bool bad, .int .u8 q] w (MgPost w) := by
  have K0 := ex_any w
  obtain ⟨i0, hi0, hz0, hz1, hz2⟩ := info_parts info_rec
  have HR := Lib.hid hr
  have HOK := Lib.hid hok
  have hl2 : (len : Int) ≤ 9223372036854775807 := by omega
  obtain ⟨O, hO⟩ : ∃ O, O = ownL T := ⟨_, rfl⟩
  have hOl : O.length = m := by rw [hO, ownL_len, hT]
  have HO := Lib.hid hO
  have HOL := Lib.hid hOl
  have HOO : Hid (∀ r ∈ O, r.Ok) := fun r h => ownL_ok r (by rw [← hO]; exact h)
  have HRG : Hid (rightL O = true) := by show _ = _; rw [hO]; exact ownL_right T
  have HT := Lib.hid hT
  have hm20 : m ≤ 20 := by omega
  have hml : m ≤ len := by omega
  have HM := Lib.hid hm
  clear hr hok hm hT hO hOl
  go_enter Try.func6, Try.ntmps6
  go_wp2_with fail
  refine K0.mono ?_; rintro e w1 ⟨rfl, b1⟩
  have K := new_l (LS.start w w1 b1)
  clear K0 b1
  go_wp2_with fail
  refine K.mono ?_; rintro e w2 ⟨g1, rfl, h⟩
  have K1 := new_l h
  clear K h
  go_wp2_with fail
  refine K1.mono ?_; rintro e w3 ⟨g2, rfl, h⟩
  clear K1
  have S0 : Hid (MgLJ O w [(g2, newV), (g1, newV)] (.slice none 0 0) (.int .i64 0) w3) := ⟨0, ⟨none, 0, 0⟩, rfl, Nat.zero_le _, rfl, h.nil (World.ownsRow_nil _ _ _ _) rfl⟩
  clear h
  go_wp2_with fail
  go_loopw [10, 11] (fun sv iv wr => MgLJ O w [(g2, newV), (g1, newV)] sv iv wr) (fun _ iv _ => 100 - (intOf iv).toNat)
  case atStart => exact S0.out
  case round =>
    obtain ⟨i, u, rfl, hi, rfl, h⟩ := hrel
    clear S0
    rw [HOL.out] at hi
    have hi0' : (0 : Int) ≤ i := by omega
    by_cases hlt : i < m
    · have hlt' : (i : Int) < len := by omega
      have hlt2 : (i : Int) < 20 := by omega
      obtain ⟨t, hx⟩ : ∃ t, T[i]? = some t := ⟨_, List.getElem?_eq_getElem (by rw [HT.out]; exact hlt)⟩
      have ht := HOK.out t (List.mem_of_getElem? hx)
      obtain ⟨b, off, rfl, hbl, hcc⟩ := (HR.out.keep h.below) (by rw [HT.out]; omega)
      have c0 := hcc i _ hx 0 _ rfl
      have c1 := hcc i _ hx 1 _ rfl
      have c2 := hcc i _ hx 2 _ rfl
      have c3 := hcc i _ hx 3 _ rfl
      have c4 := hcc i _ hx 4 _ rfl
      have c5 := hcc i _ hx 5 _ rfl
      simp only [Nat.add_zero] at c0
      have hxo : O[i]? = some (ownR t.r) := by rw [HO.out]; exact ownL_at hx
      have EQ := Lib.hid (take_snoc hxo)
      have K := thing_own t.r ht
      have hone := rcs_enc.one (ownR t.r)
      have HI : Hid (i + 1 ≤ O.length) := by show i + 1 ≤ O.length; rw [HOL.out]; exact hlt
      have hle : (O.take i).length ≤ 20 := by rw [List.length_take]; omega
      have BX := Lib.hid (h.alloc (.cells #[.int .i64 t.r.id, .int .i64 t.r.st, .int .u32 t.r.n, .int .u32 t.r.ip, .int .u16 t.r.port, .bool true] 39))
      have X0 := Cs.new wr [.int .i64 t.r.id, .int .i64 t.r.st, .int .u32 t.r.n, .int .u32 t.r.ip, .int .u16 t.r.port, .bool true] 39
      have x0 := X0.cell 0 _ rfl
      have x1 := X0.cell 1 _ rfl
      have x2 := X0.cell 2 _ rfl
      have x3 := X0.cell 3 _ rfl
      have x4 := X0.cell 4 _ rfl
      have x5 := X0.cell 5 _ rfl
      have xl := X0.lt
      clear hcc hxo h X0 hx ht
      generalize ownR t.r = y at *
      obtain ⟨r, own⟩ := t
      simp only at *
      go_upto_region 14 with fail
      clear c0 c1 c2 c3 c4 c5 hbl
      generalize (wr.alloc (.cells #[.int .i64 r.id, .int .i64 r.st, .int .u32 r.n, .int .u32 r.ip, .int .u16 r.port, .bool true] 39)) = wb at *
      generalize O.take i = L at *
      go_wp2_with fail
      refine (K _).mono ?_; rintro e w4 ⟨rfl, b4⟩
      have H := Lib.hid (BX.out.keep b4)
      clear K b4 BX x0 x1 x2 x3 x4 x5 xl
      go_wp2_with (at_builtin; refine wpList_append_lies _ rfl (.tmp 47) (.tmp 50) 54 rfl 0 37 i0 _ 5 32 Try.underlying54 hi0 hz0 hz1 hz2 rfl (by omega) (.slice u.a L.length u.c) L.length (L.map rcs).flatten rfl ((H.out.alloc _).ownR (by simp)) ⟨_, 0, none⟩ 1 1 (rcs y) rfl rfl (World.news_of_block (cs := (rcs y).toArray) (t := 37) (fr := (0, 0)) (heap_alloc_new _ _)) hone (by omega) ?c2 ?c3 ?c4 _ rfl ?_)
      case c2 => unfold maxLen; omega
      case c3 => omega
      case c4 => exact Nat.zero_le _
      intro gg cap1 w9 hown hgrow hat hlt9
      have H9 := Lib.hid (H.out.appR hown hgrow (by simpa using hat))
      clear hown hgrow hat H
      go_wp2
      go_roundw
      case rel => exact ⟨i + 1, ⟨some ⟨gg, 0, none⟩, L.length + 1, cap1⟩, by go_num, HI.out, by rw [EQ.out, List.length_append]; rfl, by rw [EQ.out]; exact H9.out⟩
      case measure => have := HI.out; have := HOL.out; simp [intOf]; omega
    · obtain rfl : i = m := by omega
      have hnl : ((i : Int) < len → ¬ (i : Int) < 20) := by have := HM.out; omega
      have hcond : ((i : Int) < len ∧ (i : Int) = 20) ∨ (i : Int) = len := by have := HM.out; omega
      have hOt : O.take i = O := by rw [← HOL.out, List.take_length]
      rw [hOt] at h ⊢
      have H := Lib.hid h
      rw [HOL.out]
      clear h hOt hlt hnl
      have hi9 : (0 : Int) ≤ i := by omega
      have S1 : Hid (MgWJ O w g1 g2 (foldV newV O) u u (.int .i64 0) (.int .i64 0) wr → True) := fun _ => trivial
      clear S1
      go_upto_region 10 with fail
      go_cut [39] (fun c wx => c = .bool false ∧ wx = wr)
      case first =>
        rcases hcond with ⟨hc1, hc2⟩ | hc1
        · have hc3 : decide ((i : Int) < 20) = false := decide_eq_false (by omega)
          clear hc2
          go_wp2_with fail
          go_meet
          exact ⟨by first | rfl | rw [hc3], rfl⟩
        · have hc3 : decide ((i : Int) < len) = false := decide_eq_false (by omega)
          have hc4 : ¬ (i : Int) < len := by omega
          have hc5 : ¬ i < len := by omega
          clear hc1
          go_wp2_with fail
          go_meet
          exact ⟨rfl, rfl⟩
      case rest =>
        obtain ⟨rfl, rfl⟩ := hcut
        generalize wc = wr at *
        clear hcond HM HT HO HOK HR hml
        cases bad with
        | false =>
          have hK := fun wx (hx : LS w [(g2, newV), (g1, newV)] [iR u O] wx) => merge_l u O HOO.out (by rw [HOL.out]; omega) [(g2, newV)] [] hx (by simp) (by show 0 + O.length < _; rw [HOL.out]; omega)
          rw [HOL.out] at hK
          obtain ⟨e1, e2, e3⟩ := merge_good HRG.out newV
          rw [e1, e2, e3] at hK
          have K := hK wr H.out
          have htl : (turnedL newV O).length ≤ 20 := by
            have := turned_len O newV
            rw [HOL.out] at this
            omega
          obtain ⟨D, hD⟩ : ∃ D, turnedL newV O = D := ⟨_, rfl⟩
          rw [hD] at K htl
          obtain ⟨dl, hdl0⟩ : ∃ dl, D.length = dl := ⟨_, rfl⟩
          rw [hdl0] at K htl
          have HD := Lib.hid hD
          have HDL := Lib.hid hdl0
          clear hK H e1 e2 e3 hD hdl0
          go_wp2_with fail
          refine K.mono ?_; rintro e w4 ⟨x, rfl, h⟩
          have h : LS w [(g2, newV), (g1, foldV newV O)] [iR x D, iR u O] w4 := h
          have S1 : Hid (MgWJ O w g1 g2 (foldV newV O) u x (.int .i64 0) (.int .i64 0) w4) := ⟨0, rfl, Nat.zero_le _, rfl, by rw [HD.out]; exact h⟩
          have hdl : (dl : Int) ≤ 20 := by omega
          clear K h
          go_wp2_with fail
          go_loopw [17, 18] (fun mv iv wr => MgWJ O w g1 g2 (foldV newV O) u x mv iv wr) (fun _ iv _ => 100 - (intOf iv).toNat)
          case atStart => exact S1.out
          case round =>
            obtain ⟨j, rfl, hj, rfl, h⟩ := hrel
            clear S1
            rw [HD.out] at h
            rw [HOL.out] at hj
            have hj0 : (0 : Int) ≤ j := by omega
            have hml2 : (turnedL newV (O.take j)).length ≤ 20 := by
              have := turned_len (O.take j) newV
              rw [List.length_take] at this
              omega
            by_cases hlt : j < i
            · have hlt' : (j : Int) < i := by omega
              obtain ⟨r, hx⟩ : ∃ r, O[j]? = some r := ⟨_, List.getElem?_eq_getElem (by rw [HOL.out]; exact hlt)⟩
              have hrok := HOO.out r (List.mem_of_getElem? hx)
              have EF := Lib.hid (fold_snoc newV O j r hx)
              have ET := turned_snoc newV O j r hx
              have EA := turned_at (v := newV) hx
              rw [HD.out, HDL.out] at EA
              have TK := take_l r hrok [] [(g1, foldV newV O)] h (by
                have := fold_len (O.take j) newV
                rw [List.length_take] at this
                show _ < _
                have e : newV.E.length = 0 := rfl
                omega)
              have HRu : Hid (∀ wx V' R', LS w V' R' wx → iR u O ∈ R' → ∀ k v, (rcs r)[k]? = some v → ∃ b off, u.a = some ⟨b, off, none⟩ ∧ wx.cell? ⟨b, off + j * 5 + k, none⟩ = some v) := fun wx V' R' hh hm k v hk => by
                obtain ⟨b, off, e, hb, hc⟩ := (hh.rd hm) (by rw [HOL.out]; omega)
                exact ⟨b, off, e, hc j r hx k v hk⟩
              obtain ⟨b, off, hbo, hbl, hcc⟩ := (h.rd (u := u) (L := O) (by simp)) (by rw [HOL.out]; omega)
              have c0 := hcc j r hx 0 _ rfl
              have c1 := hcc j r hx 1 _ rfl
              have c2 := hcc j r hx 2 _ rfl
              have c3 := hcc j r hx 3 _ rfl
              have c4 := hcc j r hx 4 _ rfl
              simp only [Nat.add_zero] at c0
              have HJ : Hid (j + 1 ≤ O.length) := by show j + 1 ≤ _; rw [HOL.out]; exact hlt
              have her := err_ok (List.all_eq_true.1 HRG.out r (List.mem_of_getElem? hx))
              rw [her] at TK
              have HX := Lib.hid hx
              clear hcc hx h hrok her
              obtain ⟨ua, un, uc⟩ := u
              simp only at hbo
              subst hbo
              generalize turnedL newV (O.take j) = M at *
              generalize foldV newV (O.take j) = V' at *
              cases hq : turns V' r with
              | true =>
                rw [hq] at TK
                have EA := EA hq
                rw [hq] at ET
                have ET := Lib.hid ET
                obtain ⟨hat, hal⟩ := EA
                have hal2 : (M.length : Int) < dl := by omega
                have hnl : decide ((dl : Int) ≤ (M.length : Int)) = false := decide_eq_false (by omega)
                have HAT := Lib.hid hat
                clear hat hq EA
                go_wp2_with fail
                refine TK.mono ?_; rintro e w5 ⟨rfl, h⟩
                have h : LS w [(g2, takeV V' r), (g1, foldV newV O)] [iR x D, iR ⟨some ⟨b, off, none⟩, un, uc⟩ O] w5 := h
                obtain ⟨b', off', e', hbl', hcc⟩ := (h.rd (u := ⟨some ⟨b, off, none⟩, un, uc⟩) (L := O) (by simp)) (by rw [HOL.out]; omega)
                simp only [Option.some.injEq, Addr.mk.injEq, and_true] at e'
                obtain ⟨rfl, rfl⟩ := e'
                clear c0 c1 c2 c3 c4 hbl
                have c0 := hcc j r HX.out 0 _ rfl
                have c1 := hcc j r HX.out 1 _ rfl
                have c2 := hcc j r HX.out 2 _ rfl
                have c3 := hcc j r HX.out 3 _ rfl
                have c4 := hcc j r HX.out 4 _ rfl
                obtain ⟨bx, offx, ex, hblx, hcx⟩ := (h.rd (u := x) (L := D) (by simp)) (by rw [HDL.out]; omega)
                have d0 := hcx M.length r HAT.out 0 _ rfl
                have d1 := hcx M.length r HAT.out 1 _ rfl
                have d2 := hcx M.length r HAT.out 2 _ rfl
                have d3 := hcx M.length r HAT.out 3 _ rfl
                have d4 := hcx M.length r HAT.out 4 _ rfl
                simp only [Nat.add_zero] at c0 d0
                obtain ⟨xa, xn, xc⟩ := x
                simp only at ex
                subst ex
                have H := Lib.hid h
                have hm00 : (0 : Int) ≤ M.length := by omega
                clear TK hcc hcx h HRu
                generalize hM : M.length = m' at *
                have EM := Lib.hid hM
                clear hM
                go_upto_region 30 with fail
                go_quiet (fail)
                simp only [show decide (dl ≤ m') = false from decide_eq_false (by omega)]
                have H6 := Lib.hid (H.out.keep (below_drewN (Below.refl _ _) nq))
                clear H c0 c1 c2 c3 c4 d0 d1 d2 d3 d4 hbl' hblx HAT
                go_wp2_with fail
                go_roundw
                case rel => exact ⟨j + 1, by go_num, HJ.out, by rw [ET.out, List.length_append]; simp [EM.out], by rw [EF.out, HD.out]; exact H6.out⟩
                case measure => have := HJ.out; have := HOL.out; simp [intOf]; omega
              | false =>
                rw [hq] at TK ET
                have ET := Lib.hid ET
                clear EA hq HRu
                go_wp2_with fail
                refine TK.mono ?_; rintro e w5 ⟨rfl, h⟩
                have h : LS w [(g2, takeV V' r), (g1, foldV newV O)] [iR x D, iR ⟨some ⟨b, off, none⟩, un, uc⟩ O] w5 := h
                have H := Lib.hid h
                clear TK h c0 c1 c2 c3 c4 hbl
                go_wp2_with fail
                go_roundw
                case rel => exact ⟨j + 1, by go_num, HJ.out, by rw [ET.out]; simp, by rw [EF.out, HD.out]; exact H.out⟩
                case measure => have := HJ.out; have := HOL.out; simp [intOf]; omega
            · obtain rfl : j = i := by omega
              have hOt : O.take j = O := by rw [← HOL.out, List.take_length]
              rw [hOt] at h ⊢
              rw [HD.out, HDL.out]
              have K1 := seen_l [(g2, foldV newV O)] [] h
              have K2 := seen_l [] [(g1, foldV newV O)] h
              have HB := Lib.hid h.below
              have hlt' : decide ((j : Int) < j) = false := decide_eq_false (by omega)
              clear h hOt hml2
              generalize (foldV newV O).E.length = en at *
              go_wp2_with fail
              refine K1.mono ?_; rintro e w5 ⟨rfl, rfl⟩
              go_wp2_with fail
              refine K2.mono ?_; rintro e w6 ⟨rfl, rfl⟩
              clear K1 K2
              go_wp2
              go_ret
              exact ⟨rfl, HB.out⟩
        | true =>
          obtain ⟨k, hk⟩ : ∃ k : Nat, q % ((i : Int) + 1) = k := ⟨(q % ((i : Int) + 1)).toNat, by have := Int.emod_nonneg q (show (i : Int) + 1 ≠ 0 by omega); omega⟩
          have hk2 : q.tmod ((i : Int) + 1) = k := by rw [tmod_pos _ _ hq0]; exact hk
          have hki : k ≤ i := by have := Int.emod_lt_of_pos q (show (0 : Int) < (i : Int) + 1 by omega); omega
          have hnz : ¬ (i : Int) + 1 = 0 := by omega
          have hki' : (k : Int) ≤ i := by omega
          have hk0 : (0 : Int) ≤ k := by omega
          have hi20 : (i : Int) ≤ 20 := by omega
          have BAD : Hid (∀ wx R, LS w [(g2, newV), (g1, newV)] R wx → ∀ u' : Sl, iR u' (badL O k) ∈ R → Calls Try.prog 17 #[.pointer (some ⟨g1, 0, none⟩), .slice u'.a (i + 1) u'.c] wx fun e w' => ∃ x : Sl, e = .returned (.tuple #[.slice x.a 0 x.c, .int .i64 1]) ∧ ∃ R', LS w [(g2, newV), (g1, newV)] R' w') := fun wx R hx u' hu => by
            have K := merge_l u' (badL O k) (badL_ok HOO.out k) (by rw [badL_len, HOL.out]; omega) [(g2, newV)] [] hx hu (by show 0 + (badL O k).length < _; rw [badL_len, HOL.out]; omega)
            obtain ⟨e1, e2, e3⟩ := merge_bad (badL_bad O k) newV
            rw [e1, e2, e3, badL_len, HOL.out] at K
            exact K.mono fun e w' ⟨x, he, hh⟩ => ⟨x, he, _, hh⟩
          have HWR := Lib.hid H.out
          go_upto_if 52 with fail
          go_cut [10] (fun x wx => ∃ u' : Sl, x = .slice u'.a (i + 1) u'.c ∧ ∃ R, LS w [(g2, newV), (g1, newV)] R wx ∧ iR u' (badL O k) ∈ R)
          case first =>
            clear BAD
            rcases erow_form (c := rcs) (z := 5) (L := O) (H.out.row (r := iR u O) (by simp)) with ⟨hu, hO0⟩ | ⟨gb, cap', hu, hgl⟩
            · obtain ⟨ua, un, uc⟩ := u
              simp only [iR, Sl.v, Value.slice.injEq] at hu
              obtain ⟨rfl, rfl, rfl⟩ := hu
              have hi00 : i = 0 := by rw [← HOL.out, hO0]; rfl
              subst hi00
              obtain rfl : k = 0 := by omega
              subst hO0
              have H2 := Lib.hid (H.out.nil (r := iR ⟨none, 0, 0⟩ []) (World.ownsRow_nil _ _ _ _) rfl)
              clear H
              go_upto_region 19 with (at_builtin; refine wpList_append_own_none rfl (.tmp 59) (.tmp 62) 54 rfl 0 37 i0 5 Try.underlying54 hi0 (.slice none 0 0) 0 [] rfl (World.ownsRow_nil _ _ _ _) rfl ?_)
              go_wp2_with (at_builtin; refine wpList_append_lies _ rfl (.tmp 64) (.tmp 66) 54 rfl 0 37 i0 _ 5 32 Try.underlying54 hi0 hz0 hz1 hz2 rfl (by omega) (.slice none 0 0) ([] : List Rec).length (([] : List Rec).map rcs).flatten rfl (World.ownsRow_nil _ _ _ _) ⟨_, 0, none⟩ 1 1 (rcs zRec) rfl rfl (World.news_of_block (cs := (rcs zRec).toArray) (t := 37) (fr := (0, 0)) (heap_alloc_new _ _)) (rcs_enc.one zRec) (by omega) ?c2 ?c3 ?c4 _ rfl ?_)
              case c2 => show 0 + 1 ≤ _; unfold maxLen; omega
              case c3 => show (0 + 1) * _ ≤ _; omega
              case c4 => exact Nat.zero_le _
              intro gg cap1 w9 hown hgrow hat hlt9
              have H9 : Hid (LS w [(g2, newV), (g1, newV)] [iR ⟨some ⟨gg, 0, none⟩, 1, cap1⟩ [zRec], iR ⟨none, 0, 0⟩ []] w9) := H2.out.appR (L := []) (x := zRec) hown hgrow (by simpa using hat)
              have O9 : Hid (w9.ownsRow 0 37 5 (.slice (some ⟨gg, 0, none⟩) 1 cap1) 1 (rcs zRec)) := hown
              clear hown hgrow hat H2
              go_wp2_with (at_builtin; refine wpList_append_own_none rfl (.tmp 68) (.tmp 71) 54 rfl 0 37 i0 5 Try.underlying54 hi0 (.slice (some ⟨gg, 0, none⟩) 1 cap1) 1 (rcs zRec) rfl O9.out rfl ?_)
              go_wp2_with fail
              go_meet
              exact ⟨⟨some ⟨gg, 0, none⟩, 1, cap1⟩, rfl, _, H9.out, by simp [badL]⟩
            · obtain ⟨ua, un, uc⟩ := u
              simp only [iR, Sl.v, Value.slice.injEq] at hu
              rw [HOL.out] at hu
              obtain ⟨rfl, rfl, rfl⟩ := hu
              have HOW : Hid (wr.ownsRow 0 37 5 (.slice (some ⟨gb, 0, none⟩) O.length uc) O.length (O.map rcs).flatten) := H.out.ownR (u := ⟨some ⟨gb, 0, none⟩, un, uc⟩) (L := O) (by simp)
              have RO : Hid (∀ w1, Below wr.heap.size wr w1 → ERow rcs 5 37 w1 (.slice (some ⟨gb, 0, none⟩) O.length uc) O) := fun w1 hb => erow_keep HOW.out hb
              have hcap : un ≤ uc := by
                obtain ⟨-, C, -, h1, -, h3, -⟩ := erow_open rcs_enc (RO.out wr (Below.refl _ _))
                rw [HOL.out] at h3; exact h3
              have hcap' : (un : Int) ≤ uc := by omega
              have n1 : Hid (∀ w1, Below wr.heap.size wr w1 → ∀ j v, ((O.take k).map rcs).flatten[j]? = some v → w1.cell? ((⟨gb, 0, none⟩ : Addr).add j) = some v) := fun w1 hb j v hv => by
                have := epart_cells rcs_enc (p := 0) (M := O.take k) (RO.out w1 hb) (fun x y hx => by rw [Nat.zero_add]; rw [List.getElem?_take] at hx; split at hx; exact hx; cases hx) j v hv
                rw [Nat.zero_mul] at this; exact this
              obtain ⟨ad, hadq, hadn⟩ : ∃ ad : Addr, some ad = (if uc = k then some ⟨gb, 0, none⟩ else some ⟨gb, k * 5, none⟩) ∧ (¬ uc = k → ad = ⟨gb, k * 5, none⟩) := by
                split
                · rename_i h0; exact ⟨_, rfl, fun h => absurd h0 h⟩
                · exact ⟨_, rfl, fun _ => rfl⟩
              have f1 : Hid (((O.take k).map rcs).flatten.length = k * 5) := by show _ = _; rw [flatten_len _ (rcs_enc.all _), List.length_map, List.length_take, HOL.out, Nat.min_eq_left hki]
              have f2 : Hid (((O.drop k).map rcs).flatten.length = (un - k) * 5) := by show _ = _; rw [flatten_len _ (rcs_enc.all _), List.length_map, List.length_drop, HOL.out]
              have n3 : Hid (∀ w1, Below wr.heap.size wr w1 → ∀ j v, ((O.drop k).map rcs).flatten[j]? = some v → w1.cell? (ad.add j) = some v) := fun w1 hb j v hv => by
                by_cases hce : uc = k
                · have : ((O.drop k).map rcs).flatten = [] := List.eq_nil_of_length_eq_zero (by rw [f2.out]; omega)
                  rw [this] at hv; simp at hv
                · rw [hadn hce]
                  exact epart_cells rcs_enc (p := k) (M := O.drop k) (RO.out w1 hb) (fun x y hx => by rwa [List.getElem?_drop] at hx) j v hv
              have HADQ := Lib.hid hadq
              have o1 := Lib.hid (rcs_enc.ones (O.take k))
              have o2 := Lib.hid (rcs_enc.ones (O.drop k))
              have EQB : Hid (((badL O k).map rcs).flatten = ((O.take k).map rcs).flatten ++ rcs zRec ++ ((O.drop k).map rcs).flatten) := by show _ = _; unfold badL; simp
              have EBL : Hid ((badL O k).length = un + 1) := by show _ = _; rw [badL_len, HOL.out]
              clear hadq hadn
              generalize ((O.take k).map rcs).flatten = N1 at *
              generalize ((O.drop k).map rcs).flatten = N2 at *
              go_wp2_with (at_builtin; refine wpList_append_own _ rfl (.tmp 59) (.tmp 62) 54 rfl wr.heap.size 37 i0 _ 5 32 Try.underlying54 hi0 hz0 hz1 hz2 rfl (by omega) (.slice none 0 0) 0 [] rfl (World.ownsRow_nil _ _ _ _) ⟨gb, 0, none⟩ k uc N1 rfl f1.out (n1.out wr (Below.refl _ _)) o1.out (by unfold maxLen; omega) (by omega) (Nat.le_refl _) ?_)
              intro v1 w4 hown hgrow _
              have B1 : Hid (Below wr.heap.size wr w4) := (Below.refl _ wr).grown hgrow (Nat.le_refl _) (fun k hk => by simp [Value.ownBlock] at hk)
              have OWN := Lib.hid hown
              have hs1 := B1.out.size
              clear hown hgrow
              have hnz2 : Hid (∀ j v, (rcs zRec)[j]? = some v → (w4.alloc (.cells (rcs zRec).toArray 37)).cell? ((⟨w4.heap.size, 0, none⟩ : Addr).add j) = some v) := fun j v hv => by
                rw [add_at, Nat.zero_add, cell_of_row _ _ _ _ _ _ (heap_alloc_new _ _)]
                simpa using hv
              have OWN2 : Hid ((w4.alloc (.cells (rcs zRec).toArray 37)).ownsRow wr.heap.size 37 5 v1 k N1) := own_touch (F := fun _ => False) (by simpa using OWN.out) ((Touch.refl _ _).alloc _) (fun _ _ h => h)
              have B2 : Hid (Below wr.heap.size wr (w4.alloc (.cells (rcs zRec).toArray 37))) := B1.out.alloc B1.out.size _
              go_wp2_with (at_builtin; refine wpList_append_own _ rfl (.tmp 64) (.tmp 66) 54 rfl wr.heap.size 37 i0 _ 5 32 Try.underlying54 hi0 hz0 hz1 hz2 rfl (by omega) v1 k N1 rfl OWN2.out ⟨w4.heap.size, 0, none⟩ 1 1 (rcs zRec) rfl rfl hnz2.out (rcs_enc.one zRec) (by unfold maxLen; omega) (by omega) B2.out.size ?_)
              intro v2 w5 hown hgrow _
              have B3 : Hid (Below wr.heap.size wr w5) := B2.out.grown hgrow B2.out.size (fun k hk => (World.ownsRow.lt OWN2.out k hk).1)
              have OWN3 := Lib.hid hown
              have hs3 := B3.out.size
              clear hown hgrow B1 OWN OWN2 B2 hnz2 hs1
              go_wp2_with (at_builtin; refine wpList_append_own _ rfl (.tmp 68) (.tmp 71) 54 rfl wr.heap.size 37 i0 _ 5 32 Try.underlying54 hi0 hz0 hz1 hz2 rfl (by omega) v2 (k + 1) (N1 ++ rcs zRec) rfl OWN3.out ad (un - k) (uc - k) N2 (by simp [Act.eval]; exact HADQ.out.symm) f2.out (n3.out w5 B3.out) o2.out (by unfold maxLen; omega) (by omega) hs3 ?_)
              all_goals (
                intro v3 w6 hown hgrow _
                have B4 : Below wr.heap.size wr w6 := B3.out.grown hgrow B3.out.size (fun k hk => (World.ownsRow.lt OWN3.out k hk).1)
                obtain ⟨⟨sa, sn, sc⟩, hv⟩ := sl_of hown
                obtain rfl : v3 = .slice sa sn sc := hv
                have e9 : k + 1 + (un - k) = un + 1 := by omega
                rw [e9] at hown
                have hsn : sn = un + 1 := by
                  have := erow_n (u := ⟨sa, sn, sc⟩) (c := rcs) (z := 5) (T := 37) (L := badL O k) (by
                    show World.ownsRow _ _ _ _ _ _ _
                    rw [EQB.out, EBL.out]
                    simpa [Sl.v] using own_zero hown)
                  rw [EBL.out] at this; exact this
                subst hsn
                have H9 : Hid (LS w [(g2, newV), (g1, newV)] [iR ⟨sa, un + 1, sc⟩ (badL O k), iR ⟨some ⟨gb, 0, none⟩, un, uc⟩ O] w6) := H.out.more (r := iR ⟨sa, un + 1, sc⟩ (badL O k)) B4 (by
                    show World.ownsRow _ _ _ _ _ _ _
                    simp only [iR]
                    rw [EQB.out, EBL.out]
                    simpa [Sl.v] using own_zero hown) (fun b hb => (World.ownsRow.lt hown b hb).1)
                clear hown hgrow B4
                go_wp2_with fail
                go_meet
                exact ⟨⟨sa, un + 1, sc⟩, rfl, _, H9.out, by simp⟩)
          case rest =>
            obtain ⟨u', rfl, R, h, hu'⟩ := hcut
            generalize wc = wx at *
            have K := BAD.out wx R h u' hu'
            clear h hu' BAD H HWR
            go_wp2_with fail
            refine K.mono ?_; rintro e w4 ⟨x, rfl, R', h⟩
            have KM := members_l [(g2, newV)] [] h
            have em : (membersV newV).length = 0 := by
              have : membersV newV = [] := by
                unfold membersV
                rw [show knownN newV = [] by unfold knownN; rw [List.filter_eq_nil_iff]; intro i _; rw [knows_new]; simp]
                rfl
              rw [this]; rfl
            rw [em] at KM
            clear K h em
            go_wp2_with fail
            refine KM.mono ?_; rintro e w5 ⟨x2, rfl, h⟩
            have h : LS w [(g2, newV), (g1, newV)] _ w5 := h
            have KS := seen_l [(g2, newV)] [] h
            rw [show newV.E.length = 0 from rfl] at KS
            have HB := Lib.hid h.below
            clear KM h
            go_wp2_with fail
            refine KS.mono ?_; rintro e w6 ⟨rfl, rfl⟩
            clear KS
            go_wp2
            go_ret
            exact ⟨rfl, HB.out⟩
theorem merge_run (a : Option Addr) (len cap : Nat) (b : Bool) (q : Int) (w : World) (h : ThingRow w a len cap) (hq : (Lit.int .u8 q).wf = true) :
    Calls Try.prog 6 #[.slice a len cap, .bool b, .int .u8 q] w (MgPost w) := by
  obtain ⟨T, hT, hr, hok⟩ := things_list h (min len 20) (by omega)
  have hq2 := bounds_u8 hq
  exact merge_walk a len cap (min len 20) T b q w rfl hT hr hok h.len hq2.1 hq2.2
theorem viewMerge_own : ownKnob Try.prog.godebug = none := by kernel_rfl
theorem viewMerge_laid : laidOutB Try.prog = true := by kernel_rfl
set_option maxRecDepth 100000 in
theorem viewMerge_lifted (os : Os) (started : os.Started) (H : Type) (enc : TypeId × Value → H) :
    ReturnsInHanded {} Try.checked os 6 .any (Rows.viewMergeSpec.pre6 enc Try.prog Try.f6 Rows.viewMergeRow.domain false) (Rows.viewMergeSpec.post enc Try.prog Try.f6 false true false false) := by
  refine returnsInHanded_of_change (C := Try.checked) viewMerge_own started (by kernel_rfl) Try.func6
    (ChangeSpec.witness6 (enc := enc) (C := Try.checked) false ⟨#[], #[.slice none 0 0, .bool false, .int .u8 0], []⟩ 8 (by kernel_rfl) (by kernel_rfl) (by kernel_rfl) (by kernel_rfl)) ?_
  intro W base args ds gs before hval0 hW hcnd _
  have hval : ∀ (j : Nat) t v, Try.f6.params[j]? = some t → args[j]? = some v → Value.okWide Try.prog W .any base t v := hval0
  have hW' := hW
  obtain ⟨p, q, hA0, hV, rfl, hfz, hnd⟩ := hW
  have hA : DataW.TrodAll enc Try.prog W 0 (fun _ => true) true Try.f6.params.toList args.toList ds p := hA0
  rw [Try.params6] at hA hval
  obtain ⟨v0, vs0, d0, ds0, p0, q0, hargs, rfl, rfl, h0, r0⟩ := trodAll_cons hA
  obtain ⟨v1, vs1, d1, ds1, p1, q1, rfl, rfl, rfl, h1, r1⟩ := trodAll_cons r0
  obtain ⟨v2, vs2, d2, ds2, p2, q2, rfl, rfl, rfl, h2, r2⟩ := trodAll_cons r1
  obtain ⟨rfl, rfl, rfl⟩ := trodAll_nil r2
  obtain rfl : args = #[v0, v1, v2] := by cases args; simp_all
  obtain ⟨rfl, rfl⟩ := trodVars_none hV
  obtain ⟨a0, len0, cap0, rfl⟩ := okWide_slice Try.underlying22 (hval 0 22 v0 rfl rfl)
  have k0 := h0
  have lt0 : ∀ x ∈ p0, x.block < W.heap.size := by obtain ⟨m, hm⟩ := k0; exact DataW.trod_lt m _ _ _ hm
  have w0 : ThingRow W a0 len0 cap0 := by
    obtain ⟨fuel, hf⟩ := h0
    exact things_open hf
  obtain ⟨a1, rfl, rfl, rfl⟩ := open_bool Try.underlying4 (hval 1 4 v1 rfl rfl) h1
  obtain ⟨a2, rfl, rfl, rfl, w2⟩ := open_int Try.underlying5 (hval 2 5 v2 rfl rfl) h2
  clear hA0 hval0
  refine (merge_run a0 len0 cap0 a1 a2 W w0 w2).mono fun e W' ⟨he, bel⟩ => ?_
  subst he
  exact ⟨_, rfl, _, _, _, [], _, [], hW', trodAll_mk1 (shut_bool Try.underlying4 _), (trodAll_cons_mk (Below.trod viewMerge_laid (by kernel_rfl) (of_decide_eq_true (by kernel_rfl)) k0 bel lt0) (trodAll_cons_mk (shut_bool Try.underlying4 _) (trodAll_cons_mk (shut_int Try.underlying5 w2) trodAll_mk0))), rfl, bel.frame _, fun h => by cases h⟩
theorem viewMerge_over : Rows.viewMergeRow.holds Try.pinned (OpenSpec.ofChange Rows.viewMergeSpec) :=
  OpenClaim.holds_of_wide 6 Try.f6 rfl rfl rfl rfl rfl rfl rfl ⟨rfl, rfl, rfl, rfl, rfl⟩ rfl rfl rfl rfl rfl (by kernel_rfl) Try.func6 (by kernel_rfl)
    (of_decide_eq_true (by kernel_rfl)) (by unfold Func.isWrapper; first | (rw [if_pos (by decide +kernel)]; kernel_rfl) | (rw [if_neg (by decide +kernel)]; exact ⟨rfl, rfl⟩))
    (fun os started H enc _ => viewMerge_lifted os started H enc)
theorem viewMerge_holds : Rows.ViewMergeSaid := viewMerge_over
#print axioms viewMerge_holds
end Go.Proofs.Ytchhbhoikkdmeaa
