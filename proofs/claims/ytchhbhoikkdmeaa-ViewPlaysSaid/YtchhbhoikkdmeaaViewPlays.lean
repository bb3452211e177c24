/- ViewPlays: records are taken one by one, and in lists, as the chapter says (what turned, who is known, who is live, the events): for every list of things, and every list of lists of things. (Written by wip/tools/gen_plays11.py.) -/
import Derived.Test.YtchhbhoikkdmeaaViPair
import Derived.Test.YtchhbhoikkdmeaaViSame
import Derived.Deep.RegionHeld
import Derived.Deep.DeepCutAuto
import Derived.ChangeOld
import Derived.ChangeMaps5
import Derived.ShutString
import Derived.OpenShut
import Derived.SizedLaws
namespace Go.Proofs.Ytchhbhoikkdmeaa
open Go.Sort Go.RowKit Go.BigFrame Go.ChangeShapes Go.WideShapes Go.Deep
set_option linter.unusedVariables false
set_option linter.unusedSimpArgs false

def PlPost (w : World) (e : Ending) (w' : World) : Prop := e = .returned (.bool true) ∧ Below w.heap.size w w'
def PlJ (m : Nat) (w0 : World) (g gx : Nat) (iv : Value) (wr : World) : Prop := ∃ (i : Nat) (v : Vw) (vl ve : Sl), iv = .int .i64 (i : Nat) ∧ i ≤ m ∧ v.E.length ≤ 21 * i ∧ P2 w0 g v [] gx vl ve v wr
def PmJ (L : List Rec) (w0 : World) (g gx : Nat) (v : Vw) (vl ve : Sl) (s1 s2 iv : Value) (wr : World) : Prop := ∃ (k : Nat) (u1 u2 : Sl), iv = .int .i64 (k : Nat) ∧ k ≤ L.length ∧ s1 = .slice u1.a (L.take k).length u1.c ∧ s2 = .slice u2.a (L.take k).length u2.c ∧ P2 w0 g v [iR u1 (L.take k), iX u2 (L.take k)] gx vl ve v wr
theorem P2.drew {w0 w : World} {g gx : Nat} {v vx : Vw} {vl ve : Sl} {R : List It} (h : P2 w0 g v R gx vl ve vx w) : P2 w0 g v R gx vl ve vx w.drew := h.keep (Below.refl _ _).drew
theorem mergeV_len (v : Vw) (L : List Rec) : (mergeV v L).E.length ≤ v.E.length + L.length := by
  unfold mergeV; split
  · exact fold_len L v
  · omega
theorem mergeL_len (v : Vw) (L : List Rec) : (mergeL v L).length ≤ L.length := by
  unfold mergeL; split
  · exact turned_len L v
  · simp
set_option maxHeartbeats 12800000 in
set_option maxRecDepth 100000 in
theorem plays_walk (a : Option Addr) (len cap m : Nat) (T : List Th) (a1 : Option Addr) (len1 cap1 : Nat) (w : World) (hm : m = min len 60) (hT : T.length = m) (hr : RdE tcs 6 w a T) (hok : ∀ t ∈ T, t.r.Ok) (hlen : len ≤ 9223372036854775807) (hrow : ThingsRow w a1 len1 cap1) :
    Calls Try.prog 3 #[.slice a len cap, .slice a1 len1 cap1] w (PlPost w) := by
  have K0 := ex_any w
  have HR := Lib.hid hr
  have HOK := Lib.hid hok
  have hl2 : (len : Int) ≤ 9223372036854775807 := by omega
  have hl3 := hrow.len
  have hl4 : (len1 : Int) ≤ 9223372036854775807 := by omega
  have HT := Lib.hid hT
  have hm60 : m ≤ 60 := by omega
  have hml : m ≤ len := by omega
  have HM := Lib.hid hm
  have HROW := Lib.hid hrow
  clear hr hok hm hT hrow hl3
  go_enter Try.func3, Try.ntmps3
  go_wp2_with fail
  refine K0.mono ?_; rintro e w1 ⟨rfl, b1⟩
  have K := new_l (LS.start w w1 b1)
  clear K0 b1
  go_wp2_with fail
  refine K.mono ?_; rintro e w2 ⟨g, rfl, h⟩
  have S1 := Lib.hid (P2.start h)
  clear K h
  go_upto_region 8 with fail
  generalize w2.alloc (.cells #[.slice none 0 0, .slice none 0 0] 31) = w3 at *
  generalize w2.heap.size = gx at *
  have S0 : Hid (PlJ m w g gx (.int .i64 0) w3) := ⟨0, newV, _, _, rfl, Nat.zero_le _, by decide, S1.out⟩
  clear S1
  go_wp2_with fail
  go_loopw [8] (fun iv wr => PlJ m w g gx iv wr) (fun iv _ => 100 - (intOf iv).toNat)
  case atStart => exact S0.out
  case round =>
    obtain ⟨i, v, vl, ve, rfl, hi, hE, h⟩ := hrel
    clear S0
    have hi0' : (0 : Int) ≤ i := by omega
    by_cases hlt : i < m
    · have hlt' : (i : Int) < len := by omega
      have hlt2 : (i : Int) < 60 := by omega
      obtain ⟨t, hx⟩ : ∃ t, T[i]? = some t := ⟨_, List.getElem?_eq_getElem (by rw [HT.out]; exact hlt)⟩
      have ht := HOK.out t (List.mem_of_getElem? hx)
      obtain ⟨b, off, rfl, hbl, hcc⟩ := (HR.out.keep h.below) (by rw [HT.out]; omega)
      have c0 := hcc i _ hx 0 _ rfl
      have c1 := hcc i _ hx 1 _ rfl
      have c2 := hcc i _ hx 2 _ rfl
      have c3 := hcc i _ hx 3 _ rfl
      have c4 := hcc i _ hx 4 _ rfl
      have c5 := hcc i _ hx 5 _ rfl
      simp only [Nat.add_zero] at c0
      have K := thing_any t ht
      have hYok := Lib.hid (thR_ok ht)
      have HI : Hid (i + 1 ≤ m) := hlt
      have hEl : v.E.length ≤ 1260 := by omega
      have HE := Lib.hid hE
      have hv := h.rs.ok
      have HBV : Hid (OkV (takeV v (thR t))) := take_ok hv (thR_ok ht)
      have HBE : Hid ((takeV v (thR t)).E.length ≤ v.E.length + 1) := take_len v (thR t)
      have H := Lib.hid h
      clear hcc hx ht hE hv h
      generalize thR t = y at *
      obtain ⟨r, own⟩ := t
      simp only at *
      go_wp2_with fail
      refine (K _).mono ?_; rintro e w4 ⟨rfl, b4⟩
      have h := (H.out.keep b4).box y
      replace H := Lib.hid h
      clear K b4 c0 c1 c2 c3 c4 c5 hbl h
      go_upto_region 12 with fail
      generalize (w4.alloc (.cells #[.int .i64 y.id, .int .i64 y.st, .int .u32 y.n, .int .u32 y.ip, .int .u16 y.port] 37)) = w5 at *
      generalize w4.heap.size = ry at *
      have d0 := (H.out.cells (b := ry) (r := y) (by simp)).1 0 _ rfl; have d1 := (H.out.cells (b := ry) (r := y) (by simp)).1 1 _ rfl; have d2 := (H.out.cells (b := ry) (r := y) (by simp)).1 2 _ rfl; have d3 := (H.out.cells (b := ry) (r := y) (by simp)).1 3 _ rfl; have d4 := (H.out.cells (b := ry) (r := y) (by simp)).1 4 _ rfl; have dl := (H.out.cells (b := ry) (r := y) (by simp)).2
      have K := take_p y hYok.out H.out (by omega)
      obtain ⟨V, hV⟩ : ∃ V, takeV v y = V := ⟨_, rfl⟩
      rw [hV] at K HBV HBE
      have HVV := Lib.hid hV
      clear hV
      obtain ⟨te, hte⟩ : ∃ te, turns v y = te := ⟨_, rfl⟩
      obtain ⟨er, her⟩ : ∃ er, errR y = er := ⟨_, rfl⟩
      rw [hte, her] at K
      replace hte := Lib.hid hte
      replace her := Lib.hid her
      go_wp2_with fail
      refine K.mono ?_; rintro e w6 ⟨rfl, h⟩
      replace H := Lib.hid h
      clear K h d0 d1 d2 d3 d4 dl
      have d0 := (H.out.cells (b := ry) (r := y) (by simp)).1 0 _ rfl; have d1 := (H.out.cells (b := ry) (r := y) (by simp)).1 1 _ rfl; have d2 := (H.out.cells (b := ry) (r := y) (by simp)).1 2 _ rfl; have d3 := (H.out.cells (b := ry) (r := y) (by simp)).1 3 _ rfl; have d4 := (H.out.cells (b := ry) (r := y) (by simp)).1 4 _ rfl; have dl := (H.out.cells (b := ry) (r := y) (by simp)).2
      have K := refrec_any y
      go_wp2_with fail
      refine (K _).mono ?_; rintro e w7 ⟨rfl, b7⟩
      have h := H.out.keep b7
      replace H := Lib.hid h
      have K2 := take_x y hYok.out h (by omega)
      rw [HVV.out, hte.out, her.out] at K2
      clear K b7 h d0 d1 d2 d3 d4 dl
      go_wp2_with fail
      refine K2.mono ?_; rintro e w8 ⟨rfl, vl1, ve1, h⟩
      replace H := Lib.hid h
      clear K2 h HVV hte her
      have d0 := (H.out.cells (b := ry) (r := y) (by simp)).1 0 _ rfl
      have dl := (H.out.cells (b := ry) (r := y) (by simp)).2
      have K := of_p y.id H.out
      generalize ho : ofV V y.id = o at *
      generalize hkn : knows V y.id = kn at *
      replace ho := Lib.hid ho
      replace hkn := Lib.hid hkn
      go_wp2_with fail
      refine K.mono ?_; rintro e w9 ⟨rfl, h⟩
      replace H := Lib.hid (h.box o)
      clear K h d0 dl
      go_upto_region 15 with fail
      generalize (w9.alloc (.cells #[.int .i64 o.id, .int .i64 o.st, .int .u32 o.n, .int .u32 o.ip, .int .u16 o.port] 37)) = w10 at *
      generalize w9.heap.size = rp at *
      have d0 := (H.out.cells (b := ry) (r := y) (by simp)).1 0 _ rfl
      have dl := (H.out.cells (b := ry) (r := y) (by simp)).2
      have K := of_x y.id H.out
      rw [ho.out, hkn.out] at K
      go_wp2_with fail
      refine K.mono ?_; rintro e w11 ⟨rfl, h⟩
      replace H := Lib.hid (h.boxX o)
      clear K h d0 dl
      go_upto_region 16 with fail
      generalize (w11.alloc (.cells #[.int .i64 o.id, .int .i64 o.st, .int .u32 o.n, .int .u32 o.ip, .int .u16 o.port] 48)) = w12 at *
      generalize w11.heap.size = rq at *
      have p0 := cell_regrown ((H.out.cells (b := rp) (r := o) (by simp)).1 0 _ rfl)
      have p1 := cell_regrown ((H.out.cells (b := rp) (r := o) (by simp)).1 1 _ rfl)
      have p2 := cell_regrown ((H.out.cells (b := rp) (r := o) (by simp)).1 2 _ rfl)
      have p3 := cell_regrown ((H.out.cells (b := rp) (r := o) (by simp)).1 3 _ rfl)
      have p4 := cell_regrown ((H.out.cells (b := rp) (r := o) (by simp)).1 4 _ rfl)
      have q0 := cell_regrown ((H.out.cellsX (b := rq) (r := o) (by simp)).1 0 _ rfl)
      have q1 := cell_regrown ((H.out.cellsX (b := rq) (r := o) (by simp)).1 1 _ rfl)
      have q2 := cell_regrown ((H.out.cellsX (b := rq) (r := o) (by simp)).1 2 _ rfl)
      have q3 := cell_regrown ((H.out.cellsX (b := rq) (r := o) (by simp)).1 3 _ rfl)
      have q4 := cell_regrown ((H.out.cellsX (b := rq) (r := o) (by simp)).1 4 _ rfl)
      have C := fun d os => Calls.regrown_of (refrec_any o (grow (redrawn w12 d) os))
      have g1 : (te != te) = false := by simp
      have g2 : (er != er) = false := by simp
      have g3 : (kn != kn) = false := by simp
      (refine wp_region_quiet_below (by kernel_rfl) (by kernel_rfl) ?_; (repeat (go_big_quiet_step (first | with_reducible exact C _ _))); refine wpQuiet_nil ?_; intro _ hw'; obtain ⟨⟨dq, osq⟩, hw''⟩ := hw'; subst hw'')
      have h := H.out.drop.keep (below_regrown w12 dq osq)
      replace H := Lib.hid h
      clear p0 p1 p2 p3 p4 q0 q1 q2 q3 q4 C g1 g2 g3 ho hkn h hYok
      generalize (grow (redrawn w12 dq) osq) = w13 at *

      by_cases hmi : i < len1 ∧ i < 10
      · have hm1 : (i : Int) < len1 := by omega
        have hm2 : (i : Int) < 10 := by omega
        obtain ⟨mb, moff, rfl, hmb, hmc⟩ := HROW.out.at_ (by omega)
        obtain ⟨a2, n2, cp2, hcell, htr⟩ := hmc i hmi.1
        have htl := htr.len
        have hn2 : (n2 : Int) ≤ 9223372036854775807 := by omega
        obtain ⟨T2, hT2, hr2, hok2⟩ := things_list htr (min n2 20) (by omega)
        have HR2 := Lib.hid hr2
        have HOK2 := Lib.hid hok2
        have HC2 : Hid (∀ wr, Below w.heap.size w wr → wr.cell? ⟨mb, moff + i, none⟩ = some (.slice a2 n2 cp2) ∧ mb < wr.heap.size) := fun wr hb => ⟨(hb.cell (p := ⟨mb, moff + i, none⟩) hmb).trans hcell, Nat.lt_of_lt_of_le hmb hb.size⟩
        have HTL := Lib.hid hT2
        clear hmc hcell htr hr2 hok2 hmb hmi htl hT2
        obtain ⟨L, hL⟩ : ∃ L, L = T2.map thR := ⟨_, rfl⟩
        have HLL : Hid (L.length = min n2 20) := by show _ = _; rw [hL, List.length_map, HTL.out]
        have HLX : Hid (∀ k t, T2[k]? = some t → L[k]? = some (thR t)) := fun k t hk => by rw [hL, List.getElem?_map, hk]; rfl
        have HLO : Hid (∀ r ∈ L, r.Ok) := fun r hr => by
          rw [hL] at hr
          obtain ⟨t, ht, rfl⟩ := List.mem_map.1 hr
          exact thR_ok (HOK2.out t ht)
        clear hL
        have S2 : Hid (PmJ L w g gx V vl1 ve1 (.slice none 0 0) (.slice none 0 0) (.int .i64 0) w13) := ⟨0, ⟨none, 0, 0⟩, ⟨none, 0, 0⟩, rfl, Nat.zero_le _, rfl, rfl, (H.out.nil (T := 48)).nil (T := 37)⟩
        obtain ⟨i0, hi0, hz0, hz1, hz2⟩ := info_parts info_rec
        obtain ⟨j0, hj0, hy0, hy1, hy2⟩ := info_parts info_rrec
        clear H
        go_wp2_with fail
        go_loopw [18, 19, 20] (fun s1 s2 kv wr => PmJ L w g gx V vl1 ve1 s1 s2 kv wr) (fun _ _ kv _ => 100 - (intOf kv).toNat)
        case atStart => exact S2.out
        case round =>
          obtain ⟨k, u1, u2, rfl, hk, rfl, rfl, h⟩ := hrel
          clear S2
          have hk0 : (0 : Int) ≤ k := by omega
          have hkl : (L.take k).length ≤ 20 := by rw [List.length_take]; have := HLL.out; omega
          obtain ⟨x9, hx9⟩ := HC2.out _ h.below
          by_cases hlk : k < L.length
          · have HK1 : Hid (k + 1 ≤ L.length) := hlk
            have hk1 : (k : Int) < n2 := by have := HLL.out; omega
            have hk2 : (k : Int) < 20 := by have := HLL.out; omega
            obtain ⟨t, hx⟩ : ∃ t, T2[k]? = some t := ⟨_, List.getElem?_eq_getElem (by rw [HTL.out, ← HLL.out]; exact hlk)⟩
            have ht := HOK2.out t (List.mem_of_getElem? hx)
            have hLk : Hid (L.take (k + 1) = L.take k ++ [thR t]) := take_snoc (HLX.out k t hx)
            have HX := Lib.hid hx
            obtain ⟨b3, off3, rfl, hbl, hcc⟩ := (HR2.out.keep h.below) (by rw [HTL.out, ← HLL.out]; omega)
            have c0 := hcc k _ hx 0 _ rfl; have c1 := hcc k _ hx 1 _ rfl; have c2 := hcc k _ hx 2 _ rfl; have c3 := hcc k _ hx 3 _ rfl; have c4 := hcc k _ hx 4 _ rfl; have c5 := hcc k _ hx 5 _ rfl; simp only [Nat.add_zero] at c0
            have K := thing_any t ht
            have KT := Lib.hid K
            have H := Lib.hid h
            have hone := rcs_enc.one (thR t)
            have HRD := HR2
            clear hcc hx ht h
            generalize thR t = z at *
            generalize L.take k = M at *
            obtain ⟨r9, own9⟩ := t
            simp only at K KT c0 c1 c2 c3 c4 c5
            go_wp2_with fail
            refine (K _).mono ?_; rintro e w14 ⟨rfl, b14⟩
            have h := H.out.keep b14
            replace H := Lib.hid h
            have OW := Lib.hid (P2.own (T := 37) h (u := u1) (L := M) (by simp [iR]))
            clear K b14 c0 c1 c2 c3 c4 c5 hbl h x9 hx9
            go_wp2_with (at_builtin; refine wpList_append_lies _ rfl (.tmp 119) (.tmp 128) 54 rfl 0 37 i0 _ 5 32 Try.underlying54 hi0 hz0 hz1 hz2 rfl (by omega) (.slice u1.a M.length u1.c) M.length (M.map rcs).flatten rfl (own_touch (F := fun _ => False) OW.out ((Touch.refl _ _).alloc _) (fun _ _ h => h)) ⟨_, 0, none⟩ 1 1 (rcs z) rfl rfl (World.news_of_block (cs := (rcs z).toArray) (t := 37) (fr := (0, 0)) (heap_alloc_new _ _)) hone (by omega) ?c2 ?c3 ?c4 _ rfl ?_)
            case c2 => unfold maxLen; omega
            case c3 => omega
            case c4 => exact Nat.zero_le _
            intro g1 cap1' w15 hown hgrow hat hlt9
            have h := (H.out.app (T := 37) hown hgrow (hat.imp id (fun h => by rw [h]))).swap
            replace H := Lib.hid h
            obtain ⟨x9, hx9⟩ := HC2.out _ h.below
            obtain ⟨b', off', e', hbl, hcc⟩ := (HRD.out.keep h.below) (by rw [HTL.out, ← HLL.out]; omega)
            simp only [Option.some.injEq, Addr.mk.injEq, and_true] at e'
            obtain ⟨rfl, rfl⟩ := e'
            have hx := HX.out
            have c0 := hcc k _ hx 0 _ rfl; have c1 := hcc k _ hx 1 _ rfl; have c2 := hcc k _ hx 2 _ rfl; have c3 := hcc k _ hx 3 _ rfl; have c4 := hcc k _ hx 4 _ rfl; have c5 := hcc k _ hx 5 _ rfl; simp only [Nat.add_zero] at c0
            clear OW hown hgrow hat hcc hx h
            simp only at c0 c1 c2 c3 c4 c5
            go_wp2_with fail
            refine (KT.out _).mono ?_; rintro e w16 ⟨rfl, b16⟩
            have h := H.out.keep b16
            replace H := Lib.hid h
            have K := refrec_any z
            clear b16 c0 c1 c2 c3 c4 c5 hbl h x9 hx9
            go_wp2_with fail
            refine (K _).mono ?_; rintro e w17 ⟨rfl, b17⟩
            have h := H.out.keep b17
            replace H := Lib.hid h
            have OW := Lib.hid (P2.own (T := 48) h (u := u2) (L := M) (by simp [iX]))
            clear K b17 h
            go_wp2_with (at_builtin; refine wpList_append_lies _ rfl (.tmp 130) (.tmp 140) 28 rfl 0 48 j0 _ 5 32 Try.underlying28 hj0 hy0 hy1 hy2 rfl (by omega) (.slice u2.a M.length u2.c) M.length (M.map rcs).flatten rfl (own_touch (F := fun _ => False) OW.out ((Touch.refl _ _).alloc _) (fun _ _ h => h)) ⟨_, 0, none⟩ 1 1 (rcs z) rfl rfl (World.news_of_block (cs := (rcs z).toArray) (t := 48) (fr := (0, 0)) (heap_alloc_new _ _)) hone (by omega) ?c2 ?c3 ?c4 _ rfl ?_)
            case c2 => unfold maxLen; omega
            case c3 => omega
            case c4 => exact Nat.zero_le _
            intro g2 cap2' w18 hown hgrow hat hlt9
            have h := (H.out.app (T := 48) hown hgrow (hat.imp id (fun h => by rw [h]))).swap
            have FN : Hid (PmJ L w g gx V vl1 ve1 (.slice (some ⟨g1, 0, none⟩) (M.length + 1) cap1') (.slice (some ⟨g2, 0, none⟩) (M.length + 1) cap2') (.int .i64 ((k + 1 : Nat) : Int)) w18) := ⟨k + 1, ⟨some ⟨g1, 0, none⟩, M.length + 1, cap1'⟩, ⟨some ⟨g2, 0, none⟩, M.length + 1, cap2'⟩, rfl, HK1.out, by rw [hLk.out, List.length_append]; rfl, by rw [hLk.out, List.length_append]; rfl, by rw [hLk.out]; exact h⟩
            clear OW hown hgrow hat h H
            go_wp2
            go_roundw
            case rel => first | exact FN.out | (have q := FN.out; simpa using q)
            case measure => have := HK1.out; have := HLL.out; simp [intOf]; omega
          · obtain rfl : k = L.length := by omega
            have hLn := HLL.out
            rw [List.take_length] at h hkl
            have hMLe := mergeV_len V L
            have hVE := HBE.out
            have hEE := HE.out
            have K := merge_p u1 L HLO.out (by omega) h (by simp [iR]) (by omega)
            have HBE9 : Hid ((mergeV V L).E.length ≤ 21 * (i + 1)) := by show _ ≤ _; omega
            have hll : (L.take L.length).length = L.length := by rw [List.take_length]
            have hmm := mergeL_len V L
            clear h HC2 HR2 HOK2 HLX hVE hEE hMLe
            have hVb : V.E.length + L.length < 1000000 := by have := HBE.out; have := HE.out; omega
            (try rw [hll])
            have hcond : ((L.length : Int) < n2 ∧ ¬ (L.length : Int) < 20) ∨ ¬ (L.length : Int) < n2 := by omega
            clear hLn
            go_upto_region 22 with fail
            go_cut [116] (fun c wx => c = .bool false ∧ wx = wr)
            case first =>
              rcases hcond with ⟨q1, q2⟩ | q1
              · have q3 : decide ((L.length : Int) < 20) = false := decide_eq_false q2
                go_wp2_with fail
                go_meet
                exact ⟨rfl, rfl⟩
              · have q3 : decide ((L.length : Int) < n2) = false := decide_eq_false q1
                go_wp2_with fail
                go_meet
                exact ⟨rfl, rfl⟩
            case rest =>
            obtain ⟨rfl, rfl⟩ := hcut
            clear hcond x9 hx9
            generalize hmE : mergeE L = er2 at *
            go_wp2_with fail
            refine K.mono ?_; rintro e w14 ⟨uc, rfl, h⟩
            have K2 := merge_x u2 L HLO.out (by omega) h (by simp [iX, iR]) hVb
            rw [hmE] at K2
            clear K
            generalize hmL : (mergeL V L).length = mn at *
            go_wp2_with fail
            refine K2.mono ?_; rintro e w15 ⟨ud, rfl, rdd, vl9, ve9, h⟩
            have K := alike_any uc.a uc.c ud.a ud.c (mergeL V L) w15 (P2.rd (T := 37) h (u := uc) (L := mergeL V L) (by simp [iR])) rdd (by omega)
            rw [hmL] at K
            clear K2 rdd
            go_wp2_with fail
            refine K.mono ?_; rintro e w16 ⟨rfl, b16⟩
            have h := h.drop.keep b16
            have H := Lib.hid h
            clear K b16 h hmE hmL hmm
            have g2 : (er2 != er2) = false := by simp
            clear HBE HBV HE
            generalize mergeV V L = V9 at *
            have h := H.out
            obtain ⟨al, nl, cl⟩ := vl9
            obtain ⟨ae, ne, ce9⟩ := ve9
            have hnl := h.rs.ln
            have hne := h.rs.en
            simp only at hnl hne
            subst hnl hne
            have hE9 := HBE9.out
            have hml9 := members_len V9
            have hml8 : ((membersV V9).length : Int) ≤ 33 := by omega
            have hE8 : (V9.E.length : Int) ≤ 2000 := by omega
            clear hE9
            have mkS : Hid (∀ w', P2 w g V9 [] gx ⟨al, (membersV V9).length, cl⟩ ⟨ae, V9.E.length, ce9⟩ V9 w' → w'.cell? ⟨gx, 0, none⟩ = some (.slice al (membersV V9).length cl) ∧ P2 w g V9 [] gx ⟨al, (membersV V9).length, cl⟩ ⟨ae, V9.E.length, ce9⟩ V9 w') := fun w' hh => ⟨hh.rs.box.cell 0 _ rfl, hh⟩
            have PA := Lib.hid h.drew
            clear h
            go_upto_region 31 with fail
            go_region_held (fun w' => w'.cell? ⟨gx, 0, none⟩ = some (.slice al (membersV V9).length cl) ∧ P2 w g V9 [] gx ⟨al, (membersV V9).length, cl⟩ ⟨ae, V9.E.length, ce9⟩ V9 w') (first | exact mkS.out _ PA.out | exact mkS.out _ PB.out | exact mkS.out _ PC.out) (first | (go_at_call 20; refine (members_p PA.out).mono ?_; rintro e wm ⟨um, rfl, rdm, pb⟩; have PB := Lib.hid pb; have RM := Lib.hid rdm; clear pb rdm) | (go_at_call 19; refine (alike_any _ _ _ _ (membersV V9) _ RM.out PB.out.rs.rd (by omega)).mono ?_; rintro e wk ⟨rfl, bk⟩; have PC := Lib.hid (PB.out.keep bk)) | fail)
            clear mkS PA PB RM
            have K := live_p PC.out
            go_wp2_with fail
            refine K.mono ?_; rintro e w20 ⟨u20, rfl, r20, h⟩
            have K2 := live_x r20 h
            have hll : (liveV V9).length ≤ 33 := live_len V9 33
            clear K r20 h PC
            generalize hlv : (liveV V9).length = lv at *
            go_wp2_with fail
            refine K2.mono ?_; rintro e w21 ⟨u21, rfl, r21, r20, h⟩
            have K := same_at (o := true) (ca := u20.c) (cb := u21.c) r20 r21 (by omega) (by omega) (by simp)
            rw [hlv] at K
            clear K2 r20 r21
            go_wp2_with fail
            refine K.mono ?_; rintro e w22 ⟨rfl, b22⟩
            have h := h.keep b22
            have K2 := events_p h (by omega)
            have hel := last_len V9.E
            clear K b22 h hlv hll
            generalize hle : (lastE V9.E).length = el at *
            go_wp2_with fail
            refine K2.mono ?_; rintro e w23 ⟨u23, rfl, r23, h⟩
            have K := events_x r23 h (by omega)
            rw [hle] at K
            clear K2 r23 h
            go_wp2_with fail
            refine K.mono ?_; rintro e w24 ⟨u24, rfl, r24, r23, h⟩
            have K2 := sameE_any u23.a u23.c u24.a u24.c (lastE V9.E) w24 r23 r24 (by omega)
            rw [hle] at K2
            clear K r23 r24
            go_wp2_with fail
            refine K2.mono ?_; rintro e w25 ⟨rfl, b25⟩
            have h := h.keep b25
            have H := Lib.hid h
            have e1 := cell_regrown (h.rs.box.cell 1 _ rfl)
            have hvs := Lib.hid (h.ls.vs (g, V9) (by simp))
            have hwr := IntWalk.u64_in (V9.E.length : Int) ⟨by omega, by omega⟩
            have C : ∀ d os, Calls Try.prog 27 #[.pointer (some ⟨g, 0, none⟩)] (grow (redrawn w25 d) os) _ := fun d os => Calls.regrown_of ((seen_any g V9 (grow (redrawn w25 d) os) (hvs.out.keep (below_regrown w25 d os))).mono (fun e w' hh => ⟨hh.1, by rw [hh.2]; exact Below.refl _ _⟩))
            clear K2 b25 h hle hel
            go_upto_region 34 with fail
            (refine wp_region_quiet_below (by kernel_rfl) (by kernel_rfl) ?_; (repeat (go_big_quiet_step (first | with_reducible exact C _ _))); refine wpQuiet_nil ?_; intro _ hw'; obtain ⟨⟨dq, osq⟩, hw''⟩ := hw'; subst hw'')
            have HN := Lib.hid (H.out.keep (below_regrown w25 dq osq))
            clear e1 C hvs hwr H
            go_wp2
            go_roundw
            case rel => exact ⟨i + 1, V9, _, _, by go_num, HI.out, HBE9.out, HN.out⟩
            case measure => have := HI.out; simp [intOf]; omega
      · have hmd : decide ((i : Int) < len1) = true → decide ((i : Int) < 10) = false := fun hq => decide_eq_false (by have := of_decide_eq_true hq; omega)
        have HBE9 : Hid (V.E.length ≤ 21 * (i + 1)) := by show _ ≤ _; have := HBE.out; have := HE.out; omega
        clear HBE HBV HE
        obtain ⟨vl9, hvl⟩ : ∃ x, x = vl1 := ⟨_, rfl⟩
        obtain ⟨ve9, hve⟩ : ∃ x, x = ve1 := ⟨_, rfl⟩
        obtain ⟨V9, hV9⟩ : ∃ x, x = V := ⟨_, rfl⟩
        rw [← hvl, ← hve, ← hV9] at H
        rw [← hV9] at HBE9
        clear hvl hve hV9
        go_upto_region 18 with fail
        go_cut [105] (fun c wx => c = .bool false ∧ wx = w13)
        case first =>
          by_cases hm1 : (i : Int) < len1
          · have hm2 : decide ((i : Int) < 10) = false := hmd (decide_eq_true hm1)
            go_wp2_with fail
            go_meet
            exact ⟨rfl, rfl⟩
          · have hm2 : decide ((i : Int) < len1) = false := decide_eq_false hm1
            go_wp2_with fail
            go_meet
            exact ⟨rfl, rfl⟩
        case rest =>
        obtain ⟨rfl, rfl⟩ := hcut
        clear hmd hmi
        have h := H.out
        obtain ⟨al, nl, cl⟩ := vl9
        obtain ⟨ae, ne, ce9⟩ := ve9
        have hnl := h.rs.ln
        have hne := h.rs.en
        simp only at hnl hne
        subst hnl hne
        have hE9 := HBE9.out
        have hml9 := members_len V9
        have hml8 : ((membersV V9).length : Int) ≤ 33 := by omega
        have hE8 : (V9.E.length : Int) ≤ 2000 := by omega
        clear hE9
        have mkS : Hid (∀ w', P2 w g V9 [] gx ⟨al, (membersV V9).length, cl⟩ ⟨ae, V9.E.length, ce9⟩ V9 w' → w'.cell? ⟨gx, 0, none⟩ = some (.slice al (membersV V9).length cl) ∧ P2 w g V9 [] gx ⟨al, (membersV V9).length, cl⟩ ⟨ae, V9.E.length, ce9⟩ V9 w') := fun w' hh => ⟨hh.rs.box.cell 0 _ rfl, hh⟩
        have PA := Lib.hid h.drew
        clear h
        go_upto_region 31 with fail
        go_region_held (fun w' => w'.cell? ⟨gx, 0, none⟩ = some (.slice al (membersV V9).length cl) ∧ P2 w g V9 [] gx ⟨al, (membersV V9).length, cl⟩ ⟨ae, V9.E.length, ce9⟩ V9 w') (first | exact mkS.out _ PA.out | exact mkS.out _ PB.out | exact mkS.out _ PC.out) (first | (go_at_call 20; refine (members_p PA.out).mono ?_; rintro e wm ⟨um, rfl, rdm, pb⟩; have PB := Lib.hid pb; have RM := Lib.hid rdm; clear pb rdm) | (go_at_call 19; refine (alike_any _ _ _ _ (membersV V9) _ RM.out PB.out.rs.rd (by omega)).mono ?_; rintro e wk ⟨rfl, bk⟩; have PC := Lib.hid (PB.out.keep bk)) | fail)
        clear mkS PA PB RM
        have K := live_p PC.out
        go_wp2_with fail
        refine K.mono ?_; rintro e w20 ⟨u20, rfl, r20, h⟩
        have K2 := live_x r20 h
        have hll : (liveV V9).length ≤ 33 := live_len V9 33
        clear K r20 h PC
        generalize hlv : (liveV V9).length = lv at *
        go_wp2_with fail
        refine K2.mono ?_; rintro e w21 ⟨u21, rfl, r21, r20, h⟩
        have K := same_at (o := true) (ca := u20.c) (cb := u21.c) r20 r21 (by omega) (by omega) (by simp)
        rw [hlv] at K
        clear K2 r20 r21
        go_wp2_with fail
        refine K.mono ?_; rintro e w22 ⟨rfl, b22⟩
        have h := h.keep b22
        have K2 := events_p h (by omega)
        have hel := last_len V9.E
        clear K b22 h hlv hll
        generalize hle : (lastE V9.E).length = el at *
        go_wp2_with fail
        refine K2.mono ?_; rintro e w23 ⟨u23, rfl, r23, h⟩
        have K := events_x r23 h (by omega)
        rw [hle] at K
        clear K2 r23 h
        go_wp2_with fail
        refine K.mono ?_; rintro e w24 ⟨u24, rfl, r24, r23, h⟩
        have K2 := sameE_any u23.a u23.c u24.a u24.c (lastE V9.E) w24 r23 r24 (by omega)
        rw [hle] at K2
        clear K r23 r24
        go_wp2_with fail
        refine K2.mono ?_; rintro e w25 ⟨rfl, b25⟩
        have h := h.keep b25
        have H := Lib.hid h
        have e1 := cell_regrown (h.rs.box.cell 1 _ rfl)
        have hvs := Lib.hid (h.ls.vs (g, V9) (by simp))
        have hwr := IntWalk.u64_in (V9.E.length : Int) ⟨by omega, by omega⟩
        have C : ∀ d os, Calls Try.prog 27 #[.pointer (some ⟨g, 0, none⟩)] (grow (redrawn w25 d) os) _ := fun d os => Calls.regrown_of ((seen_any g V9 (grow (redrawn w25 d) os) (hvs.out.keep (below_regrown w25 d os))).mono (fun e w' hh => ⟨hh.1, by rw [hh.2]; exact Below.refl _ _⟩))
        clear K2 b25 h hle hel
        go_upto_region 34 with fail
        (refine wp_region_quiet_below (by kernel_rfl) (by kernel_rfl) ?_; (repeat (go_big_quiet_step (first | with_reducible exact C _ _))); refine wpQuiet_nil ?_; intro _ hw'; obtain ⟨⟨dq, osq⟩, hw''⟩ := hw'; subst hw'')
        have HN := Lib.hid (H.out.keep (below_regrown w25 dq osq))
        clear e1 C hvs hwr H
        go_wp2
        go_roundw
        case rel => exact ⟨i + 1, V9, _, _, by go_num, HI.out, HBE9.out, HN.out⟩
        case measure => have := HI.out; simp [intOf]; omega
    · obtain rfl : i = m := by omega
      have HB := Lib.hid h.below
      have hend : ((i : Int) < len ∧ ¬ (i : Int) < 60) ∨ ¬ (i : Int) < len := by have := HM.out; omega
      clear h
      rcases hend with ⟨h1, h2⟩ | h1
      · have h3 : decide ((i : Int) < 60) = false := decide_eq_false h2
        go_wp2_with fail
        go_ret
        exact ⟨rfl, HB.out⟩
      · have h3 : decide ((i : Int) < len) = false := decide_eq_false h1
        go_wp2_with fail
        go_ret
        exact ⟨rfl, HB.out⟩
theorem plays_run (a : Option Addr) (len cap : Nat) (a1 : Option Addr) (len1 cap1 : Nat) (w : World) (h : ThingRow w a len cap) (h1 : ThingsRow w a1 len1 cap1) :
    Calls Try.prog 3 #[.slice a len cap, .slice a1 len1 cap1] w (PlPost w) := by
  obtain ⟨T, hT, hr, hok⟩ := things_list h (min len 60) (by omega)
  exact plays_walk a len cap (min len 60) T a1 len1 cap1 w rfl hT hr hok h.len h1
theorem viewPlays_own : ownKnob Try.prog.godebug = none := by kernel_rfl
theorem viewPlays_laid : laidOutB Try.prog = true := by kernel_rfl
set_option maxRecDepth 100000 in
theorem viewPlays_lifted (os : Os) (started : os.Started) (H : Type) (enc : TypeId × Value → H) :
    ReturnsInHanded {} Try.checked os 3 .any (Rows.viewPlaysSpec.pre6 enc Try.prog Try.f3 Rows.viewPlaysRow.domain false) (Rows.viewPlaysSpec.post enc Try.prog Try.f3 false true false false) := by
  refine returnsInHanded_of_change (C := Try.checked) viewPlays_own started (by kernel_rfl) Try.func3
    (ChangeSpec.witness6 (enc := enc) (C := Try.checked) false ⟨#[], #[.slice none 0 0, .slice none 0 0], []⟩ 8 (by kernel_rfl) (by kernel_rfl) (by kernel_rfl) (by kernel_rfl)) ?_
  intro W base args ds gs before hval0 hW hcnd _
  have hval : ∀ (j : Nat) t v, Try.f3.params[j]? = some t → args[j]? = some v → Value.okWide Try.prog W .any base t v := hval0
  have hW' := hW
  obtain ⟨p, q, hA0, hV, rfl, hfz, hnd⟩ := hW
  have hA : DataW.TrodAll enc Try.prog W 0 (fun _ => true) true Try.f3.params.toList args.toList ds p := hA0
  rw [Try.params3] at hA hval
  obtain ⟨v0, vs0, d0, ds0, p0, q0, hargs, rfl, rfl, h0, r0⟩ := trodAll_cons hA
  obtain ⟨v1, vs1, d1, ds1, p1, q1, rfl, rfl, rfl, h1, r1⟩ := trodAll_cons r0
  obtain ⟨rfl, rfl, rfl⟩ := trodAll_nil r1
  obtain rfl : args = #[v0, v1] := by cases args; simp_all
  obtain ⟨rfl, rfl⟩ := trodVars_none hV
  obtain ⟨a0, len0, cap0, rfl⟩ := okWide_slice Try.underlying22 (hval 0 22 v0 rfl rfl)
  have k0 := h0
  have lt0 : ∀ x ∈ p0, x.block < W.heap.size := by obtain ⟨m, hm⟩ := k0; exact DataW.trod_lt m _ _ _ hm
  have w0 : ThingRow W a0 len0 cap0 := by
    obtain ⟨fuel, hf⟩ := h0
    exact things_open hf
  obtain ⟨a1, len1, cap1, rfl⟩ := okWide_slice Try.underlying23 (hval 1 23 v1 rfl rfl)
  have k1 := h1
  have lt1 : ∀ x ∈ p1, x.block < W.heap.size := by obtain ⟨m, hm⟩ := k1; exact DataW.trod_lt m _ _ _ hm
  have w1 : ThingsRow W a1 len1 cap1 := by
    obtain ⟨fuel, hf⟩ := h1
    exact thingss_open hf
  clear hA0 hval0
  refine (plays_run a0 len0 cap0 a1 len1 cap1 W w0 w1).mono fun e W' ⟨he, bel⟩ => ?_
  subst he
  exact ⟨_, rfl, _, _, _, [], _, [], hW', trodAll_mk1 (shut_bool Try.underlying4 _), (trodAll_cons_mk (Below.trod viewPlays_laid (by kernel_rfl) (of_decide_eq_true (by kernel_rfl)) k0 bel lt0) (trodAll_cons_mk (Below.trod viewPlays_laid (by kernel_rfl) (of_decide_eq_true (by kernel_rfl)) k1 bel lt1) trodAll_mk0)), rfl, bel.frame _, fun h => by cases h⟩
theorem viewPlays_over : Rows.viewPlaysRow.holds Try.pinned (OpenSpec.ofChange Rows.viewPlaysSpec) :=
  OpenClaim.holds_of_wide 3 Try.f3 rfl rfl rfl rfl rfl rfl rfl ⟨rfl, rfl, rfl, rfl, rfl⟩ rfl rfl rfl rfl rfl (by kernel_rfl) Try.func3 (by kernel_rfl)
    (of_decide_eq_true (by kernel_rfl)) (by unfold Func.isWrapper; first | (rw [if_pos (by decide +kernel)]; kernel_rfl) | (rw [if_neg (by decide +kernel)]; exact ⟨rfl, rfl⟩))
    (fun os started H enc _ => viewPlays_lifted os started H enc)
theorem viewPlays_holds : Rows.ViewPlaysSaid := viewPlays_over
#print axioms viewPlays_holds
end Go.Proofs.Ytchhbhoikkdmeaa
