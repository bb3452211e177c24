/- ViewLive: Live are just those that are alive, or suspect; who is dead, or left, is known still: for every list of states. -/
import Derived.Test.YtchhbhoikkdmeaaViSame
import Derived.ChangeOld
import Derived.ChangeMaps5
import Derived.ShutString
import Derived.OpenShut
import Derived.SizedLaws
namespace Go.Proofs.Ytchhbhoikkdmeaa
open Go.Sort Go.RowKit Go.BigFrame Go.ChangeShapes Go.WideShapes Go.ChangeAt
open Go.ChangeMaps (open_string shut_string)
set_option linter.unusedVariables false
set_option linter.unusedSimpArgs false

theorem ArgRow.rd {k : IntKind} {w : World} {a : Option Addr} {len cap : Nat} {zs : List Int} (h : ArgRow k w a len cap zs) : Rd k w w.heap.size a (zs.take len) ∧ (zs.take len).length = len ∧ len ≤ cap ∧ cap ≤ 9223372036854775807 ∧ (a = none → len = 0 ∧ cap = 0) ∧ ∀ n ∈ zs.take len, (Lit.int k n).wf = true := by
  rcases h with ⟨rfl, rfl, rfl, rfl⟩ | ⟨x, rfl, hl, hm, hz, hc, hw⟩
  · exact ⟨Rd.nil _ _ _ _, rfl, by omega, by omega, fun _ => ⟨rfl, rfl⟩, by simp⟩
  · refine ⟨fun hp => ?_, by rw [List.length_take]; omega, hl, by unfold maxLen at hm; omega, (fun h => nomatch h), fun n hn => hw n (List.mem_of_mem_take hn)⟩
    rw [List.length_take] at hp
    obtain ⟨b, off, spot⟩ := x
    have h0 := hc 0 (by omega)
    have hs : spot = none := by simpa [Addr.add] using World.cell?_spot h0
    subst hs
    refine ⟨b, off, rfl, by simpa [Addr.add] using World.block_lt_of_cell? _ _ h0, fun i hi => ?_⟩
    rw [List.length_take] at hi
    have := hc i (by omega)
    rw [add_at] at this
    rw [this]
    simp [List.getD_eq_getElem?_getD, List.getElem?_take, show i < len by omega]
/-- the record of place j, by what the list holds there -/
def lvR (f : Nat → Int) (j : Nat) : Rec := ⟨((j + 1 : Nat) : Int), f j, 0, 3, 3⟩
theorem lvR_ok (f : Nat → Int) (j : Nat) : (lvR f j).Ok := ⟨by show (0 : Nat) < _; omega, by show (3 : Nat) < _; omega, by show (3 : Nat) < _; omega⟩
theorem lvR_right {f : Nat → Int} (hf : ∀ j, 0 ≤ f j ∧ f j < 4) {j : Nat} (h : j < 32) : (lvR f j).right = true := by
  have := hf j
  unfold Rec.right rightI stI noneI lvR
  simp only [Bool.and_eq_true, decide_eq_true_eq]
  refine ⟨by omega, by omega, rfl⟩
structure LvI (f : Nat → Int) (n : Nat) (v : Vw) : Prop where
  E : v.E.length ≤ n
  k : ∀ j, j < n → v.k (j + 1) = lvR f j
  no : ∀ j : Nat, n ≤ j → knows v ((j + 1 : Nat) : Int) = false
def wantL (f : Nat → Int) (n : Nat) : List Int := ((List.range n).filter fun j => decide (f j < 2)).map fun j : Nat => ((j + 1 : Nat) : Int)
theorem want_yes {f : Nat → Int} {n : Nat} (h : f n < 2) : wantL f (n + 1) = wantL f n ++ [((n + 1 : Nat) : Int)] := by
  unfold wantL; rw [List.range_succ, List.filter_append, List.map_append]; simp [h]
theorem want_no {f : Nat → Int} {n : Nat} (h : ¬ f n < 2) : wantL f (n + 1) = wantL f n := by
  unfold wantL; rw [List.range_succ, List.filter_append, List.map_append]; simp [h]
theorem want_len (f : Nat → Int) (n : Nat) : (wantL f n).length ≤ n := by
  unfold wantL; rw [List.length_map]
  have := List.length_filter_le (fun j => decide (f j < 2)) (List.range n)
  rw [List.length_range] at this; exact this
theorem lv_start (f : Nat → Int) : LvI f 0 newV := ⟨Nat.le_refl _, by intro j h; omega, fun j _ => knows_new _⟩
theorem lv_step {f : Nat → Int} (hf : ∀ j, 0 ≤ f j ∧ f j < 4) {n : Nat} {v : Vw} (h : LvI f n v) (hn : n < 32) : turns v (lvR f n) = true ∧ LvI f (n + 1) (takeV v (lvR f n)) := by
  have hid : (lvR f n).id.toNat = n + 1 := by show (((n + 1 : Nat) : Int)).toNat = _; omega
  have ht : turns v (lvR f n) = true := turns_new (lvR_right hf hn) (h.no n (Nat.le_refl _))
  refine ⟨ht, ?_⟩
  have hl := take_len v (lvR f n)
  rw [take_yes ht] at hl ⊢
  refine ⟨by have := h.E; omega, fun j hj => ?_, fun j hj => ?_⟩
  · show upd v.k (lvR f n).id.toNat (lvR f n) (j + 1) = _
    rw [hid]
    by_cases he : j = n
    · subst he; exact upd_same _ _ _
    · rw [upd_ne (by omega)]; exact h.k j (by omega)
  · have := h.no j (by omega)
    cases hh : knows (⟨upd v.k (lvR f n).id.toNat (lvR f n), noteE v (lvR f n)⟩ : Vw) ((j + 1 : Nat) : Int) with
    | false => rfl
    | true =>
      rw [knowsN_iff] at hh
      have h2 : (upd v.k (lvR f n).id.toNat (lvR f n) (j + 1)).right = true := hh.2.2
      rw [hid, upd_ne (by omega)] at h2
      rw [← this, eq_comm, knowsN_iff]
      exact ⟨hh.1, hh.2.1, h2⟩
theorem lv_all {f : Nat → Int} (hf : ∀ j, 0 ≤ f j ∧ f j < 4) {n : Nat} {v : Vw} (h : LvI f n v) (hn : n ≤ 32) : liveV v = wantL f n ∧ (membersV v).length = n := by
  have hy : ∀ m, m < n → knows v ((m + 1 : Nat) : Int) = true := fun m hm => by
    rw [knowsN_iff, h.k m hm]
    exact ⟨by omega, by omega, lvR_right hf (by omega)⟩
  have h1 : ∀ m, m ≤ n → liveTo v (m + 1) = wantL f m ∧ (memTo v (m + 1)).length = m := by
    intro m
    induction m with
    | zero =>
      intro _
      refine ⟨live_one v, ?_⟩
      have h0 : knows v (0 : Nat) = false := by
        cases hk : knows v (0 : Nat) with
        | false => rfl
        | true => rw [knowsN_iff] at hk; omega
      rw [mem_no h0]; rfl
    | succ m ih =>
      intro hm
      obtain ⟨i1, i2⟩ := ih (by omega)
      have hk := hy m (by omega)
      have hst : (v.k (m + 1)).st = f m := by rw [h.k m (by omega)]; rfl
      refine ⟨?_, by rw [mem_yes hk, List.length_append, i2]; rfl⟩
      have := hf m
      by_cases h2 : f m < 2
      · rw [live_yes hk (by unfold liveI; rw [hst]; simp; omega), i1, want_yes h2]
      · rw [live_not hk (by unfold liveI; rw [hst]; simp; omega), i1, want_no h2]
  have h3 : ∀ d, liveTo v (n + d + 1) = wantL f n ∧ (memTo v (n + d + 1)).length = n := by
    intro d
    induction d with
    | zero => exact h1 n (Nat.le_refl _)
    | succ d ih =>
      have hk := h.no (n + d) (by omega)
      exact ⟨by rw [show n + (d + 1) + 1 = n + d + 1 + 1 by omega, live_no hk]; exact ih.1, by rw [show n + (d + 1) + 1 = n + d + 1 + 1 by omega, mem_no hk]; exact ih.2⟩
  have := h3 (32 - n)
  rw [show n + (32 - n) + 1 = 33 by omega] at this
  exact this
def LvPost (w : World) (e : Ending) (w' : World) : Prop := e = .returned (.bool true) ∧ Below w.heap.size w w'
def LvLJ (f : Nat → Int) (n : Nat) (w0 : World) (g : Nat) (sv iv : Value) (wr : World) : Prop := ∃ (i : Nat) (v : Vw) (u : Sl), iv = .int .i64 (i : Nat) ∧ i ≤ n ∧ LvI f i v ∧ sv = .slice u.a (wantL f i).length u.c ∧ LS w0 [(g, v)] [iI u (wantL f i)] wr
theorem oI_n {w0 w : World} {V : List (Nat × Vw)} {R : List It} {u : Sl} {L : List Int} (h : LS w0 V (iI u L :: R) w) : u.n = L.length := erow_n (c := c64) (z := 1) (T := 3) (L := L) (h.row (r := iI u L) (by simp))
set_option maxHeartbeats 6400000 in
set_option maxRecDepth 20000 in
theorem live_walk (a : Option Addr) (len cap : Nat) (zs : List Int) (w : World) (hr : Rd .u8 w w.heap.size a zs) (hz : zs.length = len) (hlc : len ≤ 9223372036854775807) (hzb : ∀ z ∈ zs, 0 ≤ z ∧ z ≤ 255) :
    Calls Try.prog 8 #[.slice a len cap] w (LvPost w) := by
  have K0 := ex_any w
  obtain ⟨i0, hi0, hz0, hz1, hz2⟩ := info_parts info_int
  have HR := Lib.hid hr
  obtain ⟨n, hn⟩ : ∃ n, n = min len 32 := ⟨_, rfl⟩
  have hmin : (if (32 : Int) < (len : Int) then (32 : Int) else (len : Int)) = (n : Nat) := by split <;> omega
  have hn32 : n ≤ 32 := by omega
  have hnl : n ≤ len := by omega
  obtain ⟨f, hf⟩ : ∃ f : Nat → Int, f = fun j => zs.getD j 0 % 4 := ⟨_, rfl⟩
  have HF : Hid (∀ j, 0 ≤ f j ∧ f j < 4) := fun j => by rw [hf]; show 0 ≤ zs.getD j 0 % 4 ∧ zs.getD j 0 % 4 < 4; omega
  have HZ : Hid (∀ j, j < len → ∀ wr, Below w.heap.size w wr → ∃ b off z, a = some ⟨b, off, none⟩ ∧ wr.cell? ⟨b, off + j, none⟩ = some (.int .u8 z) ∧ 0 ≤ z ∧ z ≤ 255 ∧ z % 4 = f j) := fun j hj wr hb => by
    obtain ⟨b, off, e, hB, hc⟩ := (HR.out.below hb) (by omega)
    refine ⟨b, off, zs.getD j 0, e, hc j (by omega), ?_⟩
    have hm : zs.getD j 0 ∈ zs := by
      rw [List.getD_eq_getElem?_getD, List.getElem?_eq_getElem (by omega)]; exact List.getElem_mem _
    have := hzb _ hm
    exact ⟨this.1, this.2, by rw [hf]⟩
  clear hr hz hzb hf HR hn
  have hl2 : (len : Int) ≤ 9223372036854775807 := by omega
  go_enter Try.func8, Try.ntmps8
  go_wp2_with fail
  refine K0.mono ?_; rintro e w1 ⟨rfl, b1⟩
  have K := new_l (LS.start w w1 b1)
  clear K0 b1
  go_wp2_with fail
  refine K.mono ?_; rintro e w2 ⟨g, rfl, h⟩
  clear K
  have S0 : Hid (LvLJ f n w g (.slice none 0 0) (.int .i64 0) w2) := ⟨0, newV, ⟨none, 0, 0⟩, rfl, Nat.zero_le _, lv_start f, rfl, h.nil (World.ownsRow_nil _ _ _ _) rfl⟩
  clear h
  go_wp2_with fail
  go_loopw [5, 7] (fun sv iv wr => LvLJ f n w g sv iv wr) (fun _ iv _ => 400 - (intOf iv).toNat)
  case atStart => exact S0.out
  case round =>
    obtain ⟨i, v, u, rfl, hi, hI, rfl, h⟩ := hrel
    clear S0
    have hi0' : (0 : Int) ≤ i := by omega
    by_cases hlt : i < n
    · have hlt' : (i : Int) < n := by omega
      have hlen' : (i : Int) < len := by omega
      obtain ⟨b, off, z, rfl, c0, z0, z1, hzf⟩ := HZ.out i (by omega) wr h.below
      have HZ1 : Hid (∀ wx, Below w.heap.size w wx → wx.cell? ⟨b, off + i, none⟩ = some (.int .u8 z)) := fun wx hb => by
        obtain ⟨b', off', z', e, c0', _, _, hf'⟩ := HZ.out i (by omega) wx hb
        simp only [Option.some.injEq, Addr.mk.injEq, and_true] at e
        obtain ⟨rfl, rfl⟩ := e
        have hbl : b < w.heap.size := by
          rcases Nat.lt_or_ge b w.heap.size with h1 | h1
          · exact h1
          · exfalso
            obtain ⟨_, _, _, e2, c2, _⟩ := HZ.out i (by omega) w (Below.refl _ _)
            simp only [Option.some.injEq, Addr.mk.injEq, and_true] at e2
            obtain ⟨rfl, rfl⟩ := e2
            have := World.block_lt_of_cell? _ _ c2
            simp only at this; omega
        have e1 := (h.below.cell (p := ⟨b, off + i, none⟩) hbl)
        have e2 := (hb.cell (p := ⟨b, off + i, none⟩) hbl)
        rw [e2, ← e1]; exact c0
      obtain ⟨ht, hI2⟩ := lv_step HF.out hI (by omega)
      have hER := err_ok (lvR_right HF.out (j := i) (by omega))
      have TK := fun wx R (hx : LS w [(g, v)] R wx) => take_l (lvR f i) (lvR_ok f i) [] [] hx (by have := hI.E; omega)
      rw [ht, hER] at TK
      obtain ⟨V', hV'⟩ : ∃ V', takeV v (lvR f i) = V' := ⟨_, rfl⟩
      rw [hV'] at TK hI2
      have HI2 := Lib.hid hI2
      have HL : Hid (i + 1 ≤ n) := hlt
      have WY := want_yes (f := f) (n := i)
      have WN := want_no (f := f) (n := i)
      have WL := want_len f i
      simp only [lvR] at TK
      obtain ⟨q, hq⟩ : ∃ q, f i = q := ⟨_, rfl⟩
      rw [hq] at TK WY WN hzf
      rw [show (((i + 1 : Nat) : Int)) = (i : Int) + 1 by omega] at TK
      simp only [Int.ofNat_zero] at TK
      have hq0 : 0 ≤ q := by omega
      have hq1 : q < 4 := by omega
      have e1 : z.tmod 4 = q := by rw [tmod_pos _ _ z0]; exact hzf
      have w1' := IntWalk.i64_in q ⟨by omega, by omega⟩
      have w2' := IntWalk.i64_in ((i : Int) + 1) ⟨by omega, by omega⟩
      have hi300 : (i : Int) ≤ 32 := by omega
      replace TK := Lib.hid TK
      have BX := Lib.hid (h.alloc (.cells #[.int .i64 ((i : Int) + 1), .int .i64 q, .int .u32 0, .int .u32 3, .int .u16 3] 37))
      have X0 := Cs.new wr [.int .i64 ((i : Int) + 1), .int .i64 q, .int .u32 0, .int .u32 3, .int .u16 3] 37
      have x0 := X0.cell 0 _ rfl
      have x1 := X0.cell 1 _ rfl
      have x2 := X0.cell 2 _ rfl
      have x3 := X0.cell 3 _ rfl
      have x4 := X0.cell 4 _ rfl
      have xl := X0.lt
      have hone := c64_enc.one ((i : Int) + 1)
      clear ht hI hI2 hER h hV' X0 hq HZ
      go_upto_region 15 with fail
      clear c0
      generalize (wr.alloc (.cells #[.int .i64 ((i : Int) + 1), .int .i64 q, .int .u32 0, .int .u32 3, .int .u16 3] 37)) = wb at *
      have K := TK.out wb _ BX.out
      clear TK BX
      go_wp2_with fail
      refine K.mono ?_; rintro e w3 ⟨rfl, h⟩
      have h : LS w [(g, V')] [iI u (wantL f i)] w3 := h
      have c0 := HZ1.out w3 h.below
      have bl := World.block_lt_of_cell? _ _ c0
      simp only at bl
      have H := Lib.hid h
      clear K h x0 x1 x2 x3 x4 xl HZ1
      generalize wantL f i = L at *
      by_cases h2 : q < 2
      · have EQ := Lib.hid (WY (by omega))
        clear WY WN
        go_wp2_with (at_builtin; refine wpList_append_lies _ rfl (.tmp 50) (.tmp 53) 62 rfl 0 3 i0 _ 1 8 Try.underlying62 hi0 hz0 hz1 hz2 rfl (by omega) (.slice u.a L.length u.c) L.length (L.map c64).flatten rfl ?c0 ⟨_, 0, none⟩ 1 1 (c64 ((i : Int) + 1)) rfl rfl (World.news_of_block (cs := (c64 ((i : Int) + 1)).toArray) (t := 3) (fr := (0, 0)) (heap_alloc_new _ _)) hone (by omega) ?c2 ?c3 ?c4 _ rfl ?_)
        case c0 =>
          have := (H.out.alloc (.cells (c64 ((i : Int) + 1)).toArray 3)).row (r := iI u L) (by simp)
          have e := oI_n H.out
          unfold It.holds at this
          simp only [iI, Sl.v, e] at this
          exact this
        case c2 => unfold maxLen; omega
        case c3 => omega
        case c4 => exact Nat.zero_le _
        intro g1 cap1 w9 hown hgrow hat hlt9
        have hN := oI_n H.out
        have H9 : Hid (LS w [(g, V')] [iI ⟨some ⟨g1, 0, none⟩, L.length + 1, cap1⟩ (L ++ [((i + 1 : Nat) : Int)])] w9) := by
          have := LS.app (T := 3) (z := 1) (u := ⟨u.a, L.length, u.c⟩) (n := L.length) (xs := (L.map c64).flatten) (ys := c64 ((i : Int) + 1)) (R := []) (V := [(g, V')]) (by
            have := H.out
            obtain ⟨ua, un, uc⟩ := u
            simp only at hN
            subst hN
            exact this) hown hgrow (hat.imp id (fun h => by rw [h, World.size_alloc]))
          show LS _ _ _ _
          unfold iI
          rw [List.map_append, List.flatten_append, List.length_append]
          rw [show (((i + 1 : Nat) : Int)) = (i : Int) + 1 by omega]
          simpa using this
        clear hown hgrow hat H hN
        go_wp2
        go_roundw
        case rel => exact ⟨i + 1, V', ⟨some ⟨g1, 0, none⟩, L.length + 1, cap1⟩, by go_num, HL.out, HI2.out, by rw [EQ.out, List.length_append]; rfl, by rw [EQ.out]; exact H9.out⟩
        case measure => have := HL.out; simp [intOf]; omega
      · have EQ := Lib.hid (WN (by omega))
        have h3 : decide (q < 2) = false := decide_eq_false h2
        clear WY WN
        go_wp2_with fail
        go_roundw
        case rel => exact ⟨i + 1, V', u, by go_num, HL.out, HI2.out, by rw [EQ.out], by rw [EQ.out]; exact H.out⟩
        case measure => have := HL.out; simp [intOf]; omega
    · obtain rfl : i = n := by omega
      obtain ⟨a1, a2⟩ := lv_all HF.out hI hn32
      have HLn := want_len f i
      have K := live_l [] [] h
      rw [a1] at K
      have KO := fun wx R (hx : LS w [(g, v)] R wx) => of_l 0 [] [] hx
      have KP := fun wx R (hx : LS w [(g, v)] R wx) => of_l 33 [] [] hx
      have KM := fun wx R (hx : LS w [(g, v)] R wx) => members_l [] [] hx
      have k0 : knows v 0 = false := by cases hk : knows v 0 with | false => rfl | true => rw [knows_iff] at hk; omega
      have k33 : knows v 33 = false := by cases hk : knows v 33 with | false => rfl | true => rw [knows_iff] at hk; omega
      rw [k0, of_no k0] at KO
      rw [k33, of_no k33] at KP
      rw [a2] at KM
      have HO := Lib.hid KO
      have HP := Lib.hid KP
      have HM := Lib.hid KM
      clear KO KP KM k0 k33 a1 a2 h hI hlt HZ
      generalize wantL f i = L at *
      go_wp2_with fail
      refine K.mono ?_; rintro e w3 ⟨u2, rfl, h⟩
      have h : LS w [(g, v)] [iI u2 L, iI u L] w3 := h
      have KS := same_at (ca := u2.c) (cb := u.c) (h.rdI (u := u2) (L := L) (by simp)) (h.rdI (u := u) (L := L) (by simp)) (by omega) (by omega) (decide_eq_true rfl)
      have H := Lib.hid h
      clear K h
      go_wp2_with fail
      refine KS.mono ?_; rintro e w4 ⟨rfl, b4⟩
      have h := H.out.keep b4
      have KO := HO.out w4 _ h
      clear KS b4 H HO h
      go_wp2_with fail
      refine KO.mono ?_; rintro e w5 ⟨rfl, h⟩
      have h : LS w [(g, v)] [iI u2 L, iI u L] w5 := h
      have KP := HP.out _ _ (h.alloc (.cells #[.int .i64 zRec.id, .int .i64 zRec.st, .int .u32 zRec.n, .int .u32 zRec.ip, .int .u16 zRec.port] 37))
      clear KO HP h
      go_wp2_with fail
      refine KP.mono ?_; rintro e w6 ⟨rfl, h⟩
      have h : LS w [(g, v)] [iI u2 L, iI u L] w6 := h
      have KM := HM.out _ _ (h.alloc (.cells #[.int .i64 zRec.id, .int .i64 zRec.st, .int .u32 zRec.n, .int .u32 zRec.ip, .int .u16 zRec.port] 37))
      clear KP HM h
      go_wp2_with fail
      refine KM.mono ?_; rintro e w7 ⟨u3, rfl, h⟩
      have HB := Lib.hid h.below
      clear KM h
      go_wp2
      go_ret
      exact ⟨rfl, HB.out⟩
theorem live_run (a : Option Addr) (len cap : Nat) (zs : List Int) (w : World) (h : ArgRow .u8 w a len cap zs) : Calls Try.prog 8 #[.slice a len cap] w (LvPost w) := by
  obtain ⟨h1, h2, h3, h4, _, h6⟩ := h.rd
  exact live_walk a len cap _ w h1 h2 (by omega) (fun z hz => by have := bounds_u8 (h6 z hz); omega)
theorem viewLive_own : ownKnob Try.prog.godebug = none := by kernel_rfl
theorem viewLive_laid : laidOutB Try.prog = true := by kernel_rfl
set_option maxRecDepth 100000 in
theorem viewLive_lifted (os : Os) (started : os.Started) (H : Type) (enc : TypeId × Value → H) :
    ReturnsInHanded {} Try.checked os 8 .any (Rows.viewLiveSpec.pre6 enc Try.prog Try.f8 Rows.viewLiveRow.domain false) (Rows.viewLiveSpec.post enc Try.prog Try.f8 false true false false) := by
  refine returnsInHanded_of_change (C := Try.checked) viewLive_own started (by kernel_rfl) Try.func8
    (ChangeSpec.witness6 (enc := enc) (C := Try.checked) false ⟨#[], #[.slice none 0 0], []⟩ 8 (by kernel_rfl) (by kernel_rfl) (by kernel_rfl) (by kernel_rfl)) ?_
  intro W base args ds gs before hval0 hW hcnd _
  have hval : ∀ (j : Nat) t v, Try.f8.params[j]? = some t → args[j]? = some v → Value.okWide Try.prog W .any base t v := hval0
  have hW' := hW
  obtain ⟨p, q, hA0, hV, rfl, hfz, hnd⟩ := hW
  have hA : DataW.TrodAll enc Try.prog W 0 (fun _ => true) true Try.f8.params.toList args.toList ds p := hA0
  rw [Try.params8] at hA hval
  obtain ⟨v0, vs0, d0, ds0, p0, q0, hargs, rfl, rfl, h0, r0⟩ := trodAll_cons hA
  obtain ⟨rfl, rfl, rfl⟩ := trodAll_nil r0
  obtain rfl : args = #[v0] := by cases args; simp_all
  obtain ⟨rfl, rfl⟩ := trodVars_none hV
  obtain ⟨a0, len0, cap0, rfl⟩ := okWide_slice Try.underlying77 (hval 0 77 v0 rfl rfl)
  have k0 := h0
  have lt0 : ∀ x ∈ p0, x.block < W.heap.size := by obtain ⟨m, hm⟩ := k0; exact DataW.trod_lt m _ _ _ hm
  obtain ⟨z0, w0⟩ : ∃ zs, ArgRow .u8 W a0 len0 cap0 zs := by
    obtain ⟨fuel, hf⟩ := h0
    rcases open_ints Try.underlying77 Try.underlying5 (by kernel_rfl) hf with ⟨hcs, _⟩ | ⟨x, l, c, zs, hcs, _, hl, hm, hz, _, hcell, hwz⟩
    · simp [Value.cells] at hcs
      obtain ⟨rfl, rfl, rfl⟩ := hcs
      exact ⟨[], .inl ⟨rfl, rfl, rfl, rfl⟩⟩
    · simp [Value.cells] at hcs
      obtain ⟨rfl, rfl, rfl⟩ := hcs
      exact ⟨zs, .inr ⟨_, rfl, hl, hm, by simpa using hz, hcell, hwz⟩⟩
  clear hA0 hval0
  refine (live_run a0 len0 cap0 z0 W w0).mono fun e W' ⟨he, bel⟩ => ?_
  subst he
  exact ⟨_, rfl, _, _, _, [], _, [], hW', trodAll_mk1 (shut_bool Try.underlying4 _), (trodAll_cons_mk (Below.trod viewLive_laid (by kernel_rfl) (of_decide_eq_true (by kernel_rfl)) k0 bel lt0) trodAll_mk0), rfl, bel.frame _, fun h => by cases h⟩
theorem viewLive_over : Rows.viewLiveRow.holds Try.pinned (OpenSpec.ofChange Rows.viewLiveSpec) :=
  OpenClaim.holds_of_wide 8 Try.f8 rfl rfl rfl rfl rfl rfl rfl ⟨rfl, rfl, rfl, rfl, rfl⟩ rfl rfl rfl rfl rfl (by kernel_rfl) Try.func8 (by kernel_rfl)
    (of_decide_eq_true (by kernel_rfl)) (by unfold Func.isWrapper; first | (rw [if_pos (by decide +kernel)]; kernel_rfl) | (rw [if_neg (by decide +kernel)]; exact ⟨rfl, rfl⟩))
    (fun os started H enc _ => viewLive_lifted os started H enc)
theorem viewLive_holds : Rows.ViewLiveSaid := viewLive_over
#print axioms viewLive_holds
end Go.Proofs.Ytchhbhoikkdmeaa
