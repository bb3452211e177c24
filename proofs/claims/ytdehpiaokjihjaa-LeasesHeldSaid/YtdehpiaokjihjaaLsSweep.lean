/- The program's table: Sweep, Grant; the leases' Sweep. -/
import Derived.Test.YtdehpiaokjihjaaLsHeld
namespace Go.Proofs.Ytdehpiaokjihjaa
open Go.Sort Go.RowKit Go.BigFrame
set_option linter.unusedVariables false
set_option linter.unusedSimpArgs false

/-- the clients that are gone, of the first j -/
def goneL (L : List Vt) (now : Int) (j : Nat) : List Int := ((L.take j).filter (endS now)).map (·.who)
def goneT (L : List Vt) (k : Tb) (now : Int) (j : Nat) : Tb := (L.take j).foldl (dropS now) k
theorem goneL_yes {L : List Vt} {now : Int} {j : Nat} (hj : j < L.length) (h : L[j].tm ≤ now) : goneL L now (j + 1) = goneL L now j ++ [L[j].who] := by
  unfold goneL
  rw [List.take_succ_eq_append_getElem hj, List.filter_append, List.filter_cons_of_pos (by unfold endS; simpa using h)]; simp
theorem goneL_no {L : List Vt} {now : Int} {j : Nat} (hj : j < L.length) (h : ¬ L[j].tm ≤ now) : goneL L now (j + 1) = goneL L now j := by
  unfold goneL
  rw [List.take_succ_eq_append_getElem hj, List.filter_append, List.filter_cons_of_neg (by unfold endS; simpa using h)]; simp
theorem goneT_succ {L : List Vt} {k : Tb} {now : Int} {j : Nat} (hj : j < L.length) : goneT L k now (j + 1) = dropS now (goneT L k now j) L[j] := by
  unfold goneT
  rw [List.take_succ_eq_append_getElem hj, List.foldl_append]; rfl
theorem goneL_len (L : List Vt) (now : Int) (j : Nat) : (goneL L now j).length ≤ L.length := by
  unfold goneL
  rw [List.length_map]
  exact Nat.le_trans (List.length_filter_le _ _) (List.length_take_le' _ _)
def SwPost (g : Nat) (k : Tb) (now : Int) (w : World) (e : Ending) (w' : World) : Prop := ∃ u : Sl, e = .returned (.slice u.a u.n u.c) ∧ NewE c64 1 3 (sweepL k now) w u w' ∧ TAft g (sweepD k now) w w'
/-- a sweep on its way: who is gone, the clients that are gone through -/
structure SwS (g : Nat) (k' : Tb) (L : List Vt) (E : List Int) (w : World) (a : Option Addr) (cap : Nat) (sv : Value) (wr : World) : Prop where
  row : ERow c64 1 3 wr sv E
  aft : TAft g k' w wr
  own : ∀ b, sv.ownBlock = some b → w.heap.size ≤ b
  cls : ERow cv 4 44 wr (.slice a L.length cap) L
  cown : ∀ b, (Value.slice a L.length cap).ownBlock = some b → w.heap.size ≤ b
  gl : g < w.heap.size
section
variable {g : Nat} {k' k2 : Tb} {L : List Vt} {E E' : List Int} {w wr w' : World} {a : Option Addr} {cap : Nat} {sv sv' : Value}
theorem SwS.keep (h : SwS g k' L E w a cap sv wr) (hb : Below wr.heap.size wr w') : SwS g k' L E w a cap sv w' := ⟨erow_keep h.row hb, h.aft.then_ hb, h.own, erow_keep h.cls hb, h.cown, h.gl⟩
theorem SwS.rel (h : SwS g k' L E w a cap sv wr) (ht : TAft g k2 wr w') : SwS g k2 L E w a cap sv w' := by
  refine ⟨erow_touch h.row ht.2 (fun b hb e => ?_), ⟨ht.1, h.aft.2.trans ht.2 (fun _ _ h => h)⟩, h.own, erow_touch h.cls ht.2 (fun b hb e => ?_), h.cown, h.gl⟩
  · have h1 := h.own b hb; have h2 := h.gl; have e' : b = g := e; omega
  · have h1 := h.cown b hb; have h2 := h.gl; have e' : b = g := e; omega
theorem SwS.app (h : SwS g k' L E w a cap sv wr) (hg : wr.grownBy w' sv.ownBlock) (hr : ERow c64 1 3 w' sv' E') (ho : ∀ b, sv'.ownBlock = some b → w.heap.size ≤ b) : SwS g k' L E' w a cap sv' w' := by
  have T : Touch (fun b => sv.ownBlock = some b) wr w' := Touch.of_grown hg (fun _ h => h)
  refine ⟨hr, ⟨h.aft.1.touch T (fun e => ?_), h.aft.2.trans T (fun b hb e => ?_)⟩, ho, erow_touch h.cls T (fun b hb e => rows_apart h.row h.cls (by decide) e hb), h.cown, h.gl⟩
  · have h1 := h.own g e; have h2 := h.gl; omega
  · have h1 := h.own b e; omega
end
def SwJ (g : Nat) (L : List Vt) (k : Tb) (now : Int) (w : World) (a : Option Addr) (cap : Nat) (sv iv : Value) (wr : World) : Prop :=
  ∃ j : Nat, j ≤ L.length ∧ iv = .int .i64 (j : Nat) ∧ SwS g (goneT L k now j) L (goneL L now j) w a cap sv wr
set_option maxHeartbeats 6400000 in
set_option maxRecDepth 20000 in
theorem sweep_any (now : Int) (g : Nat) (k : Tb) (w : World) (h : Ts g k w) :
    Calls Try.prog 9 #[.pointer (some ⟨g, 0, none⟩), .int .u64 now] w (SwPost g k now w) := by
  obtain ⟨i0, hi0, hz0, hz1, hz2⟩ := info_parts info_int
  have K := clients_any g k w h
  have H := Lib.hid h
  have glt := h.lt
  clear h
  go_enter Try.func9, Try.ntmps9
  go_wp2_with fail
  refine K.mono ?_; rintro e w1 ⟨u, rfl, ⟨q1, q2, q3⟩, b1⟩
  obtain ⟨ua, un, uc⟩ := u
  simp only at q2
  subst q2
  have hl33 : (allV k.cl).length ≤ 33 := all_len k.cl
  have J0 : Hid (SwJ g (allV k.cl) k now w ua uc (.slice none 0 0) (.int .i64 (0 : Nat)) w1) := ⟨0, Nat.zero_le _, rfl, erow_nil, H.out.same b1, fun b hb => by simp [Value.ownBlock] at hb, q1, q3, glt⟩
  have FIN : Hid (goneL (allV k.cl) now (allV k.cl).length = sweepL k now ∧ goneT (allV k.cl) k now (allV k.cl).length = sweepD k now) := by
    constructor
    · unfold goneL sweepL; rw [List.take_length]
    · unfold goneT sweepD; rw [List.take_length]
  have HLE := Lib.hid (goneL_len (allV k.cl) now)
  clear K q1 q3 b1
  generalize allV k.cl = L at *
  have hl2 : (L.length : Int) ≤ 33 := by omega
  go_wp2_with fail
  go_loopw [5, 7, 11] (fun sv pv iv wr => SwJ g L k now w ua uc sv iv wr) (fun _ _ iv _ => L.length - (intOf iv).toNat)
  case atStart => exact J0.out
  case round =>
    obtain ⟨j, hj, rfl, hS⟩ := hrel
    clear J0
    generalize u5 = sv at *
    have hj0 : (0 : Int) ≤ j := by omega
    have HS := Lib.hid hS
    clear hS
    by_cases hlt : j < L.length
    · have hlt2 : (j : Int) < L.length := by omega
      obtain ⟨b, off, hbo, hbl, hcc⟩ := (erow_rd cv_enc HS.out.cls) (by omega)
      subst hbo
      have hpx : L[j]? = some L[j] := List.getElem?_eq_getElem hlt
      have c0 := hcc j _ hpx 0 _ rfl
      have c1 := hcc j _ hpx 1 _ rfl
      have c2 := hcc j _ hpx 2 _ rfl
      have c3 := hcc j _ hpx 3 _ rfl
      have EY := goneL_yes (now := now) hlt
      have EN := goneL_no (now := now) hlt
      have ET := goneT_succ (k := k) (now := now) hlt
      have HI1 : Hid (j + 1 ≤ L.length) := hlt
      have gll := Nat.le_trans (HLE.out j) hl33
      clear hcc hpx
      generalize L[j] = x at *
      obtain ⟨x1, x2, x3, x4⟩ := x
      simp only [Nat.add_zero] at c0 c1 c2 c3 EY EN
      unfold dropS at ET
      simp only at ET
      have X2 : Hid (Cs wr.heap.size [.int .i64 x1, .int .u32 x2, .int .u16 x3, .int .u64 x4] (wr.alloc (.cells #[.int .i64 x1, .int .u32 x2, .int .u16 x3, .int .u64 x4] 44))) := Cs.new wr _ _
      have XN : Hid (∀ b, sv.ownBlock = some b → b ≠ wr.heap.size) := fun b hb e => by have := erow_lt HS.out.row hb; omega
      have HSZ : Hid (w.heap.size ≤ wr.heap.size) := HS.out.aft.2.size
      have S2 := Lib.hid (HS.out.keep ((Below.refl wr.heap.size wr).alloc (Nat.le_refl _) (.cells #[.int .i64 x1, .int .u32 x2, .int .u16 x3, .int .u64 x4] 44)))
      clear HS H FIN HLE
      go_upto_region 5 with fail
      generalize (wr.alloc (.cells #[.int .i64 x1, .int .u32 x2, .int .u16 x3, .int .u64 x4] 44)) = w2 at *
      generalize wr.heap.size = xb at *
      have k0 := X2.out.cell 0 _ rfl
      have k3 := X2.out.cell 3 _ rfl
      have kl := X2.out.lt
      clear c0 c1 c2 c3
      by_cases ht : x4 ≤ now
      · rw [if_pos ht] at ET
        have EQ := Lib.hid (EY ht)
        have ETQ := Lib.hid ET
        have ht2 : decide (x4 ≤ now) = true := decide_eq_true ht
        clear EY EN ET
        go_wp2_with (at_builtin; refine wpList_append_lies _ rfl (.tmp 19) (.tmp 22) 35 rfl 0 3 i0 _ 1 8 Try.underlying35 hi0 hz0 hz1 hz2 rfl (by omega) sv (goneL L now j).length ((goneL L now j).map c64).flatten rfl (S2.out.keep ((Below.refl _ _).alloc (Nat.le_refl _) _)).row ⟨_, 0, none⟩ 1 1 (c64 x1) rfl rfl (World.news_of_block (cs := (c64 x1).toArray) (t := 3) (fr := (0, 0)) (heap_alloc_new _ _)) (c64_enc.one _) (by omega) ?c2 ?c3 ?c4 _ rfl ?_)
        case c2 => unfold maxLen; omega
        case c3 => omega
        case c4 => exact Nat.zero_le _
        intro g1 cap1 w9 hown hgrow hat hlt9
        have S3 := Lib.hid (S2.out.keep ((Below.refl _ _).alloc (Nat.le_refl _) (.cells (c64 x1).toArray 3)))
        have fin : Hid (ERow c64 1 3 w9 (.slice (some ⟨g1, 0, none⟩) ((goneL L now j).length + 1) cap1) (goneL L now (j + 1))) := by
          rw [EQ.out]; exact erow_snoc rfl hown
        have hov : ∀ b, (Value.slice (some ⟨g1, 0, none⟩) ((goneL L now j).length + 1) cap1).ownBlock = some b → w.heap.size ≤ b := fun b hb => by
          obtain rfl : g1 = b := by injection hb
          rcases hat with h | h
          · exact S3.out.own _ h
          · have := S2.out.aft.2.size; rw [h]; simp; omega
        have S4 := Lib.hid (S3.out.app hgrow fin.out hov)
        have X3 : Hid (Cs xb [.int .i64 x1, .int .u32 x2, .int .u16 x3, .int .u64 x4] w9) := (X2.out.alloc _).touch (Touch.of_grown hgrow (F := fun b => sv.ownBlock = some b) (fun _ h => h)) (fun e => XN.out _ e rfl)
        have K := rel_any x1 g _ w9 S4.out.aft.1
        have k0 := X3.out.cell 0 _ rfl
        have kl := X3.out.lt
        clear k3 fin hov hown hgrow hat S2 S3 X2
        go_wp2_with fail
        refine K.mono ?_; rintro e w3 ⟨rfl, ta⟩
        have S5 : Hid (SwS g (goneT L k now (j + 1)) L (goneL L now (j + 1)) w (some ⟨b, off, none⟩) uc (.slice (some ⟨g1, 0, none⟩) ((goneL L now j).length + 1) cap1) w3) := by
          rw [ETQ.out]; exact S4.out.rel ta
        clear K ta S4
        go_wp2
        go_roundw
        case rel => exact ⟨j + 1, HI1.out, by go_num, S5.out⟩
        case measure => simp [intOf]; omega
      · rw [if_neg ht] at ET
        have ht2 : decide (x4 ≤ now) = false := decide_eq_false ht
        have S5 : Hid (SwS g (goneT L k now (j + 1)) L (goneL L now (j + 1)) w (some ⟨b, off, none⟩) uc sv w2) := by
          rw [ET, EN ht]; exact S2.out
        clear EY EN ET
        go_wp2
        go_roundw
        case rel => exact ⟨j + 1, HI1.out, by go_num, S5.out⟩
        case measure => simp [intOf]; omega
    · obtain rfl : j = L.length := by omega
      obtain ⟨a, cap2, hsv⟩ := erow_sl HS.out.row
      subst hsv
      have HS2 := HS.out
      rw [FIN.out.1, FIN.out.2] at HS2
      have F : Hid (NewE c64 1 3 (sweepL k now) w ⟨a, (sweepL k now).length, cap2⟩ wr ∧ TAft g (sweepD k now) w wr) := by
        have e := FIN.out.1
        exact ⟨⟨HS2.row, rfl, HS2.own⟩, HS2.aft⟩
      rw [FIN.out.1]
      clear HS HS2 FIN
      generalize (sweepL k now).length = n at *
      go_wp2
      go_ret
      exact ⟨⟨a, n, cap2⟩, rfl, F.out.1, F.out.2⟩
end Go.Proofs.Ytdehpiaokjihjaa
