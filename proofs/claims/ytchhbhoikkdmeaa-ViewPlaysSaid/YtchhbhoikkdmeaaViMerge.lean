/- The program's view: Merge. -/
import Derived.Test.YtchhbhoikkdmeaaViLive
namespace Go.Proofs.Ytchhbhoikkdmeaa
open Go.Sort Go.RowKit Go.BigFrame
set_option linter.unusedVariables false
set_option linter.unusedSimpArgs false

def MergePost (g : Nat) (v : Vw) (L : List Rec) (w : World) (e : Ending) (w' : World) : Prop :=
  ∃ u : Sl, e = .returned (.tuple #[.slice u.a u.n u.c, .int .i64 (mergeE L)]) ∧ NewE rcs 5 37 (mergeL v L) w u w' ∧ VAft g (mergeV v L) w w'
theorem merge_bad {L : List Rec} (h : rightL L = false) (v : Vw) : mergeE L = 1 ∧ mergeL v L = [] ∧ mergeV v L = v := by
  unfold mergeE mergeL mergeV; rw [if_neg (by simp [h]), if_neg (by simp [h]), if_neg (by simp [h])]; exact ⟨rfl, rfl, rfl⟩
theorem merge_good {L : List Rec} (h : rightL L = true) (v : Vw) : mergeE L = 0 ∧ mergeL v L = turnedL v L ∧ mergeV v L = foldV v L := by
  unfold mergeE mergeL mergeV; rw [if_pos h, if_pos h, if_pos h]; exact ⟨rfl, rfl, rfl⟩
def Mg1J (L : List Rec) (w : World) (iv : Value) (wr : World) : Prop := ∃ i : Nat, iv = .int .i64 (i : Nat) ∧ i ≤ L.length ∧ rightL (L.take i) = true ∧ Below w.heap.size w wr
structure MgR (g : Nat) (v : Vw) (L : List Rec) (w : World) (i : Nat) (sv : Value) (wr : World) : Prop where
  vs : Vs g (foldV v (L.take i)) wr
  touch : Touch (fun k => k = g) w wr
  row : ERow rcs 5 37 wr sv (turnedL v (L.take i))
  own : ∀ k, sv.ownBlock = some k → w.heap.size ≤ k
def Mg2J (g : Nat) (v : Vw) (L : List Rec) (w : World) (sv iv : Value) (wr : World) : Prop := ∃ i : Nat, iv = .int .i64 (i : Nat) ∧ i ≤ L.length ∧ MgR g v L w i sv wr
set_option maxHeartbeats 3200000 in
set_option maxRecDepth 100000 in
theorem merge_any (a : Option Addr) (cap : Nat) (L : List Rec) (g : Nat) (v : Vw) (w : World) (h : Vs g v w) (hr : RdE rcs 5 w a L) (hag : ∀ b off, a = some ⟨b, off, none⟩ → b ≠ g) (hL : ∀ r ∈ L, r.Ok) (hl : L.length ≤ 1000) (hE : v.E.length + L.length < 1000000) :
    Calls Try.prog 17 #[.pointer (some ⟨g, 0, none⟩), .slice a L.length cap] w (MergePost g v L w) := by
  obtain ⟨i0, hi0, hz0, hz1, hz2⟩ := info_parts info_rec
  have HV := Lib.hid h
  have HR := Lib.hid hr
  have HG := Lib.hid hag
  have HL := Lib.hid hL
  have HE := Lib.hid hE
  have gl := h.lt
  have hl2 : (L.length : Int) ≤ 1000 := by omega
  clear h hr hag hL hE
  go_enter Try.func17, Try.ntmps17
  go_wp2_with fail
  go_loopw [15] (fun iv wr => Mg1J L w iv wr) (fun i _ => L.length - (intOf i).toNat)
  case atStart => exact ⟨0, rfl, Nat.zero_le _, rfl, Below.refl _ _⟩
  case round =>
    obtain ⟨i, rfl, hi, hri, hb⟩ := hrel
    have hi0' : (0 : Int) ≤ i := by omega
    have HB := Lib.hid hb
    by_cases hlt : i < L.length
    · have hlt' : (i : Int) < L.length := by omega
      have hx : L[i]? = some L[i] := List.getElem?_eq_getElem hlt
      obtain ⟨b, off, rfl, hbl, hcc⟩ := (HR.out.keep hb) (by omega)
      have c0 := hcc i _ hx 0 _ rfl
      have c1 := hcc i _ hx 1 _ rfl
      have c2 := hcc i _ hx 2 _ rfl
      have c3 := hcc i _ hx 3 _ rfl
      have c4 := hcc i _ hx 4 _ rfl
      simp only [Nat.add_zero] at c0
      have ok := HL.out _ (List.getElem_mem hlt)
      have K := right_any L[i].id L[i].st L[i].n L[i].ip L[i].port ok.ip ok.port
      have KY := right_snoc L i _ hx
      have KN := right_not L i _ hx
      rw [hri] at KY
      have KQ : L[i].right = rightI L[i].id L[i].st L[i].ip L[i].port := rfl
      rw [← KQ] at K
      clear hcc hx hri ok KQ
      generalize L[i] = r at *
      have X : Hid (Cs wr.heap.size (rcs r) (wr.alloc (.cells #[.int .i64 r.id, .int .i64 r.st, .int .u32 r.n, .int .u32 r.ip, .int .u16 r.port] 37))) := Cs.new wr (rcs r) 37
      have x0 := X.out.cell 0 _ rfl
      have x1 := X.out.cell 1 _ rfl
      have x2 := X.out.cell 2 _ rfl
      have x3 := X.out.cell 3 _ rfl
      have x4 := X.out.cell 4 _ rfl
      have xl := X.out.lt
      replace HB : Hid (Below w.heap.size w (wr.alloc (.cells #[.int .i64 r.id, .int .i64 r.st, .int .u32 r.n, .int .u32 r.ip, .int .u16 r.port] 37))) := hb.alloc hb.size _
      generalize r.right = q at *
      have HI : Hid (i + 1 ≤ L.length) := hlt
      go_upto_region 4 with fail
      clear hb c0 c1 c2 c3 c4 X
      generalize (wr.alloc (.cells #[.int .i64 r.id, .int .i64 r.st, .int .u32 r.n, .int .u32 r.ip, .int .u16 r.port] 37)) = wb at *
      cases q with
      | true =>
        replace KY := Lib.hid KY
        clear KN
        go_wp2_with fail
        refine (K _).mono ?_; rintro e w1 ⟨rfl, b1⟩
        have HB1 := Lib.hid (HB.out.trans (b1.mono HB.out.size))
        clear K b1 HB
        go_wp2
        go_roundw
        case rel => exact ⟨i + 1, by go_num, HI.out, KY.out, HB1.out⟩
        case measure => have := HI.out; simp [intOf]; omega
      | false =>
        replace KN := Lib.hid (KN rfl)
        clear KY
        go_wp2_with fail
        refine (K _).mono ?_; rintro e w1 ⟨rfl, b1⟩
        have HB1 := Lib.hid (HB.out.trans (b1.mono HB.out.size))
        clear K b1 HB
        obtain ⟨e1, e2, e3⟩ := merge_bad KN.out v
        have F : Hid (MergePost g v L w (.returned (.tuple #[.slice none 0 0, .int .i64 1])) w1) := ⟨⟨none, 0, 0⟩, by rw [e1], by rw [e2]; exact ⟨erow_nil, rfl, fun b hb => by simp [Sl.v, Value.ownBlock] at hb⟩, by rw [e3]; exact HV.out.same HB1.out⟩
        clear e1 e2 e3
        go_wp2
        refine bodyPost_ret (v := (.tuple #[.slice none 0 0, .int .i64 1])) (by simp [results, Try.results17, go_sem, *]) rfl ?_
        exact F.out
    · obtain rfl : i = L.length := by omega
      rw [List.take_length] at hri
      have HW := Lib.hid (HV.out.keep hb)
      obtain ⟨e1, e2, e3⟩ := merge_good hri v
      have E1 := Lib.hid e1
      have E2 := Lib.hid e2
      have E3 := Lib.hid e3
      have S0 : Hid (Mg2J g v L w (.slice none 0 0) (.int .i64 0) wr) := ⟨0, rfl, Nat.zero_le _, HW.out, Touch.of_below _ hb, erow_nil, fun k hk => by simp [Value.ownBlock] at hk⟩
      clear e1 e2 e3 hri hb HB HW hi hlt
      go_wp2_with fail
      go_loopw [8, 25] (fun sv iv wr => Mg2J g v L w sv iv wr) (fun _ i _ => L.length - (intOf i).toNat)
      case atStart => exact S0.out
      case round =>
        obtain ⟨i, rfl, hi, hM⟩ := hrel
        clear S0
        generalize u8 = sv at *
        have HM := Lib.hid hM
        clear hM
        have hi0'' : (0 : Int) ≤ i := by omega
        by_cases hlt : i < L.length
        · have hlt' : (i : Int) < L.length := by omega
          have hx : L[i]? = some L[i] := List.getElem?_eq_getElem hlt
          obtain ⟨b, off, rfl, hbl, hcc⟩ := (HR.out.touch HM.out.touch (fun b off e => HG.out b off e)) (by omega)
          have c0 := hcc i _ hx 0 _ rfl
          have c1 := hcc i _ hx 1 _ rfl
          have c2 := hcc i _ hx 2 _ rfl
          have c3 := hcc i _ hx 3 _ rfl
          have c4 := hcc i _ hx 4 _ rfl
          simp only [Nat.add_zero] at c0
          have ok := HL.out _ (List.getElem_mem hlt)
          have EF := Lib.hid (fold_snoc v L i _ hx)
          have ET := Lib.hid (turned_snoc v L i _ hx)
          have HI : Hid (i + 1 ≤ L.length) := hlt
          have hone := rcs_enc.one L[i]
          have htl : (turnedL v (L.take i)).length ≤ 1000 := by
            have := turned_len (L.take i) v
            rw [List.length_take] at this; omega
          have HW1 : Hid (∀ r : Rec, r.Ok → ∀ w1, Vs g (foldV v (L.take i)) w1 → Calls Try.prog 12 #[.pointer (some ⟨g, 0, none⟩), .agg #[.int .i64 r.id, .int .i64 r.st, .int .u32 r.n, .int .u32 r.ip, .int .u16 r.port]] w1 (TakePost g (foldV v (L.take i)) r w1)) := fun r hr w1 h1 => take_any r hr g _ w1 h1 (by
            have := fold_len (L.take i) v
            have hh := HE.out
            rw [List.length_take] at this; omega)
          have K := HW1.out _ ok
          clear hcc hx HW1
          generalize hr : L[i] = r at *
          have X : Hid (Cs wr.heap.size (rcs r) (wr.alloc (.cells #[.int .i64 r.id, .int .i64 r.st, .int .u32 r.n, .int .u32 r.ip, .int .u16 r.port] 37))) := Cs.new wr (rcs r) 37
          have x0 := X.out.cell 0 _ rfl
          have x1 := X.out.cell 1 _ rfl
          have x2 := X.out.cell 2 _ rfl
          have x3 := X.out.cell 3 _ rfl
          have x4 := X.out.cell 4 _ rfl
          have xl := X.out.lt
          have HB : Hid (Below wr.heap.size wr (wr.alloc (.cells #[.int .i64 r.id, .int .i64 r.st, .int .u32 r.n, .int .u32 r.ip, .int .u16 r.port] 37))) := (Below.refl _ _).alloc (Nat.le_refl _) _
          have M1 : Hid (MgR g v L w i sv (wr.alloc (.cells #[.int .i64 r.id, .int .i64 r.st, .int .u32 r.n, .int .u32 r.ip, .int .u16 r.port] 37))) :=
            ⟨HM.out.vs.keep HB.out, HM.out.touch.trans (Touch.of_below (fun k => k = g) HB.out) (fun _ _ h => h), erow_keep HM.out.row HB.out, HM.out.own⟩
          have xg : Hid (wr.heap.size ≠ g) := fun e => by have := HM.out.vs.lt; omega
          go_upto_region 11 with fail
          clear c0 c1 c2 c3 c4 HM HB hr
          have K := K (wr.alloc (.cells #[.int .i64 r.id, .int .i64 r.st, .int .u32 r.n, .int .u32 r.ip, .int .u16 r.port] 37)) M1.out.vs
          obtain ⟨bx, hbx⟩ : ∃ bx, bx = wr.heap.size := ⟨_, rfl⟩
          rw [← hbx] at X xg x0 x1 x2 x3 x4 xl
          simp only [← hbx]
          generalize (wr.alloc (.cells #[.int .i64 r.id, .int .i64 r.st, .int .u32 r.n, .int .u32 r.ip, .int .u16 r.port] 37)) = wb at *
          clear hbx
          unfold TakePost at K
          generalize hV : foldV v (L.take i) = V at *
          generalize hT : turnedL v (L.take i) = T at *
          have HVe := Lib.hid hV
          have HTe := Lib.hid hT
          clear hV hT
          cases hq : turns V r with
          | true =>
            rw [hq] at K
            have ET2 : Hid (turnedL v (L.take (i + 1)) = T ++ [r]) := by rw [hq] at ET; exact ET.out
            clear ET hq
            go_wp2_with fail
            refine K.mono ?_; rintro e w1 ⟨rfl, af⟩
            have X1 := X.out.touch af.2 xg.out
            have RW := M1.out.row
            rw [HTe.out] at RW
            have R1 : Hid (ERow rcs 5 37 w1 sv T) := erow_touch RW af.2 (fun k hk e => by have := M1.out.own k hk; omega)
            have T1 : Hid (Touch (fun k => k = g) w w1) := M1.out.touch.trans af.2 (fun _ _ h => h)
            have V1 := Lib.hid af.1
            have OW := Lib.hid M1.out.own
            clear x0 x1 x2 x3 x4 xl K af M1 X RW
            have x0 := X1.cell 0 _ rfl
            have x1 := X1.cell 1 _ rfl
            have x2 := X1.cell 2 _ rfl
            have x3 := X1.cell 3 _ rfl
            have x4 := X1.cell 4 _ rfl
            have xl := X1.lt
            clear X1
            go_wp2_with (at_builtin; refine wpList_append_lies _ rfl (.tmp 36) (.tmp 38) 54 rfl 0 37 i0 _ 5 32 Try.underlying54 hi0 hz0 hz1 hz2 rfl (by omega) sv T.length (T.map rcs).flatten rfl (erow_keep R1.out ((Below.refl _ _).alloc (Nat.le_refl _) _)) ⟨_, 0, none⟩ 1 1 (rcs r) rfl rfl (World.news_of_block (cs := (rcs r).toArray) (t := 37) (fr := (0, 0)) (heap_alloc_new _ _)) hone (by omega) ?c2 ?c3 ?c4 _ rfl ?_)
            case c2 => unfold maxLen; omega
            case c3 => omega
            case c4 => exact Nat.zero_le _
            intro g1 cap1 w9 hown hgrow hat hlt9
            have tg : Touch (fun k => sv.ownBlock = some k) w1 w9 := ((Touch.refl _ w1).alloc _).trans (Touch.of_grown (F := fun k => sv.ownBlock = some k) hgrow (fun k hk => hk)) (fun _ _ h => h)
            have fin : Hid (MgR g v L w (i + 1) (.slice (some ⟨g1, 0, none⟩) (T.length + 1) cap1) w9) := by
              refine ⟨?_, ?_, ?_, fun k hk => ?_⟩
              · rw [EF.out]; exact V1.out.touch tg (fun e => by have := OW.out g e; omega)
              · exact ⟨tg.os.trans T1.out.os, tg.tape.trans T1.out.tape, tg.output.trans T1.out.output, Nat.le_trans T1.out.size tg.size, fun k hk hn => (tg.block k (Nat.lt_of_lt_of_le hk T1.out.size) (fun e => by have := OW.out k e; omega)).trans (T1.out.block k hk hn)⟩
              · rw [ET2.out]; exact erow_snoc rfl hown
              · obtain rfl : g1 = k := by injection hk
                rcases hat with h | h
                · exact OW.out _ h
                · rw [h]; have := T1.out.size; simp; omega
            clear hown hgrow hat tg x0 x1 x2 x3 x4 xl
            go_wp2
            go_roundw
            case rel => exact ⟨i + 1, by go_num, HI.out, fin.out⟩
            case measure => have := HI.out; simp [intOf]; omega
          | false =>
            rw [hq] at K
            have ET2 : Hid (turnedL v (L.take (i + 1)) = T) := by
              have := ET.out
              rw [hq] at this
              exact (show turnedL v (L.take (i + 1)) = T by simpa using this)
            clear ET hq
            go_wp2_with fail
            refine K.mono ?_; rintro e w1 ⟨rfl, af⟩
            have RW := M1.out.row
            rw [HTe.out] at RW
            have fin : Hid (MgR g v L w (i + 1) sv w1) := by
              refine ⟨by rw [EF.out]; exact af.1, M1.out.touch.trans af.2 (fun _ _ h => h), ?_, M1.out.own⟩
              rw [ET2.out]
              exact erow_touch RW af.2 (fun k hk e => by have := M1.out.own k hk; omega)
            clear x0 x1 x2 x3 x4 xl K af M1 X RW
            go_wp2
            go_roundw
            case rel => exact ⟨i + 1, by go_num, HI.out, fin.out⟩
            case measure => have := HI.out; simp [intOf]; omega
        · obtain rfl : i = L.length := by omega
          have HM2 := HM.out
          rw [show MgR g v L w L.length sv wr = MgR g v L w L.length sv wr from rfl] at HM2
          obtain ⟨m1, m2, m3, m4⟩ := HM2
          rw [List.take_length] at m1 m3
          obtain ⟨au, cu, hsv⟩ := erow_sl m3
          subst hsv
          have F : Hid (MergePost g v L w (.returned (.tuple #[.slice au (turnedL v L).length cu, .int .i64 0])) wr) := ⟨⟨au, (turnedL v L).length, cu⟩, by rw [E1.out], by rw [E2.out]; exact ⟨m3, rfl, m4⟩, by rw [E3.out]; exact ⟨m1, m2⟩⟩
          clear m1 m2 m3 m4 HM
          generalize (turnedL v L).length = n9 at *
          go_wp2
          refine bodyPost_ret (v := (.tuple #[.slice au n9 cu, .int .i64 0])) (by simp [results, Try.results17, go_sem, *]) rfl ?_
          exact F.out
end Go.Proofs.Ytchhbhoikkdmeaa
