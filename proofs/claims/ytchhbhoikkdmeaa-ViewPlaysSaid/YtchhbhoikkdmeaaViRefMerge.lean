/- The reference's view: Merge. -/
import Derived.Test.YtchhbhoikkdmeaaViRefOld
namespace Go.Proofs.Ytchhbhoikkdmeaa
open Go.Sort Go.RowKit Go.BigFrame
set_option linter.unusedVariables false
set_option linter.unusedSimpArgs false

def RMergePost (g : Nat) (vl ve : Sl) (v : Vw) (L : List Rec) (w : World) (e : Ending) (w' : World) : Prop :=
  ∃ u : Sl, e = .returned (.tuple #[.slice u.a u.n u.c, .int .i64 (mergeE L)]) ∧ NewE rcs 5 48 (mergeL v L) w u w' ∧ RAft g vl ve (mergeV v L) w w'
structure RMg (g : Nat) (vl ve : Sl) (v : Vw) (L : List Rec) (w : World) (i : Nat) (sv : Value) (vl1 ve1 : Sl) (wr : World) : Prop where
  rs : Rs g vl1 ve1 (foldV v (L.take i)) wr
  lo : ∀ b, OwnV g vl1 ve1 b → OwnV g vl ve b ∨ w.heap.size ≤ b
  apart : ∀ b, sv.ownBlock = some b → ¬ OwnV g vl1 ve1 b
  touch : Touch (OwnV g vl ve) w wr
  row : ERow rcs 5 48 wr sv (turnedL v (L.take i))
  own : ∀ k, sv.ownBlock = some k → w.heap.size ≤ k
def RMg2J (g : Nat) (vl ve : Sl) (v : Vw) (L : List Rec) (w : World) (sv iv : Value) (wr : World) : Prop := ∃ (i : Nat) (vl1 ve1 : Sl), iv = .int .i64 (i : Nat) ∧ i ≤ L.length ∧ RMg g vl ve v L w i sv vl1 ve1 wr
section
variable {g : Nat} {vl ve vl1 ve1 : Sl} {v : Vw} {L : List Rec} {w wr w1 w9 : World} {i : Nat} {sv : Value} {r : Rec}
/-- behind Take -/
theorem RMg.took (h : RMg g vl ve v L w i sv vl1 ve1 wr) (hx : L[i]? = some r) (ht : turns (foldV v (L.take i)) r = false) (ha : RAft g vl1 ve1 (takeV (foldV v (L.take i)) r) wr w1) : ∃ vl2 ve2, RMg g vl ve v L w (i + 1) sv vl2 ve2 w1 := by
  obtain ⟨vl2, ve2, h1, h2, h3⟩ := ha
  obtain ⟨q1, q2, q3⟩ := RAft.trans h.touch h.lo ⟨vl2, ve2, h1, h2, h3⟩
  refine ⟨vl2, ve2, ⟨by rw [fold_snoc v L i r hx]; exact h1, ?_, ?_, ?_, ?_, h.own⟩⟩
  · intro b hb
    rcases h3 b hb with h4 | h4
    · exact h.lo b h4
    · exact .inr (Nat.le_trans h.touch.size h4)
  · intro b hb e
    rcases h3 b e with h4 | h4
    · exact h.apart b hb h4
    · have := erow_lt h.row hb; omega
  · refine ⟨h2.os.trans h.touch.os, h2.tape.trans h.touch.tape, h2.output.trans h.touch.output, Nat.le_trans h.touch.size h2.size, fun k hk hn => (h2.block k (Nat.lt_of_lt_of_le hk h.touch.size) (fun e => ?_)).trans (h.touch.block k hk hn)⟩
    rcases h.lo k e with h4 | h4
    · exact hn h4
    · omega
  · rw [turned_snoc v L i r hx, if_neg (by simp [ht]), List.append_nil]
    exact erow_touch h.row h2 (fun k hk e => h.apart k hk e)
/-- behind Take, what it answered still to be appended -/
theorem RMg.half (h : RMg g vl ve v L w i sv vl1 ve1 wr) (hx : L[i]? = some r) (ha : RAft g vl1 ve1 (takeV (foldV v (L.take i)) r) wr w1) : ∃ vl2 ve2, Rs g vl2 ve2 (foldV v (L.take (i + 1))) w1 ∧ (∀ b, OwnV g vl2 ve2 b → OwnV g vl ve b ∨ w.heap.size ≤ b) ∧ (∀ b, sv.ownBlock = some b → ¬ OwnV g vl2 ve2 b) ∧ Touch (OwnV g vl ve) w w1 ∧ ERow rcs 5 48 w1 sv (turnedL v (L.take i)) := by
  obtain ⟨vl2, ve2, h1, h2, h3⟩ := ha
  refine ⟨vl2, ve2, by rw [fold_snoc v L i r hx]; exact h1, ?_, ?_, ?_, ?_⟩
  · intro b hb
    rcases h3 b hb with h4 | h4
    · exact h.lo b h4
    · exact .inr (Nat.le_trans h.touch.size h4)
  · intro b hb e
    rcases h3 b e with h4 | h4
    · exact h.apart b hb h4
    · have := erow_lt h.row hb; omega
  · refine ⟨h2.os.trans h.touch.os, h2.tape.trans h.touch.tape, h2.output.trans h.touch.output, Nat.le_trans h.touch.size h2.size, fun k hk hn => (h2.block k (Nat.lt_of_lt_of_le hk h.touch.size) (fun e => ?_)).trans (h.touch.block k hk hn)⟩
    rcases h.lo k e with h4 | h4
    · exact hn h4
    · omega
  · exact erow_touch h.row h2 (fun k hk e => h.apart k hk e)
end
set_option maxHeartbeats 3200000 in
set_option maxRecDepth 100000 in
theorem rmerge_any (a : Option Addr) (cap : Nat) (L : List Rec) (g : Nat) (vl ve : Sl) (v : Vw) (w : World) (h : Rs g vl ve v w) (hr : RdE rcs 5 w a L) (hag : ∀ b off, a = some ⟨b, off, none⟩ → ¬ OwnV g vl ve b) (hL : ∀ r ∈ L, r.Ok) (hl : L.length ≤ 1000) (hE : v.E.length + L.length < 1000000) :
    Calls Try.prog 18 #[.pointer (some ⟨g, 0, none⟩), .slice a L.length cap] w (RMergePost g vl ve v L w) := by
  obtain ⟨i0, hi0, hz0, hz1, hz2⟩ := info_parts info_rrec
  have HV := Lib.hid h
  have HR := Lib.hid hr
  have HG := Lib.hid hag
  have HL := Lib.hid hL
  have HE := Lib.hid hE
  have gl := h.box.lt
  have hl2 : (L.length : Int) ≤ 1000 := by omega
  clear h hr hag hL hE
  go_enter Try.func18, Try.ntmps18
  go_wp2_with fail
  go_loopw [6] (fun iv wr => Mg1J L w iv wr) (fun i _ => L.length - (intOf i).toNat)
  case atStart => exact ⟨0, rfl, Nat.zero_le _, rfl, Below.refl _ _⟩
  case round =>
    obtain ⟨i, rfl, hi, hri, hb⟩ := hrel
    have hi0' : (0 : Int) ≤ i := by omega
    have HB := Lib.hid hb
    by_cases hlt : i < L.length
    · have hlt' : (i : Int) < L.length := by omega
      have hx : L[i]? = some L[i] := List.getElem?_eq_getElem hlt
      obtain ⟨b, off, rfl, hbl, hcc⟩ := (HR.out.keep hb) (by omega)
      have c0 := hcc i _ hx 0 _ rfl
      have c1 := hcc i _ hx 1 _ rfl
      have c2 := hcc i _ hx 2 _ rfl
      have c3 := hcc i _ hx 3 _ rfl
      have c4 := hcc i _ hx 4 _ rfl
      simp only [Nat.add_zero] at c0
      have ok := HL.out _ (List.getElem_mem hlt)
      have K := rright_any L[i].id L[i].st L[i].n L[i].ip L[i].port ok.ip ok.port
      have KY := right_snoc L i _ hx
      have KN := right_not L i _ hx
      rw [hri] at KY
      have KQ : L[i].right = rightI L[i].id L[i].st L[i].ip L[i].port := rfl
      rw [← KQ] at K
      have HI : Hid (i + 1 ≤ L.length) := hlt
      clear hcc hx hri ok KQ hb
      generalize L[i] = r at *
      generalize r.right = q at *
      cases q with
      | true =>
        replace KY := Lib.hid KY
        clear KN
        go_wp2_with fail
        refine (K _).mono ?_; rintro e w1 ⟨rfl, b1⟩
        have HB1 := Lib.hid (HB.out.trans (b1.mono HB.out.size))
        clear K b1 HB
        go_wp2
        go_roundw
        case rel => exact ⟨i + 1, by go_num, HI.out, KY.out, HB1.out⟩
        case measure => have := HI.out; simp [intOf]; omega
      | false =>
        replace KN := Lib.hid (KN rfl)
        clear KY
        go_wp2_with fail
        refine (K _).mono ?_; rintro e w1 ⟨rfl, b1⟩
        have HB1 := Lib.hid (HB.out.trans (b1.mono HB.out.size))
        clear K b1 HB
        obtain ⟨e1, e2, e3⟩ := merge_bad KN.out v
        have F : Hid (RMergePost g vl ve v L w (.returned (.tuple #[.slice none 0 0, .int .i64 1])) w1) := ⟨⟨none, 0, 0⟩, by rw [e1], by rw [e2]; exact ⟨erow_nil, rfl, fun b hb => by simp [Sl.v, Value.ownBlock] at hb⟩, by rw [e3]; exact HV.out.same HB1.out⟩
        clear e1 e2 e3
        go_wp2
        refine bodyPost_ret (v := (.tuple #[.slice none 0 0, .int .i64 1])) (by simp [results, Try.results18, go_sem, *]) rfl ?_
        exact F.out
    · obtain rfl : i = L.length := by omega
      rw [List.take_length] at hri
      have HW := Lib.hid (HV.out.keep hb)
      obtain ⟨e1, e2, e3⟩ := merge_good hri v
      have E1 := Lib.hid e1
      have E2 := Lib.hid e2
      have E3 := Lib.hid e3
      have S0 : Hid (RMg2J g vl ve v L w (.slice none 0 0) (.int .i64 0) wr) := ⟨0, vl, ve, rfl, Nat.zero_le _, HW.out, fun b hb => .inl hb, fun k hk => by simp [Value.ownBlock] at hk, Touch.of_below _ hb, erow_nil, fun k hk => by simp [Value.ownBlock] at hk⟩
      clear e1 e2 e3 hri hb HB HW hi hlt
      go_wp2_with fail
      go_loopw [8, 9] (fun sv iv wr => RMg2J g vl ve v L w sv iv wr) (fun _ i _ => L.length - (intOf i).toNat)
      case atStart => exact S0.out
      case round =>
        obtain ⟨i, vl1, ve1, rfl, hi, hM⟩ := hrel
        clear S0
        generalize u8 = sv at *
        have HM := Lib.hid hM
        clear hM
        have hi0'' : (0 : Int) ≤ i := by omega
        by_cases hlt : i < L.length
        · have hlt' : (i : Int) < L.length := by omega
          have hx : L[i]? = some L[i] := List.getElem?_eq_getElem hlt
          obtain ⟨b, off, rfl, hbl, hcc⟩ := (HR.out.touch HM.out.touch (fun b off e => HG.out b off e)) (by omega)
          have c0 := hcc i _ hx 0 _ rfl
          have c1 := hcc i _ hx 1 _ rfl
          have c2 := hcc i _ hx 2 _ rfl
          have c3 := hcc i _ hx 3 _ rfl
          have c4 := hcc i _ hx 4 _ rfl
          simp only [Nat.add_zero] at c0
          have ok := HL.out _ (List.getElem_mem hlt)
          have ET := Lib.hid (turned_snoc v L i _ hx)
          have HI : Hid (i + 1 ≤ L.length) := hlt
          have hone := rcs_enc.one L[i]
          have htl : (turnedL v (L.take i)).length ≤ 1000 := by
            have := turned_len (L.take i) v
            rw [List.length_take] at this; omega
          have K := rtake_any _ ok g vl1 ve1 _ wr HM.out.rs (by
            have := fold_len (L.take i) v
            have hh := HE.out
            rw [List.length_take] at this; omega)
          have HX := Lib.hid hx
          clear hcc hx ok
          generalize L[i] = r at *
          unfold RTakePost at K
          generalize hV : foldV v (L.take i) = V at *
          generalize hT : turnedL v (L.take i) = T at *
          have HVe := Lib.hid hV
          have HTe := Lib.hid hT
          clear hV hT
          cases hq : turns V r with
          | true =>
            rw [hq] at K
            have ET2 : Hid (turnedL v (L.take (i + 1)) = T ++ [r]) := by rw [hq] at ET; exact ET.out
            clear ET hq
            go_wp2_with fail
            refine K.mono ?_; rintro e w1 ⟨rfl, af⟩
            obtain ⟨vl2, ve2, q1, q2, q3, q4, q5⟩ := HM.out.half HX.out (by rw [HVe.out]; exact af)
            rw [HTe.out] at q5
            obtain ⟨b', off', e', hbl', hcc⟩ := (HR.out.touch q4 (fun b off e => HG.out b off e)) (by omega)
            simp only [Option.some.injEq, Addr.mk.injEq, and_true] at e'
            obtain ⟨rfl, rfl⟩ := e'
            have Q1 := Lib.hid q1
            have Q2 := Lib.hid q2
            have Q3 := Lib.hid q3
            have Q4 := Lib.hid q4
            have R1 := Lib.hid q5
            have OW := Lib.hid HM.out.own
            clear c0 c1 c2 c3 c4 hbl K af q1 q2 q3 q4 q5
            have c0 := hcc i r HX.out 0 _ rfl
            have c1 := hcc i r HX.out 1 _ rfl
            have c2 := hcc i r HX.out 2 _ rfl
            have c3 := hcc i r HX.out 3 _ rfl
            have c4 := hcc i r HX.out 4 _ rfl
            simp only [Nat.add_zero] at c0
            clear hcc
            go_wp2_with (at_builtin; refine wpList_append_lies _ rfl (.tmp 41) (.tmp 46) 28 rfl 0 48 i0 _ 5 32 Try.underlying28 hi0 hz0 hz1 hz2 rfl (by omega) sv T.length (T.map rcs).flatten rfl (erow_keep R1.out ((Below.refl _ _).alloc (Nat.le_refl _) _)) ⟨_, 0, none⟩ 1 1 (rcs r) rfl rfl (World.news_of_block (cs := (rcs r).toArray) (t := 48) (fr := (0, 0)) (heap_alloc_new _ _)) hone (by omega) ?c2 ?c3 ?c4 _ rfl ?_)
            case c2 => unfold maxLen; omega
            case c3 => omega
            case c4 => exact Nat.zero_le _
            intro g1 cap1 w9 hown hgrow hat hlt9
            have tg : Touch (fun k => sv.ownBlock = some k) w1 w9 := ((Touch.refl _ w1).alloc _).trans (Touch.of_grown (F := fun k => sv.ownBlock = some k) hgrow (fun k hk => hk)) (fun _ _ h => h)
            have fin : Hid (RMg g vl ve v L w (i + 1) (.slice (some ⟨g1, 0, none⟩) (T.length + 1) cap1) vl2 ve2 w9) := by
              refine ⟨Q1.out.touch tg (fun b hb e => Q3.out b e hb), Q2.out, fun k hk e => ?_, ?_, ?_, fun k hk => ?_⟩
              · obtain rfl : g1 = k := by injection hk
                rcases hat with h | h
                · exact Q3.out _ h e
                · have := Q1.out.lt _ e; (try simp at h); omega
              · exact ⟨tg.os.trans Q4.out.os, tg.tape.trans Q4.out.tape, tg.output.trans Q4.out.output, Nat.le_trans Q4.out.size tg.size, fun k hk hn => (tg.block k (Nat.lt_of_lt_of_le hk Q4.out.size) (fun e => by have := OW.out k e; omega)).trans (Q4.out.block k hk hn)⟩
              · rw [ET2.out]; exact erow_snoc rfl hown
              · obtain rfl : g1 = k := by injection hk
                rcases hat with h | h
                · exact OW.out _ h
                · rw [h]; have := Q4.out.size; simp; omega
            clear hown hgrow hat tg c0 c1 c2 c3 c4
            go_wp2
            go_roundw
            case rel => exact ⟨i + 1, vl2, ve2, by go_num, HI.out, fin.out⟩
            case measure => have := HI.out; simp [intOf]; omega
          | false =>
            have HQ : Hid (turns (foldV v (L.take i)) r = false) := by show _ = _; rw [HVe.out]; exact hq
            rw [hq] at K
            clear ET hq
            go_wp2_with fail
            refine K.mono ?_; rintro e w1 ⟨rfl, af⟩
            obtain ⟨vl2, ve2, fin⟩ := HM.out.took HX.out HQ.out (by rw [HVe.out]; exact af)
            have FN := Lib.hid fin
            clear c0 c1 c2 c3 c4 hbl K af fin HM
            go_wp2
            go_roundw
            case rel => exact ⟨i + 1, vl2, ve2, by go_num, HI.out, FN.out⟩
            case measure => have := HI.out; simp [intOf]; omega
        · obtain rfl : i = L.length := by omega
          obtain ⟨m1, m2, m5, m6, m3, m4⟩ := HM.out
          rw [List.take_length] at m1 m3
          obtain ⟨au, cu, hsv⟩ := erow_sl m3
          subst hsv
          have F : Hid (RMergePost g vl ve v L w (.returned (.tuple #[.slice au (turnedL v L).length cu, .int .i64 0])) wr) := ⟨⟨au, (turnedL v L).length, cu⟩, by rw [E1.out], by rw [E2.out]; exact ⟨m3, rfl, m4⟩, by rw [E3.out]; exact ⟨vl1, ve1, m1, m6, m2⟩⟩
          clear m1 m2 m3 m4 m5 m6 HM
          generalize (turnedL v L).length = n9 at *
          go_wp2
          refine bodyPost_ret (v := (.tuple #[.slice au n9 cu, .int .i64 0])) (by simp [results, Try.results18, go_sem, *]) rfl ?_
          exact F.out
end Go.Proofs.Ytchhbhoikkdmeaa
