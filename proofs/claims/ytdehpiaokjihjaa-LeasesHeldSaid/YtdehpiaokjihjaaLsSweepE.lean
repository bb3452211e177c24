/- The leases' Sweep. -/
import Derived.Test.YtdehpiaokjihjaaLsSweep
namespace Go.Proofs.Ytdehpiaokjihjaa
open Go.Sort Go.RowKit Go.BigFrame
set_option linter.unusedVariables false
set_option linter.unusedSimpArgs false

structure SwE (g : Nat) (k' : Ls) (E : List Int) (w : World) (sv : Value) (wr : World) : Prop where
  row : ERow c64 1 3 wr sv E
  aft : EAft g k' w wr
  own : ∀ b, sv.ownBlock = some b → w.heap.size ≤ b
  gl : g < w.heap.size
section
variable {g : Nat} {k' k2 : Ls} {E E' : List Int} {w wr w' : World} {sv sv' : Value}
theorem SwE.keep (h : SwE g k' E w sv wr) (hb : Below wr.heap.size wr w') : SwE g k' E w sv w' := ⟨erow_keep h.row hb, h.aft.then_ hb, h.own, h.gl⟩
theorem SwE.rel (h : SwE g k' E w sv wr) (ht : EAft g k2 wr w') : SwE g k2 E w sv w' := by
  refine ⟨erow_touch h.row ht.2 (fun b hb e => ?_), ⟨ht.1, h.aft.2.trans ht.2 (fun _ _ h => h)⟩, h.own, h.gl⟩
  have h1 := h.own b hb; have h2 := h.gl; have e' : b = g := e; omega
theorem SwE.app (h : SwE g k' E w sv wr) (hg : wr.grownBy w' sv.ownBlock) (hr : ERow c64 1 3 w' sv' E') (ho : ∀ b, sv'.ownBlock = some b → w.heap.size ≤ b) : SwE g k' E' w sv' w' := by
  have T : Touch (fun b => sv.ownBlock = some b) wr w' := Touch.of_grown hg (fun _ h => h)
  refine ⟨hr, ⟨h.aft.1.touch T (fun e => ?_), h.aft.2.trans T (fun b hb e => ?_)⟩, ho, h.gl⟩
  · have h1 := h.own g e; have h2 := h.gl; omega
  · have h1 := h.own b e; omega
end
def SwEPost (g : Nat) (k : Ls) (now : Int) (w : World) (e : Ending) (w' : World) : Prop := ∃ u : Sl, e = .returned (.slice u.a u.n u.c) ∧ NewE c64 1 3 (swp2 now k 33).1 w u w' ∧ EAft g (swp2 now k 33).2 w w'
def SwEJ (g : Nat) (k : Ls) (now : Int) (w : World) (sv iv : Value) (wr : World) : Prop :=
  ∃ i : Nat, i ≤ 33 ∧ iv = .int .i64 (i : Nat) ∧ SwE g (swp2 now k i).2 (swp2 now k i).1 w sv wr
set_option maxHeartbeats 6400000 in
set_option maxRecDepth 20000 in
theorem sweepE_any (now : Int) (g : Nat) (k : Ls) (w : World) (h : Es g k w) :
    Calls Try.prog 18 #[.pointer (some ⟨g, 0, none⟩), .int .u64 now] w (SwEPost g k now w) := by
  obtain ⟨i0, hi0, hz0, hz1, hz2'⟩ := info_parts info_int
  have H := Lib.hid h
  have gl := h.lt
  have LD : Hid (∀ j v, (rowL ce k.rl).flatten[j]? = some v → w.cell? ((⟨g, 2, none⟩ : Addr).add j) = some v) := fun j v hv => by
    rw [add_at]
    exact H.out.arr j v hv
  have VP : Hid (∀ i, i < 33 → ((rowL ce k.rl).flatten.drop (i * 3)).take 3 = ce (k.rl i)) := fun i hi => row_part ce_enc k.rl hi
  have HI : (Try.prog.info? 61).map (·.size) = some (rowL ce k.rl).flatten.length := by rw [row_len ce_enc]; kernel_rfl
  have J0 : Hid (SwEJ g k now w (.slice none 0 0) (.int .i64 (0 : Nat)) w) := ⟨0, Nat.zero_le _, rfl, erow_nil, h.same (Below.refl _ _), fun b hb => by simp [Value.ownBlock] at hb, gl⟩
  generalize (rowL ce k.rl).flatten = VS at *
  clear h
  go_enter Try.func18, Try.ntmps18
  go_wp2_with (refine wpList_load_cells rfl 61 _ rfl ⟨g, 2, none⟩ rfl VS LD.out _ Try.underlying61 rfl HI ?_)
  go_loopw [5, 6, 7, 12] (fun sv iv4 pv iv wr => SwEJ g k now w sv iv wr) (fun _ _ _ i _ => 33 - (intOf i).toNat)
  case atStart => exact J0.out
  case round =>
    obtain ⟨i, hi, rfl, hS⟩ := hrel
    clear J0
    generalize u5 = sv at *
    have HS := Lib.hid hS
    clear hS
    have hi0' : (0 : Int) ≤ i := by omega
    by_cases hlt : i < 33
    · have hlt' : (i : Int) < 33 := by omega
      have VPi := VP.out i hlt
      have HI1 : Hid (i + 1 ≤ 33) := hlt
      have hml := swp2_len now k i
      have EY := swp2_yes (now := now) (k := k) (i := i)
      have EN := swp2_no (now := now) (k := k) (i := i)
      have K := held_any (k.rl i) now
      unfold overB at EY EN
      generalize heldB (k.rl i) now = q at *
      generalize hx : k.rl i = x at *
      clear VP hx
      obtain ⟨x1, x2, x3⟩ := x
      simp only at K EY EN
      have X2 : Hid (Cs wr.heap.size [.bool x1, .int .u64 x2, .int .u64 x3] (wr.alloc (.cells #[.bool x1, .int .u64 x2, .int .u64 x3] 60))) := Cs.new wr _ _
      have S2 := Lib.hid (HS.out.keep ((Below.refl wr.heap.size wr).alloc (Nat.le_refl _) (.cells #[.bool x1, .int .u64 x2, .int .u64 x3] 60)))
      clear gl LD HS H
      by_cases hz : x3 = 0
      · have E := EN (by rw [hz]; rfl)
        have S5 : Hid (SwE g (swp2 now k (i + 1)).2 (swp2 now k (i + 1)).1 w sv (wr.alloc (.cells #[.bool x1, .int .u64 x2, .int .u64 x3] 60))) := by
          rw [E]; exact S2.out
        have hz2 : (x3 != 0) = false := by rw [hz]; rfl
        clear EY EN E hz K X2 S2
        go_wp2_with (first | (refine wpList_index_part rfl 61 _ _ rfl VS rfl .i64 i rfl 33 3 60 Try.underlying61 hlt _ Try.underlying60 rfl (by kernel_rfl) _ VPi ?_; simp only [ce]))
        all_goals first | (exfalso; simp_all; done) | skip
        go_roundw
        case rel => exact ⟨i + 1, HI1.out, by go_num, S5.out⟩
        case measure => simp [intOf]; omega
      · have hz2 : (x3 != 0) = true := bne_iff_ne.2 hz
        rw [hz2, Bool.true_and] at EY EN
        go_wp2_with (first | (refine wpList_index_part rfl 61 _ _ rfl VS rfl .i64 i rfl 33 3 60 Try.underlying61 hlt _ Try.underlying60 rfl (by kernel_rfl) _ VPi ?_; simp only [ce]))
        refine (K _).mono ?_; rintro e w3 ⟨rfl, b3⟩
        have S3 := Lib.hid (S2.out.keep b3)
        clear K X2 S2 b3 VPi
        cases q with
        | true =>
          have E := EN rfl
          have S5 : Hid (SwE g (swp2 now k (i + 1)).2 (swp2 now k (i + 1)).1 w sv w3) := by
            rw [E]; exact S3.out
          clear EY EN E
          go_wp2
          go_roundw
          case rel => exact ⟨i + 1, HI1.out, by go_num, S5.out⟩
          case measure => simp [intOf]; omega
        | false =>
          have EQ := Lib.hid (EY rfl)
          clear EY EN
          go_wp2_with (at_builtin; refine wpList_append_lies _ rfl (.tmp 25) (.tmp 27) 35 rfl 0 3 i0 _ 1 8 Try.underlying35 hi0 hz0 hz1 hz2' rfl (by omega) sv (swp2 now k i).1.length ((swp2 now k i).1.map c64).flatten rfl (S3.out.keep ((Below.refl _ _).alloc (Nat.le_refl _) _)).row ⟨_, 0, none⟩ 1 1 (c64 (i : Int)) rfl rfl (World.news_of_block (cs := (c64 (i : Int)).toArray) (t := 3) (fr := (0, 0)) (heap_alloc_new _ _)) (c64_enc.one _) (by omega) ?c2 ?c3 ?c4 _ rfl ?_)
          case c2 => unfold maxLen; omega
          case c3 => omega
          case c4 => exact Nat.zero_le _
          intro g1 cap1 w9 hown hgrow hat hlt9
          have S4 := Lib.hid (S3.out.keep ((Below.refl _ _).alloc (Nat.le_refl _) (.cells (c64 (i : Int)).toArray 3)))
          have fin : Hid (ERow c64 1 3 w9 (.slice (some ⟨g1, 0, none⟩) ((swp2 now k i).1.length + 1) cap1) ((swp2 now k i).1 ++ [(i : Int)])) := erow_snoc rfl hown
          have hov : ∀ b, (Value.slice (some ⟨g1, 0, none⟩) ((swp2 now k i).1.length + 1) cap1).ownBlock = some b → w.heap.size ≤ b := fun b hb => by
            obtain rfl : g1 = b := by injection hb
            rcases hat with h | h
            · exact S4.out.own _ h
            · have := S3.out.aft.2.size; rw [h]; simp; omega
          have S5 := Lib.hid (S4.out.app hgrow fin.out hov)
          have K := lost_any (i : Int) g _ w9 S5.out.aft.1
          clear fin hov hown hgrow hat S3 S4
          go_wp2_with fail
          refine K.mono ?_; rintro e w4 ⟨rfl, ta⟩
          have S6 : Hid (SwE g (swp2 now k (i + 1)).2 (swp2 now k (i + 1)).1 w (.slice (some ⟨g1, 0, none⟩) ((swp2 now k i).1.length + 1) cap1) w4) := by
            rw [EQ.out]; exact S5.out.rel ta
          clear K ta S5
          go_wp2
          go_roundw
          case rel => exact ⟨i + 1, HI1.out, by go_num, S6.out⟩
          case measure => simp [intOf]; omega
    · obtain rfl : i = 33 := by omega
      obtain ⟨a, cap2, hsv⟩ := erow_sl HS.out.row
      subst hsv
      have F : Hid (NewE c64 1 3 (swp2 now k 33).1 w ⟨a, (swp2 now k 33).1.length, cap2⟩ wr ∧ EAft g (swp2 now k 33).2 w wr) := ⟨⟨HS.out.row, rfl, HS.out.own⟩, HS.out.aft⟩
      clear HS LD VP
      generalize (swp2 now k 33).1.length = n at *
      go_wp2
      go_ret
      exact ⟨⟨a, n, cap2⟩, rfl, F.out.1, F.out.2⟩
end Go.Proofs.Ytdehpiaokjihjaa
