/- The program's table: Clients. -/
import Derived.Test.YtdehpiaokjihjaaLsTab
namespace Go.Proofs.Ytdehpiaokjihjaa
open Go.Sort Go.RowKit Go.BigFrame
set_option linter.unusedVariables false
set_option linter.unusedSimpArgs false

theorem info_cl : (Try.prog.info? 44).map (fun i => (i.zero, i.size, i.bytes)) = some (some (.agg #[.int .i64 0, .int .u32 0, .int .u16 0, .int .u64 0]), 4, 24) := by kernel_rfl
theorem info_int : (Try.prog.info? 3).map (fun i => (i.zero, i.size, i.bytes)) = some (some (.int .i64 0), 1, 8) := by kernel_rfl
def ClJ (k : Tb) (w : World) (sv iv : Value) (wr : World) : Prop :=
  ∃ i : Nat, i ≤ 33 ∧ iv = .int .i64 (i : Nat) ∧ ERow cv 4 44 wr sv (loV k.cl i) ∧ Below w.heap.size w wr ∧ ∀ b, sv.ownBlock = some b → w.heap.size ≤ b
set_option maxHeartbeats 3200000 in
set_option maxRecDepth 20000 in
theorem clients_any (g : Nat) (k : Tb) (w : World) (h : Ts g k w) :
    Calls Try.prog 10 #[.pointer (some ⟨g, 0, none⟩)] w (NewPost cv 4 44 (allV k.cl) w) := by
  obtain ⟨i0, hi0, hz0, hz1, hz2⟩ := info_parts info_cl
  have H := Lib.hid h
  have gl := h.lt
  have LD : Hid (∀ j v, (rowL cv k.cl).flatten[j]? = some v → w.cell? ((⟨g, 2, none⟩ : Addr).add j) = some v) := fun j v hv => by
    rw [add_at]
    exact H.out.arr j v hv
  have VP : Hid (∀ i, i < 33 → ((rowL cv k.cl).flatten.drop (i * 4)).take 4 = cv (k.cl i)) := fun i hi => row_part cv_enc k.cl hi
  have HI : (Try.prog.info? 56).map (·.size) = some (rowL cv k.cl).flatten.length := by rw [row_len cv_enc]; kernel_rfl
  generalize (rowL cv k.cl).flatten = VS at *
  clear h
  go_enter Try.func10, Try.ntmps10
  go_wp2_with (refine wpList_load_cells rfl 56 _ rfl ⟨g, 2, none⟩ rfl VS LD.out _ Try.underlying56 rfl HI ?_)
  go_loopw [3, 4, 5, 10] (fun sv iv4 pv iv wr => ClJ k w sv iv wr) (fun _ _ _ i _ => 33 - (intOf i).toNat)
  case atStart => exact ⟨0, Nat.zero_le _, rfl, erow_nil, Below.refl _ _, fun b hb => by simp [Value.ownBlock] at hb⟩
  case round =>
    obtain ⟨i, hi, rfl, hr, hb, hov⟩ := hrel
    generalize u3 = sv at *
    have HROW := Lib.hid hr
    have HB := Lib.hid hb
    have HOV := Lib.hid hov
    clear hr hb hov
    have hi0' : (0 : Int) ≤ i := by omega
    have hml := lo_len k.cl i
    by_cases hlt : i < 33
    · have hlt' : (i : Int) < 33 := by omega
      have VPi := VP.out i hlt
      have HI1 : Hid (i + 1 ≤ 33) := hlt
      have KY := lo_yes (f := k.cl) (i := i)
      have KN := lo_no (f := k.cl) (i := i)
      have HK := Lib.hid (fun w' (b : Below w.heap.size w w') => isC_any (i : Int) g k w' (H.out.keep b))
      rw [isC_at H.out.ok] at HK
      generalize isV (k.cl i) = q at *
      generalize hx : k.cl i = x at *
      clear VP hx
      obtain ⟨x1, x2, x3, x4⟩ := x
      have B2 : Hid (Below w.heap.size w (wr.alloc (.cells #[.int .i64 x1, .int .u32 x2, .int .u16 x3, .int .u64 x4] 44))) := HB.out.alloc HB.out.size _
      have X2 : Hid (Cs wr.heap.size [.int .i64 x1, .int .u32 x2, .int .u16 x3, .int .u64 x4] (wr.alloc (.cells #[.int .i64 x1, .int .u32 x2, .int .u16 x3, .int .u64 x4] 44))) := Cs.new wr _ _
      have R1 : Hid (ERow cv 4 44 (wr.alloc (.cells #[.int .i64 x1, .int .u32 x2, .int .u16 x3, .int .u64 x4] 44)) sv (loV k.cl i)) := erow_keep HROW.out ((Below.refl _ wr).alloc (Nat.le_refl _) _)
      have K := HK.out _ B2.out
      clear HK gl LD HROW
      go_wp2_with (first | (refine wpList_index_part rfl 56 _ _ rfl VS rfl .i64 i rfl 33 4 44 Try.underlying56 hlt _ Try.underlying44 rfl (by kernel_rfl) _ VPi ?_; simp only [cv]))
      refine K.mono ?_; rintro e w3 ⟨rfl, rfl⟩
      cases q with
      | true =>
        have EQ := Lib.hid (KY rfl)
        clear KY KN K VPi
        have XL := X2.out.lt
        have c0 := X2.out.cell 0 _ rfl
        have c1 := X2.out.cell 1 _ rfl
        have c2 := X2.out.cell 2 _ rfl
        have c3 := X2.out.cell 3 _ rfl
        have WB : Hid (w.heap.size ≤ wr.heap.size) := HB.out.size
        clear X2
        go_upto_region 6 with fail
        generalize (wr.alloc (.cells #[.int .i64 x1, .int .u32 x2, .int .u16 x3, .int .u64 x4] 44)) = w2 at *
        go_wp2_with (at_builtin; refine wpList_append_lies _ rfl (.tmp 17) (.tmp 19) 37 rfl 0 44 i0 _ 4 24 Try.underlying37 hi0 hz0 hz1 hz2 rfl (by omega) sv (loV k.cl i).length ((loV k.cl i).map cv).flatten rfl (erow_keep R1.out ((Below.refl _ _).alloc (Nat.le_refl _) _)) ⟨_, 0, none⟩ 1 1 (cv ⟨x1, x2, x3, x4⟩) rfl rfl (World.news_of_block (cs := (cv ⟨x1, x2, x3, x4⟩).toArray) (t := 44) (fr := (0, 0)) (heap_alloc_new _ _)) (cv_ones _) (by omega) ?c2 ?c3 ?c4 _ rfl ?_)
        case c2 => unfold maxLen; omega
        case c3 => omega
        case c4 => exact Nat.zero_le _
        intro g1 cap1 w9 hown hgrow hat hlt9
        have fin : Hid (ERow cv 4 44 w9 (.slice (some ⟨g1, 0, none⟩) ((loV k.cl i).length + 1) cap1) (loV k.cl (i + 1))) := by
          rw [EQ.out]; exact erow_snoc rfl hown
        have QB := B2.out.alloc B2.out.size (.cells (cv ⟨x1, x2, x3, x4⟩).toArray 44)
        have bin := Lib.hid (QB.grown hgrow QB.size (fun k hk => HOV.out k hk))
        have hov : Hid (∀ b, (Value.slice (some ⟨g1, 0, none⟩) ((loV k.cl i).length + 1) cap1).ownBlock = some b → w.heap.size ≤ b) := fun b hb => by
          obtain rfl : g1 = b := by injection hb
          rcases hat with h | h
          · exact HOV.out _ h
          · rw [h]; have := B2.out.size; simp; omega
        clear hown hgrow hat QB
        go_wp2
        go_roundw
        case rel => exact ⟨i + 1, HI1.out, by go_num, fin.out, bin.out, hov.out⟩
        case measure => simp [intOf]; omega
      | false =>
        have EQ := Lib.hid (KN rfl)
        clear KY KN K VPi
        go_wp2
        go_roundw
        case rel => exact ⟨i + 1, HI1.out, by go_num, by rw [EQ.out]; exact R1.out, B2.out, HOV.out⟩
        case measure => simp [intOf]; omega
    · obtain rfl : i = 33 := by omega
      obtain ⟨a, cap, hsv⟩ := erow_sl HROW.out
      subst hsv
      have F : Hid (NewE cv 4 44 (allV k.cl) w ⟨a, (loV k.cl 33).length, cap⟩ wr) := ⟨HROW.out, rfl, HOV.out⟩
      generalize (loV k.cl 33).length = n at *
      clear LD VP gl
      go_wp2
      go_ret
      exact ⟨⟨a, n, cap⟩, rfl, F.out, HB.out⟩
end Go.Proofs.Ytdehpiaokjihjaa
