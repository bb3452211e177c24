/- The program's bag: Put. -/
import Derived.Test.YtdpgmdkclaahdaaBgBagTake
namespace Go.Proofs.Ytdpgmdkclaahdaa.Bg
open Go.Sort Go.RowKit Go.BigFrame
set_option linter.unusedVariables false
set_option linter.unusedSimpArgs false

theorem app_fin {k : Bool} {g room g1 cap1 : Nat} {v : Sl} {L : List Pi} {x : Pi} {w w6 w9 : World} (h : Bs k g room v L w6) (hb : Below w.heap.size w w6) (hown : w9.ownsRow 0 (tI k) 6 (.slice (some ⟨g1, 0, none⟩) (L.length + 1) cap1) (L.length + 1) ((L.map ci).flatten ++ ci x))
    (hgrow : w6.grownBy w9 v.v.ownBlock) (hat : v.v.ownBlock = some g1 ∨ g1 = w6.heap.size) (hl : L.length + 1 ≤ room) (hx : OkI x) :
    Aft k g room v (L ++ [x]) w (w9.setCell ⟨g, slotI k, none⟩ (.slice (some ⟨g1, 0, none⟩) (L.length + 1) cap1)) ∧ Cs g (bc k room v) w9 := by
  have ht : Touch (fun b => v.v.ownBlock = some b) w6 w9 := Touch.of_grown hgrow (fun _ h => h)
  have hr : IRow (tI k) w9 (Sl.v ⟨some ⟨g1, 0, none⟩, L.length + 1, cap1⟩) (L ++ [x]) := by
    show World.ownsRow _ _ _ _ _ _ _
    rw [List.map_append, List.flatten_append, List.length_append]
    simpa [Sl.v] using hown
  refine ⟨Aft.after hb (h.put (v' := ⟨some ⟨g1, 0, none⟩, L.length + 1, cap1⟩) hr ht (fun b hb2 => ?_) (by rw [List.length_append]; exact hl) (app_ok h.ok hx)), h.box.touch ht h.ne⟩
  have e : g1 = b := Option.some.inj hb2
  subst e
  rcases hat with h1 | h1
  · exact .inl h1
  · exact .inr (by omega)
def PutPost (k : Bool) (g room : Nat) (v : Sl) (x : Pi) (L : List Pi) (w : World) (e : Ending) (w' : World) : Prop := e = .returned (.int .i64 (putE room x L)) ∧ Aft k g room v (putL room x L) w w'
theorem put_none {room : Nat} {x : Pi} {L : List Pi} (h : (noneA x.fi x.fp || noneA x.ti x.tp) = true) : putE room x L = 1 ∧ putL room x L = L := by
  have e : putE room x L = 1 := by unfold putE; rw [if_pos h]
  exact ⟨e, by unfold putL; rw [if_neg (by rw [e]; decide)]⟩
theorem put_long {room : Nat} {x : Pi} {L : List Pi} (h : (noneA x.fi x.fp || noneA x.ti x.tp) = false) (h2 : x.b.size = 0 ∨ 1024 < x.b.size) : putE room x L = 3 ∧ putL room x L = L := by
  have e : putE room x L = 3 := by unfold putE; rw [if_neg (by rw [h]; decide), if_pos h2]
  exact ⟨e, by unfold putL; rw [if_neg (by rw [e]; decide)]⟩
theorem put_full {room : Nat} {x : Pi} {L : List Pi} (h : (noneA x.fi x.fp || noneA x.ti x.tp) = false) (h2 : ¬ (x.b.size = 0 ∨ 1024 < x.b.size)) (h3 : L.length = room) : putE room x L = 4 ∧ putL room x L = L := by
  have e : putE room x L = 4 := by unfold putE; rw [if_neg (by rw [h]; decide), if_neg h2, if_pos h3]
  exact ⟨e, by unfold putL; rw [if_neg (by rw [e]; decide)]⟩
theorem put_good {room : Nat} {x : Pi} {L : List Pi} (h : (noneA x.fi x.fp || noneA x.ti x.tp) = false) (h2 : ¬ (x.b.size = 0 ∨ 1024 < x.b.size)) (h3 : ¬ L.length = room) : putE room x L = 0 ∧ putL room x L = L ++ [x] := by
  have e : putE room x L = 0 := by unfold putE; rw [if_neg (by rw [h]; decide), if_neg h2, if_neg h3]
  exact ⟨e, by unfold putL; rw [if_pos e]⟩
theorem str_ne {b : ByteArray} (h : ¬ b.size = 0) : ¬ b.toList = [] ∧ b.toList.isEmpty = false := by
  have h1 : ¬ b.data.toList = [] := fun e => h (by rw [Lib.size_eq, e]; rfl)
  rw [ByteArray.toList_eq]
  exact ⟨h1, by cases e : b.data.toList with | nil => exact absurd e h1 | cons _ _ => rfl⟩
theorem str_nil {b : ByteArray} (h : b.size = 0) : b = ⟨#[]⟩ := by
  apply ByteArray.ext
  exact Array.eq_empty_of_size_eq_zero h
set_option maxHeartbeats 6400000 in
set_option maxRecDepth 100000 in
theorem put_any (x1 x2 x3 x4 : Int) (x5 : ByteArray) (x6 : Int) (hx0 : 0 ≤ x6) (hx1 : x6 ≤ 18446744073709551615) (hxs : x5.size ≤ 140737488355328) (g room : Nat) (v : Sl) (L : List Pi) (w : World) (h : Bs true g room v L w) :
    Calls Try.prog 32 #[.pointer (some ⟨g, 0, none⟩), .agg #[.int .u32 x1, .int .u16 x2, .int .u32 x3, .int .u16 x4, .string x5, .int .u64 x6]] w (PutPost true g room v ⟨x1, x2, x3, x4, x5, x6⟩ L w) := by
  have hB : Hid (Below w.heap.size w (w.alloc (.cells #[.int .u32 x1, .int .u16 x2, .int .u32 x3, .int .u16 x4, .string x5, .int .u64 x6] 75))) := (Below.refl _ w).alloc (Nat.le_refl _) _
  have X := Lib.hid (Cs.new w [.int .u32 x1, .int .u16 x2, .int .u32 x3, .int .u16 x4, .string x5, .int .u64 x6] 75)
  have K1 := none_any x1 x2
  have K2 := none_any x3 x4
  have hl := h.len
  have hr2 := h.r2
  have HH := Lib.hid h
  unfold PutPost
  have E1 := Lib.hid (fun h1 => put_none (room := room) (x := ⟨x1, x2, x3, x4, x5, x6⟩) (L := L) h1)
  have E2 := Lib.hid (fun h1 h2 => put_long (room := room) (x := ⟨x1, x2, x3, x4, x5, x6⟩) (L := L) h1 h2)
  have E3 := Lib.hid (fun h1 h2 h3 => put_full (room := room) (x := ⟨x1, x2, x3, x4, x5, x6⟩) (L := L) h1 h2 h3)
  have E4 := Lib.hid (fun h1 h2 h3 => put_good (room := room) (x := ⟨x1, x2, x3, x4, x5, x6⟩) (L := L) h1 h2 h3)
  generalize hpe : putE room ⟨x1, x2, x3, x4, x5, x6⟩ L = pe at *
  generalize hpl : putL room ⟨x1, x2, x3, x4, x5, x6⟩ L = pl at *
  clear hpe hpl
  have FIN := Lib.hid (fun w6 w9 g1 cap1 => app_fin (k := true) (g := g) (room := room) (v := v) (L := L) (x := ⟨x1, x2, x3, x4, x5, x6⟩) (w := w) (w6 := w6) (w9 := w9) (g1 := g1) (cap1 := cap1))
  have HOK : Hid (noneA x1 x2 = false → noneA x3 x4 = false → ¬ x5.size = 0 → x5.size ≤ 1024 → OkI ⟨x1, x2, x3, x4, x5, x6⟩) := fun h1 h2 h3 h4 => ⟨hx0, hx1, h1, h2, h3, h4⟩
  obtain ⟨i0, hi0, hz0, hz1, hz2⟩ := info_parts info_item
  have hl2 : (L.length : Int) ≤ 256 := by omega
  have hl3 : L.length ≤ 256 := by omega
  simp only at E1 E2 E3 E4
  generalize noneA x1 x2 = p at *
  generalize noneA x3 x4 = q at *
  cases p
  · cases q
    · by_cases h0 : x5.size = 0
      · obtain rfl := str_nil h0
        have HL : ((⟨#[]⟩ : ByteArray).size = 0 ∨ 1024 < (⟨#[]⟩ : ByteArray).size) := .inl rfl
        clear h
        go_enter Try.func32, Try.ntmps32
        go_wp2_with fail
        refine (K1 _).mono ?_; rintro e w1 ⟨rfl, b1⟩
        replace hB := Lib.hid (hB.out.trans (b1.mono hB.out.size)); replace X := Lib.hid (X.out.keep b1); clear b1
        have c2 := X.out.cell 2 _ rfl; have c3 := X.out.cell 3 _ rfl; have xl := X.out.lt
        go_wp2_with fail
        refine (K2 _).mono ?_; rintro e w2 ⟨rfl, b2⟩
        clear c2 c3 xl
        replace hB := Lib.hid (hB.out.trans (b2.mono hB.out.size)); replace X := Lib.hid (X.out.keep b2); clear b2
        have c4 := X.out.cell 4 _ rfl; have xl := X.out.lt
        go_wp2
        go_ret
        exact ⟨by rw [(E2.out rfl HL).1]; rfl, by rw [(E2.out rfl HL).2]; exact HH.out.same hB.out⟩
      · obtain ⟨s1, s2⟩ := str_ne h0
        by_cases h1 : 1024 < x5.size
        · have HL : (x5.size = 0 ∨ 1024 < x5.size) := .inr h1
          have hs1 : decide (1024 < (x5.size : Int)) = true := decide_eq_true (by omega)
          clear h
          go_enter Try.func32, Try.ntmps32
          go_wp2_with fail
          refine (K1 _).mono ?_; rintro e w1 ⟨rfl, b1⟩
          replace hB := Lib.hid (hB.out.trans (b1.mono hB.out.size)); replace X := Lib.hid (X.out.keep b1); clear b1
          have c2 := X.out.cell 2 _ rfl; have c3 := X.out.cell 3 _ rfl; have xl := X.out.lt
          go_wp2_with fail
          refine (K2 _).mono ?_; rintro e w2 ⟨rfl, b2⟩
          clear c2 c3 xl
          replace hB := Lib.hid (hB.out.trans (b2.mono hB.out.size)); replace X := Lib.hid (X.out.keep b2); clear b2
          have c4 := X.out.cell 4 _ rfl; have xl := X.out.lt
          go_wp2
          go_ret
          exact ⟨by rw [(E2.out rfl HL).1]; rfl, by rw [(E2.out rfl HL).2]; exact HH.out.same hB.out⟩
        · have HN : Hid (¬ (x5.size = 0 ∨ 1024 < x5.size)) := by show ¬ _; omega
          have hs1 : decide (1024 < (x5.size : Int)) = false := decide_eq_false (by omega)
          by_cases hf : L.length = room
          · clear h
            go_enter Try.func32, Try.ntmps32
            go_wp2_with fail
            refine (K1 _).mono ?_; rintro e w1 ⟨rfl, b1⟩
            replace hB := Lib.hid (hB.out.trans (b1.mono hB.out.size)); replace X := Lib.hid (X.out.keep b1); clear b1
            have c2 := X.out.cell 2 _ rfl; have c3 := X.out.cell 3 _ rfl; have xl := X.out.lt
            go_wp2_with fail
            refine (K2 _).mono ?_; rintro e w2 ⟨rfl, b2⟩
            clear c2 c3 xl
            replace hB := Lib.hid (hB.out.trans (b2.mono hB.out.size)); replace X := Lib.hid (X.out.keep b2); clear b2
            have c4 := X.out.cell 4 _ rfl; have xl := X.out.lt
            have KF := fun w' b => isFull_any g room _ L w' (HH.out.keep b)
            have KF2 := KF _ hB.out
            clear KF
            go_wp2_with fail
            refine KF2.mono ?_; rintro e w3 ⟨rfl, b3⟩
            clear KF2
            clear c4 xl
            replace hB := Lib.hid (hB.out.trans (b3.mono hB.out.size)); replace X := Lib.hid (X.out.keep b3); clear b3
            have hfd : decide (L.length = room) = true := decide_eq_true hf
            go_wp2
            go_ret
            exact ⟨by rw [(E3.out rfl HN.out hf).1]; rfl, by rw [(E3.out rfl HN.out hf).2]; exact HH.out.same hB.out⟩
          · have HR1 : Hid (L.length + 1 ≤ room) := by show L.length + 1 ≤ room; omega
            have HK := Lib.hid (HOK.out rfl rfl h0 (by omega))
            have hn := h.n
            obtain ⟨av, n, cv⟩ := v
            simp only at hn
            subst hn
            clear h
            go_enter Try.func32, Try.ntmps32
            go_wp2_with fail
            refine (K1 _).mono ?_; rintro e w1 ⟨rfl, b1⟩
            replace hB := Lib.hid (hB.out.trans (b1.mono hB.out.size)); replace X := Lib.hid (X.out.keep b1); clear b1
            have c2 := X.out.cell 2 _ rfl; have c3 := X.out.cell 3 _ rfl; have xl := X.out.lt
            go_wp2_with fail
            refine (K2 _).mono ?_; rintro e w2 ⟨rfl, b2⟩
            clear c2 c3 xl
            replace hB := Lib.hid (hB.out.trans (b2.mono hB.out.size)); replace X := Lib.hid (X.out.keep b2); clear b2
            have c4 := X.out.cell 4 _ rfl; have xl := X.out.lt
            have KF := fun w' b => isFull_any g room _ L w' (HH.out.keep b)
            have KF2 := KF _ hB.out
            clear KF
            go_wp2_with fail
            refine KF2.mono ?_; rintro e w3 ⟨rfl, b3⟩
            clear KF2
            clear c4 xl
            replace hB := Lib.hid (hB.out.trans (b3.mono hB.out.size)); replace X := Lib.hid (X.out.keep b3); clear b3
            have hfd : decide (L.length = room) = false := decide_eq_false hf
            have c4 := X.out.cell 4 _ rfl; have xl := X.out.lt
            have KC := sclone_any x5 (by omega)
            go_wp2_with fail
            refine (KC _).mono ?_; rintro e w4 ⟨rfl, b4⟩
            clear KC
            clear c4 xl
            replace hB := Lib.hid (hB.out.trans (b4.mono hB.out.size)); replace X := Lib.hid (X.out.keep b4); clear b4
            have H4 := HH.out.keep hB.out
            have hz : w.heap.size < w4.heap.size := X.out.lt
            have f4 := X.out.free 4 _ rfl
            have c4 := X.out.cell 4 _ rfl; have xl := X.out.lt
            go_wp2_with fail
            have hw5 : Below w.heap.size w (w4.setCell ⟨w.heap.size, 4, none⟩ (.string x5)) := hB.out.setCell (Nat.le_refl _) _
            have X5 : Cs w.heap.size [.int .u32 x1, .int .u16 x2, .int .u32 x3, .int .u16 x4, .string x5, .int .u64 x6] (w4.setCell ⟨w.heap.size, 4, none⟩ (.string x5)) := X.out.set 4 (.string x5) (by simp)
            generalize (w4.setCell ⟨w.heap.size, 4, none⟩ (.string x5)) = w5 at *
            have H5 := HH.out.keep hw5
            clear c4 f4 xl hz H4
            have gq := H5.box.cell 1 _ rfl; have gf := H5.box.free 1 _ rfl; have gl := H5.box.lt
            have c0 := X5.cell 0 _ rfl; have c1 := X5.cell 1 _ rfl; have c2 := X5.cell 2 _ rfl; have c3 := X5.cell 3 _ rfl; have c4 := X5.cell 4 _ rfl; have c5 := X5.cell 5 _ rfl; have xl := X5.lt
            have H7 := Lib.hid (fun o => H5.keep (((Below.refl w5.heap.size w5).alloc (Nat.le_refl _) o).drew))
            have B7 := Lib.hid (fun o => ((hw5.alloc hw5.size o).drew))
            clear H5 X5 hw5 hB X K1 K2 E1 E2 E3
            go_region_law (first | (refine step_append_lies _ (by rfl) _ _ _ (by rfl) 0 75 i0 _ 6 40 Try.underlying83 hi0 hz0 hz1 hz2 rfl (by omega) (.slice av L.length cv) L.length (L.map ci).flatten (by rfl) (H7.out _).row ⟨_, 0, none⟩ 1 1 [.int .u32 x1, .int .u16 x2, .int .u32 x3, .int .u16 x4, .string x5, .int .u64 x6] (by rfl) (by rfl) (World.news_of_block (cs := #[.int .u32 x1, .int .u16 x2, .int .u32 x3, .int .u16 x4, .string x5, .int .u64 x6]) (t := 75) (fr := (0, 0)) (heap_alloc_new _ _)) (by simp [Value.oneCell']) (by omega) (by unfold maxLen; omega) (by omega) (Nat.zero_le _) _ rfl ?_; intro g1 cap1 w9 hown hgrow hat hlt9; obtain ⟨af, box9⟩ := FIN.out _ _ _ _ (H7.out _) (B7.out _) hown hgrow hat HR1.out HK.out; have AF := Lib.hid af; clear hown hgrow hat af gq; have gq := box9.cell 1 _ rfl; have gf9 := box9.free 1 _ rfl; have gl9 := box9.lt; clear box9))
            all_goals go_wp2
            all_goals go_ret
            all_goals exact ⟨by rw [(E4.out rfl HN.out hf).1]; rfl, by rw [(E4.out rfl HN.out hf).2]; exact AF.out⟩
    · clear h
      go_enter Try.func32, Try.ntmps32
      go_wp2_with fail
      refine (K1 _).mono ?_; rintro e w1 ⟨rfl, b1⟩
      replace hB := Lib.hid (hB.out.trans (b1.mono hB.out.size)); replace X := Lib.hid (X.out.keep b1); clear b1
      have c2 := X.out.cell 2 _ rfl; have c3 := X.out.cell 3 _ rfl; have xl := X.out.lt
      go_wp2_with fail
      refine (K2 _).mono ?_; rintro e w2 ⟨rfl, b2⟩
      clear c2 c3 xl
      replace hB := Lib.hid (hB.out.trans (b2.mono hB.out.size)); replace X := Lib.hid (X.out.keep b2); clear b2
      go_wp2
      go_ret
      exact ⟨by rw [(E1.out rfl).1]; rfl, by rw [(E1.out rfl).2]; exact HH.out.same hB.out⟩
  · clear h
    go_enter Try.func32, Try.ntmps32
    go_wp2_with fail
    refine (K1 _).mono ?_; rintro e w1 ⟨rfl, b1⟩
    replace hB := Lib.hid (hB.out.trans (b1.mono hB.out.size)); replace X := Lib.hid (X.out.keep b1); clear b1
    have c0 := X.out.cell 0 _ rfl; have c1 := X.out.cell 1 _ rfl; have xl := X.out.lt
    go_wp2
    go_ret
    exact ⟨by rw [(E1.out rfl).1]; rfl, by rw [(E1.out rfl).2]; exact HH.out.same hB.out⟩
end Go.Proofs.Ytdpgmdkclaahdaa.Bg