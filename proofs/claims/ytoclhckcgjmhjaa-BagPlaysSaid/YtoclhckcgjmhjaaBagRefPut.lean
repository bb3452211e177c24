/- The reference's bag: Put, Twice, Delay. -/
import Derived.Test.YtoclhckcgjmhjaaBagRefTake
namespace Go.Proofs.Ytoclhckcgjmhjaa
open Go.Sort Go.RowKit Go.BigFrame
set_option linter.unusedVariables false
set_option linter.unusedSimpArgs false

set_option maxHeartbeats 6400000 in
set_option maxRecDepth 100000 in
theorem rput_any (x1 x2 x3 x4 : Int) (x5 : ByteArray) (x6 : Int) (hx0 : 0 ≤ x6) (hx1 : x6 ≤ 18446744073709551615) (hxs : x5.size ≤ 140737488355328) (g room : Nat) (v : Sl) (L : List Pi) (w : World) (h : Bs false g room v L w) :
    Calls Try.prog 34 #[.pointer (some ⟨g, 0, none⟩), .agg #[.int .u32 x1, .int .u16 x2, .int .u32 x3, .int .u16 x4, .string x5, .int .u64 x6]] w (PutPost false g room v ⟨x1, x2, x3, x4, x5, x6⟩ L w) := by
  have hB : Hid (Below w.heap.size w (w.alloc (.cells #[.int .u32 x1, .int .u16 x2, .int .u32 x3, .int .u16 x4, .string x5, .int .u64 x6] 68))) := (Below.refl _ w).alloc (Nat.le_refl _) _
  have X := Lib.hid (Cs.new w [.int .u32 x1, .int .u16 x2, .int .u32 x3, .int .u16 x4, .string x5, .int .u64 x6] 68)
  have K1 := rnone_any x1 x2
  have K2 := rnone_any x3 x4
  have hl := h.len
  have hr2 := h.r2
  have HH := Lib.hid h
  unfold PutPost
  have E1 := Lib.hid (fun h1 => put_none (room := room) (x := ⟨x1, x2, x3, x4, x5, x6⟩) (L := L) h1)
  have E2 := Lib.hid (fun h1 h2 => put_long (room := room) (x := ⟨x1, x2, x3, x4, x5, x6⟩) (L := L) h1 h2)
  have E3 := Lib.hid (fun h1 h2 h3 => put_full (room := room) (x := ⟨x1, x2, x3, x4, x5, x6⟩) (L := L) h1 h2 h3)
  have E4 := Lib.hid (fun h1 h2 h3 => put_good (room := room) (x := ⟨x1, x2, x3, x4, x5, x6⟩) (L := L) h1 h2 h3)
  generalize hpe : putE room ⟨x1, x2, x3, x4, x5, x6⟩ L = pe at *
  generalize hpl : putL room ⟨x1, x2, x3, x4, x5, x6⟩ L = pl at *
  clear hpe hpl
  have FIN := Lib.hid (fun w6 w9 g1 cap1 => app_fin (k := false) (g := g) (room := room) (v := v) (L := L) (x := ⟨x1, x2, x3, x4, x5, x6⟩) (w := w) (w6 := w6) (w9 := w9) (g1 := g1) (cap1 := cap1))
  have HOK : Hid (noneA x1 x2 = false → noneA x3 x4 = false → ¬ x5.size = 0 → x5.size ≤ 1024 → OkI ⟨x1, x2, x3, x4, x5, x6⟩) := fun h1 h2 h3 h4 => ⟨hx0, hx1, h1, h2, h3, h4⟩
  obtain ⟨i0, hi0, hz0, hz1, hz2⟩ := info_parts info_ritem
  have hl2 : (L.length : Int) ≤ 256 := by omega
  have hl3 : L.length ≤ 256 := by omega
  have hn := h.n
  obtain ⟨av, n9, cv⟩ := v
  simp only at hn
  subst hn
  simp only at E1 E2 E3 E4
  generalize noneA x1 x2 = p at *
  generalize noneA x3 x4 = q at *
  cases p
  · cases q
    · by_cases h0 : x5.size = 0
      · obtain rfl := str_nil h0
        have HL : ((⟨#[]⟩ : ByteArray).size = 0 ∨ 1024 < (⟨#[]⟩ : ByteArray).size) := .inl rfl
        clear h
        go_enter Try.func34, Try.ntmps34
        go_wp2_with fail
        refine (K1 _).mono ?_; rintro e w1 ⟨rfl, b1⟩
        replace hB := Lib.hid (hB.out.trans (b1.mono hB.out.size)); replace X := Lib.hid (X.out.keep b1); clear b1
        have c2 := X.out.cell 2 _ rfl; have c3 := X.out.cell 3 _ rfl; have xl := X.out.lt
        go_wp2_with fail
        refine (K2 _).mono ?_; rintro e w2 ⟨rfl, b2⟩
        clear c2 c3 xl
        replace hB := Lib.hid (hB.out.trans (b2.mono hB.out.size)); replace X := Lib.hid (X.out.keep b2); clear b2
        have c4 := X.out.cell 4 _ rfl; have xl := X.out.lt
        go_wp2
        go_ret
        exact ⟨by rw [(E2.out rfl HL).1]; rfl, by rw [(E2.out rfl HL).2]; exact HH.out.same hB.out⟩
      · obtain ⟨s1, s2⟩ := str_ne h0
        by_cases h1 : 1024 < x5.size
        · have HL : (x5.size = 0 ∨ 1024 < x5.size) := .inr h1
          have hs1 : decide (1024 < (x5.size : Int)) = true := decide_eq_true (by omega)
          clear h
          go_enter Try.func34, Try.ntmps34
          go_wp2_with fail
          refine (K1 _).mono ?_; rintro e w1 ⟨rfl, b1⟩
          replace hB := Lib.hid (hB.out.trans (b1.mono hB.out.size)); replace X := Lib.hid (X.out.keep b1); clear b1
          have c2 := X.out.cell 2 _ rfl; have c3 := X.out.cell 3 _ rfl; have xl := X.out.lt
          go_wp2_with fail
          refine (K2 _).mono ?_; rintro e w2 ⟨rfl, b2⟩
          clear c2 c3 xl
          replace hB := Lib.hid (hB.out.trans (b2.mono hB.out.size)); replace X := Lib.hid (X.out.keep b2); clear b2
          have c4 := X.out.cell 4 _ rfl; have xl := X.out.lt
          go_wp2
          go_ret
          exact ⟨by rw [(E2.out rfl HL).1]; rfl, by rw [(E2.out rfl HL).2]; exact HH.out.same hB.out⟩
        · have HN : Hid (¬ (x5.size = 0 ∨ 1024 < x5.size)) := by show ¬ _; omega
          have hs1 : decide (1024 < (x5.size : Int)) = false := decide_eq_false (by omega)
          by_cases hf : L.length = room
          · have hfd : decide ((room : Int) ≤ (L.length : Int)) = true := decide_eq_true (by omega)
            have hfd2 : decide (room ≤ L.length) = true := decide_eq_true (by omega)
            clear h
            go_enter Try.func34, Try.ntmps34
            go_wp2_with fail
            refine (K1 _).mono ?_; rintro e w1 ⟨rfl, b1⟩
            replace hB := Lib.hid (hB.out.trans (b1.mono hB.out.size)); replace X := Lib.hid (X.out.keep b1); clear b1
            have c2 := X.out.cell 2 _ rfl; have c3 := X.out.cell 3 _ rfl; have xl := X.out.lt
            go_wp2_with fail
            refine (K2 _).mono ?_; rintro e w2 ⟨rfl, b2⟩
            clear c2 c3 xl
            replace hB := Lib.hid (hB.out.trans (b2.mono hB.out.size)); replace X := Lib.hid (X.out.keep b2); clear b2
            have c4 := X.out.cell 4 _ rfl; have xl := X.out.lt
            have H4 := HH.out.keep hB.out
            have g0 := H4.box.cell 0 _ rfl; have g1 := H4.box.cell 1 _ rfl; have gl := H4.box.lt
            clear H4
            go_wp2_with fail
            go_region
            have HBd := Lib.hid hB.out.drew
            go_wp2
            go_ret
            exact ⟨by rw [(E3.out rfl HN.out hf).1]; rfl, by rw [(E3.out rfl HN.out hf).2]; exact HH.out.same HBd.out⟩
          · have hfd : decide ((room : Int) ≤ (L.length : Int)) = false := decide_eq_false (by omega)
            have hfd2 : decide (room ≤ L.length) = false := decide_eq_false (by omega)
            have HR1 : Hid (L.length + 1 ≤ room) := by show L.length + 1 ≤ room; omega
            have HK := Lib.hid (HOK.out rfl rfl h0 (by omega))
            clear h
            go_enter Try.func34, Try.ntmps34
            go_wp2_with fail
            refine (K1 _).mono ?_; rintro e w1 ⟨rfl, b1⟩
            replace hB := Lib.hid (hB.out.trans (b1.mono hB.out.size)); replace X := Lib.hid (X.out.keep b1); clear b1
            have c2 := X.out.cell 2 _ rfl; have c3 := X.out.cell 3 _ rfl; have xl := X.out.lt
            go_wp2_with fail
            refine (K2 _).mono ?_; rintro e w2 ⟨rfl, b2⟩
            clear c2 c3 xl
            replace hB := Lib.hid (hB.out.trans (b2.mono hB.out.size)); replace X := Lib.hid (X.out.keep b2); clear b2
            have c4 := X.out.cell 4 _ rfl; have xl := X.out.lt
            have H4 := HH.out.keep hB.out
            have g0 := H4.box.cell 0 _ rfl; have g1 := H4.box.cell 1 _ rfl; have gl := H4.box.lt
            clear H4
            go_wp2_with fail
            go_region
            have hw5 : Below w.heap.size w w2.drew := hB.out.drew
            have X5 : Cs w.heap.size [.int .u32 x1, .int .u16 x2, .int .u32 x3, .int .u16 x4, .string x5, .int .u64 x6] w2.drew := X.out.drew
            clear g0 g1 gl c4 xl
            have H5 := HH.out.keep hw5
            go_upto_region 9 with fail
            generalize w2.drew = w5 at *
            have gq := H5.box.cell 0 _ rfl; have gf := H5.box.free 0 _ rfl; have gl := H5.box.lt
            have c0 := X5.cell 0 _ rfl; have c1 := X5.cell 1 _ rfl; have c2 := X5.cell 2 _ rfl; have c3 := X5.cell 3 _ rfl; have c4 := X5.cell 4 _ rfl; have c5 := X5.cell 5 _ rfl; have xl := X5.lt
            have H7 := Lib.hid (fun o => H5.keep (((Below.refl w5.heap.size w5).alloc (Nat.le_refl _) o).drew))
            have B7 := Lib.hid (fun o => ((hw5.alloc hw5.size o).drew))
            clear H5 X5 hw5 K1 K2 E1 E2 E3
            go_region_law (first | (refine step_append_lies _ (by rfl) _ _ _ (by rfl) 0 68 i0 _ 6 40 Try.underlying82 hi0 hz0 hz1 hz2 rfl (by omega) (.slice av L.length cv) L.length (L.map ci).flatten (by rfl) (H7.out _).row ⟨_, 0, none⟩ 1 1 [.int .u32 x1, .int .u16 x2, .int .u32 x3, .int .u16 x4, .string x5, .int .u64 x6] (by rfl) (by rfl) (World.news_of_block (cs := #[.int .u32 x1, .int .u16 x2, .int .u32 x3, .int .u16 x4, .string x5, .int .u64 x6]) (t := 68) (fr := (0, 0)) (heap_alloc_new _ _)) (by simp [Value.oneCell']) (by omega) (by unfold maxLen; omega) (by omega) (Nat.zero_le _) _ rfl ?_; intro g1 cap1 w9 hown hgrow hat hlt9; obtain ⟨af, box9⟩ := FIN.out _ _ _ _ (H7.out _) (B7.out _) hown hgrow hat HR1.out HK.out; have AF := Lib.hid af; clear hown hgrow hat af gq; have gq := box9.cell 0 _ rfl; have gf9 := box9.free 0 _ rfl; have gl9 := box9.lt; clear box9))
            all_goals go_wp2
            all_goals go_ret
            all_goals exact ⟨by rw [(E4.out rfl HN.out hf).1]; rfl, by rw [(E4.out rfl HN.out hf).2]; exact AF.out⟩
    · clear h
      go_enter Try.func34, Try.ntmps34
      go_wp2_with fail
      refine (K1 _).mono ?_; rintro e w1 ⟨rfl, b1⟩
      replace hB := Lib.hid (hB.out.trans (b1.mono hB.out.size)); replace X := Lib.hid (X.out.keep b1); clear b1
      have c2 := X.out.cell 2 _ rfl; have c3 := X.out.cell 3 _ rfl; have xl := X.out.lt
      go_wp2_with fail
      refine (K2 _).mono ?_; rintro e w2 ⟨rfl, b2⟩
      clear c2 c3 xl
      replace hB := Lib.hid (hB.out.trans (b2.mono hB.out.size)); replace X := Lib.hid (X.out.keep b2); clear b2
      go_wp2
      go_ret
      exact ⟨by rw [(E1.out rfl).1]; rfl, by rw [(E1.out rfl).2]; exact HH.out.same hB.out⟩
  · clear h
    go_enter Try.func34, Try.ntmps34
    go_wp2_with fail
    refine (K1 _).mono ?_; rintro e w1 ⟨rfl, b1⟩
    replace hB := Lib.hid (hB.out.trans (b1.mono hB.out.size)); replace X := Lib.hid (X.out.keep b1); clear b1
    have c2 := X.out.cell 2 _ rfl; have c3 := X.out.cell 3 _ rfl; have xl := X.out.lt
    go_wp2_with fail
    refine (K2 _).mono ?_; rintro e w2 ⟨rfl, b2⟩
    clear c2 c3 xl
    replace hB := Lib.hid (hB.out.trans (b2.mono hB.out.size)); replace X := Lib.hid (X.out.keep b2); clear b2
    go_wp2
    go_ret
    exact ⟨by rw [(E1.out rfl).1]; rfl, by rw [(E1.out rfl).2]; exact HH.out.same hB.out⟩
set_option maxHeartbeats 6400000 in
set_option maxRecDepth 100000 in
theorem rtwice_any (pick : Int) (hp : pick ≤ 9223372036854775807) (g room : Nat) (v : Sl) (L : List Pi) (w : World) (h : Bs false g room v L w) :
    Calls Try.prog 29 #[.pointer (some ⟨g, 0, none⟩), .int .i64 pick] w (TwicePost false g room v pick L w) := by
  have F := rpick_any pick hp g room v L w h
  unfold TwicePost
  rcases pick_cases 18446744073709551615 pick L with ⟨e1, hq, he, he15⟩ | ⟨j, hq⟩
  · obtain ⟨q1, q2⟩ := twice_bad (room := room) hq he
    rw [q1, q2]
    rw [hq] at F
    have he2 : (e1 == 0) = false := by rw [beq_eq_false_iff_ne]; exact he
    have HH := Lib.hid h
    clear h q1 q2 hq he he15
    go_enter Try.func29, Try.ntmps29
    go_wp2_with fail
    (with_reducible refine F.mono ?_); rintro e w1 ⟨rfl, rfl⟩
    go_wp2_with fail
    go_ret
    exact ⟨rfl, HH.out.same (Below.refl _ _)⟩
  · have hj := pick_lt hq
    have hx : L[j]? = some L[j] := List.getElem?_eq_getElem hj
    have hk := h.ok _ (List.getElem_mem hj)
    have hl := h.len
    have hr2 := h.r2
    have hl2 : (L.length : Int) ≤ 256 := by omega
    have hjl : (j : Int) < L.length := by omega
    have hj0 : (0 : Int) ≤ j := by omega
    have PT := rput_any L[j].fi L[j].fp L[j].ti L[j].tp L[j].b L[j].t hk.t0 hk.t1 (by have := hk.b1; omega) g room v L w h
    unfold PutPost at PT
    have hq2 : putE room L[j] L = twiceE room pick L ∧ putL room L[j] L = twiceL room pick L := by
      have hnn : (noneA L[j].fi L[j].fp || noneA L[j].ti L[j].tp) = false := by rw [hk.f, hk.to_]; rfl
      have hb : ¬ (L[j].b.size = 0 ∨ 1024 < L[j].b.size) := by have h1 := hk.b0; have h2 := hk.b1; omega
      by_cases hf : L.length = room
      · obtain ⟨a1, a2⟩ := put_full (x := L[j]) hnn hb hf
        obtain ⟨b1, b2⟩ := twice_full hq hf
        exact ⟨a1.trans b1.symm, a2.trans b2.symm⟩
      · obtain ⟨a1, a2⟩ := put_good (x := L[j]) hnn hb hf
        obtain ⟨b1, b2⟩ := twice_good hq hf hj
        exact ⟨a1.trans b1.symm, a2.trans b2.symm⟩
    have hxe : (⟨L[j].fi, L[j].fp, L[j].ti, L[j].tp, L[j].b, L[j].t⟩ : Pi) = L[j] := rfl
    rw [hxe, hq2.1, hq2.2] at PT
    rw [hq] at F
    have hn := h.n
    obtain ⟨av, n9, cv⟩ := v
    simp only at hn
    subst hn
    have g0 := h.box.cell 0 _ rfl
    have gl := h.box.lt
    obtain ⟨b, off, hbo, hbl, hcc⟩ := h.rd (by omega)
    simp only at hbo
    subst hbo
    have c0 := hcc j _ hx 0 _ rfl
    have c1 := hcc j _ hx 1 _ rfl
    have c2 := hcc j _ hx 2 _ rfl
    have c3 := hcc j _ hx 3 _ rfl
    have c4 := hcc j _ hx 4 _ rfl
    have c5 := hcc j _ hx 5 _ rfl
    simp only [Nat.add_zero] at c0
    generalize twiceE room pick L = te at *
    generalize twiceL room pick L = tl at *
    clear hcc h hq hq2 hk hx hxe
    generalize L[j] = y at *
    obtain ⟨y1, y2, y3, y4, y5, y6⟩ := y
    simp only at c0 c1 c2 c3 c4 c5 PT
    go_enter Try.func29, Try.ntmps29
    go_wp2_with fail
    (with_reducible refine F.mono ?_); rintro e w1 ⟨rfl, rfl⟩
    clear F
    go_wp2_with fail
    (with_reducible refine PT.mono ?_); rintro e w3 hA
    obtain ⟨rfl, hA⟩ := hA
    have HA := Lib.hid hA
    clear hA PT
    go_wp2_with fail
    go_ret
    exact ⟨rfl, HA.out⟩
set_option maxHeartbeats 6400000 in
set_option maxRecDepth 100000 in
theorem rdelay_any (pick by_ : Int) (hp : pick ≤ 9223372036854775807) (hb0 : 0 ≤ by_ ∧ by_ ≤ 18446744073709551615) (g room : Nat) (v : Sl) (L : List Pi) (w : World) (h : Bs false g room v L w) :
    Calls Try.prog 31 #[.pointer (some ⟨g, 0, none⟩), .int .i64 pick, .int .u64 by_] w (DelayPost false g room v pick by_ L w) := by
  have F := rpick_any pick hp g room v L w h
  unfold DelayPost
  rcases pick_cases 18446744073709551615 pick L with ⟨e1, hq, he, he15⟩ | ⟨j, hq⟩
  · rw [delay_bad hq he, hq]
    rw [hq] at F
    have he2 : (e1 == 0) = false := by rw [beq_eq_false_iff_ne]; exact he
    have HH := Lib.hid h
    clear h hq he he15
    go_enter Try.func31, Try.ntmps31
    go_wp2_with fail
    (with_reducible refine F.mono ?_); rintro e w1 ⟨rfl, rfl⟩
    go_wp2_with fail
    go_ret
    exact ⟨rfl, HH.out.same (Below.refl _ _)⟩
  · have hj := pick_lt hq
    have hl := h.len
    have hr2 := h.r2
    rw [delay_good hq, hq]
    rw [hq] at F
    have hn := h.n
    obtain ⟨av, n9, cv⟩ := v
    simp only at hn
    subst hn
    have HH := Lib.hid h
    obtain ⟨gv, rfl⟩ : ∃ gv, av = some ⟨gv, 0, none⟩ := by
      rcases irow_form h.row with ⟨_, rfl⟩ | ⟨gv, _, h1, _⟩
      · simp at hj
      · simp [Sl.v] at h1; exact ⟨gv, h1.1⟩
    have hx : L[j]? = some L[j] := List.getElem?_eq_getElem hj
    have hk := h.ok _ (List.getElem_mem hj)
    have FIN := Lib.hid (fun w2 hb => h.late (w2 := w2) hb hj hb0)
    have hjl : (j : Int) < L.length := by omega
    have hj0 : (0 : Int) ≤ j := by omega
    have hl2 : (L.length : Int) ≤ 256 := by omega
    have gq := h.box.cell 0 _ rfl
    have gl := h.box.lt
    obtain ⟨b, off, hbo, hbl, hcc⟩ := h.rd (by omega)
    simp only [Option.some.injEq, Addr.mk.injEq, and_true] at hbo
    obtain ⟨rfl, rfl⟩ := hbo
    have c5 := hcc j _ hx 5 _ rfl
    simp only [Nat.zero_add] at c5
    have f5 : w.frozen? ⟨gv, j * 6 + 5, none⟩ = false := by
      obtain ⟨-, C, hC, _⟩ := irow_open h.row
      exact hC.free _
    have t0 := hk.t0
    have t1 := hk.t1
    obtain ⟨b0, b1⟩ := hb0
    clear hq h hk hcc hx
    generalize L[j] = y at *
    obtain ⟨y1, y2, y3, y4, y5, y6⟩ := y
    simp only at FIN t0 t1 c5
    by_cases h1 : 4611686018427387904 < by_
    · have hd1 : decide (4611686018427387904 < by_) = true := decide_eq_true h1
      have el : laterP y6 by_ = 4611686018427387904 := if_pos (by omega)
      have FB := Lib.hid (FIN.out w (Below.refl _ _))
      rw [el] at FB
      clear FIN el
      go_enter Try.func31, Try.ntmps31
      go_wp2_with fail
      (with_reducible refine F.mono ?_); rintro e w1 ⟨rfl, rfl⟩
      clear F
      go_wp2_with fail
      go_ret
      exact ⟨rfl, FB.out⟩
    · have hd1 : decide (4611686018427387904 < by_) = false := decide_eq_false h1
      have ws : IntKind.u64.wrap (4611686018427387904 - by_) = 4611686018427387904 - by_ := IntWalk.u64_in _ ⟨by omega, by omega⟩
      by_cases h2 : 4611686018427387904 - by_ < y6
      · have hd2 : decide (4611686018427387904 - by_ < y6) = true := decide_eq_true h2
        have el : laterP y6 by_ = 4611686018427387904 := if_pos (by omega)
        have FB := Lib.hid (FIN.out w (Below.refl _ _))
        rw [el] at FB
        clear FIN el
        go_enter Try.func31, Try.ntmps31
        go_wp2_with fail
        (with_reducible refine F.mono ?_); rintro e w1 ⟨rfl, rfl⟩
        clear F
        go_wp2_with fail
        go_ret
        exact ⟨rfl, FB.out⟩
      · have hd2 : decide (4611686018427387904 - by_ < y6) = false := decide_eq_false h2
        have el : laterP y6 by_ = y6 + by_ := if_neg (by omega)
        have wp : IntKind.u64.wrap (y6 + by_) = y6 + by_ := IntWalk.u64_in _ ⟨by omega, by omega⟩
        have FB := Lib.hid (FIN.out w.drew ((Below.refl _ _).drew))
        rw [el] at FB
        clear FIN el
        go_enter Try.func31, Try.ntmps31
        go_wp2_with fail
        (with_reducible refine F.mono ?_); rintro e w1 ⟨rfl, rfl⟩
        clear F
        go_wp2_with fail
        go_region
        go_wp2
        go_ret
        exact ⟨rfl, FB.out⟩
end Go.Proofs.Ytoclhckcgjmhjaa
