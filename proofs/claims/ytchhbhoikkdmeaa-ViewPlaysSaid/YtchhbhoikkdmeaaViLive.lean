/- The program's view: Live. -/
import Derived.Test.YtchhbhoikkdmeaaViEv
namespace Go.Proofs.Ytchhbhoikkdmeaa
open Go.Sort Go.RowKit Go.BigFrame
set_option linter.unusedVariables false
set_option linter.unusedSimpArgs false

def liveTo (v : Vw) (m : Nat) : List Int := ((knownTo v m).filter fun i => liveI (v.k i).st).map fun i : Nat => (i : Int)
theorem live_yes {v : Vw} {m : Nat} (h : knows v m = true) (hl : liveI (v.k m).st = true) : liveTo v (m + 1) = liveTo v m ++ [(m : Int)] := by
  unfold liveTo; rw [known_yes h, List.filter_append, List.map_append]; simp [hl]
theorem live_not {v : Vw} {m : Nat} (h : knows v m = true) (hl : liveI (v.k m).st = false) : liveTo v (m + 1) = liveTo v m := by
  unfold liveTo; rw [known_yes h, List.filter_append, List.map_append]; simp [hl]
theorem live_no {v : Vw} {m : Nat} (h : knows v m = false) : liveTo v (m + 1) = liveTo v m := by unfold liveTo; rw [known_no h]
theorem live_len (v : Vw) (m : Nat) : (liveTo v m).length ≤ m := by
  unfold liveTo; rw [List.length_map]
  exact Nat.le_trans (List.length_filter_le _ _) (known_len v m)
theorem live_one (v : Vw) : liveTo v 1 = [] := by
  have h : knows v (0 : Nat) = false := by
    cases hk : knows v (0 : Nat) with
    | false => rfl
    | true => rw [knowsN_iff] at hk; omega
  rw [live_no h]; rfl
structure LvR (v : Vw) (g : Nat) (w : World) (i : Nat) (sv : Value) (wr : World) : Prop where
  row : ERow c64 1 3 wr sv (liveTo v (i + 1))
  below : Below w.heap.size w wr
  own : ∀ k, sv.ownBlock = some k → w.heap.size ≤ k
def LvJ (v : Vw) (g : Nat) (w : World) (a' : Act) (wr : World) : Prop :=
  ∃ (i : Nat) (q : Int) (sv : Value), q = (i : Int) ∧ i ≤ 32 ∧ a'.defers = [] ∧ (∃ u5 u6 u7 u8 u9 u10 u11 u12 u13 u14 u15 u16 u17 u18 u19 u20 u21 u22 u23 u24 u25 u26, a'.tmps = #[.pointer (some ⟨g, 0, none⟩), undef, .slice none 0 0, sv, .int .i64 q, u5, u6, u7, u8, u9, u10, u11, u12, u13, u14, u15, u16, u17, u18, u19, u20, u21, u22, u23, u24, u25, u26]) ∧ LvR v g w i sv wr
/-- an ID more -/
theorem LvR.no {v : Vw} {g i : Nat} {w wr w' : World} {sv : Value} (h : LvR v g w i sv wr) (hb : Below wr.heap.size wr w') (he : liveTo v (i + 1 + 1) = liveTo v (i + 1)) : LvR v g w (i + 1) sv w' :=
  ⟨by rw [he]; exact erow_keep h.row hb, h.below.trans (hb.mono h.below.size), h.own⟩
set_option maxHeartbeats 3200000 in
set_option maxRecDepth 100000 in
theorem live_all (g : Nat) (v : Vw) (w : World) (h : Vs g v w) :
    Calls Try.prog 22 #[.pointer (some ⟨g, 0, none⟩)] w (NewPost c64 1 3 (liveTo v 33) w) := by
  obtain ⟨i0, hi0, hz0, hz1, hz2⟩ := info_parts info_int
  have HV := Lib.hid h
  have R0 : Hid (LvR v g w 0 (.slice none 0 0) w) := ⟨by rw [live_one]; exact erow_nil, Below.refl _ _, fun k hk => by simp [Value.ownBlock] at hk⟩
  clear h
  go_enter Try.func22, Try.ntmps22
  go_wp2
  refine wp_scope_jumps 0 (LvJ v g w) (fun a' _ => 33 - (intOf (a'.tmps.getD 4 undef)).toNat) rfl ?_ ?_
  · go_wp2_with fail
    go_step3
    have hlt : 0 < 32 := by omega
    have K := of_any (((0 : Nat) + 1 : Nat) : Int) g v w (HV.out.keep R0.out.below)
    unfold OfPost at K
    have KY := live_yes (v := v) (m := 0 + 1)
    have KT := live_not (v := v) (m := 0 + 1)
    have KN := live_no (v := v) (m := 0 + 1)
    have KO := of_yes (v := v) (i := ((0 + 1 : Nat) : Int))
    have KZ := of_no (v := v) (i := ((0 + 1 : Nat) : Int))
    have hll := live_len v (0 + 1)
    have HLL := Lib.hid hll
    simp only [Int.toNat_natCast] at KO
    have hi0' : (0 : Int) ≤ ((0 : Nat) : Int) := by omega
    have hi1' : ((0 : Nat) : Int) + 1 ≤ 32 := by omega
    have hi2' : ¬ (32 : Int) < ((0 : Nat) : Int) + 1 := by omega
    have HI : Hid (0 + 1 ≤ 32) := by show 0 + 1 ≤ 32; omega
    generalize hr : v.k (0 + 1) = s at *
    generalize ofV v ((0 + 1 : Nat) : Int) = r at *
    generalize knows v ((0 + 1 : Nat) : Int) = q at *
    rw [show (((0 + 1 : Nat) : Int)) = ((0 : Nat) : Int) + 1 by omega] at K
    clear hr
    simp only [Int.ofNat_zero, Int.zero_add, Nat.zero_add] at K hi0' hi1' hi2'
    cases q with
    | true =>
      obtain rfl := KO rfl
      have KL := live_any r.id r.st r.n r.ip r.port
      replace KY := Lib.hid (KY rfl)
      replace KT := Lib.hid (KT rfl)
      clear KN KO KZ
      generalize liveI r.st = lv at *
      go_wp2_with fail
      refine K.mono ?_; rintro e w3 ⟨rfl, b3⟩
      have X : Hid (Cs w3.heap.size (rcs r) (w3.alloc (.cells #[.int .i64 r.id, .int .i64 r.st, .int .u32 r.n, .int .u32 r.ip, .int .u16 r.port] 37))) := Cs.new w3 (rcs r) 37
      have x0 := X.out.cell 0 _ rfl
      have x1 := X.out.cell 1 _ rfl
      have x2 := X.out.cell 2 _ rfl
      have x3 := X.out.cell 3 _ rfl
      have x4 := X.out.cell 4 _ rfl
      have xl := X.out.lt
      have HB : Hid (Below w.heap.size w (w3.alloc (.cells #[.int .i64 r.id, .int .i64 r.st, .int .u32 r.n, .int .u32 r.ip, .int .u16 r.port] 37))) := b3.alloc b3.size _
      clear K b3 X
      go_upto_region 7 with fail
      generalize (w3.alloc (.cells #[.int .i64 r.id, .int .i64 r.st, .int .u32 r.n, .int .u32 r.ip, .int .u16 r.port] 37)) = wb at *
      cases lv with
      | true =>
        have EQ := Lib.hid (KY.out rfl)
        clear KY KT
        go_wp2_with fail
        refine (KL _).mono ?_; rintro e w4 ⟨rfl, b4⟩
        have HB4 : Hid (Below w.heap.size w w4) := HB.out.trans (b4.mono HB.out.size)
        clear KL b4 HB x0 x1 x2 x3 x4 xl
        have R1 := Lib.hid (erow_keep R0.out.row HB4.out)
        have L9 := HLL.out
        go_wp2_with (at_builtin; refine wpList_append_lies _ rfl (.tmp 23) (.tmp 25) 62 rfl 0 3 i0 _ 1 8 Try.underlying62 hi0 hz0 hz1 hz2 rfl (by omega) (Value.slice none 0 0) (liveTo v (0 + 1)).length ((liveTo v (0 + 1)).map c64).flatten rfl (erow_keep R1.out ((Below.refl _ _).alloc (Nat.le_refl _) _)) ⟨_, 0, none⟩ 1 1 (c64 (1)) rfl rfl (World.news_of_block (cs := (c64 (1)).toArray) (t := 3) (fr := (0, 0)) (heap_alloc_new _ _)) (c64_enc.one _) (by omega) ?c2 ?c3 ?c4 _ rfl ?_)
        case c2 => unfold maxLen; omega
        case c3 => omega
        case c4 => exact Nat.zero_le _
        intro g1 cap1 w9 hown hgrow hat hlt9
        have fin : Hid (LvR v g w (0 + 1) (.slice (some ⟨g1, 0, none⟩) ((liveTo v (0 + 1)).length + 1) cap1) w9) := by
          have hb4 := R0.out.below.trans (HB4.out.mono R0.out.below.size)
          have QB := hb4.alloc hb4.size (.cells (c64 (1)).toArray 3)
          refine ⟨?_, QB.grown hgrow QB.size (fun k hk => R0.out.own k hk), fun k hk => ?_⟩
          · rw [EQ.out]; exact erow_snoc rfl hown
          · obtain rfl : g1 = k := by injection hk
            rcases hat with h | h
            · exact R0.out.own _ h
            · rw [h]; have := hb4.size; simp; omega
        clear hown hgrow hat L9
        go_wp2
        go_step3
        go_wp2
        refine ⟨rfl, ⟨0 + 1, _, _, ?_, HI.out, rfl, ⟨_, _, _, _, _, _, _, _, _, _, _, _, _, _, _, _, _, _, _, _, _, _, rfl⟩, fin.out⟩⟩
        · first | (simp; done) | (simp; omega) | omega | rfl
      | false =>
        have EQ := Lib.hid (KT.out rfl)
        clear KY KT
        go_wp2_with fail
        refine (KL _).mono ?_; rintro e w4 ⟨rfl, b4⟩
        have HB4 : Hid (Below w.heap.size w w4) := HB.out.trans (b4.mono HB.out.size)
        have fin := Lib.hid (R0.out.no HB4.out EQ.out)
        clear KL b4 HB x0 x1 x2 x3 x4 xl
        go_wp2
        go_step3
        go_wp2
        refine ⟨rfl, ⟨0 + 1, _, _, ?_, HI.out, rfl, ⟨_, _, _, _, _, _, _, _, _, _, _, _, _, _, _, _, _, _, _, _, _, _, rfl⟩, fin.out⟩⟩
        · first | (simp; done) | (simp; omega) | omega | rfl
    | false =>
      obtain rfl := KZ rfl
      have EQ := Lib.hid (KN rfl)
      clear KY KT KN KO KZ
      go_wp2_with fail
      refine K.mono ?_; rintro e w3 ⟨rfl, b3⟩
      have HB4 : Hid (Below w.heap.size w (w3.alloc (.cells #[.int .i64 zRec.id, .int .i64 zRec.st, .int .u32 zRec.n, .int .u32 zRec.ip, .int .u16 zRec.port] 37))) := b3.alloc b3.size _
      have fin := Lib.hid (R0.out.no HB4.out EQ.out)
      clear K b3
      go_wp2
      go_step3
      go_wp2
      refine ⟨rfl, ⟨0 + 1, _, _, ?_, HI.out, rfl, ⟨_, _, _, _, _, _, _, _, _, _, _, _, _, _, _, _, _, _, _, _, _, _, rfl⟩, fin.out⟩⟩
      · first | (simp; done) | (simp; omega) | omega | rfl
  · rintro ⟨t1, d1⟩ w2 ⟨i, q, sv, rfl, hi, hd, ⟨u5, u6, u7, u8, u9, u10, u11, u12, u13, u14, u15, u16, u17, u18, u19, u20, u21, u22, u23, u24, u25, u26, ht⟩, hR⟩
    obtain rfl : d1 = [] := hd
    obtain rfl : t1 = _ := ht
    have R0 := Lib.hid hR
    clear hR
    by_cases hlt : i < 32
    · have K := of_any (((i : Nat) + 1 : Nat) : Int) g v w2 (HV.out.keep R0.out.below)
      unfold OfPost at K
      have KY := live_yes (v := v) (m := i + 1)
      have KT := live_not (v := v) (m := i + 1)
      have KN := live_no (v := v) (m := i + 1)
      have KO := of_yes (v := v) (i := ((i + 1 : Nat) : Int))
      have KZ := of_no (v := v) (i := ((i + 1 : Nat) : Int))
      have hll := live_len v (i + 1)
      have HLL := Lib.hid hll
      simp only [Int.toNat_natCast] at KO
      have hi0' : (0 : Int) ≤ ((i : Nat) : Int) := by omega
      have hi1' : ((i : Nat) : Int) + 1 ≤ 32 := by omega
      have hi2' : ¬ (32 : Int) < ((i : Nat) : Int) + 1 := by omega
      have HI : Hid (i + 1 ≤ 32) := by show i + 1 ≤ 32; omega
      generalize hr : v.k (i + 1) = s at *
      generalize ofV v ((i + 1 : Nat) : Int) = r at *
      generalize knows v ((i + 1 : Nat) : Int) = q at *
      rw [show (((i + 1 : Nat) : Int)) = ((i : Nat) : Int) + 1 by omega] at K
      clear hr
      cases q with
      | true =>
        obtain rfl := KO rfl
        have KL := live_any r.id r.st r.n r.ip r.port
        replace KY := Lib.hid (KY rfl)
        replace KT := Lib.hid (KT rfl)
        clear KN KO KZ
        generalize liveI r.st = lv at *
        go_wp2_with fail
        refine K.mono ?_; rintro e w3 ⟨rfl, b3⟩
        have X : Hid (Cs w3.heap.size (rcs r) (w3.alloc (.cells #[.int .i64 r.id, .int .i64 r.st, .int .u32 r.n, .int .u32 r.ip, .int .u16 r.port] 37))) := Cs.new w3 (rcs r) 37
        have x0 := X.out.cell 0 _ rfl
        have x1 := X.out.cell 1 _ rfl
        have x2 := X.out.cell 2 _ rfl
        have x3 := X.out.cell 3 _ rfl
        have x4 := X.out.cell 4 _ rfl
        have xl := X.out.lt
        have HB : Hid (Below w2.heap.size w2 (w3.alloc (.cells #[.int .i64 r.id, .int .i64 r.st, .int .u32 r.n, .int .u32 r.ip, .int .u16 r.port] 37))) := b3.alloc b3.size _
        clear K b3 X
        go_upto_region 7 with fail
        generalize (w3.alloc (.cells #[.int .i64 r.id, .int .i64 r.st, .int .u32 r.n, .int .u32 r.ip, .int .u16 r.port] 37)) = wb at *
        cases lv with
        | true =>
          have EQ := Lib.hid (KY.out rfl)
          clear KY KT
          go_wp2_with fail
          refine (KL _).mono ?_; rintro e w4 ⟨rfl, b4⟩
          have HB4 : Hid (Below w2.heap.size w2 w4) := HB.out.trans (b4.mono HB.out.size)
          clear KL b4 HB x0 x1 x2 x3 x4 xl
          have R1 := Lib.hid (erow_keep R0.out.row HB4.out)
          have L9 := HLL.out
          go_wp2_with (at_builtin; refine wpList_append_lies _ rfl (.tmp 23) (.tmp 25) 62 rfl 0 3 i0 _ 1 8 Try.underlying62 hi0 hz0 hz1 hz2 rfl (by omega) sv (liveTo v (i + 1)).length ((liveTo v (i + 1)).map c64).flatten rfl (erow_keep R1.out ((Below.refl _ _).alloc (Nat.le_refl _) _)) ⟨_, 0, none⟩ 1 1 (c64 ((i : Int) + 1)) rfl rfl (World.news_of_block (cs := (c64 ((i : Int) + 1)).toArray) (t := 3) (fr := (0, 0)) (heap_alloc_new _ _)) (c64_enc.one _) (by omega) ?c2 ?c3 ?c4 _ rfl ?_)
          case c2 => unfold maxLen; omega
          case c3 => omega
          case c4 => exact Nat.zero_le _
          intro g1 cap1 w9 hown hgrow hat hlt9
          have fin : Hid (LvR v g w (i + 1) (.slice (some ⟨g1, 0, none⟩) ((liveTo v (i + 1)).length + 1) cap1) w9) := by
            have hb4 := R0.out.below.trans (HB4.out.mono R0.out.below.size)
            have QB := hb4.alloc hb4.size (.cells (c64 ((i : Int) + 1)).toArray 3)
            refine ⟨?_, QB.grown hgrow QB.size (fun k hk => R0.out.own k hk), fun k hk => ?_⟩
            · rw [EQ.out]; exact erow_snoc rfl hown
            · obtain rfl : g1 = k := by injection hk
              rcases hat with h | h
              · exact R0.out.own _ h
              · rw [h]; have := hb4.size; simp; omega
          clear hown hgrow hat L9
          go_wp2
          go_step3
          go_wp2
          refine ⟨rfl, ⟨i + 1, _, _, ?_, HI.out, rfl, ⟨_, _, _, _, _, _, _, _, _, _, _, _, _, _, _, _, _, _, _, _, _, _, rfl⟩, fin.out⟩, ?_⟩
          · first | (simp; done) | (simp; omega) | omega | rfl
          · simp [intOf]; have := HI.out; omega
        | false =>
          have EQ := Lib.hid (KT.out rfl)
          clear KY KT
          go_wp2_with fail
          refine (KL _).mono ?_; rintro e w4 ⟨rfl, b4⟩
          have HB4 : Hid (Below w2.heap.size w2 w4) := HB.out.trans (b4.mono HB.out.size)
          have fin := Lib.hid (R0.out.no HB4.out EQ.out)
          clear KL b4 HB x0 x1 x2 x3 x4 xl
          go_wp2
          go_step3
          go_wp2
          refine ⟨rfl, ⟨i + 1, _, _, ?_, HI.out, rfl, ⟨_, _, _, _, _, _, _, _, _, _, _, _, _, _, _, _, _, _, _, _, _, _, rfl⟩, fin.out⟩, ?_⟩
          · first | (simp; done) | (simp; omega) | omega | rfl
          · simp [intOf]; have := HI.out; omega
      | false =>
        obtain rfl := KZ rfl
        have EQ := Lib.hid (KN rfl)
        clear KY KT KN KO KZ
        go_wp2_with fail
        refine K.mono ?_; rintro e w3 ⟨rfl, b3⟩
        have HB4 : Hid (Below w2.heap.size w2 (w3.alloc (.cells #[.int .i64 zRec.id, .int .i64 zRec.st, .int .u32 zRec.n, .int .u32 zRec.ip, .int .u16 zRec.port] 37))) := b3.alloc b3.size _
        have fin := Lib.hid (R0.out.no HB4.out EQ.out)
        clear K b3
        go_wp2
        go_step3
        go_wp2
        refine ⟨rfl, ⟨i + 1, _, _, ?_, HI.out, rfl, ⟨_, _, _, _, _, _, _, _, _, _, _, _, _, _, _, _, _, _, _, _, _, _, rfl⟩, fin.out⟩, ?_⟩
        · first | (simp; done) | (simp; omega) | omega | rfl
        · simp [intOf]; have := HI.out; omega
    · obtain rfl : i = 32 := by omega
      obtain ⟨a, cap, hsv⟩ := erow_sl R0.out.row
      subst hsv
      have F : Hid (NewE c64 1 3 (liveTo v 33) w ⟨a, (liveTo v 33).length, cap⟩ w2) := ⟨R0.out.row, rfl, R0.out.own⟩
      have F2 := Lib.hid R0.out.below
      clear R0
      simp only [show 32 + 1 = 33 from rfl] at *
      generalize (liveTo v 33).length = n9 at *
      go_wp2
      simp only [Exit.jump]
      refine bodyPost_ret (v := (.slice a n9 cap)) (by simp [results, Try.results22, go_sem, *]) rfl ?_
      exact ⟨⟨a, n9, cap⟩, rfl, F.out, F2.out⟩
end Go.Proofs.Ytchhbhoikkdmeaa
