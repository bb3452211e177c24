/- The program's view: Members, Events. -/
import Derived.Test.YtchhbhoikkdmeaaViTake
namespace Go.Proofs.Ytchhbhoikkdmeaa
open Go.Sort Go.RowKit Go.BigFrame
set_option linter.unusedVariables false
set_option linter.unusedSimpArgs false

theorem info_rec : (Try.prog.info? 37).map (fun i => (i.zero, i.size, i.bytes)) = some (some (.agg #[.int .i64 0, .int .i64 0, .int .u32 0, .int .u32 0, .int .u16 0]), 5, 32) := by kernel_rfl
theorem info_ev : (Try.prog.info? 74).map (fun i => (i.zero, i.size, i.bytes)) = some (some (.agg #[.int .i64 0, .int .i64 0, .int .i64 0, .int .u32 0]), 4, 32) := by kernel_rfl
theorem info_int : (Try.prog.info? 3).map (fun i => (i.zero, i.size, i.bytes)) = some (some (.int .i64 0), 1, 8) := by kernel_rfl

def memTo (v : Vw) (m : Nat) : List Rec := (knownTo v m).map v.k
theorem mem_yes {v : Vw} {m : Nat} (h : knows v m = true) : memTo v (m + 1) = memTo v m ++ [v.k m] := by unfold memTo; rw [known_yes h, List.map_append]; rfl
theorem mem_no {v : Vw} {m : Nat} (h : knows v m = false) : memTo v (m + 1) = memTo v m := by unfold memTo; rw [known_no h]
theorem mem_len (v : Vw) (m : Nat) : (memTo v m).length ≤ m := by unfold memTo; rw [List.length_map]; exact known_len v m
def MemJ (v : Vw) (w : World) (sv iv : Value) (wr : World) : Prop :=
  ∃ i : Nat, i ≤ 33 ∧ iv = .int .i64 (i : Nat) ∧ ERow rcs 5 37 wr sv (memTo v i) ∧ Below w.heap.size w wr ∧ ∀ k, sv.ownBlock = some k → w.heap.size ≤ k
set_option maxHeartbeats 1600000 in
set_option maxRecDepth 100000 in
theorem members_any (g : Nat) (v : Vw) (w : World) (h : Vs g v w) :
    Calls Try.prog 20 #[.pointer (some ⟨g, 0, none⟩)] w (NewPost rcs 5 37 (membersV v) w) := by
  obtain ⟨i0, hi0, hz0, hz1, hz2⟩ := info_parts info_rec
  have HV := Lib.hid h
  clear h
  go_enter Try.func20, Try.ntmps20
  go_wp2_with fail
  go_loopw [3, 7] (fun sv iv wr => MemJ v w sv iv wr) (fun _ i _ => 33 - (intOf i).toNat)
  case atStart => exact ⟨0, Nat.zero_le _, rfl, erow_nil, Below.refl _ _, fun k hk => by simp [Value.ownBlock] at hk⟩
  case round =>
    obtain ⟨i, hi, rfl, hrow, hb, hov⟩ := hrel
    have HOV := Lib.hid hov
    clear hov
    generalize u3 = sv at *
    have HROW := Lib.hid hrow
    have HB := Lib.hid hb
    have hi0' : (0 : Int) ≤ i := by omega
    have hml := mem_len v i
    clear hrow
    by_cases hlt : i < 33
    · have hlt' : (i : Int) < 33 := by omega
      have K := of_any i g v wr (HV.out.keep HB.out)
      unfold OfPost at K
      have KY := mem_yes (v := v) (m := i)
      have KN := mem_no (v := v) (m := i)
      have KO := of_yes (v := v) (i := i)
      have KZ := of_no (v := v) (i := i)
      have HI1 : Hid (i + 1 ≤ 33) := hlt
      simp only [Int.toNat_natCast] at KO
      generalize hr : v.k i = r at *
      generalize knows v i = q at *
      cases q with
      | true =>
        rw [KO rfl] at K
        have EQ := Lib.hid (KY rfl)
        clear KY KN KO KZ hr
        go_wp2_with fail
        refine K.mono ?_; rintro e w1 ⟨rfl, b1⟩
        have hb1 := hb.trans (b1.mono hb.size)
        have R1 := Lib.hid (erow_keep HROW.out b1)
        have X : Hid (Cs w1.heap.size (rcs r) (w1.alloc (.cells #[.int .i64 r.id, .int .i64 r.st, .int .u32 r.n, .int .u32 r.ip, .int .u16 r.port] 37))) := Cs.new w1 (rcs r) 37
        have x0 := X.out.cell 0 _ rfl
        have x1 := X.out.cell 1 _ rfl
        have x2 := X.out.cell 2 _ rfl
        have x3 := X.out.cell 3 _ rfl
        have x4 := X.out.cell 4 _ rfl
        replace HB : Hid (Below w.heap.size w (w1.alloc (.cells #[.int .i64 r.id, .int .i64 r.st, .int .u32 r.n, .int .u32 r.ip, .int .u16 r.port] 37))) := hb1.alloc hb1.size _
        replace R1 : Hid (ERow rcs 5 37 (w1.alloc (.cells #[.int .i64 r.id, .int .i64 r.st, .int .u32 r.n, .int .u32 r.ip, .int .u16 r.port] 37)) sv (memTo v i)) := erow_keep R1.out ((Below.refl _ w1).alloc (Nat.le_refl _) _)
        have xl := X.out.lt
        clear hb hb1 K b1 HROW X
        go_upto_region 7 with fail
        generalize (w1.alloc (.cells #[.int .i64 r.id, .int .i64 r.st, .int .u32 r.n, .int .u32 r.ip, .int .u16 r.port] 37)) = wb at *
        go_wp2_with (at_builtin; refine wpList_append_lies _ rfl (.tmp 17) (.tmp 19) 54 rfl 0 37 i0 _ 5 32 Try.underlying54 hi0 hz0 hz1 hz2 rfl (by omega) sv (memTo v i).length ((memTo v i).map rcs).flatten rfl (erow_keep R1.out ((Below.refl _ _).alloc (Nat.le_refl _) _)) ⟨_, 0, none⟩ 1 1 (rcs r) rfl rfl (World.news_of_block (cs := (rcs r).toArray) (t := 37) (fr := (0, 0)) (heap_alloc_new _ _)) (rcs_enc.one r) (by omega) ?c2 ?c3 ?c4 _ rfl ?_)
        case c2 => unfold maxLen; omega
        case c3 => omega
        case c4 => exact Nat.zero_le _
        intro g1 cap1 w9 hown hgrow hat hlt9
        have fin : Hid (ERow rcs 5 37 w9 (.slice (some ⟨g1, 0, none⟩) ((memTo v i).length + 1) cap1) (memTo v (i + 1))) := by
          rw [EQ.out]; exact erow_snoc rfl hown
        have QB := HB.out.alloc HB.out.size (.cells (rcs r).toArray 37)
        have bin := Lib.hid (QB.grown hgrow QB.size (fun k hk => HOV.out k hk))
        have hov : Hid (∀ k, (Value.slice (some ⟨g1, 0, none⟩) ((memTo v i).length + 1) cap1).ownBlock = some k → w.heap.size ≤ k) := fun k hk => by
          obtain rfl : g1 = k := by injection hk
          rcases hat with h | h
          · exact HOV.out _ h
          · rw [h]; have := HB.out.size; simp; omega
        clear hown hgrow hat QB
        go_wp2
        go_roundw
        case rel => exact ⟨i + 1, HI1.out, by go_num, fin.out, bin.out, hov.out⟩
        case measure => simp [intOf]; omega
      | false =>
        rw [KZ rfl] at K
        have EQ := Lib.hid (KN rfl)
        clear KY KN KO KZ hr
        go_wp2_with fail
        refine K.mono ?_; rintro e w1 ⟨rfl, b1⟩
        have hb1 := hb.trans (b1.mono hb.size)
        have R1 := Lib.hid (erow_keep HROW.out b1)
        have HB1 := Lib.hid (hb1.alloc hb1.size (.cells #[.int .i64 zRec.id, .int .i64 zRec.st, .int .u32 zRec.n, .int .u32 zRec.ip, .int .u16 zRec.port] 37))
        have R2 := Lib.hid (erow_keep R1.out ((Below.refl _ w1).alloc (Nat.le_refl _) (.cells #[.int .i64 zRec.id, .int .i64 zRec.st, .int .u32 zRec.n, .int .u32 zRec.ip, .int .u16 zRec.port] 37)))
        clear hb hb1 K b1 HROW
        go_wp2
        go_roundw
        case rel => exact ⟨i + 1, HI1.out, by go_num, by rw [EQ.out]; exact R2.out, HB1.out, HOV.out⟩
        case measure => simp [intOf]; omega
    · obtain rfl : i = 33 := by omega
      obtain ⟨a, cap, hsv⟩ := erow_sl HROW.out
      subst hsv
      have F : Hid (NewE rcs 5 37 (membersV v) w ⟨a, (memTo v 33).length, cap⟩ wr) := ⟨HROW.out, rfl, HOV.out⟩
      generalize (memTo v 33).length = n at *
      go_wp2
      go_ret
      exact ⟨⟨a, n, cap⟩, rfl, F.out, HB.out⟩
end Go.Proofs.Ytchhbhoikkdmeaa
