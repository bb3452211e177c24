/- Contracts of the small calls of chapter 6: isKind, isNode, mostNews, IndexByte, hasField, Has; the places 0 and 1-1i. -/
import Derived.Test.YtmhlnlippfaclaaDoorWireMath
import Derived.Laws.Cover2
import Derived.Laws.Cover3
import Derived.Laws.FloatArith
import Derived.BigQuiet
import Derived.Lib.QuietBelow
namespace Go.Proofs.YtmhlnlippfaclaaDoor
open Go.Sort Go.RowKit Go.BigFrame
set_option linter.unusedVariables false
set_option linter.unusedSimpArgs false

theorem isKind_any (k : Int) (w : World) : Calls Tryd.prog 15 #[.int .i64 k] w fun e w' => e = .returned (.bool (kindB k)) ∧ w = w' := by
  unfold kindB
  by_cases h : 1 ≤ k
  · go_enter Tryd.func15, Tryd.ntmps15
    go_wp2
    go_ret
    exact ⟨bool_ret (by first | (simp [h]; done) | (simp; intros; omega)), rfl⟩
  · go_enter Tryd.func15, Tryd.ntmps15
    go_wp2
    go_ret
    exact ⟨bool_ret (by first | (simp [h]; done) | (simp; intros; omega)), rfl⟩
theorem isNode_any (k : Int) (w : World) : Calls Tryd.prog 17 #[.int .i64 k] w fun e w' => e = .returned (.bool (nodeB k)) ∧ w = w' := by
  unfold nodeB
  by_cases h : 1 ≤ k
  · go_enter Tryd.func17, Tryd.ntmps17
    go_wp2
    go_ret
    exact ⟨bool_ret (by first | (simp [h]; done) | (simp; intros; omega)), rfl⟩
  · go_enter Tryd.func17, Tryd.ntmps17
    go_wp2
    go_ret
    exact ⟨bool_ret (by first | (simp [h]; done) | (simp; intros; omega)), rfl⟩
theorem mostNews_any (k : Int) (w : World) : Calls Tryd.prog 46 #[.int .i64 k] w fun e w' => e = .returned (.int .i64 (mostN k)) ∧ w = w' := by
  by_cases h : k = 13
  · subst h
    go_enter Tryd.func46, Tryd.ntmps46
    go_wp2
    go_ret
    exact ⟨rfl, rfl⟩
  · by_cases h2 : k = 15
    · subst h2
      clear h
      go_enter Tryd.func46, Tryd.ntmps46
      go_wp2
      go_ret
      exact ⟨rfl, rfl⟩
    · have e : (mostN k : Int) = 8 := by unfold mostN; rw [if_neg (by omega)]; rfl
      rw [e]
      have n1 : (k == 13) = false := by rw [beq_eq_false_iff_ne]; exact h
      have n2 : (k == 15) = false := by rw [beq_eq_false_iff_ne]; exact h2
      clear h h2 e
      go_enter Tryd.func46, Tryd.ntmps46
      go_wp2
      go_ret
      exact ⟨rfl, rfl⟩
theorem ix_inner (s : ByteArray) (c : Int) (w : World) : Calls Tryd.prog 29 #[.string s, .int .u8 c] w fun e w' => e = .returned (.int .i64 (Lib.indexByte s.data.toList c.toNat.toUInt8)) ∧ w = w' := by
  go_enter Tryd.func29, Tryd.ntmps29
  go_wp2
  rw [run_callFunc_extern Tryd.func40 (by kernel_rfl) (by kernel_rfl) (by kernel_rfl) (e := Extern.BytealgIndexByte.indexByte) (by kernel_rfl), Lib.run_indexByteString]
  simp only [Result.andThen]
  rw [Oper.upon_value]
  go_wp2
  go_ret
  exact ⟨rfl, rfl⟩
theorem ix_any (s : ByteArray) (c : Int) (v : Int) (h : Lib.indexByte s.data.toList c.toNat.toUInt8 = v) (w : World) : Calls Tryd.prog 20 #[.string s, .int .u8 c] w fun e w' => e = .returned (.int .i64 v) ∧ w = w' := by
  have I := fun w => ix_inner s c w
  rw [h] at I
  go_enter Tryd.func20, Tryd.ntmps20
  go_wp2_with fail
  refine (I _).mono ?_; rintro e w1 ⟨rfl, rfl⟩
  go_wp2
  go_ret
  exact ⟨rfl, rfl⟩
theorem ix_below (s : ByteArray) (c : Int) (v : Int) (h : Lib.indexByte s.data.toList c.toNat.toUInt8 = v) (w : World) : Calls Tryd.prog 20 #[.string s, .int .u8 c] w fun e w' => e = .returned (.int .i64 v) ∧ Below w.heap.size w w' :=
  (ix_any s c v h w).mono fun e w' ⟨h1, h2⟩ => ⟨h1, by subst h2; exact Below.refl _ _⟩
/-- the table of the kinds' letters is as it is laid -/
structure Tab (w : World) : Prop where
  cell : ∀ k, k < 17 → w.cell? ⟨0, k, none⟩ = some (.string (tabB k))
theorem Tab.lt {w : World} (h : Tab w) : 0 < w.heap.size := World.block_lt_of_cell? _ _ (h.cell 0 (by omega))
theorem Tab.below {w w' : World} (h : Tab w) (hb : Below w.heap.size w w') : Tab w' :=
  ⟨fun k hk => (hb.cell (p := ⟨0, k, none⟩) h.lt).trans (h.cell k hk)⟩
theorem hasField_j (k : Nat) (hk : k < 17) (j : Nat) (hj : j < 6) (w : World) (ht : Tab w) :
    Calls Tryd.prog 12 #[.int .i64 k, .int .i64 j] w fun e w' => e = .returned (.bool (hasB k j)) ∧ Below w.heap.size w w' := by
  have hc := ht.cell k hk
  have k0 : (0 : Int) ≤ k := by omega
  have k1 : (k : Int) < 17 := by omega
  have H : hasB k j = decide (Lib.indexByte (tabB k).data.toList (letL j).toUInt8 ≥ 0) := by rw [tabB_list]; rfl
  rw [H]
  obtain ⟨v, hv⟩ : ∃ v, Lib.indexByte (tabB k).data.toList (letL j).toUInt8 = v := ⟨_, rfl⟩
  rw [hv]
  clear H ht
  have hj6 : j = 0 ∨ j = 1 ∨ j = 2 ∨ j = 3 ∨ j = 4 ∨ j = 5 := by omega
  clear hj
  generalize tabB k = B at *
  have hc := cell_regrown hc
  rcases hj6 with rfl | rfl | rfl | rfl | rfl | rfl
  · have C := fun d os => Calls.regrown_of (ix_below B 110 v hv (grow (redrawn w d) os))
    have x : (((⟨#[110, 97, 112, 102, 98, 114]⟩ : ByteArray)[0]'(by decide)).toNat : Int) = 110 := rfl
    show Calls _ _ #[.int .i64 (k : Int), .int .i64 0] _ _
    go_enter Tryd.func12, Tryd.ntmps12
    go_upto_region 1 with fail
    (refine wp_region_quiet_below (by kernel_rfl) (by kernel_rfl) ?_; (repeat (go_big_quiet_step (first | with_reducible exact C _ _))); refine wpQuiet_nil ?_; intro _ hw'; obtain ⟨⟨dq, osq⟩, hw''⟩ := hw'; subst hw'')
    go_wp2
    go_ret
    exact ⟨rfl, below_regrown w dq osq⟩
  · have C := fun d os => Calls.regrown_of (ix_below B 97 v hv (grow (redrawn w d) os))
    have x : (((⟨#[110, 97, 112, 102, 98, 114]⟩ : ByteArray)[1]'(by decide)).toNat : Int) = 97 := rfl
    show Calls _ _ #[.int .i64 (k : Int), .int .i64 1] _ _
    go_enter Tryd.func12, Tryd.ntmps12
    go_upto_region 1 with fail
    (refine wp_region_quiet_below (by kernel_rfl) (by kernel_rfl) ?_; (repeat (go_big_quiet_step (first | with_reducible exact C _ _))); refine wpQuiet_nil ?_; intro _ hw'; obtain ⟨⟨dq, osq⟩, hw''⟩ := hw'; subst hw'')
    go_wp2
    go_ret
    exact ⟨rfl, below_regrown w dq osq⟩
  · have C := fun d os => Calls.regrown_of (ix_below B 112 v hv (grow (redrawn w d) os))
    have x : (((⟨#[110, 97, 112, 102, 98, 114]⟩ : ByteArray)[2]'(by decide)).toNat : Int) = 112 := rfl
    show Calls _ _ #[.int .i64 (k : Int), .int .i64 2] _ _
    go_enter Tryd.func12, Tryd.ntmps12
    go_upto_region 1 with fail
    (refine wp_region_quiet_below (by kernel_rfl) (by kernel_rfl) ?_; (repeat (go_big_quiet_step (first | with_reducible exact C _ _))); refine wpQuiet_nil ?_; intro _ hw'; obtain ⟨⟨dq, osq⟩, hw''⟩ := hw'; subst hw'')
    go_wp2
    go_ret
    exact ⟨rfl, below_regrown w dq osq⟩
  · have C := fun d os => Calls.regrown_of (ix_below B 102 v hv (grow (redrawn w d) os))
    have x : (((⟨#[110, 97, 112, 102, 98, 114]⟩ : ByteArray)[3]'(by decide)).toNat : Int) = 102 := rfl
    show Calls _ _ #[.int .i64 (k : Int), .int .i64 3] _ _
    go_enter Tryd.func12, Tryd.ntmps12
    go_upto_region 1 with fail
    (refine wp_region_quiet_below (by kernel_rfl) (by kernel_rfl) ?_; (repeat (go_big_quiet_step (first | with_reducible exact C _ _))); refine wpQuiet_nil ?_; intro _ hw'; obtain ⟨⟨dq, osq⟩, hw''⟩ := hw'; subst hw'')
    go_wp2
    go_ret
    exact ⟨rfl, below_regrown w dq osq⟩
  · have C := fun d os => Calls.regrown_of (ix_below B 98 v hv (grow (redrawn w d) os))
    have x : (((⟨#[110, 97, 112, 102, 98, 114]⟩ : ByteArray)[4]'(by decide)).toNat : Int) = 98 := rfl
    show Calls _ _ #[.int .i64 (k : Int), .int .i64 4] _ _
    go_enter Tryd.func12, Tryd.ntmps12
    go_upto_region 1 with fail
    (refine wp_region_quiet_below (by kernel_rfl) (by kernel_rfl) ?_; (repeat (go_big_quiet_step (first | with_reducible exact C _ _))); refine wpQuiet_nil ?_; intro _ hw'; obtain ⟨⟨dq, osq⟩, hw''⟩ := hw'; subst hw'')
    go_wp2
    go_ret
    exact ⟨rfl, below_regrown w dq osq⟩
  · have C := fun d os => Calls.regrown_of (ix_below B 114 v hv (grow (redrawn w d) os))
    have x : (((⟨#[110, 97, 112, 102, 98, 114]⟩ : ByteArray)[5]'(by decide)).toNat : Int) = 114 := rfl
    show Calls _ _ #[.int .i64 (k : Int), .int .i64 5] _ _
    go_enter Tryd.func12, Tryd.ntmps12
    go_upto_region 1 with fail
    (refine wp_region_quiet_below (by kernel_rfl) (by kernel_rfl) ?_; (repeat (go_big_quiet_step (first | with_reducible exact C _ _))); refine wpQuiet_nil ?_; intro _ hw'; obtain ⟨⟨dq, osq⟩, hw''⟩ := hw'; subst hw'')
    go_wp2
    go_ret
    exact ⟨rfl, below_regrown w dq osq⟩
theorem has_yes (k : Nat) (h1 : 1 ≤ k) (hk : k < 17) (w : World) (ht : Tab w) :
    Calls Tryd.prog 8 #[.int .i64 k] w fun e w' => e = .returned (.tuple #[.string (tabB k), .bool true]) ∧ w = w' := by
  have hc := ht.cell k hk
  have k0 : (0 : Int) ≤ k := by omega
  have k1 : (k : Int) < 17 := by omega
  have I := isKind_any k
  rw [show kindB k = true by unfold kindB; simp; omega] at I
  generalize tabB k = B at *
  clear ht h1
  go_enter Tryd.func8, Tryd.ntmps8
  go_wp2
  refine wp_scope_fwd 0 rfl ?_
  go_wp2_with fail
  refine (I _).mono ?_; rintro e w1 ⟨rfl, rfl⟩
  go_wp2
  simp only [Exit.jump]
  exact bodyPost_ret (v := .tuple #[.string B, .bool true]) (by simp [results, Tryd.results8, go_sem]) rfl ⟨rfl, rfl⟩
end Go.Proofs.YtmhlnlippfaclaaDoor
