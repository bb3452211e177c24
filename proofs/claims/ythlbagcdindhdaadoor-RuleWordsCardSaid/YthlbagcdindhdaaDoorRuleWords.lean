/- The statement RuleWords: each type that is right has its own word, the others have none, for every two types. No conditions but the row's own: the table of words lies as the program's text lays it. -/
import Derived.Test.YthlbagcdindhdaaDoorRuleLaid
import Derived.SevenTiedAt
import Derived.ChangeOld
import Derived.ChangeMaps5
import Derived.ShutString
import Derived.OpenShut
import Derived.SizedLaws
import Derived.Lib.SmallJoins
namespace Go.Proofs.YthlbagcdindhdaaDoor
open Go.Sort Go.RowKit Go.BigFrame Go.ChangeShapes Go.WideShapes Go.ChangeAt
open Go.ChangeMaps (open_string shut_string)
set_option linter.unusedVariables false
set_option linter.unusedSimpArgs false

theorem word_none {m f : Int} (h : rightT m f = false) : wordT m f = ⟨#[]⟩ := by unfold wordT; rw [h]; rfl
theorem word_fin : ∀ a b c d : Fin 3, ¬ wordT a.val b.val = ⟨#[]⟩ ∧ (wordT a.val b.val = wordT c.val d.val → a = c ∧ b = d) := by decide +kernel
theorem word_some {m f : Int} (h : rightT m f = true) : ¬ wordT m f = ⟨#[]⟩ := by
  obtain ⟨a, b, rfl, rfl, ha, hb⟩ := right_nat h
  exact (word_fin ⟨a, by omega⟩ ⟨b, by omega⟩ 0 0).1
theorem word_inj {m f n g : Int} (h : rightT m f = true) (h2 : rightT n g = true) (e : wordT m f = wordT n g) : m = n ∧ f = g := by
  obtain ⟨a, b, rfl, rfl, ha, hb⟩ := right_nat h
  obtain ⟨c, d, rfl, rfl, hc, hd⟩ := right_nat h2
  have x := (word_fin ⟨a, by omega⟩ ⟨b, by omega⟩ ⟨c, by omega⟩ ⟨d, by omega⟩).2 e
  have x1 := congrArg Fin.val x.1
  have x2 := congrArg Fin.val x.2
  simp at x1 x2
  omega
theorem punch_none {m f n g : Int} (h : rightT m f = false) : punchT m f n g = false ∧ thruT n g m f = false := by
  unfold punchT thruT
  rw [h]
  simp

set_option maxRecDepth 100000 in
set_option maxHeartbeats 16000000 in
theorem ruleWords_walk (m f n g : Int) (near : Bool) (w : World) (ht : Tab w) :
    Calls Tryd.prog 7 #[.agg #[.int .i64 m, .int .i64 f], .agg #[.int .i64 n, .int .i64 g], .bool near] w fun e w' => e = .returned (.bool true) ∧ Below w.heap.size w w' := by
  have HT := Lib.hid ht
  clear ht
  have X : Hid (Cs w.heap.size [.int .i64 m, .int .i64 f] ((w.alloc (.cells #[.int .i64 m, .int .i64 f] 23)).alloc (.cells #[.int .i64 n, .int .i64 g] 23))) := (Cs.new w [.int .i64 m, .int .i64 f] 23).alloc _
  have Y : Hid (Cs (w.heap.size + 1) [.int .i64 n, .int .i64 g] ((w.alloc (.cells #[.int .i64 m, .int .i64 f] 23)).alloc (.cells #[.int .i64 n, .int .i64 g] 23))) := by
    have h := Cs.new (w.alloc (.cells #[.int .i64 m, .int .i64 f] 23)) [.int .i64 n, .int .i64 g] 23
    simp only [World.size_alloc] at h
    exact h
  have hB : Hid (Below w.heap.size w ((w.alloc (.cells #[.int .i64 m, .int .i64 f] 23)).alloc (.cells #[.int .i64 n, .int .i64 g] 23))) := by show Below _ _ _; (repeat (first | with_reducible exact Below.refl _ _ | with_reducible refine Below.drew ?_ | with_reducible refine below_drewN ?_ _ | with_reducible refine Below.alloc ?_ (by first | omega | (simp; done) | (simp; omega)) _ | with_reducible refine Below.setCell ?_ (by first | omega | (simp; done) | (simp; omega)) _))
  go_enter Tryd.func7, Tryd.ntmps7
  go_wp2_with fail
  refine (examples_yes _ (HT.out.below hB.out)).mono ?_; rintro e w1 ⟨rfl, d⟩
  replace hB : Hid (Below w.heap.size w _) := (hB.out).trans (d.mono (hB.out).size); replace X := Lib.hid (X.out.keep d); replace Y := Lib.hid (Y.out.keep d); clear d
  have x0 := X.out.cell 0 _ rfl
  have x1 := X.out.cell 1 _ rfl
  have y0 := Y.out.cell 0 _ rfl
  have y1 := Y.out.cell 1 _ rfl
  have xf0 := X.out.free 0 _ rfl
  have xf1 := X.out.free 1 _ rfl
  have yf0 := Y.out.free 0 _ rfl
  have yf1 := Y.out.free 1 _ rfl
  have xl := X.out.lt
  have yl := Y.out.lt
  cases near
  go_upto_region 7 with fail
  clear x0 x1 y0 y1 xf0 xf1 yf0 yf1 xl yl
  generalize w1 = wa at *
  rotate_left
  go_upto_region 7 with fail
  clear x0 x1 y0 y1 xf0 xf1 yf0 yf1 xl yl
  replace X : Hid (Cs w.heap.size [.int .i64 (m.tmod 4), .int .i64 (f.tmod 4)] ((((w1.setCell ⟨w.heap.size, 0, none⟩ (.int .i64 (m.tmod 4))).setCell ⟨w.heap.size, 1, none⟩ (.int .i64 (f.tmod 4))).setCell ⟨w.heap.size + 1, 0, none⟩ (.int .i64 (n.tmod 4))).setCell ⟨w.heap.size + 1, 1, none⟩ (.int .i64 (g.tmod 4)))) := (((X.out.set 0 _ (by simp)).set 1 _ (by simp)).far _ _ (by simp)).far _ _ (by simp)
  replace Y : Hid (Cs (w.heap.size + 1) [.int .i64 (n.tmod 4), .int .i64 (g.tmod 4)] ((((w1.setCell ⟨w.heap.size, 0, none⟩ (.int .i64 (m.tmod 4))).setCell ⟨w.heap.size, 1, none⟩ (.int .i64 (f.tmod 4))).setCell ⟨w.heap.size + 1, 0, none⟩ (.int .i64 (n.tmod 4))).setCell ⟨w.heap.size + 1, 1, none⟩ (.int .i64 (g.tmod 4)))) := (((Y.out.far _ _ (by simp)).far _ _ (by simp)).set 0 _ (by simp)).set 1 _ (by simp)
  replace hB : Hid (Below w.heap.size w ((((w1.setCell ⟨w.heap.size, 0, none⟩ (.int .i64 (m.tmod 4))).setCell ⟨w.heap.size, 1, none⟩ (.int .i64 (f.tmod 4))).setCell ⟨w.heap.size + 1, 0, none⟩ (.int .i64 (n.tmod 4))).setCell ⟨w.heap.size + 1, 1, none⟩ (.int .i64 (g.tmod 4)))) := by
    have hb := hB.out
    show Below _ _ _
    (have zzh := Below.size hb; repeat (first | with_reducible exact hb | with_reducible refine Below.setCell ?_ (by first | omega | (simp; done) | (simp; omega)) _ | with_reducible refine Below.alloc ?_ (by first | omega | (simp; done) | (simp; omega)) _ | with_reducible refine Below.drew ?_))
  generalize ((((w1.setCell ⟨w.heap.size, 0, none⟩ (.int .i64 (m.tmod 4))).setCell ⟨w.heap.size, 1, none⟩ (.int .i64 (f.tmod 4))).setCell ⟨w.heap.size + 1, 0, none⟩ (.int .i64 (n.tmod 4))).setCell ⟨w.heap.size + 1, 1, none⟩ (.int .i64 (g.tmod 4))) = wa at *
  generalize m.tmod 4 = m at *
  generalize f.tmod 4 = f at *
  generalize n.tmod 4 = n at *
  generalize g.tmod 4 = g at *
  all_goals
    have HTw : Hid (Tab wa) := HT.out.below hB.out
    clear HT
    have V1 := word_any m f
    have V2 := word_any n g
    obtain ⟨A, hA⟩ : ∃ A, wordT m f = A := ⟨_, rfl⟩
    obtain ⟨B, hB0⟩ : ∃ B, wordT n g = B := ⟨_, rfl⟩
    rw [hA] at V1
    rw [hB0] at V2
    have x0 := X.out.cell 0 _ rfl
    have x1 := X.out.cell 1 _ rfl
    have y0 := Y.out.cell 0 _ rfl
    have y1 := Y.out.cell 1 _ rfl
    go_wp2_with fail
    refine (V1 _ HTw.out).mono ?_; rintro e w3 ⟨rfl, d⟩
    replace HTw := Lib.hid (HTw.out.below d)
    replace hB : Hid (Below w.heap.size w _) := (hB.out).trans (d.mono (hB.out).size); replace X := Lib.hid (X.out.keep d); replace Y := Lib.hid (Y.out.keep d); clear d
    clear x0 x1 y0 y1
    have y0 := Y.out.cell 0 _ rfl
    have y1 := Y.out.cell 1 _ rfl
    go_wp2_with fail
    refine (V2 _ HTw.out).mono ?_; rintro e w4 ⟨rfl, d⟩
    replace hB : Hid (Below w.heap.size w _) := (hB.out).trans (d.mono (hB.out).size); replace X := Lib.hid (X.out.keep d); replace Y := Lib.hid (Y.out.keep d); clear d
    clear y0 y1 HTw V1 V2
    go_upto_region 9 with fail
    have x0 := X.out.cell 0 _ rfl
    have x1 := X.out.cell 1 _ rfl
    have y0 := Y.out.cell 0 _ rfl
    have y1 := Y.out.cell 1 _ rfl
    have xl := X.out.lt
    have yl := Y.out.lt
    have R1 := right_any m f
    have R2 := right_any n g
    cases h1 : rightT m f
    · rw [h1] at R1
      have P := punch_any m f n g
      have T := through_any n g m f
      rw [(punch_none (n := n) (g := g) h1).1] at P
      rw [(punch_none (n := n) (g := g) h1).2] at T
      obtain rfl : A = ⟨#[]⟩ := hA.symm.trans (word_none h1)
      clear hA hB0 h1 R2
      go_wp2_with fail
      refine (R1 _).mono ?_; rintro e w5 ⟨rfl, d⟩
      replace hB : Hid (Below w.heap.size w _) := (hB.out).trans (d.mono (hB.out).size); replace X := Lib.hid (X.out.keep d); replace Y := Lib.hid (Y.out.keep d); clear d
      clear x0 x1 y0 y1 xl yl
      have x0 := X.out.cell 0 _ rfl
      have x1 := X.out.cell 1 _ rfl
      have y0 := Y.out.cell 0 _ rfl
      have y1 := Y.out.cell 1 _ rfl
      have xl := X.out.lt
      have yl := Y.out.lt
      go_wp2_with fail
      refine (R1 _).mono ?_; rintro e w6 ⟨rfl, d⟩
      replace hB : Hid (Below w.heap.size w _) := (hB.out).trans (d.mono (hB.out).size); replace X := Lib.hid (X.out.keep d); replace Y := Lib.hid (Y.out.keep d); clear d
      clear x0 x1 y0 y1 xl yl
      have x0 := X.out.cell 0 _ rfl
      have x1 := X.out.cell 1 _ rfl
      have y0 := Y.out.cell 0 _ rfl
      have y1 := Y.out.cell 1 _ rfl
      have xl := X.out.lt
      have yl := Y.out.lt
      go_wp2_with fail
      refine (R1 _).mono ?_; rintro e w7 ⟨rfl, d⟩
      replace hB : Hid (Below w.heap.size w _) := (hB.out).trans (d.mono (hB.out).size); replace X := Lib.hid (X.out.keep d); replace Y := Lib.hid (Y.out.keep d); clear d
      clear x0 x1 y0 y1 xl yl
      have x0 := X.out.cell 0 _ rfl
      have x1 := X.out.cell 1 _ rfl
      have y0 := Y.out.cell 0 _ rfl
      have y1 := Y.out.cell 1 _ rfl
      have xl := X.out.lt
      have yl := Y.out.lt
      go_wp2_with fail
      refine (P _).mono ?_; rintro e w8 ⟨rfl, d⟩
      replace hB : Hid (Below w.heap.size w _) := (hB.out).trans (d.mono (hB.out).size); replace X := Lib.hid (X.out.keep d); replace Y := Lib.hid (Y.out.keep d); clear d
      clear x0 x1 y0 y1 xl yl
      have x0 := X.out.cell 0 _ rfl
      have x1 := X.out.cell 1 _ rfl
      have y0 := Y.out.cell 0 _ rfl
      have y1 := Y.out.cell 1 _ rfl
      have xl := X.out.lt
      have yl := Y.out.lt
      go_wp2_with fail
      refine (T _).mono ?_; rintro e w9 ⟨rfl, d⟩
      replace hB : Hid (Below w.heap.size w _) := (hB.out).trans (d.mono (hB.out).size); clear d
      clear X Y x0 x1 y0 y1 xl yl
      go_wp2
      go_ret
      exact ⟨rfl, hB.out⟩
    · rw [h1] at R1
      have e2 : ¬ A.toList = [] := by rw [← hA]; exact fun h => word_some h1 (ba_ext _ _ (by rw [← ByteArray.toList_eq, h]))
      have e3 : A.toList.isEmpty = false := by simpa using e2
      cases h2 : rightT n g
      · rw [h2] at R2
        clear hA hB0 h1 h2
        go_wp2_with fail
        refine (R1 _).mono ?_; rintro e w5 ⟨rfl, d⟩
        replace hB : Hid (Below w.heap.size w _) := (hB.out).trans (d.mono (hB.out).size); replace X := Lib.hid (X.out.keep d); replace Y := Lib.hid (Y.out.keep d); clear d
        clear x0 x1 y0 y1 xl yl
        have x0 := X.out.cell 0 _ rfl
        have x1 := X.out.cell 1 _ rfl
        have y0 := Y.out.cell 0 _ rfl
        have y1 := Y.out.cell 1 _ rfl
        have xl := X.out.lt
        have yl := Y.out.lt
        go_wp2_with fail
        refine (R1 _).mono ?_; rintro e w6 ⟨rfl, d⟩
        replace hB : Hid (Below w.heap.size w _) := (hB.out).trans (d.mono (hB.out).size); replace X := Lib.hid (X.out.keep d); replace Y := Lib.hid (Y.out.keep d); clear d
        clear x0 x1 y0 y1 xl yl
        have x0 := X.out.cell 0 _ rfl
        have x1 := X.out.cell 1 _ rfl
        have y0 := Y.out.cell 0 _ rfl
        have y1 := Y.out.cell 1 _ rfl
        have xl := X.out.lt
        have yl := Y.out.lt
        go_wp2_with fail
        refine (R2 _).mono ?_; rintro e w7 ⟨rfl, d⟩
        replace hB : Hid (Below w.heap.size w _) := (hB.out).trans (d.mono (hB.out).size); replace X := Lib.hid (X.out.keep d); replace Y := Lib.hid (Y.out.keep d); clear d
        clear x0 x1 y0 y1 xl yl
        have x0 := X.out.cell 0 _ rfl
        have x1 := X.out.cell 1 _ rfl
        have y0 := Y.out.cell 0 _ rfl
        have y1 := Y.out.cell 1 _ rfl
        have xl := X.out.lt
        have yl := Y.out.lt
        go_wp2_with fail
        refine (R1 _).mono ?_; rintro e w8 ⟨rfl, d⟩
        replace hB : Hid (Below w.heap.size w _) := (hB.out).trans (d.mono (hB.out).size); clear d
        clear X Y x0 x1 y0 y1 xl yl
        go_wp2
        go_ret
        exact ⟨rfl, hB.out⟩
      · rw [h2] at R2
        by_cases hs : m = n ∧ f = g
        · obtain ⟨rfl, rfl⟩ := hs
          obtain rfl : A = B := hA.symm.trans hB0
          clear hA hB0 h1 h2
          go_wp2_with fail
          refine (R1 _).mono ?_; rintro e w5 ⟨rfl, d⟩
          replace hB : Hid (Below w.heap.size w _) := (hB.out).trans (d.mono (hB.out).size); replace X := Lib.hid (X.out.keep d); replace Y := Lib.hid (Y.out.keep d); clear d
          clear x0 x1 y0 y1 xl yl
          have x0 := X.out.cell 0 _ rfl
          have x1 := X.out.cell 1 _ rfl
          have y0 := Y.out.cell 0 _ rfl
          have y1 := Y.out.cell 1 _ rfl
          have xl := X.out.lt
          have yl := Y.out.lt
          go_wp2_with fail
          refine (R1 _).mono ?_; rintro e w6 ⟨rfl, d⟩
          replace hB : Hid (Below w.heap.size w _) := (hB.out).trans (d.mono (hB.out).size); replace X := Lib.hid (X.out.keep d); replace Y := Lib.hid (Y.out.keep d); clear d
          clear x0 x1 y0 y1 xl yl
          have x0 := X.out.cell 0 _ rfl
          have x1 := X.out.cell 1 _ rfl
          have y0 := Y.out.cell 0 _ rfl
          have y1 := Y.out.cell 1 _ rfl
          have xl := X.out.lt
          have yl := Y.out.lt
          go_wp2_with fail
          refine (R2 _).mono ?_; rintro e w7 ⟨rfl, d⟩
          replace hB : Hid (Below w.heap.size w _) := (hB.out).trans (d.mono (hB.out).size); replace X := Lib.hid (X.out.keep d); replace Y := Lib.hid (Y.out.keep d); clear d
          clear x0 x1 y0 y1 xl yl
          have x0 := X.out.cell 0 _ rfl
          have x1 := X.out.cell 1 _ rfl
          have y0 := Y.out.cell 0 _ rfl
          have y1 := Y.out.cell 1 _ rfl
          have xl := X.out.lt
          have yl := Y.out.lt
          go_wp2_with fail
          refine (R1 _).mono ?_; rintro e w8 ⟨rfl, d⟩
          replace hB : Hid (Below w.heap.size w _) := (hB.out).trans (d.mono (hB.out).size); clear d
          clear X Y x0 x1 y0 y1 xl yl
          go_wp2
          go_ret
          exact ⟨rfl, hB.out⟩
        · have hAB : ¬ A = B := by rw [← hA, ← hB0]; exact fun h => hs (word_inj h1 h2 h)
          clear hA hB0 h1 h2
          have hL : ¬ A.toList = B.toList := fun h => hAB (ba_ext _ _ (by rw [← ByteArray.toList_eq, ← ByteArray.toList_eq, h]))
          have hL2 : (A.toList == B.toList) = false := by rw [beq_eq_false_iff_ne]; exact hL
          by_cases hm : m = n
          · subst hm
            have hf : ¬ f = g := fun h => hs ⟨rfl, h⟩
            have hf2 : (f == g) = false := by rw [beq_eq_false_iff_ne]; exact hf
            clear hs
            go_wp2_with fail
            refine (R1 _).mono ?_; rintro e w5 ⟨rfl, d⟩
            replace hB : Hid (Below w.heap.size w _) := (hB.out).trans (d.mono (hB.out).size); replace X := Lib.hid (X.out.keep d); replace Y := Lib.hid (Y.out.keep d); clear d
            clear x0 x1 y0 y1 xl yl
            have x0 := X.out.cell 0 _ rfl
            have x1 := X.out.cell 1 _ rfl
            have y0 := Y.out.cell 0 _ rfl
            have y1 := Y.out.cell 1 _ rfl
            have xl := X.out.lt
            have yl := Y.out.lt
            go_wp2_with fail
            refine (R1 _).mono ?_; rintro e w6 ⟨rfl, d⟩
            replace hB : Hid (Below w.heap.size w _) := (hB.out).trans (d.mono (hB.out).size); replace X := Lib.hid (X.out.keep d); replace Y := Lib.hid (Y.out.keep d); clear d
            clear x0 x1 y0 y1 xl yl
            have x0 := X.out.cell 0 _ rfl
            have x1 := X.out.cell 1 _ rfl
            have y0 := Y.out.cell 0 _ rfl
            have y1 := Y.out.cell 1 _ rfl
            have xl := X.out.lt
            have yl := Y.out.lt
            go_wp2_with fail
            refine (R2 _).mono ?_; rintro e w7 ⟨rfl, d⟩
            replace hB : Hid (Below w.heap.size w _) := (hB.out).trans (d.mono (hB.out).size); replace X := Lib.hid (X.out.keep d); replace Y := Lib.hid (Y.out.keep d); clear d
            clear x0 x1 y0 y1 xl yl
            have x0 := X.out.cell 0 _ rfl
            have x1 := X.out.cell 1 _ rfl
            have y0 := Y.out.cell 0 _ rfl
            have y1 := Y.out.cell 1 _ rfl
            have xl := X.out.lt
            have yl := Y.out.lt
            go_wp2_with fail
            refine (R1 _).mono ?_; rintro e w8 ⟨rfl, d⟩
            replace hB : Hid (Below w.heap.size w _) := (hB.out).trans (d.mono (hB.out).size); clear d
            clear X Y x0 x1 y0 y1 xl yl
            go_wp2
            go_ret
            exact ⟨rfl, hB.out⟩
          · have hm2 : (m == n) = false := by rw [beq_eq_false_iff_ne]; exact hm
            clear hs
            go_wp2_with fail
            refine (R1 _).mono ?_; rintro e w5 ⟨rfl, d⟩
            replace hB : Hid (Below w.heap.size w _) := (hB.out).trans (d.mono (hB.out).size); replace X := Lib.hid (X.out.keep d); replace Y := Lib.hid (Y.out.keep d); clear d
            clear x0 x1 y0 y1 xl yl
            have x0 := X.out.cell 0 _ rfl
            have x1 := X.out.cell 1 _ rfl
            have y0 := Y.out.cell 0 _ rfl
            have y1 := Y.out.cell 1 _ rfl
            have xl := X.out.lt
            have yl := Y.out.lt
            go_wp2_with fail
            refine (R1 _).mono ?_; rintro e w6 ⟨rfl, d⟩
            replace hB : Hid (Below w.heap.size w _) := (hB.out).trans (d.mono (hB.out).size); replace X := Lib.hid (X.out.keep d); replace Y := Lib.hid (Y.out.keep d); clear d
            clear x0 x1 y0 y1 xl yl
            have x0 := X.out.cell 0 _ rfl
            have x1 := X.out.cell 1 _ rfl
            have y0 := Y.out.cell 0 _ rfl
            have y1 := Y.out.cell 1 _ rfl
            have xl := X.out.lt
            have yl := Y.out.lt
            go_wp2_with fail
            refine (R2 _).mono ?_; rintro e w7 ⟨rfl, d⟩
            replace hB : Hid (Below w.heap.size w _) := (hB.out).trans (d.mono (hB.out).size); replace X := Lib.hid (X.out.keep d); replace Y := Lib.hid (Y.out.keep d); clear d
            clear x0 x1 y0 y1 xl yl
            have x0 := X.out.cell 0 _ rfl
            have x1 := X.out.cell 1 _ rfl
            have y0 := Y.out.cell 0 _ rfl
            have y1 := Y.out.cell 1 _ rfl
            have xl := X.out.lt
            have yl := Y.out.lt
            go_wp2_with fail
            refine (R1 _).mono ?_; rintro e w8 ⟨rfl, d⟩
            replace hB : Hid (Below w.heap.size w _) := (hB.out).trans (d.mono (hB.out).size); clear d
            clear X Y x0 x1 y0 y1 xl yl
            go_wp2
            go_ret
            exact ⟨rfl, hB.out⟩

theorem ruleWords_run (m f n g : Int) (near : Bool) (w : World) (_ : (Lit.int .i64 m).wf = true) (_ : (Lit.int .i64 f).wf = true) (_ : (Lit.int .i64 n).wf = true) (_ : (Lit.int .i64 g).wf = true) (ht : Tab w) :
    Calls Tryd.prog 7 #[.agg #[.int .i64 m, .int .i64 f], .agg #[.int .i64 n, .int .i64 g], .bool near] w fun e w' => e = .returned (.bool true) ∧ Below w.heap.size w w' :=
  ruleWords_walk m f n g near w ht


theorem ruleWords_own : ownKnob Tryd.prog.godebug = none := by kernel_rfl
theorem ruleWords_laid : laidOutB Tryd.prog = true := by kernel_rfl
set_option maxRecDepth 100000 in
theorem ruleWords_lifted (os : Os) (started : os.Started) (H : Type) (enc : TypeId × Value → H) :
    ReturnsInHanded {} Tryd.checked os 7 .any (fun w args => (Rows.ruleWordsSpec.pre enc Tryd.prog Tryd.f7 [] false w args ∧ laidMetH Tryd.prog seatLaid w) ∧ sizedMet enc Tryd.prog Tryd.f7 (OpenSpec.ofChange Rows.ruleWordsSpec) false w args) (Rows.ruleWordsSpec.post enc Tryd.prog Tryd.f7 false true false false) := by
  refine returnsInHanded_of_change_and (C := Tryd.checked) (X := fun w _ => laidMetH Tryd.prog seatLaid w) (fun _ _ _ hh h => h.of_heap hh) ruleWords_own started (by kernel_rfl) Tryd.func7
    (ChangeSpec.witness_shaped (enc := enc) (C := Tryd.checked) (os := os) (X := fun w _ => laidMetH Tryd.prog seatLaid w) false (World.doorLaid Tryd.prog seatSteps os) #[.agg #[.int .i64 0, .int .i64 0], .agg #[.int .i64 0, .int .i64 0], .bool false] 8 rfl (World.shaped_of_RefB (by kernel_rfl) (by kernel_rfl)) (by kernel_rfl) (by kernel_rfl) (by kernel_rfl) (door_met os _)) ?_
  intro W base args ds gs before hval0 hW hcnd hsz hL _
  have hval : ∀ (j : Nat) t v, Tryd.f7.params[j]? = some t → args[j]? = some v → Value.okWide Tryd.prog W .any base t v := hval0
  have hW' := hW
  obtain ⟨p, q, hA0, hV, rfl, hfz, hnd⟩ := hW
  have hA : DataW.TrodAll enc Tryd.prog W 0 (fun _ => true) true Tryd.f7.params.toList args.toList ds p := hA0
  rw [Tryd.params7] at hA hval
  obtain ⟨v0, vs0, d0, ds0, p0, q0, hargs, rfl, rfl, h0, r0⟩ := trodAll_cons hA
  obtain ⟨v1, vs1, d1, ds1, p1, q1, rfl, rfl, rfl, h1, r1⟩ := trodAll_cons r0
  obtain ⟨v2, vs2, d2, ds2, p2, q2, rfl, rfl, rfl, h2, r2⟩ := trodAll_cons r1
  obtain ⟨rfl, rfl, rfl⟩ := trodAll_nil r2
  obtain rfl : args = #[v0, v1, v2] := by cases args; simp_all
  obtain ⟨rfl, rfl⟩ := trodVars_none hV
  have k0 := h0
  have lt0 : ∀ x ∈ p0, x.block < W.heap.size := by obtain ⟨m, hm⟩ := k0; exact DataW.trod_lt m _ _ _ hm
  obtain ⟨c0_0, c0_1, y0_0, y0_1, n0, rfl, rfl, rfl, t0_0, t0_1⟩ := Joins.open_agg2 Tryd.underlying23 (by kernel_rfl) (by kernel_rfl) (hval 0 23 v0 rfl rfl) h0
  obtain ⟨a0_0, e0_0, rfl, w0_0⟩ := DataW.trod_int Tryd.underlying3 t0_0
  obtain rfl := (List.cons.inj e0_0).1
  obtain ⟨a0_1, e0_1, rfl, w0_1⟩ := DataW.trod_int Tryd.underlying3 t0_1
  obtain rfl := (List.cons.inj e0_1).1
  have k1 := h1
  have lt1 : ∀ x ∈ p1, x.block < W.heap.size := by obtain ⟨m, hm⟩ := k1; exact DataW.trod_lt m _ _ _ hm
  obtain ⟨c1_0, c1_1, y1_0, y1_1, n1, rfl, rfl, rfl, t1_0, t1_1⟩ := Joins.open_agg2 Tryd.underlying23 (by kernel_rfl) (by kernel_rfl) (hval 1 23 v1 rfl rfl) h1
  obtain ⟨a1_0, e1_0, rfl, w1_0⟩ := DataW.trod_int Tryd.underlying3 t1_0
  obtain rfl := (List.cons.inj e1_0).1
  obtain ⟨a1_1, e1_1, rfl, w1_1⟩ := DataW.trod_int Tryd.underlying3 t1_1
  obtain rfl := (List.cons.inj e1_1).1
  obtain ⟨a2, rfl, rfl, rfl⟩ := open_bool Tryd.underlying4 (hval 2 4 v2 rfl rfl) h2
  clear hA0 hval0
  refine (ruleWords_run a0_0 a0_1 a1_0 a1_1 a2 W w0_0 w0_1 w1_0 w1_1 (tab_of_laid hL)).mono fun e W' ⟨he, bel⟩ => ?_
  subst he
  exact ⟨_, rfl, _, _, _, [], _, [], hW', trodAll_mk1 (shut_bool Tryd.underlying4 _), (trodAll_cons_mk (Below.trod ruleWords_laid (by kernel_rfl) (of_decide_eq_true (by kernel_rfl)) k0 bel lt0) (trodAll_cons_mk (Below.trod ruleWords_laid (by kernel_rfl) (of_decide_eq_true (by kernel_rfl)) k1 bel lt1) (trodAll_cons_mk (shut_bool Tryd.underlying4 _) trodAll_mk0))), rfl, bel.frame _, fun h => by cases h⟩
theorem ruleWords_over : Rows.ruleWordsRow.holds Tryd.pinned (OpenSpec.ofChange Rows.ruleWordsSpec) :=
  OpenClaim.holds_of_wide 7 Tryd.f7 rfl rfl rfl rfl rfl rfl rfl ⟨rfl, rfl, rfl, rfl, rfl⟩ rfl rfl rfl rfl rfl (by kernel_rfl) Tryd.func7 (by kernel_rfl)
    (of_decide_eq_true (by kernel_rfl)) (by unfold Func.isWrapper; first | (rw [if_pos (by decide +kernel)]; kernel_rfl) | (rw [if_neg (by decide +kernel)]; exact ⟨rfl, rfl⟩))
    (fun os started H enc _ => ruleWords_lifted os started H enc)
theorem ruleWords_holds : Rows.RuleWordsCardSaid :=
  Claim7.holds_tied_plain_at .later [] [.data] true Rows.ruleWordsCard.stood.harness false ruleWords_over (fun _ h => by cases h) (by kernel_rfl) (fun _ h => by cases h) ruleWords_row_tie rfl ⟨rfl, rfl⟩ (by kernel_rfl) rfl
    (fun f fn hf hfn => by
      obtain rfl : f = 7 := Option.some.inj ((show Tryd.prog.funcNamed "scuttlebutt/scuttlebuttlaw07.RuleWords" = some 7 by kernel_rfl).symm.trans hf) |>.symm
      obtain rfl : fn = Tryd.f7 := (Option.some.inj (Tryd.func7.symm.trans hfn)).symm
      exact ⟨by kernel_rfl, fun j t ht => by
        rw [Tryd.params7] at ht
        have hm : t ∈ [23, 23, 4] := by simpa using Array.mem_of_getElem? ht
        have hall : ([23, 23, 4].all fun u => !Tryd.prog.wantsStandIn u) = true := by kernel_rfl
        exact (show Tryd.prog.wantsStandIn t = false by simpa using List.all_eq_true.1 hall t hm)⟩)
    (by kernel_rfl)
#print axioms ruleWords_holds
end Go.Proofs.YthlbagcdindhdaaDoor
