/- The table of the kinds' words; contracts of Word, both programs. -/
import Derived.Test.YthlbagcdindhdaaDoorRuleThru
namespace Go.Proofs.YthlbagcdindhdaaDoor
open Go.Sort Go.RowKit Go.BigFrame
set_option linter.unusedVariables false
set_option linter.unusedSimpArgs false

theorem cat_rule {a b e : ByteArray} (he : a ++ b = e) (h : a.size + b.size ≤ 1000) : ∀ w, (Op.stringOp .add a b).run Tryd.prog w = .ok (.string e) w := fun w => by
  subst he
  exact run_string_add_sum w a b (by omega)
/-- the table holds the three words -/
structure Tab (w : World) : Prop where
  c0 : w.cell? ⟨0, 0, none⟩ = some (.string wAny)
  c1 : w.cell? ⟨0, 1, none⟩ = some (.string wHost)
  c2 : w.cell? ⟨0, 2, none⟩ = some (.string wBoth)
theorem Tab.lt {w : World} (h : Tab w) : 0 < w.heap.size := World.block_lt_of_cell? _ _ h.c0
theorem Tab.below {w w' : World} (h : Tab w) (hb : Below w.heap.size w w') : Tab w' :=
  ⟨(hb.cell (p := ⟨0, 0, none⟩) h.lt).trans h.c0, (hb.cell (p := ⟨0, 1, none⟩) h.lt).trans h.c1, (hb.cell (p := ⟨0, 2, none⟩) h.lt).trans h.c2⟩
theorem Tab.kind {w : World} (h : Tab w) (k : Nat) (hk : k ≤ 2) : w.cell? ⟨0, k, none⟩ = some (.string (kindW k)) := by
  have h3 : k = 0 ∨ k = 1 ∨ k = 2 := by omega
  rcases h3 with rfl | rfl | rfl
  · exact h.c0
  · exact h.c1
  · exact h.c2
theorem right_nat {m f : Int} (h : rightT m f = true) : ∃ a b : Nat, m = a ∧ f = b ∧ a ≤ 2 ∧ b ≤ 2 := by
  unfold rightT kiB at h
  simp at h
  exact ⟨m.toNat, f.toNat, by omega, by omega, by omega, by omega⟩
theorem kindW_size (k : Int) : (kindW k).size ≤ 4 := by unfold kindW; split; decide; split; decide; decide
theorem word_any (m f : Int) (w : World) (ht : Tab w) : Calls Tryd.prog 20 #[.agg #[.int .i64 m, .int .i64 f]] w fun e w' => e = .returned (.string (wordT m f)) ∧ Below w.heap.size w w' := by
  have R := right_any m f
  unfold wordT
  cases hr : rightT m f
  · rw [hr] at R
    simp only [Bool.false_eq_true, if_false]
    go_enter Tryd.func20, Tryd.ntmps20
    go_wp2_with fail
    refine (R _).mono ?_; rintro e w1 ⟨rfl, b1⟩
    go_wp2
    go_ret
    exact ⟨rfl, by (have zz0 := Below.size b1; (try simp at zz0); repeat (first | with_reducible exact Below.refl _ _ | with_reducible refine Below.drew ?_ | with_reducible refine below_drewN ?_ _ | with_reducible refine Below.alloc ?_ (by first | omega | (simp; done) | (simp; omega)) _ | with_reducible refine Below.setCell ?_ (by first | omega | (simp; done) | (simp; omega)) _ | (with_reducible refine Below.trans ?_ (Below.mono b1 (by first | omega | (simp; done) | (simp; omega))))))⟩
  · rw [hr] at R
    simp only [if_true]
    obtain ⟨a, b, rfl, rfl, ha, hb⟩ := right_nat hr
    clear hr
    have K := Lib.hid (fun w (h : Tab w) => h.kind a ha)
    have L := Lib.hid (fun w (h : Tab w) => h.kind b hb)
    have s1 := kindW_size a
    have s2 := kindW_size b
    have HT := Lib.hid ht
    have a0 : (0 : Int) ≤ a := by omega
    have a1 : (a : Int) < 3 := by omega
    have b0 : (0 : Int) ≤ b := by omega
    have b3 : (b : Int) < 3 := by omega
    clear ht
    generalize kindW a = X at *
    generalize kindW b = Y at *
    obtain ⟨V, hV⟩ : ∃ V, X ++ (⟨#[47]⟩ : ByteArray) = V := ⟨_, rfl⟩
    rw [hV]
    have sV : V.size ≤ 5 := by rw [← hV, ByteArray.size_append]; have : (⟨#[47]⟩ : ByteArray).size = 1 := rfl; omega
    have R1 := cat_rule hV (by have : (⟨#[47]⟩ : ByteArray).size = 1 := rfl; omega)
    obtain ⟨Z, hZ⟩ : ∃ Z, V ++ Y = Z := ⟨_, rfl⟩
    rw [hZ]
    have R2 := cat_rule hZ (by omega)
    clear hZ hV
    go_enter Tryd.func20, Tryd.ntmps20
    go_wp2_with fail
    refine (R _).mono ?_; rintro e w1 ⟨rfl, b1⟩; obtain ⟨hc1, hf1, hz1⟩ := bcell b1; (try simp at hz1); have kc1_0 := fun o => hc1 (w.heap.size) o (by first | omega | (simp; done) | (simp; omega)); have kf1_0 := fun o => hf1 (w.heap.size) o (by first | omega | (simp; done) | (simp; omega)); have kl1_0 : w.heap.size < w1.heap.size := (by omega); clear hc1 hf1
    have hB : Hid (Below w.heap.size w w1) := by show Below _ _ _; (have zz0 := Below.size b1; (try simp at zz0); repeat (first | with_reducible exact Below.refl _ _ | with_reducible refine Below.drew ?_ | with_reducible refine below_drewN ?_ _ | with_reducible refine Below.alloc ?_ (by first | omega | (simp; done) | (simp; omega)) _ | with_reducible refine Below.setCell ?_ (by first | omega | (simp; done) | (simp; omega)) _ | (with_reducible refine Below.trans ?_ (Below.mono b1 (by first | omega | (simp; done) | (simp; omega))))))
    have T1 : Tab w1 := HT.out.below hB.out
    have kc := K.out w1 T1
    have lc := L.out w1 T1
    have t0 := (kc1_0 0)
    have t1 := (kc1_0 1)
    clear T1 R K L kc1_0 kf1_0 b1
    simp at t0 t1
    go_upto_region 3 with fail
    go_quiet (fail)
    go_wp2
    go_ret
    exact ⟨rfl, below_drewN hB.out _⟩
def kindL : List Value := [Value.string ⟨#[97, 110, 121]⟩, Value.string ⟨#[104, 111, 115, 116]⟩, Value.string ⟨#[98, 111, 116, 104]⟩]
theorem kind_get (q : Nat) (h : q ≤ 2) : kindL[q]? = some (.string (kindW q)) := by
  have h3 : q = 0 ∨ q = 1 ∨ q = 2 := by omega
  rcases h3 with rfl | rfl | rfl <;> rfl
theorem rword_any (m f : Int) (w : World) : Calls Tryd.prog 21 #[.agg #[.int .i64 m, .int .i64 f]] w fun e w' => e = .returned (.string (wordT m f)) ∧ Below w.heap.size w w' := by
  have R := rright_any m f
  unfold wordT
  cases hr : rightT m f
  · rw [hr] at R
    simp only [Bool.false_eq_true, if_false]
    go_enter Tryd.func21, Tryd.ntmps21
    go_wp2_with fail
    refine (R _).mono ?_; rintro e w1 ⟨rfl, b1⟩
    go_wp2
    go_ret
    exact ⟨rfl, by (have zz0 := Below.size b1; (try simp at zz0); repeat (first | with_reducible exact Below.refl _ _ | with_reducible refine Below.drew ?_ | with_reducible refine below_drewN ?_ _ | with_reducible refine Below.alloc ?_ (by first | omega | (simp; done) | (simp; omega)) _ | with_reducible refine Below.setCell ?_ (by first | omega | (simp; done) | (simp; omega)) _ | (with_reducible refine Below.trans ?_ (Below.mono b1 (by first | omega | (simp; done) | (simp; omega))))))⟩
  · rw [hr] at R
    simp only [if_true]
    obtain ⟨a, b, rfl, rfl, ha, hb⟩ := right_nat hr
    clear hr
    have ga := kind_get a ha
    have gb := kind_get b hb
    have s1 := kindW_size a
    have s2 := kindW_size b
    have a0 : (0 : Int) ≤ a := by omega
    have a1 : (a : Int) < 3 := by omega
    have b0 : (0 : Int) ≤ b := by omega
    have b3 : (b : Int) < 3 := by omega
    generalize kindW a = X at *
    generalize kindW b = Y at *
    obtain ⟨V, hV⟩ : ∃ V, X ++ (⟨#[47]⟩ : ByteArray) = V := ⟨_, rfl⟩
    rw [hV]
    have sV : V.size ≤ 5 := by rw [← hV, ByteArray.size_append]; have : (⟨#[47]⟩ : ByteArray).size = 1 := rfl; omega
    have R1 := cat_rule hV (by have : (⟨#[47]⟩ : ByteArray).size = 1 := rfl; omega)
    obtain ⟨Z, hZ⟩ : ∃ Z, V ++ Y = Z := ⟨_, rfl⟩
    rw [hZ]
    have R2 := cat_rule hZ (by omega)
    clear hZ hV
    go_enter Tryd.func21, Tryd.ntmps21
    go_wp2_with fail
    refine (R _).mono ?_; rintro e w1 ⟨rfl, b1⟩; obtain ⟨hc1, hf1, hz1⟩ := bcell b1; (try simp at hz1); have kc1_0 := fun o => hc1 (w.heap.size) o (by first | omega | (simp; done) | (simp; omega)); have kf1_0 := fun o => hf1 (w.heap.size) o (by first | omega | (simp; done) | (simp; omega)); have kl1_0 : w.heap.size < w1.heap.size := (by omega); clear hc1 hf1
    have hB : Hid (Below w.heap.size w w1) := by show Below _ _ _; (have zz0 := Below.size b1; (try simp at zz0); repeat (first | with_reducible exact Below.refl _ _ | with_reducible refine Below.drew ?_ | with_reducible refine below_drewN ?_ _ | with_reducible refine Below.alloc ?_ (by first | omega | (simp; done) | (simp; omega)) _ | with_reducible refine Below.setCell ?_ (by first | omega | (simp; done) | (simp; omega)) _ | (with_reducible refine Below.trans ?_ (Below.mono b1 (by first | omega | (simp; done) | (simp; omega))))))
    have t0 := (kc1_0 0)
    have t1 := (kc1_0 1)
    clear R kc1_0 kf1_0 b1
    simp at t0 t1
    go_upto_region 5 with fail
    have X1 : Cs w1.heap.size kindL (w1.alloc (.cells #[Value.string ⟨#[97, 110, 121]⟩, Value.string ⟨#[104, 111, 115, 116]⟩, Value.string ⟨#[98, 111, 116, 104]⟩] 9)) := Cs.new w1 kindL _
    have b2 : Below w1.heap.size w1 (w1.alloc (.cells #[Value.string ⟨#[97, 110, 121]⟩, Value.string ⟨#[104, 111, 115, 116]⟩, Value.string ⟨#[98, 111, 116, 104]⟩] 9)) := by (repeat (first | with_reducible exact Below.refl _ _ | with_reducible refine Below.drew ?_ | with_reducible refine below_drewN ?_ _ | with_reducible refine Below.alloc ?_ (by first | omega | (simp; done) | (simp; omega)) _ | with_reducible refine Below.setCell ?_ (by first | omega | (simp; done) | (simp; omega)) _))
    generalize (w1.alloc (.cells #[Value.string ⟨#[97, 110, 121]⟩, Value.string ⟨#[104, 111, 115, 116]⟩, Value.string ⟨#[98, 111, 116, 104]⟩] 9)) = w2 at *
    have ca := X1.cell a _ ga
    have cb := X1.cell b _ gb
    have u0 := (b2.cell (p := ⟨w.heap.size, 0, none⟩) kl1_0).trans t0
    have u1 := (b2.cell (p := ⟨w.heap.size, 1, none⟩) kl1_0).trans t1
    replace hB := Lib.hid (hB.out.trans (b2.mono hB.out.size))
    clear X1 b2 t0 t1 ga gb
    go_quiet (fail)
    go_wp2
    go_ret
    exact ⟨rfl, below_drewN hB.out _⟩
end Go.Proofs.YthlbagcdindhdaaDoor
