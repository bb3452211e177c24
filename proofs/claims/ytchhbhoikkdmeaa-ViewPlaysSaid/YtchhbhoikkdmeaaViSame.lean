/- The law's helper live: are two lists of IDs the same? -/
import Derived.Test.YtchhbhoikkdmeaaViEx
namespace Go.Proofs.Ytchhbhoikkdmeaa
open Go.Sort Go.RowKit Go.BigFrame
set_option linter.unusedVariables false
set_option linter.unusedSimpArgs false

def SmJ (A B : List Int) (w : World) (iv : Value) (wr : World) : Prop := ∃ i : Nat, iv = .int .i64 (i : Nat) ∧ i ≤ A.length ∧ A.take i = B.take i ∧ Below w.heap.size w wr
theorem take_eq_snoc {α : Type} {A B : List α} {i : Nat} {x : α} (h : A.take i = B.take i) (ha : A[i]? = some x) (hb : B[i]? = some x) : A.take (i + 1) = B.take (i + 1) := by
  rw [List.take_add_one, List.take_add_one, h, ha, hb]
theorem ne_of_at {α : Type} {A B : List α} {i : Nat} {x y : α} (ha : A[i]? = some x) (hb : B[i]? = some y) (h : ¬ x = y) : ¬ A = B := by
  intro e; subst e; rw [ha] at hb; exact h (Option.some.inj hb)
set_option maxHeartbeats 1600000 in
theorem same_any (a : Option Addr) (ca : Nat) (A : List Int) (b : Option Addr) (cb : Nat) (B : List Int) (w : World) (ha : RdE c64 1 w a A) (hb : RdE c64 1 w b B) (la : A.length ≤ 1000000) (lb : B.length ≤ 1000000) :
    Calls Try.prog 21 #[.slice a A.length ca, .slice b B.length cb] w fun e w' => e = .returned (.bool (decide (A = B))) ∧ Below w.heap.size w w' := by
  have HA := Lib.hid ha
  have HB := Lib.hid hb
  have la2 : (A.length : Int) ≤ 1000000 := by omega
  have lb2 : (B.length : Int) ≤ 1000000 := by omega
  clear ha hb
  by_cases hl : A.length = B.length
  · have hl2 : (A.length : Int) = B.length := by omega
    go_enter Try.func21, Try.ntmps21
    go_wp2_with fail
    go_loopw [5] (fun iv wr => SmJ A B w iv wr) (fun iv _ => A.length - (intOf iv).toNat)
    case atStart => exact ⟨0, rfl, Nat.zero_le _, rfl, Below.refl _ _⟩
    case round =>
      obtain ⟨i, rfl, hi, ht, hw⟩ := hrel
      have hi0 : (0 : Int) ≤ i := by omega
      have HT := Lib.hid ht
      have HW := Lib.hid hw
      clear ht
      by_cases hlt : i < A.length
      · have hlt' : (i : Int) < A.length := by omega
        have hltb : i < B.length := by omega
        have hltb' : (i : Int) < B.length := by omega
        have hx : A[i]? = some A[i] := List.getElem?_eq_getElem hlt
        have hy : B[i]? = some B[i] := List.getElem?_eq_getElem hltb
        obtain ⟨ba, oa, rfl, hba, hca⟩ := (HA.out.keep hw) (by omega)
        obtain ⟨bb, ob, rfl, hbb, hcb⟩ := (HB.out.keep hw) (by omega)
        have c0 := hca i _ hx 0 _ rfl
        have c1 := hcb i _ hy 0 _ rfl
        simp only [Nat.mul_one, Nat.add_zero] at c0 c1
        have KY : Hid (A[i] = B[i] → A.take (i + 1) = B.take (i + 1)) := fun e => take_eq_snoc HT.out hx (by rw [hy, e])
        have KN : Hid (¬ A[i] = B[i] → ¬ A = B) := fun e => ne_of_at hx hy e
        have HI : Hid (i + 1 ≤ A.length) := hlt
        clear hx hy hca hcb hw
        generalize A[i] = x at *
        generalize B[i] = y at *
        by_cases he : x = y
        · subst he
          replace KY := Lib.hid (KY.out rfl)
          have q : (x != x) = false := by simp
          clear KN
          go_wp2_with fail
          go_region
          go_wp2_with fail
          go_roundw
          case rel => exact ⟨i + 1, by go_num, HI.out, KY.out, HW.out.drew⟩
          case measure => have := HI.out; simp [intOf]; omega
        · replace KN := Lib.hid (KN.out he)
          have q : (x != y) = true := by simp [he]
          clear KY
          go_wp2_with fail
          go_region
          go_wp2_with fail
          go_ret
          exact ⟨by rw [decide_eq_false KN.out]; rfl, HW.out.drew⟩
      · obtain rfl : i = A.length := by omega
        have HE : Hid (A = B) := by
          have := HT.out
          rw [List.take_length, List.take_of_length_le (by omega)] at this
          exact this
        clear HT
        go_wp2_with fail
        go_ret
        exact ⟨by rw [decide_eq_true HE.out]; rfl, HW.out⟩
  · have hl2 : ¬ (A.length : Int) = B.length := by omega
    have hl3 : ((A.length : Int) != B.length) = true := by simp; omega
    have hne : Hid (¬ A = B) := fun e => hl (by rw [e])
    go_enter Try.func21, Try.ntmps21
    go_wp2_with fail
    go_ret
    exact ⟨by rw [decide_eq_false hne.out]; rfl, Below.refl _ _⟩
theorem same_at {a : Option Addr} {ca : Nat} {A : List Int} {b : Option Addr} {cb : Nat} {B : List Int} {w : World} {o : Bool} (ha : RdE c64 1 w a A) (hb : RdE c64 1 w b B) (la : A.length ≤ 1000000) (lb : B.length ≤ 1000000) (h : decide (A = B) = o) :
    Calls Try.prog 21 #[.slice a A.length ca, .slice b B.length cb] w fun e w' => e = .returned (.bool o) ∧ Below w.heap.size w w' := by
  rw [← h]; exact same_any a ca A b cb B w ha hb la lb
end Go.Proofs.Ytchhbhoikkdmeaa
