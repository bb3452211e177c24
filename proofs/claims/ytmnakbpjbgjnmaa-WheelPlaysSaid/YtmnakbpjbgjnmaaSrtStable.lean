/- slices.SortStableFunc over timers: sorted by their times, those of one time as they stood. -/
import Derived.Test.YtmnakbpjbgjnmaaSrtMid
import Derived.Test.YtmnakbpjbgjnmaaWhMath
namespace Go.Proofs.Ytmnakbpjbgjnmaa
open Go.Sort Go.RowKit Go.BigFrame
set_option linter.unusedVariables false
set_option linter.unusedSimpArgs false

theorem sym_any (n g cap : Nat) (w0 : World) (hl : n ≤ 1000000) : ∀ N, SymC N n g cap w0
  | 0 => fun X A B Z hA hB hN => by omega
  | N + 1 => fun X A B Z hA hB hN hn sA sB w av mv bv h ha hm hb => by
    by_cases h1 : A.length = 1
    · obtain ⟨x, rfl⟩ := List.length_eq_one_iff.1 h1
      exact sym_one n g cap w0 hl X x B Z hB (by simpa using hn) sB w av mv bv h ha (by simpa using hm) (by simpa using hb)
    · by_cases h2 : B.length = 1
      · obtain ⟨y, rfl⟩ := List.length_eq_one_iff.1 h2
        exact sym_last n g cap w0 hl X A y Z (by omega) (by simpa using hn) sA w av mv bv h ha hm (by simpa using hb)
      · exact sym_mid n g cap N w0 hl (sym_any n g cap w0 hl N) X A B Z (by omega) (by omega) hN hn sA sB w av mv bv h ha hm hb
/-- the blocks that are sorted: S, of whole blocks; R is left -/
def B1J (D0 : List Tm) (g cap : Nat) (w0 : World) (av bv : Value) (wr : World) : Prop := ∃ (c : Nat) (S R : List Tm), av = .int .i64 ((c * 20 : Nat) : Int) ∧ bv = .int .i64 ((c * 20 + 20 : Nat) : Int) ∧ S.length = c * 20 ∧ Blk kt 20 S ∧ Eqv kt D0 (S ++ R) ∧ SR 39 g cap (S ++ R) w0 wr
def B2J (D0 : List Tm) (g cap : Nat) (w0 : World) (sv : Value) (wr : World) : Prop := ∃ (z : Nat) (D : List Tm), sv = .int .i64 (z : Nat) ∧ 20 ≤ z ∧ z ≤ 2000000 ∧ Blk kt z D ∧ Eqv kt D0 D ∧ SR 39 g cap D w0 wr
def B3J (D0 : List Tm) (z g cap : Nat) (w0 : World) (av bv : Value) (wr : World) : Prop := ∃ (c : Nat) (S R : List Tm), av = .int .i64 ((c * (2 * z) : Nat) : Int) ∧ bv = .int .i64 ((c * (2 * z) + 2 * z : Nat) : Int) ∧ S.length = c * (2 * z) ∧ Blk kt (2 * z) S ∧ Blk kt z R ∧ Eqv kt D0 (S ++ R) ∧ SR 39 g cap (S ++ R) w0 wr
def StPost (g cap : Nat) (D0 : List Tm) (w0 : World) (e : Ending) (w' : World) : Prop := e = .returned (.tuple #[]) ∧ ∃ D, Srt kt D ∧ Eqv kt D0 D ∧ SR 39 g cap D w0 w'
set_option maxHeartbeats 6400000 in
set_option maxRecDepth 20000 in
theorem stable_any (D0 : List Tm) (n g cap : Nat) (hn : n = D0.length) (hl : n ≤ 1000000) (w0 w : World) (h : SR 39 g cap D0 w0 w) :
    Calls Try.prog 33 #[.slice (some ⟨g, 0, none⟩) n cap, .int .i64 (n : Nat), .func (.func 28) #[] #[]] w (StPost g cap D0 w0) := by
  have S0 : Hid (B1J D0 g cap w0 (.int .i64 0) (.int .i64 20) w) := ⟨0, [], D0, rfl, rfl, rfl, blk_nil _, Eqv.refl _, h⟩
  have hl2 : (n : Int) ≤ 1000000 := by omega
  have HN := Lib.hid hn
  have SY := Lib.hid (fun N => sym_any n g cap w0 hl N)
  clear h hn
  go_enter Try.func33, Try.ntmps33
  go_wp2_with fail
  go_loopw [7, 8] (fun av bv wr => B1J D0 g cap w0 av bv wr) (fun av _ _ => n - (intOf av).toNat)
  case atStart => exact S0.out
  case round =>
    obtain ⟨c, S, R, rfl, rfl, hS, hB, hE, hR⟩ := hrel
    clear S0
    have hlen : S.length + R.length = n := by have := hE.1; have := HN.out; simp only [List.length_append] at *; omega
    generalize haq : c * 20 = a at *
    have ha0 : (0 : Int) ≤ a := by omega
    have ha1 : (a : Int) ≤ n := by omega
    generalize hbq : a + 20 = b at *
    have hb0 : (0 : Int) ≤ b := by omega
    have hb1 : (b : Int) ≤ 2000000 := by omega
    by_cases hb : b ≤ n
    · obtain ⟨M, Z, rfl, hM⟩ := part_of (l := R) (k := 20) (by omega)
      simp only [List.length_append] at hlen
      have C := ins_any S M Z n g cap (by omega) hl w0 wr (by rw [List.append_assoc]; exact hR) a b (by omega) (by omega)
      have hb' : (b : Int) ≤ n := by omega
      have HB := Lib.hid hB
      have HE := Lib.hid hE
      have HS := Lib.hid hS
      have HM := Lib.hid hM
      have HA := Lib.hid haq
      obtain ⟨b2, hb2q⟩ : ∃ b2, b2 = b + 20 := ⟨_, rfl⟩
      have hb3 : (b : Int) + 20 = (b2 : Nat) := by omega
      have HB2 := Lib.hid hb2q
      have HBQ := Lib.hid hbq
      clear hb2q
      clear hR hlen hB hE hS hM haq hbq hb
      go_wp2_with fail
      refine C.mono ?_; rintro e w1 ⟨rfl, D, ⟨M', rfl, sM, eM⟩, hR1⟩
      have HX : Hid (B1J D0 g cap w0 (.int .i64 (b : Nat)) (.int .i64 (b2 : Nat)) w1) := by
        have q1 := HA.out
        have q2 := HBQ.out
        have q3 : (c + 1) * 20 = b := by omega
        refine ⟨c + 1, S ++ M', Z, by rw [q3], by rw [q3, HB2.out], ?_, HB.out.snoc (c := c) (by rw [HS.out, q1]) sM (by have := eM.1; have := HM.out; omega), ?_, hR1⟩
        · rw [List.length_append, HS.out, ← eM.1, HM.out, q3]; exact q2
        · refine HE.out.trans ?_
          have := ((Eqv.refl (key := kt) S).app eM).app (Eqv.refl Z)
          simpa using this
      have hbl : Hid (a < b ∧ b ≤ n) := ⟨by have := HBQ.out; omega, by omega⟩
      clear C sM eM hR1
      go_wp2_with fail
      go_roundw
      case rel => exact HX.out
      case measure => have := hbl.out; simp [intOf]; omega
    · have hb' : decide ((b : Int) ≤ n) = false := decide_eq_false (by omega)
      have hb2 : decide (b ≤ n) = false := decide_eq_false hb
      have C := ins_any S R [] n g cap (by simp; omega) hl w0 wr (by simpa using hR) a n (by omega) (by omega)
      have HX : Hid (∀ w1, (∃ D, Merged kt S R [] D ∧ SR 39 g cap D w0 w1) → B2J D0 g cap w0 (.int .i64 20) w1) := fun w1 ⟨D, ⟨M', e1, sM, eM⟩, hR1⟩ => by
        subst e1
        rw [List.append_nil] at hR1
        refine ⟨20, S ++ M', rfl, by omega, by omega, hB.snoc (c := c) (by rw [hS, haq]) sM (by have := eM.1; omega), hE.trans ((Eqv.refl S).app eM), hR1⟩
      clear hR hlen hB hE hS haq hbq hb
      go_wp2_with fail
      refine C.mono ?_; rintro e w1 ⟨rfl, hm1⟩
      have S1 := Lib.hid (HX.out w1 hm1)
      clear C HX hm1
      go_wp2_with fail
      go_loopw [6] (fun sv wr => B2J D0 g cap w0 sv wr) (fun sv _ => n - (intOf sv).toNat)
      case atStart => exact S1.out
      case round =>
        clear S1
        obtain ⟨z, D, rfl, hz1, hz2, hB, hE, hR⟩ := hrel
        have hlen : D.length = n := by have := hE.1; have := HN.out; omega
        have hz0 : (0 : Int) ≤ z := by omega
        by_cases hzn : z < n
        · have hzn' : (z : Int) < n := by omega
          have S2 : Hid (B3J D0 z g cap w0 (.int .i64 0) (.int .i64 ((2 * z : Nat) : Int)) wr) := ⟨0, [], D, by simp, by simp, by simp, blk_nil _, hB, by simpa using hE, by simpa using hR⟩
          have hzz : 2 * (z : Int) = ((2 * z : Nat) : Int) := by omega
          have hzz2 : (z : Int) * 2 = ((2 * z : Nat) : Int) := by omega
          have HZ1 := Lib.hid hz1
          obtain ⟨y, hy⟩ : ∃ y, y = 2 * z := ⟨_, rfl⟩
          rw [← hy] at S2 hzz hzz2
          have HY := Lib.hid hy
          have hy0 : (0 : Int) ≤ y := by omega
          have hy1 : (y : Int) ≤ 2000000 := by omega
          clear hB hE hR hlen hz1 hz2 hy
          go_wp2_with fail
          go_loopw [7, 8] (fun av bv wr => B3J D0 z g cap w0 av bv wr) (fun av _ _ => n - (intOf av).toNat)
          case atStart => exact S2.out
          case round =>
            obtain ⟨c, S, R, rfl, rfl, hS, hB, hBz, hE, hR⟩ := hrel
            clear S2
            have hyo := HY.out
            have hzo := HZ1.out
            rw [← hyo] at hS hB
            have hlen : S.length + R.length = n := by have := hE.1; have := HN.out; simp only [List.length_append] at *; omega
            rw [← hyo]
            generalize haq : c * y = a at *
            have ha0 : (0 : Int) ≤ a := by omega
            have ha1 : (a : Int) ≤ n := by omega
            generalize hbq : a + y = b at *
            have hb0 : (0 : Int) ≤ b := by omega
            have hb3 : (b : Int) ≤ 4000000 := by omega
            obtain ⟨m, hmq⟩ : ∃ m, m = a + z := ⟨_, rfl⟩
            have haz : (a : Int) + z = (m : Nat) := by omega
            have haz0 : (0 : Int) ≤ m := by omega
            have haz1 : (m : Int) ≤ 4000000 := by omega
            by_cases hb : b ≤ n
            · obtain ⟨A, R1, rfl, hA⟩ := part_of (l := R) (k := z) (by omega)
              simp only [List.length_append] at hlen
              obtain ⟨B, Z, rfl, hBl⟩ := part_of (l := R1) (k := z) (by omega)
              simp only [List.length_append] at hlen
              have sA := hBz.first hA
              have hBz1 := hBz.rest hA
              have sB := hBz1.first hBl
              have hBz2 := hBz1.rest hBl
              have C := SY.out _ S A B Z (by omega) (by omega) (Nat.le_refl _) (by omega) sA sB wr a m b (by simpa using hR) (by omega) (by omega) (by omega)
              have hb' : (b : Int) ≤ n := by omega
              have HX : Hid (∀ w1 D, Merged kt S (A ++ B) Z D → SR 39 g cap D w0 w1 → B3J D0 z g cap w0 (.int .i64 (b : Nat)) (.int .i64 ((b + y : Nat) : Int)) w1) := fun w1 D ⟨M', e1, sM, eM⟩ hR1 => by
                subst e1
                have hMl := eM.1
                rw [List.length_append] at hMl
                refine ⟨c + 1, S ++ M', Z, ?_, ?_, ?_, ?_, hBz2, ?_, hR1⟩
                · rw [← hbq, ← hyo, Nat.add_mul, haq, Nat.one_mul]
                · rw [← hbq, ← hyo, Nat.add_mul, haq, Nat.one_mul]
                · rw [List.length_append, hS, ← hyo, Nat.add_mul, haq]; omega
                · rw [← hyo]; exact hB.snoc (c := c) (by rw [haq]; exact hS) sM (by omega)
                · refine hE.trans ?_
                  have := ((Eqv.refl (key := kt) S).app eM).app (Eqv.refl Z)
                  simpa using this
              obtain ⟨b2, hb2q⟩ : ∃ b2, b2 = b + y := ⟨_, rfl⟩
              have hby : (b : Int) + y = (b2 : Nat) := by omega
              have hbl : Hid (a < b ∧ b ≤ n) := ⟨by omega, hb⟩
              rw [← hb2q] at HX
              clear hS hB hBz hE hR hlen sA sB hBz1 hBz2 hA hBl haq hbq hyo hzo hb hb2q hmq
              go_wp2_with fail
              refine C.mono ?_; rintro e w1 ⟨rfl, D, hM, hR1⟩
              have HQ := Lib.hid (HX.out w1 D hM hR1)
              clear C HX hM hR1
              go_wp2_with fail
              go_roundw
              case rel => exact HQ.out
              case measure => have := hbl.out; simp [intOf]; omega
            · have hb' : decide ((b : Int) ≤ n) = false := decide_eq_false (by omega)
              have hb2 : decide (b ≤ n) = false := decide_eq_false hb
              have HMs : Hid (z < y ∧ y = 2 * z ∧ 20 ≤ z ∧ y ≤ 2000000) := ⟨by omega, hyo, hzo, by omega⟩
              by_cases hm : m < n
              · obtain ⟨A, B, rfl, hA⟩ := part_of (l := R) (k := z) (by omega)
                simp only [List.length_append] at hlen
                have sA := hBz.first hA
                have hBz1 := hBz.rest hA
                have sB := hBz1.all (by omega)
                have C := SY.out _ S A B [] (by omega) (by omega) (Nat.le_refl _) (by simp; omega) sA sB wr a m n (by simpa using hR) (by omega) (by omega) (by omega)
                have hm' : (m : Int) < n := by omega
                have HX : Hid (∀ w1 D, Merged kt S (A ++ B) [] D → SR 39 g cap D w0 w1 → B2J D0 g cap w0 (.int .i64 (y : Nat)) w1) := fun w1 D ⟨M', e1, sM, eM⟩ hR1 => by
                  subst e1
                  have hMl := eM.1
                  rw [List.length_append] at hMl
                  rw [List.append_nil] at hR1
                  refine ⟨y, S ++ M', rfl, by omega, by omega, hB.snoc (c := c) (by rw [haq]; exact hS) sM (by omega), ?_, hR1⟩
                  refine hE.trans ?_
                  have := (Eqv.refl (key := kt) S).app eM
                  simpa using this
                clear hS hB hBz hE hR hlen sA sB hBz1 hA haq hbq hyo hzo hb hmq
                go_wp2_with fail
                refine C.mono ?_; rintro e w1 ⟨rfl, D, hM, hR1⟩
                have HQ := Lib.hid (HX.out w1 D hM hR1)
                clear C HX hM hR1
                go_wp2_with fail
                go_roundw
                case rel => exact HQ.out
                case measure => have := HMs.out; simp [intOf]; omega
              · have hm' : decide ((m : Int) < n) = false := decide_eq_false (by omega)
                have hm2 : decide (m < n) = false := decide_eq_false hm
                have HQ : Hid (B2J D0 g cap w0 (.int .i64 (y : Nat)) wr) := ⟨y, S ++ R, rfl, by omega, by omega, hB.snoc (c := c) (by rw [haq]; exact hS) (hBz.all (by omega)) (by omega), hE, hR⟩
                clear hS hB hBz hE hR hlen haq hbq hyo hzo hb hm hmq
                go_wp2_with fail
                go_roundw
                case rel => exact HQ.out
                case measure => have := HMs.out; simp [intOf]; omega
        · have hzn' : decide ((z : Int) < n) = false := decide_eq_false (by omega)
          have hzn2 : decide (z < n) = false := decide_eq_false hzn
          have sD := Lib.hid (hB.all (by omega))
          have HE := Lib.hid hE
          have HR := Lib.hid hR
          clear hB hE hR hlen hzn
          go_wp2_with fail
          refine bodyPost_ret (v := (.tuple #[])) (by simp [results, Try.results33, go_sem, *]) rfl ?_
          exact ⟨rfl, D, sD.out, HE.out, HR.out⟩
def NonePost (w : World) (e : Ending) (w' : World) : Prop := e = .returned (.tuple #[]) ∧ w' = w
set_option maxHeartbeats 1600000 in
theorem ins_none (w : World) : Calls Try.prog 34 #[.slice none 0 0, .int .i64 0, .int .i64 0, .func (.func 28) #[] #[]] w (NonePost w) := by
  go_enter Try.func34, Try.ntmps34
  go_wp2_with fail
  go_loopw [8] (fun iv wr => iv = .int .i64 1 ∧ wr = w) (fun _ _ => 0)
  case atStart => exact ⟨rfl, rfl⟩
  case round =>
    obtain ⟨rfl, rfl⟩ := hrel
    go_wp2_with fail
    refine bodyPost_ret (v := (.tuple #[])) (by simp [results, Try.results34, go_sem, *]) rfl ?_
    exact ⟨rfl, rfl⟩
set_option maxHeartbeats 1600000 in
theorem stable_none (w : World) : Calls Try.prog 33 #[.slice none 0 0, .int .i64 0, .func (.func 28) #[] #[]] w (NonePost w) := by
  have K := ins_none w
  go_enter Try.func33, Try.ntmps33
  go_wp2_with fail
  go_loopw [7, 8] (fun av bv wr => av = .int .i64 0 ∧ bv = .int .i64 20 ∧ wr = w) (fun _ _ _ => 0)
  case atStart => exact ⟨rfl, rfl, rfl⟩
  case round =>
    obtain ⟨rfl, rfl, rfl⟩ := hrel
    go_wp2_with fail
    refine K.mono ?_; rintro e w1 ⟨rfl, rfl⟩
    clear K
    go_wp2_with fail
    go_loopw [6] (fun sv wr => sv = .int .i64 20 ∧ wr = w1) (fun _ _ => 0)
    case atStart => exact ⟨rfl, rfl⟩
    case round =>
      obtain ⟨rfl, rfl⟩ := hrel
      go_wp2_with fail
      refine bodyPost_ret (v := (.tuple #[])) (by simp [results, Try.results33, go_sem, *]) rfl ?_
      exact ⟨rfl, rfl⟩
/-- a slice of timers of one's own, sorted in place -/
def SortPost (a : Option Addr) (cap : Nat) (L : List Tm) (w : World) (e : Ending) (w' : World) : Prop := e = .returned (.tuple #[]) ∧ TRow 39 w' (.slice a L.length cap) (sortT L) ∧ Touch (fun k => (Value.slice a 0 0).ownBlock = some k) w w'
set_option maxHeartbeats 1600000 in
theorem sort_any (a : Option Addr) (cap : Nat) (L : List Tm) (hl : L.length ≤ 1000) (w : World) (hr : TRow 39 w (.slice a L.length cap) L) :
    Calls Try.prog 30 #[.slice a L.length cap, .func (.func 28) #[] #[]] w (SortPost a cap L w) := by
  rcases trow_form hr with ⟨h1, rfl⟩ | ⟨g, cap', h1, hg⟩
  · simp only [Value.slice.injEq] at h1
    obtain ⟨rfl, -, rfl⟩ := h1
    have F : Hid (TRow 39 w (.slice none 0 0) (sortT [])) := hr
    have K := stable_none w
    simp only [List.length_nil]
    clear hr
    go_enter Try.func30, Try.ntmps30
    go_wp2_with fail
    refine K.mono ?_; rintro e w1 ⟨rfl, rfl⟩
    clear K
    go_wp2_with fail
    refine bodyPost_ret (v := (.tuple #[])) (by simp [results, Try.results30, go_sem, *]) rfl ?_
    exact ⟨rfl, F.out, Touch.refl _ _⟩
  · simp only [Value.slice.injEq] at h1
    obtain ⟨rfl, -, rfl⟩ := h1
    obtain ⟨_, C, hC, hcap, ht, hlc, hm⟩ := trow_open hr
    have K := stable_any L L.length g cap rfl (by omega) w w (SR.start ⟨C, hC, hcap, ht, hlc⟩)
    have HM := Lib.hid hm
    clear hr hC hcap ht hlc hm
    have FIN : Hid (∀ w1, StPost g cap L w (.returned (.tuple #[])) w1 → TRow 39 w1 (.slice (some ⟨g, 0, none⟩) L.length cap) (sortT L) ∧ Touch (fun k => (Value.slice (some ⟨g, 0, none⟩) 0 0).ownBlock = some k) w w1) := fun w1 ⟨_, D, sD, eD, hS⟩ => by
      have e := sortT_uniq sD eD
      subst e
      obtain ⟨C1, hC1, hcap1, ht1, hlc1⟩ := hS.row
      refine ⟨?_, hS.touch.mono (fun k _ h => by subst h; rfl)⟩
      have := trow_close hC1 ht1 (by omega) (by rw [hcap1]; exact HM.out)
      rw [hcap1, sortT_len] at this
      exact this
    have hl2 : (L.length : Int) ≤ 1000 := by omega
    go_enter Try.func30, Try.ntmps30
    go_wp2_with fail
    refine K.mono ?_; rintro e w1 ⟨rfl, hp⟩
    have F := FIN.out w1 ⟨rfl, hp⟩
    clear K FIN hp
    go_wp2_with fail
    refine bodyPost_ret (v := (.tuple #[])) (by simp [results, Try.results30, go_sem, *]) rfl ?_
    exact ⟨rfl, F⟩
end Go.Proofs.Ytmnakbpjbgjnmaa
