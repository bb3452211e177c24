/- slices.swapRangeCmpFunc and rotateCmpFunc over timers. -/
import Derived.Test.YtmnakbpjbgjnmaaTmRow
import Derived.BigRegion
namespace Go.Proofs.Ytmnakbpjbgjnmaa
open Go.Sort Go.RowKit Go.BigFrame
set_option linter.unusedVariables false
set_option linter.unusedSimpArgs false

/-- the order of timers -/
def kt (x : Tm) : Int := x.t
def SrPost (T : TypeId) (g cap : Nat) (D : List Tm) (w0 : World) (e : Ending) (w' : World) : Prop := e = .returned (.tuple #[]) ∧ SR T g cap D w0 w'
def SwJ (P U V W Q : List Tm) (g cap : Nat) (w0 : World) (iv : Value) (wr : World) : Prop := ∃ c D, iv = .int .i64 (c : Nat) ∧ c ≤ U.length ∧ SwR P U V W Q c D ∧ SR 39 g cap D w0 wr
set_option maxHeartbeats 3200000 in
theorem swr_any (P U V W Q : List Tm) (hw : W.length = U.length) (n g cap : Nat) (hn : n = P.length + U.length + V.length + W.length + Q.length) (hl : n ≤ 1000000) (fv : Value) (w0 w : World) (h : SR 39 g cap (P ++ U ++ V ++ W ++ Q) w0 w)
    (av bv cv : Int) (ha : av = (P.length : Nat)) (hb : bv = ((P.length + U.length + V.length : Nat) : Int)) (hc : cv = (U.length : Nat)) :
    Calls Try.prog 37 #[.slice (some ⟨g, 0, none⟩) n cap, .int .i64 av, .int .i64 bv, .int .i64 cv, fv] w (SrPost 39 g cap (P ++ W ++ V ++ U ++ Q) w0) := by
  have S0 : Hid (SwJ P U V W Q g cap w0 (.int .i64 0) w) := ⟨0, _, rfl, Nat.zero_le _, SwR.start P U V W Q, h⟩
  subst ha hb hc
  have ha0 : (0 : Int) ≤ (P.length : Nat) := by omega
  have hu0 : (0 : Int) ≤ (U.length : Nat) := by omega
  have HN := Lib.hid hn
  have HW := Lib.hid hw
  clear h hn hw
  generalize hp : P.length = p at *
  generalize hb : p + U.length + V.length = b at *
  generalize hu : U.length = u at *
  have HP := Lib.hid hp
  have HB := Lib.hid hb
  have HU := Lib.hid hu
  clear hp hb hu
  have hbb : (0 : Int) ≤ b := by omega
  have hpn : (p : Int) ≤ 1000000 := by have := HN.out; have := HB.out; omega
  have hbn : (b : Int) ≤ 1000000 := by have := HN.out; have := HB.out; omega
  have hun : (u : Int) ≤ 1000000 := by have := HN.out; have := HB.out; omega
  go_enter Try.func37, Try.ntmps37
  go_wp2_with fail
  go_loopw [10] (fun iv wr => SwJ P U V W Q g cap w0 iv wr) (fun iv _ => u - (intOf iv).toNat)
  case atStart => exact S0.out
  case round =>
    obtain ⟨c, D, rfl, hcu, hS, hR⟩ := hrel
    have hc0 : (0 : Int) ≤ c := by omega
    clear S0
    by_cases hlt : c < u
    · have hlt' : (c : Int) < u := by omega
      obtain ⟨x, y, hx, hy, hS2⟩ := hS.step (by rw [HU.out]; exact hlt) (by rw [HW.out, HU.out])
      have hDl := hS.len
      simp only [HP.out, HU.out, HB.out] at hx hy hS2 hDl
      have HWo := HW.out
      have HNo := HN.out
      have HBo := HB.out
      have hSW := hR.swap (p + c) (b + c) y x (by omega) (by omega)
      have NX := Lib.hid (⟨hS2, hSW⟩ : SwR P U V W Q (c + 1) (swp D (p + c) (b + c) y x) ∧ _)
      have c0 := hR.cell hx 0 _ rfl
      have c1 := hR.cell hx 1 _ rfl
      have c2 := hR.cell hx 2 _ rfl
      have d0 := hR.cell hy 0 _ rfl
      have d1 := hR.cell hy 1 _ rfl
      have d2 := hR.cell hy 2 _ rfl
      have fr := fun o => hR.free o
      have gl := hR.lt
      have hs1 : (p : Int) + c = ((p + c : Nat) : Int) := by omega
      have hs2 : (b : Int) + c = ((b + c : Nat) : Int) := by omega
      have hs3 : p + c < b + c := by omega
      have hs4 : b + c < n := by omega
      have hs5 : p + c < n := by omega
      have HC := Lib.hid hlt
      clear hx hy hS2 hSW hDl HWo HNo HBo hR hS
      generalize p + c = s at *
      generalize b + c = t at *
      have hs6 : (s : Int) < n := by omega
      have hs7 : (t : Int) < n := by omega
      have hs8 : (0 : Int) ≤ s := by omega
      have hs9 : (0 : Int) ≤ t := by omega
      obtain ⟨x1, x2, x3⟩ := x
      obtain ⟨y1, y2, y3⟩ := y
      simp only [Nat.add_zero] at c0 c1 c2 d0 d1 d2
      go_wp2_with fail
      go_region
      go_wp2_with fail
      go_roundw
      case rel => exact ⟨c + 1, _, by go_num, by rw [HU.out]; exact HC.out, NX.out.1, NX.out.2.keep ((Below.refl _ _).drew)⟩
      case measure => simp [intOf]; omega
    · rw [HU.out] at hcu
      obtain rfl : c = u := by omega
      have F := hS.done (by rw [HU.out]) (by rw [HW.out, HU.out])
      subst F
      go_wp2_with fail
      refine bodyPost_ret (v := (.tuple #[])) (by simp [results, Try.results37, go_sem, *]) rfl ?_
      exact ⟨rfl, hR⟩
/-! rotate -/
def RotJ (P A B Q : List Tm) (m g cap : Nat) (w0 : World) (iv jv : Value) (wr : World) : Prop := ∃ i j D, iv = .int .i64 (i : Nat) ∧ jv = .int .i64 (j : Nat) ∧ Rot P A B Q m i j D ∧ SR 39 g cap D w0 wr
set_option maxHeartbeats 3200000 in
theorem rot_any (P A B Q : List Tm) (hA : 0 < A.length) (hB : 0 < B.length) (n g cap : Nat) (hn : n = P.length + A.length + B.length + Q.length) (hl : n ≤ 1000000) (fv : Value) (w0 w : World) (h : SR 39 g cap (P ++ A ++ B ++ Q) w0 w)
    (av mv bv : Int) (ha : av = (P.length : Nat)) (hm : mv = ((P.length + A.length : Nat) : Int)) (hb : bv = ((P.length + A.length + B.length : Nat) : Int)) :
    Calls Try.prog 36 #[.slice (some ⟨g, 0, none⟩) n cap, .int .i64 av, .int .i64 mv, .int .i64 bv, fv] w (SrPost 39 g cap (P ++ B ++ A ++ Q) w0) := by
  have S0 : Hid (RotJ P A B Q (P.length + A.length) g cap w0 (.int .i64 (A.length : Nat)) (.int .i64 (B.length : Nat)) w) := ⟨_, _, _, rfl, rfl, Rot.start hA hB, h⟩
  subst ha hm hb
  have hs1 : ((P.length + A.length : Nat) : Int) - (P.length : Nat) = (A.length : Nat) := by omega
  have hs2 : ((P.length + A.length + B.length : Nat) : Int) - ((P.length + A.length : Nat) : Int) = (B.length : Nat) := by omega
  have HN : Hid (∀ D m i j, Rot P A B Q m i j D → D.length = n) := fun D m i j h => by rw [h.len.1, hn]
  have ha0 : (0 : Int) ≤ (A.length : Nat) := by omega
  have hb0 : (0 : Int) ≤ (B.length : Nat) := by omega
  have hal : (A.length : Int) ≤ 1000000 := by omega
  have hbl : (B.length : Int) ≤ 1000000 := by omega
  have hml : ((P.length + A.length : Nat) : Int) ≤ 1000000 := by omega
  have hml2 : P.length + A.length ≤ 1000000 := by omega
  clear h hn hA hB
  generalize P.length + A.length + B.length = bb at *
  generalize P.length + A.length = m at *
  generalize P.length = p at *
  generalize A.length = la at *
  generalize B.length = lb at *
  go_enter Try.func36, Try.ntmps36
  go_wp2_with fail
  go_loopw [10, 11] (fun iv jv wr => RotJ P A B Q m g cap w0 iv jv wr) (fun iv jv _ => (intOf iv).toNat + (intOf jv).toNat)
  case atStart => exact S0.out
  case round =>
    obtain ⟨i, j, D, rfl, rfl, hR, hS⟩ := hrel
    clear S0 hs1 hs2 ha0 hb0 hal hbl
    obtain ⟨hDl, him, hmj, hi0, hj0⟩ := hR.len
    have hDn := HN.out _ _ _ _ hR
    have hi0' : (0 : Int) < i := by omega
    have hj0' : (0 : Int) < j := by omega
    have hjl : (j : Int) ≤ 1000000 := by omega
    have hmj1 : ((m : Int) + j) ≤ 1000000 := by omega
    have him' : (i : Int) ≤ m := by omega
    rcases Nat.lt_trichotomy i j with hij | rfl | hij
    · have h1 : (i : Int) < j := by omega
      have h2 : decide ((j : Int) < i) = false := decide_eq_false (by omega)
      have h3 : ((i : Int) == j) = false := by rw [beq_eq_false_iff_ne]; omega
      obtain ⟨p', u, v, x, q, e1, l1, l2, l3, l4, hR2⟩ := hR.small hij
      have C := swr_any p' u v x q (by rw [l3, l2]) n g cap (by rw [← hDn, e1]; simp only [List.length_append]) hl fv w0 wr (e1 ▸ hS) ((m : Int) - i) ((m : Int) + j - i) i (by rw [l1]; omega) (by rw [l4]; omega) (by rw [l2])
      have HR2 := Lib.hid hR2
      have hsub : (j : Int) - i = ((j - i : Nat) : Int) := by omega
      clear hR hS e1 l1 l2 l3 l4 hDl him hmj hR2 hDn
      go_wp2_with fail
      refine C.mono ?_; rintro e w1 ⟨rfl, hS2⟩
      clear C
      go_wp2_with fail
      go_roundw
      case rel => exact ⟨i, j - i, _, rfl, by go_num, HR2.out, hS2⟩
      case measure => simp [intOf]; omega
    · have h3 : ((i : Int) == i) = true := by simp
      obtain ⟨p', u, x, q, e1, l1, l2, l3, l4, e2⟩ := hR.even
      have C := swr_any p' u [] x q (by rw [l3, l2]) n g cap (by rw [← hDn, e1]; simp only [List.length_append]) hl fv w0 wr (e1 ▸ hS) ((m : Int) - i) m i (by rw [l1]; omega) (by rw [l4]; simp) (by rw [l2])
      rw [e2] at C
      clear hR hS e1 l1 l2 l3 l4 hDl him hmj e2 hDn
      go_wp2_with fail
      refine C.mono ?_; rintro e w1 ⟨rfl, hS2⟩
      clear C
      go_wp2_with fail
      refine bodyPost_ret (v := (.tuple #[])) (by simp [results, Try.results36, go_sem, *]) rfl ?_
      exact ⟨rfl, hS2⟩
    · have h1 : decide ((j : Int) < i) = true := decide_eq_true (by omega)
      have h3 : ((i : Int) == j) = false := by rw [beq_eq_false_iff_ne]; omega
      obtain ⟨p', u, v, x, q, e1, l1, l2, l3, l4, hR2⟩ := hR.big hij
      have C := swr_any p' u v x q (by rw [l3, l2]) n g cap (by rw [← hDn, e1]; simp only [List.length_append]) hl fv w0 wr (e1 ▸ hS) ((m : Int) - i) m j (by rw [l1]; omega) (by rw [l4]) (by rw [l2])
      have HR2 := Lib.hid hR2
      have hsub : (i : Int) - j = ((i - j : Nat) : Int) := by omega
      have hil : (i : Int) ≤ 1000000 := by omega
      clear hR hS e1 l1 l2 l3 l4 hDl him hmj hR2 hDn
      go_wp2_with fail
      refine C.mono ?_; rintro e w1 ⟨rfl, hS2⟩
      clear C
      go_wp2_with fail
      go_roundw
      case rel => exact ⟨i - j, j, _, by go_num, rfl, HR2.out, hS2⟩
      case measure => simp [intOf]; omega
end Go.Proofs.Ytmnakbpjbgjnmaa
