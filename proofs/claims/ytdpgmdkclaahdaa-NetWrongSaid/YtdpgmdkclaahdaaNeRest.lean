/- The net's Drop, Twice, Delay, Rebind. -/
import Derived.Test.YtdpgmdkclaahdaaNeDel
namespace Go.Proofs.Ytdpgmdkclaahdaa.Ne
open Go.Sort Go.RowKit Go.BigFrame
set_option linter.unusedVariables false
set_option linter.unusedSimpArgs false

section
variable {w0 w w' : World} {m : Mem} {H : List Hl} {n n' : Nt}
set_option maxHeartbeats 3200000 in
theorem drop_n (pick : Int) (hp : pick ≤ 9223372036854775807) (s : NN w0 m H n w) :
    Calls Try.prog 13 #[ptr m.g, .int .i64 pick] w fun e w' => e = .returned (.int .i64 (delE n 18446744073709551615 pick)) ∧ NN w0 m H (dropP n pick) w' := by
  have K := bdrop_n pick hp s
  unfold cpi at K
  have pu := s.pu
  have gl := s.glt
  generalize Bg.takeX 18446744073709551615 pick n.l = x at *
  obtain ⟨fi, fp, ti, tp, b, t⟩ := x
  simp only at K
  clear s
  generalize dropP n pick = n1 at *
  generalize delE n 18446744073709551615 pick = er at *
  go_enter Try.func13, Try.ntmps13
  go_wp2_with fail
  refine K.mono ?_; rintro e w1 ⟨rfl, s⟩
  have SA := Lib.hid s
  clear s pu
  go_wp2
  go_ret
  exact ⟨rfl, SA.out.keep ((Below.refl _ _).alloc (Nat.le_refl _) _)⟩
set_option maxHeartbeats 3200000 in
theorem twice_n (pick : Int) (hp : pick ≤ 9223372036854775807) (s : NN w0 m H n w) :
    Calls Try.prog 22 #[ptr m.g, .int .i64 pick] w fun e w' => e = .returned (.int .i64 (Bg.twiceE n.room pick n.l)) ∧ NN w0 m H (twiceP n pick) w' := by
  have KT : Hid (∀ H' w, NN w0 m H' n w → _) := fun H' w s => btwice_n (n := n) pick hp s
  have SA := Lib.hid s
  have pu := s.pu
  have gl := s.glt
  clear s
  generalize twiceP n pick = n1 at *
  generalize Bg.twiceE n.room pick n.l = er at *
  go_enter Try.func22, Try.ntmps22
  go_wp2_with fail
  refine (KT.out _ _ SA.out).mono ?_; rintro e w1 ⟨rfl, s⟩
  have SB := Lib.hid s
  clear s pu SA
  go_wp2
  go_ret
  exact ⟨rfl, SB.out⟩
set_option maxHeartbeats 3200000 in
theorem delay_n (pick by_ : Int) (hp : pick ≤ 9223372036854775807) (hb : 0 ≤ by_ ∧ by_ ≤ 18446744073709551615) (s : NN w0 m H n w) :
    Calls Try.prog 21 #[ptr m.g, .int .i64 pick, .int .u64 by_] w fun e w' => e = .returned (.int .i64 (delE n 18446744073709551615 pick)) ∧ NN w0 m H (delayP n pick by_) w' := by
  have KT : Hid (∀ H' w, NN w0 m H' n w → _) := fun H' w s => bdelay_n (n := n) pick by_ hp hb s
  have SA := Lib.hid s
  have pu := s.pu
  have gl := s.glt
  clear s
  generalize delayP n pick by_ = n1 at *
  generalize delE n 18446744073709551615 pick = er at *
  go_enter Try.func21, Try.ntmps21
  go_wp2_with fail
  refine (KT.out _ _ SA.out).mono ?_; rintro e w1 ⟨rfl, s⟩
  have SB := Lib.hid s
  clear s pu SA
  go_wp2
  go_ret
  exact ⟨rfl, SB.out⟩
set_option maxHeartbeats 3200000 in
theorem rebind_n (box ip : Int) (s : NN w0 m H n w) :
    Calls Try.prog 15 #[ptr m.g, .int .i64 box, .int .u32 ip] w fun e w' => e = .returned (.int .i64 (rebP n box ip).1) ∧ NN w0 m H (rebP n box ip).2 w' := by
  have hlb := s.lenB
  by_cases hb : box < 1 ∨ (n.bs.length : Int) < box
  · have es : rebP n box ip = (5, n) := by
      unfold rebP
      rw [if_pos]
      rcases hb with h | h <;> simp [h]
    rw [es]
    have K := box_none (n := n) box hb s
    have SA := Lib.hid s
    clear s es
    go_enter Try.func15, Try.ntmps15
    go_wp2_with fail
    refine K.mono ?_; rintro e w1 ⟨rfl, rfl⟩
    go_wp2
    go_ret
    exact ⟨rfl, SA.out⟩
  · obtain ⟨j, hj⟩ : ∃ j : Nat, box = (j : Int) + 1 := ⟨(box - 1).toNat, by omega⟩
    have hjl : j < n.bs.length := by omega
    have hq : m.gs[j]? = some (m.gs[j]'(by rw [hlb]; exact hjl)) := List.getElem?_eq_getElem _
    have hx : n.bs[j]? = some n.bs[j] := List.getElem?_eq_getElem hjl
    have ej : (box - 1).toNat = j := by omega
    have ef : (decide (box < 1) || decide ((n.bs.length : Int) < box)) = false := by
      rw [decide_eq_false (by omega), decide_eq_false (by omega)]; rfl
    have K1 := box_n (n := n) box j _ hj hq s
    have K2 := tak_n (n := n) ip hq s
    clear hj
    by_cases ht : takP n j ip = true
    · have es : rebP n box ip = (1, n) := by
        unfold rebP; rw [ef, ej]
        rw [if_neg (by simp), if_pos (show (hostsP n.hs ip || boxesP (others n.bs j) ip) = true from ht)]
      rw [es]
      rw [ht] at K2
      clear s es ef ej hb
      generalize (m.gs[j]'(by rw [hlb]; exact hjl)) = q at *
      go_enter Try.func15, Try.ntmps15
      go_wp2_with fail
      refine K1.mono ?_; rintro e w1 ⟨rfl, rfl⟩
      go_wp2_with fail
      refine K2.mono ?_; rintro e w2 ⟨rfl, s⟩
      have SA := Lib.hid s
      clear s K1 K2
      go_wp2
      go_ret
      exact ⟨rfl, SA.out⟩
    · have ht : takP n j ip = false := by simpa using ht
      rw [ht] at K2
      by_cases hi : ip = 0
      · have es : rebP n box ip = (1, n) := by
          unfold rebP; rw [ef, ej]
          rw [if_neg (by simp), if_neg (by rw [show (hostsP n.hs ip || boxesP (others n.bs j) ip) = takP n j ip from rfl, ht]; simp), if_pos hi]
        rw [es]
        have K3 := fun w => Nb.rebind_bad (m.gs[j]'(by rw [hlb]; exact hjl)) w
        subst hi
        clear s es ef ej hb
        generalize (m.gs[j]'(by rw [hlb]; exact hjl)) = q at *
        go_enter Try.func15, Try.ntmps15
        go_wp2_with fail
        refine K1.mono ?_; rintro e w1 ⟨rfl, rfl⟩
        go_wp2_with fail
        refine K2.mono ?_; rintro e w2 ⟨rfl, s⟩
        have SA := Lib.hid s
        clear s K1 K2
        go_wp2_with fail
        refine (K3 _).mono ?_; rintro e w3 ⟨rfl, b3⟩
        have SB := Lib.hid (SA.out.keep b3)
        clear SA b3
        go_wp2
        go_ret
        exact ⟨rfl, SB.out⟩
      · have es : rebP n box ip = (0, setB n j ⟨n.bs[j].m, n.bs[j].f, ip, n.bs[j].hold, n.bs[j].room, []⟩) := by
          unfold rebP; rw [ef, ej]
          rw [if_neg (by simp), if_neg (by rw [show (hostsP n.hs ip || boxesP (others n.bs j) ip) = takP n j ip from rfl, ht]; simp), if_neg hi]
          simp only [hx]
        rw [es]
        have K3 : Hid (∀ w, NN w0 m H n w → _) := fun w s => reb_n (n := n) ip hi hq hx s
        clear s es ef ej hb
        generalize (m.gs[j]'(by rw [hlb]; exact hjl)) = q at *
        generalize setB n j ⟨n.bs[j].m, n.bs[j].f, ip, n.bs[j].hold, n.bs[j].room, []⟩ = n1 at *
        go_enter Try.func15, Try.ntmps15
        go_wp2_with fail
        refine K1.mono ?_; rintro e w1 ⟨rfl, rfl⟩
        go_wp2_with fail
        refine K2.mono ?_; rintro e w2 ⟨rfl, s⟩
        have SA := Lib.hid s
        clear s K1 K2
        go_wp2_with fail
        refine (K3.out _ SA.out).mono ?_; rintro e w3 ⟨rfl, s⟩
        have SB := Lib.hid s
        clear SA s
        go_wp2
        go_ret
        exact ⟨rfl, SB.out⟩
end
end Go.Proofs.Ytdpgmdkclaahdaa.Ne
