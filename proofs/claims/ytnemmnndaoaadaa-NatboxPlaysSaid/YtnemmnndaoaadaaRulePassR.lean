/- The contract of the reference's Passes. -/
import Derived.Test.YtnemmnndaoaadaaRulePassP
namespace Go.Proofs.Ytnemmnndaoaadaa
open Go.Sort Go.RowKit Go.BigFrame
set_option linter.unusedVariables false
set_option linter.unusedSimpArgs false

set_option maxHeartbeats 4000000 in
theorem rpasses_any (m f : Int) (a : Option Addr) (cap : Nat) (l : List (Int × Int)) (hl : l.length ≤ 1000000) (ip port : Int) (w : World) (hr : RdA w w.heap.size a l) :
    Calls Try.prog 28 #[.agg #[.int .i64 m, .int .i64 f], .slice a l.length cap, .agg #[.int .u32 ip, .int .u16 port]] w fun e w' => e = .returned (.bool (passT f l ip port)) ∧ Below w.heap.size w w' := by
  by_cases h0 : f = 0
  · subst h0
    rw [show passT 0 l ip port = true from rfl]
    go_enter Try.func28, Try.ntmps28
    go_wp2
    go_ret
    exact ⟨rfl, by (repeat (first | with_reducible exact Below.refl _ _ | with_reducible refine Below.drew ?_ | with_reducible refine below_drewN ?_ _ | with_reducible refine Below.alloc ?_ (by first | omega | (simp; done) | (simp; omega)) _ | with_reducible refine Below.setCell ?_ (by first | omega | (simp; done) | (simp; omega)) _))⟩
  · have n0 : (f == 0) = false := by rw [beq_eq_false_iff_ne]; exact h0
    have e : passT f l ip port = foundT f l ip port := by unfold passT foundT; rw [if_neg h0]
    rw [e]
    clear e
    have A : Hid (Cs w.heap.size [.int .i64 m, .int .i64 f] ((w.alloc (.cells #[.int .i64 m, .int .i64 f] 35)).alloc (.cells #[.int .u32 ip, .int .u16 port] 44))) := (Cs.new w [.int .i64 m, .int .i64 f] 35).alloc _
    have X : Hid (Cs (w.heap.size + 1) [.int .u32 ip, .int .u16 port] ((w.alloc (.cells #[.int .i64 m, .int .i64 f] 35)).alloc (.cells #[.int .u32 ip, .int .u16 port] 44))) := by
      have h := Cs.new (w.alloc (.cells #[.int .i64 m, .int .i64 f] 35)) [.int .u32 ip, .int .u16 port] 44
      simp only [World.size_alloc] at h
      exact h
    have hB : Hid (Below w.heap.size w ((w.alloc (.cells #[.int .i64 m, .int .i64 f] 35)).alloc (.cells #[.int .u32 ip, .int .u16 port] 44))) := by show Below _ _ _; (repeat (first | with_reducible exact Below.refl _ _ | with_reducible refine Below.drew ?_ | with_reducible refine below_drewN ?_ _ | with_reducible refine Below.alloc ?_ (by first | omega | (simp; done) | (simp; omega)) _ | with_reducible refine Below.setCell ?_ (by first | omega | (simp; done) | (simp; omega)) _))
    have hR : Hid (RdA ((w.alloc (.cells #[.int .i64 m, .int .i64 f] 35)).alloc (.cells #[.int .u32 ip, .int .u16 port] 44)) ((w.alloc (.cells #[.int .i64 m, .int .i64 f] 35)).alloc (.cells #[.int .u32 ip, .int .u16 port] 44)).heap.size a l) := hr.keep hB.out
    clear hr
    go_enter Try.func28, Try.ntmps28
    go_wp2_with fail
    generalize ((w.alloc (.cells #[.int .i64 m, .int .i64 f] 35)).alloc (.cells #[.int .u32 ip, .int .u16 port] 44)) = w0 at *
    go_loopw [7] (fun i wr => PassJ w0 f l ip port i wr) (fun i _ => l.length - (intOf i).toNat)
    case atStart => exact ⟨0, Nat.zero_le _, rfl, by simp [found_nil], Below.refl _ _⟩
    case round =>
      obtain ⟨j, hj, rfl, ha, hb⟩ := hrel
      by_cases hlt : j < l.length
      · have hlt' : (j : Int) < l.length := by omega
        have hj0 : (0 : Int) ≤ j := by omega
        obtain ⟨b, off, rfl, hbl, hc⟩ := hR.out.below hb (by omega)
        obtain ⟨c0, c1⟩ := hc j hlt
        have X1 := X.out.keep hb
        have x0 := X1.cell 0 _ rfl
        have x1 := X1.cell 1 _ rfl
        have A1 := A.out.keep hb
        have a1 := A1.cell 1 _ rfl
        have xl := X1.lt
        have al := A1.lt
        have HB := Lib.hid hb
        have Hyes := Lib.hid (fun h => found_yes (f := f) (ip := ip) (port := port) hlt h)
        have Hno := Lib.hid (fun h => found_take (f := f) hlt ha h)
        have HF := Lib.hid (hB.out.trans (hb.mono hB.out.size))
        generalize l[j] = r at *
        obtain ⟨r1, r2⟩ := r
        simp only at *
        clear hc ha hb hR X X1 A A1
        by_cases h1 : f = 1
        · subst h1
          by_cases hR1 : r1 = ip
          · have q : (r1 == ip) = true := by rw [beq_iff_eq]; exact hR1
            go_wp2
            go_quiet (fail)
            go_wp2
            go_ret
            exact ⟨bool_ret (by rw [Hyes.out (.inl ⟨trivial, hR1⟩)]), below_drewN HF.out _⟩
          · have q : (r1 == ip) = false := by rw [beq_eq_false_iff_ne]; exact hR1
            go_wp2
            go_quiet (fail)
            go_wp2
            go_roundw
            case rel => exact ⟨j + 1, by omega, by go_num, Hno.out (by omega), below_drewN HB.out _⟩
            case measure => simp [intOf]; omega
        · have n1 : (f == 1) = false := by rw [beq_eq_false_iff_ne]; exact h1
          by_cases h2 : f = 2
          · subst h2
            by_cases hR1 : r1 = ip
            · by_cases hR2 : r2 = port
              · have q : (r1 == ip) = true := by rw [beq_iff_eq]; exact hR1
                have q2 : (r2 == port) = true := by rw [beq_iff_eq]; exact hR2
                go_wp2
                go_quiet (fail)
                go_wp2
                go_ret
                exact ⟨bool_ret (by rw [Hyes.out (.inr ⟨trivial, hR1, hR2⟩)]), below_drewN HF.out _⟩
              · have q : (r1 == ip) = true := by rw [beq_iff_eq]; exact hR1
                have q2 : (r2 == port) = false := by rw [beq_eq_false_iff_ne]; exact hR2
                go_wp2
                go_quiet (fail)
                go_wp2
                go_roundw
                case rel => exact ⟨j + 1, by omega, by go_num, Hno.out (by omega), below_drewN HB.out _⟩
                case measure => simp [intOf]; omega
            · have q : (r1 == ip) = false := by rw [beq_eq_false_iff_ne]; exact hR1
              go_wp2
              go_quiet (fail)
              go_wp2
              go_roundw
              case rel => exact ⟨j + 1, by omega, by go_num, Hno.out (by omega), below_drewN HB.out _⟩
              case measure => simp [intOf]; omega
          · have n2 : (f == 2) = false := by rw [beq_eq_false_iff_ne]; exact h2
            go_wp2
            go_quiet (fail)
            go_wp2
            go_roundw
            case rel => exact ⟨j + 1, by omega, by go_num, Hno.out (by omega), below_drewN HB.out _⟩
            case measure => simp [intOf]; omega
      · obtain rfl : j = l.length := by omega
        rw [List.take_length] at ha
        have HA := Lib.hid ha
        have HF := Lib.hid (hB.out.trans (hb.mono hB.out.size))
        clear ha hb hR X A
        go_wp2
        go_ret
        exact ⟨bool_ret HA.out.symm, HF.out⟩
end Go.Proofs.Ytnemmnndaoaadaa
