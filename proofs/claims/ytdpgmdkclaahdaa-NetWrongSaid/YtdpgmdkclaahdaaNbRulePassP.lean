/- Contracts of Passes, both programs, whole. -/
import Derived.Test.YtdpgmdkclaahdaaNbRulePass
namespace Go.Proofs.Ytdpgmdkclaahdaa.Nb
open Go.Sort Go.RowKit Go.BigFrame
set_option linter.unusedVariables false
set_option linter.unusedSimpArgs false

theorem contains_any (a : Option Addr) (cap : Nat) (l : List (Int × Int)) (hl : l.length ≤ 1000000) (ip port : Int) (w : World) (hr : RdA w w.heap.size a l) :
    Calls Try.prog 76 #[.slice a l.length cap, .agg #[.int .u32 ip, .int .u16 port]] w fun e w' => e = .returned (.bool (bothIn l ip port)) ∧ Below w.heap.size w w' := by
  have hB : Hid (Below w.heap.size w (w.alloc (.cells #[.int .u32 ip, .int .u16 port] 28))) := by show Below _ _ _; (repeat (first | with_reducible exact Below.refl _ _ | with_reducible refine Below.drew ?_ | with_reducible refine below_drewN ?_ _ | with_reducible refine Below.alloc ?_ (by first | omega | (simp; done) | (simp; omega)) _ | with_reducible refine Below.setCell ?_ (by first | omega | (simp; done) | (simp; omega)) _))
  have hR : RdA (w.alloc (.cells #[.int .u32 ip, .int .u16 port] 28)) (w.alloc (.cells #[.int .u32 ip, .int .u16 port] 28)).heap.size a l := hr.keep hB.out
  have I := index_any a cap l hl ip port _ hR
  generalize bothIn l ip port = b at *
  generalize hL : l.length = L at *
  clear hr hl hL hR
  go_enter Try.func76, Try.ntmps76
  go_wp2_with fail
  refine I.mono ?_; rintro e w1 ⟨v, rfl, hv, b1⟩
  have hB2 := Lib.hid (hB.out.trans (b1.mono hB.out.size))
  rcases b
  · have hv : ¬ v ≥ 0 := by simpa using hv
    go_wp2
    go_ret
    exact ⟨rfl, hB2.out⟩
  · have hv : v ≥ 0 := by simpa using hv
    go_wp2
    go_ret
    exact ⟨rfl, hB2.out⟩
theorem passes_any (m f : Int) (a : Option Addr) (cap : Nat) (l : List (Int × Int)) (hl : l.length ≤ 1000000) (ip port : Int) (w : World) (hr : RdA w w.heap.size a l) :
    Calls Try.prog 67 #[.agg #[.int .i64 m, .int .i64 f], .slice a l.length cap, .agg #[.int .u32 ip, .int .u16 port]] w fun e w' => e = .returned (.bool (passT f l ip port)) ∧ Below w.heap.size w w' := by
  have X : Hid (Cs (w.heap.size + 1) [.int .u32 ip, .int .u16 port] ((w.alloc (.cells #[.int .i64 m, .int .i64 f] 24)).alloc (.cells #[.int .u32 ip, .int .u16 port] 28))) := by
    have h := Cs.new (w.alloc (.cells #[.int .i64 m, .int .i64 f] 24)) [.int .u32 ip, .int .u16 port] 28
    simp only [World.size_alloc] at h
    exact h
  have hB : Hid (Below w.heap.size w ((w.alloc (.cells #[.int .i64 m, .int .i64 f] 24)).alloc (.cells #[.int .u32 ip, .int .u16 port] 28))) := by show Below _ _ _; (repeat (first | with_reducible exact Below.refl _ _ | with_reducible refine Below.drew ?_ | with_reducible refine below_drewN ?_ _ | with_reducible refine Below.alloc ?_ (by first | omega | (simp; done) | (simp; omega)) _ | with_reducible refine Below.setCell ?_ (by first | omega | (simp; done) | (simp; omega)) _))
  have hR : RdA ((w.alloc (.cells #[.int .i64 m, .int .i64 f] 24)).alloc (.cells #[.int .u32 ip, .int .u16 port] 28)) ((w.alloc (.cells #[.int .i64 m, .int .i64 f] 24)).alloc (.cells #[.int .u32 ip, .int .u16 port] 28)).heap.size a l := hr.keep hB.out
  have I1 := containsFunc_any a cap l hl ip (w.heap.size + 1) _ hR (X.out.cell 0 _ rfl) X.out.lt
  have I2 := contains_any a cap l hl ip port _ hR
  clear hR hr X
  by_cases h0 : f = 0
  · subst h0
    rw [show passT 0 l ip port = true from rfl]
    clear I1 I2
    go_enter Try.func67, Try.ntmps67
    go_wp2
    go_ret
    exact ⟨rfl, hB.out⟩
  · have n0 : (f == 0) = false := by rw [beq_eq_false_iff_ne]; exact h0
    by_cases h1 : f = 1
    · subst h1
      rw [show passT 1 l ip port = hostIn l ip from rfl]
      generalize hostIn l ip = b at *
      generalize hL : l.length = L at *
      clear hl hL I2
      go_enter Try.func67, Try.ntmps67
      go_wp2_with fail
      refine I1.mono ?_; rintro e w1 ⟨rfl, b1⟩
      go_wp2
      go_ret
      exact ⟨rfl, hB.out.trans (b1.mono hB.out.size)⟩
    · have n1 : (f == 1) = false := by rw [beq_eq_false_iff_ne]; exact h1
      by_cases h2 : f = 2
      · subst h2
        rw [show passT 2 l ip port = bothIn l ip port from rfl]
        generalize bothIn l ip port = b at *
        generalize hL : l.length = L at *
        clear hl hL I1
        go_enter Try.func67, Try.ntmps67
        go_wp2_with fail
        refine I2.mono ?_; rintro e w1 ⟨rfl, b1⟩
        go_wp2
        go_ret
        exact ⟨rfl, hB.out.trans (b1.mono hB.out.size)⟩
      · have n2 : (f == 2) = false := by rw [beq_eq_false_iff_ne]; exact h2
        rw [show passT f l ip port = false by unfold passT; rw [if_neg h0, if_neg h1, if_neg h2]]
        clear I1 I2
        go_enter Try.func67, Try.ntmps67
        go_wp2
        go_ret
        exact ⟨rfl, hB.out⟩
/-- what the reference's loop has found ahead of j -/
def foundT (f : Int) (l : List (Int × Int)) (ip port : Int) : Bool := if f = 1 then hostIn l ip else if f = 2 then bothIn l ip port else false
def PassJ (w : World) (f : Int) (l : List (Int × Int)) (ip port : Int) (i : Value) (wr : World) : Prop := ∃ j : Nat, j ≤ l.length ∧ i = .int .i64 j ∧ foundT f (l.take j) ip port = false ∧ Below w.heap.size w wr
theorem found_nil (f ip port : Int) : foundT f [] ip port = false := by unfold foundT; split; rfl; split <;> rfl
theorem found_take {f : Int} {l : List (Int × Int)} {ip port : Int} {j : Nat} (h : j < l.length) (h1 : foundT f (l.take j) ip port = false) (h2 : ¬ ((f = 1 ∧ l[j].1 = ip) ∨ (f = 2 ∧ l[j].1 = ip ∧ l[j].2 = port))) : foundT f (l.take (j + 1)) ip port = false := by
  unfold foundT at *
  by_cases c1 : f = 1
  · rw [if_pos c1] at *; exact host_take h h1 (fun x => h2 (.inl ⟨c1, x⟩))
  · rw [if_neg c1] at *
    by_cases c2 : f = 2
    · rw [if_pos c2] at *; exact both_take h h1 (fun x => h2 (.inr ⟨c2, x⟩))
    · rw [if_neg c2]
theorem found_yes {f : Int} {l : List (Int × Int)} {ip port : Int} {j : Nat} (h : j < l.length) (h2 : (f = 1 ∧ l[j].1 = ip) ∨ (f = 2 ∧ l[j].1 = ip ∧ l[j].2 = port)) : foundT f l ip port = true := by
  unfold foundT
  rcases h2 with ⟨rfl, h2⟩ | ⟨rfl, h2, h3⟩
  · exact host_yes h h2
  · exact both_yes h h2 h3
end Go.Proofs.Ytdpgmdkclaahdaa.Nb