/- Who is inside, who outside: contracts of the law's own small calls. -/
import Derived.Test.YtnemmnndaoaadaaBoxEx
namespace Go.Proofs.Ytnemmnndaoaadaa
open Go.Sort Go.RowKit Go.BigFrame
set_option linter.unusedVariables false
set_option linter.unusedSimpArgs false

def innIP (i a : Int) : Int := if 250 < i then a else 167772160 + i % 8
def innPort (i b : Int) : Int := if 250 < i then b else 7
def outIP (o a : Int) : Int := if 250 < o then a else 50 + o % 4
def outPort (o b : Int) : Int := if 250 < o then b else 8 + o / 4 % 3
def deedV (k i o p b a c r : Int) : Value := .agg #[.int .u8 k, .int .u8 i, .int .u8 o, .int .u8 p, .int .u8 b, .int .u32 a, .int .u16 c, .int .u64 r]
theorem inner_any (k i o p b a c r : Int) (h0 : 0 ≤ i ∧ i ≤ 255) (w : World) : Calls Try.prog 16 #[.agg #[.int .u8 k, .int .u8 i, .int .u8 o, .int .u8 p, .int .u8 b, .int .u32 a, .int .u16 c, .int .u64 r]] w fun e w' => e = .returned (.agg #[.int .u32 (innIP i a), .int .u16 (innPort i c)]) ∧ Below w.heap.size w w' := by
  have hB := Below.refl w.heap.size w
  obtain ⟨h1, h2⟩ := h0
  by_cases h : 250 < i
  · rw [show innIP i a = a from if_pos h, show innPort i c = c from if_pos h]
    go_enter Try.func16, Try.ntmps16
    go_wp2
    refine bodyPost_ret (v := .agg #[.int .u32 a, .int .u16 c]) (by simp [results, Try.results16, go_sem]) rfl ⟨rfl, ?_⟩
    (have zzh := Below.size hB; repeat (first | with_reducible exact hB | with_reducible refine Below.setCell ?_ (by first | omega | (simp; done) | (simp; omega)) _ | with_reducible refine Below.alloc ?_ (by first | omega | (simp; done) | (simp; omega)) _ | with_reducible refine Below.drew ?_))
  · rw [show innIP i a = 167772160 + i % 8 from if_neg h, show innPort i c = 7 from if_neg h]
    have hm := tmod_pos i 8 h1
    go_enter Try.func16, Try.ntmps16
    go_wp2
    refine bodyPost_ret (v := .agg #[.int .u32 (167772160 + i % 8), .int .u16 7]) (by simp [results, Try.results16, go_sem]) rfl ⟨rfl, ?_⟩
    (have zzh := Below.size hB; repeat (first | with_reducible exact hB | with_reducible refine Below.setCell ?_ (by first | omega | (simp; done) | (simp; omega)) _ | with_reducible refine Below.alloc ?_ (by first | omega | (simp; done) | (simp; omega)) _ | with_reducible refine Below.drew ?_))
theorem outer_any (k i o p b a c r : Int) (h0 : 0 ≤ o ∧ o ≤ 255) (w : World) : Calls Try.prog 8 #[.agg #[.int .u8 k, .int .u8 i, .int .u8 o, .int .u8 p, .int .u8 b, .int .u32 a, .int .u16 c, .int .u64 r]] w fun e w' => e = .returned (.agg #[.int .u32 (outIP o a), .int .u16 (outPort o c)]) ∧ Below w.heap.size w w' := by
  have hB := Below.refl w.heap.size w
  obtain ⟨h1, h2⟩ := h0
  by_cases h : 250 < o
  · rw [show outIP o a = a from if_pos h, show outPort o c = c from if_pos h]
    go_enter Try.func8, Try.ntmps8
    go_wp2
    refine bodyPost_ret (v := .agg #[.int .u32 a, .int .u16 c]) (by simp [results, Try.results8, go_sem]) rfl ⟨rfl, ?_⟩
    (have zzh := Below.size hB; repeat (first | with_reducible exact hB | with_reducible refine Below.setCell ?_ (by first | omega | (simp; done) | (simp; omega)) _ | with_reducible refine Below.alloc ?_ (by first | omega | (simp; done) | (simp; omega)) _ | with_reducible refine Below.drew ?_))
  · rw [show outIP o a = 50 + o % 4 from if_neg h, show outPort o c = 8 + o / 4 % 3 from if_neg h]
    go_enter Try.func8, Try.ntmps8
    go_wp2
    refine bodyPost_ret (v := .agg #[.int .u32 (50 + o % 4), .int .u16 (8 + o / 4 % 3)]) (by simp [results, Try.results8, go_sem]) rfl ⟨rfl, ?_⟩
    (have zzh := Below.size hB; repeat (first | with_reducible exact hB | with_reducible refine Below.setCell ?_ (by first | omega | (simp; done) | (simp; omega)) _ | with_reducible refine Below.alloc ?_ (by first | omega | (simp; done) | (simp; omega)) _ | with_reducible refine Below.drew ?_))
theorem ref_any (a b : Int) (w : World) : Calls Try.prog 10 #[.agg #[.int .u32 a, .int .u16 b]] w fun e w' => e = .returned (.agg #[.int .u32 a, .int .u16 b]) ∧ Below w.heap.size w w' := by
  have hB := Below.refl w.heap.size w
  go_enter Try.func10, Try.ntmps10
  go_wp2
  refine bodyPost_ret (v := .agg #[.int .u32 a, .int .u16 b]) (by simp [results, Try.results10, go_sem]) rfl ⟨rfl, ?_⟩
  (have zzh := Below.size hB; repeat (first | with_reducible exact hB | with_reducible refine Below.setCell ?_ (by first | omega | (simp; done) | (simp; omega)) _ | with_reducible refine Below.alloc ?_ (by first | omega | (simp; done) | (simp; omega)) _ | with_reducible refine Below.drew ?_))
end Go.Proofs.Ytnemmnndaoaadaa
