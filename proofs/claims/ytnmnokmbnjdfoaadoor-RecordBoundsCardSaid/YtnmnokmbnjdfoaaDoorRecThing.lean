/- Contracts of the laws' helpers: thing, refRecord. -/
import Derived.Test.YtnmnokmbnjdfoaaDoorRecLaid
namespace Go.Proofs.YtnmnokmbnjdfoaaDoor
open Go.RowKit
set_option linter.unusedVariables false
set_option linter.unusedSimpArgs false

theorem refrec_any (a : Rec) (w : World) :
    Calls Tryd.prog 11 #[.agg #[.int .i64 a.id, .int .i64 a.st, .int .u32 a.n, .int .u32 a.ip, .int .u16 a.port]] w fun e w' => e = .returned (.agg #[.int .i64 a.id, .int .i64 a.st, .int .u32 a.n, .int .u32 a.ip, .int .u16 a.port]) ∧ Below w.heap.size w w' := by
  go_enter Tryd.func11, Tryd.ntmps11
  go_wp2
  refine bodyPost_ret (v := .agg #[.int .i64 a.id, .int .i64 a.st, .int .u32 a.n, .int .u32 a.ip, .int .u16 a.port]) (by simp [results, Tryd.results11, go_sem]) rfl ⟨rfl, ?_⟩
  have hB := Below.refl w.heap.size w
  (have zzh := Below.size hB; repeat (first | with_reducible exact hB | with_reducible refine Below.setCell ?_ (by first | omega | (simp; done) | (simp; omega)) _ | with_reducible refine Below.alloc ?_ (by first | omega | (simp; done) | (simp; omega)) _ | with_reducible refine Below.drew ?_))
theorem thing_plain (a : Rec) (w : World) :
    Calls Tryd.prog 10 #[.agg #[.int .i64 a.id, .int .i64 a.st, .int .u32 a.n, .int .u32 a.ip, .int .u16 a.port, .bool false]] w fun e w' => e = .returned (.agg #[.int .i64 a.id, .int .i64 a.st, .int .u32 a.n, .int .u32 a.ip, .int .u16 a.port]) ∧ Below w.heap.size w w' := by
  go_enter Tryd.func10, Tryd.ntmps10
  go_wp2
  refine bodyPost_ret (v := .agg #[.int .i64 a.id, .int .i64 a.st, .int .u32 a.n, .int .u32 a.ip, .int .u16 a.port]) (by simp [results, Tryd.results10, go_sem]) rfl ⟨rfl, ?_⟩
  have hB := Below.refl w.heap.size w
  (have zzh := Below.size hB; repeat (first | with_reducible exact hB | with_reducible refine Below.setCell ?_ (by first | omega | (simp; done) | (simp; omega)) _ | with_reducible refine Below.alloc ?_ (by first | omega | (simp; done) | (simp; omega)) _ | with_reducible refine Below.drew ?_))
theorem wrap_lo (n : Int) : 0 ≤ IntKind.u64.wrap n := by
  simp [IntKind.wrap, IntKind.signed]
  exact Int.emod_nonneg _ (by decide)
theorem thing_own (a : Rec) (ha : a.Ok) : ∃ b : Rec, b.Ok ∧ b.right = true ∧ ∀ w : World,
    Calls Tryd.prog 10 #[.agg #[.int .i64 a.id, .int .i64 a.st, .int .u32 a.n, .int .u32 a.ip, .int .u16 a.port, .bool true]] w fun e w' => e = .returned (.agg #[.int .i64 b.id, .int .i64 b.st, .int .u32 b.n, .int .u32 b.ip, .int .u16 b.port]) ∧ Below w.heap.size w w' := by
  obtain ⟨i, st, n, ip, port⟩ := a
  have hn := ha.n
  have hip := ha.ip
  simp only at *
  clear ha
  have hu := wrap_lo i
  have hv := wrap_lo st
  obtain ⟨q, hq⟩ : ∃ q, IntKind.u64.wrap i % 6 = q := ⟨_, rfl⟩
  obtain ⟨p, hp⟩ : ∃ p, IntKind.u64.wrap st % 4 = p := ⟨_, rfl⟩
  have hq2 : (IntKind.u64.wrap i).tmod 6 = q := by rw [tmod_pos _ _ hu]; exact hq
  have hp2 : (IntKind.u64.wrap st).tmod 4 = p := by rw [tmod_pos _ _ hv]; exact hp
  have q0 : 0 ≤ q ∧ q < 6 := by omega
  have p0 : 0 ≤ p ∧ p < 4 := by omega
  obtain ⟨m, hm⟩ : ∃ m, n % 5 = m := ⟨_, rfl⟩
  obtain ⟨k, hk⟩ : ∃ k, ip % 3 = k := ⟨_, rfl⟩
  have m1 : (n : Int) % 5 = (m : Int) := by omega
  have m2 : (n : Int).tmod 5 = (m : Int) := by rw [tmod_pos _ _ (by omega)]; exact m1
  have k1 : (ip : Int) % 3 = (k : Int) := by omega
  have k2 : (ip : Int).tmod 3 = (k : Int) := by rw [tmod_pos _ _ (by omega)]; exact k1
  have m3 : m < 5 := by omega
  have k3 : k < 3 := by omega
  refine ⟨⟨1 + q, p, m, 1 + k, 7⟩, ⟨by show m < _; omega, by show 1 + k < _; omega, by show (7 : Nat) < _; omega⟩, ?_, fun w => ?_⟩
  · unfold Rec.right rightI stI noneI
    simp
    omega
  · have c1 := IntWalk.i64_in q ⟨by omega, by omega⟩
    have c2 := IntWalk.i64_in p ⟨by omega, by omega⟩
    have c3 := IntWalk.i64_in (1 + q) ⟨by omega, by omega⟩
    have c4 := IntWalk.u32_in (1 + (k : Int)) ⟨by omega, by omega⟩
    have e1 : (((1 + k : Nat) : Nat) : Int) = 1 + (k : Int) := by omega
    have e7 : (((7 : Nat) : Nat) : Int) = 7 := rfl
    clear hm hk
    show Calls _ _ _ _ fun e w' => e = .returned (.agg #[.int .i64 (1 + q), .int .i64 p, .int .u32 m, .int .u32 ((1 + k : Nat) : Int), .int .u16 ((7 : Nat) : Int)]) ∧ Below w.heap.size w w'
    rw [e1, e7]
    go_enter Tryd.func10, Tryd.ntmps10
    go_wp2
    refine bodyPost_ret (v := .agg #[.int .i64 (1 + q), .int .i64 p, .int .u32 m, .int .u32 (1 + (k : Int)), .int .u16 7]) (by simp [results, Tryd.results10, go_sem]) rfl ⟨rfl, ?_⟩
    have hB := Below.refl w.heap.size w
    (have zzh := Below.size hB; repeat (first | with_reducible exact hB | with_reducible refine Below.setCell ?_ (by first | omega | (simp; done) | (simp; omega)) _ | with_reducible refine Below.alloc ?_ (by first | omega | (simp; done) | (simp; omega)) _ | with_reducible refine Below.drew ?_))
theorem thing_any (a : Rec) (own : Bool) (ha : a.Ok) : ∃ b : Rec, b.Ok ∧ (own = true → b.right = true) ∧ ∀ w : World,
    Calls Tryd.prog 10 #[.agg #[.int .i64 a.id, .int .i64 a.st, .int .u32 a.n, .int .u32 a.ip, .int .u16 a.port, .bool own]] w fun e w' => e = .returned (.agg #[.int .i64 b.id, .int .i64 b.st, .int .u32 b.n, .int .u32 b.ip, .int .u16 b.port]) ∧ Below w.heap.size w w' := by
  cases own
  · exact ⟨a, ha, fun h => (by cases h), thing_plain a⟩
  · obtain ⟨b, h1, h2, h3⟩ := thing_own a ha
    exact ⟨b, h1, fun _ => h2, h3⟩
end Go.Proofs.YtnmnokmbnjdfoaaDoor
