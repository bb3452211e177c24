/- What NetArrives' calls answer. -/
import Derived.Test.YtdpgmdkclaahdaaNeEx
namespace Go.Proofs.Ytdpgmdkclaahdaa.Ne
open Go.Sort Go.RowKit Go.BigFrame
set_option linter.unusedVariables false
set_option linter.unusedSimpArgs false

def naA (m f : Int) : Nt := ⟨[⟨1, 7, 0⟩, ⟨10, 7, 1⟩], [⟨m, f, 9, 50, 8, []⟩], 8, []⟩
def na1 (m f : Int) : Nt := (sendP (naA m f) 0 2 1 7 ⟨#[97]⟩).2
def na2 (m f : Int) : Nt := (delP (na1 m f) 1 0).2
def na3 (m f i p : Int) : Nt := (sendP (na2 m f) 1 2 i p ⟨#[98]⟩).2
def na4 (m f i p : Int) : Bool → Nt
  | true => dropP (na3 m f i p) 0
  | false => na2 m f
def na5 (m f i p : Int) (k : Bool) : Nt := (injP (na4 m f i p k) 1 i p 9 20000 ⟨#[99]⟩).2
def na6 (m f i p : Int) (k : Bool) : Nt := (injP (na5 m f i p k) 1 i p 10 7 ⟨#[100]⟩).2
def na7 (m f i p : Int) (k : Bool) : Nt := (injP (na6 m f i p k) 1 i p 1 7 ⟨#[102]⟩).2
def na8 (m f i p : Int) (k : Bool) : Nt := (delP (na7 m f i p k) 2 0).2
def na9 (m f i p : Int) (k : Bool) : Nt := (delP (na8 m f i p k) 2 0).2
theorem naOk (m f : Int) : OkH (naA m f) := by
  intro h hh
  simp only [naA, List.mem_cons, List.not_mem_nil, or_false] at hh
  rcases hh with rfl | rfl
  · exact ⟨by decide, by decide, by simp [naA]⟩
  · exact ⟨by decide, by decide, by simp [naA]⟩
structure NaG (m f : Int) : Prop where
  n : newN [⟨1, 7, 0⟩, ⟨10, 7, 1⟩] [⟨m, f, 9, 50, 8⟩] 8 = some (naA m f)
  e1 : (sendP (naA m f) 0 2 1 7 ⟨#[97]⟩).1 = 0
  v2 : delV (na1 m f) 1 0 = .tuple #[.agg #[.int .i64 1, .int .u32 9, .int .u16 20000, .string ⟨#[97]⟩], .int .i64 0]
theorem naG {m f : Int} (hm : m = 0 ∨ m = 1 ∨ m = 2) (hf : f = 0 ∨ f = 1 ∨ f = 2) : NaG m f := by
  rcases hm with rfl | rfl | rfl <;> rcases hf with rfl | rfl | rfl <;> exact ⟨by kernel_rfl, by kernel_rfl, by kernel_rfl⟩
structure NaF (m f i p : Int) (k : Bool) : Prop where
  e3 : (sendP (na2 m f) 1 2 i p ⟨#[98]⟩).1 = 0
  e4 : delE (na3 m f i p) 18446744073709551615 0 = 0
  e5 : (injP (na4 m f i p k) 1 i p 9 20000 ⟨#[99]⟩).1 = 0
  e6 : (injP (na5 m f i p k) 1 i p 10 7 ⟨#[100]⟩).1 = 0
  e7 : (injP (na6 m f i p k) 1 i p 1 7 ⟨#[102]⟩).1 = 0
  v8 : delV (na7 m f i p k) 2 0 = .tuple #[.agg #[.int .i64 (if f = 0 ∨ (k = true ∧ m = 0) then 2 else 0), .int .u32 i, .int .u16 p, .string ⟨#[99]⟩], .int .i64 0]
  v9 : delV (na8 m f i p k) 2 0 = .tuple #[.agg #[.int .i64 0, .int .u32 i, .int .u16 p, .string ⟨#[100]⟩], .int .i64 0]
  v10 : delV (na9 m f i p k) 2 0 = .tuple #[.agg #[.int .i64 1, .int .u32 i, .int .u16 p, .string ⟨#[102]⟩], .int .i64 0]
theorem naF {m f i p : Int} (k : Bool) (hm : m = 0 ∨ m = 1 ∨ m = 2) (hf : f = 0 ∨ f = 1 ∨ f = 2) (hi : i = 100 ∨ i = 101 ∨ i = 102 ∨ i = 103) (hp : p = 1 ∨ p = 2 ∨ p = 3 ∨ p = 4) : NaF m f i p k := by
  rcases hm with rfl | rfl | rfl <;> rcases hf with rfl | rfl | rfl <;> rcases hi with rfl | rfl | rfl | rfl <;> rcases hp with rfl | rfl | rfl | rfl <;> cases k <;> exact ⟨by kernel_rfl, by kernel_rfl, by kernel_rfl, by kernel_rfl, by kernel_rfl, by kernel_rfl, by kernel_rfl, by kernel_rfl⟩
end Go.Proofs.Ytdpgmdkclaahdaa.Ne
