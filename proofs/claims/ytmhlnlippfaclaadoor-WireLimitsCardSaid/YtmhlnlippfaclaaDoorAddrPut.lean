/- Contracts of an address's Put (both programs). -/
import Derived.Test.YtmhlnlippfaclaaDoorPackDone
import Derived.Deep.RegionHeld3
import Derived.Deep.DeepCutAuto
namespace Go.Proofs.YtmhlnlippfaclaaDoor
open Go.RowKit
set_option linter.unusedVariables false
set_option linter.unusedSimpArgs false

/-- all that was there is as it was -/
structure Bel (w w' : World) : Prop where
  out : Below w.heap.size w w'
theorem Bel.refl (w : World) : Bel w w := ⟨Below.refl _ _⟩
theorem Bel.drew {w w' : World} (h : Bel w w') : Bel w w'.drew := ⟨h.out.drew⟩
theorem Bel.alloc {w w' : World} (h : Bel w w') (o : Obj) : Bel w (w'.alloc o) := ⟨h.out.alloc h.out.size o⟩
theorem Bel.call {w w1 w2 : World} (h : Bel w w1) (hb : Below w1.heap.size w1 w2) : Bel w w2 := ⟨h.out.trans (hb.mono h.out.size)⟩
theorem Bel.setCell {w w' : World} (h : Bel w w') {p : Addr} (hp : w.heap.size ≤ p.block) (v : Value) : Bel w (w'.setCell p v) := ⟨h.out.setCell hp v⟩
/-- block g holds these two -/
structure Two (g : Nat) (v0 v1 : Value) (w : World) : Prop where
  c0 : w.cell? ⟨g, 0, none⟩ = some v0
  c1 : w.cell? ⟨g, 1, none⟩ = some v1
  f0 : w.frozen? ⟨g, 0, none⟩ = false
  f1 : w.frozen? ⟨g, 1, none⟩ = false
theorem Two.new (w : World) (v0 v1 : Value) (t : TypeId) : Two w.heap.size v0 v1 (w.alloc (.cells #[v0, v1] t)) := by
  refine ⟨?_, ?_, ?_, ?_⟩ <;> go_simp
theorem Two.lt {g : Nat} {v0 v1 : Value} {w : World} (h : Two g v0 v1 w) : g < w.heap.size := World.block_lt_of_cell? _ _ h.c0
theorem Two.keep {g : Nat} {v0 v1 : Value} {w w' : World} (h : Two g v0 v1 w) (hb : Below w.heap.size w w') : Two g v0 v1 w' :=
  ⟨(hb.cell (p := ⟨g, 0, none⟩) h.lt).trans h.c0, (hb.cell (p := ⟨g, 1, none⟩) h.lt).trans h.c1, (hb.frozen (p := ⟨g, 0, none⟩) h.lt).trans h.f0, (hb.frozen (p := ⟨g, 1, none⟩) h.lt).trans h.f1⟩

/-- the bytes of an address -/
def putB (ip port : Nat) : ByteArray := numB ip 4 ++ numB port 2
theorem putB_size (ip port : Nat) : (putB ip port).size = 6 := by simp [putB, numB_size]

theorem put_any (ip port : Nat) (h1 : ip < 4294967296) (h2 : port < 65536) (w : World) :
    Calls Tryd.prog 21 #[.agg #[.int .u32 ip, .int .u16 port]] w fun e w' => e = .returned (.string (putB ip port)) ∧ Below w.heap.size w w' := by
  have hz4 := numB_size ip 4
  have hz2 := numB_size port 2
  have n4 := fun w => num_at (ip : Int) (4 : Int) ip 4 rfl rfl (by omega) (by omega) (by omega) w
  have n2 := fun w => num_at (port : Int) (2 : Int) port 2 rfl rfl (by omega) (by omega) (by omega) w
  have hwi := IntWalk.u64_in (ip : Int) ⟨by omega, by omega⟩
  have hwp := IntWalk.u64_in (port : Int) ⟨by omega, by omega⟩
  obtain ⟨p4, hp4⟩ : ∃ p4, numB ip 4 = p4 := ⟨_, rfl⟩
  obtain ⟨p2, hp2⟩ : ∃ p2, numB port 2 = p2 := ⟨_, rfl⟩
  have HP : Hid (putB ip port = p4 ++ p2) := by show _ = _; rw [putB, hp4, hp2]
  rw [hp4] at hz4 n4
  rw [hp2] at hz2 n2
  have N4 := Lib.hid n4
  have N2 := Lib.hid n2
  clear hp4 hp2 n4 n2
  go_enter Tryd.func21, Tryd.ntmps21
  have X := Two.new w (.int .u32 ip) (.int .u16 port) 25
  have hB := (Below.refl w.heap.size w).alloc (Nat.le_refl _) (.cells #[.int .u32 ip, .int .u16 port] 25)
  go_upto_region 1 with fail
  generalize (w.alloc (.cells #[.int .u32 ip, .int .u16 port] 25)) = wb at *
  have QB : Bel wb wb := Bel.refl _
  have mkS : Hid (∀ w', Bel wb w' → w'.cell? ⟨w.heap.size, 0, none⟩ = some (.int .u32 ip) ∧ w'.cell? ⟨w.heap.size, 1, none⟩ = some (.int .u16 port) ∧ Bel wb w') := fun w' h => ⟨(X.keep h.out).c0, (X.keep h.out).c1, h⟩
  obtain ⟨x0, x1, _, _⟩ := X
  go_region_held3 (fun w' => w'.cell? ⟨w.heap.size, 0, none⟩ = some (.int .u32 ip) ∧ w'.cell? ⟨w.heap.size, 1, none⟩ = some (.int .u16 port) ∧ Bel wb w')
    (first | exact mkS.out _ QB | exact mkS.out _ QB.drew)
    (first | (go_at_call_of 11 (Value.int .u64 (ip : Int)); refine (N4.out _).mono ?_; rintro e wx ⟨rfl, hb⟩; have QB := Bel.call (by first | exact QB | exact QB.drew) hb) | (go_at_call_of 11 (Value.int .u64 (port : Int)); refine (N2.out _).mono ?_; rintro e wx ⟨rfl, hb⟩; have QB := Bel.call (by first | exact QB | exact QB.drew) hb))
  all_goals go_wp2
  all_goals go_ret
  all_goals refine ⟨by rw [HP.out]; rfl, hB.trans (QB.out.mono hB.size)⟩

end Go.Proofs.YtmhlnlippfaclaaDoor
