/- What all texts of chapter 11 import. -/
import Derived.Test.YtdpgmdkclaahdaaKit
import Derived.Test.YtdpgmdkclaahdaaRows
import Derived.ProofKit
import Derived.WalkLawsBesides
import Derived.WalkSpells
import Derived.Outline
import Derived.WalkMore
import Derived.Laws.Strings2
import Derived.Laws.Concat
import Derived.Lib.Strings
import Derived.IntWalk
import Derived.RegionTactic
import Derived.ChangeAlike
import Derived.Deep.DeepCutAuto
import Derived.BigQuiet
import Derived.Lib.QuietBelow
import Derived.Laws.Cover2
import Derived.Laws.Cover3
import Derived.Laws.IdiomStrings
import Derived.Laws.MakeOwn
import Derived.Deep.QuietTactic
import Derived.Deep.RegionHeld3
namespace Go.Proofs.Ytdpgmdkclaahdaa
open Go.RowKit
theorem bool_ret {b c : Bool} (h : b = c) : Ending.returned (Value.bool b) = Ending.returned (Value.bool c) := by rw [h]
/-- all that was there is as it was -/
structure Bel (w w' : World) : Prop where
  out : Below w.heap.size w w'
theorem Bel.refl (w : World) : Bel w w := ⟨Below.refl _ _⟩
theorem Bel.drew {w w' : World} (h : Bel w w') : Bel w w'.drew := ⟨h.out.drew⟩
theorem Bel.alloc {w w' : World} (h : Bel w w') (o : Obj) : Bel w (w'.alloc o) := ⟨h.out.alloc h.out.size o⟩
theorem Bel.call {w w1 w2 : World} (h : Bel w w1) (hb : Below w1.heap.size w1 w2) : Bel w w2 := ⟨h.out.trans (hb.mono h.out.size)⟩
theorem Bel.setCell {w w' : World} (h : Bel w w') {p : Addr} (hp : w.heap.size ≤ p.block) (v : Value) : Bel w (w'.setCell p v) := ⟨h.out.setCell hp v⟩
end Go.Proofs.Ytdpgmdkclaahdaa
