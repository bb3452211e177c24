/- Memory that is written: which blocks (Touch); a block that is a row of elements of z cells each (Rw); copy and clear at such elements. -/
import Derived.Test.YtdpgmdkclaahdaaOwn
import Derived.Test.YtdpgmdkclaahdaaNbRulePassR
import Derived.Deep.AppendLies
import Derived.Deep.Upon
import Derived.Laws.IdiomCopy
import Derived.Lib.SliceRun
namespace Go.Proofs.Ytdpgmdkclaahdaa.Nb
open Go.Sort Go.RowKit Go.BigFrame
set_option linter.unusedVariables false
set_option linter.unusedSimpArgs false

section
variable {F F' : Nat → Prop} {w w' w'' : World}
theorem RdA.touch {a : Option Addr} {l : List (Int × Int)} (h : RdA w w.heap.size a l) (ht : Touch F w w') (hF : ∀ k, (Value.slice a 0 0).ownBlock = some k → ¬ F k) : RdA w' w'.heap.size a l := fun hp => by
  obtain ⟨b, off, rfl, hB, hc⟩ := h hp
  refine ⟨b, off, rfl, Nat.lt_of_lt_of_le hB ht.size, fun i hi => ?_⟩
  obtain ⟨c0, c1⟩ := hc i hi
  have e := fun o => ht.cell (p := ⟨b, o, none⟩) hB (hF b rfl)
  exact ⟨(e _).trans c0, (e _).trans c1⟩
end

/-! lists of lists, all of one length -/
section
variable {α : Type} {z : Nat}
end
section
variable {z g : Nat} {t : TypeId} {C : List (List Value)} {w : World}
end
end Go.Proofs.Ytdpgmdkclaahdaa.Nb