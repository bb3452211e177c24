/- What the seat's rows list ('laid'): the library's tables are as they are laid; what the walks have of it. -/
import Derived.Test.YtdihpiggknhojaaDoorAddrText
import Derived.Test.YtdihpiggknhojaaDoorTie
import Derived.Test.YtdihpiggknhojaaDoorCards
import Derived.LaidMore
import Derived.Lib.LaidTab
import Derived.MakeChecks
import Derived.ProofKit
import Derived.Stop.LaidErr
namespace Go.Proofs.YtdihpiggknhojaaDoor
open Go.RowKit
set_option maxRecDepth 100000

def seatSteps : Nat := 24
def seatLaid : List (String × DataW Unit) := [("math/bits.deBruijn32tab", Rows.laid_math_bits_deBruijn32tab), ("math/bits.deBruijn64tab", Rows.laid_math_bits_deBruijn64tab), ("internal/strconv.uint64pow10", Rows.laid_internal_strconv_uint64pow10)]
theorem door_met (os : Os) (args : Array Value) : laidMetH Tryd.prog seatLaid ((World.doorLaid Tryd.prog seatSteps os).forCall (fun _ _ => 0) ⟨#[], args, []⟩).memory :=
  laidMetH_of_parts3 (fuel := 8) (laidMet_of_run' 8 (by kernel_rfl) (by kernel_rfl)) (by kernel_rfl) (by kernel_rfl)
theorem pow10_datum : (Rows.laid_internal_strconv_uint64pow10 : DataW Unit) = Lib.tabData .u64 Lib.pow10Tab := by kernel_rfl
theorem tab_of_laid {W : World} (h : laidMetH Tryd.prog seatLaid W) : Tab W := by
  rw [MakeChecks.laidMetH_plain _ _ _ (by kernel_rfl)] at h
  have h2 := h.tail.tail
  rw [pow10_datum] at h2
  exact Lib.tabIs_of_head (g := 0) (t := 83) (e := 56) (n := 20) (by kernel_rfl) (by kernel_rfl) Tryd.underlying83 Tryd.underlying56 (by kernel_rfl) (by kernel_rfl) h2
end Go.Proofs.YtdihpiggknhojaaDoor
