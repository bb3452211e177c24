/-
  No cell of these rows narrows 'for every input' (looked for: loops, veiled, ifaces, maps, wideKeys, modest, calm, conditions, laid).
  DERIVED. THE GIVEN ROWS OF THIS SEAT. 5 by the template 'for every input the law returns true; each argument reads behind the call as it read before'; 0 by the template 'total and deterministic' (their statements: YtheipflmkjiimaaTotals.lean).
  GIVEN WITH THE SEED: the statements are not yours to turn. If you find one false, say at which input.
  Laid BY PROGRAM, IN A SANDBOX (cutbox-rows.mjs): the forced cells as the released guide's own fill.sh prints them over the translation 75774e4496220cbe… (all of the seat's roots in one cut). By AI agents, Wed Nov 11 2026. No macro, syntax, notation, axiom, sorry.
-/
import Derived.Test.YtheipflmkjiimaaChecked
import GoSem.Claim
import GoSem.ClaimJoined
import GoSem.ClaimMapViews
import Derived.JoinedTies
import Derived.KernelRfl
namespace Go.Proofs.Ytheipflmkjiimaa
/- THE CELL 'sum', in the pinned program and in every row, IS THE sha256 OF THE DUMP (.gsa) THAT YtheipflmkjiimaaProg.lean LOADS. Nothing in Lean hashes anything: it is a label: what it is worth is what the hold of that sum in a sandbox is worth. -/
noncomputable def Try.pinned : Pinned := { name := "ytheipflmkjiimaa", sum := "75774e4496220cbe624279154332c3284bdcddc3058f71d4796fccd73830c98d", checked := Try.checked }
namespace Rows
def none {H : Type} : Left H := { results := [], args := [] }

/-- 'scuttlebuttlaw13.RingPlays': WHATEVER THE INPUT: true; the input reads as it did. -/
def ringPlaysSpec : ChangeSpec := { name := "ringPlays", fn := fun _ => fun
  | [d1, d2] => { results := [.lit (.bool true)], args := [d1, d2] }
  | _ => none }
def ringPlaysRow : OpenClaim := { program := "ytheipflmkjiimaa", sum := "75774e4496220cbe624279154332c3284bdcddc3058f71d4796fccd73830c98d", func := "scuttlebutt/scuttlebuttlaw13.RingPlays", spec := "ringPlays", apart := false }
def RingPlaysSaid : Prop := ringPlaysRow.holds Try.pinned (OpenSpec.ofChange ringPlaysSpec)

/-- ITS FALSE NEIGHBOUR: 'it returns false'. Refute it at one input. -/
def ringPlaysWrong : ChangeSpec := { name := "ringPlays", fn := fun _ => fun
  | [d1, d2] => { results := [.lit (.bool false)], args := [d1, d2] }
  | _ => none }
def RingPlaysWrongFalsely : Prop := ringPlaysRow.holds Try.pinned (OpenSpec.ofChange ringPlaysWrong)

/-- 'scuttlebuttlaw13.RingRound': WHATEVER THE INPUT: true; the input reads as it did. -/
def ringRoundSpec : ChangeSpec := { name := "ringRound", fn := fun _ => fun
  | [d1, d2, d3] => { results := [.lit (.bool true)], args := [d1, d2, d3] }
  | _ => none }
def ringRoundRow : OpenClaim := { program := "ytheipflmkjiimaa", sum := "75774e4496220cbe624279154332c3284bdcddc3058f71d4796fccd73830c98d", func := "scuttlebutt/scuttlebuttlaw13.RingRound", spec := "ringRound", apart := false }
def RingRoundSaid : Prop := ringRoundRow.holds Try.pinned (OpenSpec.ofChange ringRoundSpec)

/-- ITS FALSE NEIGHBOUR: 'it returns false'. Refute it at one input. -/
def ringRoundWrong : ChangeSpec := { name := "ringRound", fn := fun _ => fun
  | [d1, d2, d3] => { results := [.lit (.bool false)], args := [d1, d2, d3] }
  | _ => none }
def RingRoundWrongFalsely : Prop := ringRoundRow.holds Try.pinned (OpenSpec.ofChange ringRoundWrong)

/-- 'scuttlebuttlaw13.RingTurns': WHATEVER THE INPUT: true; the input reads as it did. -/
def ringTurnsSpec : ChangeSpec := { name := "ringTurns", fn := fun _ => fun
  | [d1, d2] => { results := [.lit (.bool true)], args := [d1, d2] }
  | _ => none }
def ringTurnsRow : OpenClaim := { program := "ytheipflmkjiimaa", sum := "75774e4496220cbe624279154332c3284bdcddc3058f71d4796fccd73830c98d", func := "scuttlebutt/scuttlebuttlaw13.RingTurns", spec := "ringTurns", apart := false }
def RingTurnsSaid : Prop := ringTurnsRow.holds Try.pinned (OpenSpec.ofChange ringTurnsSpec)

/-- ITS FALSE NEIGHBOUR: 'it returns false'. Refute it at one input. -/
def ringTurnsWrong : ChangeSpec := { name := "ringTurns", fn := fun _ => fun
  | [d1, d2] => { results := [.lit (.bool false)], args := [d1, d2] }
  | _ => none }
def RingTurnsWrongFalsely : Prop := ringTurnsRow.holds Try.pinned (OpenSpec.ofChange ringTurnsWrong)

/-- 'scuttlebuttlaw13.RingSome': WHATEVER THE INPUT: true; the input reads as it did. -/
def ringSomeSpec : ChangeSpec := { name := "ringSome", fn := fun _ => fun
  | [d1, d2, d3] => { results := [.lit (.bool true)], args := [d1, d2, d3] }
  | _ => none }
def ringSomeRow : OpenClaim := { program := "ytheipflmkjiimaa", sum := "75774e4496220cbe624279154332c3284bdcddc3058f71d4796fccd73830c98d", func := "scuttlebutt/scuttlebuttlaw13.RingSome", spec := "ringSome", apart := false }
def RingSomeSaid : Prop := ringSomeRow.holds Try.pinned (OpenSpec.ofChange ringSomeSpec)

/-- ITS FALSE NEIGHBOUR: 'it returns false'. Refute it at one input. -/
def ringSomeWrong : ChangeSpec := { name := "ringSome", fn := fun _ => fun
  | [d1, d2, d3] => { results := [.lit (.bool false)], args := [d1, d2, d3] }
  | _ => none }
def RingSomeWrongFalsely : Prop := ringSomeRow.holds Try.pinned (OpenSpec.ofChange ringSomeWrong)

/-- 'scuttlebuttlaw13.RingLeft': WHATEVER THE INPUT: true; the input reads as it did. -/
def ringLeftSpec : ChangeSpec := { name := "ringLeft", fn := fun _ => fun
  | [d1, d2, d3] => { results := [.lit (.bool true)], args := [d1, d2, d3] }
  | _ => none }
def ringLeftRow : OpenClaim := { program := "ytheipflmkjiimaa", sum := "75774e4496220cbe624279154332c3284bdcddc3058f71d4796fccd73830c98d", func := "scuttlebutt/scuttlebuttlaw13.RingLeft", spec := "ringLeft", apart := false }
def RingLeftSaid : Prop := ringLeftRow.holds Try.pinned (OpenSpec.ofChange ringLeftSpec)

/-- ITS FALSE NEIGHBOUR: 'it returns false'. Refute it at one input. -/
def ringLeftWrong : ChangeSpec := { name := "ringLeft", fn := fun _ => fun
  | [d1, d2, d3] => { results := [.lit (.bool false)], args := [d1, d2, d3] }
  | _ => none }
def RingLeftWrongFalsely : Prop := ringLeftRow.holds Try.pinned (OpenSpec.ofChange ringLeftWrong)

/- THE SECOND FORM. 'bulk': how many values and letters a reading holds, each counted each time it is reached (what is shared counts as often as it is met; a slice's spare places count too). A statement '..UptoSaid' is the law's where the arguments, and the package variables that the reading takes, are together of bulk at most 1048576: NARROWER than '..Said'. Prove '..Said' where nothing that the law and all that it calls make is longer than what came in: it says more and counts as full. Else prove '..UptoSaid'. A law counts once. -/
mutual
def uptoBulk {H : Type} : DataW H → Nat
  | .lit (.string bytes) => bytes.length + 1
  | .lit _ => 1
  | .nil => 1
  | .ptr d => uptoBulk d + 1
  | .slice elems spare => uptoBulkAll elems + uptoBulkAll spare + 1
  | .agg parts => uptoBulkAll parts + 1
  | .iface _ d => uptoBulk d + 1
  | .map entries => uptoBulkEntries entries + 1
  | .held _ => 1
def uptoBulkAll {H : Type} : List (DataW H) → Nat
  | [] => 0
  | d :: r => uptoBulk d + uptoBulkAll r
def uptoBulkEntries {H : Type} : List (Lit × DataW H) → Nat
  | [] => 0
  | x :: r => uptoBulkEntry x + uptoBulkEntries r
def uptoBulkEntry {H : Type} : Lit × DataW H → Nat
  | (.string bytes, d) => bytes.length + uptoBulk d + 1
  | (_, d) => uptoBulk d + 1
 end
def uptoSmall : (H : Type) → List (DataW H) → Bool := fun _ ds => decide (uptoBulkAll ds ≤ 1048576)
def OpenSpec.upto (s : _root_.Go.ChangeSpec) : _root_.Go.OpenSpec := { _root_.Go.OpenSpec.ofChange s with cond := some uptoSmall }

/-- 'scuttlebuttlaw13.RingPlays', WHERE WHAT IT READS IS OF BULK AT MOST 1048576: true; the input reads as it did. -/
def ringPlaysUptoRow : OpenClaim := { program := "ytheipflmkjiimaa", sum := "75774e4496220cbe624279154332c3284bdcddc3058f71d4796fccd73830c98d", func := "scuttlebutt/scuttlebuttlaw13.RingPlays", spec := "ringPlays", apart := false, narrowed := true }
def RingPlaysUptoSaid : Prop := ringPlaysUptoRow.holds Try.pinned (OpenSpec.upto ringPlaysSpec)

/-- 'scuttlebuttlaw13.RingRound', WHERE WHAT IT READS IS OF BULK AT MOST 1048576: true; the input reads as it did. -/
def ringRoundUptoRow : OpenClaim := { program := "ytheipflmkjiimaa", sum := "75774e4496220cbe624279154332c3284bdcddc3058f71d4796fccd73830c98d", func := "scuttlebutt/scuttlebuttlaw13.RingRound", spec := "ringRound", apart := false, narrowed := true }
def RingRoundUptoSaid : Prop := ringRoundUptoRow.holds Try.pinned (OpenSpec.upto ringRoundSpec)

/-- 'scuttlebuttlaw13.RingTurns', WHERE WHAT IT READS IS OF BULK AT MOST 1048576: true; the input reads as it did. -/
def ringTurnsUptoRow : OpenClaim := { program := "ytheipflmkjiimaa", sum := "75774e4496220cbe624279154332c3284bdcddc3058f71d4796fccd73830c98d", func := "scuttlebutt/scuttlebuttlaw13.RingTurns", spec := "ringTurns", apart := false, narrowed := true }
def RingTurnsUptoSaid : Prop := ringTurnsUptoRow.holds Try.pinned (OpenSpec.upto ringTurnsSpec)

/-- 'scuttlebuttlaw13.RingSome', WHERE WHAT IT READS IS OF BULK AT MOST 1048576: true; the input reads as it did. -/
def ringSomeUptoRow : OpenClaim := { program := "ytheipflmkjiimaa", sum := "75774e4496220cbe624279154332c3284bdcddc3058f71d4796fccd73830c98d", func := "scuttlebutt/scuttlebuttlaw13.RingSome", spec := "ringSome", apart := false, narrowed := true }
def RingSomeUptoSaid : Prop := ringSomeUptoRow.holds Try.pinned (OpenSpec.upto ringSomeSpec)

/-- 'scuttlebuttlaw13.RingLeft', WHERE WHAT IT READS IS OF BULK AT MOST 1048576: true; the input reads as it did. -/
def ringLeftUptoRow : OpenClaim := { program := "ytheipflmkjiimaa", sum := "75774e4496220cbe624279154332c3284bdcddc3058f71d4796fccd73830c98d", func := "scuttlebutt/scuttlebuttlaw13.RingLeft", spec := "ringLeft", apart := false, narrowed := true }
def RingLeftUptoSaid : Prop := ringLeftUptoRow.holds Try.pinned (OpenSpec.upto ringLeftSpec)

end Rows
end Go.Proofs.Ytheipflmkjiimaa
