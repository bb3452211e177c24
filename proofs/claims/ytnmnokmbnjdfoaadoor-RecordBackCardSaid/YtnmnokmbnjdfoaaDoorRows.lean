/-
  NARROWER THAN 'FOR EVERY INPUT', by the rows' own cells (each row's printed sentence says how): RecordTells: laid · RecordGets: laid · RecordJoins: laid · RecordOrder: laid · RecordBack: laid · RecordBounds: laid.
  DERIVED. THE GIVEN ROWS OF THIS SEAT. 6 by the template 'for every input the law returns true; each argument reads behind the call as it read before'; 0 by the template 'total and deterministic' (their statements: YtnmnokmbnjdfoaaDoorTotals.lean).
  GIVEN WITH THE SEED: the statements are not yours to turn. If you find one false, say at which input.
  Laid BY PROGRAM, IN A SANDBOX (cutbox-rows.mjs): the forced cells as the released guide's own fill.sh prints them over the translation 03ca662f42368c53… (all of the seat's roots in one cut). By AI agents, Wed Nov 11 2026. No macro, syntax, notation, axiom, sorry.
-/
import Derived.Test.YtnmnokmbnjdfoaaDoorChecked
import GoSem.Claim
import GoSem.ClaimJoined
import GoSem.ClaimMapViews
import Derived.JoinedTies
import Derived.KernelRfl
namespace Go.Proofs.YtnmnokmbnjdfoaaDoor
/- THE CELL 'sum', in the pinned program and in every row, IS THE sha256 OF THE DUMP (.gsa) THAT YtnmnokmbnjdfoaaDoorProg.lean LOADS. Nothing in Lean hashes anything: it is a label: what it is worth is what the hold of that sum in a sandbox is worth. -/
noncomputable def Tryd.pinned : Pinned := { name := "ytnmnokmbnjdfoaadoor", sum := "03ca662f42368c530c0251a7a665401cb1f1b902749f5c44bad82d70393adc4f", checked := Tryd.checked }
namespace Rows
def none {H : Type} : Left H := { results := [], args := [] }

/- WHAT THE LISTED PACKAGE-LEVEL VARIABLES READ AS WHEN THE CALL BEGINS. Each datum BY PROGRAM (the guide's laid-datum.mjs) off the statement by which the dump's own 'gosem.cut.vars' lays the variable. In a bare row this is a premise. The card (YtnmnokmbnjdfoaaDoorCards.lean) ties it to the program's text. -/
def laid_scuttlebutt_record_words {H : Type} : DataW H := .agg [.lit (.string [97, 108, 105, 118, 101]), .lit (.string [115, 117, 115, 112, 101, 99, 116]), .lit (.string [100, 101, 97, 100]), .lit (.string [108, 101, 102, 116])]

/-- 'scuttlebuttlaw04.RecordTells': WHATEVER THE INPUT: true; the input reads as it did. -/
def recordTellsSpec : ChangeSpec := { name := "recordTells", fn := fun _ => fun
  | [d1, d2, d3] => { results := [.lit (.bool true)], args := [d1, d2, d3] }
  | _ => none }
def recordTellsRow : OpenClaim := { program := "ytnmnokmbnjdfoaadoor", sum := "03ca662f42368c530c0251a7a665401cb1f1b902749f5c44bad82d70393adc4f", func := "scuttlebutt/scuttlebuttlaw04.RecordTells", spec := "recordTells", named := ["scuttlebutt/record.words"], apart := false, laid := [("scuttlebutt/record.words", laid_scuttlebutt_record_words)] }
def RecordTellsSaid : Prop := recordTellsRow.holds Tryd.pinned (OpenSpec.ofChange recordTellsSpec)

/-- ITS FALSE NEIGHBOUR: 'it returns false'. Refute it at one input. -/
def recordTellsWrong : ChangeSpec := { name := "recordTells", fn := fun _ => fun
  | [d1, d2, d3] => { results := [.lit (.bool false)], args := [d1, d2, d3] }
  | _ => none }
def RecordTellsWrongFalsely : Prop := recordTellsRow.holds Tryd.pinned (OpenSpec.ofChange recordTellsWrong)

/-- 'scuttlebuttlaw04.RecordGets': WHATEVER THE INPUT: true; the input reads as it did. -/
def recordGetsSpec : ChangeSpec := { name := "recordGets", fn := fun _ => fun
  | [d1, d2, d3, d4, d5] => { results := [.lit (.bool true)], args := [d1, d2, d3, d4, d5] }
  | _ => none }
def recordGetsRow : OpenClaim := { program := "ytnmnokmbnjdfoaadoor", sum := "03ca662f42368c530c0251a7a665401cb1f1b902749f5c44bad82d70393adc4f", func := "scuttlebutt/scuttlebuttlaw04.RecordGets", spec := "recordGets", named := ["scuttlebutt/record.words"], apart := false, laid := [("scuttlebutt/record.words", laid_scuttlebutt_record_words)] }
def RecordGetsSaid : Prop := recordGetsRow.holds Tryd.pinned (OpenSpec.ofChange recordGetsSpec)

/-- ITS FALSE NEIGHBOUR: 'it returns false'. Refute it at one input. -/
def recordGetsWrong : ChangeSpec := { name := "recordGets", fn := fun _ => fun
  | [d1, d2, d3, d4, d5] => { results := [.lit (.bool false)], args := [d1, d2, d3, d4, d5] }
  | _ => none }
def RecordGetsWrongFalsely : Prop := recordGetsRow.holds Tryd.pinned (OpenSpec.ofChange recordGetsWrong)

/-- 'scuttlebuttlaw04.RecordJoins': WHATEVER THE INPUT: true; the input reads as it did. -/
def recordJoinsSpec : ChangeSpec := { name := "recordJoins", fn := fun _ => fun
  | [d1, d2, d3] => { results := [.lit (.bool true)], args := [d1, d2, d3] }
  | _ => none }
def recordJoinsRow : OpenClaim := { program := "ytnmnokmbnjdfoaadoor", sum := "03ca662f42368c530c0251a7a665401cb1f1b902749f5c44bad82d70393adc4f", func := "scuttlebutt/scuttlebuttlaw04.RecordJoins", spec := "recordJoins", named := ["scuttlebutt/record.words"], apart := false, laid := [("scuttlebutt/record.words", laid_scuttlebutt_record_words)] }
def RecordJoinsSaid : Prop := recordJoinsRow.holds Tryd.pinned (OpenSpec.ofChange recordJoinsSpec)

/-- ITS FALSE NEIGHBOUR: 'it returns false'. Refute it at one input. -/
def recordJoinsWrong : ChangeSpec := { name := "recordJoins", fn := fun _ => fun
  | [d1, d2, d3] => { results := [.lit (.bool false)], args := [d1, d2, d3] }
  | _ => none }
def RecordJoinsWrongFalsely : Prop := recordJoinsRow.holds Tryd.pinned (OpenSpec.ofChange recordJoinsWrong)

/-- 'scuttlebuttlaw04.RecordOrder': WHATEVER THE INPUT: true; the input reads as it did. -/
def recordOrderSpec : ChangeSpec := { name := "recordOrder", fn := fun _ => fun
  | [d1, d2] => { results := [.lit (.bool true)], args := [d1, d2] }
  | _ => none }
def recordOrderRow : OpenClaim := { program := "ytnmnokmbnjdfoaadoor", sum := "03ca662f42368c530c0251a7a665401cb1f1b902749f5c44bad82d70393adc4f", func := "scuttlebutt/scuttlebuttlaw04.RecordOrder", spec := "recordOrder", named := ["scuttlebutt/record.words"], apart := false, laid := [("scuttlebutt/record.words", laid_scuttlebutt_record_words)] }
def RecordOrderSaid : Prop := recordOrderRow.holds Tryd.pinned (OpenSpec.ofChange recordOrderSpec)

/-- ITS FALSE NEIGHBOUR: 'it returns false'. Refute it at one input. -/
def recordOrderWrong : ChangeSpec := { name := "recordOrder", fn := fun _ => fun
  | [d1, d2] => { results := [.lit (.bool false)], args := [d1, d2] }
  | _ => none }
def RecordOrderWrongFalsely : Prop := recordOrderRow.holds Tryd.pinned (OpenSpec.ofChange recordOrderWrong)

/-- 'scuttlebuttlaw04.RecordBack': WHATEVER THE INPUT: true; the input reads as it did. -/
def recordBackSpec : ChangeSpec := { name := "recordBack", fn := fun _ => fun
  | [d1, d2, d3] => { results := [.lit (.bool true)], args := [d1, d2, d3] }
  | _ => none }
def recordBackRow : OpenClaim := { program := "ytnmnokmbnjdfoaadoor", sum := "03ca662f42368c530c0251a7a665401cb1f1b902749f5c44bad82d70393adc4f", func := "scuttlebutt/scuttlebuttlaw04.RecordBack", spec := "recordBack", named := ["scuttlebutt/record.words"], apart := false, laid := [("scuttlebutt/record.words", laid_scuttlebutt_record_words)] }
def RecordBackSaid : Prop := recordBackRow.holds Tryd.pinned (OpenSpec.ofChange recordBackSpec)

/-- ITS FALSE NEIGHBOUR: 'it returns false'. Refute it at one input. -/
def recordBackWrong : ChangeSpec := { name := "recordBack", fn := fun _ => fun
  | [d1, d2, d3] => { results := [.lit (.bool false)], args := [d1, d2, d3] }
  | _ => none }
def RecordBackWrongFalsely : Prop := recordBackRow.holds Tryd.pinned (OpenSpec.ofChange recordBackWrong)

/-- 'scuttlebuttlaw04.RecordBounds': WHATEVER THE INPUT: true; the input reads as it did. -/
def recordBoundsSpec : ChangeSpec := { name := "recordBounds", fn := fun _ => fun
  | [d1, d2, d3, d4] => { results := [.lit (.bool true)], args := [d1, d2, d3, d4] }
  | _ => none }
def recordBoundsRow : OpenClaim := { program := "ytnmnokmbnjdfoaadoor", sum := "03ca662f42368c530c0251a7a665401cb1f1b902749f5c44bad82d70393adc4f", func := "scuttlebutt/scuttlebuttlaw04.RecordBounds", spec := "recordBounds", named := ["scuttlebutt/record.words"], apart := false, laid := [("scuttlebutt/record.words", laid_scuttlebutt_record_words)] }
def RecordBoundsSaid : Prop := recordBoundsRow.holds Tryd.pinned (OpenSpec.ofChange recordBoundsSpec)

/-- ITS FALSE NEIGHBOUR: 'it returns false'. Refute it at one input. -/
def recordBoundsWrong : ChangeSpec := { name := "recordBounds", fn := fun _ => fun
  | [d1, d2, d3, d4] => { results := [.lit (.bool false)], args := [d1, d2, d3, d4] }
  | _ => none }
def RecordBoundsWrongFalsely : Prop := recordBoundsRow.holds Tryd.pinned (OpenSpec.ofChange recordBoundsWrong)

/- THE SECOND FORM. 'bulk': how many values and letters a reading holds, each counted each time it is reached (what is shared counts as often as it is met; a slice's spare places count too). A statement '..UptoSaid' is the law's where the arguments, and the package variables that the reading takes, are together of bulk at most 1048576: NARROWER than '..Said'. Prove '..Said' where nothing that the law and all that it calls make is longer than what came in: it says more and counts as full. Else prove '..UptoSaid'. A law counts once. -/
mutual
def uptoBulk {H : Type} : DataW H → Nat
  | .lit (.string bytes) => bytes.length + 1
  | .lit _ => 1
  | .nil => 1
  | .ptr d => uptoBulk d + 1
  | .slice elems spare => uptoBulkAll elems + uptoBulkAll spare + 1
  | .agg parts => uptoBulkAll parts + 1
  | .iface _ d => uptoBulk d + 1
  | .map entries => uptoBulkEntries entries + 1
  | .held _ => 1
def uptoBulkAll {H : Type} : List (DataW H) → Nat
  | [] => 0
  | d :: r => uptoBulk d + uptoBulkAll r
def uptoBulkEntries {H : Type} : List (Lit × DataW H) → Nat
  | [] => 0
  | x :: r => uptoBulkEntry x + uptoBulkEntries r
def uptoBulkEntry {H : Type} : Lit × DataW H → Nat
  | (.string bytes, d) => bytes.length + uptoBulk d + 1
  | (_, d) => uptoBulk d + 1
 end
def uptoSmall : (H : Type) → List (DataW H) → Bool := fun _ ds => decide (uptoBulkAll ds ≤ 1048576)
def OpenSpec.upto (s : _root_.Go.ChangeSpec) : _root_.Go.OpenSpec := { _root_.Go.OpenSpec.ofChange s with cond := some uptoSmall }

/-- 'scuttlebuttlaw04.RecordTells', WHERE WHAT IT READS IS OF BULK AT MOST 1048576: true; the input reads as it did. -/
def recordTellsUptoRow : OpenClaim := { program := "ytnmnokmbnjdfoaadoor", sum := "03ca662f42368c530c0251a7a665401cb1f1b902749f5c44bad82d70393adc4f", func := "scuttlebutt/scuttlebuttlaw04.RecordTells", spec := "recordTells", named := ["scuttlebutt/record.words"], apart := false, laid := [("scuttlebutt/record.words", laid_scuttlebutt_record_words)], narrowed := true }
def RecordTellsUptoSaid : Prop := recordTellsUptoRow.holds Tryd.pinned (OpenSpec.upto recordTellsSpec)

/-- 'scuttlebuttlaw04.RecordGets', WHERE WHAT IT READS IS OF BULK AT MOST 1048576: true; the input reads as it did. -/
def recordGetsUptoRow : OpenClaim := { program := "ytnmnokmbnjdfoaadoor", sum := "03ca662f42368c530c0251a7a665401cb1f1b902749f5c44bad82d70393adc4f", func := "scuttlebutt/scuttlebuttlaw04.RecordGets", spec := "recordGets", named := ["scuttlebutt/record.words"], apart := false, laid := [("scuttlebutt/record.words", laid_scuttlebutt_record_words)], narrowed := true }
def RecordGetsUptoSaid : Prop := recordGetsUptoRow.holds Tryd.pinned (OpenSpec.upto recordGetsSpec)

/-- 'scuttlebuttlaw04.RecordJoins', WHERE WHAT IT READS IS OF BULK AT MOST 1048576: true; the input reads as it did. -/
def recordJoinsUptoRow : OpenClaim := { program := "ytnmnokmbnjdfoaadoor", sum := "03ca662f42368c530c0251a7a665401cb1f1b902749f5c44bad82d70393adc4f", func := "scuttlebutt/scuttlebuttlaw04.RecordJoins", spec := "recordJoins", named := ["scuttlebutt/record.words"], apart := false, laid := [("scuttlebutt/record.words", laid_scuttlebutt_record_words)], narrowed := true }
def RecordJoinsUptoSaid : Prop := recordJoinsUptoRow.holds Tryd.pinned (OpenSpec.upto recordJoinsSpec)

/-- 'scuttlebuttlaw04.RecordOrder', WHERE WHAT IT READS IS OF BULK AT MOST 1048576: true; the input reads as it did. -/
def recordOrderUptoRow : OpenClaim := { program := "ytnmnokmbnjdfoaadoor", sum := "03ca662f42368c530c0251a7a665401cb1f1b902749f5c44bad82d70393adc4f", func := "scuttlebutt/scuttlebuttlaw04.RecordOrder", spec := "recordOrder", named := ["scuttlebutt/record.words"], apart := false, laid := [("scuttlebutt/record.words", laid_scuttlebutt_record_words)], narrowed := true }
def RecordOrderUptoSaid : Prop := recordOrderUptoRow.holds Tryd.pinned (OpenSpec.upto recordOrderSpec)

/-- 'scuttlebuttlaw04.RecordBack', WHERE WHAT IT READS IS OF BULK AT MOST 1048576: true; the input reads as it did. -/
def recordBackUptoRow : OpenClaim := { program := "ytnmnokmbnjdfoaadoor", sum := "03ca662f42368c530c0251a7a665401cb1f1b902749f5c44bad82d70393adc4f", func := "scuttlebutt/scuttlebuttlaw04.RecordBack", spec := "recordBack", named := ["scuttlebutt/record.words"], apart := false, laid := [("scuttlebutt/record.words", laid_scuttlebutt_record_words)], narrowed := true }
def RecordBackUptoSaid : Prop := recordBackUptoRow.holds Tryd.pinned (OpenSpec.upto recordBackSpec)

/-- 'scuttlebuttlaw04.RecordBounds', WHERE WHAT IT READS IS OF BULK AT MOST 1048576: true; the input reads as it did. -/
def recordBoundsUptoRow : OpenClaim := { program := "ytnmnokmbnjdfoaadoor", sum := "03ca662f42368c530c0251a7a665401cb1f1b902749f5c44bad82d70393adc4f", func := "scuttlebutt/scuttlebuttlaw04.RecordBounds", spec := "recordBounds", named := ["scuttlebutt/record.words"], apart := false, laid := [("scuttlebutt/record.words", laid_scuttlebutt_record_words)], narrowed := true }
def RecordBoundsUptoSaid : Prop := recordBoundsUptoRow.holds Tryd.pinned (OpenSpec.upto recordBoundsSpec)

end Rows
end Go.Proofs.YtnmnokmbnjdfoaaDoor
