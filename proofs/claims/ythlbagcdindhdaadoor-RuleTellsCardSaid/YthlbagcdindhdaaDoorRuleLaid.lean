/- What the seat's rows list ('laid'): the table of the kinds' words is as it is laid; what the walks have of it. -/
import Derived.Test.YthlbagcdindhdaaDoorRuleEx
import Derived.Test.YthlbagcdindhdaaDoorTie
import Derived.Test.YthlbagcdindhdaaDoorCards
import Derived.LaidMore
import Derived.Lib.LaidTab
import Derived.MakeChecks
import Derived.ProofKit
import Derived.Stop.LaidErr
import Derived.OpenShut
import Derived.WideShapes
namespace Go.Proofs.YthlbagcdindhdaaDoor
open Go.RowKit
set_option maxRecDepth 100000
set_option linter.unusedVariables false
set_option linter.unusedSimpArgs false

def seatSteps : Nat := 24
def seatLaid : List (String × DataW Unit) := [("scuttlebutt/rule.words", Rows.laid_scuttlebutt_rule_words)]
theorem door_met (os : Os) (args : Array Value) : laidMetH Tryd.prog seatLaid ((World.doorLaid Tryd.prog seatSteps os).forCall (fun _ _ => 0) ⟨#[], args, []⟩).memory :=
  laidMetH_of_parts3 (fuel := 8) (laidMet_of_run' 8 (by kernel_rfl) (by kernel_rfl)) (by kernel_rfl) (by kernel_rfl)
theorem str_lit {H : Type} {s B : ByteArray} {l : List UInt8} (h : (DataW.lit (.string s.data.toList) : DataW H) = .lit (.string l)) (hB : B.data.toList = l) : s = B := by
  injection h with h
  injection h with h
  exact ba_ext _ _ (h.trans hB.symm)
theorem tab_of_laid {W : World} (h : laidMetH Tryd.prog seatLaid W) : Tab W := by
  rw [MakeChecks.laidMetH_plain _ _ _ (by kernel_rfl)] at h
  obtain ⟨ps, ⟨g', t', cs, fuel, p, q, hg', ht', hvar, hd, _, _⟩, _⟩ := h
  have hg : Tryd.prog.globalNamed "scuttlebutt/rule.words" = some 0 := by kernel_rfl
  have hty : (Tryd.prog.globals[0]?).map (·.type) = some 53 := by kernel_rfl
  obtain rfl := Option.some.inj (hg.symm.trans hg')
  obtain rfl := Option.some.inj (hty.symm.trans ht')
  have hC : Tryd.prog.cellsOf 9 = 1 := by kernel_rfl
  have hC4 : Tryd.prog.cellsOf 53 = 3 := by kernel_rfl
  obtain ⟨xs, m, _, hx, hl, hlen, hf⟩ := DataW.trod_array Tryd.underlying53 hd
  rw [hC4] at hl
  rw [hC] at hf
  have hl2 : cs.toList.length = 3 := hl
  match xs, hlen with
  | [x0, x1, x2], _ =>
    obtain ⟨c0, c1, c2, hcs⟩ : ∃ c0 c1 c2, cs.toList = [c0, c1, c2] := by
      match h : cs.toList, hl2 with
      | [c0, c1, c2], _ => exact ⟨c0, c1, c2, rfl⟩
    have f0 := hf 0 (by omega)
    have f1 := hf 1 (by omega)
    have f2 := hf 2 (by omega)
    rw [hcs] at f0 f1 f2
    simp at f0 f1 f2
    obtain ⟨s0, e0, rfl, _⟩ := DataW.trod_string Tryd.underlying9 f0
    obtain ⟨s1, e1, rfl, _⟩ := DataW.trod_string Tryd.underlying9 f1
    obtain ⟨s2, e2, rfl, _⟩ := DataW.trod_string Tryd.underlying9 f2
    simp at e0 e1 e2
    subst e0 e1 e2
    simp only [Rows.laid_scuttlebutt_rule_words, Prod.mk.injEq, DataW.agg.injEq, List.map_cons, List.map_nil, List.cons.injEq, and_true] at hx
    obtain ⟨⟨a0, a1, a2⟩, _⟩ := hx
    obtain rfl := str_lit (B := wAny) a0.symm rfl
    obtain rfl := str_lit (B := wHost) a1.symm rfl
    obtain rfl := str_lit (B := wBoth) a2.symm rfl
    have hc : ∀ i : Nat, W.cell? ⟨0, i, none⟩ = [Value.string wAny, .string wHost, .string wBoth][i]? := fun i => by
      rw [World.var?_cell hg hvar i, ← hcs]; simp
    exact ⟨hc 0, hc 1, hc 2⟩
end Go.Proofs.YthlbagcdindhdaaDoor
