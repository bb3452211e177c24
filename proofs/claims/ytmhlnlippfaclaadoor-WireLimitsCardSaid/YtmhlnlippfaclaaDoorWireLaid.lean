/- What the seat's rows list ('laid'): the table of the kinds' letters is as it is laid; what the walks have of it. How a Thing that came in is opened. -/
import Derived.Test.YtmhlnlippfaclaaDoorWireLimits
import Derived.Test.YtmhlnlippfaclaaDoorTie
import Derived.Test.YtmhlnlippfaclaaDoorCards
import Derived.LaidMore
import Derived.Lib.LaidTab
import Derived.MakeChecks
import Derived.ProofKit
import Derived.Stop.LaidErr
import Derived.OpenShut
import Derived.WideShapes
namespace Go.Proofs.YtmhlnlippfaclaaDoor
open Go.RowKit
set_option maxRecDepth 100000
set_option linter.unusedVariables false
set_option linter.unusedSimpArgs false

def seatSteps : Nat := 100
def seatLaid : List (String × DataW Unit) := [("scuttlebutt/wire.kinds", Rows.laid_scuttlebutt_wire_kinds)]
theorem door_met (os : Os) (args : Array Value) : laidMetH Tryd.prog seatLaid ((World.doorLaid Tryd.prog seatSteps os).forCall (fun _ _ => 0) ⟨#[], args, []⟩).memory :=
  laidMetH_of_parts3 (fuel := 8) (laidMet_of_run' 8 (by kernel_rfl) (by kernel_rfl)) (by kernel_rfl) (by kernel_rfl)
theorem str_lit {H : Type} {s B : ByteArray} {l : List UInt8} (h : (DataW.lit (.string s.data.toList) : DataW H) = .lit (.string l)) (hB : B.data.toList = l) : s = B := by
  injection h with h
  injection h with h
  exact ba_ext _ _ (h.trans hB.symm)
theorem tab_of_laid {W : World} (h : laidMetH Tryd.prog seatLaid W) : Tab W := by
  rw [MakeChecks.laidMetH_plain _ _ _ (by kernel_rfl)] at h
  obtain ⟨ps, ⟨g', t', cs, fuel, p, q, hg', ht', hvar, hd, _, _⟩, _⟩ := h
  have hg : Tryd.prog.globalNamed "scuttlebutt/wire.kinds" = some 0 := by kernel_rfl
  have hty : (Tryd.prog.globals[0]?).map (·.type) = some 53 := by kernel_rfl
  obtain rfl := Option.some.inj (hg.symm.trans hg')
  obtain rfl := Option.some.inj (hty.symm.trans ht')
  have hC : Tryd.prog.cellsOf 9 = 1 := by kernel_rfl
  have hC4 : Tryd.prog.cellsOf 53 = 17 := by kernel_rfl
  obtain ⟨xs, m, _, hx, hl, hlen, hf⟩ := DataW.trod_array Tryd.underlying53 hd
  rw [hC4] at hl
  rw [hC] at hf
  have hl2 : cs.toList.length = 17 := hl
  match xs, hlen with
  | [x0, x1, x2, x3, x4, x5, x6, x7, x8, x9, x10, x11, x12, x13, x14, x15, x16], _ =>
    obtain ⟨c0, c1, c2, c3, c4, c5, c6, c7, c8, c9, c10, c11, c12, c13, c14, c15, c16, hcs⟩ : ∃ c0 c1 c2 c3 c4 c5 c6 c7 c8 c9 c10 c11 c12 c13 c14 c15 c16, cs.toList = [c0, c1, c2, c3, c4, c5, c6, c7, c8, c9, c10, c11, c12, c13, c14, c15, c16] := by
      match h : cs.toList, hl2 with
      | [c0, c1, c2, c3, c4, c5, c6, c7, c8, c9, c10, c11, c12, c13, c14, c15, c16], _ => exact ⟨c0, c1, c2, c3, c4, c5, c6, c7, c8, c9, c10, c11, c12, c13, c14, c15, c16, rfl⟩
    have f0 := hf 0 (by omega)
    have f1 := hf 1 (by omega)
    have f2 := hf 2 (by omega)
    have f3 := hf 3 (by omega)
    have f4 := hf 4 (by omega)
    have f5 := hf 5 (by omega)
    have f6 := hf 6 (by omega)
    have f7 := hf 7 (by omega)
    have f8 := hf 8 (by omega)
    have f9 := hf 9 (by omega)
    have f10 := hf 10 (by omega)
    have f11 := hf 11 (by omega)
    have f12 := hf 12 (by omega)
    have f13 := hf 13 (by omega)
    have f14 := hf 14 (by omega)
    have f15 := hf 15 (by omega)
    have f16 := hf 16 (by omega)
    rw [hcs] at f0 f1 f2 f3 f4 f5 f6 f7 f8 f9 f10 f11 f12 f13 f14 f15 f16
    simp at f0 f1 f2 f3 f4 f5 f6 f7 f8 f9 f10 f11 f12 f13 f14 f15 f16
    obtain ⟨s0, e0, rfl, _⟩ := DataW.trod_string Tryd.underlying9 f0
    obtain ⟨s1, e1, rfl, _⟩ := DataW.trod_string Tryd.underlying9 f1
    obtain ⟨s2, e2, rfl, _⟩ := DataW.trod_string Tryd.underlying9 f2
    obtain ⟨s3, e3, rfl, _⟩ := DataW.trod_string Tryd.underlying9 f3
    obtain ⟨s4, e4, rfl, _⟩ := DataW.trod_string Tryd.underlying9 f4
    obtain ⟨s5, e5, rfl, _⟩ := DataW.trod_string Tryd.underlying9 f5
    obtain ⟨s6, e6, rfl, _⟩ := DataW.trod_string Tryd.underlying9 f6
    obtain ⟨s7, e7, rfl, _⟩ := DataW.trod_string Tryd.underlying9 f7
    obtain ⟨s8, e8, rfl, _⟩ := DataW.trod_string Tryd.underlying9 f8
    obtain ⟨s9, e9, rfl, _⟩ := DataW.trod_string Tryd.underlying9 f9
    obtain ⟨s10, e10, rfl, _⟩ := DataW.trod_string Tryd.underlying9 f10
    obtain ⟨s11, e11, rfl, _⟩ := DataW.trod_string Tryd.underlying9 f11
    obtain ⟨s12, e12, rfl, _⟩ := DataW.trod_string Tryd.underlying9 f12
    obtain ⟨s13, e13, rfl, _⟩ := DataW.trod_string Tryd.underlying9 f13
    obtain ⟨s14, e14, rfl, _⟩ := DataW.trod_string Tryd.underlying9 f14
    obtain ⟨s15, e15, rfl, _⟩ := DataW.trod_string Tryd.underlying9 f15
    obtain ⟨s16, e16, rfl, _⟩ := DataW.trod_string Tryd.underlying9 f16
    simp at e0 e1 e2 e3 e4 e5 e6 e7 e8 e9 e10 e11 e12 e13 e14 e15 e16
    subst e0 e1 e2 e3 e4 e5 e6 e7 e8 e9 e10 e11 e12 e13 e14 e15 e16
    simp only [Rows.laid_scuttlebutt_wire_kinds, Prod.mk.injEq, DataW.agg.injEq, List.map_cons, List.map_nil, List.cons.injEq, and_true] at hx
    obtain ⟨⟨a0, a1, a2, a3, a4, a5, a6, a7, a8, a9, a10, a11, a12, a13, a14, a15, a16⟩, _⟩ := hx
    obtain rfl := str_lit (B := tabB 0) a0.symm rfl
    obtain rfl := str_lit (B := tabB 1) a1.symm rfl
    obtain rfl := str_lit (B := tabB 2) a2.symm rfl
    obtain rfl := str_lit (B := tabB 3) a3.symm rfl
    obtain rfl := str_lit (B := tabB 4) a4.symm rfl
    obtain rfl := str_lit (B := tabB 5) a5.symm rfl
    obtain rfl := str_lit (B := tabB 6) a6.symm rfl
    obtain rfl := str_lit (B := tabB 7) a7.symm rfl
    obtain rfl := str_lit (B := tabB 8) a8.symm rfl
    obtain rfl := str_lit (B := tabB 9) a9.symm rfl
    obtain rfl := str_lit (B := tabB 10) a10.symm rfl
    obtain rfl := str_lit (B := tabB 11) a11.symm rfl
    obtain rfl := str_lit (B := tabB 12) a12.symm rfl
    obtain rfl := str_lit (B := tabB 13) a13.symm rfl
    obtain rfl := str_lit (B := tabB 14) a14.symm rfl
    obtain rfl := str_lit (B := tabB 15) a15.symm rfl
    obtain rfl := str_lit (B := tabB 16) a16.symm rfl
    have hc : ∀ i : Nat, W.cell? ⟨0, i, none⟩ = [Value.string (tabB 0), Value.string (tabB 1), Value.string (tabB 2), Value.string (tabB 3), Value.string (tabB 4), Value.string (tabB 5), Value.string (tabB 6), Value.string (tabB 7), Value.string (tabB 8), Value.string (tabB 9), Value.string (tabB 10), Value.string (tabB 11), Value.string (tabB 12), Value.string (tabB 13), Value.string (tabB 14), Value.string (tabB 15), Value.string (tabB 16)][i]? := fun i => by
      rw [World.var?_cell hg hvar i, ← hcs]; simp
    refine ⟨fun k hk => ?_⟩
    rw [hc k]
    have h17 : k = 0 ∨ k = 1 ∨ k = 2 ∨ k = 3 ∨ k = 4 ∨ k = 5 ∨ k = 6 ∨ k = 7 ∨ k = 8 ∨ k = 9 ∨ k = 10 ∨ k = 11 ∨ k = 12 ∨ k = 13 ∨ k = 14 ∨ k = 15 ∨ k = 16 := by omega
    rcases h17 with rfl | rfl | rfl | rfl | rfl | rfl | rfl | rfl | rfl | rfl | rfl | rfl | rfl | rfl | rfl | rfl | rfl <;> rfl
theorem open_thing {H : Type} {enc : TypeId × Value → H} {w : World} {base : Nat} {sp : Nat → Bool} {held : Bool} {r : Reach} {b0 : Nat} {v : Value} {d : DataW H} {p : List MemPlace}
    (hv : Value.okWide Tryd.prog w r b0 29 v) (h : DataW.Trod enc Tryd.prog w base sp held 29 v d p) :
    ∃ (x0 : Int) (x1 : Int) (x2 : Int) (x3 : Int) (x4 : Int) (x5 : Bool), v = .agg #[.int .i64 x0, .int .i64 x1, .int .u32 x2, .int .u32 x3, .int .u16 x4, .bool x5] ∧ (Lit.int .i64 x0).wf = true ∧ (Lit.int .i64 x1).wf = true ∧ (Lit.int .u32 x2).wf = true ∧ (Lit.int .u32 x3).wf = true ∧ (Lit.int .u16 x4).wf = true := by
  obtain ⟨cs, rfl, hsz⟩ := Go.WideShapes.okWide_struct Tryd.underlying29 hv
  have hC0 : Tryd.prog.cellsOf 29 = 6 := by kernel_rfl
  have hC1 : Tryd.prog.cellsOf 27 = 5 := by kernel_rfl
  have hC2 : Tryd.prog.cellsOf 3 = 1 := by kernel_rfl
  have hC3 : Tryd.prog.cellsOf 23 = 1 := by kernel_rfl
  have hC4 : Tryd.prog.cellsOf 25 = 2 := by kernel_rfl
  have hC5 : Tryd.prog.cellsOf 22 = 1 := by kernel_rfl
  have hC6 : Tryd.prog.cellsOf 4 = 1 := by kernel_rfl
  rw [hC0] at hsz
  obtain ⟨c0, c1, c2, c3, c4, c5, rfl⟩ : ∃ c0 c1 c2 c3 c4 c5, cs = #[c0, c1, c2, c3, c4, c5] := by
    obtain ⟨l⟩ := cs
    match l, hsz with
    | [c0, c1, c2, c3, c4, c5], _ => exact ⟨c0, c1, c2, c3, c4, c5, rfl⟩
  obtain ⟨fuel, hf⟩ := h
  have hf0 : DataW.trod enc Tryd.prog w base sp held fuel 29 [c0, c1, c2, c3, c4, c5] = some (d, p) := hf
  obtain ⟨ys0, m0, _, _, _, hl0, hg0⟩ := Go.DataW.trod_struct Tryd.underlying29 hf0
  obtain ⟨y0_0, hy0_0⟩ : ∃ y, ys0[0]? = some y := ⟨_, List.getElem?_eq_getElem (by rw [hl0]; decide)⟩
  have h0_0 := hg0 0 _ rfl
  rw [hy0_0] at h0_0
  simp [hC0, hC1, hC2, hC3, hC4, hC5, hC6] at h0_0
  obtain ⟨ys1, m1, _, _, _, hl1, hg1⟩ := Go.DataW.trod_struct Tryd.underlying27 h0_0
  obtain ⟨y1_0, hy1_0⟩ : ∃ y, ys1[0]? = some y := ⟨_, List.getElem?_eq_getElem (by rw [hl1]; decide)⟩
  have h1_0 := hg1 0 _ rfl
  rw [hy1_0] at h1_0
  simp [hC0, hC1, hC2, hC3, hC4, hC5, hC6] at h1_0
  obtain ⟨x0, e0, _, w0⟩ := Go.DataW.trod_int Tryd.underlying3 h1_0
  obtain rfl := (List.cons.inj e0).1
  obtain ⟨y1_1, hy1_1⟩ : ∃ y, ys1[1]? = some y := ⟨_, List.getElem?_eq_getElem (by rw [hl1]; decide)⟩
  have h1_1 := hg1 1 _ rfl
  rw [hy1_1] at h1_1
  simp [hC0, hC1, hC2, hC3, hC4, hC5, hC6] at h1_1
  obtain ⟨x1, e1, _, w1⟩ := Go.DataW.trod_int Tryd.underlying3 h1_1
  obtain rfl := (List.cons.inj e1).1
  obtain ⟨y1_2, hy1_2⟩ : ∃ y, ys1[2]? = some y := ⟨_, List.getElem?_eq_getElem (by rw [hl1]; decide)⟩
  have h1_2 := hg1 2 _ rfl
  rw [hy1_2] at h1_2
  simp [hC0, hC1, hC2, hC3, hC4, hC5, hC6] at h1_2
  obtain ⟨x2, e2, _, w2⟩ := Go.DataW.trod_int Tryd.underlying23 h1_2
  obtain rfl := (List.cons.inj e2).1
  obtain ⟨y1_3, hy1_3⟩ : ∃ y, ys1[3]? = some y := ⟨_, List.getElem?_eq_getElem (by rw [hl1]; decide)⟩
  have h1_3 := hg1 3 _ rfl
  rw [hy1_3] at h1_3
  simp [hC0, hC1, hC2, hC3, hC4, hC5, hC6] at h1_3
  obtain ⟨ys2, m2, _, _, _, hl2, hg2⟩ := Go.DataW.trod_struct Tryd.underlying25 h1_3
  obtain ⟨y2_0, hy2_0⟩ : ∃ y, ys2[0]? = some y := ⟨_, List.getElem?_eq_getElem (by rw [hl2]; decide)⟩
  have h2_0 := hg2 0 _ rfl
  rw [hy2_0] at h2_0
  simp [hC0, hC1, hC2, hC3, hC4, hC5, hC6] at h2_0
  obtain ⟨x3, e3, _, w3⟩ := Go.DataW.trod_int Tryd.underlying23 h2_0
  obtain rfl := (List.cons.inj e3).1
  obtain ⟨y2_1, hy2_1⟩ : ∃ y, ys2[1]? = some y := ⟨_, List.getElem?_eq_getElem (by rw [hl2]; decide)⟩
  have h2_1 := hg2 1 _ rfl
  rw [hy2_1] at h2_1
  simp [hC0, hC1, hC2, hC3, hC4, hC5, hC6] at h2_1
  obtain ⟨x4, e4, _, w4⟩ := Go.DataW.trod_int Tryd.underlying22 h2_1
  obtain rfl := (List.cons.inj e4).1
  obtain ⟨y0_1, hy0_1⟩ : ∃ y, ys0[1]? = some y := ⟨_, List.getElem?_eq_getElem (by rw [hl0]; decide)⟩
  have h0_1 := hg0 1 _ rfl
  rw [hy0_1] at h0_1
  simp [hC0, hC1, hC2, hC3, hC4, hC5, hC6] at h0_1
  obtain ⟨x5, e5, _⟩ := Go.DataW.trod_bool Tryd.underlying4 h0_1
  obtain rfl := (List.cons.inj e5).1
  exact ⟨x0, x1, x2, x3, x4, x5, rfl, w0, w1, w2, w3, w4⟩
end Go.Proofs.YtmhlnlippfaclaaDoor
