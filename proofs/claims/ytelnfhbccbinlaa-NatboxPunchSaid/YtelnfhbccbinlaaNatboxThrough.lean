/- The statement NatboxThrough: of any two types, two boxes whose insides send to the address that a third saw of the other one let through just what the relation tells, both ways. No conditions. -/
import Derived.Test.YtelnfhbccbinlaaBoxLaw
import Derived.ChangeOld
import Derived.ChangeMaps5
import Derived.ShutString
import Derived.OpenShut
import Derived.SizedLaws
namespace Go.Proofs.Ytelnfhbccbinlaa
open Go.Sort Go.RowKit Go.BigFrame Go.ChangeShapes Go.WideShapes Go.ChangeAt
open Go.ChangeMaps (open_string shut_string)
set_option linter.unusedVariables false
set_option linter.unusedSimpArgs false

def thY1 (n : Int) : List Pb := (outP n 100 8 1 20 7 1001 20000 (xOne n 20)).2
def thX2 (m : Int) : List Pb := (outP m 100 8 1 10 7 1002 20000 (xOne m 10)).2
def thX3 (m : Int) : Nat × List Pb := outP m 100 8 1 10 7 1002 20000 (thX2 m)
def thP3 (m : Int) : Int := poAt (thX3 m).2 (thX3 m).1
def thI1 (m n g : Int) : (Int × Int × Int) × List Pb := inQ g 100 1 20000 1001 (thP3 m) (thY1 n)
def thY4 (m n g : Int) : Nat × List Pb := outP n 100 8 1 20 7 1001 20000 (thI1 m n g).2
def thP4 (m n g : Int) : Int := poAt (thY4 m n g).2 (thY4 m n g).1
def thI2 (m f n g : Int) : (Int × Int × Int) × List Pb := inQ f 100 1 20000 1002 (thP4 m n g) (thX3 m).2
set_option maxRecDepth 100000 in
theorem thru_fin : ∀ m f n g : Fin 3, thP3 (m.val : Nat) ≠ 0 ∧ thP4 (m.val : Nat) (n.val : Nat) (g.val : Nat) ≠ 0 ∧ ((thI1 (m.val : Nat) (n.val : Nat) (g.val : Nat)).1.2.2 == 0) = thruT (m.val : Nat) (f.val : Nat) (n.val : Nat) (g.val : Nat) ∧ ((thI2 (m.val : Nat) (f.val : Nat) (n.val : Nat) (g.val : Nat)).1.2.2 == 0) = thruT (n.val : Nat) (g.val : Nat) (m.val : Nat) (f.val : Nat) := by decide +kernel
theorem thru_fact {m f n g : Int} (hm : 0 ≤ m ∧ m ≤ 2) (hf : 0 ≤ f ∧ f ≤ 2) (hn : 0 ≤ n ∧ n ≤ 2) (hg : 0 ≤ g ∧ g ≤ 2) : thP3 m ≠ 0 ∧ thP4 m n g ≠ 0 ∧ ((thI1 m n g).1.2.2 == 0) = thruT m f n g ∧ ((thI2 m f n g).1.2.2 == 0) = thruT n g m f := by
  obtain ⟨m', rfl⟩ := Int.eq_ofNat_of_zero_le hm.1
  obtain ⟨f', rfl⟩ := Int.eq_ofNat_of_zero_le hf.1
  obtain ⟨n', rfl⟩ := Int.eq_ofNat_of_zero_le hn.1
  obtain ⟨g', rfl⟩ := Int.eq_ofNat_of_zero_le hg.1
  exact thru_fin ⟨m', by omega⟩ ⟨f', by omega⟩ ⟨n', by omega⟩ ⟨g', by omega⟩
theorem right_of {m f : Int} (hm : 0 ≤ m ∧ m ≤ 2) (hf : 0 ≤ f ∧ f ≤ 2) : rightT m f = true := by
  unfold rightT kiB; simp; omega
theorem badI_of {ip p : Int} (h1 : ¬ ip = 0) (h2 : p ≠ 0) : badI ip p 1 = false := by
  unfold badI noneI; simp [h1, h2]
set_option maxHeartbeats 16000000 in
set_option maxRecDepth 100000 in
theorem natboxThrough_walk (a b : Int) (w : World) (wa : (Lit.int .u8 a).wf = true) (wb : (Lit.int .u8 b).wf = true) :
    Calls Try.prog 4 #[.int .u8 a, .int .u8 b] w fun e w' => e = .returned (.bool true) ∧ Below w.heap.size w w' := by
  obtain ⟨ha0, ha1⟩ := bounds_u8 wa
  obtain ⟨hb0, hb1⟩ := bounds_u8 wb
  have hm : 0 ≤ a % 3 ∧ a % 3 ≤ 2 := by omega
  have hf : 0 ≤ a / 3 % 3 ∧ a / 3 % 3 ≤ 2 := by omega
  have hn : 0 ≤ b % 3 ∧ b % 3 ≤ 2 := by omega
  have hg : 0 ≤ b / 3 % 3 ∧ b / 3 % 3 ≤ 2 := by omega
  have FA := Lib.hid (thru_fact hm hf hn hg)
  have R1 := Lib.hid (right_of hm hf)
  have R2 := Lib.hid (right_of hn hg)
  have M3 := Lib.hid (show a % 3 = 0 ∨ a % 3 = 1 ∨ a % 3 = 2 by omega)
  have N3 := Lib.hid (show b % 3 = 0 ∨ b % 3 = 1 ∨ b % 3 = 2 by omega)
  clear hm hf hn hg wa wb
  go_enter Try.func4, Try.ntmps4
  go_wp2_with fail
  refine (examples_yes _).mono ?_; rintro e w1 ⟨rfl, b1⟩
  have hB := Lib.hid b1
  clear b1
  have hm3 : a.tmod 3 = a % 3 := tmod_pos _ _ ha0
  have hf3 : (a / 3).tmod 3 = a / 3 % 3 := tmod_pos _ _ (by omega)
  have hm4 : b.tmod 3 = b % 3 := tmod_pos _ _ hb0
  have hf4 : (b / 3).tmod 3 = b / 3 % 3 := tmod_pos _ _ (by omega)
  have HL : Hid (Cl [(w1.heap.size + 1, [.int .i64 (b % 3), .int .i64 (b / 3 % 3)]), (w1.heap.size, [.int .i64 (a % 3), .int .i64 (a / 3 % 3)])] ((w1.alloc (.cells #[.int .i64 (a % 3), .int .i64 (a / 3 % 3)] 23)).alloc (.cells #[.int .i64 (b % 3), .int .i64 (b / 3 % 3)] 23))) := by
    have h0 : Cl [] w1 := fun x hx => by simp at hx
    have h := (h0.alloc [.int .i64 (a % 3), .int .i64 (a / 3 % 3)] 23).alloc [.int .i64 (b % 3), .int .i64 (b / 3 % 3)] 23
    simp only [World.size_alloc] at h
    exact h
  have HI : Hid (Below w.heap.size w ((w1.alloc (.cells #[.int .i64 (a % 3), .int .i64 (a / 3 % 3)] 23)).alloc (.cells #[.int .i64 (b % 3), .int .i64 (b / 3 % 3)] 23))) := (hB.out.alloc hB.out.size _).alloc (hB.out.alloc hB.out.size _).size _
  have P := pairL (B := w.heap.size) R1.out R2.out M3.out N3.out HI.out.size HL.out
  clear hB
  go_wp2_with fail
  refine P.mono ?_; rintro e w2 ⟨gx, gy, rfl, ht, b2⟩
  clear P HL
  generalize a % 3 = m at *
  generalize a / 3 % 3 = f at *
  generalize b % 3 = n at *
  generalize b / 3 % 3 = g at *
  clear hm3 hf3 hm4 hf4
  have hB2 : Hid (Below w.heap.size w ((((w2.alloc (.cells #[.int .u32 1001, .int .u16 20000] 38)).alloc (.cells #[.int .u32 1002, .int .u16 20000] 38)).alloc (.cells #[.int .u32 10, .int .u16 7] 38)).alloc (.cells #[.int .u32 20, .int .u16 7] 38))) := by
    have hb := HI.out.trans (b2.mono HI.out.size)
    show Below _ _ _
    (have zzh := Below.size hb; repeat (first | with_reducible exact hb | with_reducible refine Below.setCell ?_ (by first | omega | (simp; done) | (simp; omega)) _ | with_reducible refine Below.alloc ?_ (by first | omega | (simp; done) | (simp; omega)) _ | with_reducible refine Below.drew ?_))
  have ht := (((ht.alloc [.int .u32 1001, .int .u16 20000] 38).alloc [.int .u32 1002, .int .u16 20000] 38).alloc [.int .u32 10, .int .u16 7] 38).alloc [.int .u32 20, .int .u16 7] 38
  simp only [World.size_alloc] at ht
  have C1 := ht.swap.outx (si := 20) (sp := 7) (di := 1001) (dp := 20000) (now := 1) (j := _) (l' := thY1 n) (by kernel_rfl) (by omega) rfl rfl
  clear HI b2 ht
  go_wp2_with fail
  refine C1.mono ?_; rintro e w3 ⟨rfl, ht, b3⟩
  clear C1
  have hB3 := Lib.hid (hB2.out.trans b3)
  clear hB2 b3
  have p1 := ht.c.at (w2.heap.size + 1 + 1) [.int .u32 10, .int .u16 7] (by simp)
  have q1 := ht.c.at (w2.heap.size + 1) [.int .u32 1002, .int .u16 20000] (by simp)
  have x0 := p1.cell 0 _ rfl
  have x1 := p1.cell 1 _ rfl
  have y0 := q1.cell 0 _ rfl
  have y1 := q1.cell 1 _ rfl
  have C2 := ht.swap.outx (si := 10) (sp := 7) (di := 1002) (dp := 20000) (now := 1) (j := _) (l' := thX2 m) (by kernel_rfl) (by omega) rfl rfl
  clear p1 q1 ht
  go_wp2_with fail
  refine C2.mono ?_; rintro e w4 ⟨rfl, ht, b4⟩
  clear C2 x0 x1 y0 y1
  have hB4 := Lib.hid (hB3.out.trans b4)
  clear hB3 b4
  have p1 := ht.c.at (w2.heap.size + 1 + 1) [.int .u32 10, .int .u16 7] (by simp)
  have q1 := ht.c.at (w2.heap.size + 1) [.int .u32 1002, .int .u16 20000] (by simp)
  have x0 := p1.cell 0 _ rfl
  have x1 := p1.cell 1 _ rfl
  have y0 := q1.cell 0 _ rfl
  have y1 := q1.cell 1 _ rfl
  have C3 := ht.getsx (si := 10) (sp := 7) (di := 1002) (dp := 20000) (j := (thX3 m).1) (l' := (thX3 m).2) (p := thP3 m) (a := (thI1 m n g).1.1) (b := (thI1 m n g).1.2.1) (c := (thI1 m n g).1.2.2) (ly' := (thI1 m n g).2) (by kernel_rfl) rfl rfl (badI_of (by omega) FA.out.1) rfl
  rw [FA.out.2.2.1] at C3
  clear p1 q1 ht
  go_wp2_with fail
  refine C3.mono ?_; rintro e w5 ⟨rfl, ht, b5⟩
  clear C3 x0 x1 y0 y1
  have hB5 : Hid (Below w.heap.size w (w5.alloc (.cells #[.int .u32 1001, .int .u16 (thP3 m)] 38))) := (hB4.out.trans b5).alloc (hB4.out.trans b5).size _
  clear hB4 b5
  have ht := ht.alloc [.int .u32 1001, .int .u16 (thP3 m)] 38
  have p1 := ht.c.at (w2.heap.size + 1 + 1 + 1) [.int .u32 20, .int .u16 7] (by simp)
  have q1 := ht.c.at w2.heap.size [.int .u32 1001, .int .u16 20000] (by simp)
  have x0 := p1.cell 0 _ rfl
  have x1 := p1.cell 1 _ rfl
  have y0 := q1.cell 0 _ rfl
  have y1 := q1.cell 1 _ rfl
  have xl := p1.lt
  have yl := q1.lt
  have C4 := ht.swap.getsx (si := 20) (sp := 7) (di := 1001) (dp := 20000) (j := (thY4 m n g).1) (l' := (thY4 m n g).2) (p := thP4 m n g) (a := (thI2 m f n g).1.1) (b := (thI2 m f n g).1.2.1) (c := (thI2 m f n g).1.2.2) (ly' := (thI2 m f n g).2) (by kernel_rfl) rfl rfl (badI_of (by omega) FA.out.2.1) rfl
  rw [FA.out.2.2.2] at C4
  clear p1 q1 ht
  go_wp2_with fail
  refine C4.mono ?_; rintro e w6 ⟨rfl, ht, b6⟩
  clear C4 x0 x1 y0 y1 xl yl
  have hB6 : Hid (Below w.heap.size w (w6.alloc (.cells #[.int .u32 1002, .int .u16 (thP4 m n g)] 38))) := (hB5.out.trans b6).alloc (hB5.out.trans b6).size _
  clear hB5 b6
  have ht := ht.alloc [.int .u32 1002, .int .u16 (thP4 m n g)] 38
  have p1 := ht.c.at w1.heap.size [.int .i64 m, .int .i64 f] (by simp)
  have q1 := ht.c.at (w1.heap.size + 1) [.int .i64 n, .int .i64 g] (by simp)
  have HC := Lib.hid ht.c
  have x0 := p1.cell 0 _ rfl
  have x1 := p1.cell 1 _ rfl
  have y0 := q1.cell 0 _ rfl
  have y1 := q1.cell 1 _ rfl
  have xl := p1.lt
  have yl := q1.lt
  have K1 := through_any m f n g
  have K2 := through_any n g m f
  clear p1 q1 ht
  generalize thruT m f n g = t1 at *
  generalize thruT n g m f = t2 at *
  go_wp2_with fail
  refine (K1 _).mono ?_; rintro e w7 ⟨rfl, b7⟩
  have hB7 := Lib.hid (hB6.out.trans (b7.mono hB6.out.size))
  have hc := HC.out.keep b7
  clear x0 x1 y0 y1 xl yl K1 HC hB6 b7
  have p1 := hc.at w1.heap.size [.int .i64 m, .int .i64 f] (by simp)
  have q1 := hc.at (w1.heap.size + 1) [.int .i64 n, .int .i64 g] (by simp)
  have x0 := p1.cell 0 _ rfl
  have x1 := p1.cell 1 _ rfl
  have y0 := q1.cell 0 _ rfl
  have y1 := q1.cell 1 _ rfl
  clear p1 q1 hc
  go_wp2_with fail
  refine (K2 _).mono ?_; rintro e w8 ⟨rfl, b8⟩
  have hB8 := Lib.hid (hB7.out.trans (b8.mono hB7.out.size))
  clear hB7 b8 x0 x1 y0 y1 K2
  go_wp2_with fail
  go_ret
  exact ⟨rfl, hB8.out⟩

theorem natboxThrough_run (a b : Int) (w : World) (wa : (Lit.int .u8 a).wf = true) (wb : (Lit.int .u8 b).wf = true) :
    Calls Try.prog 4 #[.int .u8 a, .int .u8 b] w fun e w' => e = .returned (.bool true) ∧ Below w.heap.size w w' := natboxThrough_walk a b w wa wb
theorem natboxThrough_own : ownKnob Try.prog.godebug = none := by kernel_rfl
theorem natboxThrough_laid : laidOutB Try.prog = true := by kernel_rfl
set_option maxRecDepth 100000 in
theorem natboxThrough_lifted (os : Os) (started : os.Started) (H : Type) (enc : TypeId × Value → H) :
    ReturnsInHanded {} Try.checked os 4 .any (Rows.natboxThroughSpec.pre6 enc Try.prog Try.f4 Rows.natboxThroughRow.domain false) (Rows.natboxThroughSpec.post enc Try.prog Try.f4 false true false false) := by
  refine returnsInHanded_of_change (C := Try.checked) natboxThrough_own started (by kernel_rfl) Try.func4
    (ChangeSpec.witness6 (enc := enc) (C := Try.checked) false ⟨#[], #[.int .u8 0, .int .u8 0], []⟩ 8 (by kernel_rfl) (by kernel_rfl) (by kernel_rfl) (by kernel_rfl)) ?_
  intro W base args ds gs before hval0 hW hcnd _
  have hval : ∀ (j : Nat) t v, Try.f4.params[j]? = some t → args[j]? = some v → Value.okWide Try.prog W .any base t v := hval0
  have hW' := hW
  obtain ⟨p, q, hA0, hV, rfl, hfz, hnd⟩ := hW
  have hA : DataW.TrodAll enc Try.prog W 0 (fun _ => true) true Try.f4.params.toList args.toList ds p := hA0
  rw [Try.params4] at hA hval
  obtain ⟨v0, vs0, d0, ds0, p0, q0, hargs, rfl, rfl, h0, r0⟩ := trodAll_cons hA
  obtain ⟨v1, vs1, d1, ds1, p1, q1, rfl, rfl, rfl, h1, r1⟩ := trodAll_cons r0
  obtain ⟨rfl, rfl, rfl⟩ := trodAll_nil r1
  obtain rfl : args = #[v0, v1] := by cases args; simp_all
  obtain ⟨rfl, rfl⟩ := trodVars_none hV
  obtain ⟨a0, rfl, rfl, rfl, w0⟩ := open_int Try.underlying5 (hval 0 5 v0 rfl rfl) h0
  obtain ⟨a1, rfl, rfl, rfl, w1⟩ := open_int Try.underlying5 (hval 1 5 v1 rfl rfl) h1
  clear hA0 hval0
  refine (natboxThrough_run a0 a1 W w0 w1).mono fun e W' ⟨he, bel⟩ => ?_
  subst he
  exact ⟨_, rfl, _, _, _, [], _, [], hW', trodAll_mk1 (shut_bool Try.underlying4 _), (trodAll_cons_mk (shut_int Try.underlying5 w0) (trodAll_cons_mk (shut_int Try.underlying5 w1) trodAll_mk0)), rfl, bel.frame _, fun h => by cases h⟩
theorem natboxThrough_over : Rows.natboxThroughRow.holds Try.pinned (OpenSpec.ofChange Rows.natboxThroughSpec) :=
  OpenClaim.holds_of_wide 4 Try.f4 rfl rfl rfl rfl rfl rfl rfl ⟨rfl, rfl, rfl, rfl, rfl⟩ rfl rfl rfl rfl rfl (by kernel_rfl) Try.func4 (by kernel_rfl)
    (of_decide_eq_true (by kernel_rfl)) (by unfold Func.isWrapper; first | (rw [if_pos (by decide +kernel)]; kernel_rfl) | (rw [if_neg (by decide +kernel)]; exact ⟨rfl, rfl⟩))
    (fun os started H enc _ => natboxThrough_lifted os started H enc)
theorem natboxThrough_holds : Rows.NatboxThroughSaid := natboxThrough_over
#print axioms natboxThrough_holds
end Go.Proofs.Ytelnfhbccbinlaa
