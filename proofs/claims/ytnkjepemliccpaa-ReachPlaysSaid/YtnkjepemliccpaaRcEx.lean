/- The chapter's examples. -/
import Derived.Test.YtnkjepemliccpaaRcLaw
namespace Go.Proofs.Ytnkjepemliccpaa
open Go.Sort Go.RowKit Go.BigFrame
set_option linter.unusedVariables false
set_option linter.unusedSimpArgs false

theorem seeD_yes {k : Rc} {i : Nat} {ip pt : Nat} {now : Int} (h1 : 1 ≤ i) (h2 : i ≤ 32) (h3 : noneI ip pt = false) (h4 : now ≤ 4611686018427387904) : seeE i ip pt now = 0 ∧ seeD k i ip pt now = { k with vote := updV k.vote i ⟨i, ip, pt, now⟩ } := by
  have e : seeE i ip pt now = 0 := by
    unfold seeE
    rw [if_neg]
    rw [nodeI_iff.2 ⟨by omega, by omega⟩, h3]
    simp; omega
  exact ⟨e, by unfold seeD; rw [if_pos e]; rfl⟩
theorem seeD_no {k : Rc} {i : Int} {ip pt : Nat} {now : Int} (h : nodeI i = false ∨ noneI ip pt = true ∨ 4611686018427387904 < now) : seeE i ip pt now = 1 ∧ seeD k i ip pt now = k := by
  have e : seeE i ip pt now = 1 := by unfold seeE; rw [if_pos h]
  exact ⟨e, by unfold seeD; rw [e]; rfl⟩
theorem roundD_yes {k : Rc} {seq now : Int} (h1 : now ≤ 4611686018427387904) (h2 : k.on = false) : roundE k now = 0 ∧ roundD k seq now = { k with on := true, seq := seq, got := false } := by
  have e : roundE k now = 0 := by unfold roundE; rw [if_neg (by omega), if_neg (by simp [h2])]
  exact ⟨e, by unfold roundD; rw [if_pos e]⟩
theorem roundD_no {k : Rc} {seq now : Int} (h : roundE k now ≠ 0) : roundD k seq now = k := by unfold roundD; rw [if_neg h]
theorem heardD_no {k : Rc} {seq : Int} (h : heardB k seq = false) : heardD k seq = k := by unfold heardD; rw [h]; rfl
theorem heardD_yes {k : Rc} {seq : Int} (h : heardB k seq = true) : heardD k seq = { k with got := true } := by unfold heardD; rw [if_pos h]
theorem endD_no {k : Rc} (h : k.on = false) : endD k = k := by unfold endD; rw [h]; rfl
theorem endD_yes {k : Rc} (h : k.on = true) : endD k = { k with past := (k.got :: k.past).take k.rounds, on := false } := by unfold endD; rw [if_pos h]
def ex1 : Rc := ⟨1, 10, updV (fun _ => zV) 2 ⟨2, 5, 5, 0⟩, [], false, 0, false⟩
def ex2 : Rc := ⟨1, 10, updV (updV (fun _ => zV) 2 ⟨2, 5, 5, 0⟩) 3 ⟨3, 4, 4, 0⟩, [], false, 0, false⟩
def vE : Nat → Vt := updV (updV (updV (fun _ => zV) 2 ⟨2, 5, 5, 0⟩) 3 ⟨3, 4, 4, 0⟩) 4 ⟨4, 5, 5, 0⟩
def exR (past : List Bool) (on : Bool) (seq : Int) (got : Bool) : Rc := ⟨1, 10, vE, past, on, seq, got⟩
theorem ex_addr5 : addrR (exR [] false 0 false) 5 = ⟨5, 5, 2⟩ := by kernel_rfl
theorem ex_addr10 : addrR (exR [] false 0 false) 10 = ⟨0, 0, 0⟩ := by kernel_rfl
theorem ex_all : allV vE = [⟨2, 5, 5, 0⟩, ⟨3, 4, 4, 0⟩, ⟨4, 5, 5, 0⟩] := by kernel_rfl
set_option maxHeartbeats 3200000 in
set_option maxRecDepth 20000 in
theorem ex_any (w : World) : Calls Try.prog 9 #[] w fun e w' => e = .returned (.bool true) ∧ Below w.heap.size w w' := by
  have K := new_bad 0 1 (by decide) w
  go_enter Try.func9, Try.ntmps9
  go_wp2_with fail
  refine K.mono ?_; rintro e w1 ⟨rfl, rfl⟩
  clear K
  have K := new_l (r := 1) (h := 10) (by decide) (by decide) (n := 1) rfl (St.start w w (Below.refl _ _))
  go_wp2_with fail
  refine K.mono ?_; rintro e w1 ⟨g, rfl, s⟩
  clear K
  have s2 := s.box [.int .u32 5, .int .u16 5] 35
  have lt1 := s.get (h := hR g (newR 1 10)) (by simp)
  go_upto_region 6 with fail
  have HB5 : Hid (w1.heap.size = w1.heap.size) := rfl
  generalize (w1.alloc (.cells #[.int .u32 5, .int .u16 5] 35)) = w2 at *
  generalize w1.heap.size = b5 at *
  clear s lt1 HB5
  have cells := s2.cs (b := b5) (vs := [.int .u32 5, .int .u16 5]) (by simp)
  have c0 := cells.cell 0 _ rfl
  have c1 := cells.cell 1 _ rfl
  have cl := cells.lt
  clear cells
  have K := see_l (e := 0) (k' := ex1) 2 5 5 0 (by decide) (by decide) (by decide) (by decide) (by rfl) [_] [] s2
  clear s2
  go_wp2_with fail
  refine K.mono ?_; rintro e w3 ⟨rfl, s⟩
  clear K c0 c1 cl
  have K := see_l (e := 0) (k' := ex2) 3 4 4 0 (by decide) (by decide) (by decide) (by decide) (by rfl) [_] [] s
  clear s
  go_wp2_with fail
  refine K.mono ?_; rintro e w4 ⟨rfl, s⟩
  clear K
  have K := see_l (e := 0) (k' := exR [] false 0 false) 4 5 5 0 (by decide) (by decide) (by decide) (by decide) (by rfl) [_] [] s
  have cells := s.cs (b := b5) (vs := [.int .u32 5, .int .u16 5]) (by simp)
  have c0 := cells.cell 0 _ rfl
  have c1 := cells.cell 1 _ rfl
  have cl := cells.lt
  clear cells s
  go_wp2_with fail
  refine K.mono ?_; rintro e w5 ⟨rfl, s⟩
  clear K c0 c1 cl
  have K := addr_l 5 ex_addr5 (b := true) (by decide) s (g := g) (by simp)
  clear s
  go_wp2_with fail
  refine K.mono ?_; rintro e w6 ⟨rfl, s⟩
  clear K
  have s2 := s.box [.int .u32 5, .int .u16 5] 35
  clear s
  go_upto_region 10 with fail
  generalize (w6.alloc (.cells #[.int .u32 5, .int .u16 5] 35)) = w7 at *
  generalize w6.heap.size = b9 at *
  have K := addr_l 10 ex_addr10 (b := false) (by decide) s2 (g := g) (by simp)
  clear s2
  go_wp2_with fail
  refine K.mono ?_; rintro e w8 ⟨rfl, s⟩
  clear K
  have s2 := s.keep ((Below.refl _ w8).alloc (Nat.le_refl _) (.cells #[.int .u32 0, .int .u16 0] 35))
  clear s
  go_upto_region 11 with fail
  generalize (w8.alloc (.cells #[.int .u32 0, .int .u16 0] 35)) = w9 at *
  have K := class_l (e := 0) (by rfl) s2 (g := g) (k := exR [] false 0 false) (by simp)
  clear s2
  go_wp2_with fail
  refine K.mono ?_; rintro e w10 ⟨rfl, s⟩
  clear K
  have K := round_l (e := 0) (k' := exR [] true 7 false) 7 0 (by rfl) (by rfl) [_, _] [] s
  clear s
  go_wp2_with fail
  refine K.mono ?_; rintro e w11 ⟨rfl, s⟩
  clear K
  have K := round_l (e := 4) (k' := exR [] true 7 false) 8 0 (by rfl) (by rfl) [_, _] [] s
  clear s
  go_wp2_with fail
  refine K.mono ?_; rintro e w12 ⟨rfl, s⟩
  clear K
  have K := heard_l (b := false) (k' := exR [] true 7 false) 8 (by rfl) (by rfl) [_, _] [] s
  clear s
  go_wp2_with fail
  refine K.mono ?_; rintro e w13 ⟨rfl, s⟩
  clear K
  have K := end_l (b := true) (k' := exR [false] false 7 false) (by rfl) (by rfl) [_, _] [] s
  clear s
  go_wp2_with fail
  refine K.mono ?_; rintro e w14 ⟨rfl, s⟩
  clear K
  have K := class_l (e := 2) (by rfl) s (g := g) (k := exR [false] false 7 false) (by simp)
  clear s
  go_wp2_with fail
  refine K.mono ?_; rintro e w15 ⟨rfl, s⟩
  clear K
  have K := round_l (e := 0) (k' := exR [false] true 9 false) 9 0 (by rfl) (by rfl) [_, _] [] s
  clear s
  go_wp2_with fail
  refine K.mono ?_; rintro e w16 ⟨rfl, s⟩
  clear K
  have K := heard_l (b := true) (k' := exR [false] true 9 true) 9 (by rfl) (by rfl) [_, _] [] s
  clear s
  go_wp2_with fail
  refine K.mono ?_; rintro e w17 ⟨rfl, s⟩
  clear K
  have K := end_l (b := true) (k' := exR [true] false 9 true) (by rfl) (by rfl) [_, _] [] s
  clear s
  go_upto_region 19 with fail
  try dsimp only [List.append]
  go_wp2_with fail
  refine K.mono ?_; rintro e w18 ⟨rfl, s⟩
  clear K
  have K := class_l (e := 1) (by rfl) s (g := g) (k := exR [true] false 9 true) (by simp)
  have x5 := s.cs (b := b5) (vs := [.int .u32 5, .int .u16 5]) (by simp)
  have x9 := s.cs (b := b9) (vs := [.int .u32 5, .int .u16 5]) (by simp)
  have c0 := x5.cell 0 _ rfl
  have c1 := x5.cell 1 _ rfl
  have cl := x5.lt
  have d0 := x9.cell 0 _ rfl
  have d1 := x9.cell 1 _ rfl
  have dl := x9.lt
  clear s x5 x9
  go_wp2_with fail
  refine K.mono ?_; rintro e w19 ⟨rfl, s⟩
  clear K c0 c1 cl d0 d1 dl
  have K := end_l (b := false) (k' := exR [true] false 9 true) (by rfl) (by rfl) [_, _] [] s
  clear s
  go_wp2_with fail
  refine K.mono ?_; rintro e w20 ⟨rfl, s⟩
  clear K
  have K := votes_l (k := exR [true] false 9 true) ex_all s (g := g) (by simp)
  clear s
  go_wp2_with fail
  refine K.mono ?_; rintro e w21 ⟨u, rfl, s⟩
  clear K
  simp only [List.length_cons, List.length_nil]
  have BE := Lib.hid s.below
  clear s
  go_wp2
  go_ret
  exact ⟨rfl, BE.out⟩
end Go.Proofs.Ytnkjepemliccpaa
