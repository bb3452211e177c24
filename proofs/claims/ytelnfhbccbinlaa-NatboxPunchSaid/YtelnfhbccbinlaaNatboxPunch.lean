/- The statement NatboxPunch: of any two types, two boxes may punch, as the relation tells, just if what one sends gets in, and what the other one answers to where it came from gets back. No conditions. -/
import Derived.Test.YtelnfhbccbinlaaNatboxThrough
import Derived.Test.YtelnfhbccbinlaaRulePunchR
namespace Go.Proofs.Ytelnfhbccbinlaa
open Go.Sort Go.RowKit Go.BigFrame Go.ChangeShapes Go.WideShapes Go.ChangeAt
open Go.ChangeMaps (open_string shut_string)
set_option linter.unusedVariables false
set_option linter.unusedSimpArgs false

def puY4 (m n g : Int) : Nat × List Pb := outP n 100 8 1 20 7 1001 (thP3 m) (thI1 m n g).2
def puPA (m n g : Int) : Int := poAt (puY4 m n g).2 (puY4 m n g).1
def puI2 (m f n g : Int) : (Int × Int × Int) × List Pb := inQ f 100 1 (thP3 m) 1002 (puPA m n g) (thX3 m).2
def puY3 (n : Int) : Nat × List Pb := outP n 100 8 1 20 7 1001 20000 (thY1 n)
def puQ3 (n : Int) : Int := poAt (puY3 n).2 (puY3 n).1
def puI1 (m f n : Int) : (Int × Int × Int) × List Pb := inQ f 100 1 20000 1002 (puQ3 n) (thX2 m)
def puX4 (m f n : Int) : Nat × List Pb := outP m 100 8 1 10 7 1002 (puQ3 n) (puI1 m f n).2
def puPB (m f n : Int) : Int := poAt (puX4 m f n).2 (puX4 m f n).1
def puI3 (m f n g : Int) : (Int × Int × Int) × List Pb := inQ g 100 1 (puQ3 n) 1001 (puPB m f n) (puY3 n).2
def pu1 (m f n g : Int) : Bool := ((thI1 m n g).1.2.2 == 0) && ((puI2 m f n g).1.2.2 == 0)
def pu2 (m f n g : Int) : Bool := ((puI1 m f n).1.2.2 == 0) && ((puI3 m f n g).1.2.2 == 0)
def puB (m f n g : Int) : Nat → Bool
  | 0 => false
  | 1 => pu1 m f n g
  | _ => pu1 m f n g || pu2 m f n g
set_option maxRecDepth 100000 in
theorem punch_fin2 : ∀ m f n g : Fin 3, (thP3 (m.val : Nat) ≠ 0 ∧ puPA (m.val : Nat) (n.val : Nat) (g.val : Nat) ≠ 0) ∧ (puQ3 (n.val : Nat) ≠ 0 ∧ puPB (m.val : Nat) (f.val : Nat) (n.val : Nat) ≠ 0) ∧ (pu1 (m.val : Nat) (f.val : Nat) (n.val : Nat) (g.val : Nat) || pu2 (m.val : Nat) (f.val : Nat) (n.val : Nat) (g.val : Nat)) = punchT (m.val : Nat) (f.val : Nat) (n.val : Nat) (g.val : Nat) := by decide +kernel
theorem punch_fact2 {m f n g : Int} (hm : 0 ≤ m ∧ m ≤ 2) (hf : 0 ≤ f ∧ f ≤ 2) (hn : 0 ≤ n ∧ n ≤ 2) (hg : 0 ≤ g ∧ g ≤ 2) : (thP3 m ≠ 0 ∧ puPA m n g ≠ 0) ∧ (puQ3 n ≠ 0 ∧ puPB m f n ≠ 0) ∧ (pu1 m f n g || pu2 m f n g) = punchT m f n g := by
  obtain ⟨m', rfl⟩ := Int.eq_ofNat_of_zero_le hm.1
  obtain ⟨f', rfl⟩ := Int.eq_ofNat_of_zero_le hf.1
  obtain ⟨n', rfl⟩ := Int.eq_ofNat_of_zero_le hn.1
  obtain ⟨g', rfl⟩ := Int.eq_ofNat_of_zero_le hg.1
  exact punch_fin2 ⟨m', by omega⟩ ⟨f', by omega⟩ ⟨n', by omega⟩ ⟨g', by omega⟩
theorem badO_of {si sp ip p : Int} (h0 : ¬ si = 0) (h : ¬ sp = 0) (h1 : ¬ ip = 0) (h2 : p ≠ 0) : badO si sp ip p 1 = false := by
  unfold badO noneI; simp [h0, h, h1, h2]
def PuL (s : Nat) (m f n g : Int) : List (Nat × List Value) := [(s + 1 + 1 + 1, [.int .u32 20, .int .u16 7]), (s + 1 + 1, [.int .u32 10, .int .u16 7]), (s + 1, [.int .i64 n, .int .i64 g]), (s, [.int .i64 m, .int .i64 f])]
def PuJ (w : World) (s : Nat) (m f n g : Int) (pv iv : Value) (wr : World) : Prop := ∃ k : Nat, k ≤ 2 ∧ iv = .int .i64 (k : Nat) ∧ pv = .bool (puB m f n g k) ∧ Cl (PuL s m f n g) wr ∧ Below w.heap.size w wr
set_option maxHeartbeats 32000000 in
set_option maxRecDepth 100000 in
theorem natboxPunch_walk (a b : Int) (w : World) (wa : (Lit.int .u8 a).wf = true) (wb : (Lit.int .u8 b).wf = true) :
    Calls Try.prog 5 #[.int .u8 a, .int .u8 b] w fun e w' => e = .returned (.bool true) ∧ Below w.heap.size w w' := by
  obtain ⟨ha0, ha1⟩ := bounds_u8 wa
  obtain ⟨hb0, hb1⟩ := bounds_u8 wb
  have hm : 0 ≤ a % 3 ∧ a % 3 ≤ 2 := by omega
  have hf : 0 ≤ a / 3 % 3 ∧ a / 3 % 3 ≤ 2 := by omega
  have hn : 0 ≤ b % 3 ∧ b % 3 ≤ 2 := by omega
  have hg : 0 ≤ b / 3 % 3 ∧ b / 3 % 3 ≤ 2 := by omega
  have FA := Lib.hid (punch_fact2 hm hf hn hg)
  have R1 := Lib.hid (right_of hm hf)
  have R2 := Lib.hid (right_of hn hg)
  have M3 := Lib.hid (show a % 3 = 0 ∨ a % 3 = 1 ∨ a % 3 = 2 by omega)
  have N3 := Lib.hid (show b % 3 = 0 ∨ b % 3 = 1 ∨ b % 3 = 2 by omega)
  clear hm hf hn hg wa wb
  go_enter Try.func5, Try.ntmps5
  go_wp2_with fail
  refine (examples_yes _).mono ?_; rintro e w1 ⟨rfl, b1⟩
  have hB := Lib.hid b1
  clear b1
  have hm3 : a.tmod 3 = a % 3 := tmod_pos _ _ ha0
  have hf3 : (a / 3).tmod 3 = a / 3 % 3 := tmod_pos _ _ (by omega)
  have hm4 : b.tmod 3 = b % 3 := tmod_pos _ _ hb0
  have hf4 : (b / 3).tmod 3 = b / 3 % 3 := tmod_pos _ _ (by omega)
  have HL : Hid (Cl (PuL w1.heap.size (a % 3) (a / 3 % 3) (b % 3) (b / 3 % 3)) ((((w1.alloc (.cells #[.int .i64 (a % 3), .int .i64 (a / 3 % 3)] 23)).alloc (.cells #[.int .i64 (b % 3), .int .i64 (b / 3 % 3)] 23)).alloc (.cells #[.int .u32 10, .int .u16 7] 38)).alloc (.cells #[.int .u32 20, .int .u16 7] 38))) := by
    have h0 : Cl [] w1 := fun x hx => by simp at hx
    have h := (((h0.alloc [.int .i64 (a % 3), .int .i64 (a / 3 % 3)] 23).alloc [.int .i64 (b % 3), .int .i64 (b / 3 % 3)] 23).alloc [.int .u32 10, .int .u16 7] 38).alloc [.int .u32 20, .int .u16 7] 38
    simp only [World.size_alloc] at h
    exact h
  have HI : Hid (Below w.heap.size w ((((w1.alloc (.cells #[.int .i64 (a % 3), .int .i64 (a / 3 % 3)] 23)).alloc (.cells #[.int .i64 (b % 3), .int .i64 (b / 3 % 3)] 23)).alloc (.cells #[.int .u32 10, .int .u16 7] 38)).alloc (.cells #[.int .u32 20, .int .u16 7] 38))) := by
    have hb := hB.out
    show Below _ _ _
    (have zzh := Below.size hb; repeat (first | with_reducible exact hb | with_reducible refine Below.setCell ?_ (by first | omega | (simp; done) | (simp; omega)) _ | with_reducible refine Below.alloc ?_ (by first | omega | (simp; done) | (simp; omega)) _ | with_reducible refine Below.drew ?_))
  clear hB
  go_wp2_with fail
  generalize ((((w1.alloc (.cells #[.int .i64 (a % 3), .int .i64 (a / 3 % 3)] 23)).alloc (.cells #[.int .i64 (b % 3), .int .i64 (b / 3 % 3)] 23)).alloc (.cells #[.int .u32 10, .int .u16 7] 38)).alloc (.cells #[.int .u32 20, .int .u16 7] 38)) = wh at *
  generalize a % 3 = m at *
  generalize a / 3 % 3 = f at *
  generalize b % 3 = n at *
  generalize b / 3 % 3 = g at *
  generalize w1.heap.size = s at *
  clear hm3 hf3 hm4 hf4
  go_loopw [10, 11] (fun pv iv wr => PuJ w s m f n g pv iv wr) (fun _ i _ => 2 - (intOf i).toNat)
  case atStart => exact ⟨0, by omega, rfl, rfl, HL.out, HI.out⟩
  case round =>
    obtain ⟨k, hk, rfl, rfl, hc, hb⟩ := hrel
    clear HL HI
    have hcases : k = 0 ∨ k = 1 ∨ k = 2 := by omega
    have HC := Lib.hid hc
    have HI := Lib.hid hb
    have x0 := (hc.at s [.int .i64 m, .int .i64 f] (by simp [PuL])).cell 0 _ rfl
    have x1 := (hc.at s [.int .i64 m, .int .i64 f] (by simp [PuL])).cell 1 _ rfl
    have y0 := (hc.at (s + 1) [.int .i64 n, .int .i64 g] (by simp [PuL])).cell 0 _ rfl
    have y1 := (hc.at (s + 1) [.int .i64 n, .int .i64 g] (by simp [PuL])).cell 1 _ rfl
    have P := pairL (B := w.heap.size) R1.out R2.out M3.out N3.out hb.size hc
    clear hc hb hk
    rcases hcases with rfl | rfl | rfl
    · have HP : Hid (puB m f n g 1 = (((thI1 m n g).1.2.2 == 0) && ((puI2 m f n g).1.2.2 == 0))) := rfl
      go_wp2_with fail
      refine P.mono ?_; rintro e w2 ⟨gx, gy, rfl, ht, b2⟩
      clear P x0 x1 y0 y1 HC
      have ht := (ht.alloc [.int .u32 1001, .int .u16 20000] 38).alloc [.int .u32 1002, .int .u16 20000] 38
      simp only [World.size_alloc] at ht
      have hB2 : Hid (Below w.heap.size w ((w2.alloc (.cells #[.int .u32 1001, .int .u16 20000] 38)).alloc (.cells #[.int .u32 1002, .int .u16 20000] 38))) := by
        have hb := HI.out.trans (b2.mono HI.out.size)
        show Below _ _ _
        (have zzh := Below.size hb; repeat (first | with_reducible exact hb | with_reducible refine Below.setCell ?_ (by first | omega | (simp; done) | (simp; omega)) _ | with_reducible refine Below.alloc ?_ (by first | omega | (simp; done) | (simp; omega)) _ | with_reducible refine Below.drew ?_))
      clear HI b2
      have p1 := ht.c.at (s + 1 + 1) [.int .u32 10, .int .u16 7] (by simp [PuL])
      have x0 := p1.cell 0 _ rfl
      have x1 := p1.cell 1 _ rfl
      have xl := p1.lt
      have C1 := ht.outx (si := 10) (sp := 7) (di := 1002) (dp := 20000) (now := 1) (j := _) (l' := thX2 m) (by kernel_rfl) (by omega) rfl rfl
      clear p1 ht
      go_wp2_with fail
      refine C1.mono ?_; rintro e w3 ⟨rfl, ht, b3⟩
      clear C1 x0 x1 xl
      have hB3 := Lib.hid (hB2.out.trans b3)
      clear hB2 b3
      have p1 := ht.c.at (s + 1 + 1 + 1) [.int .u32 20, .int .u16 7] (by simp [PuL])
      have q1 := ht.c.at w2.heap.size [.int .u32 1001, .int .u16 20000] (by simp)
      have x0 := p1.cell 0 _ rfl
      have x1 := p1.cell 1 _ rfl
      have y0 := q1.cell 0 _ rfl
      have y1 := q1.cell 1 _ rfl
      have C2 := ht.swap.outx (si := 20) (sp := 7) (di := 1001) (dp := 20000) (now := 1) (j := _) (l' := thY1 n) (by kernel_rfl) (by omega) rfl rfl
      clear p1 q1 ht
      go_wp2_with fail
      refine C2.mono ?_; rintro e w4 ⟨rfl, ht, b4⟩
      clear C2 x0 x1 y0 y1
      have hB4 := Lib.hid (hB3.out.trans b4)
      clear hB3 b4
      have p1 := ht.c.at (s + 1 + 1) [.int .u32 10, .int .u16 7] (by simp [PuL])
      have q1 := ht.c.at (w2.heap.size + 1) [.int .u32 1002, .int .u16 20000] (by simp)
      have x0 := p1.cell 0 _ rfl
      have x1 := p1.cell 1 _ rfl
      have y0 := q1.cell 0 _ rfl
      have y1 := q1.cell 1 _ rfl
      have C3 := ht.swap.getsx (si := 10) (sp := 7) (di := 1002) (dp := 20000) (j := (thX3 m).1) (l' := (thX3 m).2) (p := thP3 m) (a := (thI1 m n g).1.1) (b := (thI1 m n g).1.2.1) (c := (thI1 m n g).1.2.2) (ly' := (thI1 m n g).2) (by kernel_rfl) rfl rfl (badI_of (by omega) FA.out.1.1) rfl
      clear p1 q1 ht
      go_wp2_with fail
      refine C3.mono ?_; rintro e w5 ⟨rfl, ht, b5⟩
      clear C3 x0 x1 y0 y1
      have hB5 : Hid (Below w.heap.size w (w5.alloc (.cells #[.int .u32 1001, .int .u16 (thP3 m)] 38))) := (hB4.out.trans b5).alloc (hB4.out.trans b5).size _
      clear hB4 b5
      have ht := ht.alloc [.int .u32 1001, .int .u16 (thP3 m)] 38
      have p1 := ht.c.at (s + 1 + 1 + 1) [.int .u32 20, .int .u16 7] (by simp [PuL])
      have x0 := p1.cell 0 _ rfl
      have x1 := p1.cell 1 _ rfl
      have xl := p1.lt
      have C4 := ht.swap.outx (si := 20) (sp := 7) (di := 1001) (dp := thP3 m) (now := 1) (j := (puY4 m n g).1) (l' := (puY4 m n g).2) (p := puPA m n g) (badO_of (by omega) (by omega) (by omega) FA.out.1.1) (by omega) rfl rfl
      clear p1 ht
      go_wp2_with fail
      refine C4.mono ?_; rintro e w6 ⟨rfl, ht, b6⟩
      clear C4 x0 x1 xl
      have hB6 : Hid (Below w.heap.size w (w6.alloc (.cells #[.int .u32 1002, .int .u16 (puPA m n g)] 38))) := (hB5.out.trans b6).alloc (hB5.out.trans b6).size _
      clear hB5 b6
      have ht := ht.alloc [.int .u32 1002, .int .u16 (puPA m n g)] 38
      have p1 := ht.c.at w5.heap.size [.int .u32 1001, .int .u16 (thP3 m)] (by simp)
      have x1 := p1.cell 1 _ rfl
      have xl := p1.lt
      have C5 := ht.swap.inx (si := 1002) (sp := puPA m n g) (now := 1) (port := thP3 m) (a := (puI2 m f n g).1.1) (b := (puI2 m f n g).1.2.1) (c := (puI2 m f n g).1.2.2) (l' := (puI2 m f n g).2) (badI_of (by omega) FA.out.1.2) (by omega) rfl
      clear p1 ht
      go_wp2_with fail
      refine C5.mono ?_; rintro e w7 ⟨rfl, ht, b7⟩
      clear C5 x1 xl
      have hB7 : Hid (Below w.heap.size w (w7.alloc (.cells #[.int .u32 (puI2 m f n g).1.1, .int .u16 (puI2 m f n g).1.2.1] 38))) := (hB6.out.trans b7).alloc (hB6.out.trans b7).size _
      clear hB6 b7
      have HC : Hid (Cl (PuL s m f n g) (w7.alloc (.cells #[.int .u32 (puI2 m f n g).1.1, .int .u16 (puI2 m f n g).1.2.1] 38))) := (ht.c.sub (fun x hx => by simp [hx])).keep ((Below.refl _ w7).alloc (Nat.le_refl _) _)
      clear ht
      generalize (thI1 m n g).1.2.2 = c0 at *
      generalize (puI2 m f n g).1.2.2 = c1 at *
      have e0 : puB m f n g 0 = false := rfl
      rw [e0]
      clear e0
      obtain ⟨i0, hi0⟩ : ∃ i0, (c0 == 0) = i0 := ⟨_, rfl⟩
      rw [hi0] at HP ⊢
      clear hi0
      cases i0
      · go_wp2_with fail
        go_roundw
        case rel => exact ⟨1, by omega, by go_num, by rw [HP.out]; rfl, HC.out, hB7.out⟩
        case measure => simp [intOf]
      · go_wp2_with fail
        go_roundw
        case rel => exact ⟨1, by omega, by go_num, by rw [HP.out]; rfl, HC.out, hB7.out⟩
        case measure => simp [intOf]
    · have HP : Hid (puB m f n g 2 = (pu1 m f n g || (((puI1 m f n).1.2.2 == 0) && ((puI3 m f n g).1.2.2 == 0)))) := rfl
      go_wp2_with fail
      refine P.mono ?_; rintro e w2 ⟨gx, gy, rfl, ht, b2⟩
      clear P x0 x1 y0 y1 HC
      have ht := (ht.alloc [.int .u32 1001, .int .u16 20000] 38).alloc [.int .u32 1002, .int .u16 20000] 38
      simp only [World.size_alloc] at ht
      have hB2 : Hid (Below w.heap.size w ((w2.alloc (.cells #[.int .u32 1001, .int .u16 20000] 38)).alloc (.cells #[.int .u32 1002, .int .u16 20000] 38))) := by
        have hb := HI.out.trans (b2.mono HI.out.size)
        show Below _ _ _
        (have zzh := Below.size hb; repeat (first | with_reducible exact hb | with_reducible refine Below.setCell ?_ (by first | omega | (simp; done) | (simp; omega)) _ | with_reducible refine Below.alloc ?_ (by first | omega | (simp; done) | (simp; omega)) _ | with_reducible refine Below.drew ?_))
      clear HI b2
      have p1 := ht.c.at (s + 1 + 1) [.int .u32 10, .int .u16 7] (by simp [PuL])
      have x0 := p1.cell 0 _ rfl
      have x1 := p1.cell 1 _ rfl
      have xl := p1.lt
      have C1 := ht.outx (si := 10) (sp := 7) (di := 1002) (dp := 20000) (now := 1) (j := _) (l' := thX2 m) (by kernel_rfl) (by omega) rfl rfl
      clear p1 ht
      go_wp2_with fail
      refine C1.mono ?_; rintro e w3 ⟨rfl, ht, b3⟩
      clear C1 x0 x1 xl
      have hB3 := Lib.hid (hB2.out.trans b3)
      clear hB2 b3
      have p1 := ht.c.at (s + 1 + 1 + 1) [.int .u32 20, .int .u16 7] (by simp [PuL])
      have q1 := ht.c.at w2.heap.size [.int .u32 1001, .int .u16 20000] (by simp)
      have x0 := p1.cell 0 _ rfl
      have x1 := p1.cell 1 _ rfl
      have y0 := q1.cell 0 _ rfl
      have y1 := q1.cell 1 _ rfl
      have C2 := ht.swap.outx (si := 20) (sp := 7) (di := 1001) (dp := 20000) (now := 1) (j := _) (l' := thY1 n) (by kernel_rfl) (by omega) rfl rfl
      clear p1 q1 ht
      go_wp2_with fail
      refine C2.mono ?_; rintro e w4 ⟨rfl, ht, b4⟩
      clear C2 x0 x1 y0 y1
      have hB4 := Lib.hid (hB3.out.trans b4)
      clear hB3 b4
      have p1 := ht.c.at (s + 1 + 1 + 1) [.int .u32 20, .int .u16 7] (by simp [PuL])
      have q1 := ht.c.at (w2.heap.size) [.int .u32 1001, .int .u16 20000] (by simp)
      have x0 := p1.cell 0 _ rfl
      have x1 := p1.cell 1 _ rfl
      have y0 := q1.cell 0 _ rfl
      have y1 := q1.cell 1 _ rfl
      have C3 := ht.getsx (si := 20) (sp := 7) (di := 1001) (dp := 20000) (j := (puY3 n).1) (l' := (puY3 n).2) (p := puQ3 n) (a := (puI1 m f n).1.1) (b := (puI1 m f n).1.2.1) (c := (puI1 m f n).1.2.2) (ly' := (puI1 m f n).2) (by kernel_rfl) rfl rfl (badI_of (by omega) FA.out.2.1.1) rfl
      clear p1 q1 ht
      go_wp2_with fail
      refine C3.mono ?_; rintro e w5 ⟨rfl, ht, b5⟩
      clear C3 x0 x1 y0 y1
      have hB5 : Hid (Below w.heap.size w (w5.alloc (.cells #[.int .u32 1002, .int .u16 (puQ3 n)] 38))) := (hB4.out.trans b5).alloc (hB4.out.trans b5).size _
      clear hB4 b5
      have ht := ht.alloc [.int .u32 1002, .int .u16 (puQ3 n)] 38
      have p1 := ht.c.at (s + 1 + 1) [.int .u32 10, .int .u16 7] (by simp [PuL])
      have x0 := p1.cell 0 _ rfl
      have x1 := p1.cell 1 _ rfl
      have xl := p1.lt
      have C4 := ht.swap.outx (si := 10) (sp := 7) (di := 1002) (dp := puQ3 n) (now := 1) (j := (puX4 m f n).1) (l' := (puX4 m f n).2) (p := puPB m f n) (badO_of (by omega) (by omega) (by omega) FA.out.2.1.1) (by omega) rfl rfl
      clear p1 ht
      go_wp2_with fail
      refine C4.mono ?_; rintro e w6 ⟨rfl, ht, b6⟩
      clear C4 x0 x1 xl
      have hB6 : Hid (Below w.heap.size w (w6.alloc (.cells #[.int .u32 1001, .int .u16 (puPB m f n)] 38))) := (hB5.out.trans b6).alloc (hB5.out.trans b6).size _
      clear hB5 b6
      have ht := ht.alloc [.int .u32 1001, .int .u16 (puPB m f n)] 38
      have p1 := ht.c.at w5.heap.size [.int .u32 1002, .int .u16 (puQ3 n)] (by simp)
      have x1 := p1.cell 1 _ rfl
      have xl := p1.lt
      have C5 := ht.swap.inx (si := 1001) (sp := puPB m f n) (now := 1) (port := puQ3 n) (a := (puI3 m f n g).1.1) (b := (puI3 m f n g).1.2.1) (c := (puI3 m f n g).1.2.2) (l' := (puI3 m f n g).2) (badI_of (by omega) FA.out.2.1.2) (by omega) rfl
      clear p1 ht
      go_wp2_with fail
      refine C5.mono ?_; rintro e w7 ⟨rfl, ht, b7⟩
      clear C5 x1 xl
      have hB7 : Hid (Below w.heap.size w (w7.alloc (.cells #[.int .u32 (puI3 m f n g).1.1, .int .u16 (puI3 m f n g).1.2.1] 38))) := (hB6.out.trans b7).alloc (hB6.out.trans b7).size _
      clear hB6 b7
      have HC : Hid (Cl (PuL s m f n g) (w7.alloc (.cells #[.int .u32 (puI3 m f n g).1.1, .int .u16 (puI3 m f n g).1.2.1] 38))) := (ht.c.sub (fun x hx => by simp [hx])).keep ((Below.refl _ w7).alloc (Nat.le_refl _) _)
      clear ht
      generalize (puI1 m f n).1.2.2 = c0 at *
      generalize (puI3 m f n g).1.2.2 = c1 at *
      have e0 : puB m f n g 1 = pu1 m f n g := rfl
      rw [e0]
      clear e0
      obtain ⟨i0, hi0⟩ : ∃ i0, (c0 == 0) = i0 := ⟨_, rfl⟩
      rw [hi0] at HP ⊢
      clear hi0
      obtain ⟨pu, hpu⟩ : ∃ pu, pu1 m f n g = pu := ⟨_, rfl⟩
      rw [hpu] at HP ⊢
      clear hpu
      cases pu
      · cases i0
        · go_wp2_with fail
          go_roundw
          case rel => exact ⟨2, by omega, by go_num, by rw [HP.out]; rfl, HC.out, hB7.out⟩
          case measure => simp [intOf]
        · go_wp2_with fail
          go_roundw
          case rel => exact ⟨2, by omega, by go_num, by rw [HP.out]; rfl, HC.out, hB7.out⟩
          case measure => simp [intOf]
      · go_wp2_with fail
        go_roundw
        case rel => exact ⟨2, by omega, by go_num, by rw [HP.out]; rfl, HC.out, hB7.out⟩
        case measure => simp [intOf]
    · have e0 : puB m f n g 2 = punchT m f n g := FA.out.2.2
      rw [e0]
      clear e0 P
      have K1 := punch_any m f n g
      generalize punchT m f n g = t1 at *
      go_wp2_with fail
      refine (K1 _).mono ?_; rintro e w7 ⟨rfl, b7⟩
      clear K1 x0 x1 y0 y1
      go_wp2_with fail
      go_ret
      exact ⟨rfl, HI.out.trans (b7.mono HI.out.size)⟩
theorem natboxPunch_run (a b : Int) (w : World) (wa : (Lit.int .u8 a).wf = true) (wb : (Lit.int .u8 b).wf = true) :
    Calls Try.prog 5 #[.int .u8 a, .int .u8 b] w fun e w' => e = .returned (.bool true) ∧ Below w.heap.size w w' := natboxPunch_walk a b w wa wb
theorem natboxPunch_own : ownKnob Try.prog.godebug = none := by kernel_rfl
theorem natboxPunch_laid : laidOutB Try.prog = true := by kernel_rfl
set_option maxRecDepth 100000 in
theorem natboxPunch_lifted (os : Os) (started : os.Started) (H : Type) (enc : TypeId × Value → H) :
    ReturnsInHanded {} Try.checked os 5 .any (Rows.natboxPunchSpec.pre6 enc Try.prog Try.f5 Rows.natboxPunchRow.domain false) (Rows.natboxPunchSpec.post enc Try.prog Try.f5 false true false false) := by
  refine returnsInHanded_of_change (C := Try.checked) natboxPunch_own started (by kernel_rfl) Try.func5
    (ChangeSpec.witness6 (enc := enc) (C := Try.checked) false ⟨#[], #[.int .u8 0, .int .u8 0], []⟩ 8 (by kernel_rfl) (by kernel_rfl) (by kernel_rfl) (by kernel_rfl)) ?_
  intro W base args ds gs before hval0 hW hcnd _
  have hval : ∀ (j : Nat) t v, Try.f5.params[j]? = some t → args[j]? = some v → Value.okWide Try.prog W .any base t v := hval0
  have hW' := hW
  obtain ⟨p, q, hA0, hV, rfl, hfz, hnd⟩ := hW
  have hA : DataW.TrodAll enc Try.prog W 0 (fun _ => true) true Try.f5.params.toList args.toList ds p := hA0
  rw [Try.params5] at hA hval
  obtain ⟨v0, vs0, d0, ds0, p0, q0, hargs, rfl, rfl, h0, r0⟩ := trodAll_cons hA
  obtain ⟨v1, vs1, d1, ds1, p1, q1, rfl, rfl, rfl, h1, r1⟩ := trodAll_cons r0
  obtain ⟨rfl, rfl, rfl⟩ := trodAll_nil r1
  obtain rfl : args = #[v0, v1] := by cases args; simp_all
  obtain ⟨rfl, rfl⟩ := trodVars_none hV
  obtain ⟨a0, rfl, rfl, rfl, w0⟩ := open_int Try.underlying5 (hval 0 5 v0 rfl rfl) h0
  obtain ⟨a1, rfl, rfl, rfl, w1⟩ := open_int Try.underlying5 (hval 1 5 v1 rfl rfl) h1
  clear hA0 hval0
  refine (natboxPunch_run a0 a1 W w0 w1).mono fun e W' ⟨he, bel⟩ => ?_
  subst he
  exact ⟨_, rfl, _, _, _, [], _, [], hW', trodAll_mk1 (shut_bool Try.underlying4 _), (trodAll_cons_mk (shut_int Try.underlying5 w0) (trodAll_cons_mk (shut_int Try.underlying5 w1) trodAll_mk0)), rfl, bel.frame _, fun h => by cases h⟩
theorem natboxPunch_over : Rows.natboxPunchRow.holds Try.pinned (OpenSpec.ofChange Rows.natboxPunchSpec) :=
  OpenClaim.holds_of_wide 5 Try.f5 rfl rfl rfl rfl rfl rfl rfl ⟨rfl, rfl, rfl, rfl, rfl⟩ rfl rfl rfl rfl rfl (by kernel_rfl) Try.func5 (by kernel_rfl)
    (of_decide_eq_true (by kernel_rfl)) (by unfold Func.isWrapper; first | (rw [if_pos (by decide +kernel)]; kernel_rfl) | (rw [if_neg (by decide +kernel)]; exact ⟨rfl, rfl⟩))
    (fun os started H enc _ => natboxPunch_lifted os started H enc)
theorem natboxPunch_holds : Rows.NatboxPunchSaid := natboxPunch_over
#print axioms natboxPunch_holds
end Go.Proofs.Ytelnfhbccbinlaa
