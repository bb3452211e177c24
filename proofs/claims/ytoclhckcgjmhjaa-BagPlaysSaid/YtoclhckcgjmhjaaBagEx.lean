/- The chapter's examples. -/
import Derived.Test.YtoclhckcgjmhjaaBagLaw
namespace Go.Proofs.Ytoclhckcgjmhjaa
open Go.Sort Go.RowKit Go.BigFrame
set_option linter.unusedVariables false
set_option linter.unusedSimpArgs false

theorem L1.keepA {B g room : Nat} {l : List (Nat × List Value)} {L : List Pi} {w : World} (h : L1 B l g room L w) (o : Obj) : L1 B l g room L (w.alloc o) := h.keep ((Below.refl _ w).alloc (Nat.le_refl _) o)
theorem Cl.nil (w : World) : Cl [] w := fun x hx => by simp at hx
def exX : Pi := ⟨1, 1, 1, 1, ⟨#[120]⟩, 5⟩
def exY : Pi := ⟨1, 1, 1, 1, ⟨#[120]⟩, 8⟩
set_option maxHeartbeats 6400000 in
set_option maxRecDepth 100000 in
theorem examples_yes (w : World) : Calls Try.prog 20 #[] w fun e w' => e = .returned (.bool true) ∧ Below w.heap.size w w' := by
  have N0 := new_bad 0 w (.inl (by omega))
  have N1 := newL (B := w.heap.size) (l := []) (room := 2) (w := w) (Nat.le_refl _) (Cl.nil w) (by omega) (by omega)
  go_enter Try.func20, Try.ntmps20
  go_wp2_with fail
  refine N0.mono ?_; rintro e w1 ⟨rfl, rfl⟩
  clear N0
  go_wp2_with fail
  refine N1.mono ?_; rintro e w2 ⟨g, rfl, h2, b2⟩
  have hB := Lib.hid (b2.alloc b2.size (.cells #[.int .u32 1, .int .u16 1] 38))
  have h3 := h2.alloc [.int .u32 1, .int .u16 1] 38
  have T := h3.take 0 0 (by omega) (x1 := 0) (x2 := 0) (x3 := 0) (x4 := 0) (x5 := ⟨#[]⟩) (x6 := 0) (e := 5) (L' := []) (by kernel_rfl) (by kernel_rfl) (by kernel_rfl)
  clear N1 b2 h2 h3
  go_wp2_with fail
  refine T.mono ?_; rintro e w3 ⟨rfl, h3, b3⟩
  replace hB := Lib.hid ((hB.out.trans b3).alloc (hB.out.trans b3).size (.cells #[.int .u32 0, .int .u16 0, .int .u32 0, .int .u16 0, .string ⟨#[]⟩, .int .u64 0] 62))
  have h4 := h3.keepA (.cells #[.int .u32 0, .int .u16 0, .int .u32 0, .int .u16 0, .string ⟨#[]⟩, .int .u64 0] 62)
  have a0 := h3.hd.cell 0 _ rfl
  have a1 := h3.hd.cell 1 _ rfl
  have al := h3.hd.lt
  have T := h4.put 1 1 1 1 ⟨#[120]⟩ 5 (by omega) (by omega) (by decide) (e := 0) (L' := [exX]) (by kernel_rfl) (by kernel_rfl)
  clear h3 b3 h4
  go_wp2_with fail
  refine T.mono ?_; rintro e w4 ⟨rfl, h4, b4⟩
  replace hB := Lib.hid (hB.out.trans b4)
  clear a0 a1 al
  have a0 := h4.hd.cell 0 _ rfl
  have a1 := h4.hd.cell 1 _ rfl
  have al := h4.hd.lt
  have T := h4.put 1 1 1 1 ⟨#[]⟩ 0 (by omega) (by omega) (by decide) (e := 3) (L' := [exX]) (by kernel_rfl) (by kernel_rfl)
  clear b4 h4
  go_wp2_with fail
  refine T.mono ?_; rintro e w5 ⟨rfl, h5, b5⟩
  replace hB := Lib.hid (hB.out.trans b5)
  clear a0 a1 al
  have T := h5.take 4 0 (by omega) (x1 := 0) (x2 := 0) (x3 := 0) (x4 := 0) (x5 := ⟨#[]⟩) (x6 := 0) (e := 5) (L' := [exX]) (by kernel_rfl) (by kernel_rfl) (by kernel_rfl)
  clear b5 h5
  go_wp2_with fail
  refine T.mono ?_; rintro e w6 ⟨rfl, h6, b6⟩
  replace hB := Lib.hid ((hB.out.trans b6).alloc (hB.out.trans b6).size (.cells #[.int .u32 0, .int .u16 0, .int .u32 0, .int .u16 0, .string ⟨#[]⟩, .int .u64 0] 62))
  have h7 := h6.keepA (.cells #[.int .u32 0, .int .u16 0, .int .u32 0, .int .u16 0, .string ⟨#[]⟩, .int .u64 0] 62)
  have T := h7.twice 3 (by omega) (e := 0) (L' := [exX, exX]) (by kernel_rfl) (by kernel_rfl)
  clear b6 h6 h7
  go_wp2_with fail
  refine T.mono ?_; rintro e w7 ⟨rfl, h7, b7⟩
  replace hB := Lib.hid (hB.out.trans b7)
  have T := h7.twice 3 (by omega) (e := 4) (L' := [exX, exX]) (by kernel_rfl) (by kernel_rfl)
  clear b7 h7
  go_wp2_with fail
  refine T.mono ?_; rintro e w8 ⟨rfl, h8, b8⟩
  replace hB := Lib.hid (hB.out.trans b8)
  have T := h8.delay 1 3 (by omega) (by omega) (e := 0) (L' := [exX, exY]) (by kernel_rfl) (by kernel_rfl)
  clear b8 h8
  go_wp2_with fail
  refine T.mono ?_; rintro e w9 ⟨rfl, h9, b9⟩
  replace hB := Lib.hid (hB.out.trans b9)
  have T := h9.take 5 7 (by omega) (x1 := 1) (x2 := 1) (x3 := 1) (x4 := 1) (x5 := ⟨#[120]⟩) (x6 := 5) (e := 0) (L' := [exY]) (by kernel_rfl) (by kernel_rfl) (by kernel_rfl)
  clear b9 h9
  go_wp2_with fail
  refine T.mono ?_; rintro e w10 ⟨rfl, h10, b10⟩
  replace hB := Lib.hid ((hB.out.trans b10).alloc (hB.out.trans b10).size (.cells #[.int .u32 1, .int .u16 1, .int .u32 1, .int .u16 1, .string ⟨#[120]⟩, .int .u64 5] 62))
  have h11 := h10.keepA (.cells #[.int .u32 1, .int .u16 1, .int .u32 1, .int .u16 1, .string ⟨#[120]⟩, .int .u64 5] 62)
  have T1 := h11.lenx (n := 1) (by kernel_rfl)
  have T2 := h11.ready 5 (n := 0) (by kernel_rfl)
  have H11 := Lib.hid h11
  clear b10 h10 h11
  go_wp2_with fail
  refine T1.mono ?_; rintro e w11 ⟨rfl, rfl⟩
  clear T1
  go_wp2_with fail
  refine T2.mono ?_; rintro e w12 ⟨rfl, b12⟩
  have T3 := (H11.out.keep b12).items
  replace hB := Lib.hid (hB.out.trans (b12.mono hB.out.size))
  clear T2 b12
  go_wp2_with fail
  refine T3.mono ?_; rintro e w13 ⟨v, rfl, hn, hr, b13, hc⟩
  have hn1 : v.n = 1 := hn
  replace hB := Lib.hid (hB.out.trans (b13.mono hB.out.size))
  clear T3 b13 hn hr hc
  go_wp2_with fail
  go_ret
  exact ⟨rfl, hB.out⟩
end Go.Proofs.Ytoclhckcgjmhjaa
