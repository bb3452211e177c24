/- The chapter's examples. -/
import Derived.Test.YtchhbhoikkdmeaaViLaw
namespace Go.Proofs.Ytchhbhoikkdmeaa
open Go.Sort Go.RowKit Go.BigFrame
set_option linter.unusedVariables false
set_option linter.unusedSimpArgs false

def exA : Rec := ⟨2, 0, 1, 1, 1⟩
def exB : Rec := ⟨2, 2, 1, 1, 1⟩
theorem exA_ok : exA.Ok := ⟨by decide, by decide, by decide⟩
theorem exB_ok : exB.Ok := ⟨by decide, by decide, by decide⟩
def exV1 : Vw := takeV newV exA
def exV2 : Vw := takeV exV1 exB
theorem ex_facts : turns newV zRec = false ∧ errR zRec = 1 ∧ turns newV exA = true ∧ errR exA = 0 ∧ turns exV1 exA = false ∧ turns exV1 exB = true ∧ errR exB = 0 ∧ ofV exV2 2 = exB ∧ knows exV2 2 = true ∧
    lastE exV2.E = [⟨2, -1, 0, 1⟩, ⟨2, 0, 2, 1⟩] ∧ liveV exV2 = [] ∧ (membersV exV2).length = 1 ∧ exV2.E.length = 2 ∧ exV1.E.length = 1 := by decide +kernel
set_option maxHeartbeats 1600000 in
set_option maxRecDepth 20000 in
theorem ex_any (w : World) : Calls Try.prog 9 #[] w fun e w' => e = .returned (.bool true) ∧ Below w.heap.size w w' := by
  obtain ⟨f1, f2, f3, f4, f5, f6, f7, f8, f9, f10, f11, f12, f13, f14⟩ := ex_facts
  have K0 := new_l (LS.start w w (Below.refl _ _))
  have FE := Lib.hid f10
  have FL := Lib.hid f11
  have FM := Lib.hid f12
  have FS := Lib.hid f13
  have F1 := Lib.hid f14
  have T1 := Lib.hid (And.intro f1 f2)
  have T2 := Lib.hid (And.intro f3 f4)
  have T3 := Lib.hid (And.intro f5 f4)
  have T4 := Lib.hid (And.intro f6 f7)
  have T5 := Lib.hid (And.intro f8 f9)
  clear f1 f2 f3 f4 f5 f6 f7 f8 f9 f10 f11 f12 f13 f14
  go_enter Try.func9, Try.ntmps9
  go_wp2_with fail
  refine K0.mono ?_; rintro e w1 ⟨g, rfl, h1⟩
  clear K0
  have B1 : LS w [(g, newV)] [bR w1.heap.size exA] (w1.alloc (.cells #[.int .i64 2, .int .i64 0, .int .u32 1, .int .u32 1, .int .u16 1] 37)) := h1.box exA
  have B2 : LS w [(g, newV)] [bR (w1.heap.size + 1) exB, bR w1.heap.size exA] ((w1.alloc (.cells #[.int .i64 2, .int .i64 0, .int .u32 1, .int .u32 1, .int .u16 1] 37)).alloc (.cells #[.int .i64 2, .int .i64 2, .int .u32 1, .int .u32 1, .int .u16 1] 37)) := by
    have := B1.box exB
    simp only [World.size_alloc] at this
    exact this
  have HB := Lib.hid B2
  have hd : w1.heap.size + 1 ≠ w1.heap.size := by omega
  clear h1 B1 B2
  go_upto_region 7 with fail
  generalize ((w1.alloc (.cells #[.int .i64 2, .int .i64 0, .int .u32 1, .int .u32 1, .int .u16 1] 37)).alloc (.cells #[.int .i64 2, .int .i64 2, .int .u32 1, .int .u32 1, .int .u16 1] 37)) = w2 at *
  generalize w1.heap.size + 1 = bb at *
  generalize w1.heap.size = ba at *
  have K := take_l zRec zRec_ok [] [] HB.out (by decide)
  rw [T1.out.1, T1.out.2, take_no T1.out.1] at K
  clear HB
  go_wp2_with fail
  refine K.mono ?_; rintro e w3 ⟨rfl, h⟩
  have H := Lib.hid h
  have a0 := (h.cells (b := ba) (r := exA) (by simp)).1 0 _ rfl
  have a1 := (h.cells (b := ba) (r := exA) (by simp)).1 1 _ rfl
  have a2 := (h.cells (b := ba) (r := exA) (by simp)).1 2 _ rfl
  have a3 := (h.cells (b := ba) (r := exA) (by simp)).1 3 _ rfl
  have a4 := (h.cells (b := ba) (r := exA) (by simp)).1 4 _ rfl
  have K1 := take_l exA exA_ok [] [] h (by decide)
  rw [T2.out.1, T2.out.2] at K1
  clear K h
  go_wp2_with fail
  refine K1.mono ?_; rintro e w4 ⟨rfl, h⟩
  have h : LS w [(g, exV1)] [bR bb exB, bR ba exA] w4 := h
  replace H := Lib.hid h
  clear a0 a1 a2 a3 a4 K1
  have a0 := (h.cells (b := ba) (r := exA) (by simp)).1 0 _ rfl
  have a1 := (h.cells (b := ba) (r := exA) (by simp)).1 1 _ rfl
  have a2 := (h.cells (b := ba) (r := exA) (by simp)).1 2 _ rfl
  have a3 := (h.cells (b := ba) (r := exA) (by simp)).1 3 _ rfl
  have a4 := (h.cells (b := ba) (r := exA) (by simp)).1 4 _ rfl
  have K := take_l exA exA_ok [] [] h (by rw [F1.out]; decide)
  rw [T3.out.1, T3.out.2, take_no T3.out.1] at K
  clear h
  go_wp2_with fail
  refine K.mono ?_; rintro e w5 ⟨rfl, h⟩
  have h : LS w [(g, exV1)] [bR bb exB, bR ba exA] w5 := h
  clear a0 a1 a2 a3 a4 K H
  have a0 := (h.cells (b := bb) (r := exB) (by simp)).1 0 _ rfl
  have a1 := (h.cells (b := bb) (r := exB) (by simp)).1 1 _ rfl
  have a2 := (h.cells (b := bb) (r := exB) (by simp)).1 2 _ rfl
  have a3 := (h.cells (b := bb) (r := exB) (by simp)).1 3 _ rfl
  have a4 := (h.cells (b := bb) (r := exB) (by simp)).1 4 _ rfl
  have K := take_l exB exB_ok [] [] h (by rw [F1.out]; decide)
  rw [T4.out.1, T4.out.2] at K
  clear h
  go_wp2_with fail
  refine K.mono ?_; rintro e w6 ⟨rfl, h⟩
  have h : LS w [(g, exV2)] [bR bb exB, bR ba exA] w6 := h
  clear a0 a1 a2 a3 a4 K
  have K := of_l 2 [] [] h
  rw [T5.out.1, T5.out.2] at K
  clear h
  go_wp2_with fail
  refine K.mono ?_; rintro e w7 ⟨rfl, h⟩
  have h : LS w [(g, exV2)] [bR bb exB, bR ba exA] w7 := h
  have h : LS w [(g, exV2)] [bR w7.heap.size exB, bR bb exB, bR ba exA] (w7.alloc (.cells #[.int .i64 2, .int .i64 2, .int .u32 1, .int .u32 1, .int .u16 1] 37)) := h.box exB
  have H := Lib.hid h
  clear K h
  simp only [exB]
  go_upto_region 12 with fail
  generalize (w7.alloc (.cells #[.int .i64 2, .int .i64 2, .int .u32 1, .int .u32 1, .int .u16 1] 37)) = w8 at *
  generalize w7.heap.size = bc at *
  have K := events_l [] [] H.out (by rw [FS.out]; decide)
  rw [FE.out] at K
  clear H
  go_wp2_with fail
  refine K.mono ?_; rintro e w9 ⟨u, rfl, h⟩
  obtain ⟨be, off, hbo, hbl, hcc⟩ := h.rdE (u := u) (L := [⟨2, -1, 0, 1⟩, ⟨2, 0, 2, 1⟩]) (by simp) (by simp)
  have e1 := hcc 0 _ rfl 1 _ rfl
  have e2 := hcc 1 _ rfl 2 _ rfl
  simp only [Nat.zero_mul, Nat.one_mul, Nat.add_zero] at e1 e2 hbo
  obtain ⟨ua, un, uc⟩ := u
  simp only at hbo
  subst hbo
  have a0 := (h.cells (b := bb) (r := exB) (by simp)).1 0 _ rfl
  have a1 := (h.cells (b := bb) (r := exB) (by simp)).1 1 _ rfl
  have a2 := (h.cells (b := bb) (r := exB) (by simp)).1 2 _ rfl
  have a3 := (h.cells (b := bb) (r := exB) (by simp)).1 3 _ rfl
  have a4 := (h.cells (b := bb) (r := exB) (by simp)).1 4 _ rfl
  have c0 := (h.cells (b := bc) (r := exB) (by simp)).1 0 _ rfl
  have c1 := (h.cells (b := bc) (r := exB) (by simp)).1 1 _ rfl
  have c2 := (h.cells (b := bc) (r := exB) (by simp)).1 2 _ rfl
  have c3 := (h.cells (b := bc) (r := exB) (by simp)).1 3 _ rfl
  have c4 := (h.cells (b := bc) (r := exB) (by simp)).1 4 _ rfl
  simp only [exB] at a0 a1 a2 a3 a4 c0 c1 c2 c3 c4
  have KL := live_l [] [] h
  rw [FL.out] at KL
  simp only [List.length_cons, List.length_nil] at KL
  clear K hcc h
  go_wp2_with fail
  refine KL.mono ?_; rintro e w10 ⟨u2, rfl, h⟩
  have h : LS w [(g, exV2)] _ w10 := h
  have KM := members_l [] [] h
  rw [FM.out] at KM
  clear KL h
  go_wp2_with fail
  refine KM.mono ?_; rintro e w11 ⟨u3, rfl, h⟩
  have h : LS w [(g, exV2)] _ w11 := h
  have KS := seen_l [] [] h
  rw [FS.out] at KS
  have HB := Lib.hid h.below
  clear KM h
  go_wp2_with fail
  refine KS.mono ?_; rintro e w12 ⟨rfl, rfl⟩
  clear KS
  go_wp2
  go_ret
  exact ⟨rfl, HB.out⟩
end Go.Proofs.Ytchhbhoikkdmeaa
