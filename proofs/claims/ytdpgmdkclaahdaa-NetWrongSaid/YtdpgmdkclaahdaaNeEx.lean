/- The chapter's examples. -/
import Derived.Test.YtdpgmdkclaahdaaNeLaw
namespace Go.Proofs.Ytdpgmdkclaahdaa.Ne
open Go.Sort Go.RowKit Go.BigFrame
set_option linter.unusedVariables false
set_option linter.unusedSimpArgs false

def exA : Nt := ⟨[⟨5, 7, 0⟩, ⟨10, 7, 1⟩], [⟨0, 2, 9, 10, 2, []⟩], 4, []⟩
def ex1 : Nt := (sendP exA 0 2 5 7 ⟨#[120]⟩).2
def ex2 : Nt := (delP ex1 1 0).2
def ex3 : Nt := (sendP ex2 1 1 9 20000 ⟨#[121]⟩).2
def ex4 : Nt := (delP ex3 2 0).2
def ex5 : Nt := (injP ex4 2 6 6 9 20000 ⟨#[122]⟩).2
def ex6 : Nt := (delP ex5 3 0).2
def ex7 : Nt := (delP ex6 3 0).2
def ex8 : Nt := (rebP ex7 1 8).2
theorem exN : newN [⟨5, 7, 0⟩, ⟨10, 7, 1⟩] [⟨0, 2, 9, 10, 2⟩] 4 = some exA := by kernel_rfl
theorem exN0 : newN [] [] 1 = none := by kernel_rfl
theorem exOk : OkH exA := by
  intro h hh
  simp only [exA, List.mem_cons, List.not_mem_nil, or_false] at hh
  rcases hh with rfl | rfl <;> decide
theorem exE1 : (sendP exA 0 2 5 7 ⟨#[120]⟩).1 = 0 := by kernel_rfl
theorem exV2 : delV ex1 1 0 = .tuple #[.agg #[.int .i64 1, .int .u32 9, .int .u16 20000, .string ⟨#[120]⟩], .int .i64 0] := by kernel_rfl
theorem exE3 : (sendP ex2 1 1 9 20000 ⟨#[121]⟩).1 = 0 := by kernel_rfl
theorem exV4 : delV ex3 2 0 = .tuple #[.agg #[.int .i64 2, .int .u32 5, .int .u16 7, .string ⟨#[121]⟩], .int .i64 0] := by kernel_rfl
theorem exE5 : (injP ex4 2 6 6 9 20000 ⟨#[122]⟩).1 = 0 := by kernel_rfl
theorem exV6 : delV ex5 3 0 = .tuple #[.agg #[.int .i64 0, .int .u32 6, .int .u16 6, .string ⟨#[122]⟩], .int .i64 0] := by kernel_rfl
theorem exV7 : delV ex6 3 0 = .tuple #[.agg #[.int .i64 0, .int .u32 0, .int .u16 0, .string ⟨#[]⟩], .int .i64 5] := by kernel_rfl
theorem exR1 : rebP ex7 2 8 = (5, ex7) := by kernel_rfl
theorem exR2 : rebP ex7 1 5 = (1, ex7) := by kernel_rfl
theorem exR3 : (rebP ex7 1 8).1 = 0 := by kernel_rfl
theorem exL8 : ex8.bs.length = 1 := by kernel_rfl
set_option maxHeartbeats 6400000 in
set_option maxRecDepth 100000 in
theorem ex_any (w : World) : Calls Try.prog 9 #[] w fun e w' => e = .returned (.bool true) ∧ Below w.heap.size w w' := by
  have E0 := new_none exN0 none 0 none 0 (by decide) (by decide) (by decide) (by simp) w rd_nil rd_nil
  go_enter Try.func9, Try.ntmps9
  go_wp2_with fail
  refine E0.mono ?_; rintro e x0 ⟨rfl, b0⟩
  clear E0
  have hA : Hid (Cs x0.heap.size [.int .u32 5, .int .u16 7] ((((x0.alloc (.cells #[.int .u32 5, .int .u16 7] 28)).alloc (.cells #[.int .u32 10, .int .u16 7] 28)).alloc (.cells #[.int .u32 5, .int .u16 7, .int .i64 0, .int .u32 10, .int .u16 7, .int .i64 1] 34)).alloc (.cells #[.int .i64 0, .int .i64 2, .int .u32 9, .int .u64 10, .int .i64 2] 38))) := (((Cs.new x0 [.int .u32 5, .int .u16 7] 28).alloc _).alloc _).alloc _
  have hR : Hid (RdE cho 3 ((((x0.alloc (.cells #[.int .u32 5, .int .u16 7] 28)).alloc (.cells #[.int .u32 10, .int .u16 7] 28)).alloc (.cells #[.int .u32 5, .int .u16 7, .int .i64 0, .int .u32 10, .int .u16 7, .int .i64 1] 34)).alloc (.cells #[.int .i64 0, .int .i64 2, .int .u32 9, .int .u64 10, .int .i64 2] 38)) (some ⟨x0.heap.size + 1 + 1, 0, none⟩) [⟨5, 7, 0⟩, ⟨10, 7, 1⟩]) := by
    have e : ((x0.alloc (.cells #[.int .u32 5, .int .u16 7] 28)).alloc (.cells #[.int .u32 10, .int .u16 7] 28)).heap.size = x0.heap.size + 1 + 1 := by simp
    rw [← e]
    exact rd_cs cho_enc ((Cs.new ((x0.alloc (.cells #[.int .u32 5, .int .u16 7] 28)).alloc (.cells #[.int .u32 10, .int .u16 7] 28)) [.int .u32 5, .int .u16 7, .int .i64 0, .int .u32 10, .int .u16 7, .int .i64 1] 34).alloc _)
  have hS : Hid (RdE csp 5 ((((x0.alloc (.cells #[.int .u32 5, .int .u16 7] 28)).alloc (.cells #[.int .u32 10, .int .u16 7] 28)).alloc (.cells #[.int .u32 5, .int .u16 7, .int .i64 0, .int .u32 10, .int .u16 7, .int .i64 1] 34)).alloc (.cells #[.int .i64 0, .int .i64 2, .int .u32 9, .int .u64 10, .int .i64 2] 38)) (some ⟨x0.heap.size + 1 + 1 + 1, 0, none⟩) [⟨0, 2, 9, 10, 2⟩]) := by
    have e : (((x0.alloc (.cells #[.int .u32 5, .int .u16 7] 28)).alloc (.cells #[.int .u32 10, .int .u16 7] 28)).alloc (.cells #[.int .u32 5, .int .u16 7, .int .i64 0, .int .u32 10, .int .u16 7, .int .i64 1] 34)).heap.size = x0.heap.size + 1 + 1 + 1 := by simp
    rw [← e]
    exact rd_cs csp_enc (Cs.new (((x0.alloc (.cells #[.int .u32 5, .int .u16 7] 28)).alloc (.cells #[.int .u32 10, .int .u16 7] 28)).alloc (.cells #[.int .u32 5, .int .u16 7, .int .i64 0, .int .u32 10, .int .u16 7, .int .i64 1] 34)) [.int .i64 0, .int .i64 2, .int .u32 9, .int .u64 10, .int .i64 2] 38)
  have hB : Hid (Below w.heap.size w ((((x0.alloc (.cells #[.int .u32 5, .int .u16 7] 28)).alloc (.cells #[.int .u32 10, .int .u16 7] 28)).alloc (.cells #[.int .u32 5, .int .u16 7, .int .i64 0, .int .u32 10, .int .u16 7, .int .i64 1] 34)).alloc (.cells #[.int .i64 0, .int .i64 2, .int .u32 9, .int .u64 10, .int .i64 2] 38))) := ((((b0.alloc b0.size _).alloc (by have := b0.size; simp; omega) _).alloc (by have := b0.size; simp; omega) _).alloc (by have := b0.size; simp; omega) _)
  clear b0
  go_wp2_with fail
  generalize ((((x0.alloc (.cells #[.int .u32 5, .int .u16 7] 28)).alloc (.cells #[.int .u32 10, .int .u16 7] 28)).alloc (.cells #[.int .u32 5, .int .u16 7, .int .i64 0, .int .u32 10, .int .u16 7, .int .i64 1] 34)).alloc (.cells #[.int .i64 0, .int .i64 2, .int .u32 9, .int .u64 10, .int .i64 2] 38)) = wN at *
  generalize x0.heap.size = ga at *
  refine (new_l exN (some ⟨ga + 1 + 1, 0, none⟩) 2 (some ⟨ga + 1 + 1 + 1, 0, none⟩) 1 (by decide) (by decide) (by decide) (by decide) wN hR.out hS.out).mono ?_; rintro e w0 ⟨m, rfl, s⟩
  clear hR hS
  have SA := Lib.hid s
  clear s
  have a0 := (hA.out.keep SA.out.below).cell 0 _ rfl; have a1 := (hA.out.keep SA.out.below).cell 1 _ rfl; have al := (hA.out.keep SA.out.below).lt
  go_wp2_with fail
  refine (send_l (n := exA) 0 2 5 7 ⟨#[120]⟩ exE1 (show _ = ex1 from rfl) (by decide) (by decide) exOk SA.out).mono ?_; rintro e w1 ⟨rfl, s⟩
  clear SA
  clear a0 a1 al
  have SA := Lib.hid s
  clear s
  go_wp2_with fail
  refine (del_l (n := ex1) 1 0 exV2 (show _ = ex2 from rfl) (by decide) (by decide) SA.out).mono ?_; rintro e w2 ⟨rfl, s⟩
  clear SA
  have SA := Lib.hid s
  clear s
  have s : NN wN m (hC w2.heap.size [.int .i64 1, .int .u32 9, .int .u16 20000, .string ⟨#[120]⟩] :: ([])) _ (w2.alloc (.cells #[.int .i64 1, .int .u32 9, .int .u16 20000, .string ⟨#[120]⟩] 42)) := SA.out.new [.int .i64 1, .int .u32 9, .int .u16 20000, .string ⟨#[120]⟩] 42
  clear SA
  go_upto_region 9 with fail
  generalize (w2.alloc (.cells #[.int .i64 1, .int .u32 9, .int .u16 20000, .string ⟨#[120]⟩] 42)) = v2 at *
  generalize w2.heap.size = g8 at *
  have SA := Lib.hid s
  clear s
  have c0 := (SA.out.cs (b := g8) (vs := [.int .i64 1, .int .u32 9, .int .u16 20000, .string ⟨#[120]⟩]) (.head _)).cell 0 _ rfl; have c1 := (SA.out.cs (b := g8) (vs := [.int .i64 1, .int .u32 9, .int .u16 20000, .string ⟨#[120]⟩]) (.head _)).cell 1 _ rfl; have c2 := (SA.out.cs (b := g8) (vs := [.int .i64 1, .int .u32 9, .int .u16 20000, .string ⟨#[120]⟩]) (.head _)).cell 2 _ rfl; have c3 := (SA.out.cs (b := g8) (vs := [.int .i64 1, .int .u32 9, .int .u16 20000, .string ⟨#[120]⟩]) (.head _)).cell 3 _ rfl; have cl := (SA.out.cs (b := g8) (vs := [.int .i64 1, .int .u32 9, .int .u16 20000, .string ⟨#[120]⟩]) (.head _)).lt
  go_wp2_with fail
  refine (send_l (n := ex2) 1 1 9 20000 ⟨#[121]⟩ exE3 (show _ = ex3 from rfl) (by decide) (by decide) ((exOk.send _ _ _ _ _).del _ _) SA.out).mono ?_; rintro e w3 ⟨rfl, s⟩
  clear SA
  clear c0 c1 c2 c3 cl
  have SA := Lib.hid s
  clear s
  go_wp2_with fail
  refine (del_l (n := ex3) 2 0 exV4 (show _ = ex4 from rfl) (by decide) (by decide) SA.out).mono ?_; rintro e w4 ⟨rfl, s⟩
  clear SA
  have SA := Lib.hid s
  clear s
  have s : NN wN m (hC w4.heap.size [.int .i64 2, .int .u32 5, .int .u16 7, .string ⟨#[121]⟩] :: (hC g8 [.int .i64 1, .int .u32 9, .int .u16 20000, .string ⟨#[120]⟩] :: [])) _ (w4.alloc (.cells #[.int .i64 2, .int .u32 5, .int .u16 7, .string ⟨#[121]⟩] 42)) := SA.out.new [.int .i64 2, .int .u32 5, .int .u16 7, .string ⟨#[121]⟩] 42
  clear SA
  go_upto_region 11 with fail
  generalize (w4.alloc (.cells #[.int .i64 2, .int .u32 5, .int .u16 7, .string ⟨#[121]⟩] 42)) = v4 at *
  generalize w4.heap.size = g11 at *
  have SA := Lib.hid s
  clear s
  have c0 := (SA.out.cs (b := g8) (vs := [.int .i64 1, .int .u32 9, .int .u16 20000, .string ⟨#[120]⟩]) (.tail _ (.head _))).cell 0 _ rfl; have c1 := (SA.out.cs (b := g8) (vs := [.int .i64 1, .int .u32 9, .int .u16 20000, .string ⟨#[120]⟩]) (.tail _ (.head _))).cell 1 _ rfl; have c2 := (SA.out.cs (b := g8) (vs := [.int .i64 1, .int .u32 9, .int .u16 20000, .string ⟨#[120]⟩]) (.tail _ (.head _))).cell 2 _ rfl; have c3 := (SA.out.cs (b := g8) (vs := [.int .i64 1, .int .u32 9, .int .u16 20000, .string ⟨#[120]⟩]) (.tail _ (.head _))).cell 3 _ rfl; have cl := (SA.out.cs (b := g8) (vs := [.int .i64 1, .int .u32 9, .int .u16 20000, .string ⟨#[120]⟩]) (.tail _ (.head _))).lt
  go_wp2_with fail
  refine (inj_l (n := ex4) 2 6 6 9 20000 ⟨#[122]⟩ exE5 (show _ = ex5 from rfl) (by decide) (by decide) SA.out).mono ?_; rintro e w5 ⟨rfl, s⟩
  clear SA
  clear c0 c1 c2 c3 cl
  have SA := Lib.hid s
  clear s
  go_wp2_with fail
  refine (del_l (n := ex5) 3 0 exV6 (show _ = ex6 from rfl) (by decide) (by decide) SA.out).mono ?_; rintro e w6 ⟨rfl, s⟩
  clear SA
  have SA := Lib.hid s
  clear s
  have s : NN wN m (hC w6.heap.size [.int .i64 0, .int .u32 6, .int .u16 6, .string ⟨#[122]⟩] :: (hC g11 [.int .i64 2, .int .u32 5, .int .u16 7, .string ⟨#[121]⟩] :: hC g8 [.int .i64 1, .int .u32 9, .int .u16 20000, .string ⟨#[120]⟩] :: [])) _ (w6.alloc (.cells #[.int .i64 0, .int .u32 6, .int .u16 6, .string ⟨#[122]⟩] 42)) := SA.out.new [.int .i64 0, .int .u32 6, .int .u16 6, .string ⟨#[122]⟩] 42
  clear SA
  go_upto_region 13 with fail
  generalize (w6.alloc (.cells #[.int .i64 0, .int .u32 6, .int .u16 6, .string ⟨#[122]⟩] 42)) = v6 at *
  generalize w6.heap.size = g14 at *
  have SA := Lib.hid s
  clear s
  go_wp2_with fail
  refine (del_l (n := ex6) 3 0 exV7 (show _ = ex7 from rfl) (by decide) (by decide) SA.out).mono ?_; rintro e w7 ⟨rfl, s⟩
  clear SA
  have SA := Lib.hid s
  clear s
  have c0 := (SA.out.cs (b := g14) (vs := [.int .i64 0, .int .u32 6, .int .u16 6, .string ⟨#[122]⟩]) (.head _)).cell 0 _ rfl; have c1 := (SA.out.cs (b := g14) (vs := [.int .i64 0, .int .u32 6, .int .u16 6, .string ⟨#[122]⟩]) (.head _)).cell 1 _ rfl; have c2 := (SA.out.cs (b := g14) (vs := [.int .i64 0, .int .u32 6, .int .u16 6, .string ⟨#[122]⟩]) (.head _)).cell 2 _ rfl; have c3 := (SA.out.cs (b := g14) (vs := [.int .i64 0, .int .u32 6, .int .u16 6, .string ⟨#[122]⟩]) (.head _)).cell 3 _ rfl; have cl := (SA.out.cs (b := g14) (vs := [.int .i64 0, .int .u32 6, .int .u16 6, .string ⟨#[122]⟩]) (.head _)).lt
  have d0 := (SA.out.cs (b := g11) (vs := [.int .i64 2, .int .u32 5, .int .u16 7, .string ⟨#[121]⟩]) (.tail _ (.head _))).cell 0 _ rfl; have d1 := (SA.out.cs (b := g11) (vs := [.int .i64 2, .int .u32 5, .int .u16 7, .string ⟨#[121]⟩]) (.tail _ (.head _))).cell 1 _ rfl; have d2 := (SA.out.cs (b := g11) (vs := [.int .i64 2, .int .u32 5, .int .u16 7, .string ⟨#[121]⟩]) (.tail _ (.head _))).cell 2 _ rfl; have d3 := (SA.out.cs (b := g11) (vs := [.int .i64 2, .int .u32 5, .int .u16 7, .string ⟨#[121]⟩]) (.tail _ (.head _))).cell 3 _ rfl; have dl := (SA.out.cs (b := g11) (vs := [.int .i64 2, .int .u32 5, .int .u16 7, .string ⟨#[121]⟩]) (.tail _ (.head _))).lt
  have f0 := (SA.out.cs (b := g8) (vs := [.int .i64 1, .int .u32 9, .int .u16 20000, .string ⟨#[120]⟩]) (.tail _ (.tail _ (.head _)))).cell 0 _ rfl; have f1 := (SA.out.cs (b := g8) (vs := [.int .i64 1, .int .u32 9, .int .u16 20000, .string ⟨#[120]⟩]) (.tail _ (.tail _ (.head _)))).cell 1 _ rfl; have f2 := (SA.out.cs (b := g8) (vs := [.int .i64 1, .int .u32 9, .int .u16 20000, .string ⟨#[120]⟩]) (.tail _ (.tail _ (.head _)))).cell 2 _ rfl; have f3 := (SA.out.cs (b := g8) (vs := [.int .i64 1, .int .u32 9, .int .u16 20000, .string ⟨#[120]⟩]) (.tail _ (.tail _ (.head _)))).cell 3 _ rfl; have fl := (SA.out.cs (b := g8) (vs := [.int .i64 1, .int .u32 9, .int .u16 20000, .string ⟨#[120]⟩]) (.tail _ (.tail _ (.head _)))).lt
  have s : NN wN m (hC w7.heap.size [.int .i64 0, .int .u32 0, .int .u16 0, .string ⟨#[]⟩] :: (hC g14 [.int .i64 0, .int .u32 6, .int .u16 6, .string ⟨#[122]⟩] :: hC g11 [.int .i64 2, .int .u32 5, .int .u16 7, .string ⟨#[121]⟩] :: hC g8 [.int .i64 1, .int .u32 9, .int .u16 20000, .string ⟨#[120]⟩] :: [])) ex7 (w7.alloc (.cells #[.int .i64 0, .int .u32 0, .int .u16 0, .string ⟨#[]⟩] 42)) := SA.out.new [.int .i64 0, .int .u32 0, .int .u16 0, .string ⟨#[]⟩] 42
  clear SA
  have SA := Lib.hid s
  clear s
  go_wp2_with fail
  refine (reb_l (n := ex7) 2 8 (congrArg Prod.fst exR1) (congrArg Prod.snd exR1) SA.out).mono ?_; rintro e w8 ⟨rfl, s⟩
  clear SA c0 c1 c2 c3 cl d0 d1 d2 d3 dl f0 f1 f2 f3 fl
  have SA := Lib.hid s
  clear s
  go_wp2_with fail
  refine (reb_l (n := ex7) 1 5 (congrArg Prod.fst exR2) (congrArg Prod.snd exR2) SA.out).mono ?_; rintro e w9 ⟨rfl, s⟩
  clear SA
  have SA := Lib.hid s
  clear s
  go_wp2_with fail
  refine (reb_l (n := ex7) 1 8 exR3 (show _ = ex8 from rfl) SA.out).mono ?_; rintro e w10 ⟨rfl, s⟩
  clear SA
  have SA := Lib.hid s
  clear s
  go_wp2_with fail
  refine (box_none (n := ex8) 2 (.inr (by rw [exL8]; decide)) SA.out).mono ?_; rintro e w11 ⟨rfl, rfl⟩
  go_wp2_with fail
  refine (bag_n (n := ex8) SA.out).mono ?_; rintro e w12 ⟨rfl, rfl⟩
  go_wp2
  go_ret
  exact ⟨rfl, hB.out.trans (SA.out.below.mono hB.out.size)⟩
end Go.Proofs.Ytdpgmdkclaahdaa.Ne
