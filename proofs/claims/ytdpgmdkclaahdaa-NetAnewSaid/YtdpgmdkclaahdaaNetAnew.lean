/- The statement NetAnew: a box begins anew at an IP of its own alone: not at another box's, nor a host's, nor none: whichever of the two boxes, whatever the IP. No conditions. -/
import Derived.Test.YtdpgmdkclaahdaaNeEx
import Derived.ChangeOld
import Derived.ChangeMaps5
import Derived.ShutString
import Derived.OpenShut
import Derived.SizedLaws
namespace Go.Proofs.Ytdpgmdkclaahdaa.Ne
open Go.Sort Go.RowKit Go.BigFrame Go.ChangeShapes Go.WideShapes Go.ChangeAt
open Go.ChangeMaps (open_string shut_string)
set_option linter.unusedVariables false
set_option linter.unusedSimpArgs false

def anA : Nt := ⟨[⟨1, 7, 0⟩, ⟨10, 7, 1⟩, ⟨11, 7, 2⟩], [⟨0, 0, 5, 9, 4, []⟩, ⟨0, 0, 6, 9, 4, []⟩], 9, []⟩
theorem anN : newN [⟨1, 7, 0⟩, ⟨10, 7, 1⟩, ⟨11, 7, 2⟩] [⟨0, 0, 5, 9, 4⟩, ⟨0, 0, 6, 9, 4⟩] 9 = some anA := by kernel_rfl
theorem an1 {i : Int} (h : i = 2 ∨ i = 3 ∨ i = 4 ∨ i = 7 ∨ i = 8 ∨ i = 9 ∨ i = 12 ∨ i = 13) : rebP anA 1 i = (0, (⟨[⟨1, 7, 0⟩, ⟨10, 7, 1⟩, ⟨11, 7, 2⟩], [⟨0, 0, i, 9, 4, []⟩, ⟨0, 0, 6, 9, 4, []⟩], 9, []⟩ : Nt)) := by
  rcases h with rfl | rfl | rfl | rfl | rfl | rfl | rfl | rfl <;> kernel_rfl
theorem an2 {i : Int} (h : i = 2 ∨ i = 3 ∨ i = 4 ∨ i = 7 ∨ i = 8 ∨ i = 9 ∨ i = 12 ∨ i = 13) : rebP anA 2 i = (0, (⟨[⟨1, 7, 0⟩, ⟨10, 7, 1⟩, ⟨11, 7, 2⟩], [⟨0, 0, 5, 9, 4, []⟩, ⟨0, 0, i, 9, 4, []⟩], 9, []⟩ : Nt)) := by
  rcases h with rfl | rfl | rfl | rfl | rfl | rfl | rfl | rfl <;> kernel_rfl
theorem an0 (i : Int) : rebP anA 0 i = (5, anA) := rfl
theorem an3 (i : Int) : rebP anA 3 i = (5, anA) := rfl
set_option maxHeartbeats 12800000 in
set_option maxRecDepth 100000 in
theorem anew_walk (ip wh : Int) (w : World) (wa : (Lit.int .u8 ip).wf = true) (wb : (Lit.int .u8 wh).wf = true) :
    Calls Try.prog 7 #[.int .u8 ip, .int .u8 wh] w fun e w' => e = .returned (.bool true) ∧ Below w.heap.size w w' := by
  obtain ⟨ha0, ha1⟩ := bounds_u8 wa
  obtain ⟨hb0, hb1⟩ := bounds_u8 wb
  obtain ⟨i, hi⟩ : ∃ i, ip % 14 = i := ⟨_, rfl⟩
  obtain ⟨k, hk⟩ : ∃ k, wh % 4 = k := ⟨_, rfl⟩
  have hi2 : ip.tmod 14 = i := by rw [tmod_pos _ _ ha0]; exact hi
  have hk2 : wh.tmod 4 = k := by rw [tmod_pos _ _ hb0]; exact hk
  have i8 := IntWalk.u8_in i ⟨by omega, by omega⟩
  have i32 := IntWalk.u32_in i ⟨by omega, by omega⟩
  have k8 := IntWalk.u8_in k ⟨by omega, by omega⟩
  have k64 := IntWalk.i64_in k ⟨by omega, by omega⟩
  have KK := Lib.hid (show k = 0 ∨ k = 3 ∨ k = 1 ∨ k = 2 by omega)
  have II := Lib.hid (show i = 0 ∨ i = 1 ∨ i = 5 ∨ i = 6 ∨ i = 10 ∨ i = 11 ∨ i = 2 ∨ i = 3 ∨ i = 4 ∨ i = 7 ∨ i = 8 ∨ i = 9 ∨ i = 12 ∨ i = 13 by omega)
  clear hi hk wa wb ha0 ha1 hb0 hb1
  go_enter Try.func7, Try.ntmps7
  go_wp2_with fail
  refine (ex_any _).mono ?_; rintro e x0 ⟨rfl, b0⟩
  have hR : Hid (RdE cho 3 ((x0.alloc (.cells #[.int .u32 1, .int .u16 7, .int .i64 0, .int .u32 10, .int .u16 7, .int .i64 1, .int .u32 11, .int .u16 7, .int .i64 2] 34)).alloc (.cells #[.int .i64 0, .int .i64 0, .int .u32 5, .int .u64 9, .int .i64 4, .int .i64 0, .int .i64 0, .int .u32 6, .int .u64 9, .int .i64 4] 38)) (some ⟨x0.heap.size, 0, none⟩) [⟨1, 7, 0⟩, ⟨10, 7, 1⟩, ⟨11, 7, 2⟩]) := rd_cs cho_enc ((Cs.new x0 [.int .u32 1, .int .u16 7, .int .i64 0, .int .u32 10, .int .u16 7, .int .i64 1, .int .u32 11, .int .u16 7, .int .i64 2] 34).alloc _)
  have hS : Hid (RdE csp 5 ((x0.alloc (.cells #[.int .u32 1, .int .u16 7, .int .i64 0, .int .u32 10, .int .u16 7, .int .i64 1, .int .u32 11, .int .u16 7, .int .i64 2] 34)).alloc (.cells #[.int .i64 0, .int .i64 0, .int .u32 5, .int .u64 9, .int .i64 4, .int .i64 0, .int .i64 0, .int .u32 6, .int .u64 9, .int .i64 4] 38)) (some ⟨x0.heap.size + 1, 0, none⟩) [⟨0, 0, 5, 9, 4⟩, ⟨0, 0, 6, 9, 4⟩]) := by
    have e : (x0.alloc (.cells #[.int .u32 1, .int .u16 7, .int .i64 0, .int .u32 10, .int .u16 7, .int .i64 1, .int .u32 11, .int .u16 7, .int .i64 2] 34)).heap.size = x0.heap.size + 1 := by simp
    rw [← e]
    exact rd_cs csp_enc (Cs.new (x0.alloc (.cells #[.int .u32 1, .int .u16 7, .int .i64 0, .int .u32 10, .int .u16 7, .int .i64 1, .int .u32 11, .int .u16 7, .int .i64 2] 34)) [.int .i64 0, .int .i64 0, .int .u32 5, .int .u64 9, .int .i64 4, .int .i64 0, .int .i64 0, .int .u32 6, .int .u64 9, .int .i64 4] 38)
  have hB : Hid (Below w.heap.size w ((x0.alloc (.cells #[.int .u32 1, .int .u16 7, .int .i64 0, .int .u32 10, .int .u16 7, .int .i64 1, .int .u32 11, .int .u16 7, .int .i64 2] 34)).alloc (.cells #[.int .i64 0, .int .i64 0, .int .u32 5, .int .u64 9, .int .i64 4, .int .i64 0, .int .i64 0, .int .u32 6, .int .u64 9, .int .i64 4] 38))) := ((b0.alloc (by have := b0.size; simp; omega) _).alloc (by have := b0.size; simp; omega) _)
  clear b0
  go_wp2_with fail
  generalize ((x0.alloc (.cells #[.int .u32 1, .int .u16 7, .int .i64 0, .int .u32 10, .int .u16 7, .int .i64 1, .int .u32 11, .int .u16 7, .int .i64 2] 34)).alloc (.cells #[.int .i64 0, .int .i64 0, .int .u32 5, .int .u64 9, .int .i64 4, .int .i64 0, .int .i64 0, .int .u32 6, .int .u64 9, .int .i64 4] 38)) = wN at *
  generalize x0.heap.size = ga at *
  refine (new_l anN (some ⟨ga, 0, none⟩) 3 (some ⟨ga + 1, 0, none⟩) 2 (by simp) (by simp) (by simp) (by simp) wN hR.out hS.out).mono ?_; rintro e w0 ⟨m, rfl, s⟩
  clear hR hS
  have SA := Lib.hid s
  clear s
  rcases KK.out with rfl | rfl | rfl | rfl
  · as_aux_lemma =>
    clear KK II
    go_wp2_with fail
    refine (reb_l (n := anA) _ _ (congrArg Prod.fst (an0 i)) (congrArg Prod.snd (an0 i)) SA.out).mono ?_; rintro e w1 ⟨rfl, s⟩
    clear SA
    have SA := Lib.hid s
    clear s
    go_wp2_with fail
    refine (box_l (n := (anA)) 1 0 rfl (by first | decide | simp) SA.out).mono ?_; rintro e w2 ⟨⟨q1, hq1, rfl⟩, s⟩
    have Q1 := Lib.hid hq1
    clear SA hq1
    have SA := Lib.hid s
    clear s
    go_wp2_with fail
    refine (box_l (n := (anA)) 2 1 rfl (by first | decide | simp) SA.out).mono ?_; rintro e w3 ⟨⟨q2, hq2, rfl⟩, s⟩
    have Q2 := Lib.hid hq2
    clear SA hq2
    have SA := Lib.hid s
    clear s
    go_wp2_with fail
    refine (ip_n (n := (anA)) (j := 0) (x := ⟨0, 0, 5, 9, 4, []⟩) Q1.out rfl SA.out).mono ?_; rintro e w4 ⟨rfl, rfl⟩
    go_wp2_with fail
    refine (ip_n (n := (anA)) (j := 1) (x := ⟨0, 0, 6, 9, 4, []⟩) Q2.out rfl SA.out).mono ?_; rintro e w5 ⟨rfl, rfl⟩
    go_wp2
    go_ret
    exact ⟨rfl, hB.out.trans (SA.out.below.mono hB.out.size)⟩
  · as_aux_lemma =>
    clear KK II
    go_wp2_with fail
    refine (reb_l (n := anA) _ _ (congrArg Prod.fst (an3 i)) (congrArg Prod.snd (an3 i)) SA.out).mono ?_; rintro e w1 ⟨rfl, s⟩
    clear SA
    have SA := Lib.hid s
    clear s
    go_wp2_with fail
    refine (box_l (n := (anA)) 1 0 rfl (by first | decide | simp) SA.out).mono ?_; rintro e w2 ⟨⟨q1, hq1, rfl⟩, s⟩
    have Q1 := Lib.hid hq1
    clear SA hq1
    have SA := Lib.hid s
    clear s
    go_wp2_with fail
    refine (box_l (n := (anA)) 2 1 rfl (by first | decide | simp) SA.out).mono ?_; rintro e w3 ⟨⟨q2, hq2, rfl⟩, s⟩
    have Q2 := Lib.hid hq2
    clear SA hq2
    have SA := Lib.hid s
    clear s
    go_wp2_with fail
    refine (ip_n (n := (anA)) (j := 0) (x := ⟨0, 0, 5, 9, 4, []⟩) Q1.out rfl SA.out).mono ?_; rintro e w4 ⟨rfl, rfl⟩
    go_wp2_with fail
    refine (ip_n (n := (anA)) (j := 1) (x := ⟨0, 0, 6, 9, 4, []⟩) Q2.out rfl SA.out).mono ?_; rintro e w5 ⟨rfl, rfl⟩
    go_wp2
    go_ret
    exact ⟨rfl, hB.out.trans (SA.out.below.mono hB.out.size)⟩
  · clear KK
    have II2 := II.out
    clear II
    rcases II2 with rfl | rfl | rfl | rfl | rfl | rfl | II2
    · as_aux_lemma =>
      go_wp2_with fail
      refine (reb_l (n := anA) _ _ (congrArg Prod.fst ((by kernel_rfl : rebP anA 1 0 = (1, (⟨[⟨1, 7, 0⟩, ⟨10, 7, 1⟩, ⟨11, 7, 2⟩], [⟨0, 0, 5, 9, 4, []⟩, ⟨0, 0, 6, 9, 4, []⟩], 9, []⟩ : Nt))))) (congrArg Prod.snd ((by kernel_rfl : rebP anA 1 0 = (1, (⟨[⟨1, 7, 0⟩, ⟨10, 7, 1⟩, ⟨11, 7, 2⟩], [⟨0, 0, 5, 9, 4, []⟩, ⟨0, 0, 6, 9, 4, []⟩], 9, []⟩ : Nt))))) SA.out).mono ?_; rintro e w1 ⟨rfl, s⟩
      clear SA
      have SA := Lib.hid s
      clear s
      go_wp2_with fail
      refine (box_l (n := (⟨[⟨1, 7, 0⟩, ⟨10, 7, 1⟩, ⟨11, 7, 2⟩], [⟨0, 0, 5, 9, 4, []⟩, ⟨0, 0, 6, 9, 4, []⟩], 9, []⟩ : Nt)) 1 0 rfl (by first | decide | simp) SA.out).mono ?_; rintro e w2 ⟨⟨q1, hq1, rfl⟩, s⟩
      have Q1 := Lib.hid hq1
      clear SA hq1
      have SA := Lib.hid s
      clear s
      go_wp2_with fail
      refine (box_l (n := (⟨[⟨1, 7, 0⟩, ⟨10, 7, 1⟩, ⟨11, 7, 2⟩], [⟨0, 0, 5, 9, 4, []⟩, ⟨0, 0, 6, 9, 4, []⟩], 9, []⟩ : Nt)) 2 1 rfl (by first | decide | simp) SA.out).mono ?_; rintro e w3 ⟨⟨q2, hq2, rfl⟩, s⟩
      have Q2 := Lib.hid hq2
      clear SA hq2
      have SA := Lib.hid s
      clear s
      go_wp2_with fail
      refine (ip_n (n := (⟨[⟨1, 7, 0⟩, ⟨10, 7, 1⟩, ⟨11, 7, 2⟩], [⟨0, 0, 5, 9, 4, []⟩, ⟨0, 0, 6, 9, 4, []⟩], 9, []⟩ : Nt)) (j := 0) (x := ⟨0, 0, 5, 9, 4, []⟩) Q1.out rfl SA.out).mono ?_; rintro e w4 ⟨rfl, rfl⟩
      go_wp2_with fail
      refine (ip_n (n := (⟨[⟨1, 7, 0⟩, ⟨10, 7, 1⟩, ⟨11, 7, 2⟩], [⟨0, 0, 5, 9, 4, []⟩, ⟨0, 0, 6, 9, 4, []⟩], 9, []⟩ : Nt)) (j := 1) (x := ⟨0, 0, 6, 9, 4, []⟩) Q2.out rfl SA.out).mono ?_; rintro e w5 ⟨rfl, rfl⟩
      go_wp2
      go_ret
      exact ⟨rfl, hB.out.trans (SA.out.below.mono hB.out.size)⟩
    · as_aux_lemma =>
      go_wp2_with fail
      refine (reb_l (n := anA) _ _ (congrArg Prod.fst ((by kernel_rfl : rebP anA 1 1 = (1, (⟨[⟨1, 7, 0⟩, ⟨10, 7, 1⟩, ⟨11, 7, 2⟩], [⟨0, 0, 5, 9, 4, []⟩, ⟨0, 0, 6, 9, 4, []⟩], 9, []⟩ : Nt))))) (congrArg Prod.snd ((by kernel_rfl : rebP anA 1 1 = (1, (⟨[⟨1, 7, 0⟩, ⟨10, 7, 1⟩, ⟨11, 7, 2⟩], [⟨0, 0, 5, 9, 4, []⟩, ⟨0, 0, 6, 9, 4, []⟩], 9, []⟩ : Nt))))) SA.out).mono ?_; rintro e w1 ⟨rfl, s⟩
      clear SA
      have SA := Lib.hid s
      clear s
      go_wp2_with fail
      refine (box_l (n := (⟨[⟨1, 7, 0⟩, ⟨10, 7, 1⟩, ⟨11, 7, 2⟩], [⟨0, 0, 5, 9, 4, []⟩, ⟨0, 0, 6, 9, 4, []⟩], 9, []⟩ : Nt)) 1 0 rfl (by first | decide | simp) SA.out).mono ?_; rintro e w2 ⟨⟨q1, hq1, rfl⟩, s⟩
      have Q1 := Lib.hid hq1
      clear SA hq1
      have SA := Lib.hid s
      clear s
      go_wp2_with fail
      refine (box_l (n := (⟨[⟨1, 7, 0⟩, ⟨10, 7, 1⟩, ⟨11, 7, 2⟩], [⟨0, 0, 5, 9, 4, []⟩, ⟨0, 0, 6, 9, 4, []⟩], 9, []⟩ : Nt)) 2 1 rfl (by first | decide | simp) SA.out).mono ?_; rintro e w3 ⟨⟨q2, hq2, rfl⟩, s⟩
      have Q2 := Lib.hid hq2
      clear SA hq2
      have SA := Lib.hid s
      clear s
      go_wp2_with fail
      refine (ip_n (n := (⟨[⟨1, 7, 0⟩, ⟨10, 7, 1⟩, ⟨11, 7, 2⟩], [⟨0, 0, 5, 9, 4, []⟩, ⟨0, 0, 6, 9, 4, []⟩], 9, []⟩ : Nt)) (j := 0) (x := ⟨0, 0, 5, 9, 4, []⟩) Q1.out rfl SA.out).mono ?_; rintro e w4 ⟨rfl, rfl⟩
      go_wp2_with fail
      refine (ip_n (n := (⟨[⟨1, 7, 0⟩, ⟨10, 7, 1⟩, ⟨11, 7, 2⟩], [⟨0, 0, 5, 9, 4, []⟩, ⟨0, 0, 6, 9, 4, []⟩], 9, []⟩ : Nt)) (j := 1) (x := ⟨0, 0, 6, 9, 4, []⟩) Q2.out rfl SA.out).mono ?_; rintro e w5 ⟨rfl, rfl⟩
      go_wp2
      go_ret
      exact ⟨rfl, hB.out.trans (SA.out.below.mono hB.out.size)⟩
    · as_aux_lemma =>
      go_wp2_with fail
      refine (reb_l (n := anA) _ _ (congrArg Prod.fst ((by kernel_rfl : rebP anA 1 5 = (0, (⟨[⟨1, 7, 0⟩, ⟨10, 7, 1⟩, ⟨11, 7, 2⟩], [⟨0, 0, 5, 9, 4, []⟩, ⟨0, 0, 6, 9, 4, []⟩], 9, []⟩ : Nt))))) (congrArg Prod.snd ((by kernel_rfl : rebP anA 1 5 = (0, (⟨[⟨1, 7, 0⟩, ⟨10, 7, 1⟩, ⟨11, 7, 2⟩], [⟨0, 0, 5, 9, 4, []⟩, ⟨0, 0, 6, 9, 4, []⟩], 9, []⟩ : Nt))))) SA.out).mono ?_; rintro e w1 ⟨rfl, s⟩
      clear SA
      have SA := Lib.hid s
      clear s
      go_wp2_with fail
      refine (box_l (n := (⟨[⟨1, 7, 0⟩, ⟨10, 7, 1⟩, ⟨11, 7, 2⟩], [⟨0, 0, 5, 9, 4, []⟩, ⟨0, 0, 6, 9, 4, []⟩], 9, []⟩ : Nt)) 1 0 rfl (by first | decide | simp) SA.out).mono ?_; rintro e w2 ⟨⟨q1, hq1, rfl⟩, s⟩
      have Q1 := Lib.hid hq1
      clear SA hq1
      have SA := Lib.hid s
      clear s
      go_wp2_with fail
      refine (box_l (n := (⟨[⟨1, 7, 0⟩, ⟨10, 7, 1⟩, ⟨11, 7, 2⟩], [⟨0, 0, 5, 9, 4, []⟩, ⟨0, 0, 6, 9, 4, []⟩], 9, []⟩ : Nt)) 2 1 rfl (by first | decide | simp) SA.out).mono ?_; rintro e w3 ⟨⟨q2, hq2, rfl⟩, s⟩
      have Q2 := Lib.hid hq2
      clear SA hq2
      have SA := Lib.hid s
      clear s
      go_wp2_with fail
      refine (ip_n (n := (⟨[⟨1, 7, 0⟩, ⟨10, 7, 1⟩, ⟨11, 7, 2⟩], [⟨0, 0, 5, 9, 4, []⟩, ⟨0, 0, 6, 9, 4, []⟩], 9, []⟩ : Nt)) (j := 0) (x := ⟨0, 0, 5, 9, 4, []⟩) Q1.out rfl SA.out).mono ?_; rintro e w4 ⟨rfl, rfl⟩
      go_wp2_with fail
      refine (ip_n (n := (⟨[⟨1, 7, 0⟩, ⟨10, 7, 1⟩, ⟨11, 7, 2⟩], [⟨0, 0, 5, 9, 4, []⟩, ⟨0, 0, 6, 9, 4, []⟩], 9, []⟩ : Nt)) (j := 1) (x := ⟨0, 0, 6, 9, 4, []⟩) Q2.out rfl SA.out).mono ?_; rintro e w5 ⟨rfl, rfl⟩
      go_wp2
      go_ret
      exact ⟨rfl, hB.out.trans (SA.out.below.mono hB.out.size)⟩
    · as_aux_lemma =>
      go_wp2_with fail
      refine (reb_l (n := anA) _ _ (congrArg Prod.fst ((by kernel_rfl : rebP anA 1 6 = (1, (⟨[⟨1, 7, 0⟩, ⟨10, 7, 1⟩, ⟨11, 7, 2⟩], [⟨0, 0, 5, 9, 4, []⟩, ⟨0, 0, 6, 9, 4, []⟩], 9, []⟩ : Nt))))) (congrArg Prod.snd ((by kernel_rfl : rebP anA 1 6 = (1, (⟨[⟨1, 7, 0⟩, ⟨10, 7, 1⟩, ⟨11, 7, 2⟩], [⟨0, 0, 5, 9, 4, []⟩, ⟨0, 0, 6, 9, 4, []⟩], 9, []⟩ : Nt))))) SA.out).mono ?_; rintro e w1 ⟨rfl, s⟩
      clear SA
      have SA := Lib.hid s
      clear s
      go_wp2_with fail
      refine (box_l (n := (⟨[⟨1, 7, 0⟩, ⟨10, 7, 1⟩, ⟨11, 7, 2⟩], [⟨0, 0, 5, 9, 4, []⟩, ⟨0, 0, 6, 9, 4, []⟩], 9, []⟩ : Nt)) 1 0 rfl (by first | decide | simp) SA.out).mono ?_; rintro e w2 ⟨⟨q1, hq1, rfl⟩, s⟩
      have Q1 := Lib.hid hq1
      clear SA hq1
      have SA := Lib.hid s
      clear s
      go_wp2_with fail
      refine (box_l (n := (⟨[⟨1, 7, 0⟩, ⟨10, 7, 1⟩, ⟨11, 7, 2⟩], [⟨0, 0, 5, 9, 4, []⟩, ⟨0, 0, 6, 9, 4, []⟩], 9, []⟩ : Nt)) 2 1 rfl (by first | decide | simp) SA.out).mono ?_; rintro e w3 ⟨⟨q2, hq2, rfl⟩, s⟩
      have Q2 := Lib.hid hq2
      clear SA hq2
      have SA := Lib.hid s
      clear s
      go_wp2_with fail
      refine (ip_n (n := (⟨[⟨1, 7, 0⟩, ⟨10, 7, 1⟩, ⟨11, 7, 2⟩], [⟨0, 0, 5, 9, 4, []⟩, ⟨0, 0, 6, 9, 4, []⟩], 9, []⟩ : Nt)) (j := 0) (x := ⟨0, 0, 5, 9, 4, []⟩) Q1.out rfl SA.out).mono ?_; rintro e w4 ⟨rfl, rfl⟩
      go_wp2_with fail
      refine (ip_n (n := (⟨[⟨1, 7, 0⟩, ⟨10, 7, 1⟩, ⟨11, 7, 2⟩], [⟨0, 0, 5, 9, 4, []⟩, ⟨0, 0, 6, 9, 4, []⟩], 9, []⟩ : Nt)) (j := 1) (x := ⟨0, 0, 6, 9, 4, []⟩) Q2.out rfl SA.out).mono ?_; rintro e w5 ⟨rfl, rfl⟩
      go_wp2
      go_ret
      exact ⟨rfl, hB.out.trans (SA.out.below.mono hB.out.size)⟩
    · as_aux_lemma =>
      go_wp2_with fail
      refine (reb_l (n := anA) _ _ (congrArg Prod.fst ((by kernel_rfl : rebP anA 1 10 = (1, (⟨[⟨1, 7, 0⟩, ⟨10, 7, 1⟩, ⟨11, 7, 2⟩], [⟨0, 0, 5, 9, 4, []⟩, ⟨0, 0, 6, 9, 4, []⟩], 9, []⟩ : Nt))))) (congrArg Prod.snd ((by kernel_rfl : rebP anA 1 10 = (1, (⟨[⟨1, 7, 0⟩, ⟨10, 7, 1⟩, ⟨11, 7, 2⟩], [⟨0, 0, 5, 9, 4, []⟩, ⟨0, 0, 6, 9, 4, []⟩], 9, []⟩ : Nt))))) SA.out).mono ?_; rintro e w1 ⟨rfl, s⟩
      clear SA
      have SA := Lib.hid s
      clear s
      go_wp2_with fail
      refine (box_l (n := (⟨[⟨1, 7, 0⟩, ⟨10, 7, 1⟩, ⟨11, 7, 2⟩], [⟨0, 0, 5, 9, 4, []⟩, ⟨0, 0, 6, 9, 4, []⟩], 9, []⟩ : Nt)) 1 0 rfl (by first | decide | simp) SA.out).mono ?_; rintro e w2 ⟨⟨q1, hq1, rfl⟩, s⟩
      have Q1 := Lib.hid hq1
      clear SA hq1
      have SA := Lib.hid s
      clear s
      go_wp2_with fail
      refine (box_l (n := (⟨[⟨1, 7, 0⟩, ⟨10, 7, 1⟩, ⟨11, 7, 2⟩], [⟨0, 0, 5, 9, 4, []⟩, ⟨0, 0, 6, 9, 4, []⟩], 9, []⟩ : Nt)) 2 1 rfl (by first | decide | simp) SA.out).mono ?_; rintro e w3 ⟨⟨q2, hq2, rfl⟩, s⟩
      have Q2 := Lib.hid hq2
      clear SA hq2
      have SA := Lib.hid s
      clear s
      go_wp2_with fail
      refine (ip_n (n := (⟨[⟨1, 7, 0⟩, ⟨10, 7, 1⟩, ⟨11, 7, 2⟩], [⟨0, 0, 5, 9, 4, []⟩, ⟨0, 0, 6, 9, 4, []⟩], 9, []⟩ : Nt)) (j := 0) (x := ⟨0, 0, 5, 9, 4, []⟩) Q1.out rfl SA.out).mono ?_; rintro e w4 ⟨rfl, rfl⟩
      go_wp2_with fail
      refine (ip_n (n := (⟨[⟨1, 7, 0⟩, ⟨10, 7, 1⟩, ⟨11, 7, 2⟩], [⟨0, 0, 5, 9, 4, []⟩, ⟨0, 0, 6, 9, 4, []⟩], 9, []⟩ : Nt)) (j := 1) (x := ⟨0, 0, 6, 9, 4, []⟩) Q2.out rfl SA.out).mono ?_; rintro e w5 ⟨rfl, rfl⟩
      go_wp2
      go_ret
      exact ⟨rfl, hB.out.trans (SA.out.below.mono hB.out.size)⟩
    · as_aux_lemma =>
      go_wp2_with fail
      refine (reb_l (n := anA) _ _ (congrArg Prod.fst ((by kernel_rfl : rebP anA 1 11 = (1, (⟨[⟨1, 7, 0⟩, ⟨10, 7, 1⟩, ⟨11, 7, 2⟩], [⟨0, 0, 5, 9, 4, []⟩, ⟨0, 0, 6, 9, 4, []⟩], 9, []⟩ : Nt))))) (congrArg Prod.snd ((by kernel_rfl : rebP anA 1 11 = (1, (⟨[⟨1, 7, 0⟩, ⟨10, 7, 1⟩, ⟨11, 7, 2⟩], [⟨0, 0, 5, 9, 4, []⟩, ⟨0, 0, 6, 9, 4, []⟩], 9, []⟩ : Nt))))) SA.out).mono ?_; rintro e w1 ⟨rfl, s⟩
      clear SA
      have SA := Lib.hid s
      clear s
      go_wp2_with fail
      refine (box_l (n := (⟨[⟨1, 7, 0⟩, ⟨10, 7, 1⟩, ⟨11, 7, 2⟩], [⟨0, 0, 5, 9, 4, []⟩, ⟨0, 0, 6, 9, 4, []⟩], 9, []⟩ : Nt)) 1 0 rfl (by first | decide | simp) SA.out).mono ?_; rintro e w2 ⟨⟨q1, hq1, rfl⟩, s⟩
      have Q1 := Lib.hid hq1
      clear SA hq1
      have SA := Lib.hid s
      clear s
      go_wp2_with fail
      refine (box_l (n := (⟨[⟨1, 7, 0⟩, ⟨10, 7, 1⟩, ⟨11, 7, 2⟩], [⟨0, 0, 5, 9, 4, []⟩, ⟨0, 0, 6, 9, 4, []⟩], 9, []⟩ : Nt)) 2 1 rfl (by first | decide | simp) SA.out).mono ?_; rintro e w3 ⟨⟨q2, hq2, rfl⟩, s⟩
      have Q2 := Lib.hid hq2
      clear SA hq2
      have SA := Lib.hid s
      clear s
      go_wp2_with fail
      refine (ip_n (n := (⟨[⟨1, 7, 0⟩, ⟨10, 7, 1⟩, ⟨11, 7, 2⟩], [⟨0, 0, 5, 9, 4, []⟩, ⟨0, 0, 6, 9, 4, []⟩], 9, []⟩ : Nt)) (j := 0) (x := ⟨0, 0, 5, 9, 4, []⟩) Q1.out rfl SA.out).mono ?_; rintro e w4 ⟨rfl, rfl⟩
      go_wp2_with fail
      refine (ip_n (n := (⟨[⟨1, 7, 0⟩, ⟨10, 7, 1⟩, ⟨11, 7, 2⟩], [⟨0, 0, 5, 9, 4, []⟩, ⟨0, 0, 6, 9, 4, []⟩], 9, []⟩ : Nt)) (j := 1) (x := ⟨0, 0, 6, 9, 4, []⟩) Q2.out rfl SA.out).mono ?_; rintro e w5 ⟨rfl, rfl⟩
      go_wp2
      go_ret
      exact ⟨rfl, hB.out.trans (SA.out.below.mono hB.out.size)⟩
    · as_aux_lemma =>
      have q0 : (i == 0) = false := by rw [beq_eq_false_iff_ne]; omega
      have q1 : (i == 1) = false := by rw [beq_eq_false_iff_ne]; omega
      have q5 : (i == 5) = false := by rw [beq_eq_false_iff_ne]; omega
      have q6 : (i == 6) = false := by rw [beq_eq_false_iff_ne]; omega
      have q10 : (i == 10) = false := by rw [beq_eq_false_iff_ne]; omega
      have q11 : (i == 11) = false := by rw [beq_eq_false_iff_ne]; omega
      have AN := Lib.hid (an1 II2)
      clear II2
      go_wp2_with fail
      refine (reb_l (n := anA) _ _ (congrArg Prod.fst (AN.out)) (congrArg Prod.snd (AN.out)) SA.out).mono ?_; rintro e w1 ⟨rfl, s⟩
      clear SA
      have SA := Lib.hid s
      clear s
      go_wp2_with fail
      refine (box_l (n := (⟨[⟨1, 7, 0⟩, ⟨10, 7, 1⟩, ⟨11, 7, 2⟩], [⟨0, 0, i, 9, 4, []⟩, ⟨0, 0, 6, 9, 4, []⟩], 9, []⟩ : Nt)) 1 0 rfl (by first | decide | simp) SA.out).mono ?_; rintro e w2 ⟨⟨q1, hq1, rfl⟩, s⟩
      have Q1 := Lib.hid hq1
      clear SA hq1
      have SA := Lib.hid s
      clear s
      go_wp2_with fail
      refine (box_l (n := (⟨[⟨1, 7, 0⟩, ⟨10, 7, 1⟩, ⟨11, 7, 2⟩], [⟨0, 0, i, 9, 4, []⟩, ⟨0, 0, 6, 9, 4, []⟩], 9, []⟩ : Nt)) 2 1 rfl (by first | decide | simp) SA.out).mono ?_; rintro e w3 ⟨⟨q2, hq2, rfl⟩, s⟩
      have Q2 := Lib.hid hq2
      clear SA hq2
      have SA := Lib.hid s
      clear s
      go_wp2_with fail
      refine (ip_n (n := (⟨[⟨1, 7, 0⟩, ⟨10, 7, 1⟩, ⟨11, 7, 2⟩], [⟨0, 0, i, 9, 4, []⟩, ⟨0, 0, 6, 9, 4, []⟩], 9, []⟩ : Nt)) (j := 0) (x := ⟨0, 0, i, 9, 4, []⟩) Q1.out rfl SA.out).mono ?_; rintro e w4 ⟨rfl, rfl⟩
      go_wp2_with fail
      refine (ip_n (n := (⟨[⟨1, 7, 0⟩, ⟨10, 7, 1⟩, ⟨11, 7, 2⟩], [⟨0, 0, i, 9, 4, []⟩, ⟨0, 0, 6, 9, 4, []⟩], 9, []⟩ : Nt)) (j := 1) (x := ⟨0, 0, 6, 9, 4, []⟩) Q2.out rfl SA.out).mono ?_; rintro e w5 ⟨rfl, rfl⟩
      go_wp2
      go_ret
      exact ⟨rfl, hB.out.trans (SA.out.below.mono hB.out.size)⟩
  · clear KK
    have II2 := II.out
    clear II
    rcases II2 with rfl | rfl | rfl | rfl | rfl | rfl | II2
    · as_aux_lemma =>
      go_wp2_with fail
      refine (reb_l (n := anA) _ _ (congrArg Prod.fst ((by kernel_rfl : rebP anA 2 0 = (1, (⟨[⟨1, 7, 0⟩, ⟨10, 7, 1⟩, ⟨11, 7, 2⟩], [⟨0, 0, 5, 9, 4, []⟩, ⟨0, 0, 6, 9, 4, []⟩], 9, []⟩ : Nt))))) (congrArg Prod.snd ((by kernel_rfl : rebP anA 2 0 = (1, (⟨[⟨1, 7, 0⟩, ⟨10, 7, 1⟩, ⟨11, 7, 2⟩], [⟨0, 0, 5, 9, 4, []⟩, ⟨0, 0, 6, 9, 4, []⟩], 9, []⟩ : Nt))))) SA.out).mono ?_; rintro e w1 ⟨rfl, s⟩
      clear SA
      have SA := Lib.hid s
      clear s
      go_wp2_with fail
      refine (box_l (n := (⟨[⟨1, 7, 0⟩, ⟨10, 7, 1⟩, ⟨11, 7, 2⟩], [⟨0, 0, 5, 9, 4, []⟩, ⟨0, 0, 6, 9, 4, []⟩], 9, []⟩ : Nt)) 1 0 rfl (by first | decide | simp) SA.out).mono ?_; rintro e w2 ⟨⟨q1, hq1, rfl⟩, s⟩
      have Q1 := Lib.hid hq1
      clear SA hq1
      have SA := Lib.hid s
      clear s
      go_wp2_with fail
      refine (box_l (n := (⟨[⟨1, 7, 0⟩, ⟨10, 7, 1⟩, ⟨11, 7, 2⟩], [⟨0, 0, 5, 9, 4, []⟩, ⟨0, 0, 6, 9, 4, []⟩], 9, []⟩ : Nt)) 2 1 rfl (by first | decide | simp) SA.out).mono ?_; rintro e w3 ⟨⟨q2, hq2, rfl⟩, s⟩
      have Q2 := Lib.hid hq2
      clear SA hq2
      have SA := Lib.hid s
      clear s
      go_wp2_with fail
      refine (ip_n (n := (⟨[⟨1, 7, 0⟩, ⟨10, 7, 1⟩, ⟨11, 7, 2⟩], [⟨0, 0, 5, 9, 4, []⟩, ⟨0, 0, 6, 9, 4, []⟩], 9, []⟩ : Nt)) (j := 0) (x := ⟨0, 0, 5, 9, 4, []⟩) Q1.out rfl SA.out).mono ?_; rintro e w4 ⟨rfl, rfl⟩
      go_wp2_with fail
      refine (ip_n (n := (⟨[⟨1, 7, 0⟩, ⟨10, 7, 1⟩, ⟨11, 7, 2⟩], [⟨0, 0, 5, 9, 4, []⟩, ⟨0, 0, 6, 9, 4, []⟩], 9, []⟩ : Nt)) (j := 1) (x := ⟨0, 0, 6, 9, 4, []⟩) Q2.out rfl SA.out).mono ?_; rintro e w5 ⟨rfl, rfl⟩
      go_wp2
      go_ret
      exact ⟨rfl, hB.out.trans (SA.out.below.mono hB.out.size)⟩
    · as_aux_lemma =>
      go_wp2_with fail
      refine (reb_l (n := anA) _ _ (congrArg Prod.fst ((by kernel_rfl : rebP anA 2 1 = (1, (⟨[⟨1, 7, 0⟩, ⟨10, 7, 1⟩, ⟨11, 7, 2⟩], [⟨0, 0, 5, 9, 4, []⟩, ⟨0, 0, 6, 9, 4, []⟩], 9, []⟩ : Nt))))) (congrArg Prod.snd ((by kernel_rfl : rebP anA 2 1 = (1, (⟨[⟨1, 7, 0⟩, ⟨10, 7, 1⟩, ⟨11, 7, 2⟩], [⟨0, 0, 5, 9, 4, []⟩, ⟨0, 0, 6, 9, 4, []⟩], 9, []⟩ : Nt))))) SA.out).mono ?_; rintro e w1 ⟨rfl, s⟩
      clear SA
      have SA := Lib.hid s
      clear s
      go_wp2_with fail
      refine (box_l (n := (⟨[⟨1, 7, 0⟩, ⟨10, 7, 1⟩, ⟨11, 7, 2⟩], [⟨0, 0, 5, 9, 4, []⟩, ⟨0, 0, 6, 9, 4, []⟩], 9, []⟩ : Nt)) 1 0 rfl (by first | decide | simp) SA.out).mono ?_; rintro e w2 ⟨⟨q1, hq1, rfl⟩, s⟩
      have Q1 := Lib.hid hq1
      clear SA hq1
      have SA := Lib.hid s
      clear s
      go_wp2_with fail
      refine (box_l (n := (⟨[⟨1, 7, 0⟩, ⟨10, 7, 1⟩, ⟨11, 7, 2⟩], [⟨0, 0, 5, 9, 4, []⟩, ⟨0, 0, 6, 9, 4, []⟩], 9, []⟩ : Nt)) 2 1 rfl (by first | decide | simp) SA.out).mono ?_; rintro e w3 ⟨⟨q2, hq2, rfl⟩, s⟩
      have Q2 := Lib.hid hq2
      clear SA hq2
      have SA := Lib.hid s
      clear s
      go_wp2_with fail
      refine (ip_n (n := (⟨[⟨1, 7, 0⟩, ⟨10, 7, 1⟩, ⟨11, 7, 2⟩], [⟨0, 0, 5, 9, 4, []⟩, ⟨0, 0, 6, 9, 4, []⟩], 9, []⟩ : Nt)) (j := 0) (x := ⟨0, 0, 5, 9, 4, []⟩) Q1.out rfl SA.out).mono ?_; rintro e w4 ⟨rfl, rfl⟩
      go_wp2_with fail
      refine (ip_n (n := (⟨[⟨1, 7, 0⟩, ⟨10, 7, 1⟩, ⟨11, 7, 2⟩], [⟨0, 0, 5, 9, 4, []⟩, ⟨0, 0, 6, 9, 4, []⟩], 9, []⟩ : Nt)) (j := 1) (x := ⟨0, 0, 6, 9, 4, []⟩) Q2.out rfl SA.out).mono ?_; rintro e w5 ⟨rfl, rfl⟩
      go_wp2
      go_ret
      exact ⟨rfl, hB.out.trans (SA.out.below.mono hB.out.size)⟩
    · as_aux_lemma =>
      go_wp2_with fail
      refine (reb_l (n := anA) _ _ (congrArg Prod.fst ((by kernel_rfl : rebP anA 2 5 = (1, (⟨[⟨1, 7, 0⟩, ⟨10, 7, 1⟩, ⟨11, 7, 2⟩], [⟨0, 0, 5, 9, 4, []⟩, ⟨0, 0, 6, 9, 4, []⟩], 9, []⟩ : Nt))))) (congrArg Prod.snd ((by kernel_rfl : rebP anA 2 5 = (1, (⟨[⟨1, 7, 0⟩, ⟨10, 7, 1⟩, ⟨11, 7, 2⟩], [⟨0, 0, 5, 9, 4, []⟩, ⟨0, 0, 6, 9, 4, []⟩], 9, []⟩ : Nt))))) SA.out).mono ?_; rintro e w1 ⟨rfl, s⟩
      clear SA
      have SA := Lib.hid s
      clear s
      go_wp2_with fail
      refine (box_l (n := (⟨[⟨1, 7, 0⟩, ⟨10, 7, 1⟩, ⟨11, 7, 2⟩], [⟨0, 0, 5, 9, 4, []⟩, ⟨0, 0, 6, 9, 4, []⟩], 9, []⟩ : Nt)) 1 0 rfl (by first | decide | simp) SA.out).mono ?_; rintro e w2 ⟨⟨q1, hq1, rfl⟩, s⟩
      have Q1 := Lib.hid hq1
      clear SA hq1
      have SA := Lib.hid s
      clear s
      go_wp2_with fail
      refine (box_l (n := (⟨[⟨1, 7, 0⟩, ⟨10, 7, 1⟩, ⟨11, 7, 2⟩], [⟨0, 0, 5, 9, 4, []⟩, ⟨0, 0, 6, 9, 4, []⟩], 9, []⟩ : Nt)) 2 1 rfl (by first | decide | simp) SA.out).mono ?_; rintro e w3 ⟨⟨q2, hq2, rfl⟩, s⟩
      have Q2 := Lib.hid hq2
      clear SA hq2
      have SA := Lib.hid s
      clear s
      go_wp2_with fail
      refine (ip_n (n := (⟨[⟨1, 7, 0⟩, ⟨10, 7, 1⟩, ⟨11, 7, 2⟩], [⟨0, 0, 5, 9, 4, []⟩, ⟨0, 0, 6, 9, 4, []⟩], 9, []⟩ : Nt)) (j := 0) (x := ⟨0, 0, 5, 9, 4, []⟩) Q1.out rfl SA.out).mono ?_; rintro e w4 ⟨rfl, rfl⟩
      go_wp2_with fail
      refine (ip_n (n := (⟨[⟨1, 7, 0⟩, ⟨10, 7, 1⟩, ⟨11, 7, 2⟩], [⟨0, 0, 5, 9, 4, []⟩, ⟨0, 0, 6, 9, 4, []⟩], 9, []⟩ : Nt)) (j := 1) (x := ⟨0, 0, 6, 9, 4, []⟩) Q2.out rfl SA.out).mono ?_; rintro e w5 ⟨rfl, rfl⟩
      go_wp2
      go_ret
      exact ⟨rfl, hB.out.trans (SA.out.below.mono hB.out.size)⟩
    · as_aux_lemma =>
      go_wp2_with fail
      refine (reb_l (n := anA) _ _ (congrArg Prod.fst ((by kernel_rfl : rebP anA 2 6 = (0, (⟨[⟨1, 7, 0⟩, ⟨10, 7, 1⟩, ⟨11, 7, 2⟩], [⟨0, 0, 5, 9, 4, []⟩, ⟨0, 0, 6, 9, 4, []⟩], 9, []⟩ : Nt))))) (congrArg Prod.snd ((by kernel_rfl : rebP anA 2 6 = (0, (⟨[⟨1, 7, 0⟩, ⟨10, 7, 1⟩, ⟨11, 7, 2⟩], [⟨0, 0, 5, 9, 4, []⟩, ⟨0, 0, 6, 9, 4, []⟩], 9, []⟩ : Nt))))) SA.out).mono ?_; rintro e w1 ⟨rfl, s⟩
      clear SA
      have SA := Lib.hid s
      clear s
      go_wp2_with fail
      refine (box_l (n := (⟨[⟨1, 7, 0⟩, ⟨10, 7, 1⟩, ⟨11, 7, 2⟩], [⟨0, 0, 5, 9, 4, []⟩, ⟨0, 0, 6, 9, 4, []⟩], 9, []⟩ : Nt)) 1 0 rfl (by first | decide | simp) SA.out).mono ?_; rintro e w2 ⟨⟨q1, hq1, rfl⟩, s⟩
      have Q1 := Lib.hid hq1
      clear SA hq1
      have SA := Lib.hid s
      clear s
      go_wp2_with fail
      refine (box_l (n := (⟨[⟨1, 7, 0⟩, ⟨10, 7, 1⟩, ⟨11, 7, 2⟩], [⟨0, 0, 5, 9, 4, []⟩, ⟨0, 0, 6, 9, 4, []⟩], 9, []⟩ : Nt)) 2 1 rfl (by first | decide | simp) SA.out).mono ?_; rintro e w3 ⟨⟨q2, hq2, rfl⟩, s⟩
      have Q2 := Lib.hid hq2
      clear SA hq2
      have SA := Lib.hid s
      clear s
      go_wp2_with fail
      refine (ip_n (n := (⟨[⟨1, 7, 0⟩, ⟨10, 7, 1⟩, ⟨11, 7, 2⟩], [⟨0, 0, 5, 9, 4, []⟩, ⟨0, 0, 6, 9, 4, []⟩], 9, []⟩ : Nt)) (j := 0) (x := ⟨0, 0, 5, 9, 4, []⟩) Q1.out rfl SA.out).mono ?_; rintro e w4 ⟨rfl, rfl⟩
      go_wp2_with fail
      refine (ip_n (n := (⟨[⟨1, 7, 0⟩, ⟨10, 7, 1⟩, ⟨11, 7, 2⟩], [⟨0, 0, 5, 9, 4, []⟩, ⟨0, 0, 6, 9, 4, []⟩], 9, []⟩ : Nt)) (j := 1) (x := ⟨0, 0, 6, 9, 4, []⟩) Q2.out rfl SA.out).mono ?_; rintro e w5 ⟨rfl, rfl⟩
      go_wp2
      go_ret
      exact ⟨rfl, hB.out.trans (SA.out.below.mono hB.out.size)⟩
    · as_aux_lemma =>
      go_wp2_with fail
      refine (reb_l (n := anA) _ _ (congrArg Prod.fst ((by kernel_rfl : rebP anA 2 10 = (1, (⟨[⟨1, 7, 0⟩, ⟨10, 7, 1⟩, ⟨11, 7, 2⟩], [⟨0, 0, 5, 9, 4, []⟩, ⟨0, 0, 6, 9, 4, []⟩], 9, []⟩ : Nt))))) (congrArg Prod.snd ((by kernel_rfl : rebP anA 2 10 = (1, (⟨[⟨1, 7, 0⟩, ⟨10, 7, 1⟩, ⟨11, 7, 2⟩], [⟨0, 0, 5, 9, 4, []⟩, ⟨0, 0, 6, 9, 4, []⟩], 9, []⟩ : Nt))))) SA.out).mono ?_; rintro e w1 ⟨rfl, s⟩
      clear SA
      have SA := Lib.hid s
      clear s
      go_wp2_with fail
      refine (box_l (n := (⟨[⟨1, 7, 0⟩, ⟨10, 7, 1⟩, ⟨11, 7, 2⟩], [⟨0, 0, 5, 9, 4, []⟩, ⟨0, 0, 6, 9, 4, []⟩], 9, []⟩ : Nt)) 1 0 rfl (by first | decide | simp) SA.out).mono ?_; rintro e w2 ⟨⟨q1, hq1, rfl⟩, s⟩
      have Q1 := Lib.hid hq1
      clear SA hq1
      have SA := Lib.hid s
      clear s
      go_wp2_with fail
      refine (box_l (n := (⟨[⟨1, 7, 0⟩, ⟨10, 7, 1⟩, ⟨11, 7, 2⟩], [⟨0, 0, 5, 9, 4, []⟩, ⟨0, 0, 6, 9, 4, []⟩], 9, []⟩ : Nt)) 2 1 rfl (by first | decide | simp) SA.out).mono ?_; rintro e w3 ⟨⟨q2, hq2, rfl⟩, s⟩
      have Q2 := Lib.hid hq2
      clear SA hq2
      have SA := Lib.hid s
      clear s
      go_wp2_with fail
      refine (ip_n (n := (⟨[⟨1, 7, 0⟩, ⟨10, 7, 1⟩, ⟨11, 7, 2⟩], [⟨0, 0, 5, 9, 4, []⟩, ⟨0, 0, 6, 9, 4, []⟩], 9, []⟩ : Nt)) (j := 0) (x := ⟨0, 0, 5, 9, 4, []⟩) Q1.out rfl SA.out).mono ?_; rintro e w4 ⟨rfl, rfl⟩
      go_wp2_with fail
      refine (ip_n (n := (⟨[⟨1, 7, 0⟩, ⟨10, 7, 1⟩, ⟨11, 7, 2⟩], [⟨0, 0, 5, 9, 4, []⟩, ⟨0, 0, 6, 9, 4, []⟩], 9, []⟩ : Nt)) (j := 1) (x := ⟨0, 0, 6, 9, 4, []⟩) Q2.out rfl SA.out).mono ?_; rintro e w5 ⟨rfl, rfl⟩
      go_wp2
      go_ret
      exact ⟨rfl, hB.out.trans (SA.out.below.mono hB.out.size)⟩
    · as_aux_lemma =>
      go_wp2_with fail
      refine (reb_l (n := anA) _ _ (congrArg Prod.fst ((by kernel_rfl : rebP anA 2 11 = (1, (⟨[⟨1, 7, 0⟩, ⟨10, 7, 1⟩, ⟨11, 7, 2⟩], [⟨0, 0, 5, 9, 4, []⟩, ⟨0, 0, 6, 9, 4, []⟩], 9, []⟩ : Nt))))) (congrArg Prod.snd ((by kernel_rfl : rebP anA 2 11 = (1, (⟨[⟨1, 7, 0⟩, ⟨10, 7, 1⟩, ⟨11, 7, 2⟩], [⟨0, 0, 5, 9, 4, []⟩, ⟨0, 0, 6, 9, 4, []⟩], 9, []⟩ : Nt))))) SA.out).mono ?_; rintro e w1 ⟨rfl, s⟩
      clear SA
      have SA := Lib.hid s
      clear s
      go_wp2_with fail
      refine (box_l (n := (⟨[⟨1, 7, 0⟩, ⟨10, 7, 1⟩, ⟨11, 7, 2⟩], [⟨0, 0, 5, 9, 4, []⟩, ⟨0, 0, 6, 9, 4, []⟩], 9, []⟩ : Nt)) 1 0 rfl (by first | decide | simp) SA.out).mono ?_; rintro e w2 ⟨⟨q1, hq1, rfl⟩, s⟩
      have Q1 := Lib.hid hq1
      clear SA hq1
      have SA := Lib.hid s
      clear s
      go_wp2_with fail
      refine (box_l (n := (⟨[⟨1, 7, 0⟩, ⟨10, 7, 1⟩, ⟨11, 7, 2⟩], [⟨0, 0, 5, 9, 4, []⟩, ⟨0, 0, 6, 9, 4, []⟩], 9, []⟩ : Nt)) 2 1 rfl (by first | decide | simp) SA.out).mono ?_; rintro e w3 ⟨⟨q2, hq2, rfl⟩, s⟩
      have Q2 := Lib.hid hq2
      clear SA hq2
      have SA := Lib.hid s
      clear s
      go_wp2_with fail
      refine (ip_n (n := (⟨[⟨1, 7, 0⟩, ⟨10, 7, 1⟩, ⟨11, 7, 2⟩], [⟨0, 0, 5, 9, 4, []⟩, ⟨0, 0, 6, 9, 4, []⟩], 9, []⟩ : Nt)) (j := 0) (x := ⟨0, 0, 5, 9, 4, []⟩) Q1.out rfl SA.out).mono ?_; rintro e w4 ⟨rfl, rfl⟩
      go_wp2_with fail
      refine (ip_n (n := (⟨[⟨1, 7, 0⟩, ⟨10, 7, 1⟩, ⟨11, 7, 2⟩], [⟨0, 0, 5, 9, 4, []⟩, ⟨0, 0, 6, 9, 4, []⟩], 9, []⟩ : Nt)) (j := 1) (x := ⟨0, 0, 6, 9, 4, []⟩) Q2.out rfl SA.out).mono ?_; rintro e w5 ⟨rfl, rfl⟩
      go_wp2
      go_ret
      exact ⟨rfl, hB.out.trans (SA.out.below.mono hB.out.size)⟩
    · as_aux_lemma =>
      have q0 : (i == 0) = false := by rw [beq_eq_false_iff_ne]; omega
      have q1 : (i == 1) = false := by rw [beq_eq_false_iff_ne]; omega
      have q5 : (i == 5) = false := by rw [beq_eq_false_iff_ne]; omega
      have q6 : (i == 6) = false := by rw [beq_eq_false_iff_ne]; omega
      have q10 : (i == 10) = false := by rw [beq_eq_false_iff_ne]; omega
      have q11 : (i == 11) = false := by rw [beq_eq_false_iff_ne]; omega
      have AN := Lib.hid (an2 II2)
      clear II2
      go_wp2_with fail
      refine (reb_l (n := anA) _ _ (congrArg Prod.fst (AN.out)) (congrArg Prod.snd (AN.out)) SA.out).mono ?_; rintro e w1 ⟨rfl, s⟩
      clear SA
      have SA := Lib.hid s
      clear s
      go_wp2_with fail
      refine (box_l (n := (⟨[⟨1, 7, 0⟩, ⟨10, 7, 1⟩, ⟨11, 7, 2⟩], [⟨0, 0, 5, 9, 4, []⟩, ⟨0, 0, i, 9, 4, []⟩], 9, []⟩ : Nt)) 1 0 rfl (by first | decide | simp) SA.out).mono ?_; rintro e w2 ⟨⟨q1, hq1, rfl⟩, s⟩
      have Q1 := Lib.hid hq1
      clear SA hq1
      have SA := Lib.hid s
      clear s
      go_wp2_with fail
      refine (box_l (n := (⟨[⟨1, 7, 0⟩, ⟨10, 7, 1⟩, ⟨11, 7, 2⟩], [⟨0, 0, 5, 9, 4, []⟩, ⟨0, 0, i, 9, 4, []⟩], 9, []⟩ : Nt)) 2 1 rfl (by first | decide | simp) SA.out).mono ?_; rintro e w3 ⟨⟨q2, hq2, rfl⟩, s⟩
      have Q2 := Lib.hid hq2
      clear SA hq2
      have SA := Lib.hid s
      clear s
      go_wp2_with fail
      refine (ip_n (n := (⟨[⟨1, 7, 0⟩, ⟨10, 7, 1⟩, ⟨11, 7, 2⟩], [⟨0, 0, 5, 9, 4, []⟩, ⟨0, 0, i, 9, 4, []⟩], 9, []⟩ : Nt)) (j := 0) (x := ⟨0, 0, 5, 9, 4, []⟩) Q1.out rfl SA.out).mono ?_; rintro e w4 ⟨rfl, rfl⟩
      go_wp2_with fail
      refine (ip_n (n := (⟨[⟨1, 7, 0⟩, ⟨10, 7, 1⟩, ⟨11, 7, 2⟩], [⟨0, 0, 5, 9, 4, []⟩, ⟨0, 0, i, 9, 4, []⟩], 9, []⟩ : Nt)) (j := 1) (x := ⟨0, 0, i, 9, 4, []⟩) Q2.out rfl SA.out).mono ?_; rintro e w5 ⟨rfl, rfl⟩
      go_wp2
      go_ret
      exact ⟨rfl, hB.out.trans (SA.out.below.mono hB.out.size)⟩
end Go.Proofs.Ytdpgmdkclaahdaa.Ne
namespace Go.Proofs.Ytdpgmdkclaahdaa
open Go.Sort Go.RowKit Go.BigFrame Go.ChangeShapes Go.WideShapes Go.ChangeAt
open Go.ChangeMaps (open_string shut_string)
set_option linter.unusedVariables false
set_option linter.unusedSimpArgs false
theorem anew_run (a b : Int) (w : World) (wa : (Lit.int .u8 a).wf = true) (wb : (Lit.int .u8 b).wf = true) :
    Calls Try.prog 7 #[.int .u8 a, .int .u8 b] w fun e w' => e = .returned (.bool true) ∧ Below w.heap.size w w' := Ne.anew_walk a b w wa wb
theorem netAnew_own : ownKnob Try.prog.godebug = none := by kernel_rfl
theorem netAnew_laid : laidOutB Try.prog = true := by kernel_rfl
set_option maxRecDepth 100000 in
theorem netAnew_lifted (os : Os) (started : os.Started) (H : Type) (enc : TypeId × Value → H) :
    ReturnsInHanded {} Try.checked os 7 .any (Rows.netAnewSpec.pre6 enc Try.prog Try.f7 Rows.netAnewRow.domain false) (Rows.netAnewSpec.post enc Try.prog Try.f7 false true false false) := by
  refine returnsInHanded_of_change (C := Try.checked) netAnew_own started (by kernel_rfl) Try.func7
    (ChangeSpec.witness6 (enc := enc) (C := Try.checked) false ⟨#[], #[.int .u8 0, .int .u8 0], []⟩ 8 (by kernel_rfl) (by kernel_rfl) (by kernel_rfl) (by kernel_rfl)) ?_
  intro W base args ds gs before hval0 hW hcnd _
  have hval : ∀ (j : Nat) t v, Try.f7.params[j]? = some t → args[j]? = some v → Value.okWide Try.prog W .any base t v := hval0
  have hW' := hW
  obtain ⟨p, q, hA0, hV, rfl, hfz, hnd⟩ := hW
  have hA : DataW.TrodAll enc Try.prog W 0 (fun _ => true) true Try.f7.params.toList args.toList ds p := hA0
  rw [Try.params7] at hA hval
  obtain ⟨v0, vs0, d0, ds0, p0, q0, hargs, rfl, rfl, h0, r0⟩ := trodAll_cons hA
  obtain ⟨v1, vs1, d1, ds1, p1, q1, rfl, rfl, rfl, h1, r1⟩ := trodAll_cons r0
  obtain ⟨rfl, rfl, rfl⟩ := trodAll_nil r1
  obtain rfl : args = #[v0, v1] := by cases args; simp_all
  obtain ⟨rfl, rfl⟩ := trodVars_none hV
  obtain ⟨a0, rfl, rfl, rfl, w0⟩ := open_int Try.underlying5 (hval 0 5 v0 rfl rfl) h0
  obtain ⟨a1, rfl, rfl, rfl, w1⟩ := open_int Try.underlying5 (hval 1 5 v1 rfl rfl) h1
  clear hA0 hval0
  refine (anew_run a0 a1 W w0 w1).mono fun e W' ⟨he, bel⟩ => ?_
  subst he
  exact ⟨_, rfl, _, _, _, [], _, [], hW', trodAll_mk1 (shut_bool Try.underlying4 _), (trodAll_cons_mk (shut_int Try.underlying5 w0) (trodAll_cons_mk (shut_int Try.underlying5 w1) trodAll_mk0)), rfl, bel.frame _, fun h => by cases h⟩
theorem netAnew_over : Rows.netAnewRow.holds Try.pinned (OpenSpec.ofChange Rows.netAnewSpec) :=
  OpenClaim.holds_of_wide 7 Try.f7 rfl rfl rfl rfl rfl rfl rfl ⟨rfl, rfl, rfl, rfl, rfl⟩ rfl rfl rfl rfl rfl (by kernel_rfl) Try.func7 (by kernel_rfl)
    (of_decide_eq_true (by kernel_rfl)) (by unfold Func.isWrapper; first | (rw [if_pos (by decide +kernel)]; kernel_rfl) | (rw [if_neg (by decide +kernel)]; exact ⟨rfl, rfl⟩))
    (fun os started H enc _ => netAnew_lifted os started H enc)
theorem netAnew_holds : Rows.NetAnewSaid := netAnew_over
#print axioms netAnew_holds
end Go.Proofs.Ytdpgmdkclaahdaa
