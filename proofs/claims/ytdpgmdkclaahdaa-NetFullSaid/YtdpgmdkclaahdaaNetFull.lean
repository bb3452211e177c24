/- The statement NetFull: what is sent with no room is refused, and the rest stays; what is none is refused; lost, or taken, it has made room: whatever the room, however many are sent. No conditions. -/
import Derived.Test.YtdpgmdkclaahdaaNeEx
import Derived.ChangeOld
import Derived.ChangeMaps5
import Derived.ShutString
import Derived.OpenShut
import Derived.SizedLaws
namespace Go.Proofs.Ytdpgmdkclaahdaa.Ne
open Go.Sort Go.RowKit Go.BigFrame Go.ChangeShapes Go.WideShapes Go.ChangeAt
open Go.ChangeMaps (open_string shut_string)
set_option linter.unusedVariables false
set_option linter.unusedSimpArgs false

def fuA (k : Nat) : Nt := ⟨[⟨1, 7, 0⟩, ⟨2, 7, 0⟩], [], k, []⟩
/-- behind so many that are sent -/
def fuS (k : Nat) : Nat → Nt
  | 0 => fuA k
  | i + 1 => (sendP (fuS k i) 0 1 2 7 ⟨#[120]⟩).2
def fuD (k c : Nat) : Nt := dropP (fuS k c) 0
def fuE (k c : Nat) : Nt := (sendP (fuD k c) 0 2 1 7 ⟨#[121]⟩).2
def fuB (k c : Nat) : Prop := (sendP (fuS k c) 0 1 2 7 ⟨#[120]⟩).1 = (if c < k then 0 else 4) ∧ (fuS k c).l.length = min c k ∧ (fuS k c).hs.length = 2 ∧ delE (fuS k c) 18446744073709551615 0 = (if c = 0 then 5 else 0) ∧ (sendP (fuD k c) 0 2 1 7 ⟨#[121]⟩).1 = 0 ∧ (fuE k c).l.length = (min c k - 1) + 1 ∧ delE (fuE k c) 0 0 = 5
instance (k c : Nat) : Decidable (fuB k c) := by unfold fuB; infer_instance
theorem fu_fin : ∀ (k : Fin 8) (c : Fin 12), fuB (k.val + 1) c.val := by decide +kernel
theorem fu_all {k c : Nat} (h1 : 1 ≤ k) (h2 : k ≤ 8) (h3 : c ≤ 11) : fuB k c := by
  have := fu_fin ⟨k - 1, by omega⟩ ⟨c, by omega⟩
  rwa [show (⟨k - 1, by omega⟩ : Fin 8).val + 1 = k by show k - 1 + 1 = k; omega] at this
theorem fuN {k : Nat} (h1 : 1 ≤ k) (h2 : k ≤ 8) : newN [⟨1, 7, 0⟩, ⟨2, 7, 0⟩] [] (k : Int) = some (fuA k) := by
  unfold newN
  rw [decide_eq_false (by omega : ¬ (k : Int) < 1), decide_eq_false (by omega : ¬ 256 < (k : Int))]
  rfl
theorem fuOk (k : Nat) : ∀ c, OkH (fuS k c)
  | 0 => by
    intro h hh
    simp only [fuS, fuA, List.mem_cons, List.not_mem_nil, or_false] at hh
    rcases hh with rfl | rfl
    · exact ⟨by decide, by decide, by simp [fuS, fuA]⟩
    · exact ⟨by decide, by decide, by simp [fuS, fuA]⟩
  | c + 1 => (fuOk k c).send _ _ _ _ _
theorem send_bad {n : Nt} (now host ti tp : Int) (b : ByteArray) (h : (n.hs.length : Int) < host ∨ Bg.noneA ti tp = true) : sendP n now host ti tp b = (1, n) := by
  unfold sendP
  rw [if_pos]
  rcases h with h | h <;> simp [h]
theorem delV_bad {n : Nt} {now pick e : Int} (h : delE n now pick = e) (he : ¬ e = 0) : delV n now pick = .tuple #[.agg #[.int .i64 0, .int .u32 0, .int .u16 0, .string ⟨#[]⟩], .int .i64 e] := by
  unfold delV delP
  rw [h, if_neg he]
  have : Bg.takeX now pick n.l = Bg.zI := by
    unfold delE at h
    unfold Bg.takeX; rw [h, if_neg he]
  rw [this]; rfl
def FuJ (wN : World) (m : Mem) (k c : Nat) (iv : Value) (wr : World) : Prop := ∃ i : Nat, i ≤ c ∧ iv = .int .i64 (i : Nat) ∧ NN wN m [] (fuS k i) wr
set_option maxHeartbeats 12800000 in
set_option maxRecDepth 10000000 in
theorem full_walk (room many : Int) (w : World) (wa : (Lit.int .u8 room).wf = true) (wb : (Lit.int .u8 many).wf = true) :
    Calls Try.prog 6 #[.int .u8 room, .int .u8 many] w fun e w' => e = .returned (.bool true) ∧ Below w.heap.size w w' := by
  obtain ⟨ha0, ha1⟩ := bounds_u8 wa
  obtain ⟨hb0, hb1⟩ := bounds_u8 wb
  obtain ⟨q, hq⟩ : ∃ q, room % 8 = q := ⟨_, rfl⟩
  obtain ⟨r, hr⟩ : ∃ r : Nat, many % 12 = r := ⟨(many % 12).toNat, by omega⟩
  obtain ⟨k, hk⟩ : ∃ k : Nat, 1 + q = k := ⟨(1 + q).toNat, by omega⟩
  have hq2 : room.tmod 8 = q := by rw [tmod_pos _ _ ha0]; exact hq
  have hr2 : many.tmod 12 = (r : Int) := by rw [tmod_pos _ _ hb0]; exact hr
  have q8 := IntWalk.u8_in q ⟨by omega, by omega⟩
  have q64 := IntWalk.i64_in q ⟨by omega, by omega⟩
  have r8 := IntWalk.u8_in (r : Int) ⟨by omega, by omega⟩
  have r64 := IntWalk.i64_in (r : Int) ⟨by omega, by omega⟩
  have k64 : IntKind.i64.wrap (1 + q) = (k : Int) := by rw [hk]; exact IntWalk.i64_in _ ⟨by omega, by omega⟩
  have hk1 : 1 ≤ k := by omega
  have hk8 : k ≤ 8 := by omega
  have hr11 : r ≤ 11 := by omega
  have HK := Lib.hid (⟨hk1, hk8, hr11⟩ : 1 ≤ k ∧ k ≤ 8 ∧ r ≤ 11)
  have HN := Lib.hid (fuN hk1 hk8)
  clear hq hr hk wa wb ha1 hb1 hk1 hk8 hr11
  go_enter Try.func6, Try.ntmps6
  go_wp2_with fail
  refine (ex_any _).mono ?_; rintro e x0 ⟨rfl, b0⟩
  have hA : Hid (Cs x0.heap.size [.int .u32 1, .int .u16 7] (((x0.alloc (.cells #[.int .u32 1, .int .u16 7] 28)).alloc (.cells #[.int .u32 2, .int .u16 7] 28)).alloc (.cells #[.int .u32 1, .int .u16 7, .int .i64 0, .int .u32 2, .int .u16 7, .int .i64 0] 34))) := (((Cs.new x0 [.int .u32 1, .int .u16 7] 28).alloc _).alloc _)
  have hB_ : Hid (Cs (x0.heap.size + 1) [.int .u32 2, .int .u16 7] (((x0.alloc (.cells #[.int .u32 1, .int .u16 7] 28)).alloc (.cells #[.int .u32 2, .int .u16 7] 28)).alloc (.cells #[.int .u32 1, .int .u16 7, .int .i64 0, .int .u32 2, .int .u16 7, .int .i64 0] 34))) := by
    have e : (x0.alloc (.cells #[.int .u32 1, .int .u16 7] 28)).heap.size = x0.heap.size + 1 := by simp
    rw [← e]
    exact ((Cs.new (x0.alloc (.cells #[.int .u32 1, .int .u16 7] 28)) [.int .u32 2, .int .u16 7] 28).alloc _)
  have hR : Hid (RdE cho 3 (((x0.alloc (.cells #[.int .u32 1, .int .u16 7] 28)).alloc (.cells #[.int .u32 2, .int .u16 7] 28)).alloc (.cells #[.int .u32 1, .int .u16 7, .int .i64 0, .int .u32 2, .int .u16 7, .int .i64 0] 34)) (some ⟨x0.heap.size + 1 + 1, 0, none⟩) [⟨1, 7, 0⟩, ⟨2, 7, 0⟩]) := by
    have e : ((x0.alloc (.cells #[.int .u32 1, .int .u16 7] 28)).alloc (.cells #[.int .u32 2, .int .u16 7] 28)).heap.size = x0.heap.size + 1 + 1 := by simp
    rw [← e]
    exact rd_cs cho_enc (Cs.new ((x0.alloc (.cells #[.int .u32 1, .int .u16 7] 28)).alloc (.cells #[.int .u32 2, .int .u16 7] 28)) [.int .u32 1, .int .u16 7, .int .i64 0, .int .u32 2, .int .u16 7, .int .i64 0] 34)
  have hB : Hid (Below w.heap.size w (((x0.alloc (.cells #[.int .u32 1, .int .u16 7] 28)).alloc (.cells #[.int .u32 2, .int .u16 7] 28)).alloc (.cells #[.int .u32 1, .int .u16 7, .int .i64 0, .int .u32 2, .int .u16 7, .int .i64 0] 34))) := (((b0.alloc (by have := b0.size; simp; omega) _).alloc (by have := b0.size; simp; omega) _).alloc (by have := b0.size; simp; omega) _)
  clear b0
  go_wp2_with fail
  generalize (((x0.alloc (.cells #[.int .u32 1, .int .u16 7] 28)).alloc (.cells #[.int .u32 2, .int .u16 7] 28)).alloc (.cells #[.int .u32 1, .int .u16 7, .int .i64 0, .int .u32 2, .int .u16 7, .int .i64 0] 34)) = wN at *
  generalize x0.heap.size = ga at *
  refine (new_l HN.out (some ⟨ga + 1 + 1, 0, none⟩) 2 none 0 (by simp) (by simp) (by simp) (by simp) wN hR.out rd_nil).mono ?_; rintro e w0 ⟨m, rfl, s⟩
  clear hR
  have SA := Lib.hid s
  clear s
  clear q8 q64 k64 hq2
  go_wp2_with fail
  refine (bag_n SA.out).mono ?_; rintro e w0_ ⟨rfl, rfl⟩
  go_wp2_with fail
  go_loopw [11] (fun iv wr => FuJ wN m k r iv wr) (fun iv _ => r - (intOf iv).toNat)
  case atStart => exact ⟨0, Nat.zero_le _, rfl, SA.out⟩
  case round =>
    obtain ⟨i, hi, rfl, s⟩ := hrel
    clear SA
    have SA := Lib.hid s
    clear s
    have hi0 : (0 : Int) ≤ i := by omega
    by_cases hlt : i < r
    · have hlt' : decide ((i : Int) < (r : Int)) = true := decide_eq_true (by omega)
      have hlt2 : (i : Int) < (r : Int) := by omega
      have FB := Lib.hid (fu_all (k := k) (c := i) HK.out.1 HK.out.2.1 (by have := HK.out.2.2; omega))
      have i64 := IntWalk.i64_in ((i : Int) + 1) ⟨by omega, by have := HK.out.2.2; omega⟩
      have HI := Lib.hid hlt
      by_cases hik : i < k
      · have hik2 : (i : Int) < (k : Int) := by omega
        have E := FB.out.1
        rw [if_pos hik] at E
        have a0 := (hB_.out.keep SA.out.below).cell 0 _ rfl; have a1 := (hB_.out.keep SA.out.below).cell 1 _ rfl; have al := (hB_.out.keep SA.out.below).lt
        have E2 := Lib.hid E
        clear E
        go_wp2_with fail
        refine (send_l (n := fuS k i) 0 1 2 7 ⟨#[120]⟩ E2.out (show _ = fuS k (i + 1) from rfl) (by decide) (by decide) (fuOk k i) SA.out).mono ?_; rintro e w1 ⟨rfl, s⟩
        clear SA
        clear a0 a1 al
        have SA := Lib.hid s
        clear s
        clear E2 FB
        go_wp2
        go_roundw
        case rel => exact ⟨i + 1, by have := HI.out; omega, by go_num, SA.out⟩
        case measure => simp [intOf]; have := HI.out; omega
      · have hik2 : ¬ (i : Int) < (k : Int) := by omega
        have hik3 : decide ((i : Int) < (k : Int)) = false := decide_eq_false hik2
        have E := FB.out.1
        rw [if_neg hik] at E
        have a0 := (hB_.out.keep SA.out.below).cell 0 _ rfl; have a1 := (hB_.out.keep SA.out.below).cell 1 _ rfl; have al := (hB_.out.keep SA.out.below).lt
        have E2 := Lib.hid E
        clear E
        go_wp2_with fail
        refine (send_l (n := fuS k i) 0 1 2 7 ⟨#[120]⟩ E2.out (show _ = fuS k (i + 1) from rfl) (by decide) (by decide) (fuOk k i) SA.out).mono ?_; rintro e w1 ⟨rfl, s⟩
        clear SA
        clear a0 a1 al
        have SA := Lib.hid s
        clear s
        clear E2 FB
        go_wp2
        go_roundw
        case rel => exact ⟨i + 1, by have := HI.out; omega, by go_num, SA.out⟩
        case measure => simp [intOf]; have := HI.out; omega
    · obtain rfl : i = r := by omega
      have hlt' : decide ((i : Int) < (i : Int)) = false := decide_eq_false (by omega)
      have FB := Lib.hid (fu_all (k := k) (c := i) HK.out.1 HK.out.2.1 HK.out.2.2)
      clear hlt hi
      by_cases h0 : i = 0
      · obtain ⟨z, hz⟩ : ∃ z : Nat, min i k = z := ⟨_, rfl⟩
        obtain ⟨y, hy⟩ : ∃ y : Int, max ((z : Int) - 1) 0 = y := ⟨_, rfl⟩
        obtain ⟨yl, hyl⟩ : ∃ yl : Nat, y + 1 = (yl : Int) := ⟨(y + 1).toNat, by omega⟩
        have hk3 := HK.out
        have hmin : min (i : Int) (k : Int) = (z : Int) := by omega
        have hw1 : IntKind.i64.wrap ((z : Int) - 1) = (z : Int) - 1 := IntWalk.i64_in _ ⟨by omega, by omega⟩
        have hw2 : IntKind.i64.wrap (y + 1) = (yl : Int) := by rw [hyl]; exact IntWalk.i64_in _ ⟨by omega, by omega⟩
        have z0 : ¬ (0 : Int) < z := by omega
        have z1 : ¬ 0 < z := by omega
        have HS := Lib.hid (show (fuS k i).l.length = z ∧ (fuS k i).hs.length = 2 ∧ delE (fuS k i) 18446744073709551615 0 = 5 ∧ (sendP (fuD k i) 0 2 1 7 ⟨#[121]⟩).1 = 0 ∧ (fuE k i).l.length = yl ∧ delE (fuE k i) 0 0 = 5 by
          obtain ⟨-, L1, L2, D1, E3, L3, D2⟩ := FB.out
          refine ⟨by omega, L2, ?_, E3, by omega, D2⟩
          rw [D1]; first | exact if_pos (by omega) | exact if_neg (by omega))
        clear FB h0 hk3 hz hyl
        go_wp2_with fail
        refine (bag_n SA.out).mono ?_; rintro e w50_ ⟨rfl, rfl⟩
        go_wp2_with fail
        refine (len_n (n := fuS k i) SA.out).mono ?_; rintro e w60_ ⟨rfl, rfl⟩
        rw [HS.out.1]
        have a0 := (hB_.out.keep SA.out.below).cell 0 _ rfl; have a1 := (hB_.out.keep SA.out.below).cell 1 _ rfl; have al := (hB_.out.keep SA.out.below).lt
        go_wp2_with fail
        refine (send_l (n := fuS k i) 0 3 2 7 ⟨#[120]⟩ (congrArg Prod.fst (send_bad _ _ _ _ _ (.inl (by rw [HS.out.2.1]; decide)))) (congrArg Prod.snd (send_bad _ _ _ _ _ (.inl (by rw [HS.out.2.1]; decide)))) (by decide) (by decide) (fuOk k i) SA.out).mono ?_; rintro e w1 ⟨rfl, s⟩
        clear SA
        clear a0 a1 al
        have SA := Lib.hid s
        clear s
        go_wp2_with fail
        refine (send_l (n := fuS k i) 0 1 0 0 ⟨#[120]⟩ (congrArg Prod.fst (send_bad _ _ _ _ _ (.inr (by decide)))) (congrArg Prod.snd (send_bad _ _ _ _ _ (.inr (by decide)))) (by decide) (by decide) (fuOk k i) SA.out).mono ?_; rintro e w2 ⟨rfl, s⟩
        clear SA
        have SA := Lib.hid s
        clear s
        go_wp2_with fail
        refine (drop_l (n := fuS k i) 0 HS.out.2.2.1 (show _ = fuD k i from rfl) (by decide) SA.out).mono ?_; rintro e w3 ⟨rfl, s⟩
        clear SA
        have SA := Lib.hid s
        clear s
        have a0 := (hA.out.keep SA.out.below).cell 0 _ rfl; have a1 := (hA.out.keep SA.out.below).cell 1 _ rfl; have al := (hA.out.keep SA.out.below).lt
        go_wp2_with fail
        refine (send_l (n := fuD k i) 0 2 1 7 ⟨#[121]⟩ HS.out.2.2.2.1 (show _ = fuE k i from rfl) (by decide) (by decide) (fuOk k i) SA.out).mono ?_; rintro e w4 ⟨rfl, s⟩
        clear SA
        clear a0 a1 al
        have SA := Lib.hid s
        clear s
        go_wp2_with fail
        refine (bag_n SA.out).mono ?_; rintro e w55_ ⟨rfl, rfl⟩
        go_wp2_with fail
        refine (len_n (n := fuE k i) SA.out).mono ?_; rintro e w65_ ⟨rfl, rfl⟩
        rw [HS.out.2.2.2.2.1]
        go_wp2_with fail
        refine (del_l (n := fuE k i) 0 0 (delV_bad HS.out.2.2.2.2.2 (by decide)) rfl (by decide) (by decide) SA.out).mono ?_; rintro e w6 ⟨rfl, s⟩
        clear SA
        have SA := Lib.hid s
        clear s
        have SB := Lib.hid SA.out.below
        clear SA HS
        go_wp2
        go_ret
        exact ⟨rfl, hB.out.trans ((SB.out.alloc SB.out.size _).mono hB.out.size)⟩
      · obtain ⟨z, hz⟩ : ∃ z : Nat, min i k = z := ⟨_, rfl⟩
        obtain ⟨y, hy⟩ : ∃ y : Int, max ((z : Int) - 1) 0 = y := ⟨_, rfl⟩
        obtain ⟨yl, hyl⟩ : ∃ yl : Nat, y + 1 = (yl : Int) := ⟨(y + 1).toNat, by omega⟩
        have hk3 := HK.out
        have hmin : min (i : Int) (k : Int) = (z : Int) := by omega
        have hw1 : IntKind.i64.wrap ((z : Int) - 1) = (z : Int) - 1 := IntWalk.i64_in _ ⟨by omega, by omega⟩
        have hw2 : IntKind.i64.wrap (y + 1) = (yl : Int) := by rw [hyl]; exact IntWalk.i64_in _ ⟨by omega, by omega⟩
        have z0 : (0 : Int) < z := by omega
        have z1 : 0 < z := by omega
        have HS := Lib.hid (show (fuS k i).l.length = z ∧ (fuS k i).hs.length = 2 ∧ delE (fuS k i) 18446744073709551615 0 = 0 ∧ (sendP (fuD k i) 0 2 1 7 ⟨#[121]⟩).1 = 0 ∧ (fuE k i).l.length = yl ∧ delE (fuE k i) 0 0 = 5 by
          obtain ⟨-, L1, L2, D1, E3, L3, D2⟩ := FB.out
          refine ⟨by omega, L2, ?_, E3, by omega, D2⟩
          rw [D1]; first | exact if_pos (by omega) | exact if_neg (by omega))
        clear FB h0 hk3 hz hyl
        go_wp2_with fail
        refine (bag_n SA.out).mono ?_; rintro e w50_ ⟨rfl, rfl⟩
        go_wp2_with fail
        refine (len_n (n := fuS k i) SA.out).mono ?_; rintro e w60_ ⟨rfl, rfl⟩
        rw [HS.out.1]
        have a0 := (hB_.out.keep SA.out.below).cell 0 _ rfl; have a1 := (hB_.out.keep SA.out.below).cell 1 _ rfl; have al := (hB_.out.keep SA.out.below).lt
        go_wp2_with fail
        refine (send_l (n := fuS k i) 0 3 2 7 ⟨#[120]⟩ (congrArg Prod.fst (send_bad _ _ _ _ _ (.inl (by rw [HS.out.2.1]; decide)))) (congrArg Prod.snd (send_bad _ _ _ _ _ (.inl (by rw [HS.out.2.1]; decide)))) (by decide) (by decide) (fuOk k i) SA.out).mono ?_; rintro e w1 ⟨rfl, s⟩
        clear SA
        clear a0 a1 al
        have SA := Lib.hid s
        clear s
        go_wp2_with fail
        refine (send_l (n := fuS k i) 0 1 0 0 ⟨#[120]⟩ (congrArg Prod.fst (send_bad _ _ _ _ _ (.inr (by decide)))) (congrArg Prod.snd (send_bad _ _ _ _ _ (.inr (by decide)))) (by decide) (by decide) (fuOk k i) SA.out).mono ?_; rintro e w2 ⟨rfl, s⟩
        clear SA
        have SA := Lib.hid s
        clear s
        go_wp2_with fail
        refine (drop_l (n := fuS k i) 0 HS.out.2.2.1 (show _ = fuD k i from rfl) (by decide) SA.out).mono ?_; rintro e w3 ⟨rfl, s⟩
        clear SA
        have SA := Lib.hid s
        clear s
        have a0 := (hA.out.keep SA.out.below).cell 0 _ rfl; have a1 := (hA.out.keep SA.out.below).cell 1 _ rfl; have al := (hA.out.keep SA.out.below).lt
        go_wp2_with fail
        refine (send_l (n := fuD k i) 0 2 1 7 ⟨#[121]⟩ HS.out.2.2.2.1 (show _ = fuE k i from rfl) (by decide) (by decide) (fuOk k i) SA.out).mono ?_; rintro e w4 ⟨rfl, s⟩
        clear SA
        clear a0 a1 al
        have SA := Lib.hid s
        clear s
        go_wp2_with fail
        refine (bag_n SA.out).mono ?_; rintro e w55_ ⟨rfl, rfl⟩
        go_wp2_with fail
        refine (len_n (n := fuE k i) SA.out).mono ?_; rintro e w65_ ⟨rfl, rfl⟩
        rw [HS.out.2.2.2.2.1]
        go_wp2_with fail
        refine (del_l (n := fuE k i) 0 0 (delV_bad HS.out.2.2.2.2.2 (by decide)) rfl (by decide) (by decide) SA.out).mono ?_; rintro e w6 ⟨rfl, s⟩
        clear SA
        have SA := Lib.hid s
        clear s
        have SB := Lib.hid SA.out.below
        clear SA HS
        go_wp2
        go_ret
        exact ⟨rfl, hB.out.trans ((SB.out.alloc SB.out.size _).mono hB.out.size)⟩
end Go.Proofs.Ytdpgmdkclaahdaa.Ne
namespace Go.Proofs.Ytdpgmdkclaahdaa
open Go.Sort Go.RowKit Go.BigFrame Go.ChangeShapes Go.WideShapes Go.ChangeAt
open Go.ChangeMaps (open_string shut_string)
set_option linter.unusedVariables false
set_option linter.unusedSimpArgs false
theorem full_run (a b : Int) (w : World) (wa : (Lit.int .u8 a).wf = true) (wb : (Lit.int .u8 b).wf = true) :
    Calls Try.prog 6 #[.int .u8 a, .int .u8 b] w fun e w' => e = .returned (.bool true) ∧ Below w.heap.size w w' := Ne.full_walk a b w wa wb
theorem netFull_own : ownKnob Try.prog.godebug = none := by kernel_rfl
theorem netFull_laid : laidOutB Try.prog = true := by kernel_rfl
set_option maxRecDepth 100000 in
theorem netFull_lifted (os : Os) (started : os.Started) (H : Type) (enc : TypeId × Value → H) :
    ReturnsInHanded {} Try.checked os 6 .any (Rows.netFullSpec.pre6 enc Try.prog Try.f6 Rows.netFullRow.domain false) (Rows.netFullSpec.post enc Try.prog Try.f6 false true false false) := by
  refine returnsInHanded_of_change (C := Try.checked) netFull_own started (by kernel_rfl) Try.func6
    (ChangeSpec.witness6 (enc := enc) (C := Try.checked) false ⟨#[], #[.int .u8 0, .int .u8 0], []⟩ 8 (by kernel_rfl) (by kernel_rfl) (by kernel_rfl) (by kernel_rfl)) ?_
  intro W base args ds gs before hval0 hW hcnd _
  have hval : ∀ (j : Nat) t v, Try.f6.params[j]? = some t → args[j]? = some v → Value.okWide Try.prog W .any base t v := hval0
  have hW' := hW
  obtain ⟨p, q, hA0, hV, rfl, hfz, hnd⟩ := hW
  have hA : DataW.TrodAll enc Try.prog W 0 (fun _ => true) true Try.f6.params.toList args.toList ds p := hA0
  rw [Try.params6] at hA hval
  obtain ⟨v0, vs0, d0, ds0, p0, q0, hargs, rfl, rfl, h0, r0⟩ := trodAll_cons hA
  obtain ⟨v1, vs1, d1, ds1, p1, q1, rfl, rfl, rfl, h1, r1⟩ := trodAll_cons r0
  obtain ⟨rfl, rfl, rfl⟩ := trodAll_nil r1
  obtain rfl : args = #[v0, v1] := by cases args; simp_all
  obtain ⟨rfl, rfl⟩ := trodVars_none hV
  obtain ⟨a0, rfl, rfl, rfl, w0⟩ := open_int Try.underlying5 (hval 0 5 v0 rfl rfl) h0
  obtain ⟨a1, rfl, rfl, rfl, w1⟩ := open_int Try.underlying5 (hval 1 5 v1 rfl rfl) h1
  clear hA0 hval0
  refine (full_run a0 a1 W w0 w1).mono fun e W' ⟨he, bel⟩ => ?_
  subst he
  exact ⟨_, rfl, _, _, _, [], _, [], hW', trodAll_mk1 (shut_bool Try.underlying4 _), (trodAll_cons_mk (shut_int Try.underlying5 w0) (trodAll_cons_mk (shut_int Try.underlying5 w1) trodAll_mk0)), rfl, bel.frame _, fun h => by cases h⟩
theorem netFull_over : Rows.netFullRow.holds Try.pinned (OpenSpec.ofChange Rows.netFullSpec) :=
  OpenClaim.holds_of_wide 6 Try.f6 rfl rfl rfl rfl rfl rfl rfl ⟨rfl, rfl, rfl, rfl, rfl⟩ rfl rfl rfl rfl rfl (by kernel_rfl) Try.func6 (by kernel_rfl)
    (of_decide_eq_true (by kernel_rfl)) (by unfold Func.isWrapper; first | (rw [if_pos (by decide +kernel)]; kernel_rfl) | (rw [if_neg (by decide +kernel)]; exact ⟨rfl, rfl⟩))
    (fun os started H enc _ => netFull_lifted os started H enc)
theorem netFull_holds : Rows.NetFullSaid := netFull_over
#print axioms netFull_holds
end Go.Proofs.Ytdpgmdkclaahdaa
