/- The statement NetDelays: what is sent comes one tick later, or later still, if it is delayed; made twice it comes twice, from where it was sent: whatever the time, by however much. No conditions. -/
import Derived.Test.YtdpgmdkclaahdaaNeEx
import Derived.ChangeOld
import Derived.ChangeMaps5
import Derived.ShutString
import Derived.OpenShut
import Derived.SizedLaws
namespace Go.Proofs.Ytdpgmdkclaahdaa.Ne
open Go.Sort Go.RowKit Go.BigFrame Go.ChangeShapes Go.WideShapes Go.ChangeAt
open Go.ChangeMaps (open_string shut_string)
set_option linter.unusedVariables false
set_option linter.unusedSimpArgs false

def deX (u : Int) : Bg.Pi := ⟨1, 7, 2, 7, ⟨#[120]⟩, u⟩
def deN (L : List Bg.Pi) : Nt := ⟨[⟨1, 7, 0⟩, ⟨2, 7, 0⟩], [], 4, L⟩
theorem deNew : newN [⟨1, 7, 0⟩, ⟨2, 7, 0⟩] [] 4 = some (deN []) := by kernel_rfl
theorem deOk (L : List Bg.Pi) : OkH (deN L) := by
  intro h hh
  simp only [deN, List.mem_cons, List.not_mem_nil, or_false] at hh
  rcases hh with rfl | rfl
  · exact ⟨by decide, by decide, by simp [deN]⟩
  · exact ⟨by decide, by decide, by simp [deN]⟩
theorem deSend {t : Int} (h : t ≤ 65535) : sendP (deN []) t 1 2 7 ⟨#[120]⟩ = (0, deN [deX (t + 1)]) := by
  have h1 : decide (4611686018427387904 < t) = false := decide_eq_false (by omega)
  have h2 : ¬ 4611686018427387904 < t := by omega
  unfold sendP
  rw [h1]
  have h3 : injP (deN []) t 1 7 2 7 ⟨#[120]⟩ = (0, deN [deX (t + 1)]) := by unfold injP; rw [if_neg h2]; rfl
  exact h3
theorem ready_all (u now : Int) (h : u ≤ now) (c : Nat) : Bg.readyP now (List.replicate c (deX u)) = c := by
  unfold Bg.readyP
  rw [List.filter_eq_self.2, List.length_replicate]
  intro x hx
  rw [List.eq_of_mem_replicate hx]
  exact decide_eq_true h
theorem ready_not (u now : Int) (h : now < u) (c : Nat) : Bg.readyP now (List.replicate c (deX u)) = 0 := by
  unfold Bg.readyP
  rw [List.filter_eq_nil_iff.2]; rfl
  intro x hx
  rw [List.eq_of_mem_replicate hx]
  unfold Bg.isR deX
  simp; omega
theorem pick_yes (u now : Int) (h : u ≤ now) (c : Nat) : Bg.pickE now 0 (List.replicate (c + 1) (deX u)) = (0, 0) := by
  unfold Bg.pickE
  rw [if_neg (by decide), ready_all u now h, if_neg (by omega), show (0 : Int).toNat % (c + 1) = 0 by simp, List.replicate_succ, Bg.nthR_cons, if_pos (show Bg.isR now (deX u) = true from decide_eq_true h), if_pos rfl]
theorem pick_not (u now : Int) (h : now < u) (c : Nat) : Bg.pickE now 0 (List.replicate c (deX u)) = (0, 5) := by
  unfold Bg.pickE
  rw [if_neg (by decide), ready_not u now h, if_pos rfl]
abbrev deR (c : Nat) (u : Int) : Nt := deN (List.replicate c (deX u))
theorem deE (u now : Int) (h : u ≤ now) (c : Nat) : delE (deR (c + 1) u) now 0 = 0 := by
  show (Bg.pickE now 0 (List.replicate (c + 1) (deX u))).2 = 0
  rw [pick_yes u now h]
theorem deTk (u now : Int) (h : u ≤ now) (c : Nat) : tkN (deR (c + 1) u) now 0 = deR c u ∧ Bg.takeX now 0 (List.replicate (c + 1) (deX u)) = deX u := by
  refine ⟨?_, ?_⟩
  · show deN (Bg.takeL now 0 (List.replicate (c + 1) (deX u))) = _
    unfold Bg.takeL; rw [pick_yes u now h]; rfl
  · unfold Bg.takeX; rw [pick_yes u now h]; rfl
theorem deArr (u now : Int) (L : List Bg.Pi) : arrP (deN L) now (deX u) = (2, deN L) := rfl
theorem deP (u now : Int) (h : u ≤ now) (c : Nat) : delP (deR (c + 1) u) now 0 = (2, deR c u) := by
  unfold delP
  rw [if_pos (deE u now h c), (deTk u now h c).1]
  show arrP (deR c u) now (Bg.takeX now 0 (List.replicate (c + 1) (deX u))) = _
  rw [(deTk u now h c).2, deArr]
theorem deV (u now : Int) (h : u ≤ now) (c : Nat) : delV (deR (c + 1) u) now 0 = .tuple #[.agg #[.int .i64 2, .int .u32 1, .int .u16 7, .string ⟨#[120]⟩], .int .i64 0] := by
  unfold delV
  rw [deP u now h c, deE u now h c]
  show Value.tuple #[.agg #[.int .i64 ((2 : Nat) : Int), .int .u32 (Bg.takeX now 0 (List.replicate (c + 1) (deX u))).fi, .int .u16 (Bg.takeX now 0 (List.replicate (c + 1) (deX u))).fp, .string (Bg.takeX now 0 (List.replicate (c + 1) (deX u))).b], .int .i64 0] = _
  rw [(deTk u now h c).2]; rfl
theorem deV0 (u now : Int) (h : now < u) (c : Nat) : delV (deR c u) now 0 = .tuple #[.agg #[.int .i64 0, .int .u32 0, .int .u16 0, .string ⟨#[]⟩], .int .i64 5] := by
  have e : delE (deR c u) now 0 = 5 := by
    show (Bg.pickE now 0 (List.replicate c (deX u))).2 = 5
    rw [pick_not u now h]
  unfold delV delP
  rw [e, if_neg (by decide)]
  have : Bg.takeX now 0 (deR c u).l = Bg.zI := by
    unfold Bg.takeX
    rw [show Bg.pickE now 0 (deR c u).l = (0, 5) from pick_not u now h c]; rfl
  rw [this]; rfl
theorem deP0 (u now : Int) (h : now < u) (c : Nat) : (delP (deR c u) now 0).2 = deR c u := by
  have e : delE (deR c u) now 0 = 5 := by
    show (Bg.pickE now 0 (List.replicate c (deX u))).2 = 5
    rw [pick_not u now h]
  unfold delP; rw [e, if_neg (by decide)]
theorem deDelay (u b v : Int) (h : u ≤ 18446744073709551615) (hv : Bg.laterP u b = v) : delayP (deR 1 u) 0 b = deR 1 v := by
  show deN (Bg.delayL 0 b (List.replicate (0 + 1) (deX u))) = _
  unfold Bg.delayL
  rw [pick_yes u _ h, if_pos rfl, ← hv]; rfl
theorem deTwice (u : Int) (h : u ≤ 18446744073709551615) : Bg.twiceE 4 0 (List.replicate 1 (deX u)) = 0 ∧ twiceP (deR 1 u) 0 = deR 2 u := by
  have e := pick_yes u 18446744073709551615 h 0
  have e1 : Bg.twiceE 4 0 (List.replicate 1 (deX u)) = 0 := by unfold Bg.twiceE; rw [e]; rfl
  refine ⟨e1, ?_⟩
  show deN (Bg.twiceL 4 0 (List.replicate 1 (deX u))) = _
  unfold Bg.twiceL; rw [e1, if_pos rfl, e]; rfl
def DeJ (wN : World) (m : Mem) (u : Int) (c : Nat) (iv : Value) (wr : World) : Prop := ∃ i : Nat, i ≤ c ∧ iv = .int .i64 (i : Nat) ∧ NN wN m [] (deR (c - i) u) wr
set_option maxHeartbeats 12800000 in
set_option maxRecDepth 10000000 in
theorem delays_walk (t b : Int) (tw : Bool) (w : World) (wa : (Lit.int .u16 t).wf = true) (wb : (Lit.int .u8 b).wf = true) :
    Calls Try.prog 8 #[.int .u16 t, .int .u8 b, .bool tw] w fun e w' => e = .returned (.bool true) ∧ Below w.heap.size w w' := by
  obtain ⟨ha0, ha1⟩ := bounds_u16 wa
  obtain ⟨hb0, hb1⟩ := bounds_u8 wb
  obtain ⟨u, hu⟩ : ∃ u, t + b + 1 = u := ⟨_, rfl⟩
  obtain ⟨v, hv⟩ : ∃ v, t + b = v := ⟨_, rfl⟩
  have t64 := IntWalk.u64_in t ⟨by omega, by omega⟩
  have b64 := IntWalk.u64_in b ⟨by omega, by omega⟩
  have v64 : IntKind.u64.wrap (t + b) = v := by rw [hv]; exact IntWalk.u64_in v ⟨by omega, by omega⟩
  have u64 : IntKind.u64.wrap (v + 1) = u := by rw [← hv, hu]; exact IntWalk.u64_in u ⟨by omega, by omega⟩
  have HL := Lib.hid (show Bg.laterP (t + 1) b = u by unfold Bg.laterP; rw [if_neg (by omega)]; omega)
  have HH := Lib.hid (show 0 ≤ t ∧ t ≤ 65535 ∧ 0 ≤ b ∧ b ≤ 255 ∧ v < u ∧ 0 ≤ v ∧ 0 ≤ u ∧ u ≤ 18446744073709551615 ∧ t + 1 ≤ 18446744073709551615 by omega)
  clear hu hv wa wb ha0 ha1 hb0 hb1
  go_enter Try.func8, Try.ntmps8
  go_wp2_with fail
  refine (ex_any _).mono ?_; rintro e x0 ⟨rfl, b0⟩
  have hA : Hid (Cs x0.heap.size [.int .u32 1, .int .u16 7] (((x0.alloc (.cells #[.int .u32 1, .int .u16 7] 28)).alloc (.cells #[.int .u32 2, .int .u16 7] 28)).alloc (.cells #[.int .u32 1, .int .u16 7, .int .i64 0, .int .u32 2, .int .u16 7, .int .i64 0] 34))) := (((Cs.new x0 [.int .u32 1, .int .u16 7] 28).alloc _).alloc _)
  have hB_ : Hid (Cs (x0.heap.size + 1) [.int .u32 2, .int .u16 7] (((x0.alloc (.cells #[.int .u32 1, .int .u16 7] 28)).alloc (.cells #[.int .u32 2, .int .u16 7] 28)).alloc (.cells #[.int .u32 1, .int .u16 7, .int .i64 0, .int .u32 2, .int .u16 7, .int .i64 0] 34))) := by
    have e : (x0.alloc (.cells #[.int .u32 1, .int .u16 7] 28)).heap.size = x0.heap.size + 1 := by simp
    rw [← e]
    exact ((Cs.new (x0.alloc (.cells #[.int .u32 1, .int .u16 7] 28)) [.int .u32 2, .int .u16 7] 28).alloc _)
  have hR : Hid (RdE cho 3 (((x0.alloc (.cells #[.int .u32 1, .int .u16 7] 28)).alloc (.cells #[.int .u32 2, .int .u16 7] 28)).alloc (.cells #[.int .u32 1, .int .u16 7, .int .i64 0, .int .u32 2, .int .u16 7, .int .i64 0] 34)) (some ⟨x0.heap.size + 1 + 1, 0, none⟩) [⟨1, 7, 0⟩, ⟨2, 7, 0⟩]) := by
    have e : ((x0.alloc (.cells #[.int .u32 1, .int .u16 7] 28)).alloc (.cells #[.int .u32 2, .int .u16 7] 28)).heap.size = x0.heap.size + 1 + 1 := by simp
    rw [← e]
    exact rd_cs cho_enc (Cs.new ((x0.alloc (.cells #[.int .u32 1, .int .u16 7] 28)).alloc (.cells #[.int .u32 2, .int .u16 7] 28)) [.int .u32 1, .int .u16 7, .int .i64 0, .int .u32 2, .int .u16 7, .int .i64 0] 34)
  have hB : Hid (Below w.heap.size w (((x0.alloc (.cells #[.int .u32 1, .int .u16 7] 28)).alloc (.cells #[.int .u32 2, .int .u16 7] 28)).alloc (.cells #[.int .u32 1, .int .u16 7, .int .i64 0, .int .u32 2, .int .u16 7, .int .i64 0] 34))) := (((b0.alloc (by have := b0.size; simp; omega) _).alloc (by have := b0.size; simp; omega) _).alloc (by have := b0.size; simp; omega) _)
  clear b0
  go_wp2_with fail
  generalize (((x0.alloc (.cells #[.int .u32 1, .int .u16 7] 28)).alloc (.cells #[.int .u32 2, .int .u16 7] 28)).alloc (.cells #[.int .u32 1, .int .u16 7, .int .i64 0, .int .u32 2, .int .u16 7, .int .i64 0] 34)) = wN at *
  generalize x0.heap.size = ga at *
  refine (new_l deNew (some ⟨ga + 1 + 1, 0, none⟩) 2 none 0 (by simp) (by simp) (by simp) (by simp) wN hR.out rd_nil).mono ?_; rintro e w0 ⟨m, rfl, s⟩
  clear hR
  have SA := Lib.hid s
  clear s
  go_wp2_with fail
  refine (bag_n SA.out).mono ?_; rintro e w0_ ⟨rfl, rfl⟩
  have a0 := (hB_.out.keep SA.out.below).cell 0 _ rfl; have a1 := (hB_.out.keep SA.out.below).cell 1 _ rfl; have al := (hB_.out.keep SA.out.below).lt
  go_wp2_with fail
  refine (send_l (n := deN []) t 1 2 7 ⟨#[120]⟩ (congrArg Prod.fst (deSend HH.out.2.1)) (show _ = deR 1 (t + 1) from congrArg Prod.snd (deSend HH.out.2.1)) HH.out.1 (by decide) (deOk _) SA.out).mono ?_; rintro e w1 ⟨rfl, s⟩
  clear SA
  clear a0 a1 al
  have SA := Lib.hid s
  clear s
  have KD := Lib.hid (fun s => delay_n (w0 := wN) (m := m) (H := []) (n := deR 1 (t + 1)) (w := w1) 0 b (by decide) ⟨HH.out.2.2.1, by have := HH.out; omega⟩ s)
  rw [deE (t + 1) 18446744073709551615 HH.out.2.2.2.2.2.2.2.2 0, deDelay (t + 1) b u HH.out.2.2.2.2.2.2.2.2 HL.out] at KD
  go_wp2_with fail
  refine (KD.out SA.out).mono ?_; rintro e w2 ⟨rfl, s⟩
  clear SA
  have SA := Lib.hid s
  clear s
  clear KD HL
  cases tw
  · as_aux_lemma =>
    go_wp2_with fail
    refine (del_l (n := deR 1 u) v 0 (deV0 u v HH.out.2.2.2.2.1 1) (deP0 u v HH.out.2.2.2.2.1 1) HH.out.2.2.2.2.2.1 (by decide) SA.out).mono ?_; rintro e w3 ⟨rfl, s⟩
    clear SA
    have SA := Lib.hid s
    clear s
    have s := (SA.out.new [.int .i64 0, .int .u32 0, .int .u16 0, .string ⟨#[]⟩] 42).drop
    replace s : NN wN m [] (deR 1 u) (w3.alloc (.cells #[.int .i64 0, .int .u32 0, .int .u16 0, .string ⟨#[]⟩] 42)) := s
    clear SA
    have SA := Lib.hid s
    clear s
    go_wp2_with fail
    go_loopw [18] (fun iv wr => DeJ wN m u 1 iv wr) (fun iv _ => 1 - (intOf iv).toNat)
    case atStart => exact ⟨0, Nat.zero_le _, rfl, SA.out⟩
    case round =>
      obtain ⟨i, hi, rfl, s⟩ := hrel
      clear SA
      have hi0 : (0 : Int) ≤ i := by omega
      by_cases hlt : i < 1
      · obtain ⟨d, hd⟩ : ∃ d, 1 - i = d + 1 := ⟨1 - i - 1, by omega⟩
        rw [hd] at s
        have SA := Lib.hid s
        have hlt' : decide ((i : Int) < 1) = true := decide_eq_true (by omega)
        have hlt2 : (i : Int) < 1 := by omega
        have i64 := IntWalk.i64_in ((i : Int) + 1) ⟨by omega, by omega⟩
        have HI := Lib.hid hlt
        have HD := Lib.hid hd
        clear s hd hi hlt
        go_wp2_with fail
        refine (del_l (n := deR (d + 1) u) u 0 (deV u u (Int.le_refl _) d) (congrArg Prod.snd (deP u u (Int.le_refl _) d)) HH.out.2.2.2.2.2.2.1 (by decide) SA.out).mono ?_; rintro e w9 ⟨rfl, s⟩
        clear SA
        have SA := Lib.hid s
        clear s
        have a0 := (hA.out.keep SA.out.below).cell 0 _ rfl; have a1 := (hA.out.keep SA.out.below).cell 1 _ rfl; have al := (hA.out.keep SA.out.below).lt
        go_wp2
        go_roundw
        case rel => exact ⟨i + 1, by have := HI.out; omega, by go_num, by
          rw [show 1 - (i + 1) = d by have := HD.out; omega]
          exact (SA.out.new [.int .i64 2, .int .u32 1, .int .u16 7, .string ⟨#[120]⟩] 42).drop⟩
        case measure => simp [intOf]; have := HI.out; omega
      · obtain rfl : i = 1 := by omega
        have SA := Lib.hid s
        clear s
        go_wp2_with fail
        refine (bag_n SA.out).mono ?_; rintro e w10 ⟨rfl, rfl⟩
        go_wp2_with fail
        refine (len_n SA.out).mono ?_; rintro e w11 ⟨rfl, rfl⟩
        rw [show (deR (1 - 1) u).l.length = 0 from rfl]
        go_wp2
        go_ret
        exact ⟨rfl, hB.out.trans (SA.out.below.mono hB.out.size)⟩
  · as_aux_lemma =>
    have KT := Lib.hid (fun s => twice_n (w0 := wN) (m := m) (H := []) (n := deR 1 u) (w := w2) 0 (by decide) s)
    rw [show Bg.twiceE (deR 1 u).room 0 (deR 1 u).l = 0 from (deTwice u HH.out.2.2.2.2.2.2.2.1).1, (deTwice u HH.out.2.2.2.2.2.2.2.1).2] at KT
    go_wp2_with fail
    refine (KT.out SA.out).mono ?_; rintro e w3 ⟨rfl, s⟩
    clear SA
    have SA := Lib.hid s
    clear s
    clear KT
    go_wp2_with fail
    refine (del_l (n := deR 2 u) v 0 (deV0 u v HH.out.2.2.2.2.1 2) (deP0 u v HH.out.2.2.2.2.1 2) HH.out.2.2.2.2.2.1 (by decide) SA.out).mono ?_; rintro e w4 ⟨rfl, s⟩
    clear SA
    have SA := Lib.hid s
    clear s
    have s := (SA.out.new [.int .i64 0, .int .u32 0, .int .u16 0, .string ⟨#[]⟩] 42).drop
    replace s : NN wN m [] (deR 2 u) (w4.alloc (.cells #[.int .i64 0, .int .u32 0, .int .u16 0, .string ⟨#[]⟩] 42)) := s
    clear SA
    have SA := Lib.hid s
    clear s
    go_wp2_with fail
    go_loopw [18] (fun iv wr => DeJ wN m u 2 iv wr) (fun iv _ => 2 - (intOf iv).toNat)
    case atStart => exact ⟨0, Nat.zero_le _, rfl, SA.out⟩
    case round =>
      obtain ⟨i, hi, rfl, s⟩ := hrel
      clear SA
      have hi0 : (0 : Int) ≤ i := by omega
      by_cases hlt : i < 2
      · obtain ⟨d, hd⟩ : ∃ d, 2 - i = d + 1 := ⟨2 - i - 1, by omega⟩
        rw [hd] at s
        have SA := Lib.hid s
        have hlt' : decide ((i : Int) < 2) = true := decide_eq_true (by omega)
        have hlt2 : (i : Int) < 2 := by omega
        have i64 := IntWalk.i64_in ((i : Int) + 1) ⟨by omega, by omega⟩
        have HI := Lib.hid hlt
        have HD := Lib.hid hd
        clear s hd hi hlt
        go_wp2_with fail
        refine (del_l (n := deR (d + 1) u) u 0 (deV u u (Int.le_refl _) d) (congrArg Prod.snd (deP u u (Int.le_refl _) d)) HH.out.2.2.2.2.2.2.1 (by decide) SA.out).mono ?_; rintro e w9 ⟨rfl, s⟩
        clear SA
        have SA := Lib.hid s
        clear s
        have a0 := (hA.out.keep SA.out.below).cell 0 _ rfl; have a1 := (hA.out.keep SA.out.below).cell 1 _ rfl; have al := (hA.out.keep SA.out.below).lt
        go_wp2
        go_roundw
        case rel => exact ⟨i + 1, by have := HI.out; omega, by go_num, by
          rw [show 2 - (i + 1) = d by have := HD.out; omega]
          exact (SA.out.new [.int .i64 2, .int .u32 1, .int .u16 7, .string ⟨#[120]⟩] 42).drop⟩
        case measure => simp [intOf]; have := HI.out; omega
      · obtain rfl : i = 2 := by omega
        have SA := Lib.hid s
        clear s
        go_wp2_with fail
        refine (bag_n SA.out).mono ?_; rintro e w10 ⟨rfl, rfl⟩
        go_wp2_with fail
        refine (len_n SA.out).mono ?_; rintro e w11 ⟨rfl, rfl⟩
        rw [show (deR (2 - 2) u).l.length = 0 from rfl]
        go_wp2
        go_ret
        exact ⟨rfl, hB.out.trans (SA.out.below.mono hB.out.size)⟩
end Go.Proofs.Ytdpgmdkclaahdaa.Ne
namespace Go.Proofs.Ytdpgmdkclaahdaa
open Go.Sort Go.RowKit Go.BigFrame Go.ChangeShapes Go.WideShapes Go.ChangeAt
open Go.ChangeMaps (open_string shut_string)
set_option linter.unusedVariables false
set_option linter.unusedSimpArgs false
theorem delays_run (t b : Int) (k : Bool) (w : World) (wa : (Lit.int .u16 t).wf = true) (wb : (Lit.int .u8 b).wf = true) :
    Calls Try.prog 8 #[.int .u16 t, .int .u8 b, .bool k] w fun e w' => e = .returned (.bool true) ∧ Below w.heap.size w w' := Ne.delays_walk t b k w wa wb
theorem netDelays_own : ownKnob Try.prog.godebug = none := by kernel_rfl
theorem netDelays_laid : laidOutB Try.prog = true := by kernel_rfl
set_option maxRecDepth 100000 in
theorem netDelays_lifted (os : Os) (started : os.Started) (H : Type) (enc : TypeId × Value → H) :
    ReturnsInHanded {} Try.checked os 8 .any (Rows.netDelaysSpec.pre6 enc Try.prog Try.f8 Rows.netDelaysRow.domain false) (Rows.netDelaysSpec.post enc Try.prog Try.f8 false true false false) := by
  refine returnsInHanded_of_change (C := Try.checked) netDelays_own started (by kernel_rfl) Try.func8
    (ChangeSpec.witness6 (enc := enc) (C := Try.checked) false ⟨#[], #[.int .u16 0, .int .u8 0, .bool false], []⟩ 8 (by kernel_rfl) (by kernel_rfl) (by kernel_rfl) (by kernel_rfl)) ?_
  intro W base args ds gs before hval0 hW hcnd _
  have hval : ∀ (j : Nat) t v, Try.f8.params[j]? = some t → args[j]? = some v → Value.okWide Try.prog W .any base t v := hval0
  have hW' := hW
  obtain ⟨p, q, hA0, hV, rfl, hfz, hnd⟩ := hW
  have hA : DataW.TrodAll enc Try.prog W 0 (fun _ => true) true Try.f8.params.toList args.toList ds p := hA0
  rw [Try.params8] at hA hval
  obtain ⟨v0, vs0, d0, ds0, p0, q0, hargs, rfl, rfl, h0, r0⟩ := trodAll_cons hA
  obtain ⟨v1, vs1, d1, ds1, p1, q1, rfl, rfl, rfl, h1, r1⟩ := trodAll_cons r0
  obtain ⟨v2, vs2, d2, ds2, p2, q2, rfl, rfl, rfl, h2, r2⟩ := trodAll_cons r1
  obtain ⟨rfl, rfl, rfl⟩ := trodAll_nil r2
  obtain rfl : args = #[v0, v1, v2] := by cases args; simp_all
  obtain ⟨rfl, rfl⟩ := trodVars_none hV
  obtain ⟨a0, rfl, rfl, rfl, w0⟩ := open_int Try.underlying26 (hval 0 26 v0 rfl rfl) h0
  obtain ⟨a1, rfl, rfl, rfl, w1⟩ := open_int Try.underlying5 (hval 1 5 v1 rfl rfl) h1
  obtain ⟨a2, rfl, rfl, rfl⟩ := open_bool Try.underlying4 (hval 2 4 v2 rfl rfl) h2
  clear hA0 hval0
  refine (delays_run a0 a1 a2 W w0 w1).mono fun e W' ⟨he, bel⟩ => ?_
  subst he
  exact ⟨_, rfl, _, _, _, [], _, [], hW', trodAll_mk1 (shut_bool Try.underlying4 _), (trodAll_cons_mk (shut_int Try.underlying26 w0) (trodAll_cons_mk (shut_int Try.underlying5 w1) (trodAll_cons_mk (shut_bool Try.underlying4 _) trodAll_mk0))), rfl, bel.frame _, fun h => by cases h⟩
theorem netDelays_over : Rows.netDelaysRow.holds Try.pinned (OpenSpec.ofChange Rows.netDelaysSpec) :=
  OpenClaim.holds_of_wide 8 Try.f8 rfl rfl rfl rfl rfl rfl rfl ⟨rfl, rfl, rfl, rfl, rfl⟩ rfl rfl rfl rfl rfl (by kernel_rfl) Try.func8 (by kernel_rfl)
    (of_decide_eq_true (by kernel_rfl)) (by unfold Func.isWrapper; first | (rw [if_pos (by decide +kernel)]; kernel_rfl) | (rw [if_neg (by decide +kernel)]; exact ⟨rfl, rfl⟩))
    (fun os started H enc _ => netDelays_lifted os started H enc)
theorem netDelays_holds : Rows.NetDelaysSaid := netDelays_over
#print axioms netDelays_holds
end Go.Proofs.Ytdpgmdkclaahdaa
