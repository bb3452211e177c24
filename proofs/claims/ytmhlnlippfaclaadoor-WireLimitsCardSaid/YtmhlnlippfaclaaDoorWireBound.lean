/- The law's three datagrams: which are put. -/
import Derived.Test.YtmhlnlippfaclaaDoorWireLoop
namespace Go.Proofs.YtmhlnlippfaclaaDoor
open Go.Sort Go.RowKit Go.BigFrame
set_option linter.unusedVariables false
set_option linter.unusedSimpArgs false

def pb0 : ByteArray := numB 1000000 4 ++ numB 1000000 4
theorem pb0_size : pb0.size ≤ 100 := by simp [pb0, ByteArray.size_append, numB_size]
def relayM (n : Nat) : Ms := ⟨5, 1, 0, 2, 0, 0, 0, 0, false, zeros n, none, 0, [], true, false, true, pb0⟩
def pingM (A : Option Addr) (cap k : Nat) (R : Rec) : Ms := ⟨1, 1, 0, 2, 0, 0, 0, 0, false, ⟨#[]⟩, A, cap, List.replicate k R, true, false, true, pb0⟩
def syncM (A : Option Addr) (cap k : Nat) (R : Rec) : Ms := ⟨15, 1, 0, 0, 0, 0, 0, 0, false, ⟨#[]⟩, A, cap, List.replicate k R, true, false, true, pb0⟩
theorem right_six {m : Ms} (hk : kindB m.k = true) (hf : nodeB m.f = true) {a b c d e f : Bool} (h0 : m.fits 0 = a) (h1 : m.fits 1 = b) (h2 : m.fits 2 = c) (h3 : m.fits 3 = d) (h4 : m.fits 4 = e) (h5 : m.fits 5 = f) :
    m.right = (((((a && b) && c) && d) && e) && f) := by
  unfold Ms.right
  rw [hk, hf, Ms.fitsUp, Ms.fitsUp, Ms.fitsUp, Ms.fitsUp, Ms.fitsUp, Ms.fitsUp, Ms.fitsUp, h0, h1, h2, h3, h4, h5]
  simp
theorem relay_right (n : Nat) : (relayM n).right = (decide (1 ≤ n) && decide (n ≤ 900)) := by
  have h4 : (relayM n).fits 4 = (decide (1 ≤ n) && decide (n ≤ 900)) := by
    show (decide (1 ≤ (zeros n).size) && decide ((zeros n).size ≤ 900)) = _
    rw [zeros_size]
  rw [right_six (m := relayM n) (a := true) (b := true) (c := true) (d := true) (f := true) rfl rfl rfl rfl rfl rfl h4 rfl]
  simp
theorem all_rep {R : Rec} (hR : R.right = true) (k : Nat) : (List.replicate k R).all Rec.right = true := by
  rw [List.all_eq_true]; intro r hr; rw [List.eq_of_mem_replicate hr]; exact hR
theorem ping_right (A : Option Addr) (cap k : Nat) (R : Rec) (hR : R.right = true) : (pingM A cap k R).right = decide (k ≤ 8) := by
  have h5 : (pingM A cap k R).fits 5 = decide (k ≤ 8) := by
    show (decide ((List.replicate k R).length ≤ 8) && (List.replicate k R).all Rec.right) = _
    rw [List.length_replicate, all_rep hR]; simp
  rw [right_six (m := pingM A cap k R) (a := true) (b := true) (c := true) (d := true) (e := true) rfl rfl rfl rfl rfl rfl rfl h5]
  simp
theorem sync_right (A : Option Addr) (cap k : Nat) (R : Rec) (hR : R.right = true) : (syncM A cap k R).right = decide (k ≤ 32) := by
  have h5 : (syncM A cap k R).fits 5 = decide (k ≤ 32) := by
    show (decide ((List.replicate k R).length ≤ 32) && (List.replicate k R).all Rec.right) = _
    rw [List.length_replicate, all_rep hR]; simp
  rw [right_six (m := syncM A cap k R) (a := true) (b := true) (c := true) (d := true) (e := true) rfl rfl rfl rfl rfl rfl rfl h5]
  simp
theorem ok_rep {R : Rec} (hR : R.Ok) (k : Nat) : OkAll (List.replicate k R) := fun r hr => by rw [List.eq_of_mem_replicate hr]; exact hR
theorem relay_ok (n : Nat) (h : n < 1100) : (relayM n).Ok := ⟨by show 5 < 17; omega, by show 0 < _; omega, by show 0 < _; omega, by show 0 < _; omega, okAll_nil, by show 0 ≤ _; omega, by show (zeros n).size ≤ _; rw [zeros_size]; omega, pl_zero, pb0_size⟩
theorem ping_ok (A : Option Addr) (cap k : Nat) (R : Rec) (hR : R.Ok) (h : k < 40) : (pingM A cap k R).Ok := ⟨by show 1 < 17; omega, by show 0 < _; omega, by show 0 < _; omega, by show 0 < _; omega, ok_rep hR k, by show (List.replicate k R).length ≤ _; rw [List.length_replicate]; omega, by show 0 ≤ _; omega, pl_zero, pb0_size⟩
theorem sync_ok (A : Option Addr) (cap k : Nat) (R : Rec) (hR : R.Ok) (h : k < 40) : (syncM A cap k R).Ok := ⟨by show 15 < 17; omega, by show 0 < _; omega, by show 0 < _; omega, by show 0 < _; omega, ok_rep hR k, by show (List.replicate k R).length ≤ _; rw [List.length_replicate]; omega, by show 0 ≤ _; omega, pl_zero, pb0_size⟩
theorem relay_size (n : Nat) (h : n ≤ 900) : ((relayM n).putUp 6).size ≤ 1024 := by
  have e : (relayM n).putUp 6 = ((relayM n).head ++ (relayM n).putF 0) ++ (relayM n).putF 4 := rfl
  rw [e, ByteArray.size_append, ByteArray.size_append, head_size]
  have h0 : ((relayM n).putF 0).size = 1 := numB_size _ 1
  have h4 : ((relayM n).putF 4).size = 2 + n := by
    show (numB (zeros n).size 2 ++ zeros n).size = _
    rw [ByteArray.size_append, numB_size, zeros_size]
  omega
theorem news_size (k : Nat) (R : Rec) : (numB (List.replicate k R).length 1 ++ newsP (List.replicate k R)).size = 1 + 12 * k := by
  rw [ByteArray.size_append, numB_size, newsP_size, List.length_replicate]
theorem ping_size (A : Option Addr) (cap k : Nat) (R : Rec) (h : k ≤ 8) : ((pingM A cap k R).putUp 6).size ≤ 1024 := by
  have e : (pingM A cap k R).putUp 6 = ((pingM A cap k R).head ++ (pingM A cap k R).putF 0) ++ (pingM A cap k R).putF 5 := rfl
  rw [e, ByteArray.size_append, ByteArray.size_append, head_size]
  have h0 : ((pingM A cap k R).putF 0).size = 1 := numB_size _ 1
  have h5 : ((pingM A cap k R).putF 5).size = 1 + 12 * k := news_size k R
  omega
theorem sync_size (A : Option Addr) (cap k : Nat) (R : Rec) (h : k ≤ 32) : ((syncM A cap k R).putUp 6).size ≤ 1024 := by
  have e : (syncM A cap k R).putUp 6 = ((syncM A cap k R).head ++ (syncM A cap k R).putF 3) ++ (syncM A cap k R).putF 5 := rfl
  rw [e, ByteArray.size_append, ByteArray.size_append, head_size]
  have h0 : ((syncM A cap k R).putF 3).size = 1 := numB_size _ 1
  have h5 : ((syncM A cap k R).putF 5).size = 1 + 12 * k := news_size k R
  omega
theorem put_relay (n : Nat) (h : n < 1100) : ∃ S : ByteArray, ∀ w, Tab w → Calls Tryd.prog 6 #[.agg #[.int .i64 5, .int .i64 1, .int .u32 0, .int .i64 2, .int .u32 0, .int .u16 0, .complex .f64 0 0, .bool false, .string (zeros n), .slice none 0 0]] w fun e w' => e = .returned (.tuple #[.string S, .bool (decide (1 ≤ n) && decide (n ≤ 900))]) ∧ Below w.heap.size w w' := by
  cases hr : (decide (1 ≤ n) && decide (n ≤ 900))
  · exact ⟨⟨#[]⟩, fun w ht => put_none (relayM n) (relay_ok n h) (by rw [relay_right]; exact hr) w ⟨RdR.nil _ _ _, ht⟩⟩
  · rw [Bool.and_eq_true] at hr
    have h9 := of_decide_eq_true hr.2
    exact ⟨_, fun w ht => put_some (relayM n) (relay_ok n h) (by rw [relay_right, hr.1, hr.2]; rfl) (relay_size n h9) w ⟨RdR.nil _ _ _, ht⟩⟩
theorem put_ping (A : Option Addr) (cap k : Nat) (R : Rec) (hR : R.Ok) (hr : R.right = true) (h : k < 40) : ∃ S : ByteArray, ∀ w, Tab w → RdR w w.heap.size A (List.replicate k R) → Calls Tryd.prog 6 #[.agg #[.int .i64 1, .int .i64 1, .int .u32 0, .int .i64 2, .int .u32 0, .int .u16 0, .complex .f64 0 0, .bool false, .string ⟨#[]⟩, .slice A k cap]] w fun e w' => e = .returned (.tuple #[.string S, .bool (decide (k ≤ 8))]) ∧ Below w.heap.size w w' := by
  have el : (pingM A cap k R).rs.length = k := List.length_replicate
  by_cases hk : k ≤ 8
  · refine ⟨(pingM A cap k R).putUp 6, fun w ht hd => ?_⟩
    have p := put_some (pingM A cap k R) (ping_ok A cap k R hR h) (by rw [ping_right A cap k R hr]; exact decide_eq_true hk) (ping_size A cap k R hk) w ⟨hd, ht⟩
    rw [el] at p
    rw [decide_eq_true hk]
    exact p
  · refine ⟨⟨#[]⟩, fun w ht hd => ?_⟩
    have p := put_none (pingM A cap k R) (ping_ok A cap k R hR h) (by rw [ping_right A cap k R hr]; exact decide_eq_false hk) w ⟨hd, ht⟩
    rw [el] at p
    rw [decide_eq_false hk]
    exact p
theorem put_sync (A : Option Addr) (cap k : Nat) (R : Rec) (hR : R.Ok) (hr : R.right = true) (h : k < 40) : ∃ S : ByteArray, ∀ w, Tab w → RdR w w.heap.size A (List.replicate k R) → Calls Tryd.prog 6 #[.agg #[.int .i64 15, .int .i64 1, .int .u32 0, .int .i64 0, .int .u32 0, .int .u16 0, .complex .f64 0 0, .bool false, .string ⟨#[]⟩, .slice A k cap]] w fun e w' => e = .returned (.tuple #[.string S, .bool (decide (k ≤ 32))]) ∧ Below w.heap.size w w' := by
  have el : (syncM A cap k R).rs.length = k := List.length_replicate
  by_cases hk : k ≤ 32
  · refine ⟨(syncM A cap k R).putUp 6, fun w ht hd => ?_⟩
    have p := put_some (syncM A cap k R) (sync_ok A cap k R hR h) (by rw [sync_right A cap k R hr]; exact decide_eq_true hk) (sync_size A cap k R hk) w ⟨hd, ht⟩
    rw [el] at p
    rw [decide_eq_true hk]
    exact p
  · refine ⟨⟨#[]⟩, fun w ht hd => ?_⟩
    have p := put_none (syncM A cap k R) (sync_ok A cap k R hR h) (by rw [sync_right A cap k R hr]; exact decide_eq_false hk) w ⟨hd, ht⟩
    rw [el] at p
    rw [decide_eq_false hk]
    exact p
/-- the error that Get answers for that many zeros -/
def errZ (n : Nat) : Int := if n ≤ 24 then 2 else 3
theorem get_Z (n : Nat) (h : n < 1100) (w : World) (ht : Tab w) : Calls Tryd.prog 7 #[.string (zeros (1000 + n))] w fun e w' => e = .returned (.tuple #[.agg #[.int .i64 0, .int .i64 0, .int .u32 0, .int .i64 0, .int .u32 0, .int .u16 0, .complex .f64 0 0, .bool false, .string ⟨#[]⟩, .slice none 0 0], .int .i64 (errZ n)]) ∧ Below w.heap.size w w' := by
  unfold errZ
  by_cases hn : n ≤ 24
  · rw [if_pos hn]; exact get_zeros (1000 + n) (by omega) (by omega) w ht
  · rw [if_neg hn]; exact get_zeros_long (1000 + n) (by omega) (by omega) w
end Go.Proofs.YtmhlnlippfaclaaDoor
