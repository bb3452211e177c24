/- Contracts of None, Private, Order (both programs) and of ref. -/
import Derived.Test.YtdihpiggknhojaaDoorAddrPut
import Derived.Laws.BitsAllLaws
namespace Go.Proofs.YtdihpiggknhojaaDoor
open Go.RowKit
set_option linter.unusedVariables false
set_option linter.unusedSimpArgs false

def noneI (ip port : Nat) : Bool := decide (ip = 0) || decide (port = 0)
def privI (ip : Nat) : Bool := decide (ip / 16777216 = 10) || (decide (ip / 1048576 = 2753) || decide (ip / 65536 = 49320))
def ordI (a p b q : Nat) : Int := if a = b ∧ p = q then 0 else if a < b ∨ (a = b ∧ p < q) then -1 else 1

theorem bool_ret {b c : Bool} (h : b = c) : Ending.returned (Value.bool b) = Ending.returned (Value.bool c) := by rw [h]
theorem none_any (ip port : Nat) (h1 : ip < 4294967296) (h2 : port < 65536) (w : World) :
    Calls Tryd.prog 15 #[.agg #[.int .u32 ip, .int .u16 port]] w fun e w' => e = .returned (.bool (noneI ip port)) ∧ Below w.heap.size w w' := by
  unfold noneI
  by_cases h : ip = 0
  · subst h
    go_enter Tryd.func15, Tryd.ntmps15
    go_wp2
    go_ret
    exact ⟨rfl, by (repeat (first | exact Below.refl _ _ | refine Below.drew ?_ | refine below_drewN ?_ _ | refine Below.alloc ?_ (by first | omega | (simp; done) | (simp; omega)) _ | refine Below.setCell ?_ (by first | omega | (simp; done) | (simp; omega)) _))⟩
  · go_enter Tryd.func15, Tryd.ntmps15
    go_wp2
    go_ret
    refine ⟨?_, by (repeat (first | exact Below.refl _ _ | refine Below.drew ?_ | refine below_drewN ?_ _ | refine Below.alloc ?_ (by first | omega | (simp; done) | (simp; omega)) _ | refine Below.setCell ?_ (by first | omega | (simp; done) | (simp; omega)) _))⟩
    exact bool_ret (by rw [Bool.eq_iff_iff]; simp [h])
theorem rnone_any (ip port : Nat) (h1 : ip < 4294967296) (h2 : port < 65536) (w : World) :
    Calls Tryd.prog 16 #[.agg #[.int .u32 ip, .int .u16 port]] w fun e w' => e = .returned (.bool (noneI ip port)) ∧ Below w.heap.size w w' := by
  unfold noneI
  by_cases h : ip = 0
  · subst h
    go_enter Tryd.func16, Tryd.ntmps16
    go_wp2
    go_ret
    exact ⟨rfl, by (repeat (first | exact Below.refl _ _ | refine Below.drew ?_ | refine below_drewN ?_ _ | refine Below.alloc ?_ (by first | omega | (simp; done) | (simp; omega)) _ | refine Below.setCell ?_ (by first | omega | (simp; done) | (simp; omega)) _))⟩
  · go_enter Tryd.func16, Tryd.ntmps16
    go_wp2
    go_ret
    refine ⟨?_, by (repeat (first | exact Below.refl _ _ | refine Below.drew ?_ | refine below_drewN ?_ _ | refine Below.alloc ?_ (by first | omega | (simp; done) | (simp; omega)) _ | refine Below.setCell ?_ (by first | omega | (simp; done) | (simp; omega)) _))⟩
    exact bool_ret (by rw [Bool.eq_iff_iff]; simp [h])

theorem xor_high (a b k : Nat) : (a ^^^ b) / 2 ^ k = 0 ↔ a / 2 ^ k = b / 2 ^ k := by
  rw [← Nat.shiftRight_eq_div_pow, ← Nat.shiftRight_eq_div_pow, ← Nat.shiftRight_eq_div_pow, Nat.shiftRight_xor_distrib]
  constructor
  · intro h
    have h2 := congrArg (fun x => x ^^^ (b >>> k)) h
    simpa [Nat.xor_assoc] using h2
  · intro h; rw [h, Nat.xor_self]
theorem inside_at (ip net : Nat) (bs k c : Nat) (h1 : ip < 4294967296) (hn : net < 4294967296) (hb : bs ≤ 32) (hk : k = 32 - bs) (hc : net / 2 ^ k = c) (w : World) :
    Calls Tryd.prog 33 #[.int .u32 ip, .int .u32 net, .int .u64 bs] w fun e w' => e = .returned (.bool (decide (ip / 2 ^ k = c))) ∧ w = w' := by
  have hx := u32_xor_nat ip net h1 hn
  have hh := xor_high ip net k
  rw [hc] at hh
  generalize ip ^^^ net = x at hx hh
  have e : decide (ip / 2 ^ k = c) = decide (x / 2 ^ k = 0) := by rw [Bool.eq_iff_iff]; simp [hh]
  rw [e]
  clear hh e hc
  have hw := IntWalk.u64_in (32 - (bs : Int)) ⟨by omega, by omega⟩
  have hk2 : (32 : Int) - bs = (k : Int) := by omega
  rw [hk2] at hw
  go_enter Tryd.func33, Tryd.ntmps33
  go_wp2
  go_ret
  refine ⟨bool_ret ?_, rfl⟩
  rw [Bool.eq_iff_iff, ← hk]
  simp only [beq_iff_eq, decide_eq_true_eq]
  constructor
  · intro h; exact_mod_cast h
  · intro h; exact_mod_cast h

theorem priv_any (ip port : Nat) (h1 : ip < 4294967296) (h2 : port < 65536) (w : World) :
    Calls Tryd.prog 17 #[.agg #[.int .u32 ip, .int .u16 port]] w fun e w' => e = .returned (.bool (privI ip)) ∧ Below w.heap.size w w' := by
  have i1 := Lib.hid (fun w => inside_at ip 167772160 8 24 10 h1 (by omega) (by omega) rfl rfl w)
  have i2 := Lib.hid (fun w => inside_at ip 2886729728 12 20 2753 h1 (by omega) (by omega) rfl rfl w)
  have i3 := Lib.hid (fun w => inside_at ip 3232235520 16 16 49320 h1 (by omega) (by omega) rfl rfl w)
  unfold privI
  by_cases c1 : ip / 16777216 = 10
  · have d1 : decide (ip / 2 ^ 24 = 10) = true := by simpa using c1
    rw [show decide (ip / 16777216 = 10) = true by simpa using c1, Bool.true_or]
    go_enter Tryd.func17, Tryd.ntmps17
    go_wp2_with fail
    refine (i1.out _).mono ?_; rintro e w1 ⟨rfl, rfl⟩; rw [d1]
    go_wp2
    go_ret
    exact ⟨rfl, by (repeat (first | exact Below.refl _ _ | refine Below.drew ?_ | refine below_drewN ?_ _ | refine Below.alloc ?_ (by first | omega | (simp; done) | (simp; omega)) _ | refine Below.setCell ?_ (by first | omega | (simp; done) | (simp; omega)) _))⟩
  · have d1 : decide (ip / 2 ^ 24 = 10) = false := by simpa using c1
    rw [show decide (ip / 16777216 = 10) = false by simpa using c1, Bool.false_or]
    by_cases c2 : ip / 1048576 = 2753
    · have d2 : decide (ip / 2 ^ 20 = 2753) = true := by simpa using c2
      rw [show decide (ip / 1048576 = 2753) = true by simpa using c2, Bool.true_or]
      go_enter Tryd.func17, Tryd.ntmps17
      go_wp2_with fail
      refine (i1.out _).mono ?_; rintro e w1 ⟨rfl, rfl⟩; rw [d1]
      go_wp2_with fail
      refine (i2.out _).mono ?_; rintro e w1 ⟨rfl, rfl⟩; rw [d2]
      go_wp2
      go_ret
      exact ⟨rfl, by (repeat (first | exact Below.refl _ _ | refine Below.drew ?_ | refine below_drewN ?_ _ | refine Below.alloc ?_ (by first | omega | (simp; done) | (simp; omega)) _ | refine Below.setCell ?_ (by first | omega | (simp; done) | (simp; omega)) _))⟩
    · have d2 : decide (ip / 2 ^ 20 = 2753) = false := by simpa using c2
      rw [show decide (ip / 1048576 = 2753) = false by simpa using c2, Bool.false_or]
      go_enter Tryd.func17, Tryd.ntmps17
      go_wp2_with fail
      refine (i1.out _).mono ?_; rintro e w1 ⟨rfl, rfl⟩; rw [d1]
      go_wp2_with fail
      refine (i2.out _).mono ?_; rintro e w1 ⟨rfl, rfl⟩; rw [d2]
      go_wp2_with fail
      refine (i3.out _).mono ?_; rintro e w1 ⟨rfl, rfl⟩
      go_wp2
      go_ret
      exact ⟨bool_ret (by simp), by (repeat (first | exact Below.refl _ _ | refine Below.drew ?_ | refine below_drewN ?_ _ | refine Below.alloc ?_ (by first | omega | (simp; done) | (simp; omega)) _ | refine Below.setCell ?_ (by first | omega | (simp; done) | (simp; omega)) _))⟩
theorem rpriv_any (ip port : Nat) (h1 : ip < 4294967296) (h2 : port < 65536) (w : World) :
    Calls Tryd.prog 18 #[.agg #[.int .u32 ip, .int .u16 port]] w fun e w' => e = .returned (.bool (privI ip)) ∧ Below w.heap.size w w' := by
  unfold privI
  by_cases c1 : ip / 16777216 = 10
  · have d1 : (ip : Int) / 16777216 = 10 := by omega
    rw [show decide (ip / 16777216 = 10) = true by simpa using c1, Bool.true_or]
    clear c1
    go_enter Tryd.func18, Tryd.ntmps18
    go_wp2
    go_ret
    exact ⟨rfl, by (repeat (first | exact Below.refl _ _ | refine Below.drew ?_ | refine below_drewN ?_ _ | refine Below.alloc ?_ (by first | omega | (simp; done) | (simp; omega)) _ | refine Below.setCell ?_ (by first | omega | (simp; done) | (simp; omega)) _))⟩
  · have d1 : ¬ (ip : Int) / 16777216 = 10 := by omega
    rw [show decide (ip / 16777216 = 10) = false by simpa using c1, Bool.false_or]
    clear c1
    by_cases c2 : ip / 1048576 = 2753
    · have d2 : (ip : Int) / 1048576 = 2753 := by omega
      rw [show decide (ip / 1048576 = 2753) = true by simpa using c2, Bool.true_or]
      clear c2
      go_enter Tryd.func18, Tryd.ntmps18
      go_wp2
      go_ret
      exact ⟨rfl, by (repeat (first | exact Below.refl _ _ | refine Below.drew ?_ | refine below_drewN ?_ _ | refine Below.alloc ?_ (by first | omega | (simp; done) | (simp; omega)) _ | refine Below.setCell ?_ (by first | omega | (simp; done) | (simp; omega)) _))⟩
    · have d2 : ¬ (ip : Int) / 1048576 = 2753 := by omega
      rw [show decide (ip / 1048576 = 2753) = false by simpa using c2, Bool.false_or]
      clear c2
      go_enter Tryd.func18, Tryd.ntmps18
      go_wp2
      go_ret
      exact ⟨bool_ret (by rw [Bool.eq_iff_iff]; simp; omega), by (repeat (first | exact Below.refl _ _ | refine Below.drew ?_ | refine below_drewN ?_ _ | refine Below.alloc ?_ (by first | omega | (simp; done) | (simp; omega)) _ | refine Below.setCell ?_ (by first | omega | (simp; done) | (simp; omega)) _))⟩

theorem order_any (a p b q : Nat) (h1 : a < 4294967296) (h2 : p < 65536) (h3 : b < 4294967296) (h4 : q < 65536) (w : World) :
    Calls Tryd.prog 19 #[.agg #[.int .u32 a, .int .u16 p], .agg #[.int .u32 b, .int .u16 q]] w fun e w' => e = .returned (.int .i64 (ordI a p b q)) ∧ Below w.heap.size w w' := by
  rcases Nat.lt_trichotomy a b with c | c | c
  · rw [show ordI a p b q = -1 by unfold ordI; rw [if_neg (by omega), if_pos (by omega)]]
    have n1 : (a : Int) < b := by omega
    have n2 : ¬ (a : Int) = b := by omega
    have n3 : ¬ a = b := by omega
    clear c
    go_enter Tryd.func19, Tryd.ntmps19
    go_wp2
    go_ret
    exact ⟨rfl, by (repeat (first | exact Below.refl _ _ | refine Below.drew ?_ | refine below_drewN ?_ _ | refine Below.alloc ?_ (by first | omega | (simp; done) | (simp; omega)) _ | refine Below.setCell ?_ (by first | omega | (simp; done) | (simp; omega)) _))⟩
  · subst c
    rcases Nat.lt_trichotomy p q with c | c | c
    · rw [show ordI a p a q = -1 by unfold ordI; rw [if_neg (by omega), if_pos (by omega)]]
      have n1 : (p : Int) < q := by omega
      have n2 : ¬ (p : Int) = q := by omega
      have n3 : ¬ p = q := by omega
      clear c
      go_enter Tryd.func19, Tryd.ntmps19
      go_wp2
      go_ret
      exact ⟨rfl, by (repeat (first | exact Below.refl _ _ | refine Below.drew ?_ | refine below_drewN ?_ _ | refine Below.alloc ?_ (by first | omega | (simp; done) | (simp; omega)) _ | refine Below.setCell ?_ (by first | omega | (simp; done) | (simp; omega)) _))⟩
    · subst c
      rw [show ordI a p a p = 0 by unfold ordI; rw [if_pos (by omega)]]
      go_enter Tryd.func19, Tryd.ntmps19
      go_wp2
      go_ret
      exact ⟨rfl, by (repeat (first | exact Below.refl _ _ | refine Below.drew ?_ | refine below_drewN ?_ _ | refine Below.alloc ?_ (by first | omega | (simp; done) | (simp; omega)) _ | refine Below.setCell ?_ (by first | omega | (simp; done) | (simp; omega)) _))⟩
    · rw [show ordI a p a q = 1 by unfold ordI; rw [if_neg (by omega), if_neg (by omega)]]
      have n1 : ¬ (p : Int) < q := by omega
      have n2 : ¬ (p : Int) = q := by omega
      have n3 : ¬ p = q := by omega
      clear c
      go_enter Tryd.func19, Tryd.ntmps19
      go_wp2
      go_ret
      exact ⟨rfl, by (repeat (first | exact Below.refl _ _ | refine Below.drew ?_ | refine below_drewN ?_ _ | refine Below.alloc ?_ (by first | omega | (simp; done) | (simp; omega)) _ | refine Below.setCell ?_ (by first | omega | (simp; done) | (simp; omega)) _))⟩
  · rw [show ordI a p b q = 1 by unfold ordI; rw [if_neg (by omega), if_neg (by omega)]]
    have n1 : ¬ (a : Int) < b := by omega
    have n2 : ¬ (a : Int) = b := by omega
    have n3 : ¬ a = b := by omega
    clear c
    go_enter Tryd.func19, Tryd.ntmps19
    go_wp2
    go_ret
    exact ⟨rfl, by (repeat (first | exact Below.refl _ _ | refine Below.drew ?_ | refine below_drewN ?_ _ | refine Below.alloc ?_ (by first | omega | (simp; done) | (simp; omega)) _ | refine Below.setCell ?_ (by first | omega | (simp; done) | (simp; omega)) _))⟩

theorem rorder_any (a p b q : Nat) (h1 : a < 4294967296) (h2 : p < 65536) (h3 : b < 4294967296) (h4 : q < 65536) (w : World) :
    Calls Tryd.prog 20 #[.agg #[.int .u32 a, .int .u16 p], .agg #[.int .u32 b, .int .u16 q]] w fun e w' => e = .returned (.int .i64 (ordI a p b q)) ∧ Below w.heap.size w w' := by
  rcases Nat.lt_trichotomy a b with c | c | c
  · rw [show ordI a p b q = -1 by unfold ordI; rw [if_neg (by omega), if_pos (by omega)]]
    have n1 : (a : Int) < b := by omega
    have n2 : ¬ (a : Int) = b := by omega
    have n3 : ¬ a = b := by omega
    clear c
    go_enter Tryd.func20, Tryd.ntmps20
    go_wp2
    go_ret
    exact ⟨rfl, by (repeat (first | exact Below.refl _ _ | refine Below.drew ?_ | refine below_drewN ?_ _ | refine Below.alloc ?_ (by first | omega | (simp; done) | (simp; omega)) _ | refine Below.setCell ?_ (by first | omega | (simp; done) | (simp; omega)) _))⟩
  · subst c
    rcases Nat.lt_trichotomy p q with c | c | c
    · rw [show ordI a p a q = -1 by unfold ordI; rw [if_neg (by omega), if_pos (by omega)]]
      have n1 : (p : Int) < q := by omega
      have n2 : ¬ (p : Int) = q := by omega
      have n3 : ¬ p = q := by omega
      clear c
      go_enter Tryd.func20, Tryd.ntmps20
      go_wp2
      go_ret
      exact ⟨rfl, by (repeat (first | exact Below.refl _ _ | refine Below.drew ?_ | refine below_drewN ?_ _ | refine Below.alloc ?_ (by first | omega | (simp; done) | (simp; omega)) _ | refine Below.setCell ?_ (by first | omega | (simp; done) | (simp; omega)) _))⟩
    · subst c
      rw [show ordI a p a p = 0 by unfold ordI; rw [if_pos (by omega)]]
      go_enter Tryd.func20, Tryd.ntmps20
      go_wp2
      go_ret
      exact ⟨rfl, by (repeat (first | exact Below.refl _ _ | refine Below.drew ?_ | refine below_drewN ?_ _ | refine Below.alloc ?_ (by first | omega | (simp; done) | (simp; omega)) _ | refine Below.setCell ?_ (by first | omega | (simp; done) | (simp; omega)) _))⟩
    · rw [show ordI a p a q = 1 by unfold ordI; rw [if_neg (by omega), if_neg (by omega)]]
      have n1 : ¬ (p : Int) < q := by omega
      have n2 : ¬ (p : Int) = q := by omega
      have n3 : ¬ p = q := by omega
      clear c
      go_enter Tryd.func20, Tryd.ntmps20
      go_wp2
      go_ret
      exact ⟨rfl, by (repeat (first | exact Below.refl _ _ | refine Below.drew ?_ | refine below_drewN ?_ _ | refine Below.alloc ?_ (by first | omega | (simp; done) | (simp; omega)) _ | refine Below.setCell ?_ (by first | omega | (simp; done) | (simp; omega)) _))⟩
  · rw [show ordI a p b q = 1 by unfold ordI; rw [if_neg (by omega), if_neg (by omega)]]
    have n1 : ¬ (a : Int) < b := by omega
    have n2 : ¬ (a : Int) = b := by omega
    have n3 : ¬ a = b := by omega
    clear c
    go_enter Tryd.func20, Tryd.ntmps20
    go_wp2
    go_ret
    exact ⟨rfl, by (repeat (first | exact Below.refl _ _ | refine Below.drew ?_ | refine below_drewN ?_ _ | refine Below.alloc ?_ (by first | omega | (simp; done) | (simp; omega)) _ | refine Below.setCell ?_ (by first | omega | (simp; done) | (simp; omega)) _))⟩

theorem ref_any (ip port : Nat) (w : World) :
    Calls Tryd.prog 10 #[.agg #[.int .u32 ip, .int .u16 port]] w fun e w' => e = .returned (.agg #[.int .u32 ip, .int .u16 port]) ∧ Below w.heap.size w w' := by
  go_enter Tryd.func10, Tryd.ntmps10
  go_wp2
  refine bodyPost_ret (v := .agg #[.int .u32 ip, .int .u16 port]) (by simp [results, Tryd.results10, go_sem]) rfl ⟨rfl, ?_⟩
  (repeat (first | exact Below.refl _ _ | refine Below.drew ?_ | refine below_drewN ?_ _ | refine Below.alloc ?_ (by first | omega | (simp; done) | (simp; omega)) _ | refine Below.setCell ?_ (by first | omega | (simp; done) | (simp; omega)) _))
end Go.Proofs.YtdihpiggknhojaaDoor
