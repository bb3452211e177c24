/- Contracts of a datagram's fields: is one right, is it zero, does it fit. -/
import Derived.Test.YtmhlnlippfaclaaDoorWireNews
import Derived.Test.YtmhlnlippfaclaaDoorWirePlace
namespace Go.Proofs.YtmhlnlippfaclaaDoor
open Go.Sort Go.RowKit Go.BigFrame
set_option linter.unusedVariables false
set_option linter.unusedSimpArgs false

/-- what a datagram's fields hold -/
structure Ms.Ok (m : Ms) : Prop where
  k : m.k < 17
  q : m.q < 4294967296
  ip : m.ip < 4294967296
  port : m.port < 65536
  rs : OkAll m.rs
  len : m.rs.length ≤ 1000000
  b : m.b.size ≤ 140737488355327
  pl : Pl m.re m.im m.pr m.pm m.pz m.pb
  pb : m.pb.size ≤ 100
/-- what the world holds of it -/
structure Ms.At (m : Ms) (w : World) : Prop where
  rd : RdR w w.heap.size m.a m.rs
  tab : Tab w
theorem Ms.At.keep {m : Ms} {w w' : World} (h : m.At w) (hb : Below w.heap.size w w') : m.At w' := ⟨(h.rd.below hb).more hb.size, h.tab.below hb⟩
theorem rightF_0 (m : Ms) (w : World) : Calls Tryd.prog 27 #[.agg #[.int .i64 (m.k : Nat), .int .i64 m.f, .int .u32 (m.q : Nat), .int .i64 m.n, .int .u32 (m.ip : Nat), .int .u16 (m.port : Nat), .complex .f64 m.re m.im, .bool m.fl, .string m.b, .slice m.a m.rs.length m.cap], .int .i64 0] w fun e w' => e = .returned (.bool (m.rightF 0)) ∧ Below w.heap.size w w' := by
  have N := isNode_any m.n
  show Calls _ _ _ _ fun e w' => e = .returned (.bool (nodeB m.n)) ∧ _
  generalize nodeB m.n = b at *
  go_enter Tryd.func27, Tryd.ntmps27
  go_wp2_with fail
  refine (N _).mono ?_; rintro e w1 ⟨rfl, rfl⟩
  go_wp2
  go_ret
  exact ⟨rfl, by (repeat (first | with_reducible exact Below.refl _ _ | with_reducible refine Below.drew ?_ | with_reducible refine below_drewN ?_ _ | with_reducible refine Below.alloc ?_ (by first | omega | (simp; done) | (simp; omega)) _ | with_reducible refine Below.setCell ?_ (by first | omega | (simp; done) | (simp; omega)) _))⟩
theorem rightF_1 (m : Ms) (hm : m.Ok) (w : World) : Calls Tryd.prog 27 #[.agg #[.int .i64 (m.k : Nat), .int .i64 m.f, .int .u32 (m.q : Nat), .int .i64 m.n, .int .u32 (m.ip : Nat), .int .u16 (m.port : Nat), .complex .f64 m.re m.im, .bool m.fl, .string m.b, .slice m.a m.rs.length m.cap], .int .i64 1] w fun e w' => e = .returned (.bool (m.rightF 1)) ∧ Below w.heap.size w w' := by
  have N := none_any m.ip m.port hm.ip hm.port
  show Calls _ _ _ _ fun e w' => e = .returned (.bool (!noneI m.ip m.port)) ∧ _
  generalize noneI m.ip m.port = b at *
  clear hm
  go_enter Tryd.func27, Tryd.ntmps27
  go_wp2_with fail
  refine (N _).mono ?_; rintro e w1 ⟨rfl, b1⟩
  go_wp2
  go_ret
  exact ⟨rfl, by (have zz0 := Below.size b1; (try simp at zz0); repeat (first | with_reducible exact Below.refl _ _ | with_reducible refine Below.drew ?_ | with_reducible refine below_drewN ?_ _ | with_reducible refine Below.alloc ?_ (by first | omega | (simp; done) | (simp; omega)) _ | with_reducible refine Below.setCell ?_ (by first | omega | (simp; done) | (simp; omega)) _ | (with_reducible refine Below.trans ?_ (Below.mono b1 (by first | omega | (simp; done) | (simp; omega))))))⟩
theorem rightF_2 (m : Ms) (hm : m.Ok) (w : World) : Calls Tryd.prog 27 #[.agg #[.int .i64 (m.k : Nat), .int .i64 m.f, .int .u32 (m.q : Nat), .int .i64 m.n, .int .u32 (m.ip : Nat), .int .u16 (m.port : Nat), .complex .f64 m.re m.im, .bool m.fl, .string m.b, .slice m.a m.rs.length m.cap], .int .i64 2] w fun e w' => e = .returned (.bool (m.rightF 2)) ∧ Below w.heap.size w w' := by
  have N := hm.pl.right
  have M := hm.pl.minus
  show Calls _ _ _ _ fun e w' => e = .returned (.bool (m.pr && !m.pm)) ∧ _
  generalize m.pm = b at *
  cases hp : m.pr
  · rw [hp] at N
    clear hm M
    go_enter Tryd.func27, Tryd.ntmps27
    go_wp2_with fail
    refine (N _).mono ?_; rintro e w1 ⟨rfl, rfl⟩
    go_wp2
    go_ret
    exact ⟨rfl, by (repeat (first | with_reducible exact Below.refl _ _ | with_reducible refine Below.drew ?_ | with_reducible refine below_drewN ?_ _ | with_reducible refine Below.alloc ?_ (by first | omega | (simp; done) | (simp; omega)) _ | with_reducible refine Below.setCell ?_ (by first | omega | (simp; done) | (simp; omega)) _))⟩
  · rw [hp] at N
    clear hm
    go_enter Tryd.func27, Tryd.ntmps27
    go_wp2_with fail
    refine (N _).mono ?_; rintro e w1 ⟨rfl, rfl⟩
    go_wp2_with fail
    refine (M _).mono ?_; rintro e w1 ⟨rfl, rfl⟩
    go_wp2
    go_ret
    exact ⟨rfl, by (repeat (first | with_reducible exact Below.refl _ _ | with_reducible refine Below.drew ?_ | with_reducible refine below_drewN ?_ _ | with_reducible refine Below.alloc ?_ (by first | omega | (simp; done) | (simp; omega)) _ | with_reducible refine Below.setCell ?_ (by first | omega | (simp; done) | (simp; omega)) _))⟩
theorem rightF_3 (m : Ms) (w : World) : Calls Tryd.prog 27 #[.agg #[.int .i64 (m.k : Nat), .int .i64 m.f, .int .u32 (m.q : Nat), .int .i64 m.n, .int .u32 (m.ip : Nat), .int .u16 (m.port : Nat), .complex .f64 m.re m.im, .bool m.fl, .string m.b, .slice m.a m.rs.length m.cap], .int .i64 3] w fun e w' => e = .returned (.bool (m.rightF 3)) ∧ Below w.heap.size w w' := by
  show Calls _ _ _ _ fun e w' => e = .returned (.bool true) ∧ _
  go_enter Tryd.func27, Tryd.ntmps27
  go_wp2
  go_ret
  exact ⟨rfl, by (repeat (first | with_reducible exact Below.refl _ _ | with_reducible refine Below.drew ?_ | with_reducible refine below_drewN ?_ _ | with_reducible refine Below.alloc ?_ (by first | omega | (simp; done) | (simp; omega)) _ | with_reducible refine Below.setCell ?_ (by first | omega | (simp; done) | (simp; omega)) _))⟩
theorem rightF_4 (m : Ms) (hm : m.Ok) (w : World) : Calls Tryd.prog 27 #[.agg #[.int .i64 (m.k : Nat), .int .i64 m.f, .int .u32 (m.q : Nat), .int .i64 m.n, .int .u32 (m.ip : Nat), .int .u16 (m.port : Nat), .complex .f64 m.re m.im, .bool m.fl, .string m.b, .slice m.a m.rs.length m.cap], .int .i64 4] w fun e w' => e = .returned (.bool (m.rightF 4)) ∧ Below w.heap.size w w' := by
  have hb := hm.b
  show Calls _ _ _ _ fun e w' => e = .returned (.bool (decide (1 ≤ m.b.size) && decide (m.b.size ≤ 900))) ∧ _
  clear hm
  by_cases h1 : 1 ≤ m.b.size
  · have h1' : (1 : Int) ≤ m.b.size := by omega
    go_enter Tryd.func27, Tryd.ntmps27
    go_wp2
    go_ret
    refine ⟨bool_ret ?_, by (repeat (first | with_reducible exact Below.refl _ _ | with_reducible refine Below.drew ?_ | with_reducible refine below_drewN ?_ _ | with_reducible refine Below.alloc ?_ (by first | omega | (simp; done) | (simp; omega)) _ | with_reducible refine Below.setCell ?_ (by first | omega | (simp; done) | (simp; omega)) _))⟩
    first | (rw [Bool.eq_iff_iff]; done) | (rw [Bool.eq_iff_iff]; simp only [Bool.and_eq_true, decide_eq_true_eq]; omega)
  · have h1' : ¬ (1 : Int) ≤ m.b.size := by omega
    go_enter Tryd.func27, Tryd.ntmps27
    go_wp2
    go_ret
    refine ⟨bool_ret ?_, by (repeat (first | with_reducible exact Below.refl _ _ | with_reducible refine Below.drew ?_ | with_reducible refine below_drewN ?_ _ | with_reducible refine Below.alloc ?_ (by first | omega | (simp; done) | (simp; omega)) _ | with_reducible refine Below.setCell ?_ (by first | omega | (simp; done) | (simp; omega)) _))⟩
    first | (rw [Bool.eq_iff_iff]; done) | (rw [Bool.eq_iff_iff]; simp only [Bool.and_eq_true, decide_eq_true_eq]; omega)
theorem rightF_5 (m : Ms) (hm : m.Ok) (w : World) (ha : m.At w) : Calls Tryd.prog 27 #[.agg #[.int .i64 (m.k : Nat), .int .i64 m.f, .int .u32 (m.q : Nat), .int .i64 m.n, .int .u32 (m.ip : Nat), .int .u16 (m.port : Nat), .complex .f64 m.re m.im, .bool m.fl, .string m.b, .slice m.a m.rs.length m.cap], .int .i64 5] w fun e w' => e = .returned (.bool (m.rightF 5)) ∧ Below w.heap.size w w' := by
  have N := fun w h => rightNews_any m.k m.a m.cap m.rs hm.rs hm.len w h
  show Calls _ _ _ _ fun e w' => e = .returned (.bool (newsOk m.k m.rs)) ∧ _
  generalize newsOk m.k m.rs = b at *
  clear hm
  go_enter Tryd.func27, Tryd.ntmps27
  have HA : Hid (m.At (w.alloc (.cells #[.int .i64 (m.k : Nat), .int .i64 m.f, .int .u32 (m.q : Nat), .int .i64 m.n, .int .u32 (m.ip : Nat), .int .u16 (m.port : Nat), .complex .f64 m.re m.im, .bool m.fl, .string m.b, .slice m.a m.rs.length m.cap] 35))) := ha.keep (by (repeat (first | with_reducible exact Below.refl _ _ | with_reducible refine Below.drew ?_ | with_reducible refine below_drewN ?_ _ | with_reducible refine Below.alloc ?_ (by first | omega | (simp; done) | (simp; omega)) _ | with_reducible refine Below.setCell ?_ (by first | omega | (simp; done) | (simp; omega)) _)))
  clear ha
  go_wp2_with fail
  refine (N _ HA.out.rd).mono ?_; rintro e w1 ⟨rfl, b1⟩
  go_wp2
  go_ret
  exact ⟨rfl, by (have zz0 := Below.size b1; (try simp at zz0); repeat (first | with_reducible exact Below.refl _ _ | with_reducible refine Below.drew ?_ | with_reducible refine below_drewN ?_ _ | with_reducible refine Below.alloc ?_ (by first | omega | (simp; done) | (simp; omega)) _ | with_reducible refine Below.setCell ?_ (by first | omega | (simp; done) | (simp; omega)) _ | (with_reducible refine Below.trans ?_ (Below.mono b1 (by first | omega | (simp; done) | (simp; omega))))))⟩
theorem zeroF_0 (m : Ms) (w : World) : Calls Tryd.prog 28 #[.agg #[.int .i64 (m.k : Nat), .int .i64 m.f, .int .u32 (m.q : Nat), .int .i64 m.n, .int .u32 (m.ip : Nat), .int .u16 (m.port : Nat), .complex .f64 m.re m.im, .bool m.fl, .string m.b, .slice m.a m.rs.length m.cap], .int .i64 0] w fun e w' => e = .returned (.bool (m.zeroF 0)) ∧ Below w.heap.size w w' := by
  show Calls _ _ _ _ fun e w' => e = .returned (.bool (decide (m.n = 0))) ∧ _
  go_enter Tryd.func28, Tryd.ntmps28
  go_wp2
  go_ret
  exact ⟨bool_ret (by rw [Bool.eq_iff_iff]; simp), by (repeat (first | with_reducible exact Below.refl _ _ | with_reducible refine Below.drew ?_ | with_reducible refine below_drewN ?_ _ | with_reducible refine Below.alloc ?_ (by first | omega | (simp; done) | (simp; omega)) _ | with_reducible refine Below.setCell ?_ (by first | omega | (simp; done) | (simp; omega)) _))⟩
theorem zeroF_1 (m : Ms) (w : World) : Calls Tryd.prog 28 #[.agg #[.int .i64 (m.k : Nat), .int .i64 m.f, .int .u32 (m.q : Nat), .int .i64 m.n, .int .u32 (m.ip : Nat), .int .u16 (m.port : Nat), .complex .f64 m.re m.im, .bool m.fl, .string m.b, .slice m.a m.rs.length m.cap], .int .i64 1] w fun e w' => e = .returned (.bool (m.zeroF 1)) ∧ Below w.heap.size w w' := by
  show Calls _ _ _ _ fun e w' => e = .returned (.bool (decide (m.ip = 0) && decide (m.port = 0))) ∧ _
  by_cases h1 : m.ip = 0
  · by_cases h2 : m.port = 0
    · rw [h1, h2]
      go_enter Tryd.func28, Tryd.ntmps28
      go_wp2
      go_ret
      exact ⟨rfl, by (repeat (first | with_reducible exact Below.refl _ _ | with_reducible refine Below.drew ?_ | with_reducible refine below_drewN ?_ _ | with_reducible refine Below.alloc ?_ (by first | omega | (simp; done) | (simp; omega)) _ | with_reducible refine Below.setCell ?_ (by first | omega | (simp; done) | (simp; omega)) _))⟩
    · have n2 : ¬ (m.port : Int) = 0 := by omega
      rw [h1, decide_eq_false h2]
      go_enter Tryd.func28, Tryd.ntmps28
      go_wp2
      go_ret
      exact ⟨rfl, by (repeat (first | with_reducible exact Below.refl _ _ | with_reducible refine Below.drew ?_ | with_reducible refine below_drewN ?_ _ | with_reducible refine Below.alloc ?_ (by first | omega | (simp; done) | (simp; omega)) _ | with_reducible refine Below.setCell ?_ (by first | omega | (simp; done) | (simp; omega)) _))⟩
  · have n1 : ¬ (m.ip : Int) = 0 := by omega
    rw [decide_eq_false h1]
    go_enter Tryd.func28, Tryd.ntmps28
    go_wp2
    go_ret
    exact ⟨rfl, by (repeat (first | with_reducible exact Below.refl _ _ | with_reducible refine Below.drew ?_ | with_reducible refine below_drewN ?_ _ | with_reducible refine Below.alloc ?_ (by first | omega | (simp; done) | (simp; omega)) _ | with_reducible refine Below.setCell ?_ (by first | omega | (simp; done) | (simp; omega)) _))⟩
theorem zeroF_2 (m : Ms) (hm : m.Ok) (w : World) : Calls Tryd.prog 28 #[.agg #[.int .i64 (m.k : Nat), .int .i64 m.f, .int .u32 (m.q : Nat), .int .i64 m.n, .int .u32 (m.ip : Nat), .int .u16 (m.port : Nat), .complex .f64 m.re m.im, .bool m.fl, .string m.b, .slice m.a m.rs.length m.cap], .int .i64 2] w fun e w' => e = .returned (.bool (m.zeroF 2)) ∧ Below w.heap.size w w' := by
  have Z := hm.pl.zero
  have M := hm.pl.minus
  show Calls _ _ _ _ fun e w' => e = .returned (.bool (m.pz && !m.pm)) ∧ _
  generalize m.pm = b at *
  cases hp : m.pz
  · rw [hp] at Z
    clear hm M
    go_enter Tryd.func28, Tryd.ntmps28
    go_wp2
    go_ret
    exact ⟨rfl, by (repeat (first | with_reducible exact Below.refl _ _ | with_reducible refine Below.drew ?_ | with_reducible refine below_drewN ?_ _ | with_reducible refine Below.alloc ?_ (by first | omega | (simp; done) | (simp; omega)) _ | with_reducible refine Below.setCell ?_ (by first | omega | (simp; done) | (simp; omega)) _))⟩
  · rw [hp] at Z
    clear hm
    go_enter Tryd.func28, Tryd.ntmps28
    go_wp2_with fail
    refine (M _).mono ?_; rintro e w1 ⟨rfl, rfl⟩
    go_wp2
    go_ret
    exact ⟨rfl, by (repeat (first | with_reducible exact Below.refl _ _ | with_reducible refine Below.drew ?_ | with_reducible refine below_drewN ?_ _ | with_reducible refine Below.alloc ?_ (by first | omega | (simp; done) | (simp; omega)) _ | with_reducible refine Below.setCell ?_ (by first | omega | (simp; done) | (simp; omega)) _))⟩
theorem zeroF_3 (m : Ms) (w : World) : Calls Tryd.prog 28 #[.agg #[.int .i64 (m.k : Nat), .int .i64 m.f, .int .u32 (m.q : Nat), .int .i64 m.n, .int .u32 (m.ip : Nat), .int .u16 (m.port : Nat), .complex .f64 m.re m.im, .bool m.fl, .string m.b, .slice m.a m.rs.length m.cap], .int .i64 3] w fun e w' => e = .returned (.bool (m.zeroF 3)) ∧ Below w.heap.size w w' := by
  show Calls _ _ _ _ fun e w' => e = .returned (.bool (!m.fl)) ∧ _
  go_enter Tryd.func28, Tryd.ntmps28
  go_wp2
  go_ret
  exact ⟨rfl, by (repeat (first | with_reducible exact Below.refl _ _ | with_reducible refine Below.drew ?_ | with_reducible refine below_drewN ?_ _ | with_reducible refine Below.alloc ?_ (by first | omega | (simp; done) | (simp; omega)) _ | with_reducible refine Below.setCell ?_ (by first | omega | (simp; done) | (simp; omega)) _))⟩
theorem zeroF_4 (m : Ms) (w : World) : Calls Tryd.prog 28 #[.agg #[.int .i64 (m.k : Nat), .int .i64 m.f, .int .u32 (m.q : Nat), .int .i64 m.n, .int .u32 (m.ip : Nat), .int .u16 (m.port : Nat), .complex .f64 m.re m.im, .bool m.fl, .string m.b, .slice m.a m.rs.length m.cap], .int .i64 4] w fun e w' => e = .returned (.bool (m.zeroF 4)) ∧ Below w.heap.size w w' := by
  show Calls _ _ _ _ fun e w' => e = .returned (.bool (decide (m.b.size = 0))) ∧ _
  go_enter Tryd.func28, Tryd.ntmps28
  go_wp2
  go_ret
  exact ⟨bool_ret (by rw [Bool.eq_iff_iff, List.isEmpty_iff, ← List.length_eq_zero_iff, ByteArray.toList_eq, ba_len]; simp), by (repeat (first | with_reducible exact Below.refl _ _ | with_reducible refine Below.drew ?_ | with_reducible refine below_drewN ?_ _ | with_reducible refine Below.alloc ?_ (by first | omega | (simp; done) | (simp; omega)) _ | with_reducible refine Below.setCell ?_ (by first | omega | (simp; done) | (simp; omega)) _))⟩
theorem zeroF_5 (m : Ms) (w : World) : Calls Tryd.prog 28 #[.agg #[.int .i64 (m.k : Nat), .int .i64 m.f, .int .u32 (m.q : Nat), .int .i64 m.n, .int .u32 (m.ip : Nat), .int .u16 (m.port : Nat), .complex .f64 m.re m.im, .bool m.fl, .string m.b, .slice m.a m.rs.length m.cap], .int .i64 5] w fun e w' => e = .returned (.bool (m.zeroF 5)) ∧ Below w.heap.size w w' := by
  show Calls _ _ _ _ fun e w' => e = .returned (.bool (decide (m.rs.length = 0))) ∧ _
  go_enter Tryd.func28, Tryd.ntmps28
  go_wp2
  go_ret
  exact ⟨bool_ret (by rw [Bool.eq_iff_iff]; simp), by (repeat (first | with_reducible exact Below.refl _ _ | with_reducible refine Below.drew ?_ | with_reducible refine below_drewN ?_ _ | with_reducible refine Below.alloc ?_ (by first | omega | (simp; done) | (simp; omega)) _ | with_reducible refine Below.setCell ?_ (by first | omega | (simp; done) | (simp; omega)) _))⟩
theorem rightF_any (m : Ms) (hm : m.Ok) (j : Nat) (hj : j < 6) (w : World) (ha : m.At w) : Calls Tryd.prog 27 #[.agg #[.int .i64 (m.k : Nat), .int .i64 m.f, .int .u32 (m.q : Nat), .int .i64 m.n, .int .u32 (m.ip : Nat), .int .u16 (m.port : Nat), .complex .f64 m.re m.im, .bool m.fl, .string m.b, .slice m.a m.rs.length m.cap], .int .i64 j] w fun e w' => e = .returned (.bool (m.rightF j)) ∧ Below w.heap.size w w' := by
  have h6 : j = 0 ∨ j = 1 ∨ j = 2 ∨ j = 3 ∨ j = 4 ∨ j = 5 := by omega
  rcases h6 with rfl | rfl | rfl | rfl | rfl | rfl
  · exact rightF_0 m w
  · exact rightF_1 m hm w
  · exact rightF_2 m hm w
  · exact rightF_3 m w
  · exact rightF_4 m hm w
  · exact rightF_5 m hm w ha
theorem zeroF_any (m : Ms) (hm : m.Ok) (j : Nat) (hj : j < 6) (w : World) : Calls Tryd.prog 28 #[.agg #[.int .i64 (m.k : Nat), .int .i64 m.f, .int .u32 (m.q : Nat), .int .i64 m.n, .int .u32 (m.ip : Nat), .int .u16 (m.port : Nat), .complex .f64 m.re m.im, .bool m.fl, .string m.b, .slice m.a m.rs.length m.cap], .int .i64 j] w fun e w' => e = .returned (.bool (m.zeroF j)) ∧ Below w.heap.size w w' := by
  have h6 : j = 0 ∨ j = 1 ∨ j = 2 ∨ j = 3 ∨ j = 4 ∨ j = 5 := by omega
  rcases h6 with rfl | rfl | rfl | rfl | rfl | rfl
  · exact zeroF_0 m w
  · exact zeroF_1 m w
  · exact zeroF_2 m hm w
  · exact zeroF_3 m w
  · exact zeroF_4 m w
  · exact zeroF_5 m w
theorem fits_any (m : Ms) (hm : m.Ok) (j : Nat) (hj : j < 6) (w : World) (ha : m.At w) : Calls Tryd.prog 18 #[.agg #[.int .i64 (m.k : Nat), .int .i64 m.f, .int .u32 (m.q : Nat), .int .i64 m.n, .int .u32 (m.ip : Nat), .int .u16 (m.port : Nat), .complex .f64 m.re m.im, .bool m.fl, .string m.b, .slice m.a m.rs.length m.cap], .int .i64 j] w fun e w' => e = .returned (.bool (m.fits j)) ∧ Below w.heap.size w w' := by
  have H := Lib.hid (hasField_j m.k hm.k j hj)
  have R := Lib.hid (rightF_any m hm j hj)
  have Z := Lib.hid (zeroF_any m hm j hj)
  unfold Ms.fits
  cases hh : hasB m.k j
  · rw [hh] at H
    show Calls _ _ _ _ fun e w' => e = .returned (.bool (m.zeroF j)) ∧ _
    generalize m.zeroF j = b at *
    clear hm hj hh R
    go_enter Tryd.func18, Tryd.ntmps18
    have HA : Hid (m.At (w.alloc (.cells #[.int .i64 (m.k : Nat), .int .i64 m.f, .int .u32 (m.q : Nat), .int .i64 m.n, .int .u32 (m.ip : Nat), .int .u16 (m.port : Nat), .complex .f64 m.re m.im, .bool m.fl, .string m.b, .slice m.a m.rs.length m.cap] 35))) := ha.keep (by (repeat (first | with_reducible exact Below.refl _ _ | with_reducible refine Below.drew ?_ | with_reducible refine below_drewN ?_ _ | with_reducible refine Below.alloc ?_ (by first | omega | (simp; done) | (simp; omega)) _ | with_reducible refine Below.setCell ?_ (by first | omega | (simp; done) | (simp; omega)) _)))
    clear ha
    go_wp2_with fail
    refine (H.out _ HA.out.tab).mono ?_; rintro e w1 ⟨rfl, b1⟩; obtain ⟨hc1, hf1, hz1⟩ := bcell b1; (try simp at hz1); have kc1_0 := fun o => hc1 (w.heap.size) o (by first | omega | (simp; done) | (simp; omega)); have kf1_0 := fun o => hf1 (w.heap.size) o (by first | omega | (simp; done) | (simp; omega)); have kl1_0 : w.heap.size < w1.heap.size := (by omega); clear hc1 hf1
    go_wp2_with fail
    refine (Z.out _).mono ?_; rintro e w2 ⟨rfl, b2⟩
    go_wp2
    go_ret
    exact ⟨rfl, by (have zz0 := Below.size b2; (try simp at zz0); have zz1 := Below.size b1; (try simp at zz1); repeat (first | with_reducible exact Below.refl _ _ | with_reducible refine Below.drew ?_ | with_reducible refine below_drewN ?_ _ | with_reducible refine Below.alloc ?_ (by first | omega | (simp; done) | (simp; omega)) _ | with_reducible refine Below.setCell ?_ (by first | omega | (simp; done) | (simp; omega)) _ | (with_reducible refine Below.trans ?_ (Below.mono b2 (by first | omega | (simp; done) | (simp; omega)))) | (with_reducible refine Below.trans ?_ (Below.mono b1 (by first | omega | (simp; done) | (simp; omega))))))⟩
  · rw [hh] at H
    show Calls _ _ _ _ fun e w' => e = .returned (.bool (m.rightF j)) ∧ _
    generalize m.rightF j = b at *
    clear hm hj hh Z
    go_enter Tryd.func18, Tryd.ntmps18
    have HA : Hid (m.At (w.alloc (.cells #[.int .i64 (m.k : Nat), .int .i64 m.f, .int .u32 (m.q : Nat), .int .i64 m.n, .int .u32 (m.ip : Nat), .int .u16 (m.port : Nat), .complex .f64 m.re m.im, .bool m.fl, .string m.b, .slice m.a m.rs.length m.cap] 35))) := ha.keep (by (repeat (first | with_reducible exact Below.refl _ _ | with_reducible refine Below.drew ?_ | with_reducible refine below_drewN ?_ _ | with_reducible refine Below.alloc ?_ (by first | omega | (simp; done) | (simp; omega)) _ | with_reducible refine Below.setCell ?_ (by first | omega | (simp; done) | (simp; omega)) _)))
    clear ha
    go_wp2_with fail
    refine (H.out _ HA.out.tab).mono ?_; rintro e w1 ⟨rfl, b1⟩; obtain ⟨hc1, hf1, hz1⟩ := bcell b1; (try simp at hz1); have kc1_0 := fun o => hc1 (w.heap.size) o (by first | omega | (simp; done) | (simp; omega)); have kf1_0 := fun o => hf1 (w.heap.size) o (by first | omega | (simp; done) | (simp; omega)); have kl1_0 : w.heap.size < w1.heap.size := (by omega); clear hc1 hf1
    go_wp2_with fail
    refine (R.out _ (HA.out.keep b1)).mono ?_; rintro e w2 ⟨rfl, b2⟩
    go_wp2
    go_ret
    exact ⟨rfl, by (have zz0 := Below.size b2; (try simp at zz0); have zz1 := Below.size b1; (try simp at zz1); repeat (first | with_reducible exact Below.refl _ _ | with_reducible refine Below.drew ?_ | with_reducible refine below_drewN ?_ _ | with_reducible refine Below.alloc ?_ (by first | omega | (simp; done) | (simp; omega)) _ | with_reducible refine Below.setCell ?_ (by first | omega | (simp; done) | (simp; omega)) _ | (with_reducible refine Below.trans ?_ (Below.mono b2 (by first | omega | (simp; done) | (simp; omega)))) | (with_reducible refine Below.trans ?_ (Below.mono b1 (by first | omega | (simp; done) | (simp; omega))))))⟩
end Go.Proofs.YtmhlnlippfaclaaDoor
