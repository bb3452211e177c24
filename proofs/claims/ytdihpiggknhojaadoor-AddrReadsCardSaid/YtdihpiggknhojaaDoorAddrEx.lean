/- The contracts of the laws' shared head: examples. -/
import Derived.Test.YtdihpiggknhojaaDoorAddrRead
import Derived.Test.YtdihpiggknhojaaDoorAddrText
import Derived.Test.YtdihpiggknhojaaDoorAddrGet
namespace Go.Proofs.YtdihpiggknhojaaDoor
open Go.RowKit
set_option linter.unusedVariables false
set_option linter.unusedSimpArgs false

theorem read_yes {s : ByteArray} {ip port : Nat} (h : Hid (rdL s.data.toList = some (ip, port))) (hs : s.size ≤ 9223372036854775807) (w : World) :
    Calls Tryd.prog 22 #[.string s] w fun e w' => e = .returned (.tuple #[.agg #[.int .u32 ip, .int .u16 port], .bool true]) ∧ Below w.heap.size w w' := by
  refine (read_any' s hs w).mono ?_
  rintro e w' ⟨rfl, hb⟩
  rw [h.out]
  exact ⟨rfl, hb⟩
theorem read_no {s : ByteArray} (h : Hid (rdL s.data.toList = none)) (hs : s.size ≤ 9223372036854775807) (w : World) :
    Calls Tryd.prog 22 #[.string s] w fun e w' => e = .returned (.tuple #[.agg #[.int .u32 0, .int .u16 0], .bool false]) ∧ Below w.heap.size w w' := by
  refine (read_any' s hs w).mono ?_
  rintro e w' ⟨rfl, hb⟩
  rw [h.out]
  exact ⟨rfl, hb⟩

theorem exa1 : Hid (rdL (⟨#[49, 48, 46, 48, 46, 48, 46, 49, 58, 56, 48]⟩ : ByteArray).data.toList = some (167772161, 80)) := by show _ = _; decide +kernel
theorem exa2 : Hid (rdL (⟨#[49, 48, 46, 48, 46, 48, 46, 48, 49, 58, 56, 48]⟩ : ByteArray).data.toList = none) := by show _ = _; decide +kernel
theorem exa3 : getI ⟨#[115, 104, 111, 114, 116]⟩ = none := by decide +kernel
theorem exa4 : atx 167772161 80 = ⟨#[49, 48, 46, 48, 46, 48, 46, 49, 58, 56, 48]⟩ := (atx_back exa1.out).1.symm
theorem exa5 : putB 167772161 80 = ⟨#[10, 0, 0, 1, 0, 80]⟩ := by decide +kernel
theorem exa6 : privI 167772161 = true := by decide +kernel
theorem exa7 : noneI 167772161 80 = false := by decide +kernel
theorem exa8 : ordI 167772161 80 0 0 = 1 := by decide +kernel
theorem exa9 : noneI 1 0 = true := by decide +kernel

set_option maxRecDepth 100000 in
set_option maxHeartbeats 1600000 in
theorem examples_yes (w : World) (ht : Tab w) : Calls Tryd.prog 9 #[] w fun e w' => e = .returned (.bool true) ∧ Below w.heap.size w w' := by
  have HT := Lib.hid ht
  clear ht
  go_enter Tryd.func9, Tryd.ntmps9
  go_wp2_with fail
  refine (read_yes exa1 (by decide) _).mono ?_; rintro e w1 ⟨rfl, b1⟩
  go_wp2_with fail
  refine (read_no exa2 (by decide) _).mono ?_; rintro e w2 ⟨rfl, b2⟩; obtain ⟨hc2, hf2, hz2⟩ := bcell b2; (try simp at hz2); have kc2_0 := fun o => hc2 (w1.heap.size) o (by first | omega | (simp; done) | (simp; omega)); have kf2_0 := fun o => hf2 (w1.heap.size) o (by first | omega | (simp; done) | (simp; omega)); have kl2_0 : w1.heap.size < w2.heap.size := (by omega); clear hc2 hf2
  go_wp2_with fail
  refine (get_no exa3 (by decide) _).mono ?_; rintro e w3 ⟨rfl, b3⟩; obtain ⟨hc3, hf3, hz3⟩ := bcell b3; (try simp at hz3); have kc3_0 := fun o => hc3 (w1.heap.size) o (by first | omega | (simp; done) | (simp; omega)); have kf3_0 := fun o => hf3 (w1.heap.size) o (by first | omega | (simp; done) | (simp; omega)); have kl3_0 : w1.heap.size < w3.heap.size := (by omega); clear hc3 hf3
  go_wp2_with fail
  refine (priv_any 167772161 80 (by omega) (by omega) _).mono ?_; rintro e w4 ⟨rfl, b4⟩; rw [exa6]; obtain ⟨hc4, hf4, hz4⟩ := bcell b4; (try simp at hz4); have kc4_0 := fun o => hc4 (w1.heap.size) o (by first | omega | (simp; done) | (simp; omega)); have kf4_0 := fun o => hf4 (w1.heap.size) o (by first | omega | (simp; done) | (simp; omega)); have kl4_0 : w1.heap.size < w4.heap.size := (by omega); clear hc4 hf4
  go_wp2_with fail
  refine (none_any 167772161 80 (by omega) (by omega) _).mono ?_; rintro e w5 ⟨rfl, b5⟩; rw [exa7]; obtain ⟨hc5, hf5, hz5⟩ := bcell b5; (try simp at hz5); have kc5_0 := fun o => hc5 (w1.heap.size) o (by first | omega | (simp; done) | (simp; omega)); have kf5_0 := fun o => hf5 (w1.heap.size) o (by first | omega | (simp; done) | (simp; omega)); have kl5_0 : w1.heap.size < w5.heap.size := (by omega); clear hc5 hf5
  go_wp2_with fail
  refine (text_any 167772161 80 (by omega) (by omega) _ (HT.out.below (by (have zz0 := Below.size b5; (try simp at zz0); have zz1 := Below.size b4; (try simp at zz1); have zz2 := Below.size b3; (try simp at zz2); have zz3 := Below.size b2; (try simp at zz3); have zz4 := Below.size b1; (try simp at zz4); repeat (first | exact Below.refl _ _ | refine Below.drew ?_ | refine below_drewN ?_ _ | refine Below.alloc ?_ (by first | omega | (simp; done) | (simp; omega)) _ | refine Below.setCell ?_ (by first | omega | (simp; done) | (simp; omega)) _ | (with_reducible refine Below.trans ?_ (Below.mono b5 (by first | omega | (simp; done) | (simp; omega)))) | (with_reducible refine Below.trans ?_ (Below.mono b4 (by first | omega | (simp; done) | (simp; omega)))) | (with_reducible refine Below.trans ?_ (Below.mono b3 (by first | omega | (simp; done) | (simp; omega)))) | (with_reducible refine Below.trans ?_ (Below.mono b2 (by first | omega | (simp; done) | (simp; omega)))) | (with_reducible refine Below.trans ?_ (Below.mono b1 (by first | omega | (simp; done) | (simp; omega))))))))).mono ?_; rintro e w6 ⟨rfl, b6⟩; rw [exa4]; obtain ⟨hc6, hf6, hz6⟩ := bcell b6; (try simp at hz6); have kc6_0 := fun o => hc6 (w1.heap.size) o (by first | omega | (simp; done) | (simp; omega)); have kf6_0 := fun o => hf6 (w1.heap.size) o (by first | omega | (simp; done) | (simp; omega)); have kl6_0 : w1.heap.size < w6.heap.size := (by omega); clear hc6 hf6
  go_wp2_with fail
  refine (put_any 167772161 80 (by omega) (by omega) _).mono ?_; rintro e w7 ⟨rfl, b7⟩; rw [exa5]; obtain ⟨hc7, hf7, hz7⟩ := bcell b7; (try simp at hz7); have kc7_0 := fun o => hc7 (w1.heap.size) o (by first | omega | (simp; done) | (simp; omega)); have kf7_0 := fun o => hf7 (w1.heap.size) o (by first | omega | (simp; done) | (simp; omega)); have kl7_0 : w1.heap.size < w7.heap.size := (by omega); clear hc7 hf7
  go_wp2_with fail
  refine (order_any 167772161 80 0 0 (by omega) (by omega) (by omega) (by omega) _).mono ?_; rintro e w8 ⟨rfl, b8⟩; rw [exa8]; obtain ⟨hc8, hf8, hz8⟩ := bcell b8; (try simp at hz8); have kc8_0 := fun o => hc8 (w1.heap.size) o (by first | omega | (simp; done) | (simp; omega)); have kf8_0 := fun o => hf8 (w1.heap.size) o (by first | omega | (simp; done) | (simp; omega)); have kl8_0 : w1.heap.size < w8.heap.size := (by omega); clear hc8 hf8
  go_wp2_with fail
  refine (none_any 1 0 (by omega) (by omega) _).mono ?_; rintro e w9 ⟨rfl, b9⟩; rw [exa9]
  go_wp2
  go_ret
  refine ⟨rfl, ?_⟩
  (have zz0 := Below.size b9; (try simp at zz0); have zz1 := Below.size b8; (try simp at zz1); have zz2 := Below.size b7; (try simp at zz2); have zz3 := Below.size b6; (try simp at zz3); have zz4 := Below.size b5; (try simp at zz4); have zz5 := Below.size b4; (try simp at zz5); have zz6 := Below.size b3; (try simp at zz6); have zz7 := Below.size b2; (try simp at zz7); have zz8 := Below.size b1; (try simp at zz8); repeat (first | exact Below.refl _ _ | refine Below.drew ?_ | refine below_drewN ?_ _ | refine Below.alloc ?_ (by first | omega | (simp; done) | (simp; omega)) _ | refine Below.setCell ?_ (by first | omega | (simp; done) | (simp; omega)) _ | (with_reducible refine Below.trans ?_ (Below.mono b9 (by first | omega | (simp; done) | (simp; omega)))) | (with_reducible refine Below.trans ?_ (Below.mono b8 (by first | omega | (simp; done) | (simp; omega)))) | (with_reducible refine Below.trans ?_ (Below.mono b7 (by first | omega | (simp; done) | (simp; omega)))) | (with_reducible refine Below.trans ?_ (Below.mono b6 (by first | omega | (simp; done) | (simp; omega)))) | (with_reducible refine Below.trans ?_ (Below.mono b5 (by first | omega | (simp; done) | (simp; omega)))) | (with_reducible refine Below.trans ?_ (Below.mono b4 (by first | omega | (simp; done) | (simp; omega)))) | (with_reducible refine Below.trans ?_ (Below.mono b3 (by first | omega | (simp; done) | (simp; omega)))) | (with_reducible refine Below.trans ?_ (Below.mono b2 (by first | omega | (simp; done) | (simp; omega)))) | (with_reducible refine Below.trans ?_ (Below.mono b1 (by first | omega | (simp; done) | (simp; omega))))))
end Go.Proofs.YtdihpiggknhojaaDoor
