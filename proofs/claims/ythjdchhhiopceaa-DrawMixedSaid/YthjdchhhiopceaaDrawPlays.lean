/- The statement DrawPlays: for every seed, number, list (its first 40), k, and 'near': the program draws what the reference draws, and the list stays. No conditions. -/
import Derived.Test.YthjdchhhiopceaaDrawSame
import Derived.ChangeOld
import Derived.ShutString
import Derived.OpenShut
import Derived.DataReads
import Derived.Deep.DeepCutAuto
namespace Go.Proofs.Ythjdchhhiopceaa
open Go.RowKit Go.ChangeShapes Go.WideShapes Go.ChangeAt
set_option linter.unusedVariables false
set_option linter.unusedSimpArgs false

theorem ArgRow.rd {k : IntKind} {w : World} {a : Option Addr} {len cap : Nat} {zs : List Int} (h : ArgRow k w a len cap zs) : Rd k w w.heap.size a (zs.take len) ∧ (zs.take len).length = len ∧ len ≤ cap ∧ (a = none → len = 0 ∧ cap = 0) := by
  rcases h with ⟨rfl, rfl, rfl, rfl⟩ | ⟨x, rfl, hl, hm, hz, hc, hw⟩
  · exact ⟨Rd.nil _ _ _ _, rfl, Nat.le_refl _, fun _ => ⟨rfl, rfl⟩⟩
  · refine ⟨fun hp => ?_, by rw [List.length_take]; omega, hl, fun h => by cases h⟩
    have hp' : 0 < zs.length := by rw [List.length_take] at hp; omega
    have h0 := hc 0 hp'
    obtain ⟨b, off, spot⟩ := x
    have hs : spot = none := by simpa [Addr.add] using World.cell?_spot h0
    subst hs
    refine ⟨b, off, rfl, by simpa [Addr.add] using World.block_lt_of_cell? _ _ h0, fun i hi => ?_⟩
    have hi' : i < len := by rw [List.length_take] at hi; omega
    have := hc i (by omega)
    have e : ((⟨b, off, none⟩ : Addr).add i) = ⟨b, off + i, none⟩ := by
      by_cases h0 : i = 0
      · subst h0; simp [Addr.add]
      · simp [Addr.add, h0]
    rw [e] at this
    rw [this]
    simp [List.getD_eq_getElem?_getD, List.getElem?_take, hi']

/-- a draw below n, and the stream behind it -/
def drawn (s n : Int) : Int := if n < 1 then 0 else num s % n
def aft (s n : Int) : Int := if n < 1 then s else nx s
theorem below_all (s n : Int) (hn : n ≤ 9223372036854775807) (w : World) :
    Calls Try.prog 12 #[.agg #[.int .u64 s], .int .i64 n] w fun e w' => e = .returned (.tuple #[.int .i64 (drawn s n), .agg #[.int .u64 (aft s n)]]) ∧ Below w.heap.size w w' := by
  unfold drawn aft
  by_cases h : n < 1
  · rw [if_pos h, if_pos h]; exact below_no s n h w
  · rw [if_neg h, if_neg h]; exact below_yes s n (by omega) hn w
theorem rbelow_all (s n : Int) (hn : n ≤ 9223372036854775807) (w : World) :
    Calls Try.prog 13 #[.agg #[.int .u64 s], .int .i64 n] w fun e w' => e = .returned (.tuple #[.int .i64 (drawn s n), .agg #[.int .u64 (aft s n)]]) ∧ Below w.heap.size w w' := by
  unfold drawn aft
  by_cases h : n < 1
  · rw [if_pos h, if_pos h]; exact rbelow_no s n h w
  · rw [if_neg h, if_neg h]; exact rbelow_yes s n (by omega) hn w

theorem Rd.now {k : IntKind} {w w' : World} {a : Option Addr} {zs : List Int} (h : Rd k w w.heap.size a zs) (hb : Below w.heap.size w w') : Rd k w' w'.heap.size a zs := (h.below hb).more hb.size

def NearJ (w1 : World) (x y : Value) (wx : World) : Prop :=
  ∃ n k : Int, x = .int .i64 n ∧ y = .int .i64 k ∧ (-9223372036854775808 ≤ n ∧ n ≤ 9223372036854775807) ∧ (-9223372036854775808 ≤ k ∧ k ≤ 9223372036854775807) ∧ w1 = wx

set_option maxRecDepth 100000 in
set_option maxHeartbeats 4000000 in
theorem drawPlays_walk (s n k : Int) (a : Option Addr) (len cap : Nat) (zs : List Int) (near : Bool) (hn : -9223372036854775808 ≤ n ∧ n ≤ 9223372036854775807) (hk : -9223372036854775808 ≤ k ∧ k ≤ 9223372036854775807)
    (hlen : len ≤ 9223372036854775807) (hcap : len ≤ cap) (hA : Hid (a = none → len = 0 ∧ cap = 0)) (hzl : Hid (zs.length = len)) (w : World) (hr : Hid (Rd .i64 w w.heap.size a zs)) :
    Calls Try.prog 3 #[.int .u64 s, .int .i64 n, .slice a len cap, .int .i64 k, .bool near] w fun e w' => e = .returned (.bool true) ∧ Below w.heap.size w w' := by
  obtain ⟨m, hm0⟩ : ∃ m : Nat, m = min len 40 := ⟨_, rfl⟩
  have hm1 : m ≤ 40 := by omega
  have hm2 : m ≤ cap := by omega
  have HM := Lib.hid hm0
  have hml : Hid ((zs.take m).length = m) := by show _ = _; have := hzl.out; rw [List.length_take]; omega
  have hmA : Hid (a = none → m = 0 ∧ cap = 0) := fun h => by have := hA.out h; omega
  have HR : Hid (Rd .i64 w w.heap.size a (zs.take m)) := hr.out.take m
  clear hm0
  have hb1 : -50 < n.tmod 50 ∧ n.tmod 50 < 50 := by
    have := Int.tmod_lt_of_pos n (show (0 : Int) < 50 by omega)
    have := Int.lt_tmod_of_pos n (show (0 : Int) < 50 by omega)
    omega
  have hb2 : -50 < k.tmod 50 ∧ k.tmod 50 < 50 := by
    have := Int.tmod_lt_of_pos k (show (0 : Int) < 50 by omega)
    have := Int.lt_tmod_of_pos k (show (0 : Int) < 50 by omega)
    omega
  go_enter Try.func3, Try.ntmps3
  go_wp2_with fail
  refine (examples_yes _).mono ?_; rintro e w1 ⟨rfl, b1⟩
  go_upto_if 37 with fail
  go_cut [1, 3] (fun x y wx => NearJ w1 x y wx)
  case first =>
    cases near
    · go_wp2_with fail
      go_meet
      exact ⟨n, k, rfl, rfl, hn, hk, rfl⟩
    · go_wp2_with fail
      go_meet
      exact ⟨n.tmod 50, k.tmod 50, rfl, rfl, by omega, by omega, rfl⟩
  case rest =>
    obtain ⟨n2, k2, rfl, rfl, hn2, hk2, rfl⟩ := hcut
    clear hb1 hb2 hn hk
    go_upto_region 7 with fail
    go_cut [2] (fun x wx => x = .slice a m cap ∧ w1 = wx)
    case first =>
      by_cases h40 : len ≤ 40
      · obtain rfl : m = len := by have := HM.out; omega
        go_wp2_with fail
        go_meet
        exact ⟨rfl, rfl⟩
      · obtain rfl : m = 40 := by have := HM.out; omega
        go_wp2_with fail
        go_meet
        exact ⟨rfl, rfl⟩
    case rest =>
      obtain ⟨rfl, rfl⟩ := hcut
      generalize zs.take m = l1 at *
      clear HM hr hzl hlen hcap hA
      go_wp2_with (at_builtin; refine wpList_append_rd _ rfl (.const (.slice none 0 0)) (.tmp 47) 23 rfl w1.heap.size 3 .i64 8 Try.underlying23 info_int (.slice none 0 0) 0 [] rfl (World.ownsRow_nil _ _ _ _) w.heap.size a m cap l1 rfl hml.out (HR.out.below b1) hmA.out ?c1 ?c2 ?c3 ?_)
      case c1 => omega
      case c2 => omega
      case c3 => omega
      intro v2 w2 hown2 hg2
      have B2 := Lib.hid (b1.trans (((Below.refl w1.heap.size w1).grown hg2 (Nat.le_refl _) (by simp [Value.ownBlock])).mono b1.size))
      obtain ⟨A2, c2, hv⟩ := own_slice hown2
      subst hv
      have O2 := Lib.hid (Rd.of_own hown2)
      clear hown2 hg2
      go_wp2_with fail
      refine (new_any _ _).mono ?_; rintro e w3 ⟨rfl, b3⟩
      have B3 : Hid (Below w.heap.size w w3) := by
        have hb := B2.out
        show Below _ _ _
        (have zz0 := Below.size b3; (try simp at zz0); have zz1 := Below.size hb; (try simp at zz1); repeat (first | exact Below.refl _ _ | refine Below.drew ?_ | refine below_drewN ?_ _ | refine Below.alloc ?_ (by first | omega | (simp; done) | (simp; omega)) _ | refine Below.setCell ?_ (by first | omega | (simp; done) | (simp; omega)) _ | (with_reducible refine Below.trans ?_ (Below.mono b3 (by first | omega | (simp; done) | (simp; omega)))) | (with_reducible refine Below.trans ?_ (Below.mono hb (by first | omega | (simp; done) | (simp; omega))))))
      go_wp2_with fail
      refine (next_any _ _).mono ?_; rintro e w4 ⟨rfl, b4⟩
      obtain ⟨hc4, hf4, hz4⟩ := bcell b4; (try simp at hz4); have kc4_0 := fun o => hc4 (w3.heap.size + 1) o (by first | omega | (simp; done) | (simp; omega)); have kf4_0 := fun o => hf4 (w3.heap.size + 1) o (by first | omega | (simp; done) | (simp; omega)); have kl4_0 : w3.heap.size + 1 < w4.heap.size := (by omega); clear hc4 hf4
      have B4 : Hid (Below w.heap.size w w4) := by
        have hb := B3.out
        show Below _ _ _
        (have zz0 := Below.size b4; (try simp at zz0); have zz1 := Below.size hb; (try simp at zz1); repeat (first | exact Below.refl _ _ | refine Below.drew ?_ | refine below_drewN ?_ _ | refine Below.alloc ?_ (by first | omega | (simp; done) | (simp; omega)) _ | refine Below.setCell ?_ (by first | omega | (simp; done) | (simp; omega)) _ | (with_reducible refine Below.trans ?_ (Below.mono b4 (by first | omega | (simp; done) | (simp; omega)))) | (with_reducible refine Below.trans ?_ (Below.mono hb (by first | omega | (simp; done) | (simp; omega))))))
      go_wp2_with fail
      refine (rnext_any _ _).mono ?_; rintro e w5 ⟨rfl, b5⟩
      obtain ⟨hc5, hf5, hz5⟩ := bcell b5; (try simp at hz5); have kc5_0 := fun o => hc5 (w4.heap.size) o (by first | omega | (simp; done) | (simp; omega)); have kf5_0 := fun o => hf5 (w4.heap.size) o (by first | omega | (simp; done) | (simp; omega)); have kl5_0 : w4.heap.size < w5.heap.size := (by omega); clear hc5 hf5
      have B5 : Hid (Below w.heap.size w w5) := by
        have hb := B4.out
        show Below _ _ _
        (have zz0 := Below.size b5; (try simp at zz0); have zz1 := Below.size hb; (try simp at zz1); repeat (first | exact Below.refl _ _ | refine Below.drew ?_ | refine below_drewN ?_ _ | refine Below.alloc ?_ (by first | omega | (simp; done) | (simp; omega)) _ | refine Below.setCell ?_ (by first | omega | (simp; done) | (simp; omega)) _ | (with_reducible refine Below.trans ?_ (Below.mono b5 (by first | omega | (simp; done) | (simp; omega)))) | (with_reducible refine Below.trans ?_ (Below.mono hb (by first | omega | (simp; done) | (simp; omega))))))
      go_wp2_with fail
      refine (below_all _ _ hn2.2 _).mono ?_; rintro e w6 ⟨rfl, b6⟩
      obtain ⟨hc6, hf6, hz6⟩ := bcell b6; (try simp at hz6); have kc6_0 := fun o => hc6 (w4.heap.size) o (by first | omega | (simp; done) | (simp; omega)); have kf6_0 := fun o => hf6 (w4.heap.size) o (by first | omega | (simp; done) | (simp; omega)); have kl6_0 : w4.heap.size < w6.heap.size := (by omega); have kc6_1 := fun o => hc6 (w5.heap.size) o (by first | omega | (simp; done) | (simp; omega)); have kf6_1 := fun o => hf6 (w5.heap.size) o (by first | omega | (simp; done) | (simp; omega)); have kl6_1 : w5.heap.size < w6.heap.size := (by omega); clear hc6 hf6
      have B6 : Hid (Below w.heap.size w w6) := by
        have hb := B5.out
        show Below _ _ _
        (have zz0 := Below.size b6; (try simp at zz0); have zz1 := Below.size hb; (try simp at zz1); repeat (first | exact Below.refl _ _ | refine Below.drew ?_ | refine below_drewN ?_ _ | refine Below.alloc ?_ (by first | omega | (simp; done) | (simp; omega)) _ | refine Below.setCell ?_ (by first | omega | (simp; done) | (simp; omega)) _ | (with_reducible refine Below.trans ?_ (Below.mono b6 (by first | omega | (simp; done) | (simp; omega)))) | (with_reducible refine Below.trans ?_ (Below.mono hb (by first | omega | (simp; done) | (simp; omega))))))
      go_wp2_with fail
      refine (rbelow_all _ _ hn2.2 _).mono ?_; rintro e w7 ⟨rfl, b7⟩
      obtain ⟨hc7, hf7, hz7⟩ := bcell b7; (try simp at hz7); have kc7_0 := fun o => hc7 (w4.heap.size) o (by first | omega | (simp; done) | (simp; omega)); have kf7_0 := fun o => hf7 (w4.heap.size) o (by first | omega | (simp; done) | (simp; omega)); have kl7_0 : w4.heap.size < w7.heap.size := (by omega); have kc7_1 := fun o => hc7 (w5.heap.size) o (by first | omega | (simp; done) | (simp; omega)); have kf7_1 := fun o => hf7 (w5.heap.size) o (by first | omega | (simp; done) | (simp; omega)); have kl7_1 : w5.heap.size < w7.heap.size := (by omega); have kc7_2 := fun o => hc7 (w6.heap.size) o (by first | omega | (simp; done) | (simp; omega)); have kf7_2 := fun o => hf7 (w6.heap.size) o (by first | omega | (simp; done) | (simp; omega)); have kl7_2 : w6.heap.size < w7.heap.size := (by omega); clear hc7 hf7
      have B7 : Hid (Below w.heap.size w w7) := by
        have hb := B6.out
        show Below _ _ _
        (have zz0 := Below.size b7; (try simp at zz0); have zz1 := Below.size hb; (try simp at zz1); repeat (first | exact Below.refl _ _ | refine Below.drew ?_ | refine below_drewN ?_ _ | refine Below.alloc ?_ (by first | omega | (simp; done) | (simp; omega)) _ | refine Below.setCell ?_ (by first | omega | (simp; done) | (simp; omega)) _ | (with_reducible refine Below.trans ?_ (Below.mono b7 (by first | omega | (simp; done) | (simp; omega)))) | (with_reducible refine Below.trans ?_ (Below.mono hb (by first | omega | (simp; done) | (simp; omega))))))
      go_wp2_with fail
      refine (mix_ans _ _ _ _ l1 (by omega) hm2 hml.out _ ?r8).mono ?_; rotate_right; rintro e w8 ⟨g8, rfl, h8, b8⟩
      case r8 => exact HR.out.now (by have hb := B7.out; (have zz0 := Below.size hb; (try simp at zz0); repeat (first | exact Below.refl _ _ | refine Below.drew ?_ | refine below_drewN ?_ _ | refine Below.alloc ?_ (by first | omega | (simp; done) | (simp; omega)) _ | refine Below.setCell ?_ (by first | omega | (simp; done) | (simp; omega)) _ | (with_reducible refine Below.trans ?_ (Below.mono hb (by first | omega | (simp; done) | (simp; omega)))))))
      obtain ⟨hc8, hf8, hz8⟩ := bcell b8; (try simp at hz8); have kc8_0 := fun o => hc8 (w4.heap.size) o (by first | omega | (simp; done) | (simp; omega)); have kf8_0 := fun o => hf8 (w4.heap.size) o (by first | omega | (simp; done) | (simp; omega)); have kl8_0 : w4.heap.size < w8.heap.size := (by omega); have kc8_1 := fun o => hc8 (w5.heap.size) o (by first | omega | (simp; done) | (simp; omega)); have kf8_1 := fun o => hf8 (w5.heap.size) o (by first | omega | (simp; done) | (simp; omega)); have kl8_1 : w5.heap.size < w8.heap.size := (by omega); have kc8_2 := fun o => hc8 (w6.heap.size) o (by first | omega | (simp; done) | (simp; omega)); have kf8_2 := fun o => hf8 (w6.heap.size) o (by first | omega | (simp; done) | (simp; omega)); have kl8_2 : w6.heap.size < w8.heap.size := (by omega); have kc8_3 := fun o => hc8 (w7.heap.size) o (by first | omega | (simp; done) | (simp; omega)); have kf8_3 := fun o => hf8 (w7.heap.size) o (by first | omega | (simp; done) | (simp; omega)); have kl8_3 : w7.heap.size < w8.heap.size := (by omega); clear hc8 hf8
      have B8 : Hid (Below w.heap.size w w8) := by
        have hb := B7.out
        show Below _ _ _
        (have zz0 := Below.size b8; (try simp at zz0); have zz1 := Below.size hb; (try simp at zz1); repeat (first | exact Below.refl _ _ | refine Below.drew ?_ | refine below_drewN ?_ _ | refine Below.alloc ?_ (by first | omega | (simp; done) | (simp; omega)) _ | refine Below.setCell ?_ (by first | omega | (simp; done) | (simp; omega)) _ | (with_reducible refine Below.trans ?_ (Below.mono b8 (by first | omega | (simp; done) | (simp; omega)))) | (with_reducible refine Below.trans ?_ (Below.mono hb (by first | omega | (simp; done) | (simp; omega))))))
      go_wp2_with fail
      refine (rmix_ans _ _ _ _ l1 (by omega) hm2 hmA.out hml.out _ ?r9).mono ?_; rotate_right; rintro e w9 ⟨A9, c9, rfl, hc9, h9, b9⟩
      case r9 => exact HR.out.now (by have hb := B8.out; (have zz0 := Below.size hb; (try simp at zz0); repeat (first | exact Below.refl _ _ | refine Below.drew ?_ | refine below_drewN ?_ _ | refine Below.alloc ?_ (by first | omega | (simp; done) | (simp; omega)) _ | refine Below.setCell ?_ (by first | omega | (simp; done) | (simp; omega)) _ | (with_reducible refine Below.trans ?_ (Below.mono hb (by first | omega | (simp; done) | (simp; omega)))))))
      obtain ⟨hc9, hf9, hz9⟩ := bcell b9; (try simp at hz9); have kc9_0 := fun o => hc9 (w4.heap.size) o (by first | omega | (simp; done) | (simp; omega)); have kf9_0 := fun o => hf9 (w4.heap.size) o (by first | omega | (simp; done) | (simp; omega)); have kl9_0 : w4.heap.size < w9.heap.size := (by omega); have kc9_1 := fun o => hc9 (w5.heap.size) o (by first | omega | (simp; done) | (simp; omega)); have kf9_1 := fun o => hf9 (w5.heap.size) o (by first | omega | (simp; done) | (simp; omega)); have kl9_1 : w5.heap.size < w9.heap.size := (by omega); have kc9_2 := fun o => hc9 (w6.heap.size) o (by first | omega | (simp; done) | (simp; omega)); have kf9_2 := fun o => hf9 (w6.heap.size) o (by first | omega | (simp; done) | (simp; omega)); have kl9_2 : w6.heap.size < w9.heap.size := (by omega); have kc9_3 := fun o => hc9 (w7.heap.size) o (by first | omega | (simp; done) | (simp; omega)); have kf9_3 := fun o => hf9 (w7.heap.size) o (by first | omega | (simp; done) | (simp; omega)); have kl9_3 : w7.heap.size < w9.heap.size := (by omega); have kc9_4 := fun o => hc9 (w8.heap.size) o (by first | omega | (simp; done) | (simp; omega)); have kf9_4 := fun o => hf9 (w8.heap.size) o (by first | omega | (simp; done) | (simp; omega)); have kl9_4 : w8.heap.size < w9.heap.size := (by omega); clear hc9 hf9
      have B9 : Hid (Below w.heap.size w w9) := by
        have hb := B8.out
        show Below _ _ _
        (have zz0 := Below.size b9; (try simp at zz0); have zz1 := Below.size hb; (try simp at zz1); repeat (first | exact Below.refl _ _ | refine Below.drew ?_ | refine below_drewN ?_ _ | refine Below.alloc ?_ (by first | omega | (simp; done) | (simp; omega)) _ | refine Below.setCell ?_ (by first | omega | (simp; done) | (simp; omega)) _ | (with_reducible refine Below.trans ?_ (Below.mono b9 (by first | omega | (simp; done) | (simp; omega)))) | (with_reducible refine Below.trans ?_ (Below.mono hb (by first | omega | (simp; done) | (simp; omega))))))
      have H8 := Lib.hid h8
      have H9 := Lib.hid h9
      clear h8 h9
      obtain ⟨q, hq⟩ : ∃ q, much k2 m = q := ⟨_, rfl⟩
      have HQ := Lib.hid hq
      clear hq
      go_wp2_with fail
      refine (some_all _ _ _ _ l1 _ q HQ (by omega) hm2 hml _ ?r10).mono ?_; rotate_right; rintro e w10 ⟨A10, c10, rfl, h10, b10⟩
      case r10 => exact HR.out.now (by have hb := B9.out; (have zz0 := Below.size hb; (try simp at zz0); repeat (first | exact Below.refl _ _ | refine Below.drew ?_ | refine below_drewN ?_ _ | refine Below.alloc ?_ (by first | omega | (simp; done) | (simp; omega)) _ | refine Below.setCell ?_ (by first | omega | (simp; done) | (simp; omega)) _ | (with_reducible refine Below.trans ?_ (Below.mono hb (by first | omega | (simp; done) | (simp; omega)))))))
      obtain ⟨hc10, hf10, hz10⟩ := bcell b10; (try simp at hz10); have kc10_0 := fun o => hc10 (w4.heap.size) o (by first | omega | (simp; done) | (simp; omega)); have kf10_0 := fun o => hf10 (w4.heap.size) o (by first | omega | (simp; done) | (simp; omega)); have kl10_0 : w4.heap.size < w10.heap.size := (by omega); have kc10_1 := fun o => hc10 (w5.heap.size) o (by first | omega | (simp; done) | (simp; omega)); have kf10_1 := fun o => hf10 (w5.heap.size) o (by first | omega | (simp; done) | (simp; omega)); have kl10_1 : w5.heap.size < w10.heap.size := (by omega); have kc10_2 := fun o => hc10 (w6.heap.size) o (by first | omega | (simp; done) | (simp; omega)); have kf10_2 := fun o => hf10 (w6.heap.size) o (by first | omega | (simp; done) | (simp; omega)); have kl10_2 : w6.heap.size < w10.heap.size := (by omega); have kc10_3 := fun o => hc10 (w7.heap.size) o (by first | omega | (simp; done) | (simp; omega)); have kf10_3 := fun o => hf10 (w7.heap.size) o (by first | omega | (simp; done) | (simp; omega)); have kl10_3 : w7.heap.size < w10.heap.size := (by omega); have kc10_4 := fun o => hc10 (w8.heap.size) o (by first | omega | (simp; done) | (simp; omega)); have kf10_4 := fun o => hf10 (w8.heap.size) o (by first | omega | (simp; done) | (simp; omega)); have kl10_4 : w8.heap.size < w10.heap.size := (by omega); have kc10_5 := fun o => hc10 (w9.heap.size) o (by first | omega | (simp; done) | (simp; omega)); have kf10_5 := fun o => hf10 (w9.heap.size) o (by first | omega | (simp; done) | (simp; omega)); have kl10_5 : w9.heap.size < w10.heap.size := (by omega); clear hc10 hf10
      have B10 : Hid (Below w.heap.size w w10) := by
        have hb := B9.out
        show Below _ _ _
        (have zz0 := Below.size b10; (try simp at zz0); have zz1 := Below.size hb; (try simp at zz1); repeat (first | exact Below.refl _ _ | refine Below.drew ?_ | refine below_drewN ?_ _ | refine Below.alloc ?_ (by first | omega | (simp; done) | (simp; omega)) _ | refine Below.setCell ?_ (by first | omega | (simp; done) | (simp; omega)) _ | (with_reducible refine Below.trans ?_ (Below.mono b10 (by first | omega | (simp; done) | (simp; omega)))) | (with_reducible refine Below.trans ?_ (Below.mono hb (by first | omega | (simp; done) | (simp; omega))))))
      go_wp2_with fail
      refine (rsome_all _ _ _ _ l1 _ q HQ (by omega) hm2 hmA hml _ ?r11).mono ?_; rotate_right; rintro e w11 ⟨A11, c11, rfl, h11, b11⟩
      case r11 => exact HR.out.now (by have hb := B10.out; (have zz0 := Below.size hb; (try simp at zz0); repeat (first | exact Below.refl _ _ | refine Below.drew ?_ | refine below_drewN ?_ _ | refine Below.alloc ?_ (by first | omega | (simp; done) | (simp; omega)) _ | refine Below.setCell ?_ (by first | omega | (simp; done) | (simp; omega)) _ | (with_reducible refine Below.trans ?_ (Below.mono hb (by first | omega | (simp; done) | (simp; omega)))))))
      obtain ⟨hc11, hf11, hz11⟩ := bcell b11; (try simp at hz11); have kc11_0 := fun o => hc11 (w4.heap.size) o (by first | omega | (simp; done) | (simp; omega)); have kf11_0 := fun o => hf11 (w4.heap.size) o (by first | omega | (simp; done) | (simp; omega)); have kl11_0 : w4.heap.size < w11.heap.size := (by omega); have kc11_1 := fun o => hc11 (w5.heap.size) o (by first | omega | (simp; done) | (simp; omega)); have kf11_1 := fun o => hf11 (w5.heap.size) o (by first | omega | (simp; done) | (simp; omega)); have kl11_1 : w5.heap.size < w11.heap.size := (by omega); have kc11_2 := fun o => hc11 (w6.heap.size) o (by first | omega | (simp; done) | (simp; omega)); have kf11_2 := fun o => hf11 (w6.heap.size) o (by first | omega | (simp; done) | (simp; omega)); have kl11_2 : w6.heap.size < w11.heap.size := (by omega); have kc11_3 := fun o => hc11 (w7.heap.size) o (by first | omega | (simp; done) | (simp; omega)); have kf11_3 := fun o => hf11 (w7.heap.size) o (by first | omega | (simp; done) | (simp; omega)); have kl11_3 : w7.heap.size < w11.heap.size := (by omega); have kc11_4 := fun o => hc11 (w8.heap.size) o (by first | omega | (simp; done) | (simp; omega)); have kf11_4 := fun o => hf11 (w8.heap.size) o (by first | omega | (simp; done) | (simp; omega)); have kl11_4 : w8.heap.size < w11.heap.size := (by omega); have kc11_5 := fun o => hc11 (w9.heap.size) o (by first | omega | (simp; done) | (simp; omega)); have kf11_5 := fun o => hf11 (w9.heap.size) o (by first | omega | (simp; done) | (simp; omega)); have kl11_5 : w9.heap.size < w11.heap.size := (by omega); have kc11_6 := fun o => hc11 (w10.heap.size) o (by first | omega | (simp; done) | (simp; omega)); have kf11_6 := fun o => hf11 (w10.heap.size) o (by first | omega | (simp; done) | (simp; omega)); have kl11_6 : w10.heap.size < w11.heap.size := (by omega); clear hc11 hf11
      have B11 : Hid (Below w.heap.size w w11) := by
        have hb := B10.out
        show Below _ _ _
        (have zz0 := Below.size b11; (try simp at zz0); have zz1 := Below.size hb; (try simp at zz1); repeat (first | exact Below.refl _ _ | refine Below.drew ?_ | refine below_drewN ?_ _ | refine Below.alloc ?_ (by first | omega | (simp; done) | (simp; omega)) _ | refine Below.setCell ?_ (by first | omega | (simp; done) | (simp; omega)) _ | (with_reducible refine Below.trans ?_ (Below.mono b11 (by first | omega | (simp; done) | (simp; omega)))) | (with_reducible refine Below.trans ?_ (Below.mono hb (by first | omega | (simp; done) | (simp; omega))))))
      have H10 := Lib.hid h10
      have H11 := Lib.hid h11
      clear h10 h11
      go_wp2_with fail
      refine (same_yes _ _ m _ _ _ (by omega) H8.out.1 _ ?ra12 ?rb12).mono ?_; rotate_right; rintro e w12 ⟨rfl, b12⟩
      case ra12 => exact H8.out.2.1.now (by (have zz0 := Below.size b11; (try simp at zz0); have zz1 := Below.size b10; (try simp at zz1); have zz2 := Below.size b9; (try simp at zz2); repeat (first | exact Below.refl _ _ | refine Below.drew ?_ | refine below_drewN ?_ _ | refine Below.alloc ?_ (by first | omega | (simp; done) | (simp; omega)) _ | refine Below.setCell ?_ (by first | omega | (simp; done) | (simp; omega)) _ | (with_reducible refine Below.trans ?_ (Below.mono b11 (by first | omega | (simp; done) | (simp; omega)))) | (with_reducible refine Below.trans ?_ (Below.mono b10 (by first | omega | (simp; done) | (simp; omega)))) | (with_reducible refine Below.trans ?_ (Below.mono b9 (by first | omega | (simp; done) | (simp; omega)))))))
      case rb12 => exact H9.out.2.1.now (by (have zz0 := Below.size b11; (try simp at zz0); have zz1 := Below.size b10; (try simp at zz1); repeat (first | exact Below.refl _ _ | refine Below.drew ?_ | refine below_drewN ?_ _ | refine Below.alloc ?_ (by first | omega | (simp; done) | (simp; omega)) _ | refine Below.setCell ?_ (by first | omega | (simp; done) | (simp; omega)) _ | (with_reducible refine Below.trans ?_ (Below.mono b11 (by first | omega | (simp; done) | (simp; omega)))) | (with_reducible refine Below.trans ?_ (Below.mono b10 (by first | omega | (simp; done) | (simp; omega)))))))
      obtain ⟨hc12, hf12, hz12⟩ := bcell b12; (try simp at hz12); have kc12_0 := fun o => hc12 (w4.heap.size) o (by first | omega | (simp; done) | (simp; omega)); have kf12_0 := fun o => hf12 (w4.heap.size) o (by first | omega | (simp; done) | (simp; omega)); have kl12_0 : w4.heap.size < w12.heap.size := (by omega); have kc12_1 := fun o => hc12 (w5.heap.size) o (by first | omega | (simp; done) | (simp; omega)); have kf12_1 := fun o => hf12 (w5.heap.size) o (by first | omega | (simp; done) | (simp; omega)); have kl12_1 : w5.heap.size < w12.heap.size := (by omega); have kc12_2 := fun o => hc12 (w6.heap.size) o (by first | omega | (simp; done) | (simp; omega)); have kf12_2 := fun o => hf12 (w6.heap.size) o (by first | omega | (simp; done) | (simp; omega)); have kl12_2 : w6.heap.size < w12.heap.size := (by omega); have kc12_3 := fun o => hc12 (w7.heap.size) o (by first | omega | (simp; done) | (simp; omega)); have kf12_3 := fun o => hf12 (w7.heap.size) o (by first | omega | (simp; done) | (simp; omega)); have kl12_3 : w7.heap.size < w12.heap.size := (by omega); have kc12_4 := fun o => hc12 (w8.heap.size) o (by first | omega | (simp; done) | (simp; omega)); have kf12_4 := fun o => hf12 (w8.heap.size) o (by first | omega | (simp; done) | (simp; omega)); have kl12_4 : w8.heap.size < w12.heap.size := (by omega); have kc12_5 := fun o => hc12 (w9.heap.size) o (by first | omega | (simp; done) | (simp; omega)); have kf12_5 := fun o => hf12 (w9.heap.size) o (by first | omega | (simp; done) | (simp; omega)); have kl12_5 : w9.heap.size < w12.heap.size := (by omega); have kc12_6 := fun o => hc12 (w10.heap.size) o (by first | omega | (simp; done) | (simp; omega)); have kf12_6 := fun o => hf12 (w10.heap.size) o (by first | omega | (simp; done) | (simp; omega)); have kl12_6 : w10.heap.size < w12.heap.size := (by omega); have kc12_7 := fun o => hc12 (w11.heap.size) o (by first | omega | (simp; done) | (simp; omega)); have kf12_7 := fun o => hf12 (w11.heap.size) o (by first | omega | (simp; done) | (simp; omega)); have kl12_7 : w11.heap.size < w12.heap.size := (by omega); clear hc12 hf12
      have B12 : Hid (Below w.heap.size w w12) := by
        have hb := B11.out
        show Below _ _ _
        (have zz0 := Below.size b12; (try simp at zz0); have zz1 := Below.size hb; (try simp at zz1); repeat (first | exact Below.refl _ _ | refine Below.drew ?_ | refine below_drewN ?_ _ | refine Below.alloc ?_ (by first | omega | (simp; done) | (simp; omega)) _ | refine Below.setCell ?_ (by first | omega | (simp; done) | (simp; omega)) _ | (with_reducible refine Below.trans ?_ (Below.mono b12 (by first | omega | (simp; done) | (simp; omega)))) | (with_reducible refine Below.trans ?_ (Below.mono hb (by first | omega | (simp; done) | (simp; omega))))))
      go_wp2_with fail
      refine (same_yes _ _ q _ _ _ ?hq13 H10.out.1 _ ?ra13 ?rb13).mono ?_; rotate_right; rintro e w13 ⟨rfl, b13⟩
      case ra13 => exact H10.out.2.1.now (by (have zz0 := Below.size b12; (try simp at zz0); have zz1 := Below.size b11; (try simp at zz1); repeat (first | exact Below.refl _ _ | refine Below.drew ?_ | refine below_drewN ?_ _ | refine Below.alloc ?_ (by first | omega | (simp; done) | (simp; omega)) _ | refine Below.setCell ?_ (by first | omega | (simp; done) | (simp; omega)) _ | (with_reducible refine Below.trans ?_ (Below.mono b12 (by first | omega | (simp; done) | (simp; omega)))) | (with_reducible refine Below.trans ?_ (Below.mono b11 (by first | omega | (simp; done) | (simp; omega)))))))
      case rb13 => exact H11.out.2.1.now (by (have zz0 := Below.size b12; (try simp at zz0); repeat (first | exact Below.refl _ _ | refine Below.drew ?_ | refine below_drewN ?_ _ | refine Below.alloc ?_ (by first | omega | (simp; done) | (simp; omega)) _ | refine Below.setCell ?_ (by first | omega | (simp; done) | (simp; omega)) _ | (with_reducible refine Below.trans ?_ (Below.mono b12 (by first | omega | (simp; done) | (simp; omega)))))))
      case hq13 => have := HQ.out; unfold much at this; omega
      obtain ⟨hc13, hf13, hz13⟩ := bcell b13; (try simp at hz13); have kc13_0 := fun o => hc13 (w4.heap.size) o (by first | omega | (simp; done) | (simp; omega)); have kf13_0 := fun o => hf13 (w4.heap.size) o (by first | omega | (simp; done) | (simp; omega)); have kl13_0 : w4.heap.size < w13.heap.size := (by omega); have kc13_1 := fun o => hc13 (w5.heap.size) o (by first | omega | (simp; done) | (simp; omega)); have kf13_1 := fun o => hf13 (w5.heap.size) o (by first | omega | (simp; done) | (simp; omega)); have kl13_1 : w5.heap.size < w13.heap.size := (by omega); have kc13_2 := fun o => hc13 (w6.heap.size) o (by first | omega | (simp; done) | (simp; omega)); have kf13_2 := fun o => hf13 (w6.heap.size) o (by first | omega | (simp; done) | (simp; omega)); have kl13_2 : w6.heap.size < w13.heap.size := (by omega); have kc13_3 := fun o => hc13 (w7.heap.size) o (by first | omega | (simp; done) | (simp; omega)); have kf13_3 := fun o => hf13 (w7.heap.size) o (by first | omega | (simp; done) | (simp; omega)); have kl13_3 : w7.heap.size < w13.heap.size := (by omega); have kc13_4 := fun o => hc13 (w8.heap.size) o (by first | omega | (simp; done) | (simp; omega)); have kf13_4 := fun o => hf13 (w8.heap.size) o (by first | omega | (simp; done) | (simp; omega)); have kl13_4 : w8.heap.size < w13.heap.size := (by omega); have kc13_5 := fun o => hc13 (w9.heap.size) o (by first | omega | (simp; done) | (simp; omega)); have kf13_5 := fun o => hf13 (w9.heap.size) o (by first | omega | (simp; done) | (simp; omega)); have kl13_5 : w9.heap.size < w13.heap.size := (by omega); have kc13_6 := fun o => hc13 (w10.heap.size) o (by first | omega | (simp; done) | (simp; omega)); have kf13_6 := fun o => hf13 (w10.heap.size) o (by first | omega | (simp; done) | (simp; omega)); have kl13_6 : w10.heap.size < w13.heap.size := (by omega); have kc13_7 := fun o => hc13 (w11.heap.size) o (by first | omega | (simp; done) | (simp; omega)); have kf13_7 := fun o => hf13 (w11.heap.size) o (by first | omega | (simp; done) | (simp; omega)); have kl13_7 : w11.heap.size < w13.heap.size := (by omega); clear hc13 hf13
      have B13 : Hid (Below w.heap.size w w13) := by
        have hb := B12.out
        show Below _ _ _
        (have zz0 := Below.size b13; (try simp at zz0); have zz1 := Below.size hb; (try simp at zz1); repeat (first | exact Below.refl _ _ | refine Below.drew ?_ | refine below_drewN ?_ _ | refine Below.alloc ?_ (by first | omega | (simp; done) | (simp; omega)) _ | refine Below.setCell ?_ (by first | omega | (simp; done) | (simp; omega)) _ | (with_reducible refine Below.trans ?_ (Below.mono b13 (by first | omega | (simp; done) | (simp; omega)))) | (with_reducible refine Below.trans ?_ (Below.mono hb (by first | omega | (simp; done) | (simp; omega))))))
      go_wp2_with fail
      refine (same_yes _ _ m _ _ l1 (by omega) hml.out _ ?ra14 ?rb14).mono ?_; rotate_right; rintro e w14 ⟨rfl, b14⟩
      case ra14 => exact HR.out.now (by have hb := B12.out; (have zz0 := Below.size b13; (try simp at zz0); have zz1 := Below.size hb; (try simp at zz1); repeat (first | exact Below.refl _ _ | refine Below.drew ?_ | refine below_drewN ?_ _ | refine Below.alloc ?_ (by first | omega | (simp; done) | (simp; omega)) _ | refine Below.setCell ?_ (by first | omega | (simp; done) | (simp; omega)) _ | (with_reducible refine Below.trans ?_ (Below.mono b13 (by first | omega | (simp; done) | (simp; omega)))) | (with_reducible refine Below.trans ?_ (Below.mono hb (by first | omega | (simp; done) | (simp; omega)))))))
      case rb14 => exact O2.out.now (by (have zz0 := Below.size b13; (try simp at zz0); have zz1 := Below.size b12; (try simp at zz1); have zz2 := Below.size b11; (try simp at zz2); have zz3 := Below.size b10; (try simp at zz3); have zz4 := Below.size b9; (try simp at zz4); have zz5 := Below.size b8; (try simp at zz5); have zz6 := Below.size b7; (try simp at zz6); have zz7 := Below.size b6; (try simp at zz7); have zz8 := Below.size b5; (try simp at zz8); have zz9 := Below.size b4; (try simp at zz9); have zz10 := Below.size b3; (try simp at zz10); repeat (first | exact Below.refl _ _ | refine Below.drew ?_ | refine below_drewN ?_ _ | refine Below.alloc ?_ (by first | omega | (simp; done) | (simp; omega)) _ | refine Below.setCell ?_ (by first | omega | (simp; done) | (simp; omega)) _ | (with_reducible refine Below.trans ?_ (Below.mono b13 (by first | omega | (simp; done) | (simp; omega)))) | (with_reducible refine Below.trans ?_ (Below.mono b12 (by first | omega | (simp; done) | (simp; omega)))) | (with_reducible refine Below.trans ?_ (Below.mono b11 (by first | omega | (simp; done) | (simp; omega)))) | (with_reducible refine Below.trans ?_ (Below.mono b10 (by first | omega | (simp; done) | (simp; omega)))) | (with_reducible refine Below.trans ?_ (Below.mono b9 (by first | omega | (simp; done) | (simp; omega)))) | (with_reducible refine Below.trans ?_ (Below.mono b8 (by first | omega | (simp; done) | (simp; omega)))) | (with_reducible refine Below.trans ?_ (Below.mono b7 (by first | omega | (simp; done) | (simp; omega)))) | (with_reducible refine Below.trans ?_ (Below.mono b6 (by first | omega | (simp; done) | (simp; omega)))) | (with_reducible refine Below.trans ?_ (Below.mono b5 (by first | omega | (simp; done) | (simp; omega)))) | (with_reducible refine Below.trans ?_ (Below.mono b4 (by first | omega | (simp; done) | (simp; omega)))) | (with_reducible refine Below.trans ?_ (Below.mono b3 (by first | omega | (simp; done) | (simp; omega)))))))
      obtain ⟨hc14, hf14, hz14⟩ := bcell b14; (try simp at hz14); have kc14_0 := fun o => hc14 (w4.heap.size) o (by first | omega | (simp; done) | (simp; omega)); have kf14_0 := fun o => hf14 (w4.heap.size) o (by first | omega | (simp; done) | (simp; omega)); have kl14_0 : w4.heap.size < w14.heap.size := (by omega); have kc14_1 := fun o => hc14 (w5.heap.size) o (by first | omega | (simp; done) | (simp; omega)); have kf14_1 := fun o => hf14 (w5.heap.size) o (by first | omega | (simp; done) | (simp; omega)); have kl14_1 : w5.heap.size < w14.heap.size := (by omega); have kc14_2 := fun o => hc14 (w6.heap.size) o (by first | omega | (simp; done) | (simp; omega)); have kf14_2 := fun o => hf14 (w6.heap.size) o (by first | omega | (simp; done) | (simp; omega)); have kl14_2 : w6.heap.size < w14.heap.size := (by omega); have kc14_3 := fun o => hc14 (w7.heap.size) o (by first | omega | (simp; done) | (simp; omega)); have kf14_3 := fun o => hf14 (w7.heap.size) o (by first | omega | (simp; done) | (simp; omega)); have kl14_3 : w7.heap.size < w14.heap.size := (by omega); have kc14_4 := fun o => hc14 (w8.heap.size) o (by first | omega | (simp; done) | (simp; omega)); have kf14_4 := fun o => hf14 (w8.heap.size) o (by first | omega | (simp; done) | (simp; omega)); have kl14_4 : w8.heap.size < w14.heap.size := (by omega); have kc14_5 := fun o => hc14 (w9.heap.size) o (by first | omega | (simp; done) | (simp; omega)); have kf14_5 := fun o => hf14 (w9.heap.size) o (by first | omega | (simp; done) | (simp; omega)); have kl14_5 : w9.heap.size < w14.heap.size := (by omega); have kc14_6 := fun o => hc14 (w10.heap.size) o (by first | omega | (simp; done) | (simp; omega)); have kf14_6 := fun o => hf14 (w10.heap.size) o (by first | omega | (simp; done) | (simp; omega)); have kl14_6 : w10.heap.size < w14.heap.size := (by omega); have kc14_7 := fun o => hc14 (w11.heap.size) o (by first | omega | (simp; done) | (simp; omega)); have kf14_7 := fun o => hf14 (w11.heap.size) o (by first | omega | (simp; done) | (simp; omega)); have kl14_7 : w11.heap.size < w14.heap.size := (by omega); clear hc14 hf14
      have B14 : Hid (Below w.heap.size w w14) := by
        have hb := B13.out
        show Below _ _ _
        (have zz0 := Below.size b14; (try simp at zz0); have zz1 := Below.size hb; (try simp at zz1); repeat (first | exact Below.refl _ _ | refine Below.drew ?_ | refine below_drewN ?_ _ | refine Below.alloc ?_ (by first | omega | (simp; done) | (simp; omega)) _ | refine Below.setCell ?_ (by first | omega | (simp; done) | (simp; omega)) _ | (with_reducible refine Below.trans ?_ (Below.mono b14 (by first | omega | (simp; done) | (simp; omega)))) | (with_reducible refine Below.trans ?_ (Below.mono hb (by first | omega | (simp; done) | (simp; omega))))))
      go_wp2_with fail
      go_ret
      exact ⟨rfl, B14.out⟩

theorem drawPlays_run (s n : Int) (a : Option Addr) (len cap : Nat) (zs : List Int) (k : Int) (near : Bool) (w : World) (ws : (Lit.int .u64 s).wf = true) (wn : (Lit.int .i64 n).wf = true) (wz : ArgRow .i64 w a len cap zs) (wk : (Lit.int .i64 k).wf = true) :
    Calls Try.prog 3 #[.int .u64 s, .int .i64 n, .slice a len cap, .int .i64 k, .bool near] w fun e w' => e = .returned (.bool true) ∧ Below w.heap.size w w' := by
  obtain ⟨h1, h2, h3, h4⟩ := wz.rd
  have h5 : len ≤ 9223372036854775807 := by
    rcases wz with ⟨_, h, _, _⟩ | ⟨_, _, hl, hm, _⟩
    · omega
    · unfold maxLen at hm; omega
  exact drawPlays_walk s n k a len cap (zs.take len) near (bounds_i64 wn) (bounds_i64 wk) h5 h3 h4 h2 w h1

theorem drawPlays_own : ownKnob Try.prog.godebug = none := by kernel_rfl
theorem drawPlays_laid : laidOutB Try.prog = true := by kernel_rfl
set_option maxRecDepth 100000 in
theorem drawPlays_lifted (os : Os) (started : os.Started) (H : Type) (enc : TypeId × Value → H) :
    ReturnsInHanded {} Try.checked os 3 .any (Rows.drawPlaysSpec.pre6 enc Try.prog Try.f3 Rows.drawPlaysRow.domain false) (Rows.drawPlaysSpec.post enc Try.prog Try.f3 false true false false) := by
  refine returnsInHanded_of_change (C := Try.checked) drawPlays_own started (by kernel_rfl) Try.func3
    (ChangeSpec.witness6 (enc := enc) (C := Try.checked) false ⟨#[], #[.int .u64 0, .int .i64 0, .slice none 0 0, .int .i64 0, .bool false], []⟩ 8 (by kernel_rfl) (by kernel_rfl) (by kernel_rfl) (by kernel_rfl)) ?_
  intro W base args ds gs before hval0 hW hcnd _
  have hval : ∀ (j : Nat) t v, Try.f3.params[j]? = some t → args[j]? = some v → Value.okWide Try.prog W .any base t v := hval0
  have hW' := hW
  obtain ⟨p, q, hA0, hV, rfl, hfz, hnd⟩ := hW
  have hA : DataW.TrodAll enc Try.prog W 0 (fun _ => true) true Try.f3.params.toList args.toList ds p := hA0
  rw [Try.params3] at hA hval
  obtain ⟨v0, vs0, d0, ds0, p0, q0, hargs, rfl, rfl, h0, r0⟩ := trodAll_cons hA
  obtain ⟨v1, vs1, d1, ds1, p1, q1, rfl, rfl, rfl, h1, r1⟩ := trodAll_cons r0
  obtain ⟨v2, vs2, d2, ds2, p2, q2, rfl, rfl, rfl, h2, r2⟩ := trodAll_cons r1
  obtain ⟨v3, vs3, d3, ds3, p3, q3, rfl, rfl, rfl, h3, r3⟩ := trodAll_cons r2
  obtain ⟨v4, vs4, d4, ds4, p4, q4, rfl, rfl, rfl, h4, r4⟩ := trodAll_cons r3
  obtain ⟨rfl, rfl, rfl⟩ := trodAll_nil r4
  obtain rfl : args = #[v0, v1, v2, v3, v4] := by cases args; simp_all
  obtain ⟨rfl, rfl⟩ := trodVars_none hV
  obtain ⟨a0, rfl, rfl, rfl, w0⟩ := open_int Try.underlying22 (hval 0 22 v0 rfl rfl) h0
  obtain ⟨a1, rfl, rfl, rfl, w1⟩ := open_int Try.underlying3 (hval 1 3 v1 rfl rfl) h1
  obtain ⟨a2, len2, cap2, rfl⟩ := okWide_slice Try.underlying23 (hval 2 23 v2 rfl rfl)
  have k2 := h2
  have lt2 : ∀ x ∈ p2, x.block < W.heap.size := by obtain ⟨m, hm⟩ := k2; exact DataW.trod_lt m _ _ _ hm
  obtain ⟨z2, w2⟩ : ∃ zs, ArgRow .i64 W a2 len2 cap2 zs := by
    obtain ⟨fuel, hf⟩ := h2
    rcases open_ints Try.underlying23 Try.underlying3 (by kernel_rfl) hf with ⟨hcs, _⟩ | ⟨x, l, c, zs, hcs, _, hl, hm, hz, _, hcell, hwz⟩
    · simp [Value.cells] at hcs
      obtain ⟨rfl, rfl, rfl⟩ := hcs
      exact ⟨[], .inl ⟨rfl, rfl, rfl, rfl⟩⟩
    · simp [Value.cells] at hcs
      obtain ⟨rfl, rfl, rfl⟩ := hcs
      exact ⟨zs, .inr ⟨_, rfl, hl, hm, by simpa using hz, hcell, hwz⟩⟩
  obtain ⟨a3, rfl, rfl, rfl, w3⟩ := open_int Try.underlying3 (hval 3 3 v3 rfl rfl) h3
  obtain ⟨a4, rfl, rfl, rfl⟩ := open_bool Try.underlying4 (hval 4 4 v4 rfl rfl) h4
  clear hA0 hval0
  refine (drawPlays_run a0 a1 a2 len2 cap2 z2 a3 a4 W w0 w1 w2 w3).mono fun e W' ⟨he, bel⟩ => ?_
  subst he
  exact ⟨_, rfl, _, _, _, [], _, [], hW', trodAll_mk1 (shut_bool Try.underlying4 _), (trodAll_cons_mk (shut_int Try.underlying22 w0) (trodAll_cons_mk (shut_int Try.underlying3 w1) (trodAll_cons_mk (Below.trod drawPlays_laid (by kernel_rfl) (of_decide_eq_true (by kernel_rfl)) k2 bel lt2) (trodAll_cons_mk (shut_int Try.underlying3 w3) (trodAll_cons_mk (shut_bool Try.underlying4 _) trodAll_mk0))))), rfl, bel.frame _, fun h => by cases h⟩
theorem drawPlays_over : Rows.drawPlaysRow.holds Try.pinned (OpenSpec.ofChange Rows.drawPlaysSpec) :=
  OpenClaim.holds_of_wide 3 Try.f3 rfl rfl rfl rfl rfl rfl rfl ⟨rfl, rfl, rfl, rfl, rfl⟩ rfl rfl rfl rfl rfl (by kernel_rfl) Try.func3 (by kernel_rfl)
    (of_decide_eq_true (by kernel_rfl)) (by unfold Func.isWrapper; first | (rw [if_pos (by decide +kernel)]; kernel_rfl) | (rw [if_neg (by decide +kernel)]; exact ⟨rfl, rfl⟩))
    (fun os started H enc _ => drawPlays_lifted os started H enc)
theorem drawPlays_holds : Rows.DrawPlaysSaid := drawPlays_over
#print axioms drawPlays_holds
end Go.Proofs.Ythjdchhhiopceaa
