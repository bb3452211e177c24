/- Contracts of Passes, both programs; a slice of addresses that can be read. -/
import Derived.Test.YtdpgmdkclaahdaaBoxes
import Derived.Test.YtdpgmdkclaahdaaNbRuleSmall
namespace Go.Proofs.Ytdpgmdkclaahdaa.Nb
open Go.Sort Go.RowKit Go.BigFrame
set_option linter.unusedVariables false
set_option linter.unusedSimpArgs false

/-- a slice of addresses that can be read: it is 'l', and lies below block B -/
def RdA (w : World) (B : Nat) (a : Option Addr) (l : List (Int × Int)) : Prop :=
  0 < l.length → ∃ b off, a = some ⟨b, off, none⟩ ∧ b < B ∧ ∀ i (h : i < l.length), w.cell? ⟨b, off + i * 2, none⟩ = some (.int .u32 l[i].1) ∧ w.cell? ⟨b, off + i * 2 + 1, none⟩ = some (.int .u16 l[i].2)
theorem RdA.nil (w : World) (B : Nat) (a : Option Addr) : RdA w B a [] := fun h => absurd h (by simp)
theorem RdA.below {w w' : World} {B : Nat} {a : Option Addr} {l : List (Int × Int)} (h : RdA w B a l) (hb : Below B w w') : RdA w' B a l := fun hp => by
  obtain ⟨b, off, rfl, hB, hc⟩ := h hp
  refine ⟨b, off, rfl, hB, fun i hi => ?_⟩
  obtain ⟨c0, c1⟩ := hc i hi
  have e := fun o => hb.cell (p := ⟨b, o, none⟩) hB
  exact ⟨(e _).trans c0, (e _).trans c1⟩
theorem RdA.more {w : World} {B B' : Nat} {a : Option Addr} {l : List (Int × Int)} (h : RdA w B a l) (hB : B ≤ B') : RdA w B' a l := fun hp => by
  obtain ⟨b, off, rfl, hb, hc⟩ := h hp
  exact ⟨b, off, rfl, by omega, hc⟩
theorem RdA.keep {w w' : World} {a : Option Addr} {l : List (Int × Int)} (h : RdA w w.heap.size a l) (hb : Below w.heap.size w w') : RdA w' w'.heap.size a l := (h.below hb).more hb.size

theorem host_take {l : List (Int × Int)} {ip : Int} {j : Nat} (h : j < l.length) (h1 : hostIn (l.take j) ip = false) (h2 : ¬ l[j].1 = ip) : hostIn (l.take (j + 1)) ip = false := by
  unfold hostIn at *
  rw [List.take_succ_eq_append_getElem h, List.any_append, h1]; simp [h2]
theorem host_yes {l : List (Int × Int)} {ip : Int} {j : Nat} (h : j < l.length) (h2 : l[j].1 = ip) : hostIn l ip = true := by
  unfold hostIn; rw [List.any_eq_true]; exact ⟨l[j], List.getElem_mem h, by simp [h2]⟩
theorem both_take {l : List (Int × Int)} {ip port : Int} {j : Nat} (h : j < l.length) (h1 : bothIn (l.take j) ip port = false) (h2 : ¬ (l[j].1 = ip ∧ l[j].2 = port)) : bothIn (l.take (j + 1)) ip port = false := by
  unfold bothIn at *
  rw [List.take_succ_eq_append_getElem h, List.any_append, h1]; simpa using h2
theorem both_yes {l : List (Int × Int)} {ip port : Int} {j : Nat} (h : j < l.length) (h1 : l[j].1 = ip) (h2 : l[j].2 = port) : bothIn l ip port = true := by
  unfold bothIn; rw [List.any_eq_true]; exact ⟨l[j], List.getElem_mem h, by simp [h1, h2]⟩

theorem clos_any (a b ip port : Int) (g : Nat) (w : World) (h0 : w.cell? ⟨g, 0, none⟩ = some (.int .u32 ip)) (hg : g < w.heap.size) :
    Calls Try.prog 79 #[.agg #[.int .u32 a, .int .u16 b], .pointer (some ⟨g, 0, none⟩)] w fun e w' => e = .returned (.bool (decide (a = ip))) ∧ Below w.heap.size w w' := by
  go_enter Try.func79, Try.ntmps79
  go_wp2
  go_ret
  exact ⟨bool_ret (by rw [Bool.eq_iff_iff]; simp), by (repeat (first | with_reducible exact Below.refl _ _ | with_reducible refine Below.drew ?_ | with_reducible refine below_drewN ?_ _ | with_reducible refine Below.alloc ?_ (by first | omega | (simp; done) | (simp; omega)) _ | with_reducible refine Below.setCell ?_ (by first | omega | (simp; done) | (simp; omega)) _))⟩
def HostJ (w : World) (l : List (Int × Int)) (ip : Int) (i : Value) (wr : World) : Prop := ∃ j : Nat, j ≤ l.length ∧ i = .int .i64 j ∧ hostIn (l.take j) ip = false ∧ Below w.heap.size w wr
set_option maxHeartbeats 1600000 in
theorem indexFunc_any (a : Option Addr) (cap : Nat) (l : List (Int × Int)) (hl : l.length ≤ 1000000) (ip : Int) (g : Nat) (w : World) (hr : RdA w w.heap.size a l) (h0 : w.cell? ⟨g, 0, none⟩ = some (.int .u32 ip)) (hg : g < w.heap.size) :
    Calls Try.prog 87 #[.slice a l.length cap, .func (.func 79) #[] #[.pointer (some ⟨g, 0, none⟩)]] w fun e w' => ∃ v : Int, e = .returned (.int .i64 v) ∧ decide (v ≥ 0) = hostIn l ip ∧ Below w.heap.size w w' := by
  go_enter Try.func87, Try.ntmps87
  go_wp2_with fail
  go_loopw [5, 8] (fun _ i wr => HostJ w l ip i wr) (fun _ i _ => l.length - (intOf i).toNat)
  case atStart => exact ⟨0, Nat.zero_le _, rfl, by simp [hostIn], Below.refl _ _⟩
  case round =>
    obtain ⟨j, hj, rfl, ha, hb⟩ := hrel
    by_cases hlt : j < l.length
    · have hlt' : (j : Int) < l.length := by omega
      have hj0 : (0 : Int) ≤ j := by omega
      obtain ⟨b, off, rfl, hbl, hc⟩ := hr.below hb (by omega)
      obtain ⟨c0, c1⟩ := hc j hlt
      have N1 := clos_any l[j].1 l[j].2 ip 0 g wr ((hb.cell (p := ⟨g, 0, none⟩) hg).trans h0) (Nat.lt_of_lt_of_le hg hb.size)
      have HB := Lib.hid hb
      have Hyes := Lib.hid (fun h => host_yes (ip := ip) hlt h)
      have Hno := Lib.hid (fun h => host_take hlt ha h)
      generalize l[j] = r at *
      obtain ⟨r1, r2⟩ := r
      simp only at *
      clear hc ha hb hr h0
      by_cases hR : r1 = ip
      · rw [decide_eq_true hR] at N1
        have HR := Lib.hid hR
        clear hR
        go_wp2_with fail
        refine N1.mono ?_; rintro e w1 ⟨rfl, b1⟩
        go_wp2
        go_ret
        refine ⟨_, rfl, ?_, HB.out.trans (b1.mono HB.out.size)⟩
        rw [Hyes.out HR.out]; simp
      · rw [decide_eq_false hR] at N1
        have HR := Lib.hid hR
        clear hR
        go_wp2_with fail
        refine N1.mono ?_; rintro e w1 ⟨rfl, b1⟩
        go_wp2
        go_roundw
        case rel => exact ⟨j + 1, by omega, by go_num, Hno.out HR.out, HB.out.trans (b1.mono HB.out.size)⟩
        case measure => simp [intOf]; omega
    · obtain rfl : j = l.length := by omega
      rw [List.take_length] at ha
      have HA := Lib.hid ha
      have HB := Lib.hid hb
      clear ha hb hr
      go_wp2
      go_ret
      refine ⟨_, rfl, ?_, HB.out⟩
      rw [HA.out]; rfl
theorem containsFunc_any (a : Option Addr) (cap : Nat) (l : List (Int × Int)) (hl : l.length ≤ 1000000) (ip : Int) (g : Nat) (w : World) (hr : RdA w w.heap.size a l) (h0 : w.cell? ⟨g, 0, none⟩ = some (.int .u32 ip)) (hg : g < w.heap.size) :
    Calls Try.prog 78 #[.slice a l.length cap, .func (.func 79) #[] #[.pointer (some ⟨g, 0, none⟩)]] w fun e w' => e = .returned (.bool (hostIn l ip)) ∧ Below w.heap.size w w' := by
  have I := indexFunc_any a cap l hl ip g w hr h0 hg
  generalize hostIn l ip = b at *
  generalize hL : l.length = L at *
  clear hr hl hL h0
  go_enter Try.func78, Try.ntmps78
  go_wp2_with fail
  refine I.mono ?_; rintro e w1 ⟨v, rfl, hv, b1⟩
  rcases b
  · have hv : ¬ v ≥ 0 := by simpa using hv
    go_wp2
    go_ret
    exact ⟨rfl, b1⟩
  · have hv : v ≥ 0 := by simpa using hv
    go_wp2
    go_ret
    exact ⟨rfl, b1⟩
def BothJ (w : World) (l : List (Int × Int)) (ip port : Int) (i : Value) (wr : World) : Prop := ∃ j : Nat, j ≤ l.length ∧ i = .int .i64 j ∧ bothIn (l.take j) ip port = false ∧ Below w.heap.size w wr
set_option maxHeartbeats 1600000 in
theorem index_any (a : Option Addr) (cap : Nat) (l : List (Int × Int)) (hl : l.length ≤ 1000000) (ip port : Int) (w : World) (hr : RdA w w.heap.size a l) :
    Calls Try.prog 86 #[.slice a l.length cap, .agg #[.int .u32 ip, .int .u16 port]] w fun e w' => ∃ v : Int, e = .returned (.int .i64 v) ∧ decide (v ≥ 0) = bothIn l ip port ∧ Below w.heap.size w w' := by
  have X : Hid (Cs w.heap.size [.int .u32 ip, .int .u16 port] (w.alloc (.cells #[.int .u32 ip, .int .u16 port] 28))) := Cs.new w [.int .u32 ip, .int .u16 port] 28
  have hB : Hid (Below w.heap.size w (w.alloc (.cells #[.int .u32 ip, .int .u16 port] 28))) := by show Below _ _ _; (repeat (first | with_reducible exact Below.refl _ _ | with_reducible refine Below.drew ?_ | with_reducible refine below_drewN ?_ _ | with_reducible refine Below.alloc ?_ (by first | omega | (simp; done) | (simp; omega)) _ | with_reducible refine Below.setCell ?_ (by first | omega | (simp; done) | (simp; omega)) _))
  have hR : Hid (RdA (w.alloc (.cells #[.int .u32 ip, .int .u16 port] 28)) (w.alloc (.cells #[.int .u32 ip, .int .u16 port] 28)).heap.size a l) := hr.keep hB.out
  clear hr
  go_enter Try.func86, Try.ntmps86
  go_wp2_with fail
  generalize (w.alloc (.cells #[.int .u32 ip, .int .u16 port] 28)) = w0 at *
  go_loopw [5, 8] (fun _ i wr => BothJ w0 l ip port i wr) (fun _ i _ => l.length - (intOf i).toNat)
  case atStart => exact ⟨0, Nat.zero_le _, rfl, by simp [bothIn], Below.refl _ _⟩
  case round =>
    obtain ⟨j, hj, rfl, ha, hb⟩ := hrel
    by_cases hlt : j < l.length
    · have hlt' : (j : Int) < l.length := by omega
      have hj0 : (0 : Int) ≤ j := by omega
      obtain ⟨b, off, rfl, hbl, hc⟩ := hR.out.below hb (by omega)
      obtain ⟨c0, c1⟩ := hc j hlt
      have X1 := X.out.keep hb
      have x0 := X1.cell 0 _ rfl
      have x1 := X1.cell 1 _ rfl
      have xl := X1.lt
      have HB := Lib.hid hb
      have Hyes := Lib.hid (fun h h2 => both_yes (ip := ip) (port := port) hlt h h2)
      have Hno := Lib.hid (fun h => both_take hlt ha h)
      generalize l[j] = r at *
      obtain ⟨r1, r2⟩ := r
      simp only at *
      clear hc ha hb hR X X1
      by_cases hR1 : ip = r1
      · by_cases hR2 : port = r2
        · go_wp2
          go_quiet (fail)
          go_wp2
          go_ret
          refine ⟨_, rfl, ?_, ?_⟩
          · rw [Hyes.out hR1.symm hR2.symm]; simp
          · exact below_drewN (hB.out.trans (HB.out.mono hB.out.size)) _
        · go_wp2
          go_quiet (fail)
          go_wp2
          go_roundw
          case rel => exact ⟨j + 1, by omega, by go_num, Hno.out (fun h => hR2 h.2.symm), below_drewN HB.out _⟩
          case measure => simp [intOf]; omega
      · go_wp2
        go_quiet (fail)
        go_wp2
        go_roundw
        case rel => exact ⟨j + 1, by omega, by go_num, Hno.out (fun h => hR1 h.1.symm), below_drewN HB.out _⟩
        case measure => simp [intOf]; omega
    · obtain rfl : j = l.length := by omega
      rw [List.take_length] at ha
      have HA := Lib.hid ha
      have HB := Lib.hid hb
      clear ha hb hR X
      go_wp2
      go_ret
      refine ⟨_, rfl, ?_, hB.out.trans (HB.out.mono hB.out.size)⟩
      rw [HA.out]; rfl
end Go.Proofs.Ytdpgmdkclaahdaa.Nb