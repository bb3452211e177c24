/- The net's closures; slices.Index over hosts. -/
import Derived.Test.YtdpgmdkclaahdaaNeIdx
import Derived.Lib.QuietBelow
import Derived.BigQuiet
import Derived.Lib.Builder
namespace Go.Proofs.Ytdpgmdkclaahdaa.Ne
open Go.Sort Go.RowKit Go.BigFrame
set_option linter.unusedVariables false
set_option linter.unusedSimpArgs false

theorem enters_areR : Enters 38 := fun args w => by kernel_rfl
theorem enters_tak1 : Enters 48 := fun args w => by kernel_rfl
theorem enters_tak2 : Enters 50 := fun args w => by kernel_rfl
theorem enters_boxAt : Enters 65 := fun args w => by kernel_rfl
set_option maxHeartbeats 1600000 in
theorem areR_any (x : Ho) (g : Nat) (ip p b : Int) (w : World) (h : Cs g [.int .u32 ip, .int .u16 p, .int .i64 b] w) :
    Calls Try.prog 38 #[.agg #[.int .u32 x.i, .int .u16 x.p, .int .i64 x.b], .pointer (some ⟨g, 0, none⟩)] w fun e w' => e = .returned (.bool (decide (x.i = ip) && decide (x.p = p))) ∧ Below w.heap.size w w' := by
  have x0 := h.cell 0 _ rfl
  have x1 := h.cell 1 _ rfl
  have gl := h.lt
  clear h
  obtain ⟨a, q, r⟩ := x
  simp only
  by_cases h1 : a = ip
  · by_cases h2 : q = p
    · subst h1; subst h2
      go_enter Try.func38, Try.ntmps38
      go_wp2
      go_ret
      exact ⟨bool_ret (by simp), by (repeat (first | with_reducible exact Below.refl _ _ | with_reducible refine Below.drew ?_ | with_reducible refine below_drewN ?_ _ | with_reducible refine Below.alloc ?_ (by first | omega | (simp; done) | (simp; omega)) _ | with_reducible refine Below.setCell ?_ (by first | omega | (simp; done) | (simp; omega)) _))⟩
    · subst h1
      have h2' : (q == p) = false := by rw [beq_eq_false_iff_ne]; exact h2
      go_enter Try.func38, Try.ntmps38
      go_wp2
      go_ret
      exact ⟨bool_ret (by simp [h2]), by (repeat (first | with_reducible exact Below.refl _ _ | with_reducible refine Below.drew ?_ | with_reducible refine below_drewN ?_ _ | with_reducible refine Below.alloc ?_ (by first | omega | (simp; done) | (simp; omega)) _ | with_reducible refine Below.setCell ?_ (by first | omega | (simp; done) | (simp; omega)) _))⟩
  · have h1' : (a == ip) = false := by rw [beq_eq_false_iff_ne]; exact h1
    go_enter Try.func38, Try.ntmps38
    go_wp2
    go_ret
    exact ⟨bool_ret (by simp [h1]), by (repeat (first | with_reducible exact Below.refl _ _ | with_reducible refine Below.drew ?_ | with_reducible refine below_drewN ?_ _ | with_reducible refine Below.alloc ?_ (by first | omega | (simp; done) | (simp; omega)) _ | with_reducible refine Below.setCell ?_ (by first | omega | (simp; done) | (simp; omega)) _))⟩
set_option maxHeartbeats 1600000 in
theorem tak1_any (x : Ho) (g : Nat) (ip : Int) (w : World) (h : Cs g [.int .u32 ip] w) :
    Calls Try.prog 48 #[.agg #[.int .u32 x.i, .int .u16 x.p, .int .i64 x.b], .pointer (some ⟨g, 0, none⟩)] w fun e w' => e = .returned (.bool (decide (x.i = ip))) ∧ Below w.heap.size w w' := by
  have x0 := h.cell 0 _ rfl
  have gl := h.lt
  clear h
  obtain ⟨a, q, r⟩ := x
  simp only
  go_enter Try.func48, Try.ntmps48
  go_wp2
  go_ret
  exact ⟨rfl, by (repeat (first | with_reducible exact Below.refl _ _ | with_reducible refine Below.drew ?_ | with_reducible refine below_drewN ?_ _ | with_reducible refine Below.alloc ?_ (by first | omega | (simp; done) | (simp; omega)) _ | with_reducible refine Below.setCell ?_ (by first | omega | (simp; done) | (simp; omega)) _))⟩
set_option maxHeartbeats 1600000 in
theorem boxAt1_any (q g : Nat) (ip : Int) (x : Nb.Bx) (S : Nat → Prop) (w : World) (h : Cs g [.int .u32 ip] w) (hB : Nb.B1 0 no q x S w) :
    Calls Try.prog 65 #[.pointer (some ⟨q, 0, none⟩), .pointer (some ⟨g, 0, none⟩)] w fun e w' => e = .returned (.bool (decide (x.ip = ip))) ∧ Below w.heap.size w w' := by
  have x0 := h.cell 0 _ rfl
  have k0 := cell_regrown x0
  have gl := h.lt
  have C : ∀ d os, _ := fun d os => Calls.regrown_of (((Nb.ip1 (hB.keep (below_regrown w d os))).mono fun e w' ⟨h1, h2⟩ => ⟨h1, h2 ▸ Below.refl _ _⟩ : Calls Try.prog 20 #[.pointer (some ⟨q, 0, none⟩)] (grow (redrawn w d) os) fun e w' => e = .returned (.int .u32 x.ip) ∧ Below (grow (redrawn w d) os).heap.size (grow (redrawn w d) os) w'))
  clear h hB x0
  go_enter Try.func65, Try.ntmps65
  go_wp2_with fail
  (refine wp_region_quiet_below (by kernel_rfl) (by kernel_rfl) ?_; (repeat (go_big_quiet_step (first | with_reducible exact C _ _))); refine wpQuiet_nil ?_; intro _ hw'; obtain ⟨⟨dq, osq⟩, hw''⟩ := hw'; subst hw'')
  go_wp2
  go_ret
  exact ⟨rfl, below_regrown _ _ _⟩
theorem b1_cs {g : Nat} {S : Nat → Prop} {x : Nb.Bx} {w : World} (h : Nb.B1 0 no g x S w) : ∃ vs, Cs g vs w := by
  obtain ⟨_, _, h1, _⟩ := h
  exact ⟨_, h1.box⟩
theorem info_boxS : (Try.prog.info? 88).map (fun i => (i.size, i.bytes)) = some (6, 64) := by kernel_rfl
theorem neq_ptr {q k : Nat} {vs us : List Value} {w : World} (h1 : Cs q vs w) (h2 : Cs k us w) :
    (binOp .neq 60 (.pointer (some ⟨q, 0, none⟩)) (.pointer (some ⟨k, 0, none⟩))).run Try.prog w = .ok (.bool (!decide (q = k))) w := by
  obtain ⟨c1, t, h1⟩ := h1.pl
  obtain ⟨c2, u, h2⟩ := h2.pl
  have hi := info_boxS
  rw [Option.map_eq_some_iff] at hi
  obtain ⟨i, hi, he⟩ := hi
  simp only [Prod.mk.injEq] at he
  by_cases hq : q = k
  · subst hq
    rw [Lib.run_neq_ptr_same w _ Try.underlying60 hi]; simp
  · have h : ∀ d : Nat, (Op.equalIn (d + 1) 60 (.pointer (some ⟨q, 0, none⟩)) (.pointer (some ⟨k, 0, none⟩))).run Try.prog w = .ok false w := fun d => by
      simp [Op.equalIn, run_underlying Try.underlying60, sizeOf, typeInfo, hi, he.1, run_sameAddr_other w (a := ⟨q, 0, none⟩) (b := ⟨k, 0, none⟩) (by intro h; injection h with h; exact hq h) h1 h2]
    simp only [binOp]
    simp [Op.equal, Op.maxDepth, h 9999, hq]
set_option maxHeartbeats 1600000 in
theorem tak2_any (q g1 g2 qb : Nat) (ip : Int) (x : Nb.Bx) (S : Nat → Prop) (w : World) (h1 : Cs g1 [.pointer (some ⟨qb, 0, none⟩)] w) (h2 : Cs g2 [.int .u32 ip] w) (hB : Nb.B1 0 no q x S w) (us : List Value) (hq : Cs qb us w) :
    Calls Try.prog 50 #[.pointer (some ⟨q, 0, none⟩), .pointer (some ⟨g1, 0, none⟩), .pointer (some ⟨g2, 0, none⟩)] w fun e w' => e = .returned (.bool (!decide (q = qb) && decide (x.ip = ip))) ∧ Below w.heap.size w w' := by
  have x0 := h1.cell 0 _ rfl
  have x1 := h2.cell 0 _ rfl
  have k0 := cell_regrown x0
  have k1 := cell_regrown x1
  have gl := h1.lt
  have gl2 := h2.lt
  have C : ∀ d os, _ := fun d os => Calls.regrown_of (((Nb.ip1 (hB.keep (below_regrown w d os))).mono fun e w' ⟨h1, h2⟩ => ⟨h1, h2 ▸ Below.refl _ _⟩ : Calls Try.prog 20 #[.pointer (some ⟨q, 0, none⟩)] (grow (redrawn w d) os) fun e w' => e = .returned (.int .u32 x.ip) ∧ Below (grow (redrawn w d) os).heap.size (grow (redrawn w d) os) w'))
  have N : ∀ d os, _ := fun d os => neq_ptr (q := q) (k := qb) (b1_cs (hB.keep (below_regrown w d os))).choose_spec (hq.keep (below_regrown w d os))
  clear h1 h2 hB x0 x1 hq
  by_cases hq : q = qb
  · subst hq
    have N2 : ∀ d os, (binOp .neq 60 (.pointer (some ⟨q, 0, none⟩)) (.pointer (some ⟨q, 0, none⟩))).run Try.prog (grow (redrawn w d) os) = .ok (.bool false) (grow (redrawn w d) os) := fun d os => by rw [N d os]; simp
    clear N
    go_enter Try.func50, Try.ntmps50
    go_wp2_with fail
    (refine wp_region_quiet_below (by kernel_rfl) (by kernel_rfl) ?_; (repeat (go_big_quiet_step (first | with_reducible exact C _ _))); refine wpQuiet_nil ?_; intro _ hw'; obtain ⟨⟨dq, osq⟩, hw''⟩ := hw'; subst hw'')
    go_wp2
    go_ret
    exact ⟨bool_ret (by simp), below_regrown _ _ _⟩
  · have N2 : ∀ d os, (binOp .neq 60 (.pointer (some ⟨q, 0, none⟩)) (.pointer (some ⟨qb, 0, none⟩))).run Try.prog (grow (redrawn w d) os) = .ok (.bool true) (grow (redrawn w d) os) := fun d os => by rw [N d os]; simp [hq]
    clear N
    go_enter Try.func50, Try.ntmps50
    go_wp2_with fail
    (refine wp_region_quiet_below (by kernel_rfl) (by kernel_rfl) ?_; (repeat (go_big_quiet_step (first | with_reducible exact C _ _))); refine wpQuiet_nil ?_; intro _ hw'; obtain ⟨⟨dq, osq⟩, hw''⟩ := hw'; subst hw'')
    go_wp2
    go_ret
    exact ⟨bool_ret (by simp [hq]; rfl), below_regrown _ _ _⟩
def IdxJ (w : World) (hs : List Ho) (p : Ho → Bool) (i : Value) (wr : World) : Prop := ∃ j : Nat, j ≤ hs.length ∧ i = .int .i64 j ∧ (∀ x ∈ hs.take j, p x = false) ∧ Below w.heap.size w wr
set_option maxHeartbeats 1600000 in
theorem index_any (a : Option Addr) (cap : Nat) (hs : List Ho) (hl : hs.length ≤ 1000000) (i p b : Int) (w : World) (hr : RdE cho 3 w a hs) :
    Calls Try.prog 63 #[.slice a hs.length cap, .agg #[.int .u32 i, .int .u16 p, .int .i64 b]] w fun e w' => e = .returned (.int .i64 ((hostP hs i p b : Int) - 1)) ∧ Below w.heap.size w w' := by
  have fin : ∀ v, IdxVH (fun h => decide (h.i = i) && decide (h.p = p) && decide (h.b = b)) hs v → v = (hostP hs i p b : Int) - 1 := fun v h => idxV_numH h
  have X : Hid (Cs w.heap.size [.int .u32 i, .int .u16 p, .int .i64 b] (w.alloc (.cells #[.int .u32 i, .int .u16 p, .int .i64 b] 34))) := Cs.new w [.int .u32 i, .int .u16 p, .int .i64 b] 34
  have hB : Hid (Below w.heap.size w (w.alloc (.cells #[.int .u32 i, .int .u16 p, .int .i64 b] 34))) := by show Below _ _ _; (repeat (first | with_reducible exact Below.refl _ _ | with_reducible refine Below.drew ?_ | with_reducible refine below_drewN ?_ _ | with_reducible refine Below.alloc ?_ (by first | omega | (simp; done) | (simp; omega)) _ | with_reducible refine Below.setCell ?_ (by first | omega | (simp; done) | (simp; omega)) _))
  have hR : Hid (RdE cho 3 (w.alloc (.cells #[.int .u32 i, .int .u16 p, .int .i64 b] 34)) a hs) := hr.keep hB.out
  have FIN := Lib.hid fin
  clear hr fin
  generalize hostP hs i p b = num at *
  go_enter Try.func63, Try.ntmps63
  go_wp2_with fail
  generalize (w.alloc (.cells #[.int .u32 i, .int .u16 p, .int .i64 b] 34)) = w0 at *
  go_loopw [5, 8] (fun _ k wr => IdxJ w0 hs (fun h => decide (h.i = i) && decide (h.p = p) && decide (h.b = b)) k wr) (fun _ k _ => hs.length - (intOf k).toNat)
  case atStart => exact ⟨0, Nat.zero_le _, rfl, by simp, Below.refl _ _⟩
  case round =>
    obtain ⟨j, hj, rfl, ha, hb⟩ := hrel
    by_cases hlt : j < hs.length
    · have hlt' : (j : Int) < hs.length := by omega
      have hj0 : (0 : Int) ≤ j := by omega
      obtain ⟨bk, off, rfl, hbl, hc⟩ := hR.out.keep hb (by omega)
      have hx : hs[j]? = some hs[j] := List.getElem?_eq_getElem hlt
      have c0 := hc j _ hx 0 _ rfl
      have c1 := hc j _ hx 1 _ rfl
      have c2 := hc j _ hx 2 _ rfl
      have X1 := X.out.keep hb
      have x0 := X1.cell 0 _ rfl
      have x1 := X1.cell 1 _ rfl
      have x2 := X1.cell 2 _ rfl
      have xl := X1.lt
      have HB := Lib.hid hb
      have Hyes : Hid (hs[j].i = i → hs[j].p = p → hs[j].b = b → (j : Int) = (num : Int) - 1) := fun h1 h2 h3 => FIN.out _ (Or.inr ⟨j, hlt, rfl, by simp [h1, h2, h3], ha⟩)
      have Hno : Hid (¬ (hs[j].i = i ∧ hs[j].p = p ∧ hs[j].b = b) → ∀ x ∈ hs.take (j + 1), (decide (x.i = i) && decide (x.p = p) && decide (x.b = b)) = false) := fun h => takeno_pH hlt ha (by
        rw [Bool.eq_false_iff]; intro h2; simp at h2; exact h ⟨h2.1.1, h2.1.2, h2.2⟩)
      generalize hs[j] = r at *
      obtain ⟨r1, r2, r3⟩ := r
      simp only [Nat.add_zero] at *
      clear hc ha hb hR X X1 hx
      by_cases hR1 : i = r1
      · by_cases hR2 : p = r2
        · by_cases hR3 : b = r3
          · have HE := Lib.hid (Hyes.out hR1.symm hR2.symm hR3.symm)
            clear Hyes Hno FIN
            go_wp2
            go_quiet (fail)
            go_wp2
            go_ret
            exact ⟨by rw [← HE.out]; rfl, below_drewN (hB.out.trans (HB.out.mono hB.out.size)) _⟩
          · have HE := Lib.hid (Hno.out (fun h => hR3 h.2.2.symm))
            clear Hyes Hno FIN
            go_wp2
            go_quiet (fail)
            go_wp2
            go_roundw
            case rel => exact ⟨j + 1, by omega, by go_num, HE.out, below_drewN HB.out _⟩
            case measure => simp [intOf]; omega
        · have HE := Lib.hid (Hno.out (fun h => hR2 h.2.1.symm))
          clear Hyes Hno FIN
          go_wp2
          go_quiet (fail)
          go_wp2
          go_roundw
          case rel => exact ⟨j + 1, by omega, by go_num, HE.out, below_drewN HB.out _⟩
          case measure => simp [intOf]; omega
      · have HE := Lib.hid (Hno.out (fun h => hR1 h.1.symm))
        clear Hyes Hno FIN
        go_wp2
        go_quiet (fail)
        go_wp2
        go_roundw
        case rel => exact ⟨j + 1, by omega, by go_num, HE.out, below_drewN HB.out _⟩
        case measure => simp [intOf]; omega
    · obtain rfl : j = hs.length := by omega
      rw [List.take_length] at ha
      have HA : Hid ((-1 : Int) = (num : Int) - 1) := FIN.out _ (Or.inl ⟨rfl, ha⟩)
      have HB := Lib.hid hb
      clear ha hb hR X FIN
      go_wp2
      go_ret
      exact ⟨by rw [← HA.out]; rfl, hB.out.trans (HB.out.mono hB.out.size)⟩
end Go.Proofs.Ytdpgmdkclaahdaa.Ne
