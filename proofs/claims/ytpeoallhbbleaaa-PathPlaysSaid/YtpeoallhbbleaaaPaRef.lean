/- The reference's: New, bad, None, find. -/
import Derived.Test.YtpeoallhbbleaaaPaRefRow
namespace Go.Proofs.Ytpeoallhbbleaaa
open Go.Sort Go.RowKit Go.BigFrame
set_option linter.unusedVariables false
set_option linter.unusedSimpArgs false

theorem rnone_any (ip port : Nat) (h1 : ip < 4294967296) (h2 : port < 65536) (w : World) :
    Calls Try.prog 33 #[.agg #[.int .u32 ip, .int .u16 port]] w fun e w' => e = .returned (.bool (noneI ip port)) ∧ Below w.heap.size w w' := by
  unfold noneI
  by_cases h : ip = 0
  · subst h
    go_enter Try.func33, Try.ntmps33
    go_wp2
    go_ret
    exact ⟨rfl, by (repeat (first | with_reducible exact Below.refl _ _ | with_reducible refine Below.drew ?_ | with_reducible refine below_drewN ?_ _ | with_reducible refine Below.alloc ?_ (by first | omega | (simp; done) | (simp; omega)) _ | with_reducible refine Below.setCell ?_ (by first | omega | (simp; done) | (simp; omega)) _))⟩
  · go_enter Try.func33, Try.ntmps33
    go_wp2
    go_ret
    refine ⟨?_, by (repeat (first | with_reducible exact Below.refl _ _ | with_reducible refine Below.drew ?_ | with_reducible refine below_drewN ?_ _ | with_reducible refine Below.alloc ?_ (by first | omega | (simp; done) | (simp; omega)) _ | with_reducible refine Below.setCell ?_ (by first | omega | (simp; done) | (simp; omega)) _))⟩
    exact bool_ret (by rw [Bool.eq_iff_iff]; simp [h])
theorem rbad_any (i now : Int) (w : World) : Calls Try.prog 29 #[.int .i64 i, .int .u64 now] w fun e w' => e = .returned (.bool (badC i now)) ∧ w = w' := by
  by_cases c1 : i < 1
  · have e1 : badC i now = true := by unfold badC; rw [nodeI_no (by omega)]; rfl
    rw [e1]
    have d1 : decide (i < 1) = true := decide_eq_true c1
    go_enter Try.func29, Try.ntmps29
    go_wp2
    go_ret
    exact ⟨rfl, rfl⟩
  · have d1 : decide (i < 1) = false := decide_eq_false c1
    by_cases c2 : 32 < i
    · have e1 : badC i now = true := by unfold badC; rw [nodeI_no (by omega)]; rfl
      rw [e1]
      have d2 : decide (32 < i) = true := decide_eq_true c2
      go_enter Try.func29, Try.ntmps29
      go_wp2
      go_ret
      exact ⟨rfl, rfl⟩
    · have e1 : badC i now = decide (4611686018427387904 < now) := by unfold badC; rw [nodeI_iff.2 ⟨by omega, by omega⟩]; rfl
      rw [e1]
      have d2 : decide (32 < i) = false := decide_eq_false c2
      go_enter Try.func29, Try.ntmps29
      go_wp2
      go_ret
      exact ⟨rfl, rfl⟩
def RNewPost (t b k h : Int) (w : World) (e : Ending) (w' : World) : Prop := ∃ g, e = .returned (.pointer (some ⟨g, 0, none⟩)) ∧ w.heap.size ≤ g ∧ Qs g nilS (newK t b k h) w' ∧ Below w.heap.size w w'
theorem all_newK (t b k h : Int) : allP (newK t b k h).p = [] := by
  show allP (fun _ => zP) = []
  kernel_rfl
set_option maxHeartbeats 1600000 in
theorem rnew_any (t b k h : Int) (ha : mayI t b k h = true) (w : World) : Calls Try.prog 11 #[.int .i64 t, .int .u64 b, .int .u64 k, .int .u64 h] w (RNewPost t b k h w) := by
  have hm := mayI_iff.1 ha
  have hok := new_ok ha
  unfold RNewPost
  have F : Hid (Qs w.heap.size nilS (newK t b k h) (w.alloc (.cells #[.int .i64 t, .int .u64 b, .int .u64 k, .int .u64 h, .slice none 0 0] 58))) := by
    refine ⟨Cs.new w (qC (newK t b k h) nilS) _, ?_, fun b hb => absurd hb (nil_own b), hok⟩
    rw [all_newK]; exact erow_nil
  have d1 : decide (t < 1) = false := decide_eq_false (by omega)
  have d2 : decide (8 < t) = false := decide_eq_false (by omega)
  have d3 : (b == 0) = false := beq_eq_false_iff_ne.2 (by omega)
  have d4 : (k == 0) = false := beq_eq_false_iff_ne.2 (by omega)
  have d5 : (h == 0) = false := beq_eq_false_iff_ne.2 (by omega)
  have d6 : decide (1000000 < b) = false := decide_eq_false (by omega)
  have d7 : decide (1000000 < k) = false := decide_eq_false (by omega)
  have d8 : decide (1000000 < h) = false := decide_eq_false (by omega)
  clear ha hm hok
  go_enter Try.func11, Try.ntmps11
  go_wp2
  go_ret
  exact ⟨w.heap.size, rfl, Nat.le_refl _, F.out, (Below.refl _ _).alloc (Nat.le_refl _) _⟩
set_option maxHeartbeats 3200000 in
theorem rnew_bad (t b k h : Int) (ha : mayI t b k h = false) (hb : 0 ≤ b) (hk : 0 ≤ k) (hh : 0 ≤ h) (w : World) : Calls Try.prog 11 #[.int .i64 t, .int .u64 b, .int .u64 k, .int .u64 h] w fun e w' => e = .returned (.pointer none) ∧ w = w' := by
  by_cases c1 : t < 1
  · have d1 : decide (t < 1) = true := decide_eq_true c1
    clear ha
    go_enter Try.func11, Try.ntmps11
    go_wp2
    go_ret
    exact ⟨rfl, rfl⟩
  · have d1 : decide (t < 1) = false := decide_eq_false c1
    by_cases c2 : 8 < t
    · have d2 : decide (8 < t) = true := decide_eq_true c2
      clear ha
      go_enter Try.func11, Try.ntmps11
      go_wp2
      go_ret
      exact ⟨rfl, rfl⟩
    · have d2 : decide (8 < t) = false := decide_eq_false c2
      by_cases c3 : b = 0
      · subst c3
        clear ha
        go_enter Try.func11, Try.ntmps11
        go_wp2
        go_ret
        exact ⟨rfl, rfl⟩
      · have d3 : (b == 0) = false := beq_eq_false_iff_ne.2 c3
        by_cases c4 : k = 0
        · subst c4
          clear ha
          go_enter Try.func11, Try.ntmps11
          go_wp2
          go_ret
          exact ⟨rfl, rfl⟩
        · have d4 : (k == 0) = false := beq_eq_false_iff_ne.2 c4
          by_cases c5 : h = 0
          · subst c5
            clear ha
            go_enter Try.func11, Try.ntmps11
            go_wp2
            go_ret
            exact ⟨rfl, rfl⟩
          · have d5 : (h == 0) = false := beq_eq_false_iff_ne.2 c5
            by_cases c6 : 1000000 < b
            · have d6 : decide (1000000 < b) = true := decide_eq_true c6
              clear ha
              go_enter Try.func11, Try.ntmps11
              go_wp2
              go_ret
              exact ⟨rfl, rfl⟩
            · have d6 : decide (1000000 < b) = false := decide_eq_false c6
              by_cases c7 : 1000000 < k
              · have d7 : decide (1000000 < k) = true := decide_eq_true c7
                clear ha
                go_enter Try.func11, Try.ntmps11
                go_wp2
                go_ret
                exact ⟨rfl, rfl⟩
              · have d7 : decide (1000000 < k) = false := decide_eq_false c7
                by_cases c8 : 1000000 < h
                · have d8 : decide (1000000 < h) = true := decide_eq_true c8
                  clear ha
                  go_enter Try.func11, Try.ntmps11
                  go_wp2
                  go_ret
                  exact ⟨rfl, rfl⟩
                · exfalso
                  have : mayI t b k h = true := mayI_iff.2 ⟨by omega, by omega, by omega, by omega, by omega⟩
                  rw [ha] at this; exact absurd this (by decide)
def FiJ (i : Int) (L : List Pt) (w : World) (iv : Value) (wr : World) : Prop := ∃ j : Nat, iv = .int .i64 (j : Nat) ∧ j ≤ L.length ∧ j ≤ atL i L ∧ Below w.heap.size w wr
set_option maxHeartbeats 3200000 in
theorem find_low (i : Int) (g : Nat) (u : Sl) (k : Tk) (w : World) (h : Qs g u k w) :
    Calls Try.prog 30 #[.pointer (some ⟨g, 0, none⟩), .int .i64 i] w fun e w' => e = .returned (.tuple #[.int .i64 (atL i (allP k.p) : Nat), .bool (thB i (allP k.p))]) ∧ Below w.heap.size w w' := by
  have hn := h.n
  have hl33 := all_len k.p
  obtain ⟨av, n, c⟩ := u
  simp only at hn
  subst hn
  have HX := Lib.hid h.box
  have CELL : Hid (∀ wr, Below w.heap.size w wr → ∀ j, (hj : j < (allP k.p).length) → ∃ b, av = some ⟨b, 0, none⟩ ∧ wr.cell? ⟨b, j * 7, none⟩ = some (.int .i64 (allP k.p)[j].peer)) := fun wr hb j hj => by
    obtain ⟨b, h1, _, h2, _⟩ := (h.keep hb).cells (List.getElem?_eq_getElem hj)
    exact ⟨b, h1, by simpa using h2 0 _ rfl⟩
  unfold qC at HX
  simp only at HX
  generalize allP k.p = L at *
  have hll : (L.length : Int) ≤ 33 := by omega
  clear h
  go_enter Try.func30, Try.ntmps30
  go_wp2_with fail
  go_loopw [6] (fun iv wr => FiJ i L w iv wr) (fun iv _ => L.length - (intOf iv).toNat)
  case atStart => exact ⟨0, rfl, Nat.zero_le _, Nat.zero_le _, Below.refl _ _⟩
  case round =>
    obtain ⟨j, rfl, hjl, hj, hb⟩ := hrel
    have hj0 : (0 : Int) ≤ j := by omega
    have X := HX.out.keep hb
    have x0 := X.cell 4 _ rfl
    have gl := X.lt
    have HB := Lib.hid hb
    by_cases hlt : j < L.length
    · have hlt' : (j : Int) < L.length := by omega
      obtain ⟨b, rfl, c0⟩ := CELL.out wr hb j hlt
      have hx : L[j]? = some L[j] := List.getElem?_eq_getElem hlt
      have KY := fun h => atL_here (i := i) hx hj h
      have KN := fun h => atL_on (i := i) hx hj h
      have KT := Lib.hid (fun e => th_some (i := i) hx e)
      have HLT := Lib.hid hlt
      clear hx hj hb X
      generalize L[j] = y at *
      obtain ⟨d, hd⟩ : ∃ d, y.peer = d := ⟨_, rfl⟩
      rw [hd] at KY KN KT c0
      clear hd
      by_cases q1 : d < i
      · have q2 : decide (i ≤ d) = false := decide_eq_false (by omega)
        have HE := Lib.hid (KN q1)
        clear KY KN q1
        go_wp2
        go_roundw
        case rel => exact ⟨j + 1, by go_num, HLT.out, HE.out, HB.out⟩
        case measure => have := HLT.out; simp [intOf]; omega
      · have q2 : decide (i ≤ d) = true := decide_eq_true (by omega)
        have HE := Lib.hid (KY q1)
        have HT := Lib.hid (KT.out HE.out)
        clear KY KN KT q1
        go_wp2_with fail
        go_quiet (fail)
        go_wp2
        refine bodyPost_ret (v := (.tuple #[.int .i64 (j : Nat), .bool (d == i)])) (by simp [results, Try.results30, go_sem, *]) rfl ?_
        exact ⟨by rw [HT.out, HE.out], HB.out.trans ((below_drewN (Below.refl _ _) _).mono HB.out.size)⟩
    · obtain rfl : j = L.length := by omega
      have HE : Hid (atL i L = L.length) := by show _ = _; have := atL_le i L; omega
      clear hj hlt hb X
      go_wp2
      refine bodyPost_ret (v := (.tuple #[.int .i64 (L.length : Nat), .bool false])) (by simp [results, Try.results30, go_sem, *]) rfl ?_
      exact ⟨by rw [th_none HE.out, HE.out], HB.out⟩
theorem find_any (i : Int) (g : Nat) (u : Sl) (k : Tk) (w : World) (h : Qs g u k w) :
    Calls Try.prog 30 #[.pointer (some ⟨g, 0, none⟩), .int .i64 i] w fun e w' => e = .returned (.tuple #[.int .i64 (atL i (allP k.p) : Nat), .bool (isP k i)]) ∧ Below w.heap.size w w' := by
  rw [← th_all h.ok i]
  exact find_low i g u k w h
end Go.Proofs.Ytpeoallhbbleaaa
