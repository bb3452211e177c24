/- The program's bag: New, isFull, Len, Ready. -/
import Derived.Test.YtdpgmdkclaahdaaBgBagMath
namespace Go.Proofs.Ytdpgmdkclaahdaa.Bg
open Go.Sort Go.RowKit Go.BigFrame
set_option linter.unusedVariables false
set_option linter.unusedSimpArgs false

theorem new_bad (room : Int) (w : World) (hb : room < 1 ∨ 256 < room) :
    Calls Try.prog 23 #[.int .i64 room] w (fun e w' => e = .returned (.tuple #[.pointer none, .int .i64 1]) ∧ w' = w) := by
  by_cases h1 : room < 1
  · have h1' : decide (room < 1) = true := decide_eq_true h1
    go_enter Try.func23, Try.ntmps23
    go_wp2
    refine bodyPost_ret (v := (.tuple #[.pointer none, .int .i64 1])) (by simp [results, Try.results23, go_sem, *]) rfl ?_
    exact ⟨rfl, rfl⟩
  · have h1' : decide (room < 1) = false := decide_eq_false h1
    have h2' : decide (256 < room) = true := decide_eq_true (by omega)
    clear hb
    go_enter Try.func23, Try.ntmps23
    go_wp2
    refine bodyPost_ret (v := (.tuple #[.pointer none, .int .i64 1])) (by simp [results, Try.results23, go_sem, *]) rfl ?_
    exact ⟨rfl, rfl⟩
def NewPost (k : Bool) (room : Nat) (f : Value → Value) (w : World) (e : Ending) (w' : World) : Prop :=
  ∃ g, e = .returned (f (.pointer (some ⟨g, 0, none⟩))) ∧ w.heap.size ≤ g ∧ Bs k g room ⟨none, 0, 0⟩ [] w' ∧ Below w.heap.size w w'
theorem fresh_bag (k : Bool) (room : Nat) (h1 : 1 ≤ room) (h2 : room ≤ 256) (w : World) (t : TypeId) : Bs k w.heap.size room ⟨none, 0, 0⟩ [] (w.alloc (.cells (bc k room ⟨none, 0, 0⟩).toArray t)) :=
  ⟨Cs.new w _ t, World.ownsRow_nil _ _ _ _, fun e => by simp [Sl.v, Value.ownBlock] at e, h1, h2, Nat.zero_le _, by simp⟩
theorem new_ok (room : Nat) (h1 : 1 ≤ room) (h2 : room ≤ 256) (w : World) :
    Calls Try.prog 23 #[.int .i64 (room : Nat)] w (NewPost true room (fun p => .tuple #[p, .int .i64 0]) w) := by
  have h1' : decide ((room : Int) < 1) = false := decide_eq_false (by omega)
  have h2' : decide (256 < (room : Int)) = false := decide_eq_false (by omega)
  have F := fresh_bag true room h1 h2 w 85
  clear h1 h2
  go_enter Try.func23, Try.ntmps23
  go_wp2
  refine bodyPost_ret (v := (.tuple #[.pointer (some ⟨w.heap.size, 0, none⟩), .int .i64 0])) (by simp [results, Try.results23, go_sem, *]) rfl ?_
  exact ⟨w.heap.size, rfl, Nat.le_refl _, F, (Below.refl _ _).alloc (Nat.le_refl _) _⟩
theorem isFull_any (g room : Nat) (v : Sl) (L : List Pi) (w : World) (h : Bs true g room v L w) :
    Calls Try.prog 46 #[.pointer (some ⟨g, 0, none⟩)] w fun e w' => e = .returned (.bool (decide (L.length = room))) ∧ Below w.heap.size w w' := by
  have hn := h.n
  obtain ⟨a, n, c⟩ := v
  simp only at hn
  subst hn
  have x0 := h.box.cell 0 _ rfl
  have x1 := h.box.cell 1 _ rfl
  have gl := h.box.lt
  have hr := h.r2
  have hl := h.len
  clear h
  have bd := ((Below.refl w.heap.size w).drew)
  go_enter Try.func46, Try.ntmps46
  go_wp2_with fail
  go_region
  go_wp2
  go_ret
  exact ⟨bool_ret (by rw [Bool.eq_iff_iff]; simp; try omega), bd⟩
theorem len_any (g room : Nat) (v : Sl) (L : List Pi) (w : World) (h : Bs true g room v L w) :
    Calls Try.prog 18 #[.pointer (some ⟨g, 0, none⟩)] w fun e w' => e = .returned (.int .i64 (L.length : Nat)) ∧ w' = w := by
  have hn := h.n
  obtain ⟨a, n, c⟩ := v
  simp only at hn
  subst hn
  have x1 := h.box.cell 1 _ rfl
  have gl := h.box.lt
  clear h
  go_enter Try.func18, Try.ntmps18
  go_wp2
  go_ret
  exact ⟨rfl, rfl⟩
def ReadyJ (now : Int) (L : List Pi) (w : World) (nv iv : Value) (wr : World) : Prop :=
  ∃ j : Nat, j ≤ L.length ∧ iv = .int .i64 (j : Nat) ∧ nv = .int .i64 (readyP now (L.take j) : Nat) ∧ Below w.heap.size w wr
set_option maxHeartbeats 1600000 in
theorem ready_any (now : Int) (g room : Nat) (v : Sl) (L : List Pi) (w : World) (h : Bs true g room v L w) :
    Calls Try.prog 62 #[.pointer (some ⟨g, 0, none⟩), .int .u64 now] w fun e w' => e = .returned (.int .i64 (readyP now L : Nat)) ∧ Below w.heap.size w w' := by
  have hn := h.n
  obtain ⟨a, n, c⟩ := v
  simp only at hn
  subst hn
  have x1 := h.box.cell 1 _ rfl
  have gl := h.box.lt
  have HR := Lib.hid h.rd
  have hl : (L.length : Int) ≤ 256 := by have := h.len; have := h.r2; omega
  clear h
  simp only at HR
  go_enter Try.func62, Try.ntmps62
  go_wp2_with fail
  go_loopw [5, 13] (fun nv iv wr => ReadyJ now L w nv iv wr) (fun _ i _ => L.length - (intOf i).toNat)
  case atStart => exact ⟨0, Nat.zero_le _, rfl, rfl, Below.refl _ _⟩
  case round =>
    obtain ⟨j, hj, rfl, rfl, hb⟩ := hrel
    have hj0 : (0 : Int) ≤ j := by omega
    have hrt := ready_take (now := now) (L := L) j
    clear x1 gl
    by_cases hlt : j < L.length
    · have hlt' : (j : Int) < L.length := by omega
      obtain ⟨b, off, rfl, hbl, hcc⟩ := (HR.out.keep hb) (by omega)
      have hx : L[j]? = some L[j] := List.getElem?_eq_getElem hlt
      have HI1 : Hid (j + 1 ≤ L.length) := hlt
      have c0 := hcc j _ hx 0 _ rfl
      have c1 := hcc j _ hx 1 _ rfl
      have c2 := hcc j _ hx 2 _ rfl
      have c3 := hcc j _ hx 3 _ rfl
      have c4 := hcc j _ hx 4 _ rfl
      have c5 := hcc j _ hx 5 _ rfl
      have KY := fun h => ready_yes (now := now) hx h
      have KN := fun h => ready_no (now := now) hx h
      have HB := Lib.hid hb
      clear hcc hb HR
      generalize L[j] = y at *
      by_cases hk : y.t ≤ now
      · have hk' : decide (y.t ≤ now) = true := decide_eq_true hk
        have EQ := Lib.hid (KY hk)
        obtain ⟨y1, y2, y3, y4, y5, y6⟩ := y
        simp only [Nat.add_zero] at c0 c1 c2 c3 c4 c5 hk hk'
        clear KY KN hx
        go_wp2
        go_roundw
        case rel => exact ⟨j + 1, HI1.out, by go_num, by rw [EQ.out]; go_num, HB.out.alloc HB.out.size _⟩
        case measure => simp [intOf]; omega
      · have hk' : decide (y.t ≤ now) = false := decide_eq_false hk
        have EQ := Lib.hid (KN hk)
        obtain ⟨y1, y2, y3, y4, y5, y6⟩ := y
        simp only [Nat.add_zero] at c0 c1 c2 c3 c4 c5 hk hk'
        clear KY KN hx
        go_wp2
        go_roundw
        case rel => exact ⟨j + 1, HI1.out, by go_num, by rw [EQ.out], HB.out.alloc HB.out.size _⟩
        case measure => simp [intOf]; omega
    · obtain rfl : j = L.length := by omega
      rw [List.take_length]
      clear HR
      go_wp2
      go_ret
      exact ⟨rfl, hb⟩
end Go.Proofs.Ytdpgmdkclaahdaa.Bg