/- same: are items the document's? -/
import Derived.Test.YtplllaafllcigaaDbRefDue
namespace Go.Proofs.Ytplllaafllcigaa
open Go.Sort Go.RowKit Go.BigFrame
set_option linter.unusedVariables false
set_option linter.unusedSimpArgs false

theorem IRow.cells {T : TypeId} {w : World} {a : Option Addr} {n c : Nat} {P : List (It × Sl)} (h : IRow T w (.slice a n c) P) {j : Nat} {p : It × Sl} (hj : P[j]? = some p) : ∃ b, a = some ⟨b, 0, none⟩ ∧ b < w.heap.size ∧ ∀ t v, (cp p)[t]? = some v → w.cell? ⟨b, j * 5 + t, none⟩ = some v := by
  rcases erow_form h.row with ⟨_, rfl⟩ | ⟨gv, cap, h1, hg⟩
  · simp at hj
  · simp only [Value.slice.injEq] at h1
    obtain ⟨rfl, rfl, rfl⟩ := h1
    obtain ⟨-, C, hC, -, ht, -⟩ := erow_open cp_enc h.row
    exact ⟨gv, rfl, hg, fun t v hv => hC.cell j t (cp p) v (taken_at ht hj) hv⟩
theorem who_cell {w : World} {s : Sl} {l : List Int} (h : ERow c64 1 3 w s.v l) {j : Nat} (hj : j < l.length) : ∃ b, s.a = some ⟨b, 0, none⟩ ∧ w.cell? ⟨b, j, none⟩ = some (.int .i64 (l.getD j 0)) := by
  obtain ⟨a, n, c⟩ := s
  rcases erow_form h with ⟨_, rfl⟩ | ⟨gv, cap, h1, hg⟩
  · simp at hj
  · simp only [Sl.v, Value.slice.injEq] at h1
    obtain ⟨rfl, rfl, rfl⟩ := h1
    refine ⟨gv, rfl, ?_⟩
    have := erow_cells h j hj
    rwa [Nat.zero_add] at this
def SaJ (n : Nat) (w : World) (iv : Value) (wr : World) : Prop := ∃ j : Nat, j ≤ n ∧ iv = .int .i64 (j : Nat) ∧ Below w.heap.size w wr
set_option maxHeartbeats 6400000 in
set_option maxRecDepth 100000 in
theorem same_any (a1 : Option Addr) (n1 c1 : Nat) (a2 : Option Addr) (n2 c2 : Nat) (P1 P2 : List (It × Sl)) (L : List It) (w : World) (h1 : IRow 53 w (.slice a1 n1 c1) P1) (h2 : IRow 68 w (.slice a2 n2 c2) P2) (e1 : P1.map Prod.fst = L) (e2 : P2.map Prod.fst = L) (hl : L.length ≤ 33) (hw : ∀ x ∈ L, x.who.length ≤ 32) :
    Calls Try.prog 15 #[.slice a1 n1 c1, .slice a2 n2 c2] w fun e w' => e = .returned (.bool true) ∧ Below w.heap.size w w' := by
  have l1 : P1.length = L.length := by rw [← e1, List.length_map]
  have l2 : P2.length = L.length := by rw [← e2, List.length_map]
  obtain rfl : n1 = L.length := by have h := erow_n (u := ⟨a1, n1, c1⟩) h1.row; rw [← l1]; exact h
  obtain rfl : n2 = L.length := by have h := erow_n (u := ⟨a2, n2, c2⟩) h2.row; rw [← l2]; exact h
  have AT : Hid (∀ (j : Nat) (x : It), L[j]? = some x → ∃ s1 s2 : Sl, P1[j]? = some (x, s1) ∧ P2[j]? = some (x, s2) ∧ s1.n = x.who.length ∧ s2.n = x.who.length ∧ ERow c64 1 3 w s1.v x.who ∧ ERow c64 1 3 w s2.v x.who) := fun j x hx => by
    have q1 : (P1.map Prod.fst)[j]? = some x := by rw [e1]; exact hx
    have q2 : (P2.map Prod.fst)[j]? = some x := by rw [e2]; exact hx
    rw [List.getElem?_map, Option.map_eq_some_iff] at q1 q2
    obtain ⟨⟨y1, s1⟩, q1, r1⟩ := q1
    obtain ⟨⟨y2, s2⟩, q2, r2⟩ := q2
    simp only at r1 r2
    subst r1
    subst r2
    have t1 := h1.who _ (List.mem_of_getElem? q1)
    have t2 := h2.who _ (List.mem_of_getElem? q2)
    exact ⟨s1, s2, q1, q2, erow_n t1, erow_n t2, t1, t2⟩
  have H1 := Lib.hid h1
  have H2 := Lib.hid h2
  have HW := Lib.hid hw
  clear h1 h2 e1 e2 l1 l2 hw
  have hl3 : (L.length : Int) ≤ 33 := by omega
  go_enter Try.func15, Try.ntmps15
  go_wp2_with fail
  go_loopw [5] (fun iv wr => SaJ L.length w iv wr) (fun iv _ => L.length - (intOf iv).toNat)
  case atStart => exact ⟨0, Nat.zero_le _, rfl, Below.refl _ _⟩
  case round =>
    obtain ⟨j, hj, rfl, hb⟩ := hrel
    have HB := Lib.hid hb
    clear hb
    have hj0 : (0 : Int) ≤ j := by omega
    by_cases hlt : j < L.length
    · have hlt2 : (j : Int) < L.length := by omega
      have hlt3 : decide ((j : Int) < L.length) = true := decide_eq_true hlt2
      have HJ1 : Hid (j + 1 ≤ L.length) := hlt
      obtain ⟨x, hx⟩ : ∃ x, L[j]? = some x := ⟨_, List.getElem?_eq_getElem hlt⟩
      obtain ⟨s1, s2, p1, p2, m1, m2, r1, r2⟩ := AT.out j x hx
      have hwl := HW.out x (List.mem_of_getElem? hx)
      obtain ⟨b1, hb1, _, k1⟩ := (H1.out.keep HB.out).cells p1
      obtain ⟨b2, hb2, _, k2⟩ := (H2.out.keep HB.out).cells p2
      subst hb1
      subst hb2
      have C1 : Hid (∀ w1, Below w.heap.size w w1 → w1.cell? ⟨b1, j * 5 + 4, none⟩ = some (.slice s1.a x.who.length s1.c)) := fun w1 bb => by
        obtain ⟨b', h3, _, h4⟩ := (H1.out.keep bb).cells p1
        obtain rfl : b1 = b' := by simpa using h3
        rw [← m1]
        exact h4 4 _ rfl
      have C2 : Hid (∀ w1, Below w.heap.size w w1 → w1.cell? ⟨b2, j * 5 + 4, none⟩ = some (.slice s2.a x.who.length s2.c)) := fun w1 bb => by
        obtain ⟨b', h3, _, h4⟩ := (H2.out.keep bb).cells p2
        obtain rfl : b2 = b' := by simpa using h3
        rw [← m2]
        exact h4 4 _ rfl
      have R1 := Lib.hid (fun w1 (bb : Below w.heap.size w w1) t ht => who_cell (erow_keep r1 bb) (j := t) ht)
      have R2 := Lib.hid (fun w1 (bb : Below w.heap.size w w1) t ht => who_cell (erow_keep r2 bb) (j := t) ht)
      have x0 := k1 0 _ rfl
      have x1 := k1 1 _ rfl
      have x2 := k1 2 _ rfl
      have x3 := k1 3 _ rfl
      have x4 := C1.out wr HB.out
      have y0 := k2 0 _ rfl
      have y1 := k2 1 _ rfl
      have y2 := k2 2 _ rfl
      have y3 := k2 3 _ rfl
      have y4 := C2.out wr HB.out
      simp only [Nat.add_zero] at x0 y0
      clear k1 k2 hx p1 p2 m1 m2 r1 r2 AT hlt HW
      obtain ⟨d0, d1, d2, d3, l⟩ := x
      simp only at hwl C1 C2 R1 R2 x4 y4
      change wr.cell? ⟨b1, j * 5, none⟩ = some (.int .i64 d0) at x0
      change wr.cell? ⟨b1, j * 5 + 1, none⟩ = some (.int .u32 d1) at x1
      change wr.cell? ⟨b1, j * 5 + 2, none⟩ = some (.int .u64 d2) at x2
      change wr.cell? ⟨b1, j * 5 + 3, none⟩ = some (.int .u64 d3) at x3
      change wr.cell? ⟨b2, j * 5, none⟩ = some (.int .i64 d0) at y0
      change wr.cell? ⟨b2, j * 5 + 1, none⟩ = some (.int .u32 d1) at y1
      change wr.cell? ⟨b2, j * 5 + 2, none⟩ = some (.int .u64 d2) at y2
      change wr.cell? ⟨b2, j * 5 + 3, none⟩ = some (.int .u64 d3) at y3
      have z0 : (d0 != d0) = false := by simp
      have z1 : (d1 != d1) = false := by simp
      have z2 : (d2 != d2) = false := by simp
      have z3 : (d3 != d3) = false := by simp
      have z4 : (l.length != l.length) = false := by simp
      have z5 : ((l.length : Int) != (l.length : Int)) = false := by simp
      have hl4 : (l.length : Int) ≤ 32 := by omega
      go_upto_region 6 with fail
      try dsimp only [List.append]
      go_quiet (fail)
      go_wp2_with fail
      clear x0 x1 x2 x3 x4 y0 y1 y2 y3 y4
      go_loopw [6] (fun iv wr => SaJ l.length w iv wr) (fun iv _ => l.length - (intOf iv).toNat)
      case atStart => exact ⟨0, Nat.zero_le _, rfl, HB.out.trans ((below_drewN (Below.refl _ _) _).mono HB.out.size)⟩
      case round =>
        obtain ⟨t, ht, rfl, hb⟩ := hrel
        clear HB
        have HB := Lib.hid hb
        clear hb
        have ht0 : (0 : Int) ≤ t := by omega
        have x4 := C1.out wr HB.out
        by_cases htl : t < l.length
        · have htl2 : (t : Int) < l.length := by omega
          have HT1 : Hid (t + 1 ≤ l.length) := htl
          have y4 := C2.out wr HB.out
          obtain ⟨g1, hg1, q1⟩ := R1.out wr HB.out t htl
          obtain ⟨g2, hg2, q2⟩ := R2.out wr HB.out t htl
          rw [hg1] at x4
          rw [hg2] at y4
          clear hg1 hg2 htl
          generalize l.getD t 0 = v at *
          have z6 : (v != v) = false := by simp
          go_wp2_with fail
          go_region
          go_wp2
          go_roundw
          case rel => exact ⟨t + 1, HT1.out, by go_num, HB.out.trans ((Below.refl _ _).drew.mono HB.out.size)⟩
          case measure => have := HT1.out; simp [intOf]; omega
        · have htl2 : ¬ (t : Int) < l.length := by omega
          have htl3 : decide ((t : Int) < l.length) = false := decide_eq_false htl2
          clear htl
          go_wp2
          go_roundw
          case rel => exact ⟨j + 1, HJ1.out, by go_num, HB.out⟩
          case measure => have := HJ1.out; simp [intOf]; omega
    · obtain rfl : j = L.length := by omega
      clear hlt
      go_wp2
      go_ret
      exact ⟨rfl, HB.out⟩
end Go.Proofs.Ytplllaafllcigaa
