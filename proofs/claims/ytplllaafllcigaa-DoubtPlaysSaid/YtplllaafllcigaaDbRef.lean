/- The reference's: find, until, Until. -/
import Derived.Test.YtplllaafllcigaaDbRefRow
import Derived.BigRegion
namespace Go.Proofs.Ytplllaafllcigaa
open Go.Sort Go.RowKit Go.BigFrame
set_option linter.unusedVariables false
set_option linter.unusedSimpArgs false

def FiJ (i : Int) (L : List It) (w : World) (iv : Value) (wr : World) : Prop := ∃ j : Nat, iv = .int .i64 (j : Nat) ∧ j ≤ L.length ∧ j ≤ atL i L ∧ Below w.heap.size w wr
theorem th_some {i : Int} {L : List It} {j : Nat} {y : It} (hx : L[j]? = some y) (h : atL i L = j) : thB i L = (y.id == i) := by unfold thB; rw [h, hx]
theorem th_none {i : Int} {L : List It} (h : atL i L = L.length) : thB i L = false := by unfold thB; rw [h, List.getElem?_eq_none (Nat.le_refl _)]
set_option maxHeartbeats 3200000 in
theorem find_low (i : Int) (g : Nat) (u : Sl) (P : List (It × Sl)) (k : Nat → It) (w : World) (h : Rs g u P k w) :
    Calls Try.prog 27 #[.pointer (some ⟨g, 0, none⟩), .int .i64 i] w fun e w' => e = .returned (.tuple #[.int .i64 (atL i (allL k) : Nat), .bool (thB i (allL k))]) ∧ Below w.heap.size w w' := by
  have hn := h.n
  have hl := h.len
  have hl33 := h.len33
  have his := h.is
  obtain ⟨av, n, c⟩ := u
  simp only at hn
  subst hn
  have HR := Lib.hid (erow_rd (a := av) (n := P.length) (cap := c) cp_enc h.row.row)
  have HX := Lib.hid h.box
  generalize allL k = L at *
  have hll : (L.length : Int) ≤ 33 := by omega
  have HIS := Lib.hid his
  have CELL : Hid (∀ wr, Below w.heap.size w wr → ∀ j, (hj : j < L.length) → ∃ b, av = some ⟨b, 0, none⟩ ∧ wr.cell? ⟨b, j * 5, none⟩ = some (.int .i64 L[j].id)) := fun wr hb j hj => by
    have hr := h.row.row
    rcases erow_form hr with ⟨_, rfl⟩ | ⟨gv, cap, h1, hg⟩
    · simp only [List.length_nil] at hl; omega
    · simp only [Sl.v, Value.slice.injEq] at h1
      obtain ⟨rfl, -, rfl⟩ := h1
      refine ⟨gv, rfl, ?_⟩
      obtain ⟨-, C, hC, -, ht, -⟩ := erow_open cp_enc (erow_keep hr hb)
      have hx : P[j]? = some P[j] := List.getElem?_eq_getElem (by omega)
      have h5 := hC.cell j 0 (cp P[j]) _ (taken_at ht hx) rfl
      have h6 : (P.map Prod.fst)[j]? = L[j]? := by rw [his]
      rw [List.getElem?_map, hx, List.getElem?_eq_getElem hj] at h6
      have h7 : P[j].1 = L[j] := by simpa using h6
      rw [Nat.add_zero] at h5
      rw [h5, ← h7]
  clear h HR his
  rw [hl] at HX
  clear hl HIS
  go_enter Try.func27, Try.ntmps27
  go_wp2_with fail
  go_loopw [6] (fun iv wr => FiJ i L w iv wr) (fun iv _ => L.length - (intOf iv).toNat)
  case atStart => exact ⟨0, rfl, Nat.zero_le _, Nat.zero_le _, Below.refl _ _⟩
  case round =>
    obtain ⟨j, rfl, hjl, hj, hb⟩ := hrel
    have hj0 : (0 : Int) ≤ j := by omega
    have X := HX.out.keep hb
    have x0 := X.cell 0 _ rfl
    have gl := X.lt
    have HB := Lib.hid hb
    by_cases hlt : j < L.length
    · have hlt' : (j : Int) < L.length := by omega
      obtain ⟨b, rfl, c0⟩ := CELL.out wr hb j hlt
      have hx : L[j]? = some L[j] := List.getElem?_eq_getElem hlt
      have KY := fun h => atL_here (i := i) hx hj h
      have KN := fun h => atL_on (i := i) hx hj h
      have KT := Lib.hid (fun e => th_some (i := i) hx e)
      have HLT := Lib.hid hlt
      clear hx hj hb X
      generalize L[j] = y at *
      obtain ⟨d, hd⟩ : ∃ d, y.id = d := ⟨_, rfl⟩
      rw [hd] at KY KN KT c0
      clear hd
      by_cases q1 : d < i
      · have q2 : decide (i ≤ d) = false := decide_eq_false (by omega)
        have HE := Lib.hid (KN q1)
        clear KY KN q1
        go_wp2
        go_roundw
        case rel => exact ⟨j + 1, by go_num, HLT.out, HE.out, HB.out⟩
        case measure => have := HLT.out; simp [intOf]; omega
      · have q2 : decide (i ≤ d) = true := decide_eq_true (by omega)
        have HE := Lib.hid (KY q1)
        have HT := Lib.hid (KT.out HE.out)
        clear KY KN KT q1
        go_wp2_with fail
        go_quiet (fail)
        go_wp2
        refine bodyPost_ret (v := (.tuple #[.int .i64 (j : Nat), .bool (d == i)])) (by simp [results, Try.results27, go_sem, *]) rfl ?_
        exact ⟨by rw [HT.out, HE.out], HB.out.trans ((below_drewN (Below.refl _ _) _).mono HB.out.size)⟩
    · obtain rfl : j = L.length := by omega
      have HE : Hid (atL i L = L.length) := by show _ = _; have := atL_le i L; omega
      clear hj hlt hb X
      go_wp2
      refine bodyPost_ret (v := (.tuple #[.int .i64 (L.length : Nat), .bool false])) (by simp [results, Try.results27, go_sem, *]) rfl ?_
      exact ⟨by rw [th_none HE.out, HE.out], HB.out⟩
theorem find_any (i : Int) (g : Nat) (u : Sl) (P : List (It × Sl)) (k : Nat → It) (w : World) (h : Rs g u P k w) :
    Calls Try.prog 27 #[.pointer (some ⟨g, 0, none⟩), .int .i64 i] w fun e w' => e = .returned (.tuple #[.int .i64 (atL i (allL k) : Nat), .bool (suspI k i)]) ∧ Below w.heap.size w w' := by
  rw [← th_all h.ok i]
  exact find_low i g u P k w h
set_option maxHeartbeats 1600000 in
theorem runtil_any (x : It) (s : Sl) (hs : s.n = x.who.length) (hx : NumI x) (w : World) : Calls Try.prog 30 #[.agg #[.int .i64 x.id, .int .u32 x.inc, .int .u64 x.since, .int .u64 x.hold, .slice s.a s.n s.c]] w fun e w' => e = .returned (.int .u64 (untilI x)) ∧ Below w.heap.size w w' := by
  have H := Lib.hid hx
  obtain ⟨a, n, c⟩ := s
  simp only at hs
  subst hs
  have hl := hx.w1
  have hh0 := hx.h0
  have hh1 := hx.h1
  have hs0 := hx.s0
  have hs1 := hx.s1
  have HU : Hid (untilI x = x.since + (x.hold + x.who.length) / (x.who.length + 1)) := rfl
  generalize untilI x = U at *
  obtain ⟨i, nc, sc, hd, l⟩ := x
  simp only at *
  generalize l.length = m at *
  have hq0 : 0 ≤ (hd + m) / ((m : Int) + 1) := Int.ediv_nonneg (by omega) (by omega)
  have hq1 : (hd + m) / ((m : Int) + 1) ≤ hd + m := Int.ediv_le_self _ (by omega)
  have u0 := IntWalk.i64_in ((m : Int) + 1) ⟨by omega, by omega⟩
  have u1 := IntWalk.u64_in ((m : Int) + 1) ⟨by omega, by omega⟩
  have u2 := IntWalk.u64_in (hd + ((m : Int) + 1)) ⟨by omega, by omega⟩
  have u3 : IntKind.u64.wrap (hd + ((m : Int) + 1) - 1) = hd + m := by rw [show hd + ((m : Int) + 1) - 1 = hd + m by omega]; exact IntWalk.u64_in _ ⟨by omega, by omega⟩
  have z1 : ((m : Int) + 1 == 0) = false := by rw [beq_eq_false_iff_ne]; omega
  have z2 : ¬ (m : Int) + 1 = 0 := by omega
  have t1 : (hd + m).tdiv ((m : Int) + 1) = (hd + m) / ((m : Int) + 1) := Int.tdiv_eq_ediv_of_nonneg (by omega)
  generalize (hd + m) / ((m : Int) + 1) = Q at *
  have u4 := IntWalk.u64_in Q ⟨by omega, by omega⟩
  have u5 := IntWalk.u64_in (sc + Q) ⟨by omega, by omega⟩
  have B : Hid (Below w.heap.size w (w.alloc (.cells #[.int .i64 i, .int .u32 nc, .int .u64 sc, .int .u64 hd, .slice a m c] 68))) := (Below.refl _ w).alloc (Nat.le_refl _) _
  have X : Hid (Cs w.heap.size [.int .i64 i, .int .u32 nc, .int .u64 sc, .int .u64 hd, .slice a m c] (w.alloc (.cells #[.int .i64 i, .int .u32 nc, .int .u64 sc, .int .u64 hd, .slice a m c] 68))) := Cs.new w _ _
  go_enter Try.func30, Try.ntmps30
  go_upto_region 1 with fail
  generalize (w.alloc (.cells #[.int .i64 i, .int .u32 nc, .int .u64 sc, .int .u64 hd, .slice a m c] 68)) = w1 at *
  have B2 := Lib.hid (show Below w.heap.size w w1.drew from B.out.drew)
  generalize w.heap.size = b at X ⊢
  have x2 := X.out.cell 2 _ rfl
  have x3 := X.out.cell 3 _ rfl
  have x4 := X.out.cell 4 _ rfl
  have xl := X.out.lt
  clear X
  go_wp2_with fail
  go_region
  go_wp2
  rw [HU.out]
  refine bodyPost_ret (v := (.int .u64 (sc + Q))) (by simp [results, Try.results30, go_sem, *]) rfl ?_
  exact ⟨rfl, B2.out⟩
/-- the item of one that is suspected, in the list -/
theorem Rs.at_ {g : Nat} {u : Sl} {P : List (It × Sl)} {k : Nat → It} {w : World} (h : Rs g u P k w) {n : Nat} (hn : n < 33) (hs : susp (k n) = true) : ∃ s, P[atL n (allL k)]? = some (k n, s) ∧ s.n = (k n).who.length ∧ ERow c64 1 3 w s.v (k n).who := by
  have h1 := get_all h.ok hn hs
  rw [← h.is, List.getElem?_map, h.is] at h1
  rw [Option.map_eq_some_iff] at h1
  obtain ⟨⟨y, s⟩, h2, h3⟩ := h1
  simp only at h3
  subst h3
  have h4 := h.row.who _ (List.mem_of_getElem? h2)
  exact ⟨s, h2, erow_n h4, h4⟩
theorem Rs.cells {g : Nat} {u : Sl} {P : List (It × Sl)} {k : Nat → It} {w : World} (h : Rs g u P k w) {j : Nat} {p : It × Sl} (hj : P[j]? = some p) : ∃ b, u.a = some ⟨b, 0, none⟩ ∧ b < w.heap.size ∧ ∀ t v, (cp p)[t]? = some v → w.cell? ⟨b, j * 5 + t, none⟩ = some v := by
  have hr := h.row.row
  obtain ⟨a, n, c⟩ := u
  rcases erow_form hr with ⟨_, rfl⟩ | ⟨gv, cap, h1, hg⟩
  · simp at hj
  · simp only [Sl.v, Value.slice.injEq] at h1
    obtain ⟨rfl, rfl, rfl⟩ := h1
    obtain ⟨-, C, hC, -, ht, -⟩ := erow_open cp_enc hr
    exact ⟨gv, rfl, hg, fun t v hv => hC.cell j t (cp p) v (taken_at ht hj) hv⟩
set_option maxHeartbeats 1600000 in
theorem rduntil_any (i : Int) (g : Nat) (u : Sl) (P : List (It × Sl)) (k : Nat → It) (w : World) (h : Rs g u P k w) : Calls Try.prog 21 #[.pointer (some ⟨g, 0, none⟩), .int .i64 i] w (UntilPost k i w) := by
  have K := find_any i g u P k w h
  have HI := Lib.hid (suspI_iff (k := k) (i := i))
  have HU : Hid (untilV k i = if suspI k i = true then untilI (k i.toNat) else 0) := rfl
  unfold UntilPost
  generalize untilV k i = U at *
  generalize suspI k i = q at *
  cases q with
  | false =>
    have e0 : U = 0 := by rw [HU.out]; rfl
    subst e0
    clear h
    generalize atL i (allL k) = m at *
    go_enter Try.func21, Try.ntmps21
    go_wp2_with fail
    refine K.mono ?_; rintro e w1 ⟨rfl, b1⟩
    go_wp2
    refine bodyPost_ret (v := (.tuple #[.int .u64 0, .bool false])) (by simp [results, Try.results21, go_sem, *]) rfl ?_
    exact ⟨rfl, b1⟩
  | true =>
    have hi := HI.out.1 rfl
    obtain ⟨n, rfl⟩ : ∃ n : Nat, i = n := ⟨i.toNat, by omega⟩
    have hn : n < 33 := by omega
    have e0 : U = untilI (k n) := by rw [HU.out]; rfl
    subst e0
    obtain ⟨s, h1, h2, h3⟩ := h.at_ hn hi.2.2
    have hml : atL n (allL k) < P.length := (List.getElem?_eq_some_iff.1 h1).1
    have hun := h.n
    have KU := runtil_any (k n) s h2 (h.ok.num n)
    have KX : Hid (∀ w1, Below w.heap.size w w1 → Rs g u P k w1) := fun w1 b1 => h.keep b1
    have hp33 := h.len33
    generalize atL n (allL k) = m at *
    generalize untilI (k n) = U at *
    have hm0 : (0 : Int) ≤ m := by omega
    have hm1 : (m : Int) < P.length := by omega
    clear h HI hi HU h2 h3
    obtain ⟨av, un, uc⟩ := u
    simp only at hun
    subst hun
    go_enter Try.func21, Try.ntmps21
    go_wp2_with fail
    refine K.mono ?_; rintro e w1 ⟨rfl, b1⟩
    have H1 := KX.out w1 b1
    obtain ⟨b, hb, hbl, cc⟩ := H1.cells h1
    simp only at hb
    subst hb
    have g0 := H1.box.cell 0 _ rfl
    have gl := H1.box.lt
    have c0 := cc 0 _ rfl
    have c1 := cc 1 _ rfl
    have c2 := cc 2 _ rfl
    have c3 := cc 3 _ rfl
    have c4 := cc 4 _ rfl
    simp only [Nat.add_zero] at c0
    clear cc H1 K h1
    generalize k n = x at *
    go_wp2_with fail
    refine (KU _).mono ?_; rintro e w2 ⟨rfl, b2⟩
    have BB := Lib.hid (b1.trans (b2.mono b1.size))
    clear b2 b1
    go_wp2
    refine bodyPost_ret (v := (.tuple #[.int .u64 U, .bool true])) (by simp [results, Try.results21, go_sem, *]) rfl ?_
    exact ⟨rfl, BB.out⟩
end Go.Proofs.Ytplllaafllcigaa
