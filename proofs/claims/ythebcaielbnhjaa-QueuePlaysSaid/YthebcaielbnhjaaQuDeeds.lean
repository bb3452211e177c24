/- A slice of deeds that came in, opened to its cells; the law's own alike. -/
import Derived.Test.YthebcaielbnhjaaQuThings
namespace Go.Proofs.Ythebcaielbnhjaa
open Go.Sort Go.RowKit Go.BigFrame Go.ChangeShapes Go.WideShapes Go.Deep
set_option maxRecDepth 100000
set_option linter.unusedVariables false
set_option linter.unusedSimpArgs false

structure Deed where
  k : Int
  t : Th
  n : Int
  near : Bool
def cd (d : Deed) : List Value := [.int .u8 d.k, .int .i64 d.t.r.id, .int .i64 d.t.r.st, .int .u32 d.t.r.n, .int .u32 d.t.r.ip, .int .u16 d.t.r.port, .bool d.t.own, .int .i64 d.n, .bool d.near]
structure Deed.Fits (d : Deed) : Prop where
  k : (Lit.int .u8 d.k).wf = true
  t : d.t.r.Ok
  n : (Lit.int .i64 d.n).wf = true
section
variable {H : Type} {enc : TypeId × Value → H} {w : World} {base : Nat} {spare : Nat → Bool} {held : Bool}
theorem cells_u8 : Try.prog.cellsOf 5 = 1 := by kernel_rfl
theorem cells_deed : Try.prog.cellsOf 41 = 9 := by kernel_rfl
theorem deed_open {n : Nat} {cs : List Value} {x : DataW H × List MemPlace} (h : DataW.trod enc Try.prog w base spare held n 41 cs = some x) : ∃ d : Deed, cs = cd d ∧ d.Fits := by
  obtain ⟨ys, m, _, _, hl, hyl, hf⟩ := DataW.trod_struct Try.underlying41 h
  have hl8 : cs.length = 9 := hl.trans cells_deed
  clear hl
  match cs, hl8 with
  | [c0, c1, c2, c3, c4, c5, c6, c7, c8], _ =>
    match ys, hyl with
    | [y0, y1, y2, y3], _ =>
      have g0 : DataW.trod enc Try.prog w base spare held m 5 (([c0, c1, c2, c3, c4, c5, c6, c7, c8].drop 0).take (Try.prog.cellsOf 5)) = some y0 := hf 0 _ rfl
      have g1 : DataW.trod enc Try.prog w base spare held m 39 (([c0, c1, c2, c3, c4, c5, c6, c7, c8].drop 1).take (Try.prog.cellsOf 39)) = some y1 := hf 1 _ rfl
      have g2 : DataW.trod enc Try.prog w base spare held m 3 (([c0, c1, c2, c3, c4, c5, c6, c7, c8].drop 7).take (Try.prog.cellsOf 3)) = some y2 := hf 2 _ rfl
      have g3 : DataW.trod enc Try.prog w base spare held m 4 (([c0, c1, c2, c3, c4, c5, c6, c7, c8].drop 8).take (Try.prog.cellsOf 4)) = some y3 := hf 3 _ rfl
      rw [cells_u8] at g0
      rw [cells_thing] at g1
      rw [cells_int] at g2
      rw [cells_bool] at g3
      obtain ⟨z0, e0, _, w0⟩ := DataW.trod_int Try.underlying5 g0
      obtain ⟨y, e1, wt⟩ := thing_open g1
      obtain ⟨z2, e2, _, w2⟩ := DataW.trod_int Try.underlying3 g2
      obtain ⟨z3, e3, _⟩ := DataW.trod_bool Try.underlying4 g3
      simp [tcs] at e0 e1 e2 e3
      obtain ⟨q1, q2, q3, q4, q5, q6⟩ := e1
      subst e0 e2 e3 q1 q2 q3 q4 q5 q6
      exact ⟨⟨z0, y, z2, z3⟩, rfl, ⟨w0, wt, w2⟩⟩
end
theorem cd_enc : Enc cd 9 := ⟨by decide, fun _ => rfl, fun x u hu => by
  simp only [cd, List.mem_cons, List.not_mem_nil, or_false] at hu
  rcases hu with rfl | rfl | rfl | rfl | rfl | rfl | rfl | rfl | rfl <;> rfl⟩
/-- the deeds lie there -/
def DeedRow (w : World) (a : Option Addr) (len cap : Nat) : Prop :=
  (a = none ∧ len = 0 ∧ cap = 0) ∨
  ∃ x, a = some x ∧ len ≤ cap ∧ cap ≤ maxLen ∧ ∀ i, i < len → ∃ d : Deed, d.Fits ∧ ∀ j v, (cd d)[j]? = some v → w.cell? ((x.add (i * 9)).add j) = some v
theorem deeds_open {H : Type} {enc : TypeId × Value → H} {w : World} {base fuel : Nat} {held : Bool} {a : Option Addr} {len cap : Nat} {x : DataW H × List MemPlace}
    (h : DataW.trod enc Try.prog w base (fun _ => true) held fuel 22 [.slice a len cap] = some x) : DeedRow w a len cap := by
  rcases open_slice Try.underlying22 h with ⟨hcs, _⟩ | ⟨y, l, c, m, n, D, Pl, hcs, _, hl, hm, hmm, _, hi⟩
  · simp at hcs
    obtain ⟨rfl, rfl, rfl⟩ := hcs
    exact .inl ⟨rfl, rfl, rfl⟩
  · simp at hcs
    obtain ⟨rfl, rfl, rfl⟩ := hcs
    refine .inr ⟨_, rfl, hl, hm, fun i h1 => ?_⟩
    obtain ⟨cs', hc, ht⟩ := hi i (by rw [hmm]; simp; omega)
    rw [cells_deed] at hc
    obtain ⟨d, rfl, hd⟩ := deed_open ht
    obtain ⟨_, hcl, hat⟩ := World.cells?_some hc
    refine ⟨d, hd, fun j v hj => ?_⟩
    have hj8 : j < 9 := by
      have := (List.getElem?_eq_some_iff.1 hj).1
      exact this
    rw [hat j hj8, hj]
theorem DeedRow.at_ {w : World} {a : Option Addr} {len cap : Nat} (h : DeedRow w a len cap) (hp : 0 < len) :
    ∃ b off, a = some ⟨b, off, none⟩ ∧ b < w.heap.size ∧ ∀ i, i < len → ∃ t : Deed, t.Fits ∧ ∀ j v, (cd t)[j]? = some v → w.cell? ⟨b, off + i * 9 + j, none⟩ = some v := by
  rcases h with ⟨_, h0, _⟩ | ⟨x, rfl, hl, hm, hc⟩
  · omega
  · obtain ⟨d, _, h0⟩ := hc 0 hp
    have h0 := h0 0 _ rfl
    obtain ⟨b, off, spot⟩ := x
    have hs : spot = none := by simpa [Addr.add] using World.cell?_spot h0
    subst hs
    refine ⟨b, off, rfl, by simpa [Addr.add] using World.block_lt_of_cell? _ _ h0, fun i hi => ?_⟩
    obtain ⟨d, hd, h1⟩ := hc i hi
    refine ⟨d, hd, fun j v hj => ?_⟩
    have h2 := h1 j v hj
    rw [add_at, add_at] at h2
    exact h2
theorem DeedRow.len {w : World} {a : Option Addr} {len cap : Nat} (h : DeedRow w a len cap) : len ≤ 9223372036854775807 := by
  rcases h with ⟨_, h0, _⟩ | ⟨x, rfl, hl, hm, hc⟩
  · omega
  · unfold maxLen at hm; omega
/-- its first k, as a list -/
theorem deeds_list {w : World} {a : Option Addr} {len cap : Nat} (h : DeedRow w a len cap) : ∀ k, k ≤ len → ∃ L : List Deed, L.length = k ∧ RdE cd 9 w a L ∧ ∀ t ∈ L, t.Fits := by
  intro k hk
  by_cases h0 : 0 < len
  · obtain ⟨b, off, rfl, hb, hc⟩ := h.at_ h0
    suffices ∃ L : List Deed, L.length = k ∧ (∀ i t, L[i]? = some t → ∀ j v, (cd t)[j]? = some v → w.cell? ⟨b, off + i * 9 + j, none⟩ = some v) ∧ ∀ t ∈ L, t.Fits by
      obtain ⟨L, hl, hx, hok⟩ := this
      exact ⟨L, hl, fun _ => ⟨b, off, rfl, hb, hx⟩, hok⟩
    induction k with
    | zero => exact ⟨[], rfl, fun i t h => by simp at h, by simp⟩
    | succ k ih =>
      obtain ⟨L, hl, hx, hok⟩ := ih (by omega)
      obtain ⟨t, ht, hcc⟩ := hc k (by omega)
      refine ⟨L ++ [t], by simp [hl], fun i t' hi => ?_, fun t' ht' => ?_⟩
      · rcases Nat.lt_or_ge i L.length with hik | hik
        · rw [List.getElem?_append_left hik] at hi; exact hx i t' hi
        · have hlt := (List.getElem?_eq_some_iff.1 hi).1
          simp at hlt
          obtain rfl : i = k := by omega
          rw [List.getElem?_append_right (by omega), hl, Nat.sub_self] at hi
          simp at hi; subst hi
          exact hcc
      · rcases List.mem_append.1 ht' with h1 | h1
        · exact hok t' h1
        · simp at h1; subst h1; exact ht
  · obtain rfl : k = 0 := by omega
    exact ⟨[], rfl, fun h => absurd h (by simp), by simp⟩
def AkJ (n : Nat) (w : World) (iv : Value) (wr : World) : Prop := ∃ i : Nat, iv = .int .i64 (i : Nat) ∧ i ≤ n ∧ Below w.heap.size w wr
set_option maxHeartbeats 1600000 in
theorem alike_any (a : Option Addr) (ca : Nat) (b : Option Addr) (cb : Nat) (L : List Rec) (w : World) (ha : RdE rcs 5 w a L) (hb : RdE rcs 5 w b L) (la : L.length ≤ 1000000) :
    Calls Try.prog 15 #[.slice a L.length ca, .slice b L.length cb] w fun e w' => e = .returned (.bool true) ∧ Below w.heap.size w w' := by
  have HA := Lib.hid ha
  have HB := Lib.hid hb
  have la2 : (L.length : Int) ≤ 1000000 := by omega
  clear ha hb
  go_enter Try.func15, Try.ntmps15
  go_wp2_with fail
  go_loopw [5] (fun iv wr => AkJ L.length w iv wr) (fun iv _ => L.length - (intOf iv).toNat)
  case atStart => exact ⟨0, rfl, Nat.zero_le _, Below.refl _ _⟩
  case round =>
    obtain ⟨i, rfl, hi, hw⟩ := hrel
    have hi0 : (0 : Int) ≤ i := by omega
    have HW := Lib.hid hw
    by_cases hlt : i < L.length
    · have hlt' : (i : Int) < L.length := by omega
      have hx : L[i]? = some L[i] := List.getElem?_eq_getElem hlt
      obtain ⟨ba, oa, rfl, hba, hca⟩ := (HA.out.keep hw) (by omega)
      obtain ⟨bb, ob, rfl, hbb, hcb⟩ := (HB.out.keep hw) (by omega)
      generalize L[i] = r at *
      have c0 := hca i _ hx 0 _ rfl
      have c1 := hca i _ hx 1 _ rfl
      have c2 := hca i _ hx 2 _ rfl
      have c3 := hca i _ hx 3 _ rfl
      have c4 := hca i _ hx 4 _ rfl
      have d0 := hcb i _ hx 0 _ rfl
      have d1 := hcb i _ hx 1 _ rfl
      have d2 := hcb i _ hx 2 _ rfl
      have d3 := hcb i _ hx 3 _ rfl
      have d4 := hcb i _ hx 4 _ rfl
      simp only [Nat.add_zero] at c0 d0
      have HI : Hid (i + 1 ≤ L.length) := hlt
      have C := fun d os => Calls.regrown_of (refrec_any r (grow (redrawn wr d) os))
      clear hca hcb hx hw
      go_upto_region 6 with fail
      have k0 := cell_regrown c0
      have k1 := cell_regrown c1
      have k2 := cell_regrown c2
      have k3 := cell_regrown c3
      have k4 := cell_regrown c4
      have l0 := cell_regrown d0
      have l1 := cell_regrown d1
      have l2 := cell_regrown d2
      have l3 := cell_regrown d3
      have l4 := cell_regrown d4
      clear c0 c1 c2 c3 c4 d0 d1 d2 d3 d4
      (refine wp_region_quiet_below (by kernel_rfl) (by kernel_rfl) ?_; (repeat (go_big_quiet_step (first | with_reducible exact C _ _))); refine wpQuiet_nil ?_; intro _ hw'; obtain ⟨⟨dq, osq⟩, hw''⟩ := hw'; subst hw'')
      have HW2 := Lib.hid (HW.out.trans ((below_regrown wr dq osq).mono HW.out.size))
      clear k0 k1 k2 k3 k4 l0 l1 l2 l3 l4 C HW
      go_wp2
      go_roundw
      case rel => exact ⟨i + 1, by go_num, HI.out, HW2.out⟩
      case measure => have := HI.out; simp [intOf]; omega
    · go_wp2_with fail
      go_ret
      exact ⟨rfl, HW.out⟩
end Go.Proofs.Ythebcaielbnhjaa
