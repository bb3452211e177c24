/- The law's helpers thing and refRecord; a slice of things that came in, opened to its cells. -/
import Derived.Test.YthebcaielbnhjaaQuEx
import Derived.Deep.Slices
import Derived.ChangeSame
import Derived.ChangeOld
import Derived.ChangeMaps5
import Derived.ShutString
import Derived.OpenShut
import Derived.SizedLaws
namespace Go.Proofs.Ythebcaielbnhjaa
open Go.Sort Go.RowKit Go.BigFrame Go.ChangeShapes Go.WideShapes Go.Deep
set_option maxRecDepth 100000
set_option linter.unusedVariables false
set_option linter.unusedSimpArgs false

structure Th where
  r : Rec
  own : Bool
/-- the six cells of a thing -/
def tcs (t : Th) : List Value := [.int .i64 t.r.id, .int .i64 t.r.st, .int .u32 t.r.n, .int .u32 t.r.ip, .int .u16 t.r.port, .bool t.own]
theorem tcs_enc : Enc tcs 6 := ⟨by decide, fun _ => rfl, fun x u hu => by
  simp only [tcs, List.mem_cons, List.not_mem_nil, or_false] at hu
  rcases hu with rfl | rfl | rfl | rfl | rfl | rfl <;> rfl⟩
def ownR (a : Rec) : Rec := ⟨1 + IntKind.u64.wrap a.id % 6, IntKind.u64.wrap a.st % 4, a.n % 5, 1 + a.ip % 3, 7⟩
def thR (t : Th) : Rec := if t.own = true then ownR t.r else t.r
theorem wrap_lo (n : Int) : 0 ≤ IntKind.u64.wrap n := by
  simp [IntKind.wrap, IntKind.signed]
  exact Int.emod_nonneg _ (by decide)
theorem ownR_in (a : Rec) : 1 ≤ (ownR a).id ∧ (ownR a).id ≤ 6 := by
  have := wrap_lo a.id
  unfold ownR
  simp only
  omega
theorem ownR_ok (a : Rec) : (ownR a).Ok := ⟨by show a.n % 5 < _; omega, by show 1 + a.ip % 3 < _; omega, by show (7 : Nat) < _; omega⟩
theorem ownR_right (a : Rec) : (ownR a).right = true := by
  have h1 := wrap_lo a.id
  have h2 := wrap_lo a.st
  unfold Rec.right rightI stI noneI ownR
  simp only [Bool.and_eq_true, decide_eq_true_eq, Bool.not_eq_true', Bool.or_eq_false_iff, decide_eq_false_iff_not]
  omega
theorem thR_ok {t : Th} (h : t.r.Ok) : (thR t).Ok := by
  unfold thR; split
  · exact ownR_ok _
  · exact h
theorem refrec_any (a : Rec) (w : World) :
    Calls Try.prog 20 #[.agg #[.int .i64 a.id, .int .i64 a.st, .int .u32 a.n, .int .u32 a.ip, .int .u16 a.port]] w fun e w' => e = .returned (.agg #[.int .i64 a.id, .int .i64 a.st, .int .u32 a.n, .int .u32 a.ip, .int .u16 a.port]) ∧ Below w.heap.size w w' := by
  go_enter Try.func20, Try.ntmps20
  go_wp2
  refine bodyPost_ret (v := .agg #[.int .i64 a.id, .int .i64 a.st, .int .u32 a.n, .int .u32 a.ip, .int .u16 a.port]) (by simp [results, Try.results20, go_sem]) rfl ⟨rfl, ?_⟩
  have hB := Below.refl w.heap.size w
  (have zzh := Below.size hB; repeat (first | with_reducible exact hB | with_reducible refine Below.setCell ?_ (by first | omega | (simp; done) | (simp; omega)) _ | with_reducible refine Below.alloc ?_ (by first | omega | (simp; done) | (simp; omega)) _ | with_reducible refine Below.drew ?_))
theorem thing_plain (a : Rec) (w : World) :
    Calls Try.prog 14 #[.agg #[.int .i64 a.id, .int .i64 a.st, .int .u32 a.n, .int .u32 a.ip, .int .u16 a.port, .bool false]] w fun e w' => e = .returned (.agg #[.int .i64 a.id, .int .i64 a.st, .int .u32 a.n, .int .u32 a.ip, .int .u16 a.port]) ∧ Below w.heap.size w w' := by
  go_enter Try.func14, Try.ntmps14
  go_wp2
  refine bodyPost_ret (v := .agg #[.int .i64 a.id, .int .i64 a.st, .int .u32 a.n, .int .u32 a.ip, .int .u16 a.port]) (by simp [results, Try.results14, go_sem]) rfl ⟨rfl, ?_⟩
  have hB := Below.refl w.heap.size w
  (have zzh := Below.size hB; repeat (first | with_reducible exact hB | with_reducible refine Below.setCell ?_ (by first | omega | (simp; done) | (simp; omega)) _ | with_reducible refine Below.alloc ?_ (by first | omega | (simp; done) | (simp; omega)) _ | with_reducible refine Below.drew ?_))
theorem thing_own (a : Rec) (ha : a.Ok) (w : World) :
    Calls Try.prog 14 #[.agg #[.int .i64 a.id, .int .i64 a.st, .int .u32 a.n, .int .u32 a.ip, .int .u16 a.port, .bool true]] w fun e w' => e = .returned (.agg #[.int .i64 (ownR a).id, .int .i64 (ownR a).st, .int .u32 (ownR a).n, .int .u32 (ownR a).ip, .int .u16 (ownR a).port]) ∧ Below w.heap.size w w' := by
  obtain ⟨i, st, n, ip, port⟩ := a
  have hn := ha.n
  have hip := ha.ip
  simp only at *
  clear ha
  have hu := wrap_lo i
  have hv := wrap_lo st
  unfold ownR
  simp only
  obtain ⟨q, hq⟩ : ∃ q, IntKind.u64.wrap i % 6 = q := ⟨_, rfl⟩
  obtain ⟨p, hp⟩ : ∃ p, IntKind.u64.wrap st % 4 = p := ⟨_, rfl⟩
  have hq2 : (IntKind.u64.wrap i).tmod 6 = q := by rw [tmod_pos _ _ hu]; exact hq
  have hp2 : (IntKind.u64.wrap st).tmod 4 = p := by rw [tmod_pos _ _ hv]; exact hp
  have q0 : 0 ≤ q ∧ q < 6 := by omega
  have p0 : 0 ≤ p ∧ p < 4 := by omega
  obtain ⟨m, hm⟩ : ∃ m, n % 5 = m := ⟨_, rfl⟩
  obtain ⟨k, hk⟩ : ∃ k, ip % 3 = k := ⟨_, rfl⟩
  have m1 : (n : Int) % 5 = (m : Int) := by omega
  have m2 : (n : Int).tmod 5 = (m : Int) := by rw [tmod_pos _ _ (by omega)]; exact m1
  have k1 : (ip : Int) % 3 = (k : Int) := by omega
  have k2 : (ip : Int).tmod 3 = (k : Int) := by rw [tmod_pos _ _ (by omega)]; exact k1
  have m3 : m < 5 := by omega
  have k3 : k < 3 := by omega
  rw [hq, hp, hm, hk]
  have c1 := IntWalk.i64_in q ⟨by omega, by omega⟩
  have c2 := IntWalk.i64_in p ⟨by omega, by omega⟩
  have c3 := IntWalk.i64_in (1 + q) ⟨by omega, by omega⟩
  have c4 := IntWalk.u32_in (1 + (k : Int)) ⟨by omega, by omega⟩
  have e1 : (((1 + k : Nat) : Nat) : Int) = 1 + (k : Int) := by omega
  have e7 : (((7 : Nat) : Nat) : Int) = 7 := rfl
  clear hm hk
  show Calls _ _ _ _ fun e w' => e = .returned (.agg #[.int .i64 (1 + q), .int .i64 p, .int .u32 m, .int .u32 ((1 + k : Nat) : Int), .int .u16 ((7 : Nat) : Int)]) ∧ Below w.heap.size w w'
  rw [e1, e7]
  go_enter Try.func14, Try.ntmps14
  go_wp2
  refine bodyPost_ret (v := .agg #[.int .i64 (1 + q), .int .i64 p, .int .u32 m, .int .u32 (1 + (k : Int)), .int .u16 7]) (by simp [results, Try.results14, go_sem]) rfl ⟨rfl, ?_⟩
  have hB := Below.refl w.heap.size w
  (have zzh := Below.size hB; repeat (first | with_reducible exact hB | with_reducible refine Below.setCell ?_ (by first | omega | (simp; done) | (simp; omega)) _ | with_reducible refine Below.alloc ?_ (by first | omega | (simp; done) | (simp; omega)) _ | with_reducible refine Below.drew ?_))
theorem thing_any (t : Th) (h : t.r.Ok) (w : World) :
    Calls Try.prog 14 #[.agg #[.int .i64 t.r.id, .int .i64 t.r.st, .int .u32 t.r.n, .int .u32 t.r.ip, .int .u16 t.r.port, .bool t.own]] w fun e w' => e = .returned (.agg #[.int .i64 (thR t).id, .int .i64 (thR t).st, .int .u32 (thR t).n, .int .u32 (thR t).ip, .int .u16 (thR t).port]) ∧ Below w.heap.size w w' := by
  obtain ⟨r, own⟩ := t
  cases own
  · exact thing_plain r w
  · exact thing_own r h w

section
variable {H : Type} {enc : TypeId × Value → H} {w : World} {base : Nat} {spare : Nat → Bool} {held : Bool}
theorem cells_int : Try.prog.cellsOf 3 = 1 := by kernel_rfl
theorem cells_u32 : Try.prog.cellsOf 32 = 1 := by kernel_rfl
theorem cells_u16 : Try.prog.cellsOf 33 = 1 := by kernel_rfl
theorem cells_bool : Try.prog.cellsOf 4 = 1 := by kernel_rfl
theorem cells_addr : Try.prog.cellsOf 35 = 2 := by kernel_rfl
theorem cells_rec : Try.prog.cellsOf 37 = 5 := by kernel_rfl
theorem cells_thing : Try.prog.cellsOf 39 = 6 := by kernel_rfl
theorem addr_open {n : Nat} {cs : List Value} {x : DataW H × List MemPlace} (h : DataW.trod enc Try.prog w base spare held n 35 cs = some x) : ∃ ip port : Int, cs = [.int .u32 ip, .int .u16 port] ∧ (Lit.int .u32 ip).wf = true ∧ (Lit.int .u16 port).wf = true := by
  obtain ⟨ys, m, _, _, hl, hyl, hf⟩ := DataW.trod_struct Try.underlying35 h
  have hl8 : cs.length = 2 := hl.trans cells_addr
  clear hl
  match cs, hl8 with
  | [c0, c1], _ =>
    match ys, hyl with
    | [y0, y1], _ =>
      have g0 : DataW.trod enc Try.prog w base spare held m 32 (([c0, c1].drop 0).take (Try.prog.cellsOf 32)) = some y0 := hf 0 _ rfl
      have g1 : DataW.trod enc Try.prog w base spare held m 33 (([c0, c1].drop 1).take (Try.prog.cellsOf 33)) = some y1 := hf 1 _ rfl
      rw [cells_u32] at g0
      rw [cells_u16] at g1
      obtain ⟨z0, e0, _, w0⟩ := DataW.trod_int Try.underlying32 g0
      obtain ⟨z1, e1, _, w1⟩ := DataW.trod_int Try.underlying33 g1
      simp at e0 e1
      subst e0 e1
      exact ⟨z0, z1, rfl, w0, w1⟩
theorem rec_open {n : Nat} {cs : List Value} {x : DataW H × List MemPlace} (h : DataW.trod enc Try.prog w base spare held n 37 cs = some x) : ∃ r : Rec, cs = rcs r ∧ r.Ok := by
  obtain ⟨ys, m, _, _, hl, hyl, hf⟩ := DataW.trod_struct Try.underlying37 h
  have hl8 : cs.length = 5 := hl.trans cells_rec
  clear hl
  match cs, hl8 with
  | [c0, c1, c2, c3, c4], _ =>
    match ys, hyl with
    | [y0, y1, y2, y3], _ =>
      have g0 : DataW.trod enc Try.prog w base spare held m 3 (([c0, c1, c2, c3, c4].drop 0).take (Try.prog.cellsOf 3)) = some y0 := hf 0 _ rfl
      have g1 : DataW.trod enc Try.prog w base spare held m 3 (([c0, c1, c2, c3, c4].drop 1).take (Try.prog.cellsOf 3)) = some y1 := hf 1 _ rfl
      have g2 : DataW.trod enc Try.prog w base spare held m 32 (([c0, c1, c2, c3, c4].drop 2).take (Try.prog.cellsOf 32)) = some y2 := hf 2 _ rfl
      have g3 : DataW.trod enc Try.prog w base spare held m 35 (([c0, c1, c2, c3, c4].drop 3).take (Try.prog.cellsOf 35)) = some y3 := hf 3 _ rfl
      rw [cells_int] at g0 g1
      rw [cells_u32] at g2
      rw [cells_addr] at g3
      obtain ⟨z0, e0, _, w0⟩ := DataW.trod_int Try.underlying3 g0
      obtain ⟨z1, e1, _, w1⟩ := DataW.trod_int Try.underlying3 g1
      obtain ⟨z2, e2, _, w2⟩ := DataW.trod_int Try.underlying32 g2
      obtain ⟨z3, z4, e3, w3, w4⟩ := addr_open g3
      simp at e0 e1 e2 e3
      obtain ⟨e3, e4⟩ := e3
      subst e0 e1 e2 e3 e4
      have b2 := bounds_u32 w2
      have b3 := bounds_u32 w3
      have b4 := bounds_u16 w4
      obtain ⟨n2, rfl⟩ : ∃ n : Nat, z2 = n := ⟨z2.toNat, by omega⟩
      obtain ⟨n3, rfl⟩ : ∃ n : Nat, z3 = n := ⟨z3.toNat, by omega⟩
      obtain ⟨n4, rfl⟩ : ∃ n : Nat, z4 = n := ⟨z4.toNat, by omega⟩
      exact ⟨⟨z0, z1, n2, n3, n4⟩, rfl, ⟨by show n2 < _; omega, by show n3 < _; omega, by show n4 < _; omega⟩⟩
theorem thing_open {n : Nat} {cs : List Value} {x : DataW H × List MemPlace} (h : DataW.trod enc Try.prog w base spare held n 39 cs = some x) : ∃ t : Th, cs = tcs t ∧ t.r.Ok := by
  obtain ⟨ys, m, _, _, hl, hyl, hf⟩ := DataW.trod_struct Try.underlying39 h
  have hl8 : cs.length = 6 := hl.trans cells_thing
  clear hl
  match cs, hl8 with
  | [c0, c1, c2, c3, c4, c5], _ =>
    match ys, hyl with
    | [y0, y1], _ =>
      have g0 : DataW.trod enc Try.prog w base spare held m 37 (([c0, c1, c2, c3, c4, c5].drop 0).take (Try.prog.cellsOf 37)) = some y0 := hf 0 _ rfl
      have g1 : DataW.trod enc Try.prog w base spare held m 4 (([c0, c1, c2, c3, c4, c5].drop 5).take (Try.prog.cellsOf 4)) = some y1 := hf 1 _ rfl
      rw [cells_rec] at g0
      rw [cells_bool] at g1
      obtain ⟨r, e0, hr⟩ := rec_open g0
      obtain ⟨z1, e1, _⟩ := DataW.trod_bool Try.underlying4 g1
      simp [rcs] at e0 e1
      obtain ⟨f0, f1, f2, f3, f4⟩ := e0
      subst f0 f1 f2 f3 f4 e1
      exact ⟨⟨r, z1⟩, rfl, hr⟩
end
theorem open_thing {H : Type} {enc : TypeId × Value → H} {w : World} {base : Nat} {sp : Nat → Bool} {held : Bool} {r : Reach} {b0 : Nat} {v : Value} {d : DataW H} {p : List MemPlace}
    (hv : Value.okWide Try.prog w r b0 39 v) (h : DataW.Trod enc Try.prog w base sp held 39 v d p) :
    ∃ (x0 : Int) (x1 : Int) (x2 : Int) (x3 : Int) (x4 : Int) (x5 : Bool), v = .agg #[.int .i64 x0, .int .i64 x1, .int .u32 x2, .int .u32 x3, .int .u16 x4, .bool x5] ∧ (Lit.int .i64 x0).wf = true ∧ (Lit.int .i64 x1).wf = true ∧ (Lit.int .u32 x2).wf = true ∧ (Lit.int .u32 x3).wf = true ∧ (Lit.int .u16 x4).wf = true := by
  obtain ⟨cs, rfl, hsz⟩ := Go.WideShapes.okWide_struct Try.underlying39 hv
  have hC0 : Try.prog.cellsOf 39 = 6 := by kernel_rfl
  have hC1 : Try.prog.cellsOf 37 = 5 := by kernel_rfl
  have hC2 : Try.prog.cellsOf 3 = 1 := by kernel_rfl
  have hC3 : Try.prog.cellsOf 32 = 1 := by kernel_rfl
  have hC4 : Try.prog.cellsOf 35 = 2 := by kernel_rfl
  have hC5 : Try.prog.cellsOf 33 = 1 := by kernel_rfl
  have hC6 : Try.prog.cellsOf 4 = 1 := by kernel_rfl
  rw [hC0] at hsz
  obtain ⟨c0, c1, c2, c3, c4, c5, rfl⟩ : ∃ c0 c1 c2 c3 c4 c5, cs = #[c0, c1, c2, c3, c4, c5] := by
    obtain ⟨l⟩ := cs
    match l, hsz with
    | [c0, c1, c2, c3, c4, c5], _ => exact ⟨c0, c1, c2, c3, c4, c5, rfl⟩
  obtain ⟨fuel, hf⟩ := h
  have hf0 : DataW.trod enc Try.prog w base sp held fuel 39 [c0, c1, c2, c3, c4, c5] = some (d, p) := hf
  obtain ⟨ys0, m0, _, _, _, hl0, hg0⟩ := Go.DataW.trod_struct Try.underlying39 hf0
  obtain ⟨y0_0, hy0_0⟩ : ∃ y, ys0[0]? = some y := ⟨_, List.getElem?_eq_getElem (by rw [hl0]; decide)⟩
  have h0_0 := hg0 0 _ rfl
  rw [hy0_0] at h0_0
  simp [hC0, hC1, hC2, hC3, hC4, hC5, hC6] at h0_0
  obtain ⟨ys1, m1, _, _, _, hl1, hg1⟩ := Go.DataW.trod_struct Try.underlying37 h0_0
  obtain ⟨y1_0, hy1_0⟩ : ∃ y, ys1[0]? = some y := ⟨_, List.getElem?_eq_getElem (by rw [hl1]; decide)⟩
  have h1_0 := hg1 0 _ rfl
  rw [hy1_0] at h1_0
  simp [hC0, hC1, hC2, hC3, hC4, hC5, hC6] at h1_0
  obtain ⟨x0, e0, _, w0⟩ := Go.DataW.trod_int Try.underlying3 h1_0
  obtain rfl := (List.cons.inj e0).1
  obtain ⟨y1_1, hy1_1⟩ : ∃ y, ys1[1]? = some y := ⟨_, List.getElem?_eq_getElem (by rw [hl1]; decide)⟩
  have h1_1 := hg1 1 _ rfl
  rw [hy1_1] at h1_1
  simp [hC0, hC1, hC2, hC3, hC4, hC5, hC6] at h1_1
  obtain ⟨x1, e1, _, w1⟩ := Go.DataW.trod_int Try.underlying3 h1_1
  obtain rfl := (List.cons.inj e1).1
  obtain ⟨y1_2, hy1_2⟩ : ∃ y, ys1[2]? = some y := ⟨_, List.getElem?_eq_getElem (by rw [hl1]; decide)⟩
  have h1_2 := hg1 2 _ rfl
  rw [hy1_2] at h1_2
  simp [hC0, hC1, hC2, hC3, hC4, hC5, hC6] at h1_2
  obtain ⟨x2, e2, _, w2⟩ := Go.DataW.trod_int Try.underlying32 h1_2
  obtain rfl := (List.cons.inj e2).1
  obtain ⟨y1_3, hy1_3⟩ : ∃ y, ys1[3]? = some y := ⟨_, List.getElem?_eq_getElem (by rw [hl1]; decide)⟩
  have h1_3 := hg1 3 _ rfl
  rw [hy1_3] at h1_3
  simp [hC0, hC1, hC2, hC3, hC4, hC5, hC6] at h1_3
  obtain ⟨ys2, m2, _, _, _, hl2, hg2⟩ := Go.DataW.trod_struct Try.underlying35 h1_3
  obtain ⟨y2_0, hy2_0⟩ : ∃ y, ys2[0]? = some y := ⟨_, List.getElem?_eq_getElem (by rw [hl2]; decide)⟩
  have h2_0 := hg2 0 _ rfl
  rw [hy2_0] at h2_0
  simp [hC0, hC1, hC2, hC3, hC4, hC5, hC6] at h2_0
  obtain ⟨x3, e3, _, w3⟩ := Go.DataW.trod_int Try.underlying32 h2_0
  obtain rfl := (List.cons.inj e3).1
  obtain ⟨y2_1, hy2_1⟩ : ∃ y, ys2[1]? = some y := ⟨_, List.getElem?_eq_getElem (by rw [hl2]; decide)⟩
  have h2_1 := hg2 1 _ rfl
  rw [hy2_1] at h2_1
  simp [hC0, hC1, hC2, hC3, hC4, hC5, hC6] at h2_1
  obtain ⟨x4, e4, _, w4⟩ := Go.DataW.trod_int Try.underlying33 h2_1
  obtain rfl := (List.cons.inj e4).1
  obtain ⟨y0_1, hy0_1⟩ : ∃ y, ys0[1]? = some y := ⟨_, List.getElem?_eq_getElem (by rw [hl0]; decide)⟩
  have h0_1 := hg0 1 _ rfl
  rw [hy0_1] at h0_1
  simp [hC0, hC1, hC2, hC3, hC4, hC5, hC6] at h0_1
  obtain ⟨x5, e5, _⟩ := Go.DataW.trod_bool Try.underlying4 h0_1
  obtain rfl := (List.cons.inj e5).1
  exact ⟨x0, x1, x2, x3, x4, x5, rfl, w0, w1, w2, w3, w4⟩
theorem rec_of {i st n ip port : Int} (h1 : (Lit.int .u32 n).wf = true) (h2 : (Lit.int .u32 ip).wf = true) (h3 : (Lit.int .u16 port).wf = true) : ∃ a : Rec, a.Ok ∧ a.id = i ∧ a.st = st ∧ (a.n : Int) = n ∧ (a.ip : Int) = ip ∧ (a.port : Int) = port := by
  have b1 := bounds_u32 h1
  have b2 := bounds_u32 h2
  have b3 := bounds_u16 h3
  obtain ⟨n, rfl⟩ := Int.eq_ofNat_of_zero_le b1.1
  obtain ⟨ip, rfl⟩ := Int.eq_ofNat_of_zero_le b2.1
  obtain ⟨port, rfl⟩ := Int.eq_ofNat_of_zero_le b3.1
  exact ⟨⟨i, st, n, ip, port⟩, ⟨by show n < _; omega, by show ip < _; omega, by show port < _; omega⟩, rfl, rfl, rfl, rfl, rfl⟩
end Go.Proofs.Ythebcaielbnhjaa
