/- A box's In. -/
import Derived.Test.YtdpgmdkclaahdaaNbBoxOut2
namespace Go.Proofs.Ytdpgmdkclaahdaa.Nb
open Go.Sort Go.RowKit Go.BigFrame
set_option linter.unusedVariables false
set_option linter.unusedSimpArgs false

def badI (si sp now : Int) : Bool := noneI si sp || decide (4611686018427387904 < now)
def innAt (l : List Pb) (j : Nat) : Int × Int := ((l[j]?).map (fun b => (b.ii, b.ip))).getD (0, 0)
def inQ (f hold now port si sp : Int) (l : List Pb) : (Int × Int × Int) × List Pb :=
  match inP f now port si sp l with
  | none => ((0, 0, 5), sweepP now l)
  | some j => (((innAt (sweepP now l) j).1, (innAt (sweepP now l) j).2, 0), modP (sweepP now l) j (untP (now + hold)))
def InPost (g : Nat) (S : Nat → Prop) (m f ip hold : Int) (room : Nat) (now port si sp : Int) (L : List Bd) (w : World) (e : Ending) (w' : World) : Prop :=
  ∃ L' : List Bd, L'.map (·.1) = (inQ f hold now port si sp (L.map (·.1))).2 ∧
    e = .returned (.tuple #[.agg #[.int .u32 (inQ f hold now port si sp (L.map (·.1))).1.1, .int .u16 (inQ f hold now port si sp (L.map (·.1))).1.2.1], .int .i64 (inQ f hold now port si sp (L.map (·.1))).1.2.2]) ∧ (∃ v', Bs g S m f ip hold room v' L' w') ∧ Touch S w w'
structure Oi (x y z : Nat) (port si sp : Int) (w : World) : Prop where
  x : Cs x [.int .u16 port] w
  y : Cs y [.int .u32 si, .int .u16 sp] w
  z : Cs z [.int .u32 0, .int .u16 0] w
theorem Oi.touch {x y z : Nat} {port si sp : Int} {F : Nat → Prop} {w w' : World} (h : Oi x y z port si sp w) (t : Touch F w w') (hx : ¬ F x) (hy : ¬ F y) (hz : ¬ F z) : Oi x y z port si sp w' := ⟨h.x.touch t hx, h.y.touch t hy, h.z.touch t hz⟩
theorem Oi.keep {x y z : Nat} {port si sp : Int} {w w' : World} (h : Oi x y z port si sp w) (b : Below w.heap.size w w') : Oi x y z port si sp w' := ⟨h.x.keep b, h.y.keep b, h.z.keep b⟩
theorem oi_new (port si sp : Int) (w : World) : Oi w.heap.size (w.heap.size + 1) (w.heap.size + 1 + 1) port si sp (((w.alloc (.cells #[.int .u16 port] 26)).alloc (.cells #[.int .u32 si, .int .u16 sp] 28)).alloc (.cells #[.int .u32 0, .int .u16 0] 28)) := by
  have h1 := Cs.new (w.alloc (.cells #[.int .u16 port] 26)) [.int .u32 si, .int .u16 sp] 28
  have h2 := Cs.new ((w.alloc (.cells #[.int .u16 port] 26)).alloc (.cells #[.int .u32 si, .int .u16 sp] 28)) [.int .u32 0, .int .u16 0] 28
  simp only [World.size_alloc] at h1 h2
  exact ⟨((Cs.new w [.int .u16 port] 26).alloc _).alloc _, h1.alloc _, h2⟩
set_option maxHeartbeats 3200000 in
theorem in_bad (g : Nat) (port si sp now : Int) (w : World) (hb : badI si sp now = true) :
    Calls Try.prog 45 #[.pointer (some ⟨g, 0, none⟩), .int .u64 now, .int .u16 port, .agg #[.int .u32 si, .int .u16 sp]] w (OutBad w) := by
  have N1 := none_any si sp
  unfold badI at hb
  have hB : Hid (Below w.heap.size w (((w.alloc (.cells #[.int .u16 port] 26)).alloc (.cells #[.int .u32 si, .int .u16 sp] 28)).alloc (.cells #[.int .u32 0, .int .u16 0] 28))) := by show Below _ _ _; (repeat (first | with_reducible exact Below.refl _ _ | with_reducible refine Below.drew ?_ | with_reducible refine below_drewN ?_ _ | with_reducible refine Below.alloc ?_ (by first | omega | (simp; done) | (simp; omega)) _ | with_reducible refine Below.setCell ?_ (by first | omega | (simp; done) | (simp; omega)) _))
  have O := Lib.hid (oi_new port si sp w)
  generalize hA : noneI si sp = A at *
  clear hA
  have x0 := O.out.y.cell 0 _ rfl
  have x1 := O.out.y.cell 1 _ rfl
  cases A
  · have hn : 4611686018427387904 < now := by simpa using hb
    clear hb
    go_enter Try.func45, Try.ntmps45
    go_wp2_with fail
    refine (N1 _).mono ?_; rintro e w1 ⟨rfl, d⟩
    replace O := Lib.hid (O.out.keep d)
    replace hB := Lib.hid (hB.out.trans (d.mono hB.out.size))
    clear x0 x1 d N1
    have z0 := O.out.z.cell 0 _ rfl
    have z1 := O.out.z.cell 1 _ rfl
    have zf0 := O.out.z.free 0 _ rfl
    have zf1 := O.out.z.free 1 _ rfl
    have zl := O.out.z.lt
    go_wp2_with fail
    refine bodyPost_ret (v := .tuple #[.agg #[.int .u32 0, .int .u16 0], .int .i64 1]) (by simp [results, Try.results45, go_sem, *]) rfl ⟨rfl, ?_⟩
    have hb := hB.out
    (have zzh := Below.size hb; repeat (first | with_reducible exact hb | with_reducible refine Below.setCell ?_ (by first | omega | (simp; done) | (simp; omega)) _ | with_reducible refine Below.alloc ?_ (by first | omega | (simp; done) | (simp; omega)) _ | with_reducible refine Below.drew ?_))
  · clear hb
    go_enter Try.func45, Try.ntmps45
    go_wp2_with fail
    refine (N1 _).mono ?_; rintro e w1 ⟨rfl, d⟩
    replace O := Lib.hid (O.out.keep d)
    replace hB := Lib.hid (hB.out.trans (d.mono hB.out.size))
    clear x0 x1 d N1
    have z0 := O.out.z.cell 0 _ rfl
    have z1 := O.out.z.cell 1 _ rfl
    have zf0 := O.out.z.free 0 _ rfl
    have zf1 := O.out.z.free 1 _ rfl
    have zl := O.out.z.lt
    go_wp2_with fail
    refine bodyPost_ret (v := .tuple #[.agg #[.int .u32 0, .int .u16 0], .int .i64 1]) (by simp [results, Try.results45, go_sem, *]) rfl ⟨rfl, ?_⟩
    have hb := hB.out
    (have zzh := Below.size hb; repeat (first | with_reducible exact hb | with_reducible refine Below.setCell ?_ (by first | omega | (simp; done) | (simp; omega)) _ | with_reducible refine Below.alloc ?_ (by first | omega | (simp; done) | (simp; omega)) _ | with_reducible refine Below.drew ?_))
theorem inq_none {f hold now port si sp : Int} {l : List Pb} (h : (sweepP now l).findIdx? (portP port) = none) : inQ f hold now port si sp l = ((0, 0, 5), sweepP now l) := by
  unfold inQ inP; rw [h]
theorem inq_no {f hold now port si sp : Int} {L1 : List Bd} {l : List Pb} {j : Nat} (e : sweepP now l = L1.map (·.1)) (hj : j < L1.length) (h : (L1.map (·.1)).findIdx? (portP port) = some j) (hp : passT f L1[j].1.met si sp = false) : inQ f hold now port si sp l = ((0, 0, 5), sweepP now l) := by
  unfold inQ inP
  rw [e, h]
  simp only [List.getElem?_map, List.getElem?_eq_getElem hj, Option.map_some, Option.getD_some, hp]
  rfl
theorem inq_yes {f hold now port si sp : Int} {L1 : List Bd} {l : List Pb} {j : Nat} (e : sweepP now l = L1.map (·.1)) (hj : j < L1.length) (h : (L1.map (·.1)).findIdx? (portP port) = some j) (hp : passT f L1[j].1.met si sp = true) : inQ f hold now port si sp l = ((L1[j].1.ii, L1[j].1.ip, 0), modP (L1.map (·.1)) j (untP (now + hold))) := by
  unfold inQ inP
  rw [e, h]
  simp only [List.getElem?_map, List.getElem?_eq_getElem hj, Option.map_some, Option.getD_some, hp, innAt, if_true]
/-- a binding's end is set -/
theorem unt_fin {g gb : Nat} {S : Nat → Prop} {m f ip hold : Int} {room c j : Nat} {L : List Bd} {u : Int} {w : World} (hj : j < L.length)
    (h : Bs g S m f ip hold room ⟨some ⟨gb, 0, none⟩, L.length, c⟩ L w) :
    Bs g S m f ip hold room ⟨some ⟨gb, 0, none⟩, L.length, c⟩ (L.set j (untP u L[j].1, L[j].2)) (w.setCell ⟨gb, j * 7 + 6, none⟩ (.int .u64 u)) ∧ Touch S w (w.setCell ⟨gb, j * 7 + 6, none⟩ (.int .u64 u)) := by
  have hgb := h.vS gb rfl
  obtain ⟨-, C, hC, hcap, htk, hlc, hm⟩ := brow_open h.row
  have hx : L[j]? = some L[j] := List.getElem?_eq_getElem hj
  have hCj := take_at htk hx
  have hR4 := hC.field j 6 _ (.int .u64 u) hCj (by decide)
  have hchx : (ch L[j]).set 6 (.int .u64 u) = ch (untP u L[j].1, L[j].2) := rfl
  rw [hchx] at hR4
  have t : Touch (fun k => k = gb) w (w.setCell ⟨gb, j * 7 + 6, none⟩ (.int .u64 u)) := Touch.set (F := fun k => k = gb) (Touch.refl _ w) (fun _ => rfl) _
  have hset : ∀ x ∈ L.set j (untP u L[j].1, L[j].2), x = (untP u L[j].1, L[j].2) ∨ x ∈ L := fun x hx => (List.mem_or_eq_of_mem_set hx).symm
  have hmem : L[j] ∈ L := List.getElem_mem hj
  refine ⟨⟨h.box.touch t (fun e => hgb.2 e.symm), ?_, fun x hx => ?_, ?_, h.gS, h.vS, fun x hx k hk => ?_, ?_⟩, (Touch.refl S w).set (fun _ => hgb.1) _⟩
  · have e1 : (C.set j (ch (untP u L[j].1, L[j].2))).length = c := by rw [List.length_set]; exact hcap
    have e2 : (L.set j (untP u L[j].1, L[j].2)).length = L.length := List.length_set
    have := brow_close (L := L.set j (untP u L[j].1, L[j].2)) hR4 (by rw [e2, List.take_set, htk, List.map_set]) (by rw [e2, e1]; exact hlc) (by rw [e1]; exact hm)
    rw [e1, e2] at this
    exact this
  · rcases hset x hx with rfl | hx
    · exact own_touch (h.met L[j] hmem) t (fun k hk e => (h.mS L[j] hmem k hk).2.2 (by rw [e]; rfl))
    · exact own_touch (h.met x hx) t (fun k hk e => (h.mS x hx k hk).2.2 (by rw [e]; rfl))
  · rw [List.pairwise_iff_getElem]
    intro i i2 hi hi2 hlt k hk e
    rw [List.length_set] at hi hi2
    have hs : ∀ i (hi : i < L.length), ((L.set j (untP u L[j].1, L[j].2))[i]'(by rw [List.length_set]; exact hi)).2 = L[i].2 := by
      intro i hi
      by_cases e1 : j = i
      · subst e1; rw [List.getElem_set_self]
      · rw [List.getElem_set_ne e1]
    rw [hs i hi] at hk
    rw [hs i2 hi2] at e
    exact List.pairwise_iff_getElem.1 h.sep i i2 hi hi2 hlt k hk e
  · rcases hset x hx with rfl | hx
    · exact h.mS L[j] hmem k hk
    · exact h.mS x hx k hk
  · refine ⟨h.ok.h1, h.ok.h2, h.ok.r1, h.ok.r2, by rw [List.length_map, List.length_set]; exact h.len, fun b hb => ?_, fun b hb => ?_⟩
    · obtain ⟨x, hx, rfl⟩ := List.mem_map.1 hb
      rcases hset x hx with rfl | hx
      · have := h.ok.met L[j].1 (List.mem_map.2 ⟨L[j], hmem, rfl⟩); exact this
      · exact h.ok.met _ (List.mem_map.2 ⟨x, hx, rfl⟩)
    · obtain ⟨x, hx, rfl⟩ := List.mem_map.1 hb
      rcases hset x hx with rfl | hx
      · have := h.ok.po L[j].1 (List.mem_map.2 ⟨L[j], hmem, rfl⟩); exact this
      · exact h.ok.po _ (List.mem_map.2 ⟨x, hx, rfl⟩)
def InJ (g : Nat) (S : Nat → Prop) (m f ip hold : Int) (room : Nat) (L1 : List Bd) (port si sp : Int) (w : World) (wx : World) : Prop :=
  (∃ v, Bs g S m f ip hold room v L1 wx) ∧ Oi w.heap.size (w.heap.size + 1) (w.heap.size + 1 + 1) port si sp wx ∧ Touch S w wx
set_option maxHeartbeats 6400000 in
set_option maxRecDepth 100000 in
theorem in_ok (g : Nat) (S : Nat → Prop) (m f ip hold : Int) (room : Nat) (v : Sl) (now port si sp : Int) (L : List Bd) (w : World) (h : Bs g S m f ip hold room v L w) (hS : ∀ k, S k → k < w.heap.size) (hb : badI si sp now = false) (h0 : 0 ≤ now) :
    Calls Try.prog 45 #[.pointer (some ⟨g, 0, none⟩), .int .u64 now, .int .u16 port, .agg #[.int .u32 si, .int .u16 sp]] w (InPost g S m f ip hold room now port si sp L w) := by
  have N1 := none_any si sp
  unfold badI at hb
  have hh1 := h.ok.h1
  have hh2 := h.ok.h2
  have hB : Hid (Below w.heap.size w (((w.alloc (.cells #[.int .u16 port] 26)).alloc (.cells #[.int .u32 si, .int .u16 sp] 28)).alloc (.cells #[.int .u32 0, .int .u16 0] 28))) := by show Below _ _ _; (repeat (first | with_reducible exact Below.refl _ _ | with_reducible refine Below.drew ?_ | with_reducible refine below_drewN ?_ _ | with_reducible refine Below.alloc ?_ (by first | omega | (simp; done) | (simp; omega)) _ | with_reducible refine Below.setCell ?_ (by first | omega | (simp; done) | (simp; omega)) _))
  have O := Lib.hid (oi_new port si sp w)
  have HB := Lib.hid (h.keep hB.out)
  have HS := Lib.hid hS
  clear h hS
  generalize hA : noneI si sp = A at *
  clear hA
  obtain ⟨rfl, hn⟩ : A = false ∧ now ≤ 4611686018427387904 := by
    revert hb
    cases A <;> simp
  have hw : IntKind.u64.wrap (now + hold) = now + hold := IntWalk.u64_in _ (by omega)
  have hw0 : 0 ≤ now + hold := by omega
  clear hb
  have x0 := O.out.y.cell 0 _ rfl
  have x1 := O.out.y.cell 1 _ rfl
  go_enter Try.func45, Try.ntmps45
  go_wp2_with fail
  refine (N1 _).mono ?_; rintro e w1 ⟨rfl, d⟩
  replace O := Lib.hid (O.out.keep d)
  replace HB := Lib.hid (HB.out.keep d)
  replace hB := Lib.hid (hB.out.trans (d.mono hB.out.size))
  clear x0 x1 d N1
  have SW := sweep_any now g S m f ip hold room v L w1 HB.out (fun k hk => Nat.lt_of_lt_of_le (HS.out k hk) hB.out.size)
  go_wp2_with fail
  refine SW.mono ?_; rintro e w3 ⟨rfl, ⟨v3, hb3⟩, ht3⟩
  have hno : ∀ q, w.heap.size ≤ q → ¬ S q := fun q hq hk => Nat.lt_irrefl _ (Nat.lt_of_lt_of_le (HS.out q hk) hq)
  replace O := Lib.hid (O.out.touch ht3 (hno _ (Nat.le_refl _)) (hno _ (by omega)) (hno _ (by omega)))
  replace HB := Lib.hid hb3
  have T := Lib.hid ((Touch.of_below S hB.out).trans ht3 (fun _ _ h => h))
  have HNO := Lib.hid hno
  clear SW hb3 ht3 hB hno
  obtain ⟨L1, hL1⟩ : ∃ L1, keepL (goneP now) L = L1 := ⟨_, rfl⟩
  rw [hL1] at HB
  have HL1 : Hid (L1.map (·.1) = sweepP now (L.map (·.1))) := by rw [← hL1]; exact sweep_fst now L
  clear hL1
  have hn4 := HB.out.form.1
  have hlen := HB.out.len
  have hr2 := HB.out.ok.r2
  obtain ⟨a4, n4, c4⟩ := v3
  simp only at hn4
  subst hn4
  have I := idxF_any _ enters_in #[.pointer (some ⟨w.heap.size, 0, none⟩)] (portP port) a4 c4 L1 (by omega) w3 (brow_rd HB.out.row) (fun x hx w' hb => inC_any x port w.heap.size w' (O.out.x.keep hb))
  have x5 := HB.out.box.cell 5 _ rfl
  have gl := HB.out.box.lt
  go_wp2_with fail
  refine I.mono ?_; rintro e w5 ⟨iv, rfl, hv, b5⟩
  replace HB := Lib.hid (HB.out.keep b5)
  replace O := Lib.hid (O.out.keep b5)
  replace T := Lib.hid (T.out.trans (Touch.of_below S b5) (fun _ _ h => h))
  clear I x5 gl b5
  rcases hv with ⟨rfl, hno⟩ | ⟨j, hj, rfl, hy, hno⟩
  · have HQ := Lib.hid (inq_none (f := f) (hold := hold) (now := now) (port := port) (si := si) (sp := sp) (l := L.map (·.1)) (by rw [← HL1.out]; exact idx_none hno))
    clear hno
    go_upto_region 5 with fail
    (refine wp_region_quiet_below (by kernel_rfl) (by kernel_rfl) ?_; (repeat (go_big_quiet_step (first | with_reducible exact trivial _ _))); refine wpQuiet_nil ?_; intro _ hw'; obtain ⟨⟨dq, osq⟩, hw''⟩ := hw'; subst hw'')
    have bq := below_regrown w5 dq osq
    replace HB := Lib.hid (HB.out.keep bq)
    replace O := Lib.hid (O.out.keep bq)
    replace T := Lib.hid (T.out.trans (Touch.of_below S bq) (fun _ _ h => h))
    clear bq
    simp only at *
    generalize grow (redrawn w5 dq) osq = w6 at *
    have z0 := O.out.z.cell 0 _ rfl
    have z1 := O.out.z.cell 1 _ rfl
    have zf0 := O.out.z.free 0 _ rfl
    have zf1 := O.out.z.free 1 _ rfl
    have zl := O.out.z.lt
    go_wp2_with fail
    refine bodyPost_ret (v := .tuple #[.agg #[.int .u32 0, .int .u16 0], .int .i64 5]) (by simp [results, Try.results45, go_sem, *]) rfl ?_
    unfold InPost
    rw [HQ.out]
    have t : Touch (fun k => k = w.heap.size + 1 + 1) w6 ((w6.setCell ⟨w.heap.size + 1 + 1, 0, none⟩ (.int .u32 0)).setCell ⟨w.heap.size + 1 + 1, 1, none⟩ (.int .u16 0)) := Touch.set (F := fun k => k = w.heap.size + 1 + 1) (Touch.set (F := fun k => k = w.heap.size + 1 + 1) (Touch.refl _ w6) (fun _ => rfl) _) (fun _ => rfl) _
    exact ⟨L1, HL1.out, rfl, ⟨_, HB.out.touch t (fun k hk e => HNO.out k (by omega) hk)⟩, T.out.trans t (fun k h1 h2 => by omega)⟩
  · have hjx : L1[j]? = some L1[j] := List.getElem?_eq_getElem hj
    obtain ⟨gb, rfl⟩ : ∃ gb, a4 = some ⟨gb, 0, none⟩ := by
      rcases HB.out.form.2 with h | ⟨gb, h, _⟩
      · injection h with _ h _; omega
      · exact ⟨gb, h⟩
    obtain ⟨-, C, hC, hcap, htk, hlc, hm⟩ := brow_open HB.out.row
    have hCj := take_at htk hjx
    have hmr := HB.out.met L1[j] (List.getElem_mem hj)
    have hm16 := HB.out.ok.met L1[j].1 (List.mem_map.2 ⟨L1[j], List.getElem_mem hj, rfl⟩)
    have hidx := idx_some hj hy hno
    have HQ1 := Lib.hid (fun hp => inq_no (f := f) (hold := hold) (now := now) (port := port) (si := si) (sp := sp) (L1 := L1) (l := L.map (·.1)) HL1.out.symm hj hidx hp)
    have HQ2 := Lib.hid (fun hp => inq_yes (f := f) (hold := hold) (now := now) (port := port) (si := si) (sp := sp) (L1 := L1) (l := L.map (·.1)) HL1.out.symm hj hidx hp)
    have HSET := Lib.hid (set_fst L1 j hj (untP (now + hold)) L1[j].2)
    have FU := Lib.hid (fun (w' : World) h => unt_fin (u := now + hold) (w := w') hj (h : Bs g S m f ip hold room ⟨some ⟨gb, 0, none⟩, L1.length, c4⟩ L1 w'))
    have HROW := Lib.hid (fun (w' : World) (hb : Below w5.heap.size w5 w') => (hC.touch (Touch.of_below (fun _ => False) hb) (fun h => h)))
    have HCJ := Lib.hid hCj
    have hj0 : (0 : Int) ≤ j := by omega
    have hj1 : (j : Int) < L1.length := by omega
    have d0 := cell_regrown (hC.cell j 5 _ _ hCj rfl)
    have e0 := cell_regrown (HB.out.box.cell 0 _ rfl)
    have e1 := cell_regrown (HB.out.box.cell 1 _ rfl)
    have e5 := cell_regrown (HB.out.box.cell 5 _ rfl)
    have y0 := cell_regrown (O.out.y.cell 0 _ rfl)
    have y1 := cell_regrown (O.out.y.cell 1 _ rfl)
    have gl := HB.out.box.lt
    have blt := hC.lt
    generalize L1[j] = y at *
    obtain ⟨⟨u1, u2, u3, u4, u5, u6, u7⟩, ⟨z1, z2, z3⟩⟩ := y
    simp only at HQ1 HQ2 hmr hm16 d0
    have hz2 : z2 = u7.length := by
      rcases arow_form hmr with ⟨h1, h2⟩ | ⟨_, _, h1, _⟩
      · have h2' : u7 = [] := h2
        simp [Sl.v] at h1; rw [h2', h1.2.1]; rfl
      · simp [Sl.v] at h1; exact h1.2.1
    subst hz2
    have ha := arow_rd (a := z1) (n := u7.length) (cap := z3) hmr
    have K := fun d os => Calls.regrown_of (passes_any m f z1 z3 u7 (by omega) si sp (grow (redrawn w5 d) os) ((ha.below (below_regrown w5 d os)).more (below_regrown w5 d os).size))
    have HJ := Lib.hid hj
    clear hC hcap htk hlc hm hCj hmr hm16 hidx hjx hy hno hj ha
    obtain ⟨pt, hpt⟩ : ∃ pt, passT f u7 si sp = pt := ⟨_, rfl⟩
    rw [hpt] at K HQ1 HQ2
    clear hpt
    go_upto_region 5 with fail
    have hneg : decide ((j : Int) < 0) = false := decide_eq_false (by omega)
    (refine wp_region_quiet_below (by kernel_rfl) (by kernel_rfl) ?_; (repeat (go_big_quiet_step (first | with_reducible exact K _ _))); refine wpQuiet_nil ?_; intro _ hw'; obtain ⟨⟨dq, osq⟩, hw''⟩ := hw'; subst hw'')
    have bq := below_regrown w5 dq osq
    have RR := Lib.hid (HROW.out _ bq)
    replace HB := Lib.hid (HB.out.keep bq)
    replace O := Lib.hid (O.out.keep bq)
    replace T := Lib.hid (T.out.trans (Touch.of_below S bq) (fun _ _ h => h))
    clear bq d0 e0 e1 e5 y0 y1 HROW K
    simp only at *
    generalize grow (redrawn w5 dq) osq = w6 at *
    cases pt
    · have z0 := O.out.z.cell 0 _ rfl
      have z1 := O.out.z.cell 1 _ rfl
      have zf0 := O.out.z.free 0 _ rfl
      have zf1 := O.out.z.free 1 _ rfl
      have zl := O.out.z.lt
      go_wp2_with fail
      refine bodyPost_ret (v := .tuple #[.agg #[.int .u32 0, .int .u16 0], .int .i64 5]) (by simp [results, Try.results45, go_sem, *]) rfl ?_
      unfold InPost
      rw [HQ1.out trivial]
      have t : Touch (fun k => k = w.heap.size + 1 + 1) w6 ((w6.setCell ⟨w.heap.size + 1 + 1, 0, none⟩ (.int .u32 0)).setCell ⟨w.heap.size + 1 + 1, 1, none⟩ (.int .u16 0)) := Touch.set (F := fun k => k = w.heap.size + 1 + 1) (Touch.set (F := fun k => k = w.heap.size + 1 + 1) (Touch.refl _ w6) (fun _ => rfl) _) (fun _ => rfl) _
      exact ⟨L1, HL1.out, rfl, ⟨_, HB.out.touch t (fun k hk e => HNO.out k (by omega) hk)⟩, T.out.trans t (fun k h1 h2 => by omega)⟩
    · have B7 := Lib.hid (FU.out w6.drew (HB.out.keep ((Below.refl _ _).drew)))
      have RD : Rw 7 gb 107 C w6.drew := ⟨RR.out.all, RR.out.heap⟩
      have R7 := Lib.hid (RD.field j 6 _ (.int .u64 (now + hold)) HCJ.out (by decide))
      have x5 := HB.out.box.cell 5 _ rfl
      have x3 := HB.out.box.cell 3 _ rfl
      have d6 := RR.out.cell j 6 _ _ HCJ.out rfl
      have f6 := RR.out.free (j * 7 + 6)
      have gl := HB.out.box.lt
      have blt := RR.out.lt
      have O6 := Lib.hid (O.out.keep ((Below.refl w6.heap.size w6).drew))
      have hlj : j < C.length := (List.getElem?_eq_some_iff.1 HCJ.out).1
      have HLJ := Lib.hid hlj
      have HWL : Hid (C[j]? = some (ch (⟨u1, u2, u3, u4, u5, u6, u7⟩, ⟨z1, u7.length, z3⟩))) := HCJ.out
      clear RD FU HQ1 hlj hneg
      go_wp2_with fail
      go_region
      change Exit.then _ _ _ _ (w6.drew.setCell ⟨gb, j * 7 + 6, none⟩ (.int .u64 (now + hold)))
      have t7 : Touch (fun k => k = gb) w6 (w6.drew.setCell ⟨gb, j * 7 + 6, none⟩ (.int .u64 (now + hold))) := Touch.set (F := fun k => k = gb) ((Touch.refl _ w6).drew) (fun _ => rfl) _
      have hgb : S gb := (HB.out.vS gb rfl).1
      have O7 := Lib.hid (O.out.touch t7 (fun e => HNO.out w.heap.size (Nat.le_refl _) (by rw [e]; exact hgb)) (fun e => HNO.out (w.heap.size + 1) (by omega) (by rw [e]; exact hgb)) (fun e => HNO.out (w.heap.size + 1 + 1) (by omega) (by rw [e]; exact hgb)))
      have TT := Lib.hid (T.out.trans (Touch.of_below S ((Below.refl w6.heap.size w6).drew)) (fun _ _ h => h))
      clear t7 hgb x5 x3 d6 f6 gl blt O6 O HB RR T
      generalize (w6.drew.setCell ⟨gb, j * 7 + 6, none⟩ (.int .u64 (now + hold))) = w7 at *
      have x5 := B7.out.1.box.cell 5 _ rfl
      have gl := B7.out.1.box.lt
      have d0 := R7.out.cell j 0 _ _ (List.getElem?_set_self HLJ.out) rfl
      have d1 := R7.out.cell j 1 _ _ (List.getElem?_set_self HLJ.out) rfl
      have blt := R7.out.lt
      have z0 := O7.out.z.cell 0 _ rfl
      have z1' := O7.out.z.cell 1 _ rfl
      have zf0 := O7.out.z.free 0 _ rfl
      have zf1 := O7.out.z.free 1 _ rfl
      have zl := O7.out.z.lt
      simp only [Nat.add_zero, List.length_set] at d0 x5
      go_wp2_with fail
      refine bodyPost_ret (v := .tuple #[.agg #[.int .u32 u1, .int .u16 u2], .int .i64 0]) (by simp [results, Try.results45, go_sem, *]) rfl ?_
      unfold InPost
      rw [HQ2.out trivial]
      have t : Touch (fun k => k = w.heap.size + 1 + 1) w7 ((w7.setCell ⟨w.heap.size + 1 + 1, 0, none⟩ (.int .u32 u1)).setCell ⟨w.heap.size + 1 + 1, 1, none⟩ (.int .u16 u2)) := Touch.set (F := fun k => k = w.heap.size + 1 + 1) (Touch.set (F := fun k => k = w.heap.size + 1 + 1) (Touch.refl _ w7) (fun _ => rfl) _) (fun _ => rfl) _
      exact ⟨_, HSET.out, rfl, ⟨_, B7.out.1.touch t (fun k hk e => HNO.out k (by omega) hk)⟩, (TT.out.trans B7.out.2 (fun _ _ h => h)).trans t (fun k h1 h2 => by omega)⟩
end Go.Proofs.Ytdpgmdkclaahdaa.Nb