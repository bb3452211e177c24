/- The program's leases: mayAsk (a label that is fallen into and jumped back to; as tools/gen_may17.py wrote it). -/
import Derived.Test.YtdehpiaokjihjaaLsSweepE
import Derived.Test.YtdehpiaokjihjaaNearest
import Derived.Test.YtdehpiaokjihjaaMayMath
import Derived.Deep.AppendLies
import Derived.RegionTactic
namespace Go.Proofs.Ytdehpiaokjihjaa
open Go.Sort Go.RowKit Go.BigFrame
set_option linter.unusedVariables false
set_option linter.unusedSimpArgs false

/-- a scope whose label is fallen into and jumped back to: one body for all passes -/
theorem wp_scope_body {P : Program} {c rest : Code} {a : Act} {w : World} {Q : Exit → Act → World → Prop} (l : Nat) (J : Act → World → Prop) (μ : Act → World → Nat) (hf : findLabel c l = some (.seq .skip rest))
    (first : (∀ a w, J a w → rest.wp P (Exit.jump l J Q) a w) → c.wp P (Exit.jump l J Q) a w)
    (pass : ∀ a w, J a w → rest.wp P (Exit.jump l (fun a' w' => J a' w' ∧ μ a' w' < μ a w) Q) a w) : (Code.scope c).wp P Q a w := by
  refine wp_scope_jumps l J μ hf (first fun a w h => ?_) (fun a w h => wp_seq (wp_skip (pass a w h)))
  refine Code.wp_mono (fun e a1 w1 h => ?_) (pass a w h)
  cases e <;> first | exact ⟨h.1, h.2.1⟩ | exact h
theorem info_cx : (Try.prog.info? 50).map (fun i => (i.zero, i.size, i.bytes)) = some (some (.complex .f64 0 0), 1, 16) := by kernel_rfl
def metL (f : Nat → Bool) : List Value := (List.range 33).map fun i => .bool (f i)
theorem metL_at (f : Nat → Bool) {i : Nat} (hi : i < 33) : (metL f)[i]? = some (.bool (f i)) := by unfold metL; rw [List.getElem?_map, List.getElem?_range hi]; rfl
theorem metL_set (f : Nat → Bool) {i : Nat} (hi : i < 33) (b : Bool) : (metL f).set i (.bool b) = metL (upd f i b) := by
  unfold metL
  apply List.ext_getElem?
  intro j
  rw [List.getElem?_set]
  by_cases hj : i = j
  · subst hj
    rw [if_pos rfl, if_pos (by simpa using hi), List.getElem?_map, List.getElem?_range hi]
    simp [upd_same]
  · rw [if_neg hj, List.getElem?_map, List.getElem?_map]
    by_cases h2 : j < 33
    · rw [List.getElem?_range h2]; simp [upd_ne (fun e => hj e.symm)]
    · rw [List.getElem?_eq_none (by simpa using h2)]; rfl
/-- who may be asked, on its way: two rows that grow, and who was met -/
structure M2 (w0 : World) (mb : Nat) (mt : Nat → Bool) (sv : Value) (E : List Int) (pv : Value) (P : List (Nat × Nat)) (w : World) : Prop where
  who : ERow c64 1 3 w sv E
  wh : ERow cc 1 50 w pv P
  met : Bk mb 69 (metL mt) w
  ow : ∀ b, sv.ownBlock = some b → w0.heap.size ≤ b
  op : ∀ b, pv.ownBlock = some b → w0.heap.size ≤ b
  om : w0.heap.size ≤ mb
  bel : Below w0.heap.size w0 w
section
variable {w0 w w' : World} {mb : Nat} {mt : Nat → Bool} {sv pv : Value} {E : List Int} {P : List (Nat × Nat)}
theorem M2.keep (h : M2 w0 mb mt sv E pv P w) (hb : Below w.heap.size w w') : M2 w0 mb mt sv E pv P w' :=
  ⟨erow_keep h.who hb, erow_keep h.wh hb, h.met.keep hb, h.ow, h.op, h.om, h.bel.trans (hb.mono h.bel.size)⟩
theorem M2.ownA (h : M2 w0 mb mt sv E pv P w) : w.ownsRow 0 3 1 sv E.length (E.map c64).flatten := h.who
theorem M2.ownB (h : M2 w0 mb mt sv E pv P w) : w.ownsRow 0 50 1 pv P.length (P.map cc).flatten := h.wh
theorem M2.setM (h : M2 w0 mb mt sv E pv P w) {i : Nat} (hi : i < 33) : M2 w0 mb (upd mt i true) sv E pv P (w.setCell ⟨mb, i, none⟩ (.bool true)) := by
  have T := Touch.set (F := fun k => k = mb) (Touch.refl _ w) (a := ⟨mb, i, none⟩) (fun _ => rfl) (.bool true)
  refine ⟨erow_touch h.who T (fun b hb e => ?_), erow_touch h.wh T (fun b hb e => ?_), ?_, h.ow, h.op, h.om, h.bel.setCell h.om _⟩
  · have e' : b = mb := e
    subst e'; exact row_not h.who h.met.heap (by decide) hb
  · have e' : b = mb := e
    subst e'; exact row_not h.wh h.met.heap (by decide) hb
  · rw [← metL_set mt hi]; exact h.met.set i _
theorem M2.pushA (h : M2 w0 mb mt sv E pv P w) {g cap : Nat} {x : Int} (hown : w'.ownsRow 0 3 1 (.slice (some ⟨g, 0, none⟩) (E.length + 1) cap) (E.length + 1) ((E.map c64).flatten ++ c64 x)) (hg : w.grownBy w' sv.ownBlock) (hat : sv.ownBlock = some g ∨ g = w.heap.size) :
    M2 w0 mb mt (.slice (some ⟨g, 0, none⟩) (E.length + 1) cap) (E ++ [x]) pv P w' := by
  have T : Touch (fun b => sv.ownBlock = some b) w w' := Touch.of_grown hg (fun _ h => h)
  refine ⟨erow_snoc rfl hown, erow_touch h.wh T (fun b hb e => rows_apart h.who h.wh (by decide) e hb), h.met.touch T (fun e => row_not h.who h.met.heap (by decide) e), fun b hb => ?_, h.op, h.om, h.bel.grown hg h.bel.size h.ow⟩
  obtain rfl : g = b := by injection hb
  rcases hat with h1 | h1
  · exact h.ow _ h1
  · rw [h1]; exact h.bel.size
theorem M2.pushB (h : M2 w0 mb mt sv E pv P w) {g cap : Nat} {x : Nat × Nat} (hown : w'.ownsRow 0 50 1 (.slice (some ⟨g, 0, none⟩) (P.length + 1) cap) (P.length + 1) ((P.map cc).flatten ++ cc x)) (hg : w.grownBy w' pv.ownBlock) (hat : pv.ownBlock = some g ∨ g = w.heap.size) :
    M2 w0 mb mt sv E (.slice (some ⟨g, 0, none⟩) (P.length + 1) cap) (P ++ [x]) w' := by
  have T : Touch (fun b => pv.ownBlock = some b) w w' := Touch.of_grown hg (fun _ h => h)
  refine ⟨erow_touch h.who T (fun b hb e => rows_apart h.who h.wh (by decide) hb e), erow_snoc rfl hown, h.met.touch T (fun e => row_not h.wh h.met.heap (by decide) e), h.ow, fun b hb => ?_, h.om, h.bel.grown hg h.bel.size h.op⟩
  obtain rfl : g = b := by injection hb
  rcases hat with h1 | h1
  · exact h.op _ h1
  · rw [h1]; exact h.bel.size
/-- a box that was made since is as it was behind an append -/
theorem M2.pendA {W : World} {b : Nat} {vs : List Value} (h : M2 w0 mb mt sv E pv P w) (hc : Cs b vs W) (hb : w.heap.size ≤ b) (hg : W.grownBy w' sv.ownBlock) : Cs b vs w' :=
  hc.touch (Touch.of_grown hg (F := fun b => sv.ownBlock = some b) (fun _ h => h)) (fun e => by have := erow_lt h.who e; omega)
theorem M2.pendB {W : World} {b : Nat} {vs : List Value} (h : M2 w0 mb mt sv E pv P w) (hc : Cs b vs W) (hb : w.heap.size ≤ b) (hg : W.grownBy w' pv.ownBlock) : Cs b vs w' :=
  hc.touch (Touch.of_grown hg (F := fun b => pv.ownBlock = some b) (fun _ h => h)) (fun e => by have := erow_lt h.wh e; omega)
end
theorem cs_new2 (w : World) (o : Obj) (vs : List Value) (T : TypeId) : Cs (w.heap.size + 1) vs ((w.alloc o).alloc (.cells vs.toArray T)) := by
  have := Cs.new (w.alloc o) vs T
  simpa using this
def MayJ (g : Nat) (now : Int) (ia : Option Addr) (ic : Nat) (pa : Option Addr) (pc n : Nat) (k : Ls) (X : List (Int × (Nat × Nat))) (w : World) (mb : Nat) (a' : Act) (w' : World) : Prop :=
  ∃ (j : Nat) (q : Int) (sv pv : Value), q = (j : Int) - 1 ∧ j ≤ n ∧ M2 w mb (mayS k now X j).met sv (mayS k now X j).who pv (mayS k now X j).wh w' ∧ a'.defers = [] ∧ (∃ u4 u5 u6 u7 u8 u9 u14 u15 u16 u17 u18 u19 u20 u21 u22 u23 u24 u25 u26 u27 u28 u29 u30 u31 u32 u33 u34 u35 u36 u37 u38 u39 u40 u41 u42 u43 u44 u45 u46 u47 u48 u49 u50 u51 u52 u53 u54 u55 u56 u57 u58 u59 u60 u61 u62 u63 u64 u65 u66, a'.tmps = #[.pointer (some ⟨g, 0, none⟩), .int .u64 now, .slice ia n ic, .slice pa n pc, u4, u5, u6, u7, u8, u9, sv, pv, .pointer (some ⟨mb, 0, none⟩), .int .i64 q, u14, u15, u16, u17, u18, u19, u20, u21, u22, u23, u24, u25, u26, u27, u28, u29, u30, u31, u32, u33, u34, u35, u36, u37, u38, u39, u40, u41, u42, u43, u44, u45, u46, u47, u48, u49, u50, u51, u52, u53, u54, u55, u56, u57, u58, u59, u60, u61, u62, u63, u64, u65, u66])
def MayPost (k : Ls) (now : Int) (X : List (Int × (Nat × Nat))) (w : World) (e : Ending) (w' : World) : Prop :=
  ∃ u v : Sl, e = .returned (.tuple #[.slice u.a u.n u.c, .slice v.a v.n v.c]) ∧ NewE c64 1 3 (mayA k now X).who w u w' ∧ NewE cc 1 50 (mayA k now X).wh w v w' ∧ Below w.heap.size w w'
set_option maxHeartbeats 12800000 in
set_option maxRecDepth 100000 in
theorem mayask_any (now : Int) (ids : List Int) (ps : List (Nat × Nat)) (hlen : ids.length = ps.length) (hl : ids.length ≤ 1000) (ia : Option Addr) (ic : Nat) (pa : Option Addr) (pc : Nat) (g : Nat) (k : Ls) (w : World) (h : Es g k w) (hi : RdE c64 1 w ia ids) (hp : RdE cc 1 w pa ps) :
    Calls Try.prog 23 #[.pointer (some ⟨g, 0, none⟩), .int .u64 now, .slice ia ids.length ic, .slice pa ids.length pc] w (MayPost k now (ids.zip ps) w) := by
  obtain ⟨i0, hi0, hz0, hz1, hz2⟩ := info_parts info_int
  obtain ⟨i1, hi1, hy0, hy1, hy2⟩ := info_parts info_cx
  have H := Lib.hid h
  have HI := Lib.hid hi
  have HP := Lib.hid hp
  obtain ⟨n, hn⟩ : ∃ n, ids.length = n := ⟨_, rfl⟩
  obtain ⟨X, hX⟩ : ∃ X, ids.zip ps = X := ⟨_, rfl⟩
  have HXL : Hid (X.length = n) := by show _ = _; rw [← hX, List.length_zip, ← hlen, hn]; exact Nat.min_self n
  have HAT : Hid (∀ j, j < n → ∃ id ux uy, X[j]? = some (id, (ux, uy)) ∧ ids[j]? = some id ∧ ps[j]? = some (ux, uy)) := fun j hj => by
    have e1 : ids[j]? = some ids[j] := List.getElem?_eq_getElem (by omega)
    have e2 : ps[j]? = some ps[j] := List.getElem?_eq_getElem (by omega)
    refine ⟨ids[j], ps[j].1, ps[j].2, ?_, e1, e2⟩
    rw [← hX, List.getElem?_zip_eq_some]; exact ⟨e1, e2⟩
  have HIN : Hid (0 < n → 0 < ids.length ∧ 0 < ps.length) := fun h => ⟨by omega, by omega⟩
  have hn0 : (0 : Int) ≤ n := by omega
  have hn1 : (n : Int) ≤ 1000 := by omega
  rw [hn, hX]
  have M0 : Hid (M2 w w.heap.size (mayS k now X 0).met (.slice none 0 0) (mayS k now X 0).who (.slice none 0 0) (mayS k now X 0).wh (w.alloc (.cells (metL fun _ => false).toArray 69))) :=
    ⟨erow_nil, erow_nil, Bk.new _ _ _, fun b hb => by simp [Value.ownBlock] at hb, fun b hb => by simp [Value.ownBlock] at hb, Nat.le_refl _, (Below.refl _ w).alloc (Nat.le_refl _) _⟩
  have HQ : (metL fun _ => false).toArray = #[.bool false, .bool false, .bool false, .bool false, .bool false, .bool false, .bool false, .bool false, .bool false, .bool false, .bool false, .bool false, .bool false, .bool false, .bool false, .bool false, .bool false, .bool false, .bool false, .bool false, .bool false, .bool false, .bool false, .bool false, .bool false, .bool false, .bool false, .bool false, .bool false, .bool false, .bool false, .bool false, .bool false] := by rfl
  rw [HQ] at M0
  clear h hi hp hX HQ hlen hl hn
  go_enter Try.func23, Try.ntmps23
  go_wp2
  obtain ⟨mb, hmb⟩ : ∃ b, b = w.heap.size := ⟨_, rfl⟩
  rw [← hmb] at M0
  refine wp_scope_body 0 (MayJ g now ia ic pa pc n k X w mb) (fun a' _ => ((n : Int) - intOf (a'.tmps.getD 13 undef)).toNat) rfl ?_ ?_
  · intro hgo
    go_wp2_with fail
    go_step3
    simp only [Exit.then]
    go_step
    refine hgo _ _ ?_
    subst hmb
    exact ⟨0, -1, _, _, by omega, Nat.zero_le _, M0.out, rfl, ⟨_, _, _, _, _, _, _, _, _, _, _, _, _, _, _, _, _, _, _, _, _, _, _, _, _, _, _, _, _, _, _, _, _, _, _, _, _, _, _, _, _, _, _, _, _, _, _, _, _, _, _, _, _, _, _, _, _, _, _, rfl⟩⟩
  clear hmb
  rintro ⟨t1, dd1⟩ wr ⟨j, q, sv, pv, hq, hj, hM, hd, ⟨u4, u5, u6, u7, u8, u9, u14, u15, u16, u17, u18, u19, u20, u21, u22, u23, u24, u25, u26, u27, u28, u29, u30, u31, u32, u33, u34, u35, u36, u37, u38, u39, u40, u41, u42, u43, u44, u45, u46, u47, u48, u49, u50, u51, u52, u53, u54, u55, u56, u57, u58, u59, u60, u61, u62, u63, u64, u65, u66, ht⟩⟩
  obtain rfl : dd1 = [] := hd
  obtain rfl : t1 = _ := ht
  subst hq
  have HM := Lib.hid hM
  clear hM M0
  have hj0 : (0 : Int) ≤ j := by omega
  have hj1 : (j : Int) ≤ n := by omega
  have p1 : (j : Int) - 1 + 1 = j := by omega
  have p2 := IntWalk.i64_in (j : Int) ⟨by omega, by omega⟩
  have glr := (H.out.keep HM.out.bel).lt
  by_cases hlt : j < n
  · have hlt2 : (j : Int) < n := by omega
    have hlt3 : ¬ (n : Int) ≤ j := by omega
    obtain ⟨id, ux, uy, hx, hxi, hxp⟩ := HAT.out j hlt
    have HSU := Lib.hid (mayS_succ k now hx)
    have HJL := (mayS_len k now X j).1
    have HJP : (mayS k now X j).wh.length ≤ j := by rw [← (mayS_len k now X j).2]; exact HJL
    have hnn := HIN.out (by omega)
    obtain ⟨bi, oi, hbi, hbl, hci⟩ := HI.out hnn.1
    obtain ⟨bp, op, hbp, hbq, hcp⟩ := HP.out hnn.2
    subst hbi hbp
    have ci := hci j _ hxi 0 _ rfl
    have cp := hcp j _ hxp 0 _ rfl
    simp only [Nat.mul_one, Nat.add_zero] at ci cp
    have CI : Hid (∀ w', Below w.heap.size w w' → w'.cell? ⟨bi, oi + j, none⟩ = some (.int .i64 id) ∧ bi < w'.heap.size) := fun w' hb => ⟨(hb.cell (p := ⟨bi, oi + j, none⟩) hbl).trans ci, Nat.lt_of_lt_of_le hbl hb.size⟩
    have CP : Hid (∀ w', Below w.heap.size w w' → w'.cell? ⟨bp, op + j, none⟩ = some (.complex .f64 ux uy) ∧ bp < w'.heap.size) := fun w' hb => ⟨(hb.cell (p := ⟨bp, op + j, none⟩) hbq).trans cp, Nat.lt_of_lt_of_le hbq hb.size⟩
    have HJ1 : Hid (j + 1 ≤ n) := hlt
    clear hci hcp ci cp hbl hbq hx hxi hxp hnn HI HP HAT HIN HXL
    obtain ⟨c1, l1⟩ := CI.out _ HM.out.bel
    have KN := node_any id
    unfold stepM at HSU
    unfold skipB at HSU
    simp only at HSU
    cases hv : nodeI id with
    | false =>
      rw [hv] at KN HSU
      have M1 : Hid (M2 w mb (mayS k now X (j + 1)).met sv (mayS k now X (j + 1)).who pv (mayS k now X (j + 1)).wh wr) := by
        rw [HSU.out]; exact HM.out
      clear HSU hv
      go_wp2_with fail
      refine (KN _).mono ?_; rintro e w2 ⟨rfl, rfl⟩
      clear KN
      go_wp2
      go_step3
      go_wp2
      refine ⟨rfl, ⟨j + 1, j, sv, pv, by omega, HJ1.out, M1.out, rfl, ⟨_, _, _, _, _, _, _, _, _, _, _, _, _, _, _, _, _, _, _, _, _, _, _, _, _, _, _, _, _, _, _, _, _, _, _, _, _, _, _, _, _, _, _, _, _, _, _, _, _, _, _, _, _, _, _, _, _, _, _, rfl⟩⟩, ?_⟩
      simp [intOf]; omega
    | true =>
      rw [hv] at KN HSU
      have hb := nodeI_iff.1 hv
      obtain ⟨m, rfl⟩ : ∃ m : Nat, id = m := ⟨id.toNat, by omega⟩
      have hm0 : (0 : Int) ≤ m := by omega
      have hm1 : (m : Int) < 33 := by omega
      have hm2 : m < 33 := by omega
      simp only [Int.toNat_natCast, Bool.not_true, Bool.false_or] at HSU
      have cm := HM.out.met.at_ (metL_at _ hm2)
      have cl := HM.out.met.lt
      have cf := fun o => HM.out.met.free o
      clear hv hb
      generalize hmt : (mayS k now X j).met m = mt at *
      cases mt with
      | true =>
        have M1 : Hid (M2 w mb (mayS k now X (j + 1)).met sv (mayS k now X (j + 1)).who pv (mayS k now X (j + 1)).wh wr) := by
          rw [HSU.out]; exact HM.out
        clear HSU hmt
        go_wp2_with fail
        refine (KN _).mono ?_; rintro e w2 ⟨rfl, rfl⟩
        clear KN
        go_wp2
        go_step3
        go_wp2
        refine ⟨rfl, ⟨j + 1, j, sv, pv, by omega, HJ1.out, M1.out, rfl, ⟨_, _, _, _, _, _, _, _, _, _, _, _, _, _, _, _, _, _, _, _, _, _, _, _, _, _, _, _, _, _, _, _, _, _, _, _, _, _, _, _, _, _, _, _, _, _, _, _, _, _, _, _, _, _, _, _, _, _, _, rfl⟩⟩, ?_⟩
        simp [intOf]; omega
      | false =>
        have MS := Lib.hid (HM.out.setM hm2)
        have r0 := (H.out.keep MS.out.bel).rl m hm2 0 _ rfl
        have r1 := (H.out.keep MS.out.bel).rl m hm2 1 _ rfl
        have r2 := (H.out.keep MS.out.bel).rl m hm2 2 _ rfl
        have hn2 := (H.out.keep MS.out.bel).hd 1 _ rfl
        have hrk := H.out.ok.rl m
        have hw0 := H.out.ok.t0
        have hw1 := H.out.ok.t1
        have KH := held_any (k.rl m) now
        have KL := left_any (k.rl m) hrk k.wait now (by omega) hw1
        have HLV : Hid (leaveB k now (m : Int) = (heldB (k.rl m) now || leftB (k.rl m) k.wait now)) := by show _ = _; unfold leaveB; rw [Int.toNat_natCast]
        have glm := (H.out.keep MS.out.bel).lt
        have gne : g ≠ mb := by have := H.out.lt; have := HM.out.om; omega
        clear hmt hrk
        generalize heldB (k.rl m) now = hq at *
        generalize leftB (k.rl m) k.wait now = lq at *
        generalize k.rl m = x at *
        obtain ⟨x1, x2, x3⟩ := x
        simp only [Nat.add_zero] at r0 r1 r2 KH KL
        go_wp2_with fail
        refine (KN _).mono ?_; rintro e w2 ⟨rfl, rfl⟩
        clear KN
        go_upto_region 11 with fail
        clear c1 cl cm
        generalize (wr.setCell ⟨mb, m, none⟩ (.bool true)) = w3 at *
        have X2 : Hid (Cs w3.heap.size [.bool x1, .int .u64 x2, .int .u64 x3] (w3.alloc (.cells #[.bool x1, .int .u64 x2, .int .u64 x3] 60))) := Cs.new w3 _ _
        have M3 := Lib.hid (MS.out.keep ((Below.refl w3.heap.size w3).alloc (Nat.le_refl _) (.cells #[.bool x1, .int .u64 x2, .int .u64 x3] 60)))
        go_upto_region 12 with fail
        generalize (w3.alloc (.cells #[.bool x1, .int .u64 x2, .int .u64 x3] 60)) = w4 at *
        have hn4 := (H.out.keep M3.out.bel).hd 1 _ rfl
        generalize w3.heap.size = xb at X2 ⊢
        clear r0 r1 r2 hn2 MS cf
        have k0 := cell_regrown (X2.out.cell 0 _ rfl)
        have k1 := cell_regrown (X2.out.cell 1 _ rfl)
        have k2 := cell_regrown (X2.out.cell 2 _ rfl)
        have kh := cell_regrown hn4
        have CH := fun d os => Calls.regrown_of (KH (grow (redrawn w4 d) os))
        have CL := fun d os => Calls.regrown_of (KL (grow (redrawn w4 d) os))
        clear KH KL
        cases hq with
        | true =>
          rw [Bool.true_or] at HLV
          rw [HLV.out] at HSU
          clear CL
          (refine wp_region_quiet_below (by kernel_rfl) (by kernel_rfl) ?_; (repeat (go_big_quiet_step (first | with_reducible exact CH _ _))); refine wpQuiet_nil ?_; intro _ hw'; obtain ⟨⟨dq, osq⟩, hw''⟩ := hw'; subst hw'')
          have M5 := Lib.hid (M3.out.keep (below_regrown w4 dq osq))
          generalize grow (redrawn w4 dq) osq = w5 at *
          have M6 : Hid (M2 w mb (mayS k now X (j + 1)).met sv (mayS k now X (j + 1)).who pv (mayS k now X (j + 1)).wh w5) := by
            rw [HSU.out]; exact M5.out
          clear HSU CH k0 k1 k2 kh M3 M5 HLV
          go_wp2
          go_step3
          go_wp2
          refine ⟨rfl, ⟨j + 1, j, sv, pv, by omega, HJ1.out, M6.out, rfl, ⟨_, _, _, _, _, _, _, _, _, _, _, _, _, _, _, _, _, _, _, _, _, _, _, _, _, _, _, _, _, _, _, _, _, _, _, _, _, _, _, _, _, _, _, _, _, _, _, _, _, _, _, _, _, _, _, _, _, _, _, rfl⟩⟩, ?_⟩
          simp [intOf]; omega
        | false =>
          rw [Bool.false_or] at HLV
          cases lq with
          | true =>
            rw [HLV.out] at HSU
            (refine wp_region_quiet_below (by kernel_rfl) (by kernel_rfl) ?_; (repeat (go_big_quiet_step (first | with_reducible exact CH _ _ | with_reducible exact CL _ _))); refine wpQuiet_nil ?_; intro _ hw'; obtain ⟨⟨dq, osq⟩, hw''⟩ := hw'; subst hw'')
            have M5 := Lib.hid (M3.out.keep (below_regrown w4 dq osq))
            generalize grow (redrawn w4 dq) osq = w5 at *
            have M6 : Hid (M2 w mb (mayS k now X (j + 1)).met sv (mayS k now X (j + 1)).who pv (mayS k now X (j + 1)).wh w5) := by
              rw [HSU.out]; exact M5.out
            clear HSU CH CL k0 k1 k2 kh M3 M5 HLV
            go_wp2
            go_step3
            go_wp2
            refine ⟨rfl, ⟨j + 1, j, sv, pv, by omega, HJ1.out, M6.out, rfl, ⟨_, _, _, _, _, _, _, _, _, _, _, _, _, _, _, _, _, _, _, _, _, _, _, _, _, _, _, _, _, _, _, _, _, _, _, _, _, _, _, _, _, _, _, _, _, _, _, _, _, _, _, _, _, _, _, _, _, _, _, rfl⟩⟩, ?_⟩
            simp [intOf]; omega
          | false =>
            rw [HLV.out] at HSU
            (refine wp_region_quiet_below (by kernel_rfl) (by kernel_rfl) ?_; (repeat (go_big_quiet_step (first | with_reducible exact CH _ _ | with_reducible exact CL _ _))); refine wpQuiet_nil ?_; intro _ hw'; obtain ⟨⟨dq, osq⟩, hw''⟩ := hw'; subst hw'')
            have M5 := Lib.hid (M3.out.keep (below_regrown w4 dq osq))
            generalize grow (redrawn w4 dq) osq = w5 at *
            clear CH CL k0 k1 k2 kh M3 HLV
            have FIN : Hid (∀ w9 sv' pv', M2 w mb (upd (mayS k now X j).met m true) sv' ((mayS k now X j).who ++ [(m : Int)]) pv' ((mayS k now X j).wh ++ [(ux, uy)]) w9 → M2 w mb (mayS k now X (j + 1)).met sv' (mayS k now X (j + 1)).who pv' (mayS k now X (j + 1)).wh w9) := fun w9 sv' pv' hm => by rw [HSU.out]; exact hm
            clear HSU
            go_upto_region 13 with fail
            have SA := Lib.hid M5.out
            obtain ⟨c2, l2⟩ := CP.out _ M5.out.bel
            clear M5 X2
            go_region_law (first
              | (refine step_append_lies _ (by rfl) (.tmp 56) (.tmp 58) 35 (by rfl) 0 3 i0 _ 1 8 Try.underlying35 hi0 hz0 hz1 hz2 rfl (by omega) sv (mayS k now X j).who.length ((mayS k now X j).who.map c64).flatten (by rfl) (SA.out.keep (by repeat (first | with_reducible exact Below.refl _ _ | with_reducible refine Below.drew ?_ | with_reducible refine Below.alloc ?_ (by first | omega | (simp; done) | (simp; omega)) _))).ownA ⟨_, 0, none⟩ 1 1 (c64 (m : Int)) (by rfl) (by rfl) (fun jj uu hu => by rw [add_at, Nat.zero_add]; first | exact PA.out.cell jj uu hu | exact (Cs.new _ _ _).cell jj uu hu | exact (Cs.new _ _ _).drew.cell jj uu hu | exact ((Cs.new _ _ _).alloc _).cell jj uu hu | exact ((Cs.new _ _ _).alloc _).drew.cell jj uu hu | exact (cs_new2 _ _ _ _).cell jj uu hu | exact (cs_new2 _ _ _ _).drew.cell jj uu hu) (c64_enc.one _) (by omega) (by unfold maxLen; omega) (by omega) (Nat.zero_le _) _ rfl ?_; intro g1 cap1 w9 hown hgrow hat hlt9; (first | (have PB : Hid (Cs _ [.complex .f64 ux uy] w9) := M2.pendA SA.out ((Cs.new _ [.complex .f64 ux uy] _).alloc _) (Nat.le_refl _) hgrow) | (have PB : Hid (Cs _ [.complex .f64 ux uy] w9) := M2.pendA SA.out ((Cs.new _ [.complex .f64 ux uy] _).alloc _).drew (Nat.le_refl _) hgrow) | (have PB : Hid (Cs _ [.complex .f64 ux uy] w9) := M2.pendA SA.out (cs_new2 _ _ [.complex .f64 ux uy] _) (Nat.le_succ _) hgrow) | (have PB : Hid (Cs _ [.complex .f64 ux uy] w9) := M2.pendA SA.out (cs_new2 _ _ [.complex .f64 ux uy] _).drew (Nat.le_succ _) hgrow) | skip); have SA := Lib.hid (M2.pushA (SA.out.keep (by repeat (first | with_reducible exact Below.refl _ _ | with_reducible refine Below.drew ?_ | with_reducible refine Below.alloc ?_ (by first | omega | (simp; done) | (simp; omega)) _))) hown hgrow hat); obtain ⟨c2, l2⟩ := CP.out _ SA.out.bel; clear hown hgrow hat)
              | (refine step_append_lies _ (by rfl) (.tmp 60) (.tmp 65) 49 (by rfl) 0 50 i1 _ 1 16 Try.underlying49 hi1 hy0 hy1 hy2 rfl (by omega) pv (mayS k now X j).wh.length ((mayS k now X j).wh.map cc).flatten (by rfl) (SA.out.keep (by repeat (first | with_reducible exact Below.refl _ _ | with_reducible refine Below.drew ?_ | with_reducible refine Below.alloc ?_ (by first | omega | (simp; done) | (simp; omega)) _))).ownB ⟨_, 0, none⟩ 1 1 (cc (ux, uy)) (by rfl) (by rfl) (fun jj uu hu => by rw [add_at, Nat.zero_add]; first | exact PB.out.cell jj uu hu | exact (Cs.new _ _ _).cell jj uu hu | exact (Cs.new _ _ _).drew.cell jj uu hu | exact ((Cs.new _ _ _).alloc _).cell jj uu hu | exact ((Cs.new _ _ _).alloc _).drew.cell jj uu hu | exact (cs_new2 _ _ _ _).cell jj uu hu | exact (cs_new2 _ _ _ _).drew.cell jj uu hu) (cc_enc.one _) (by omega) (by unfold maxLen; omega) (by omega) (Nat.zero_le _) _ rfl ?_; intro g1 cap1 w9 hown hgrow hat hlt9; (first | (have PA : Hid (Cs _ [.int .i64 (m : Int)] w9) := M2.pendB SA.out ((Cs.new _ [.int .i64 (m : Int)] _).alloc _) (Nat.le_refl _) hgrow) | (have PA : Hid (Cs _ [.int .i64 (m : Int)] w9) := M2.pendB SA.out ((Cs.new _ [.int .i64 (m : Int)] _).alloc _).drew (Nat.le_refl _) hgrow) | (have PA : Hid (Cs _ [.int .i64 (m : Int)] w9) := M2.pendB SA.out (cs_new2 _ _ [.int .i64 (m : Int)] _) (Nat.le_succ _) hgrow) | (have PA : Hid (Cs _ [.int .i64 (m : Int)] w9) := M2.pendB SA.out (cs_new2 _ _ [.int .i64 (m : Int)] _).drew (Nat.le_succ _) hgrow) | skip); have SA := Lib.hid (M2.pushB (SA.out.keep (by repeat (first | with_reducible exact Below.refl _ _ | with_reducible refine Below.drew ?_ | with_reducible refine Below.alloc ?_ (by first | omega | (simp; done) | (simp; omega)) _))) hown hgrow hat); obtain ⟨c2, l2⟩ := CP.out _ SA.out.bel; clear hown hgrow hat))
            all_goals go_wp2
            all_goals go_step3
            all_goals go_wp2
            all_goals first
              | refine ⟨rfl, ⟨j + 1, j, _, _, by omega, HJ1.out, FIN.out _ _ _ SA.out, rfl, ⟨_, _, _, _, _, _, _, _, _, _, _, _, _, _, _, _, _, _, _, _, _, _, _, _, _, _, _, _, _, _, _, _, _, _, _, _, _, _, _, _, _, _, _, _, _, _, _, _, _, _, _, _, _, _, _, _, _, _, _, rfl⟩⟩, ?_⟩
              | refine ⟨rfl, ⟨j + 1, j, _, _, by omega, HJ1.out, FIN.out _ _ _ (SA.out.keep (Below.refl _ _).drew), rfl, ⟨_, _, _, _, _, _, _, _, _, _, _, _, _, _, _, _, _, _, _, _, _, _, _, _, _, _, _, _, _, _, _, _, _, _, _, _, _, _, _, _, _, _, _, _, _, _, _, _, _, _, _, _, _, _, _, _, _, _, _, rfl⟩⟩, ?_⟩
            all_goals (simp [intOf]; omega)
  · obtain rfl : n = j := by omega
    have hge : (n : Int) ≤ n := Int.le_refl _
    obtain ⟨a1, cap1, hs1⟩ := erow_sl HM.out.who
    obtain ⟨a2, cap2, hs2⟩ := erow_sl HM.out.wh
    have F : Hid (NewE c64 1 3 (mayA k now X).who w ⟨a1, (mayS k now X n).who.length, cap1⟩ wr ∧ NewE cc 1 50 (mayA k now X).wh w ⟨a2, (mayS k now X n).wh.length, cap2⟩ wr) := by
      have hx := HXL.out
      unfold mayA
      rw [hx]
      have h1 := HM.out.who
      have h2 := HM.out.wh
      have h3 := HM.out.ow
      have h4 := HM.out.op
      rw [hs1] at h1 h3
      rw [hs2] at h2 h4
      exact ⟨⟨h1, rfl, h3⟩, ⟨h2, rfl, h4⟩⟩
    have HB := Lib.hid HM.out.bel
    subst hs1 hs2
    generalize (mayS k now X n).who.length = n1 at *
    generalize (mayS k now X n).wh.length = n2 at *
    clear HM HI HP HAT HIN glr H
    go_wp2
    refine bodyPost_ret (v := (.tuple #[.slice a1 n1 cap1, .slice a2 n2 cap2])) (by simp [results, Try.results23, go_sem, *]) rfl ?_
    exact ⟨⟨a1, n1, cap1⟩, ⟨a2, n2, cap2⟩, rfl, F.out.1, F.out.2, HB.out⟩
end Go.Proofs.Ytdehpiaokjihjaa
