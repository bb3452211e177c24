/- The reference's view: Take at a record of one that is known. (Written by wip/tools/gen_rold11.py.) -/
import Derived.Test.YtchhbhoikkdmeaaViRefTake
namespace Go.Proofs.Ytchhbhoikkdmeaa
open Go.Sort Go.RowKit Go.BigFrame
set_option linter.unusedVariables false
set_option linter.unusedSimpArgs false

set_option maxHeartbeats 6400000 in
set_option maxRecDepth 100000 in
theorem rtake_less (r : Rec) (hr : r.Ok) (hR : r.right = true) (g : Nat) (vl ve : Sl) (v : Vw) (w : World) (h : Rs g vl ve v w) (hk : knows v r.id = true) (hl : v.E.length < 1000000) (hov : overR r (v.k r.id.toNat) = false) :
    Calls Try.prog 13 #[.pointer (some ⟨g, 0, none⟩), .agg #[.int .i64 r.id, .int .i64 r.st, .int .u32 r.n, .int .u32 r.ip, .int .u16 r.port]] w (RTakePost g vl ve v r w) := by
  have hB : Hid (Below w.heap.size w (w.alloc (.cells #[.int .i64 r.id, .int .i64 r.st, .int .u32 r.n, .int .u32 r.ip, .int .u16 r.port] 48))) := (Below.refl _ w).alloc (Nat.le_refl _) _
  have X : Hid (Cs w.heap.size [.int .i64 r.id, .int .i64 r.st, .int .u32 r.n, .int .u32 r.ip, .int .u16 r.port] (w.alloc (.cells #[.int .i64 r.id, .int .i64 r.st, .int .u32 r.n, .int .u32 r.ip, .int .u16 r.port] 48))) := Cs.new w (rcs r) 48
  have K1 : ∀ w, Calls Try.prog 32 #[.agg #[.int .i64 r.id, .int .i64 r.st, .int .u32 r.n, .int .u32 r.ip, .int .u16 r.port]] w fun e w' => e = .returned (.bool true) ∧ Below w.heap.size w w' := fun w => by
    rw [← hR]; exact rright_any r.id r.st r.n r.ip r.port hr.ip hr.port w
  have K2 := Lib.hid (fun w1 h1 => rfind_any r.id g vl ve v w1 h1)
  unfold FindPost at K2
  rw [hk] at K2
  have KV : ∀ w, Calls Try.prog 34 #[.agg #[.int .i64 r.id, .int .i64 r.st, .int .u32 r.n, .int .u32 r.ip, .int .u16 r.port], .agg #[.int .i64 (v.k r.id.toNat).id, .int .i64 (v.k r.id.toNat).st, .int .u32 (v.k r.id.toNat).n, .int .u32 (v.k r.id.toNat).ip, .int .u16 (v.k r.id.toNat).port]] w fun e w' => e = .returned (.bool false) ∧ Below w.heap.size w w' := fun w => by
    rw [← hov]; exact rover_rec r (v.k r.id.toNat) hr (h.ok.ok _) w
  have hto := turns_old hR hk
  rw [hov] at hto
  unfold RTakePost
  obtain ⟨hpx, hpid⟩ := pos_knows h.ok hk
  rw [hto, err_ok hR]
  rw [take_no hto]
  have hpl := (List.getElem?_eq_some_iff.1 hpx).1
  have hml := members_len v
  have hln := h.ln
  have hen := h.en
  have HH := Lib.hid h
  have hrow := h.row
  clear hto hk hR hpid hr hov
  obtain ⟨av, n9, cv⟩ := vl
  obtain ⟨ae, e9, ce9⟩ := ve
  simp only at hln hen
  subst hln hen
  obtain ⟨gv, rfl⟩ : ∃ gv, av = some ⟨gv, 0, none⟩ := by
    rcases erow_form hrow with ⟨_, h2⟩ | ⟨gv, _, h1, _⟩
    · rw [h2] at hpl; simp at hpl
    · simp [Sl.v] at h1; exact ⟨gv, h1.1⟩
  have CR : Hid (∀ w1, Rs g ⟨some ⟨gv, 0, none⟩, (membersV v).length, cv⟩ ⟨ae, v.E.length, ce9⟩ v w1 → gv < w1.heap.size ∧ ∀ k u, (rcs (v.k r.id.toNat))[k]? = some u → w1.cell? ⟨gv, posR (membersV v) r.id * 5 + k, none⟩ = some u) := fun w1 h1 => by
    obtain ⟨b, off, hab, hbl, hcc⟩ := h1.rd (by omega)
    simp only [Option.some.injEq, Addr.mk.injEq, and_true] at hab
    obtain ⟨rfl, rfl⟩ := hab
    exact ⟨hbl, fun k u hu => by have := hcc _ _ hpx k u hu; rw [Nat.zero_add] at this; exact this⟩
  have HPL := Lib.hid hpl
  clear hpx hrow h
  generalize posR (membersV v) r.id = p at *
  generalize v.k r.id.toNat = o at *
  generalize hml2 : (membersV v).length = ml at *
  have hp0 : (0 : Int) ≤ p := by omega
  have hp1 : (p : Int) < ml := by omega
  have hE2 : (v.E.length : Int) < 1000000 := by omega
  go_enter Try.func13, Try.ntmps13
  go_wp2_with fail
  refine (K1 _).mono ?_; rintro e w1 ⟨rfl, b1⟩
  replace hB := Lib.hid (hB.out.trans (b1.mono hB.out.size)); replace X := Lib.hid (X.out.keep b1); clear b1 K1
  have c0 := X.out.cell 0 _ rfl; have xl := X.out.lt
  have KF := K2.out w1 (HH.out.keep hB.out)
  go_wp2_with fail
  refine KF.mono ?_; rintro e w2 ⟨rfl, b2⟩
  clear c0 xl KF K2
  replace hB := Lib.hid (hB.out.trans (b2.mono hB.out.size)); replace X := Lib.hid (X.out.keep b2); clear b2
  have H2 := Lib.hid (HH.out.keep hB.out)
  have g0 := H2.out.box.cell 0 _ rfl
  have gl := H2.out.box.lt
  have xl := X.out.lt
  have m0 := (CR.out w2 H2.out).2 0 _ rfl; have m1 := (CR.out w2 H2.out).2 1 _ rfl; have m2 := (CR.out w2 H2.out).2 2 _ rfl; have m3 := (CR.out w2 H2.out).2 3 _ rfl; have m4 := (CR.out w2 H2.out).2 4 _ rfl
  have ml9 := (CR.out w2 H2.out).1
  simp only [Nat.add_zero] at m0
  go_upto_region 13 with fail
  replace hB : Hid (Below w.heap.size w (w2.alloc (.cells #[.int .i64 o.id, .int .i64 o.st, .int .u32 o.n, .int .u32 o.ip, .int .u16 o.port] 48))) := hB.out.alloc hB.out.size _
  replace X : Hid (Cs w.heap.size [.int .i64 r.id, .int .i64 r.st, .int .u32 r.n, .int .u32 r.ip, .int .u16 r.port] (w2.alloc (.cells #[.int .i64 o.id, .int .i64 o.st, .int .u32 o.n, .int .u32 o.ip, .int .u16 o.port] 48))) := X.out.alloc _
  have Y : Hid (Cs w2.heap.size [.int .i64 o.id, .int .i64 o.st, .int .u32 o.n, .int .u32 o.ip, .int .u16 o.port] (w2.alloc (.cells #[.int .i64 o.id, .int .i64 o.st, .int .u32 o.n, .int .u32 o.ip, .int .u16 o.port] 48))) := Cs.new w2 (rcs o) 48
  have hxy : w.heap.size < w2.heap.size := by omega
  have hyg : w2.heap.size ≠ g := by omega
  have hyv : w2.heap.size ≠ gv := by omega
  generalize (w2.alloc (.cells #[.int .i64 o.id, .int .i64 o.st, .int .u32 o.n, .int .u32 o.ip, .int .u16 o.port] 48)) = wb at *
  generalize w2.heap.size = yb at *
  clear g0 gl xl m0 m1 m2 m3 m4 ml9 H2
  have c0 := X.out.cell 0 _ rfl; have c1 := X.out.cell 1 _ rfl; have c2 := X.out.cell 2 _ rfl; have c3 := X.out.cell 3 _ rfl; have c4 := X.out.cell 4 _ rfl; have xl := X.out.lt
  have y0 := Y.out.cell 0 _ rfl; have y1 := Y.out.cell 1 _ rfl; have y2 := Y.out.cell 2 _ rfl; have y3 := Y.out.cell 3 _ rfl; have y4 := Y.out.cell 4 _ rfl; have yl := Y.out.lt
  go_wp2_with fail
  refine (KV _).mono ?_; rintro e w3 ⟨rfl, b3⟩
  replace hB := Lib.hid (hB.out.trans (b3.mono hB.out.size)); replace X := Lib.hid (X.out.keep b3); replace Y := Lib.hid (Y.out.keep b3)
  clear b3 KV c0 c1 c2 c3 c4 y0 y1 y2 y3 y4 xl yl
  go_wp2
  refine bodyPost_ret (v := (.tuple #[.bool false, .int .i64 0])) (by simp [results, Try.results13, go_sem, *]) rfl ?_
  exact ⟨rfl, HH.out.same hB.out⟩
set_option maxHeartbeats 6400000 in
set_option maxRecDepth 100000 in
theorem rtake_same (r : Rec) (hr : r.Ok) (hR : r.right = true) (g : Nat) (vl ve : Sl) (v : Vw) (w : World) (h : Rs g vl ve v w) (hk : knows v r.id = true) (hl : v.E.length < 1000000) (hov : overR r (v.k r.id.toNat) = true) (hs : r.st = (v.k r.id.toNat).st) :
    Calls Try.prog 13 #[.pointer (some ⟨g, 0, none⟩), .agg #[.int .i64 r.id, .int .i64 r.st, .int .u32 r.n, .int .u32 r.ip, .int .u16 r.port]] w (RTakePost g vl ve v r w) := by
  have hB : Hid (Below w.heap.size w (w.alloc (.cells #[.int .i64 r.id, .int .i64 r.st, .int .u32 r.n, .int .u32 r.ip, .int .u16 r.port] 48))) := (Below.refl _ w).alloc (Nat.le_refl _) _
  have X : Hid (Cs w.heap.size [.int .i64 r.id, .int .i64 r.st, .int .u32 r.n, .int .u32 r.ip, .int .u16 r.port] (w.alloc (.cells #[.int .i64 r.id, .int .i64 r.st, .int .u32 r.n, .int .u32 r.ip, .int .u16 r.port] 48))) := Cs.new w (rcs r) 48
  have K1 : ∀ w, Calls Try.prog 32 #[.agg #[.int .i64 r.id, .int .i64 r.st, .int .u32 r.n, .int .u32 r.ip, .int .u16 r.port]] w fun e w' => e = .returned (.bool true) ∧ Below w.heap.size w w' := fun w => by
    rw [← hR]; exact rright_any r.id r.st r.n r.ip r.port hr.ip hr.port w
  have K2 := Lib.hid (fun w1 h1 => rfind_any r.id g vl ve v w1 h1)
  unfold FindPost at K2
  rw [hk] at K2
  have KV : ∀ w, Calls Try.prog 34 #[.agg #[.int .i64 r.id, .int .i64 r.st, .int .u32 r.n, .int .u32 r.ip, .int .u16 r.port], .agg #[.int .i64 (v.k r.id.toNat).id, .int .i64 (v.k r.id.toNat).st, .int .u32 (v.k r.id.toNat).n, .int .u32 (v.k r.id.toNat).ip, .int .u16 (v.k r.id.toNat).port]] w fun e w' => e = .returned (.bool true) ∧ Below w.heap.size w w' := fun w => by
    rw [← hov]; exact rover_rec r (v.k r.id.toNat) hr (h.ok.ok _) w
  have hto := turns_old hR hk
  rw [hov] at hto
  unfold RTakePost
  obtain ⟨hpx, hpid⟩ := pos_knows h.ok hk
  rw [hto, err_ok hR]
  have HOK1 : Hid (OkV ⟨upd v.k r.id.toNat r, v.E⟩) := by
    have := take_ok h.ok hr
    rw [take_yes hto] at this
    exact ⟨this.ok, this.id⟩
  have HM : Hid (membersV ⟨upd v.k r.id.toNat r, v.E⟩ = (membersV v).set (posR (membersV v) r.id) r) := by
    have := set_members h.ok hr hk hto
    rw [take_yes hto] at this
    exact this.symm
  have hT : takeV v r = ⟨upd v.k r.id.toNat r, v.E⟩ := by rw [take_yes hto, note_no (by rw [was_yes hk]; exact hs)]
  rw [hT]
  generalize hV1 : (⟨upd v.k r.id.toNat r, v.E⟩ : Vw) = V1 at *
  have HE1 : Hid (V1.E = v.E) := by show _ = _; rw [← hV1]
  clear hV1 hT
  have hpl := (List.getElem?_eq_some_iff.1 hpx).1
  have hml := members_len v
  have hln := h.ln
  have hen := h.en
  have HH := Lib.hid h
  have hrow := h.row
  clear hto hk hR hpid hr hov
  obtain ⟨av, n9, cv⟩ := vl
  obtain ⟨ae, e9, ce9⟩ := ve
  simp only at hln hen
  subst hln hen
  obtain ⟨gv, rfl⟩ : ∃ gv, av = some ⟨gv, 0, none⟩ := by
    rcases erow_form hrow with ⟨_, h2⟩ | ⟨gv, _, h1, _⟩
    · rw [h2] at hpl; simp at hpl
    · simp [Sl.v] at h1; exact ⟨gv, h1.1⟩
  have CR : Hid (∀ w1, Rs g ⟨some ⟨gv, 0, none⟩, (membersV v).length, cv⟩ ⟨ae, v.E.length, ce9⟩ v w1 → gv < w1.heap.size ∧ ∀ k u, (rcs (v.k r.id.toNat))[k]? = some u → w1.cell? ⟨gv, posR (membersV v) r.id * 5 + k, none⟩ = some u) := fun w1 h1 => by
    obtain ⟨b, off, hab, hbl, hcc⟩ := h1.rd (by omega)
    simp only [Option.some.injEq, Addr.mk.injEq, and_true] at hab
    obtain ⟨rfl, rfl⟩ := hab
    exact ⟨hbl, fun k u hu => by have := hcc _ _ hpx k u hu; rw [Nat.zero_add] at this; exact this⟩
  have HPL := Lib.hid hpl
  clear hpx hrow h
  generalize posR (membersV v) r.id = p at *
  generalize v.k r.id.toNat = o at *
  generalize hml2 : (membersV v).length = ml at *
  have hp0 : (0 : Int) ≤ p := by omega
  have hp1 : (p : Int) < ml := by omega
  have hE2 : (v.E.length : Int) < 1000000 := by omega
  have q1 : (o.st != r.st) = false := by simp [hs]
  clear hs
  go_enter Try.func13, Try.ntmps13
  go_wp2_with fail
  refine (K1 _).mono ?_; rintro e w1 ⟨rfl, b1⟩
  replace hB := Lib.hid (hB.out.trans (b1.mono hB.out.size)); replace X := Lib.hid (X.out.keep b1); clear b1 K1
  have c0 := X.out.cell 0 _ rfl; have xl := X.out.lt
  have KF := K2.out w1 (HH.out.keep hB.out)
  go_wp2_with fail
  refine KF.mono ?_; rintro e w2 ⟨rfl, b2⟩
  clear c0 xl KF K2
  replace hB := Lib.hid (hB.out.trans (b2.mono hB.out.size)); replace X := Lib.hid (X.out.keep b2); clear b2
  have H2 := Lib.hid (HH.out.keep hB.out)
  have g0 := H2.out.box.cell 0 _ rfl
  have gl := H2.out.box.lt
  have xl := X.out.lt
  have m0 := (CR.out w2 H2.out).2 0 _ rfl; have m1 := (CR.out w2 H2.out).2 1 _ rfl; have m2 := (CR.out w2 H2.out).2 2 _ rfl; have m3 := (CR.out w2 H2.out).2 3 _ rfl; have m4 := (CR.out w2 H2.out).2 4 _ rfl
  have ml9 := (CR.out w2 H2.out).1
  simp only [Nat.add_zero] at m0
  go_upto_region 13 with fail
  replace hB : Hid (Below w.heap.size w (w2.alloc (.cells #[.int .i64 o.id, .int .i64 o.st, .int .u32 o.n, .int .u32 o.ip, .int .u16 o.port] 48))) := hB.out.alloc hB.out.size _
  replace X : Hid (Cs w.heap.size [.int .i64 r.id, .int .i64 r.st, .int .u32 r.n, .int .u32 r.ip, .int .u16 r.port] (w2.alloc (.cells #[.int .i64 o.id, .int .i64 o.st, .int .u32 o.n, .int .u32 o.ip, .int .u16 o.port] 48))) := X.out.alloc _
  have Y : Hid (Cs w2.heap.size [.int .i64 o.id, .int .i64 o.st, .int .u32 o.n, .int .u32 o.ip, .int .u16 o.port] (w2.alloc (.cells #[.int .i64 o.id, .int .i64 o.st, .int .u32 o.n, .int .u32 o.ip, .int .u16 o.port] 48))) := Cs.new w2 (rcs o) 48
  have hxy : w.heap.size < w2.heap.size := by omega
  have hyg : w2.heap.size ≠ g := by omega
  have hyv : w2.heap.size ≠ gv := by omega
  generalize (w2.alloc (.cells #[.int .i64 o.id, .int .i64 o.st, .int .u32 o.n, .int .u32 o.ip, .int .u16 o.port] 48)) = wb at *
  generalize w2.heap.size = yb at *
  clear g0 gl xl m0 m1 m2 m3 m4 ml9 H2
  have c0 := X.out.cell 0 _ rfl; have c1 := X.out.cell 1 _ rfl; have c2 := X.out.cell 2 _ rfl; have c3 := X.out.cell 3 _ rfl; have c4 := X.out.cell 4 _ rfl; have xl := X.out.lt
  have y0 := Y.out.cell 0 _ rfl; have y1 := Y.out.cell 1 _ rfl; have y2 := Y.out.cell 2 _ rfl; have y3 := Y.out.cell 3 _ rfl; have y4 := Y.out.cell 4 _ rfl; have yl := Y.out.lt
  go_wp2_with fail
  refine (KV _).mono ?_; rintro e w3 ⟨rfl, b3⟩
  replace hB := Lib.hid (hB.out.trans (b3.mono hB.out.size)); replace X := Lib.hid (X.out.keep b3); replace Y := Lib.hid (Y.out.keep b3)
  clear b3 KV c0 c1 c2 c3 c4 y0 y1 y2 y3 y4 xl yl
  have H3 := Lib.hid (HH.out.keep hB.out)
  have g0 := H3.out.box.cell 0 _ rfl; have gl := H3.out.box.lt
  have c0 := X.out.cell 0 _ rfl; have c1 := X.out.cell 1 _ rfl; have c2 := X.out.cell 2 _ rfl; have c3 := X.out.cell 3 _ rfl; have c4 := X.out.cell 4 _ rfl; have xl := X.out.lt
  have y1 := Y.out.cell 1 _ rfl; have yl := Y.out.lt
  have m0 := (CR.out w3 H3.out).2 0 _ rfl; have m1 := (CR.out w3 H3.out).2 1 _ rfl; have m2 := (CR.out w3 H3.out).2 2 _ rfl; have m3 := (CR.out w3 H3.out).2 3 _ rfl; have m4 := (CR.out w3 H3.out).2 4 _ rfl
  have mlt := (CR.out w3 H3.out).1
  simp only [Nat.add_zero] at m0
  obtain ⟨Q1, Q2, fr⟩ := Rs.set (V' := V1) (p := p) (r := r) H3.out (by rw [hml2]; exact HPL.out) HM.out HE1.out HOK1.out
  replace Q1 := Lib.hid Q1; replace Q2 := Lib.hid Q2
  have hxv : w.heap.size ≠ gv := by have := (CR.out w HH.out).1; omega
  have hxg : w.heap.size ≠ g := by have := HH.out.box.lt; omega
  replace X := Lib.hid (X.out.touch (Touch.drew (Touch.sets (F := fun k => k = gv) (Touch.refl _ w3) gv (fun _ => rfl) (rcs r) (p * 5))) hxv)
  replace Y := Lib.hid (Y.out.touch (Touch.drew (Touch.sets (F := fun k => k = gv) (Touch.refl _ w3) gv (fun _ => rfl) (rcs r) (p * 5))) hyv)
  go_upto_region 16 with fail
  go_region
  change Hid (Rs g _ _ V1 (((((w3.setCell ⟨gv, p * 5, none⟩ (.int .i64 r.id)).setCell ⟨gv, p * 5 + 1, none⟩ (.int .i64 r.st)).setCell ⟨gv, p * 5 + 2, none⟩ (.int .u32 r.n)).setCell ⟨gv, p * 5 + 3, none⟩ (.int .u32 r.ip)).setCell ⟨gv, p * 5 + 4, none⟩ (.int .u16 r.port))) at Q1
  change Hid (Touch _ w3 (((((w3.setCell ⟨gv, p * 5, none⟩ (.int .i64 r.id)).setCell ⟨gv, p * 5 + 1, none⟩ (.int .i64 r.st)).setCell ⟨gv, p * 5 + 2, none⟩ (.int .u32 r.n)).setCell ⟨gv, p * 5 + 3, none⟩ (.int .u32 r.ip)).setCell ⟨gv, p * 5 + 4, none⟩ (.int .u16 r.port))) at Q2
  replace Q1 : Hid (Rs g _ _ V1 ((((((w3.setCell ⟨gv, p * 5, none⟩ (.int .i64 r.id)).setCell ⟨gv, p * 5 + 1, none⟩ (.int .i64 r.st)).setCell ⟨gv, p * 5 + 2, none⟩ (.int .u32 r.n)).setCell ⟨gv, p * 5 + 3, none⟩ (.int .u32 r.ip)).setCell ⟨gv, p * 5 + 4, none⟩ (.int .u16 r.port))).drew) := Q1.out.keep (Below.refl _ _).drew
  replace Q2 : Hid (Touch _ w3 ((((((w3.setCell ⟨gv, p * 5, none⟩ (.int .i64 r.id)).setCell ⟨gv, p * 5 + 1, none⟩ (.int .i64 r.st)).setCell ⟨gv, p * 5 + 2, none⟩ (.int .u32 r.n)).setCell ⟨gv, p * 5 + 3, none⟩ (.int .u32 r.ip)).setCell ⟨gv, p * 5 + 4, none⟩ (.int .u16 r.port))).drew) := Q2.out.drew
  change Hid (Cs w.heap.size [.int .i64 r.id, .int .i64 r.st, .int .u32 r.n, .int .u32 r.ip, .int .u16 r.port] ((((((w3.setCell ⟨gv, p * 5, none⟩ (.int .i64 r.id)).setCell ⟨gv, p * 5 + 1, none⟩ (.int .i64 r.st)).setCell ⟨gv, p * 5 + 2, none⟩ (.int .u32 r.n)).setCell ⟨gv, p * 5 + 3, none⟩ (.int .u32 r.ip)).setCell ⟨gv, p * 5 + 4, none⟩ (.int .u16 r.port))).drew) at X
  change Hid (Cs yb [.int .i64 o.id, .int .i64 o.st, .int .u32 o.n, .int .u32 o.ip, .int .u16 o.port] ((((((w3.setCell ⟨gv, p * 5, none⟩ (.int .i64 r.id)).setCell ⟨gv, p * 5 + 1, none⟩ (.int .i64 r.st)).setCell ⟨gv, p * 5 + 2, none⟩ (.int .u32 r.n)).setCell ⟨gv, p * 5 + 3, none⟩ (.int .u32 r.ip)).setCell ⟨gv, p * 5 + 4, none⟩ (.int .u16 r.port))).drew) at Y
  clear c0 c1 c2 c3 c4 y1 m0 m1 m2 m3 m4 xl yl mlt g0 gl fr CR HM
  generalize ((((((w3.setCell ⟨gv, p * 5, none⟩ (.int .i64 r.id)).setCell ⟨gv, p * 5 + 1, none⟩ (.int .i64 r.st)).setCell ⟨gv, p * 5 + 2, none⟩ (.int .u32 r.n)).setCell ⟨gv, p * 5 + 3, none⟩ (.int .u32 r.ip)).setCell ⟨gv, p * 5 + 4, none⟩ (.int .u16 r.port))).drew = w6 at *
  have TT := Lib.hid ((Touch.of_below (OwnV g ⟨some ⟨gv, 0, none⟩, ml, cv⟩ ⟨ae, v.E.length, ce9⟩) hB.out).trans Q2.out (fun _ _ h => h))
  have c0 := X.out.cell 0 _ rfl; have c1 := X.out.cell 1 _ rfl; have c2 := X.out.cell 2 _ rfl; have xl := X.out.lt
  have y1 := Y.out.cell 1 _ rfl; have yl := Y.out.lt
  have FN : Hid (RAft g ⟨some ⟨gv, 0, none⟩, ml, cv⟩ ⟨ae, v.E.length, ce9⟩ V1 w w6) := ⟨_, _, Q1.out, TT.out, fun b hb => .inl hb⟩
  go_wp2
  refine bodyPost_ret (v := (.tuple #[.bool true, .int .i64 0])) (by simp [results, Try.results13, go_sem, *]) rfl ?_
  exact ⟨rfl, FN.out⟩
/-- four cells: three of a record's box, one of another's -/
def SR4 (xb yb : Nat) (r o : Rec) (w' : World) : Prop := w'.cell? ⟨xb, 0, none⟩ = some (.int .i64 r.id) ∧ w'.cell? ⟨xb, 1, none⟩ = some (.int .i64 r.st) ∧ w'.cell? ⟨xb, 2, none⟩ = some (.int .u32 r.n) ∧ w'.cell? ⟨yb, 1, none⟩ = some (.int .i64 o.st)
theorem sR4_of {xb yb : Nat} {r o : Rec} {w : World} (h : Cs xb [.int .i64 r.id, .int .i64 r.st, .int .u32 r.n, .int .u32 r.ip, .int .u16 r.port] w) (h2 : Cs yb [.int .i64 o.id, .int .i64 o.st, .int .u32 o.n, .int .u32 o.ip, .int .u16 o.port] w) : SR4 xb yb r o w := ⟨h.cell 0 _ rfl, h.cell 1 _ rfl, h.cell 2 _ rfl, h2.cell 1 _ rfl⟩
theorem SR4.drew {xb yb : Nat} {r o : Rec} {w : World} (h : SR4 xb yb r o w) : SR4 xb yb r o w.drew := h
theorem sR4_grown {xb yb : Nat} {r o : Rec} {w w' : World} {row : Option Nat} (h : SR4 xb yb r o w) (hl : xb < w.heap.size ∧ yb < w.heap.size) (hg : w.grownBy w' row) (hx : ∀ k, row = some k → k ≠ xb ∧ k ≠ yb) : SR4 xb yb r o w' := by
  have t : Touch (fun k => row = some k) w w' := Touch.of_grown hg (fun k hk => hk)
  have c : ∀ o, w'.cell? ⟨xb, o, none⟩ = w.cell? ⟨xb, o, none⟩ := fun o => t.cell (p := ⟨xb, o, none⟩) hl.1 (fun e => (hx xb e).1 rfl)
  have d : ∀ o, w'.cell? ⟨yb, o, none⟩ = w.cell? ⟨yb, o, none⟩ := fun o => t.cell (p := ⟨yb, o, none⟩) hl.2 (fun e => (hx yb e).2 rfl)
  exact ⟨(c 0).trans h.1, (c 1).trans h.2.1, (c 2).trans h.2.2.1, (d 1).trans h.2.2.2⟩
theorem SR4.set {xb yb g k : Nat} {r o : Rec} {w : World} (h : SR4 xb yb r o w) (hg : g ≠ xb) (hy : g ≠ yb) (u : Value) : SR4 xb yb r o (w.setCell ⟨g, k, none⟩ u) := by
  have c : ∀ j, (w.setCell ⟨g, k, none⟩ u).cell? ⟨xb, j, none⟩ = w.cell? ⟨xb, j, none⟩ := fun j => World.cell?_setCell_other _ _ _ _ (by intro e; injection e with e1; exact hg e1)
  have d : ∀ j, (w.setCell ⟨g, k, none⟩ u).cell? ⟨yb, j, none⟩ = w.cell? ⟨yb, j, none⟩ := fun j => World.cell?_setCell_other _ _ _ _ (by intro e; injection e with e1; exact hy e1)
  exact ⟨(c 0).trans h.1, (c 1).trans h.2.1, (c 2).trans h.2.2.1, (d 1).trans h.2.2.2⟩
set_option maxHeartbeats 6400000 in
set_option maxRecDepth 100000 in
theorem rtake_turn (r : Rec) (hr : r.Ok) (hR : r.right = true) (g : Nat) (vl ve : Sl) (v : Vw) (w : World) (h : Rs g vl ve v w) (hk : knows v r.id = true) (hl : v.E.length < 1000000) (hov : overR r (v.k r.id.toNat) = true) (hs : ¬ r.st = (v.k r.id.toNat).st) :
    Calls Try.prog 13 #[.pointer (some ⟨g, 0, none⟩), .agg #[.int .i64 r.id, .int .i64 r.st, .int .u32 r.n, .int .u32 r.ip, .int .u16 r.port]] w (RTakePost g vl ve v r w) := by
  have hB : Hid (Below w.heap.size w (w.alloc (.cells #[.int .i64 r.id, .int .i64 r.st, .int .u32 r.n, .int .u32 r.ip, .int .u16 r.port] 48))) := (Below.refl _ w).alloc (Nat.le_refl _) _
  have X : Hid (Cs w.heap.size [.int .i64 r.id, .int .i64 r.st, .int .u32 r.n, .int .u32 r.ip, .int .u16 r.port] (w.alloc (.cells #[.int .i64 r.id, .int .i64 r.st, .int .u32 r.n, .int .u32 r.ip, .int .u16 r.port] 48))) := Cs.new w (rcs r) 48
  have K1 : ∀ w, Calls Try.prog 32 #[.agg #[.int .i64 r.id, .int .i64 r.st, .int .u32 r.n, .int .u32 r.ip, .int .u16 r.port]] w fun e w' => e = .returned (.bool true) ∧ Below w.heap.size w w' := fun w => by
    rw [← hR]; exact rright_any r.id r.st r.n r.ip r.port hr.ip hr.port w
  have K2 := Lib.hid (fun w1 h1 => rfind_any r.id g vl ve v w1 h1)
  unfold FindPost at K2
  rw [hk] at K2
  have KV : ∀ w, Calls Try.prog 34 #[.agg #[.int .i64 r.id, .int .i64 r.st, .int .u32 r.n, .int .u32 r.ip, .int .u16 r.port], .agg #[.int .i64 (v.k r.id.toNat).id, .int .i64 (v.k r.id.toNat).st, .int .u32 (v.k r.id.toNat).n, .int .u32 (v.k r.id.toNat).ip, .int .u16 (v.k r.id.toNat).port]] w fun e w' => e = .returned (.bool true) ∧ Below w.heap.size w w' := fun w => by
    rw [← hov]; exact rover_rec r (v.k r.id.toNat) hr (h.ok.ok _) w
  have hto := turns_old hR hk
  rw [hov] at hto
  unfold RTakePost
  obtain ⟨hpx, hpid⟩ := pos_knows h.ok hk
  rw [hto, err_ok hR]
  have HOK1 : Hid (OkV ⟨upd v.k r.id.toNat r, v.E⟩) := by
    have := take_ok h.ok hr
    rw [take_yes hto] at this
    exact ⟨this.ok, this.id⟩
  have HM : Hid (membersV ⟨upd v.k r.id.toNat r, v.E⟩ = (membersV v).set (posR (membersV v) r.id) r) := by
    have := set_members h.ok hr hk hto
    rw [take_yes hto] at this
    exact this.symm
  have HOK2 := Lib.hid (take_ok h.ok hr)
  have HE : Hid ((takeV v r).E = v.E ++ [⟨r.id, (v.k r.id.toNat).st, r.st, r.n⟩]) := by
    show _ = _
    rw [take_E hto (by rw [was_yes hk]; exact hs)]; unfold evV; rw [was_yes hk]
  have HM2 : Hid (membersV ⟨upd v.k r.id.toNat r, v.E⟩ = membersV (takeV v r)) := by rw [take_yes hto]; rfl
  generalize takeV v r = V2 at *
  generalize hV1 : (⟨upd v.k r.id.toNat r, v.E⟩ : Vw) = V1 at *
  have HE1 : Hid (V1.E = v.E) := by show _ = _; rw [← hV1]
  clear hV1
  have FIN := Lib.hid (fun vl1 w6 w9 g1 cap1 (h6 : Rs g vl1 ve V1 w6) => Rs.app (V' := V2) (x := ⟨r.id, (v.k r.id.toNat).st, r.st, r.n⟩) (g1 := g1) (cap1 := cap1) (w9 := w9) h6 HM2.out.symm (by rw [HE.out, HE1.out]) HOK2.out)
  simp only [HE1.out] at FIN
  obtain ⟨j0, hj0, hy0, hy1, hy2⟩ := info_parts info_rev
  have hpl := (List.getElem?_eq_some_iff.1 hpx).1
  have hml := members_len v
  have hln := h.ln
  have hen := h.en
  have HH := Lib.hid h
  have hrow := h.row
  clear hto hk hR hpid hr hov
  obtain ⟨av, n9, cv⟩ := vl
  obtain ⟨ae, e9, ce9⟩ := ve
  simp only at hln hen
  subst hln hen
  obtain ⟨gv, rfl⟩ : ∃ gv, av = some ⟨gv, 0, none⟩ := by
    rcases erow_form hrow with ⟨_, h2⟩ | ⟨gv, _, h1, _⟩
    · rw [h2] at hpl; simp at hpl
    · simp [Sl.v] at h1; exact ⟨gv, h1.1⟩
  have CR : Hid (∀ w1, Rs g ⟨some ⟨gv, 0, none⟩, (membersV v).length, cv⟩ ⟨ae, v.E.length, ce9⟩ v w1 → gv < w1.heap.size ∧ ∀ k u, (rcs (v.k r.id.toNat))[k]? = some u → w1.cell? ⟨gv, posR (membersV v) r.id * 5 + k, none⟩ = some u) := fun w1 h1 => by
    obtain ⟨b, off, hab, hbl, hcc⟩ := h1.rd (by omega)
    simp only [Option.some.injEq, Addr.mk.injEq, and_true] at hab
    obtain ⟨rfl, rfl⟩ := hab
    exact ⟨hbl, fun k u hu => by have := hcc _ _ hpx k u hu; rw [Nat.zero_add] at this; exact this⟩
  have HPL := Lib.hid hpl
  clear hpx hrow h
  generalize posR (membersV v) r.id = p at *
  generalize v.k r.id.toNat = o at *
  generalize hml2 : (membersV v).length = ml at *
  have hp0 : (0 : Int) ≤ p := by omega
  have hp1 : (p : Int) < ml := by omega
  have hE2 : (v.E.length : Int) < 1000000 := by omega
  have q1 : (o.st != r.st) = true := by simp; exact fun e => hs e.symm
  clear hs
  go_enter Try.func13, Try.ntmps13
  go_wp2_with fail
  refine (K1 _).mono ?_; rintro e w1 ⟨rfl, b1⟩
  replace hB := Lib.hid (hB.out.trans (b1.mono hB.out.size)); replace X := Lib.hid (X.out.keep b1); clear b1 K1
  have c0 := X.out.cell 0 _ rfl; have xl := X.out.lt
  have KF := K2.out w1 (HH.out.keep hB.out)
  go_wp2_with fail
  refine KF.mono ?_; rintro e w2 ⟨rfl, b2⟩
  clear c0 xl KF K2
  replace hB := Lib.hid (hB.out.trans (b2.mono hB.out.size)); replace X := Lib.hid (X.out.keep b2); clear b2
  have H2 := Lib.hid (HH.out.keep hB.out)
  have g0 := H2.out.box.cell 0 _ rfl
  have gl := H2.out.box.lt
  have xl := X.out.lt
  have m0 := (CR.out w2 H2.out).2 0 _ rfl; have m1 := (CR.out w2 H2.out).2 1 _ rfl; have m2 := (CR.out w2 H2.out).2 2 _ rfl; have m3 := (CR.out w2 H2.out).2 3 _ rfl; have m4 := (CR.out w2 H2.out).2 4 _ rfl
  have ml9 := (CR.out w2 H2.out).1
  simp only [Nat.add_zero] at m0
  go_upto_region 13 with fail
  replace hB : Hid (Below w.heap.size w (w2.alloc (.cells #[.int .i64 o.id, .int .i64 o.st, .int .u32 o.n, .int .u32 o.ip, .int .u16 o.port] 48))) := hB.out.alloc hB.out.size _
  replace X : Hid (Cs w.heap.size [.int .i64 r.id, .int .i64 r.st, .int .u32 r.n, .int .u32 r.ip, .int .u16 r.port] (w2.alloc (.cells #[.int .i64 o.id, .int .i64 o.st, .int .u32 o.n, .int .u32 o.ip, .int .u16 o.port] 48))) := X.out.alloc _
  have Y : Hid (Cs w2.heap.size [.int .i64 o.id, .int .i64 o.st, .int .u32 o.n, .int .u32 o.ip, .int .u16 o.port] (w2.alloc (.cells #[.int .i64 o.id, .int .i64 o.st, .int .u32 o.n, .int .u32 o.ip, .int .u16 o.port] 48))) := Cs.new w2 (rcs o) 48
  have hxy : w.heap.size < w2.heap.size := by omega
  have hyg : w2.heap.size ≠ g := by omega
  have hyv : w2.heap.size ≠ gv := by omega
  generalize (w2.alloc (.cells #[.int .i64 o.id, .int .i64 o.st, .int .u32 o.n, .int .u32 o.ip, .int .u16 o.port] 48)) = wb at *
  generalize w2.heap.size = yb at *
  clear g0 gl xl m0 m1 m2 m3 m4 ml9 H2
  have c0 := X.out.cell 0 _ rfl; have c1 := X.out.cell 1 _ rfl; have c2 := X.out.cell 2 _ rfl; have c3 := X.out.cell 3 _ rfl; have c4 := X.out.cell 4 _ rfl; have xl := X.out.lt
  have y0 := Y.out.cell 0 _ rfl; have y1 := Y.out.cell 1 _ rfl; have y2 := Y.out.cell 2 _ rfl; have y3 := Y.out.cell 3 _ rfl; have y4 := Y.out.cell 4 _ rfl; have yl := Y.out.lt
  go_wp2_with fail
  refine (KV _).mono ?_; rintro e w3 ⟨rfl, b3⟩
  replace hB := Lib.hid (hB.out.trans (b3.mono hB.out.size)); replace X := Lib.hid (X.out.keep b3); replace Y := Lib.hid (Y.out.keep b3)
  clear b3 KV c0 c1 c2 c3 c4 y0 y1 y2 y3 y4 xl yl
  have H3 := Lib.hid (HH.out.keep hB.out)
  have g0 := H3.out.box.cell 0 _ rfl; have gl := H3.out.box.lt
  have c0 := X.out.cell 0 _ rfl; have c1 := X.out.cell 1 _ rfl; have c2 := X.out.cell 2 _ rfl; have c3 := X.out.cell 3 _ rfl; have c4 := X.out.cell 4 _ rfl; have xl := X.out.lt
  have y1 := Y.out.cell 1 _ rfl; have yl := Y.out.lt
  have m0 := (CR.out w3 H3.out).2 0 _ rfl; have m1 := (CR.out w3 H3.out).2 1 _ rfl; have m2 := (CR.out w3 H3.out).2 2 _ rfl; have m3 := (CR.out w3 H3.out).2 3 _ rfl; have m4 := (CR.out w3 H3.out).2 4 _ rfl
  have mlt := (CR.out w3 H3.out).1
  simp only [Nat.add_zero] at m0
  obtain ⟨Q1, Q2, fr⟩ := Rs.set (V' := V1) (p := p) (r := r) H3.out (by rw [hml2]; exact HPL.out) HM.out HE1.out HOK1.out
  replace Q1 := Lib.hid Q1; replace Q2 := Lib.hid Q2
  have hxv : w.heap.size ≠ gv := by have := (CR.out w HH.out).1; omega
  have hxg : w.heap.size ≠ g := by have := HH.out.box.lt; omega
  replace X := Lib.hid (X.out.touch (Touch.drew (Touch.sets (F := fun k => k = gv) (Touch.refl _ w3) gv (fun _ => rfl) (rcs r) (p * 5))) hxv)
  replace Y := Lib.hid (Y.out.touch (Touch.drew (Touch.sets (F := fun k => k = gv) (Touch.refl _ w3) gv (fun _ => rfl) (rcs r) (p * 5))) hyv)
  go_upto_region 16 with fail
  go_region
  change Hid (Rs g _ _ V1 (((((w3.setCell ⟨gv, p * 5, none⟩ (.int .i64 r.id)).setCell ⟨gv, p * 5 + 1, none⟩ (.int .i64 r.st)).setCell ⟨gv, p * 5 + 2, none⟩ (.int .u32 r.n)).setCell ⟨gv, p * 5 + 3, none⟩ (.int .u32 r.ip)).setCell ⟨gv, p * 5 + 4, none⟩ (.int .u16 r.port))) at Q1
  change Hid (Touch _ w3 (((((w3.setCell ⟨gv, p * 5, none⟩ (.int .i64 r.id)).setCell ⟨gv, p * 5 + 1, none⟩ (.int .i64 r.st)).setCell ⟨gv, p * 5 + 2, none⟩ (.int .u32 r.n)).setCell ⟨gv, p * 5 + 3, none⟩ (.int .u32 r.ip)).setCell ⟨gv, p * 5 + 4, none⟩ (.int .u16 r.port))) at Q2
  replace Q1 : Hid (Rs g _ _ V1 ((((((w3.setCell ⟨gv, p * 5, none⟩ (.int .i64 r.id)).setCell ⟨gv, p * 5 + 1, none⟩ (.int .i64 r.st)).setCell ⟨gv, p * 5 + 2, none⟩ (.int .u32 r.n)).setCell ⟨gv, p * 5 + 3, none⟩ (.int .u32 r.ip)).setCell ⟨gv, p * 5 + 4, none⟩ (.int .u16 r.port))).drew) := Q1.out.keep (Below.refl _ _).drew
  replace Q2 : Hid (Touch _ w3 ((((((w3.setCell ⟨gv, p * 5, none⟩ (.int .i64 r.id)).setCell ⟨gv, p * 5 + 1, none⟩ (.int .i64 r.st)).setCell ⟨gv, p * 5 + 2, none⟩ (.int .u32 r.n)).setCell ⟨gv, p * 5 + 3, none⟩ (.int .u32 r.ip)).setCell ⟨gv, p * 5 + 4, none⟩ (.int .u16 r.port))).drew) := Q2.out.drew
  change Hid (Cs w.heap.size [.int .i64 r.id, .int .i64 r.st, .int .u32 r.n, .int .u32 r.ip, .int .u16 r.port] ((((((w3.setCell ⟨gv, p * 5, none⟩ (.int .i64 r.id)).setCell ⟨gv, p * 5 + 1, none⟩ (.int .i64 r.st)).setCell ⟨gv, p * 5 + 2, none⟩ (.int .u32 r.n)).setCell ⟨gv, p * 5 + 3, none⟩ (.int .u32 r.ip)).setCell ⟨gv, p * 5 + 4, none⟩ (.int .u16 r.port))).drew) at X
  change Hid (Cs yb [.int .i64 o.id, .int .i64 o.st, .int .u32 o.n, .int .u32 o.ip, .int .u16 o.port] ((((((w3.setCell ⟨gv, p * 5, none⟩ (.int .i64 r.id)).setCell ⟨gv, p * 5 + 1, none⟩ (.int .i64 r.st)).setCell ⟨gv, p * 5 + 2, none⟩ (.int .u32 r.n)).setCell ⟨gv, p * 5 + 3, none⟩ (.int .u32 r.ip)).setCell ⟨gv, p * 5 + 4, none⟩ (.int .u16 r.port))).drew) at Y
  clear c0 c1 c2 c3 c4 y1 m0 m1 m2 m3 m4 xl yl mlt g0 gl fr CR HM
  generalize ((((((w3.setCell ⟨gv, p * 5, none⟩ (.int .i64 r.id)).setCell ⟨gv, p * 5 + 1, none⟩ (.int .i64 r.st)).setCell ⟨gv, p * 5 + 2, none⟩ (.int .u32 r.n)).setCell ⟨gv, p * 5 + 3, none⟩ (.int .u32 r.ip)).setCell ⟨gv, p * 5 + 4, none⟩ (.int .u16 r.port))).drew = w6 at *
  have TT := Lib.hid ((Touch.of_below (OwnV g ⟨some ⟨gv, 0, none⟩, ml, cv⟩ ⟨ae, v.E.length, ce9⟩) hB.out).trans Q2.out (fun _ _ h => h))
  have c0 := X.out.cell 0 _ rfl; have c1 := X.out.cell 1 _ rfl; have c2 := X.out.cell 2 _ rfl; have xl := X.out.lt
  have y1 := Y.out.cell 1 _ rfl; have yl := Y.out.lt
  have H7 := Lib.hid (fun o => Q1.out.keep (((Below.refl w6.heap.size w6).alloc (Nat.le_refl _) o).drew))
  have EV7 : Hid (∀ o, ERow ce 4 90 ((w6.alloc o).drew) (.slice ae v.E.length ce9) v.E) := fun o => by
    have := (H7.out o).ev
    rw [HE1.out] at this
    exact this
  have B7 := Lib.hid (fun o => (((Below.refl w6.heap.size w6).alloc (Nat.le_refl _) o).drew))
  have gq := Q1.out.box.cell 1 _ rfl; have gf := Q1.out.box.free 1 _ rfl; have gl := Q1.out.box.lt
  have XE : Hid (∀ k, (Value.slice ae v.E.length ce9).ownBlock = some k → k ≠ w.heap.size ∧ k ≠ yb) := fun k hk => by
    have h1 := HH.out.lt k (.inr (.inr (own_eq hk)))
    exact ⟨by omega, by omega⟩
  have S6 := Lib.hid (sR4_of X.out Y.out)
  have hxl : Hid (∀ o, w.heap.size < ((w6.alloc o).drew).heap.size ∧ yb < ((w6.alloc o).drew).heap.size) := fun o => by show _ < (w6.alloc o).heap.size ∧ _ < (w6.alloc o).heap.size; rw [World.size_alloc]; omega
  have SA := Lib.hid (fun o => sR4_of (X.out.alloc o).drew (Y.out.alloc o).drew)
  go_upto_region 18 with fail
  clear X Y c0 c1 c2 y1 xl yl
  refine wp_region_held_drew (S := (fun w' => w'.cell? ⟨w.heap.size, 0, none⟩ = some (.int .i64 r.id) ∧ w'.cell? ⟨w.heap.size, 1, none⟩ = some (.int .i64 r.st) ∧ w'.cell? ⟨w.heap.size, 2, none⟩ = some (.int .u32 r.n) ∧ w'.cell? ⟨yb, 1, none⟩ = some (.int .i64 o.st))) (by kernel_rfl) S6.out.drew (fun hHeld => ?_)
  refine wpAnyH_take (i := 0) (v := ?_) rfl (by kernel_rfl) (by kernel_rfl) (by kernel_rfl) (fun _ _ _ h => h) (Or.inl ⟨by rfl, ?_⟩) (by assumption) ?_; rotate_left 1; (focus (intro w hSw; (try dsimp only at hSw); go_simp; (try with_reducible rfl))); (try simp only [Act.put, List.setIfInBounds_toArray, List.set_cons_zero, List.set_cons_succ])
  refine wpAnyH_take (i := 1) (v := ?_) rfl (by kernel_rfl) (by kernel_rfl) (by kernel_rfl) (fun _ _ _ h => h) (Or.inl ⟨by rfl, ?_⟩) (by assumption) ?_; rotate_left 1; (focus (intro w hSw; (try dsimp only at hSw); go_simp; (try with_reducible rfl))); (try simp only [Act.put, List.setIfInBounds_toArray, List.set_cons_zero, List.set_cons_succ])
  refine wpAnyH_take (i := 2) (v := ?_) rfl (by kernel_rfl) (by kernel_rfl) (by kernel_rfl) (fun _ _ _ h => h) (Or.inl ⟨by rfl, ?_⟩) (by assumption) ?_; rotate_left 1; (focus (intro w hSw; (try dsimp only at hSw); go_simp; (try with_reducible rfl))); (try simp only [Act.put, List.setIfInBounds_toArray, List.set_cons_zero, List.set_cons_succ])
  refine wpAnyH_take (i := 3) (v := ?_) rfl (by kernel_rfl) (by kernel_rfl) (by kernel_rfl) (fun _ _ _ h => h) (Or.inl ⟨by rfl, ?_⟩) (by assumption) ?_; rotate_left 1; (focus (intro w hSw; (try dsimp only at hSw); go_simp; (try with_reducible rfl))); (try simp only [Act.put, List.setIfInBounds_toArray, List.set_cons_zero, List.set_cons_succ])
  refine wpAnyH_take (i := 5) (v := ?_) rfl (by kernel_rfl) (by kernel_rfl) (by kernel_rfl) (fun _ _ _ h => h) (Or.inl ⟨by rfl, ?_⟩) (by assumption) ?_; rotate_left 1; (focus (intro w hSw; (try dsimp only at hSw); go_simp; (try with_reducible rfl))); (try simp only [Act.put, List.setIfInBounds_toArray, List.set_cons_zero, List.set_cons_succ])
  refine wpAnyH_take (i := 6) (v := ?_) rfl (by kernel_rfl) (by kernel_rfl) (by kernel_rfl) (fun _ _ _ h => h) (Or.inl ⟨by rfl, ?_⟩) (by assumption) ?_; rotate_left 1; (focus (intro w hSw; (try dsimp only at hSw); go_simp; (try with_reducible rfl))); (try simp only [Act.put, List.setIfInBounds_toArray, List.set_cons_zero, List.set_cons_succ])
  refine wpAnyH_take (i := 7) (v := ?_) rfl (by kernel_rfl) (by kernel_rfl) (by kernel_rfl) (fun _ _ _ h => h) (Or.inl ⟨by rfl, ?_⟩) (by assumption) ?_; rotate_left 1; (focus (intro w hSw; (try dsimp only at hSw); go_simp; (try with_reducible rfl))); (try simp only [Act.put, List.setIfInBounds_toArray, List.set_cons_zero, List.set_cons_succ])
  refine wpAnyH_take (i := 8) (v := ?_) rfl (by kernel_rfl) (by kernel_rfl) (by kernel_rfl) (fun _ _ _ h => h) (Or.inl ⟨by rfl, ?_⟩) (by assumption) ?_; rotate_left 1; (focus (intro w hSw; (try dsimp only at hSw); go_simp; (try with_reducible rfl))); (try simp only [Act.put, List.setIfInBounds_toArray, List.set_cons_zero, List.set_cons_succ])
  refine wpAnyH_take (i := 9) (v := ?_) rfl (by kernel_rfl) (by kernel_rfl) (by kernel_rfl) (fun _ _ _ h => h) (Or.inl ⟨by rfl, ?_⟩) (by assumption) ?_; rotate_left 1; (focus (intro w hSw; (try dsimp only at hSw); go_simp; (try with_reducible rfl))); (try simp only [Act.put, List.setIfInBounds_toArray, List.set_cons_zero, List.set_cons_succ])
  refine wpAnyH_take (i := 10) (v := ?_) rfl (by kernel_rfl) (by kernel_rfl) (by kernel_rfl) (fun _ _ _ h => h) (Or.inl ⟨by rfl, ?_⟩) (by assumption) ?_; rotate_left 1; (focus (intro w hSw; (try dsimp only at hSw); go_simp; (try with_reducible rfl))); (try simp only [Act.put, List.setIfInBounds_toArray, List.set_cons_zero, List.set_cons_succ])
  refine wpAnyH_take (i := 11) (v := ?_) rfl (by kernel_rfl) (by kernel_rfl) (by kernel_rfl) (fun _ _ _ h => h) (Or.inl ⟨by rfl, ?_⟩) (by assumption) ?_; rotate_left 1; (focus (intro w hSw; (try dsimp only at hSw); go_simp; (try with_reducible rfl))); (try simp only [Act.put, List.setIfInBounds_toArray, List.set_cons_zero, List.set_cons_succ])
  refine wpAnyH_take (i := 12) (v := ?_) rfl (by kernel_rfl) (by kernel_rfl) (by kernel_rfl) (fun _ _ _ h => h) (Or.inl ⟨by rfl, ?_⟩) (by assumption) ?_; rotate_left 1; (focus (intro w hSw; (try dsimp only at hSw); go_simp; (try with_reducible rfl))); (try simp only [Act.put, List.setIfInBounds_toArray, List.set_cons_zero, List.set_cons_succ])
  refine wpAnyH_take (i := 13) (v := ?_) rfl (by kernel_rfl) (by kernel_rfl) (by kernel_rfl) (fun _ _ _ h => h) (Or.inl ⟨by rfl, ?_⟩) (by assumption) ?_; rotate_left 1; (focus (intro w hSw; (try dsimp only at hSw); go_simp; (try with_reducible rfl))); (try simp only [Act.put, List.setIfInBounds_toArray, List.set_cons_zero, List.set_cons_succ])
  refine wpAnyH_ready (rs := [4, 14]) (by kernel_rfl) (by simp) ?_
  refine AllReadyH.cons rfl (fun K hK => ?_) (AllReadyH.cons rfl (fun K hK => ?_) AllReadyH.nil)
  · go_simp
    refine hK.out _ _ S6.out.drew (fun hHeld => ?_); clear hK K
    refine wpAnyH_ready (rs := [14]) (by kernel_rfl) (by simp) ?_
    refine AllReadyH.cons rfl (fun K hK => ?_) AllReadyH.nil
    go_simp
    refine hK.out _ _ (SA.out _) (fun hHeld => ?_); clear hK K
    refine wpAnyH_ready (rs := [15]) (by kernel_rfl) (by simp) ?_
    refine AllReadyH.cons rfl (fun K hK => ?_) AllReadyH.nil
    refine step_append_lies _ (by rfl) _ _ _ (by rfl) 0 90 j0 _ 4 32 Try.underlying29 hj0 hy0 hy1 hy2 rfl (by omega) (.slice ae v.E.length ce9) v.E.length (v.E.map ce).flatten (by rfl) (EV7.out _) ⟨_, 0, none⟩ 1 1 [.int .i64 r.id, .int .i64 o.st, .int .i64 r.st, .int .u32 r.n] (by rfl) (by rfl) (World.news_of_block (cs := #[.int .i64 r.id, .int .i64 o.st, .int .i64 r.st, .int .u32 r.n]) (t := 90) (fr := (0, 0)) (heap_alloc_new _ _)) (by simp [Value.oneCell']) (by omega) (by unfold maxLen; omega) (by omega) (Nat.zero_le _) _ rfl ?_; intro g1 cap1 w9 hown hgrow hat hlt9; obtain ⟨af, box9⟩ := FIN.out _ _ _ _ _ (H7.out _) hown hgrow hat; have AF := Lib.hid (RAft.trans TT.out (fun b hb => .inl hb) (RAft.after (B7.out _) af)); have s9 := Lib.hid (sR4_grown (SA.out _) (hxl.out _) hgrow XE.out); have s9s := Lib.hid (fun u => s9.out.set (k := 1) (fun e => hxg e.symm) (fun e => hyg e.symm) u); clear hown hgrow hat af gq; have gq := box9.cell 1 _ rfl; have gf9 := box9.free 1 _ rfl; have gl9 := box9.lt; clear box9
    refine hK.out _ _ s9.out (fun hHeld => ?_); clear hK K
    refine wpAnyH_take (i := 16) (v := ?_) rfl (by kernel_rfl) (by kernel_rfl) (by kernel_rfl) (fun _ _ _ h => h) (Or.inl ⟨by rfl, ?_⟩) (by assumption) ?_; rotate_left 1; (focus (intro w hSw; (try dsimp only at hSw); go_simp; (try with_reducible rfl))); (try simp only [Act.put, List.setIfInBounds_toArray, List.set_cons_zero, List.set_cons_succ])
    refine wpAnyH_take (i := 17) (v := ?_) rfl (by kernel_rfl) (by kernel_rfl) (by kernel_rfl) (fun _ _ _ h => h) (Or.inl ⟨by rfl, ?_⟩) (by assumption) ?_; rotate_left 1; (focus (intro w hSw; (try dsimp only at hSw); go_simp; (try with_reducible rfl))); (try simp only [Act.put, List.setIfInBounds_toArray, List.set_cons_zero, List.set_cons_succ])
    refine wpAnyH_ready (rs := [18]) (by kernel_rfl) (by simp) ?_
    refine AllReadyH.cons rfl (fun K hK => ?_) AllReadyH.nil
    go_simp
    refine hK.out _ _ (s9s.out _) (fun hHeld => ?_); clear hK K
    refine wpAnyH_done (by kernel_rfl) ?_ _
    go_wp2
    refine bodyPost_ret (v := (.tuple #[.bool true, .int .i64 0])) (by simp [results, Try.results13, go_sem, *]) rfl ?_
    exact ⟨rfl, AF.out⟩
  · go_simp
    refine hK.out _ _ (SA.out _) (fun hHeld => ?_); clear hK K
    refine wpAnyH_ready (rs := [4]) (by kernel_rfl) (by simp) ?_
    refine AllReadyH.cons rfl (fun K hK => ?_) AllReadyH.nil
    go_simp
    refine hK.out _ _ (SA.out _) (fun hHeld => ?_); clear hK K
    refine wpAnyH_ready (rs := [15]) (by kernel_rfl) (by simp) ?_
    refine AllReadyH.cons rfl (fun K hK => ?_) AllReadyH.nil
    refine step_append_lies _ (by rfl) _ _ _ (by rfl) 0 90 j0 _ 4 32 Try.underlying29 hj0 hy0 hy1 hy2 rfl (by omega) (.slice ae v.E.length ce9) v.E.length (v.E.map ce).flatten (by rfl) (EV7.out _) ⟨_, 0, none⟩ 1 1 [.int .i64 r.id, .int .i64 o.st, .int .i64 r.st, .int .u32 r.n] (by rfl) (by rfl) (World.news_of_block (cs := #[.int .i64 r.id, .int .i64 o.st, .int .i64 r.st, .int .u32 r.n]) (t := 90) (fr := (0, 0)) (heap_alloc_new _ _)) (by simp [Value.oneCell']) (by omega) (by unfold maxLen; omega) (by omega) (Nat.zero_le _) _ rfl ?_; intro g1 cap1 w9 hown hgrow hat hlt9; obtain ⟨af, box9⟩ := FIN.out _ _ _ _ _ (H7.out _) hown hgrow hat; have AF := Lib.hid (RAft.trans TT.out (fun b hb => .inl hb) (RAft.after (B7.out _) af)); have s9 := Lib.hid (sR4_grown (SA.out _) (hxl.out _) hgrow XE.out); have s9s := Lib.hid (fun u => s9.out.set (k := 1) (fun e => hxg e.symm) (fun e => hyg e.symm) u); clear hown hgrow hat af gq; have gq := box9.cell 1 _ rfl; have gf9 := box9.free 1 _ rfl; have gl9 := box9.lt; clear box9
    refine hK.out _ _ s9.out (fun hHeld => ?_); clear hK K
    refine wpAnyH_take (i := 16) (v := ?_) rfl (by kernel_rfl) (by kernel_rfl) (by kernel_rfl) (fun _ _ _ h => h) (Or.inl ⟨by rfl, ?_⟩) (by assumption) ?_; rotate_left 1; (focus (intro w hSw; (try dsimp only at hSw); go_simp; (try with_reducible rfl))); (try simp only [Act.put, List.setIfInBounds_toArray, List.set_cons_zero, List.set_cons_succ])
    refine wpAnyH_take (i := 17) (v := ?_) rfl (by kernel_rfl) (by kernel_rfl) (by kernel_rfl) (fun _ _ _ h => h) (Or.inl ⟨by rfl, ?_⟩) (by assumption) ?_; rotate_left 1; (focus (intro w hSw; (try dsimp only at hSw); go_simp; (try with_reducible rfl))); (try simp only [Act.put, List.setIfInBounds_toArray, List.set_cons_zero, List.set_cons_succ])
    refine wpAnyH_ready (rs := [18]) (by kernel_rfl) (by simp) ?_
    refine AllReadyH.cons rfl (fun K hK => ?_) AllReadyH.nil
    go_simp
    refine hK.out _ _ (s9s.out _) (fun hHeld => ?_); clear hK K
    refine wpAnyH_done (by kernel_rfl) ?_ _
    go_wp2
    refine bodyPost_ret (v := (.tuple #[.bool true, .int .i64 0])) (by simp [results, Try.results13, go_sem, *]) rfl ?_
    exact ⟨rfl, AF.out⟩
theorem rtake_any (r : Rec) (hr : r.Ok) (g : Nat) (vl ve : Sl) (v : Vw) (w : World) (h : Rs g vl ve v w) (hl : v.E.length < 1000000) :
    Calls Try.prog 13 #[.pointer (some ⟨g, 0, none⟩), .agg #[.int .i64 r.id, .int .i64 r.st, .int .u32 r.n, .int .u32 r.ip, .int .u16 r.port]] w (RTakePost g vl ve v r w) := by
  cases hR : r.right with
  | false => exact rtake_bad r hr hR g vl ve v w h
  | true =>
    cases hk : knows v r.id with
    | false => exact rtake_new r hr hR g vl ve v w h hk hl
    | true =>
      cases hov : overR r (v.k r.id.toNat) with
      | false => exact rtake_less r hr hR g vl ve v w h hk hl hov
      | true =>
        by_cases hs : r.st = (v.k r.id.toNat).st
        · exact rtake_same r hr hR g vl ve v w h hk hl hov hs
        · exact rtake_turn r hr hR g vl ve v w h hk hl hov hs
end Go.Proofs.Ytchhbhoikkdmeaa
