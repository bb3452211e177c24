/- The queue's Add. -/
import Derived.Test.YthebcaielbnhjaaQuAdd
namespace Go.Proofs.Ythebcaielbnhjaa
open Go.Sort Go.RowKit Go.BigFrame
set_option linter.unusedVariables false
set_option linter.unusedSimpArgs false

def isI (i : Int) (x : Im) : Bool := decide (x.r.id = i)
theorem enters_add : Enters 30 := fun args w => by kernel_rfl
theorem addC_any (x : Im) (r : Rec) (g : Nat) (w : World) (h0 : Cs g (rcs r) w) :
    Calls Try.prog 30 #[.agg #[.int .i64 x.r.id, .int .i64 x.r.st, .int .u32 x.r.n, .int .u32 x.r.ip, .int .u16 x.r.port, .int .i64 x.left], .pointer (some ⟨g, 0, none⟩)] w fun e w' => e = .returned (.bool (isI r.id x)) ∧ Below w.heap.size w w' := by
  have x0 := h0.cell 0 _ rfl
  have gl := h0.lt
  unfold isI
  obtain ⟨⟨i1, s1, n1, a1, p1⟩, l1⟩ := x
  obtain ⟨i2, s2, n2, a2, p2⟩ := r
  simp only at *
  clear h0
  go_enter Try.func30, Try.ntmps30
  go_wp2
  go_ret
  exact ⟨bool_ret (by first | rfl | (rw [Bool.eq_iff_iff]; simp)), by (repeat (first | with_reducible exact Below.refl _ _ | with_reducible refine Below.drew ?_ | with_reducible refine below_drewN ?_ _ | with_reducible refine Below.alloc ?_ (by first | omega | (simp; done) | (simp; omega)) _ | with_reducible refine Below.setCell ?_ (by first | omega | (simp; done) | (simp; omega)) _))⟩
theorem right_rec (r : Rec) (hr : r.Ok) (w : World) : Calls Try.prog 24 #[.agg #[.int .i64 r.id, .int .i64 r.st, .int .u32 r.n, .int .u32 r.ip, .int .u16 r.port]] w fun e w' => e = .returned (.bool r.right) ∧ Below w.heap.size w w' := right_any r.id r.st r.n r.ip r.port hr.ip hr.port w
theorem err_bad {S : List Im} {r : Rec} {n : Int} (h : (r.right && fitT n) = false) (room : Nat) : errA S r n = 1 ∧ addS room S r n = S := by
  have e : errA S r n = 1 := by unfold errA; rw [if_neg (by simp [h])]
  exact ⟨e, by unfold addS; rw [if_neg (by rw [e]; decide)]⟩
theorem err_old {S : List Im} {r : Rec} {n : Int} (h : (r.right && fitT n) = true) (hb : badS S r = true) (room : Nat) : errA S r n = 6 ∧ addS room S r n = S := by
  have e : errA S r n = 6 := by unfold errA; rw [if_pos h, if_pos hb]
  exact ⟨e, by unfold addS; rw [if_neg (by rw [e]; decide)]⟩
theorem err_ok {S : List Im} {r : Rec} {n : Int} (h : (r.right && fitT n) = true) (hb : badS S r = false) (room : Nat) : errA S r n = 0 ∧ addS room S r n = (putS ⟨r, n⟩ (restS S r.id)).take room := by
  have e : errA S r n = 0 := by unfold errA; rw [if_pos h, if_neg (by simp [hb])]
  exact ⟨e, by unfold addS; rw [if_pos e]⟩
def AddPost (k : Bool) (g room : Nat) (v : Sl) (er : Int) (S' : List Im) (w : World) (e : Ending) (w' : World) : Prop := e = .returned (.int .i64 er) ∧ Aft k g room v S' w w'
set_option maxHeartbeats 3200000 in
set_option maxRecDepth 100000 in
theorem add_bad (r : Rec) (hr : r.Ok) (n : Int) (g room : Nat) (v : Sl) (S : List Im) (w : World) (h : Qs true g room v S w) (hb : (r.right && fitT n) = false) :
    Calls Try.prog 18 #[.pointer (some ⟨g, 0, none⟩), .agg #[.int .i64 r.id, .int .i64 r.st, .int .u32 r.n, .int .u32 r.ip, .int .u16 r.port], .int .i64 n] w (AddPost true g room v 1 S w) := by
  have R := right_rec r hr
  have HH := Lib.hid h
  clear h
  have X0 := Cs.new w (rcs r) 37
  have c0 := X0.cell 0 _ rfl
  have c1 := X0.cell 1 _ rfl
  have c2 := X0.cell 2 _ rfl
  have c3 := X0.cell 3 _ rfl
  have c4 := X0.cell 4 _ rfl
  cases hrr : r.right with
  | false =>
    rw [hrr] at R
    clear hb X0
    go_enter Try.func18, Try.ntmps18
    go_wp2_with fail
    refine (R _).mono ?_; rintro e w1 ⟨rfl, b1⟩
    go_wp2
    go_ret
    exact ⟨rfl, HH.out.same (by (have zz0 := Below.size b1; (try simp at zz0); repeat (first | with_reducible exact Below.refl _ _ | with_reducible refine Below.drew ?_ | with_reducible refine below_drewN ?_ _ | with_reducible refine Below.alloc ?_ (by first | omega | (simp; done) | (simp; omega)) _ | with_reducible refine Below.setCell ?_ (by first | omega | (simp; done) | (simp; omega)) _ | (with_reducible refine Below.trans ?_ (Below.mono b1 (by first | omega | (simp; done) | (simp; omega)))))))⟩
  | true =>
    rw [hrr] at R hb
    have hf : ¬ (1 ≤ n ∧ n ≤ 100) := fun e => by rw [fit_iff.2 e] at hb; simp at hb
    clear hb X0
    by_cases h1 : n < 1
    · clear hf
      go_enter Try.func18, Try.ntmps18
      go_wp2_with fail
      refine (R _).mono ?_; rintro e w1 ⟨rfl, b1⟩
      go_wp2
      go_ret
      exact ⟨rfl, HH.out.same (by (have zz0 := Below.size b1; (try simp at zz0); repeat (first | with_reducible exact Below.refl _ _ | with_reducible refine Below.drew ?_ | with_reducible refine below_drewN ?_ _ | with_reducible refine Below.alloc ?_ (by first | omega | (simp; done) | (simp; omega)) _ | with_reducible refine Below.setCell ?_ (by first | omega | (simp; done) | (simp; omega)) _ | (with_reducible refine Below.trans ?_ (Below.mono b1 (by first | omega | (simp; done) | (simp; omega)))))))⟩
    · have h2 : 100 < n := by omega
      clear hf
      go_enter Try.func18, Try.ntmps18
      go_wp2_with fail
      refine (R _).mono ?_; rintro e w1 ⟨rfl, b1⟩
      go_wp2
      go_ret
      exact ⟨rfl, HH.out.same (by (have zz0 := Below.size b1; (try simp at zz0); repeat (first | with_reducible exact Below.refl _ _ | with_reducible refine Below.drew ?_ | with_reducible refine below_drewN ?_ _ | with_reducible refine Below.alloc ?_ (by first | omega | (simp; done) | (simp; omega)) _ | with_reducible refine Below.setCell ?_ (by first | omega | (simp; done) | (simp; omega)) _ | (with_reducible refine Below.trans ?_ (Below.mono b1 (by first | omega | (simp; done) | (simp; omega)))))))⟩
/-- item j is written over -/
theorem over_fin {g room : Nat} {v : Sl} {S L : List Im} {x y : Im} {w w1 : World} {j gv cap : Nat} (h : Qs true g room v S w) (hb : Below w.heap.size w w1) (hv : v = ⟨some ⟨gv, 0, none⟩, L.length, cap⟩) (hp : L.Perm S) (hrow : ERow ci 6 61 w1 v.v L) (hj : L[j]? = some y) (hy : y.r.id = x.r.id)
    (hok : OkS room ((putS x (restS S x.r.id)).take room)) : Aft true g room v ((putS x (restS S x.r.id)).take room) w (w1.setCells gv (j * 6) (ci x)) := by
  obtain ⟨hjl, hje⟩ := List.getElem?_eq_some_iff.1 hj
  subst hv
  obtain ⟨-, C, hC, hcap, ht, hlc, hm⟩ := erow_open ci_enc hrow
  have h1 := h.keep hb
  have hput := hC.put j (ci x) rfl (by omega)
  have hT : Touch (fun b => b = gv) w1 (w1.setCells gv (j * 6) (ci x)) := Touch.sets (F := fun b => b = gv) (Touch.refl _ _) gv (fun _ => rfl) _ _
  have hge : gv ≠ g := fun e => h.ne (by rw [e]; rfl)
  have htake : (C.set j (ci x)).take (L.set j x).length = (L.set j x).map ci := by
    rw [List.length_set, List.take_set, ht, List.map_set]
  have hr := erow_close (L := L.set j x) hput htake (by rw [List.length_set, List.length_set]; omega) (by rw [List.length_set, hcap]; exact hm)
  rw [List.length_set, List.length_set, hcap] at hr
  refine Aft.after hb ⟨⟨some ⟨gv, 0, none⟩, L.length, cap⟩, ⟨h1.box.touch hT (fun e => hge e.symm), ⟨L.set j x, hr, set_over hp h.ok.ids h.ok.len hjl (by rw [hje]; exact hy)⟩, h.ne, h.r1, h.r2, hok⟩, hT.mono (fun b _ e => .inr (by subst e; rfl)), fun b hb => .inl hb⟩
set_option maxHeartbeats 6400000 in
set_option maxRecDepth 100000 in
theorem add_good (r : Rec) (hr : r.Ok) (n : Int) (g room : Nat) (v : Sl) (S : List Im) (w : World) (h : Qs true g room v S w) (hb : (r.right && fitT n) = true) :
    Calls Try.prog 18 #[.pointer (some ⟨g, 0, none⟩), .agg #[.int .i64 r.id, .int .i64 r.st, .int .u32 r.n, .int .u32 r.ip, .int .u16 r.port], .int .i64 n] w (AddPost true g room v (errA S r n) (addS room S r n) w) := by
  obtain ⟨L, hLq, hperm⟩ := lq_of h
  have R := right_rec r hr
  have hok' : OkS room (addS room S r n) := add_ok h.ok hr n
  have hrr : r.right = true ∧ fitT n = true := by simpa using hb
  have hn2 := fit_iff.1 hrr.2
  have hxok : OkI ⟨r, n⟩ := ⟨hr, hrr.1, hn2.1, hn2.2⟩
  rw [hrr.1] at R
  have hn1 : ¬ n < 1 := by omega
  have hn3 : ¬ 100 < n := by omega
  have hlen : L.length ≤ 64 := by rw [hperm.length_eq]; have := h.ok.len; have := h.r2; omega
  have hl2 : (L.length : Int) ≤ 64 := by omega
  have HB0 := Lib.hid hb
  have HH := Lib.hid h
  have HL := Lib.hid hLq
  have HP := Lib.hid hperm
  have HOK := Lib.hid hok'
  have HXK := Lib.hid hxok
  have HRO := Lib.hid hr
  have hvn := hLq.n
  obtain ⟨av, vn, vc⟩ := v
  simp only at hvn
  subst hvn
  have RB : Hid (Cs w.heap.size (rcs r) (w.alloc (.cells #[.int .i64 r.id, .int .i64 r.st, .int .u32 r.n, .int .u32 r.ip, .int .u16 r.port] 37))) := Cs.new w (rcs r) 37
  have c0 := RB.out.cell 0 _ rfl
  have c1 := RB.out.cell 1 _ rfl
  have c2 := RB.out.cell 2 _ rfl
  have c3 := RB.out.cell 3 _ rfl
  have c4 := RB.out.cell 4 _ rfl
  have B0 : Hid (Below w.heap.size w (w.alloc (.cells #[.int .i64 r.id, .int .i64 r.st, .int .u32 r.n, .int .u32 r.ip, .int .u16 r.port] 37))) := (Below.refl _ w).alloc (Nat.le_refl _) _
  clear h hLq hperm hok' hrr hn2 hxok hr hb
  go_enter Try.func18, Try.ntmps18
  go_upto_region 1 with fail
  generalize (w.alloc (.cells #[.int .i64 r.id, .int .i64 r.st, .int .u32 r.n, .int .u32 r.ip, .int .u16 r.port] 37)) = wa at *
  go_wp2_with fail
  refine (R _).mono ?_; rintro e w1 ⟨rfl, b1⟩
  have RB1 := Lib.hid (RB.out.keep b1)
  have B1 := Lib.hid (B0.out.trans (b1.mono B0.out.size))
  clear R b1 RB B0 c0 c1 c2 c3 c4
  have c0 := RB1.out.cell 0 _ rfl
  have c1 := RB1.out.cell 1 _ rfl
  have c2 := RB1.out.cell 2 _ rfl
  have c3 := RB1.out.cell 3 _ rfl
  have c4 := RB1.out.cell 4 _ rfl
  go_upto_region 4 with fail
  have XB : Hid (Cs w1.heap.size (ci ⟨r, n⟩) (w1.alloc (.cells #[.int .i64 r.id, .int .i64 r.st, .int .u32 r.n, .int .u32 r.ip, .int .u16 r.port, .int .i64 n] 61))) := Cs.new w1 (ci ⟨r, n⟩) 61
  have RB2 := Lib.hid (RB1.out.alloc (.cells #[.int .i64 r.id, .int .i64 r.st, .int .u32 r.n, .int .u32 r.ip, .int .u16 r.port, .int .i64 n] 61))
  have B2 : Hid (Below w.heap.size w (w1.alloc (.cells #[.int .i64 r.id, .int .i64 r.st, .int .u32 r.n, .int .u32 r.ip, .int .u16 r.port, .int .i64 n] 61))) := B1.out.alloc B1.out.size _
  clear RB1 B1 c0 c1 c2 c3 c4
  generalize (w1.alloc (.cells #[.int .i64 r.id, .int .i64 r.st, .int .u32 r.n, .int .u32 r.ip, .int .u16 r.port, .int .i64 n] 61)) = w2 at *
  generalize w1.heap.size = xb at *
  have L2 := Lib.hid (HL.out.keep B2.out)
  have KI := idxF_any 30 enters_add #[.pointer (some ⟨w.heap.size, 0, none⟩)] (isI r.id) av vc L (by omega) w2 (erow_rd (a := av) (n := L.length) (cap := vc) ci_enc L2.out.row) (fun x hx w' hb => addC_any x r w.heap.size w' (RB2.out.keep hb))
  have x1 := L2.out.box.cell 1 _ rfl
  have gl := L2.out.box.lt
  go_wp2_with fail
  refine KI.mono ?_; rintro e w3 ⟨jv, rfl, hjv, b3⟩
  have B3 : Hid (Below w.heap.size w w3) := B2.out.trans (b3.mono B2.out.size)
  have RB3 := Lib.hid (RB2.out.keep b3)
  have XB3 := Lib.hid (XB.out.keep b3)
  have L3 := Lib.hid (L2.out.keep b3)
  clear KI b3 RB2 XB L2 x1 gl B2
  rcases hjv with ⟨rfl, hno⟩ | ⟨j, hj, rfl, hy, hno⟩
  · have hid : ∀ y ∈ S, y.r.id ≠ r.id := fun y hy e => by
      have := hno y (HP.out.symm.subset hy)
      unfold isI at this
      simp [e] at this
    obtain ⟨e1, e2⟩ := err_ok HB0.out (bad_none hid) room
    rw [rest_none hid] at e2
    replace e1 := Lib.hid e1
    replace e2 := Lib.hid e2
    have KL := lay_any g room ⟨av, L.length, vc⟩ S ⟨r, n⟩ HXK.out hid w3 (HH.out.keep B3.out)
    have c0 := XB3.out.cell 0 _ rfl
    have c1 := XB3.out.cell 1 _ rfl
    have c2 := XB3.out.cell 2 _ rfl
    have c3 := XB3.out.cell 3 _ rfl
    have c4 := XB3.out.cell 4 _ rfl
    have c5 := XB3.out.cell 5 _ rfl
    clear hno hid
    go_wp2_with fail
    refine KL.mono ?_; rintro e w4 ⟨rfl, af⟩
    have AF := Lib.hid (Aft.after B3.out af)
    clear KL af c0 c1 c2 c3 c4 c5
    go_wp2
    go_ret
    exact ⟨by rw [e1.out]; rfl, by rw [e2.out]; exact AF.out⟩
  · have hj0 : ¬ (j : Int) < 0 := by omega
    have hj1 : (0 : Int) ≤ j := by omega
    have hj2 : (j : Int) < L.length := by omega
    have hx : L[j]? = some L[j] := List.getElem?_eq_getElem hj
    have hmem : L[j] ∈ S := HP.out.subset (List.getElem_mem hj)
    have hid : L[j].r.id = r.id := by unfold isI at hy; simpa using hy
    have hbad := bad_some HH.out.ok.ids hmem hid
    have hyok := (HH.out.ok.ok _ hmem).ok
    obtain ⟨gv, rfl⟩ : ∃ gv, av = some ⟨gv, 0, none⟩ := by
      rcases erow_form L3.out.row with ⟨_, rfl⟩ | ⟨gv, _, h1, _⟩
      · simp at hj
      · simp [Sl.v] at h1; exact ⟨gv, h1.1⟩
    obtain ⟨-, C, hC, hcap, ht, hlc, hm⟩ := erow_open ci_enc L3.out.row
    have hcc := fun k v => hC.cell j k (ci L[j]) v (taken_at ht hx)
    have O := over_rec r L[j].r HRO.out hyok
    have x1 := L3.out.box.cell 1 _ rfl
    have gl := L3.out.box.lt
    have hgl := hC.lt
    have gfr := fun k => hC.free k
    have c0 := RB3.out.cell 0 _ rfl
    have c1 := RB3.out.cell 1 _ rfl
    have c2 := RB3.out.cell 2 _ rfl
    have c3 := RB3.out.cell 3 _ rfl
    have c4 := RB3.out.cell 4 _ rfl
    have d0 := hcc 0 _ rfl
    have d1 := hcc 1 _ rfl
    have d2 := hcc 2 _ rfl
    have d3 := hcc 3 _ rfl
    have d4 := hcc 4 _ rfl
    have d5 := hcc 5 _ rfl
    have XC := Lib.hid XB3.out
    have ST := Lib.hid (fun w1 (hb : Below w.heap.size w w1) hok => over_fin (x := ⟨r, n⟩) (w1 := w1) HH.out hb rfl HP.out (HL.out.keep hb).row hx hid hok)
    have EO := Lib.hid (fun hb => err_old (S := S) (n := n) HB0.out hb room)
    have EK := Lib.hid (fun hb => err_ok (S := S) (n := n) HB0.out hb room)
    clear hno hy hx hmem hid hyok hC hcap ht hlc hm hcc gfr
    generalize L[j] = y at *
    obtain ⟨⟨i2, s2, n2, a2, p2⟩, l2⟩ := y
    simp only [Nat.add_zero] at *
    generalize hov : overR r ⟨i2, s2, n2, a2, p2⟩ = ov at *
    clear hov
    have C2 := fun d os => Calls.regrown_of (O (grow (redrawn w3 d) os))
    clear O
    go_upto_region 8 with fail
    have k0 := cell_regrown c0
    have k1 := cell_regrown c1
    have k2 := cell_regrown c2
    have k3 := cell_regrown c3
    have k4 := cell_regrown c4
    have ka := cell_regrown d0
    have kb := cell_regrown d1
    have kc := cell_regrown d2
    have kd := cell_regrown d3
    have ke := cell_regrown d4
    have kx := cell_regrown x1
    clear c0 c1 c2 c3 c4 d0 d1 d2 d3 d4 d5 x1
    (refine wp_region_quiet_below (by kernel_rfl) (by kernel_rfl) ?_; (repeat (go_big_quiet_step (first | with_reducible exact C2 _ _))); refine wpQuiet_nil ?_; intro _ hw'; obtain ⟨⟨dq, osq⟩, hw''⟩ := hw'; subst hw'')
    have B4 := Lib.hid (B3.out.trans ((below_regrown w3 dq osq).mono B3.out.size))
    have B34 := Lib.hid (below_regrown w3 dq osq)
    clear k0 k1 k2 k3 k4 ka kb kc kd ke kx C2
    cases ov
    · obtain ⟨e1, e2⟩ := EO.out (by rw [hbad]; rfl)
      replace e1 := Lib.hid e1
      replace e2 := Lib.hid e2
      clear hbad EO EK
      go_wp2
      go_ret
      exact ⟨by rw [e1.out]; rfl, by rw [e2.out]; exact HH.out.same B4.out⟩
    · obtain ⟨e1, e2⟩ := EK.out (by rw [hbad]; rfl)
      rw [e2] at HOK
      replace e1 := Lib.hid e1
      replace e2 := Lib.hid e2
      clear hbad EO EK
      generalize hw5 : grow (redrawn w3 dq) osq = w5 at *
      clear hw5
      have L5 := Lib.hid (L3.out.keep B34.out)
      have X5 := Lib.hid (XC.out.keep B34.out)
      obtain ⟨-, C, hC, hcap, ht, hlc, hm⟩ := erow_open ci_enc L5.out.row
      obtain ⟨y0, hy0⟩ : ∃ y, C[j]? = some y := ⟨_, List.getElem?_eq_getElem (by omega)⟩
      obtain ⟨z0, z1, z2, z3, z4, z5, rfl⟩ := six (hC.all _ (List.mem_of_getElem? hy0))
      have d0 := hC.cell j 0 _ _ hy0 rfl
      have d1 := hC.cell j 1 _ _ hy0 rfl
      have d2 := hC.cell j 2 _ _ hy0 rfl
      have d3 := hC.cell j 3 _ _ hy0 rfl
      have d4 := hC.cell j 4 _ _ hy0 rfl
      have d5 := hC.cell j 5 _ _ hy0 rfl
      have gfr := fun k => hC.free k
      simp only [Nat.add_zero] at d0
      have hgl := hC.lt
      have x1 := L5.out.box.cell 1 _ rfl
      have gl := L5.out.box.lt
      have c0 := X5.out.cell 0 _ rfl
      have c1 := X5.out.cell 1 _ rfl
      have c2 := X5.out.cell 2 _ rfl
      have c3 := X5.out.cell 3 _ rfl
      have c4 := X5.out.cell 4 _ rfl
      have c5 := X5.out.cell 5 _ rfl
      have xl := X5.out.lt
      have AF := Lib.hid ((ST.out w5 B4.out HOK.out).then_ (Below.refl _ _).drew)
      clear hC hcap ht hlc hm hy0 ST
      go_upto_region 10 with fail
      go_region
      go_wp2
      go_ret
      exact ⟨by rw [e1.out]; rfl, by rw [e2.out]; exact AF.out⟩
end Go.Proofs.Ythebcaielbnhjaa
