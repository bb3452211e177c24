/- The reference's Add. -/
import Derived.Test.YthebcaielbnhjaaQuRPut
namespace Go.Proofs.Ythebcaielbnhjaa
open Go.Sort Go.RowKit Go.BigFrame
set_option linter.unusedVariables false
set_option linter.unusedSimpArgs false

theorem rright_rec (r : Rec) (hr : r.Ok) (w : World) : Calls Try.prog 32 #[.agg #[.int .i64 r.id, .int .i64 r.st, .int .u32 r.n, .int .u32 r.ip, .int .u16 r.port]] w fun e w' => e = .returned (.bool r.right) ∧ Below w.heap.size w w' := rright_any r.id r.st r.n r.ip r.port hr.ip hr.port w
theorem lr_of {g room : Nat} {v : Sl} {S : List Im} {w : World} (h : Qs false g room v S w) : Lr g room v S w := by
  obtain ⟨L, h1, h2⟩ := h.row
  have h2 : L = S := h2
  subst h2
  exact ⟨h.box, h1, h.ne⟩
theorem RAft.aft {g room : Nat} {v : Sl} {S S' : List Im} {w w' : World} (h : Qs false g room v S w) (ha : RAft g room S' w w') (hok : OkS room S') : Aft false g room v S' w w' := by
  obtain ⟨v', h1, h2, h3⟩ := ha
  refine ⟨v', ⟨h1.box, ⟨S', h1.row, rfl⟩, h1.ne, h.r1, h.r2, hok⟩, h2.mono (fun b _ e => .inl e), fun b hb => ?_⟩
  rcases hb with rfl | hb
  · exact .inl (.inl rfl)
  · exact .inr (h3 b hb)
theorem rest_none_len (S : List Im) (d : Int) : (restS S d).length ≤ S.length := (rest_sub S d).length_le
/-- a row's first ones -/
theorem erow_take {α : Type} {c : α → List Value} {z : Nat} {T : TypeId} {w : World} {g n cap m : Nat} {L : List α} (he : Enc c z) (h : ERow c z T w (.slice (some ⟨g, 0, none⟩) n cap) L) (hm : m ≤ L.length) : ERow c z T w (.slice (some ⟨g, 0, none⟩) m cap) (L.take m) := by
  obtain ⟨-, C, hC, hcap, ht, hlc, hmx⟩ := erow_open he h
  have hl : (L.take m).length = m := by rw [List.length_take]; omega
  have := erow_close (L := L.take m) hC (by
    rw [hl, List.map_take, ← ht, List.take_take, Nat.min_eq_left hm]) (by rw [hl]; omega) (by omega)
  rw [hl, hcap] at this
  exact this
theorem lr_cut {g room gv n cap m : Nat} {L : List Im} {w : World} (h : Lr g room ⟨some ⟨gv, 0, none⟩, n, cap⟩ L w) (hm : m ≤ L.length) :
    Lr g room ⟨some ⟨gv, 0, none⟩, m, cap⟩ (L.take m) (w.setCell ⟨g, 0, none⟩ (.slice (some ⟨gv, 0, none⟩) m cap)) ∧ Touch (fun b => b = g) w (w.setCell ⟨g, 0, none⟩ (.slice (some ⟨gv, 0, none⟩) m cap)) := by
  have hne : gv ≠ g := fun e => h.ne (by rw [e]; rfl)
  refine ⟨⟨?_, ?_, fun e => hne (Option.some.inj e)⟩, Touch.set (F := fun b => b = g) (Touch.refl _ w) (fun _ => rfl) _⟩
  · exact h.box.set 0 (.slice (some ⟨gv, 0, none⟩) m cap) (by simp [qc])
  · exact erow_touch (erow_take ci_enc h.row hm) (Touch.set (F := fun b => b = g) (Touch.refl _ w) (fun _ => rfl) _) (fun b hb e => by
      have : gv = b := Option.some.inj hb
      omega)
theorem rest_take {S : List Im} {i : Nat} {x : Im} {d : Int} (h : S[i]? = some x) : restS (S.take (i + 1)) d = if x.r.id ≠ d then restS (S.take i) d ++ [x] else restS (S.take i) d := by
  obtain ⟨hi, rfl⟩ := List.getElem?_eq_some_iff.1 h
  unfold restS
  rw [List.take_succ_eq_append_getElem hi, List.filter_append]
  by_cases c : S[i].r.id ≠ d
  · rw [if_pos c]; simp [c]
  · rw [if_neg c]; simp at c; simp [c]
structure RaS (S : List Im) (r : Rec) (i : Nat) (w : World) (ov : Value) (wr : World) : Prop where
  out : ERow ci 6 63 wr ov (restS (S.take i) r.id)
  good : ∀ y ∈ S.take i, y.r.id = r.id → overR r y.r = true
  below : Below w.heap.size w wr
  lo : ∀ k, ov.ownBlock = some k → w.heap.size ≤ k
def RaJ (S : List Im) (r : Rec) (w : World) (ov iv : Value) (wr : World) : Prop := ∃ i : Nat, i ≤ S.length ∧ iv = .int .i64 (i : Nat) ∧ RaS S r i w ov wr
section
variable {S : List Im} {r : Rec} {i : Nat} {w wr w9 : World} {ov : Value} {x : Im}
theorem RaS.app {g1 cap1 : Nat} {o : Obj} (h : RaS S r i w ov wr) (hx : S[i]? = some x) (hne : x.r.id ≠ r.id) (hown : w9.ownsRow 0 63 6 (.slice (some ⟨g1, 0, none⟩) ((restS (S.take i) r.id).length + 1) cap1) ((restS (S.take i) r.id).length + 1) (((restS (S.take i) r.id).map ci).flatten ++ ci x))
    (hgrow : (wr.alloc o).grownBy w9 ov.ownBlock) (hat : ov.ownBlock = some g1 ∨ g1 = (wr.alloc o).heap.size) : RaS S r (i + 1) w (.slice (some ⟨g1, 0, none⟩) ((restS (S.take i) r.id).length + 1) cap1) w9 := by
  refine ⟨?_, fun y hy e => ?_, (h.below.alloc h.below.size o).grown hgrow (by have := h.below.size; simp; omega) (fun k hk => h.lo k hk), fun k hk => ?_⟩
  · rw [rest_take hx, if_pos hne]; exact erow_snoc rfl hown
  · obtain ⟨hi, rfl⟩ := List.getElem?_eq_some_iff.1 hx
    rw [List.take_succ_eq_append_getElem hi] at hy
    rcases List.mem_append.1 hy with hy | hy
    · exact h.good y hy e
    · simp at hy; subst hy; exact (hne e).elim
  · have e : g1 = k := Option.some.inj hk
    subst e
    rcases hat with h1 | h1
    · exact h.lo _ h1
    · have := h.below.size; simp at h1; omega
theorem RaS.over (h : RaS S r i w ov wr) (hx : S[i]? = some x) (he : x.r.id = r.id) (ho : overR r x.r = true) (hb : Below wr.heap.size wr w9) : RaS S r (i + 1) w ov w9 := by
  refine ⟨?_, fun y hy e => ?_, h.below.trans (hb.mono h.below.size), h.lo⟩
  · rw [rest_take hx, if_neg (by simpa using he)]; exact erow_keep h.out hb
  · obtain ⟨hi, rfl⟩ := List.getElem?_eq_some_iff.1 hx
    rw [List.take_succ_eq_append_getElem hi] at hy
    rcases List.mem_append.1 hy with hy | hy
    · exact h.good y hy e
    · simp at hy; subst hy; exact ho
theorem RaS.keep (h : RaS S r i w ov wr) (hb : Below wr.heap.size wr w9) : RaS S r i w ov w9 := ⟨erow_keep h.out hb, h.good, h.below.trans (hb.mono h.below.size), h.lo⟩
theorem RaS.end_ (h : RaS S r S.length w ov wr) : ERow ci 6 63 wr ov (restS S r.id) ∧ badS S r = false := by
  have h1 := h.out
  have h2 := h.good
  rw [List.take_length] at h1 h2
  refine ⟨h1, ?_⟩
  cases c : badS S r with
  | false => rfl
  | true =>
    obtain ⟨y, hy, e, ho⟩ := bad_iff.1 c
    rw [h2 y hy e] at ho; cases ho
end
set_option maxHeartbeats 3200000 in
set_option maxRecDepth 100000 in
theorem radd_bad (r : Rec) (hr : r.Ok) (n : Int) (g room : Nat) (v : Sl) (S : List Im) (w : World) (h : Qs false g room v S w) (hb : (r.right && fitT n) = false) :
    Calls Try.prog 19 #[.pointer (some ⟨g, 0, none⟩), .agg #[.int .i64 r.id, .int .i64 r.st, .int .u32 r.n, .int .u32 r.ip, .int .u16 r.port], .int .i64 n] w (AddPost false g room v 1 S w) := by
  have R := rright_rec r hr
  have HH := Lib.hid h
  clear h
  have X0 := Cs.new w (rcs r) 52
  have c0 := X0.cell 0 _ rfl
  have c1 := X0.cell 1 _ rfl
  have c2 := X0.cell 2 _ rfl
  have c3 := X0.cell 3 _ rfl
  have c4 := X0.cell 4 _ rfl
  cases hrr : r.right with
  | false =>
    rw [hrr] at R
    clear hb X0
    go_enter Try.func19, Try.ntmps19
    go_wp2_with fail
    refine (R _).mono ?_; rintro e w1 ⟨rfl, b1⟩
    go_wp2
    go_ret
    exact ⟨rfl, HH.out.same (by (have zz0 := Below.size b1; (try simp at zz0); repeat (first | with_reducible exact Below.refl _ _ | with_reducible refine Below.drew ?_ | with_reducible refine below_drewN ?_ _ | with_reducible refine Below.alloc ?_ (by first | omega | (simp; done) | (simp; omega)) _ | with_reducible refine Below.setCell ?_ (by first | omega | (simp; done) | (simp; omega)) _ | (with_reducible refine Below.trans ?_ (Below.mono b1 (by first | omega | (simp; done) | (simp; omega)))))))⟩
  | true =>
    rw [hrr] at R hb
    have hf : ¬ (1 ≤ n ∧ n ≤ 100) := fun e => by rw [fit_iff.2 e] at hb; simp at hb
    clear hb X0
    by_cases h1 : n < 1
    · clear hf
      go_enter Try.func19, Try.ntmps19
      go_wp2_with fail
      refine (R _).mono ?_; rintro e w1 ⟨rfl, b1⟩
      go_wp2
      go_ret
      exact ⟨rfl, HH.out.same (by (have zz0 := Below.size b1; (try simp at zz0); repeat (first | with_reducible exact Below.refl _ _ | with_reducible refine Below.drew ?_ | with_reducible refine below_drewN ?_ _ | with_reducible refine Below.alloc ?_ (by first | omega | (simp; done) | (simp; omega)) _ | with_reducible refine Below.setCell ?_ (by first | omega | (simp; done) | (simp; omega)) _ | (with_reducible refine Below.trans ?_ (Below.mono b1 (by first | omega | (simp; done) | (simp; omega)))))))⟩
    · have h2 : 100 < n := by omega
      clear hf
      go_enter Try.func19, Try.ntmps19
      go_wp2_with fail
      refine (R _).mono ?_; rintro e w1 ⟨rfl, b1⟩
      go_wp2
      go_ret
      exact ⟨rfl, HH.out.same (by (have zz0 := Below.size b1; (try simp at zz0); repeat (first | with_reducible exact Below.refl _ _ | with_reducible refine Below.drew ?_ | with_reducible refine below_drewN ?_ _ | with_reducible refine Below.alloc ?_ (by first | omega | (simp; done) | (simp; omega)) _ | with_reducible refine Below.setCell ?_ (by first | omega | (simp; done) | (simp; omega)) _ | (with_reducible refine Below.trans ?_ (Below.mono b1 (by first | omega | (simp; done) | (simp; omega)))))))⟩
set_option maxHeartbeats 6400000 in
set_option maxRecDepth 100000 in
theorem radd_good (r : Rec) (hr : r.Ok) (n : Int) (g room : Nat) (v : Sl) (S : List Im) (w : World) (h : Qs false g room v S w) (hb : (r.right && fitT n) = true) :
    Calls Try.prog 19 #[.pointer (some ⟨g, 0, none⟩), .agg #[.int .i64 r.id, .int .i64 r.st, .int .u32 r.n, .int .u32 r.ip, .int .u16 r.port], .int .i64 n] w (AddPost false g room v (errA S r n) (addS room S r n) w) := by
  have R := rright_rec r hr
  have hok' : OkS room (addS room S r n) := add_ok h.ok hr n
  have hrr : r.right = true ∧ fitT n = true := by simpa using hb
  have hn2 := fit_iff.1 hrr.2
  rw [hrr.1] at R
  have hn1 : ¬ n < 1 := by omega
  have hn3 : ¬ 100 < n := by omega
  have hlen : S.length ≤ 64 := by have := h.ok.len; have := h.r2; omega
  have hl2 : (S.length : Int) ≤ 64 := by omega
  obtain ⟨i0, hi0, hz0, hz1, hz2⟩ := info_parts info_ritem
  have HB0 := Lib.hid hb
  have HH := Lib.hid h
  have HL := Lib.hid (lr_of h)
  have HOK := Lib.hid hok'
  have HRO := Lib.hid hr
  have hvn := h.n
  obtain ⟨av, vn, vc⟩ := v
  simp only at hvn
  subst hvn
  have HRD := Lib.hid (erow_rd (a := av) (n := S.length) (cap := vc) ci_enc HL.out.row)
  have RB : Hid (Cs w.heap.size (rcs r) (w.alloc (.cells #[.int .i64 r.id, .int .i64 r.st, .int .u32 r.n, .int .u32 r.ip, .int .u16 r.port] 52))) := Cs.new w (rcs r) 52
  have c0 := RB.out.cell 0 _ rfl
  have c1 := RB.out.cell 1 _ rfl
  have c2 := RB.out.cell 2 _ rfl
  have c3 := RB.out.cell 3 _ rfl
  have c4 := RB.out.cell 4 _ rfl
  have B0 : Hid (Below w.heap.size w (w.alloc (.cells #[.int .i64 r.id, .int .i64 r.st, .int .u32 r.n, .int .u32 r.ip, .int .u16 r.port] 52))) := (Below.refl _ w).alloc (Nat.le_refl _) _
  clear h hok' hrr hn2 hr hb
  go_enter Try.func19, Try.ntmps19
  go_upto_region 1 with fail
  generalize (w.alloc (.cells #[.int .i64 r.id, .int .i64 r.st, .int .u32 r.n, .int .u32 r.ip, .int .u16 r.port] 52)) = wa at *
  go_wp2_with fail
  refine (R _).mono ?_; rintro e w1 ⟨rfl, b1⟩
  have RB1 := Lib.hid (RB.out.keep b1)
  have B1 := Lib.hid (B0.out.trans (b1.mono B0.out.size))
  have hsz1 : Hid (w.heap.size ≤ w1.heap.size) := B1.out.size
  have L1 := Lib.hid (HL.out.keep B1.out)
  have RD1 := Lib.hid (HRD.out.keep B1.out)
  clear R b1 RB B0 c0 c1 c2 c3 c4 HL HRD
  have S0 : Hid (RaJ S r w1 (.slice none 0 0) (.int .i64 0) w1) := ⟨0, Nat.zero_le _, rfl, ⟨erow_nil, by simp, Below.refl _ _, fun k hk => by simp [Value.ownBlock] at hk⟩⟩
  go_wp2_with fail
  go_loopw [8, 9] (fun ov iv wr => RaJ S r w1 ov iv wr) (fun _ iv _ => S.length - (intOf iv).toNat)
  case atStart => exact S0.out
  case round =>
    obtain ⟨i, hi, rfl, hS⟩ := hrel
    clear S0
    generalize u8 = ov at *
    have hI0 : (0 : Int) ≤ i := by omega
    have HS := Lib.hid hS
    have L2 := Lib.hid (L1.out.keep hS.below)
    have x0 := L2.out.box.cell 0 _ rfl
    have gl := L2.out.box.lt
    by_cases hlt : i < S.length
    · have hlt' : (i : Int) < S.length := by omega
      have hi1 : i + 1 ≤ S.length := hlt
      obtain ⟨x, hx⟩ : ∃ x, S[i]? = some x := ⟨_, List.getElem?_eq_getElem hlt⟩
      obtain ⟨b, off, rfl, hbl, hcc⟩ := (RD1.out.keep hS.below) (by omega)
      have hcx := hcc i _ hx
      have d0 := hcx 0 _ rfl
      have d1 := hcx 1 _ rfl
      have d2 := hcx 2 _ rfl
      have d3 := hcx 3 _ rfl
      have d4 := hcx 4 _ rfl
      have d5 := hcx 5 _ rfl
      have RB2 := RB1.out.keep hS.below
      have c0 := RB2.cell 0 _ rfl
      have c1 := RB2.cell 1 _ rfl
      have c2 := RB2.cell 2 _ rfl
      have c3 := RB2.cell 3 _ rfl
      have c4 := RB2.cell 4 _ rfl
      have rl := RB2.lt
      have hxo : x.r.Ok := (HH.out.ok.ok x (List.mem_of_getElem? hx)).ok
      have hmem := Lib.hid (List.mem_of_getElem? hx)
      have O := rover_rec r x.r HRO.out hxo
      have NA := Lib.hid (fun (g1 cap1 : Nat) (o : Obj) (wq w9 : World) (hb : Below wr.heap.size wr wq) hne => RaS.app (g1 := g1) (cap1 := cap1) (o := o) (w9 := w9) (hS.keep hb) hx hne)
      have NO := Lib.hid (fun (w9 : World) he ho => RaS.over (w9 := w9) hS hx he ho)
      have hol : Hid ((restS (S.take i) r.id).length ≤ 64) := by have := (rest_sub (S.take i) r.id).length_le; rw [List.length_take] at this; show _ ≤ _; omega
      have HO6 := Lib.hid (ci_enc.one x)
      have EO := Lib.hid (fun hb => err_old (S := S) (n := n) HB0.out hb room)
      have HBD := Lib.hid (fun he => bad_some (r := r) HH.out.ok.ids hmem.out he)
      clear hcc hcx hx hS RB2 hxo hmem
      obtain ⟨⟨i2, s2, n2, a2, p2⟩, l2⟩ := x
      simp only [Nat.add_zero] at *
      by_cases he : i2 = r.id
      · have he1 : (i2 == r.id) = true := by rw [beq_iff_eq]; exact he
        have he2 : decide (i2 = r.id) = true := decide_eq_true he
        clear NA HO6
        have HE := Lib.hid he
        have hbd := Lib.hid (HBD.out he)
        generalize hov : overR r ⟨i2, s2, n2, a2, p2⟩ = ov2 at *
        replace hov := Lib.hid hov
        go_upto_region 8 with fail
        go_quiet (fail)
        clear he he1 he2
        have C2 := fun d os => Calls.regrown_of (O (grow (redrawn (wr.drewN nq) d) os))
        clear O
        go_upto_region 10 with fail
        have k0 := cell_regrown (w := wr.drewN nq) c0
        have k1 := cell_regrown (w := wr.drewN nq) c1
        have k2 := cell_regrown (w := wr.drewN nq) c2
        have k3 := cell_regrown (w := wr.drewN nq) c3
        have k4 := cell_regrown (w := wr.drewN nq) c4
        have ka := cell_regrown (w := wr.drewN nq) d0
        have kb := cell_regrown (w := wr.drewN nq) d1
        have kc := cell_regrown (w := wr.drewN nq) d2
        have kd := cell_regrown (w := wr.drewN nq) d3
        have ke := cell_regrown (w := wr.drewN nq) d4
        have kx := cell_regrown (w := wr.drewN nq) x0
        clear c0 c1 c2 c3 c4 d0 d1 d2 d3 d4 d5 x0
        (refine wp_region_quiet_below (by kernel_rfl) (by kernel_rfl) ?_; (repeat (go_big_quiet_step (first | with_reducible exact C2 _ _))); refine wpQuiet_nil ?_; intro _ hw'; obtain ⟨⟨dq, osq⟩, hw''⟩ := hw'; subst hw'')
        have BB : Hid (Below wr.heap.size wr (grow (redrawn (wr.drewN nq) dq) osq)) := (below_drewN (Below.refl _ wr) nq).trans (below_regrown (wr.drewN nq) dq osq)
        clear k0 k1 k2 k3 k4 ka kb kc kd ke kx C2
        cases ov2
        · obtain ⟨e1, e2⟩ := EO.out (by rw [hbd.out]; rfl)
          replace e1 := Lib.hid e1
          replace e2 := Lib.hid e2
          have BE := Lib.hid (B1.out.trans ((HS.out.below.trans (BB.out.mono HS.out.below.size)).mono B1.out.size))
          clear EO HBD NO hbd
          go_wp2
          go_ret
          exact ⟨by rw [e1.out]; rfl, by rw [e2.out]; exact HH.out.same BE.out⟩
        · have Q1 := Lib.hid (NO.out _ HE.out rfl BB.out)
          clear EO HBD NO hbd
          go_wp2
          go_roundw
          case rel => exact ⟨i + 1, hi1, by go_num, Q1.out⟩
          case measure => simp [intOf]; omega
      · have he1 : (i2 == r.id) = false := by rw [beq_eq_false_iff_ne]; exact he
        have he2 : decide (i2 = r.id) = false := decide_eq_false he
        clear O NO HBD EO c1 c2 c3 c4
        go_upto_region 8 with fail
        go_quiet (fail)
        go_wp2_with (at_builtin; refine wpList_append_lies _ rfl (.tmp 44) (.tmp 52) 56 rfl 0 63 i0 _ 6 40 Try.underlying56 hi0 hz0 hz1 hz2 rfl (by omega) ov (restS (S.take i) r.id).length ((restS (S.take i) r.id).map ci).flatten rfl (erow_keep HS.out.out ((below_drewN (Below.refl _ wr) nq).alloc (Nat.le_refl _) _)) ⟨_, 0, none⟩ 1 1 (ci ⟨⟨i2, s2, n2, a2, p2⟩, l2⟩) rfl rfl (World.news_of_block (cs := (ci ⟨⟨i2, s2, n2, a2, p2⟩, l2⟩).toArray) (t := 63) (fr := (0, 0)) (heap_alloc_new _ _)) HO6.out (by omega) (by have := hol.out; unfold maxLen; omega) (by have := hol.out; omega) (Nat.zero_le _) _ rfl ?_)
        intro g1 cap1 w9 hown hgrow hat hlt9
        have Q1 := Lib.hid (NA.out g1 cap1 _ (wr.drewN nq) w9 (below_drewN (Below.refl _ _) _) he hown hgrow (hat.imp id (fun h => by rw [h, World.size_alloc]; rfl)))
        clear hown hgrow hat NA c0 d0 d1 d2 d3 d4 d5 x0 gl
        go_wp2
        go_roundw
        case rel => exact ⟨i + 1, hi1, by go_num, Q1.out⟩
        case measure => simp [intOf]; omega
    · obtain rfl : i = S.length := by omega
      obtain ⟨hre, hbd⟩ := hS.end_
      obtain ⟨oa, oc, hov⟩ := erow_sl hre
      subst hov
      obtain ⟨e1, e2⟩ := err_ok HB0.out hbd room
      rw [e2] at HOK
      replace e1 := Lib.hid e1
      replace e2 := Lib.hid e2
      obtain ⟨⟨v1, q1, q2, q3⟩, q4⟩ := Lr.put (v' := ⟨oa, (restS S r.id).length, oc⟩) L1.out hre hS.below hS.lo
      have hgr : w.heap.size ≠ g := by have := HH.out.box.lt; omega
      have RB4 := Lib.hid ((RB1.out.keep hS.below).far ⟨g, 0, none⟩ (.slice oa (restS S r.id).length oc) (fun e => hgr e.symm))
      have L4 := Lib.hid q1
      have T4 := Lib.hid q2
      have hrl : (restS S r.id).length ≤ 64 := by have := rest_none_len S r.id; omega
      have FIN : Hid (∀ w5, RAft g room (putS ⟨r, n⟩ (restS S r.id)) (wr.setCell ⟨g, 0, none⟩ (.slice oa (restS S r.id).length oc)) w5 → ∃ gv cap, Cs g (qc false room ⟨some ⟨gv, 0, none⟩, (putS ⟨r, n⟩ (restS S r.id)).length, cap⟩) w5 ∧ (min (putS ⟨r, n⟩ (restS S r.id)).length room ≤ cap) ∧
          Aft false g room ⟨av, S.length, vc⟩ (addS room S r n) w (w5.setCell ⟨g, 0, none⟩ (.slice (some ⟨gv, 0, none⟩) (min (putS ⟨r, n⟩ (restS S r.id)).length room) cap))) := fun w5 ⟨v5, h1, h2, h3⟩ => by
        obtain ⟨a5, n5, c5⟩ := v5
        have hn5 : n5 = _ := h1.n
        have hpl := put_len ⟨r, n⟩ (restS S r.id)
        obtain ⟨gv, rfl⟩ : ∃ gv, a5 = some ⟨gv, 0, none⟩ := by
          rcases erow_form h1.row with ⟨_, e⟩ | ⟨gv, _, e, _⟩
          · rw [e] at hpl; simp at hpl
          · simp [Sl.v] at e; exact ⟨gv, e.1⟩
        subst hn5
        obtain ⟨-, C, hC, hcap, ht, hlc, hm⟩ := erow_open ci_enc h1.row
        obtain ⟨k1, k2⟩ := lr_cut (m := min (putS ⟨r, n⟩ (restS S r.id)).length room) h1 (by omega)
        refine ⟨gv, c5, h1.box, by simp only at hlc; omega, ?_⟩
        rw [e2.out]
        have etk : (putS ⟨r, n⟩ (restS S r.id)).take (min (putS ⟨r, n⟩ (restS S r.id)).length room) = (putS ⟨r, n⟩ (restS S r.id)).take room := by
          rw [Nat.min_comm, ← List.take_take, List.take_length]
        rw [etk] at k1
        refine RAft.aft HH.out ⟨_, k1, ?_, fun b hb => ?_⟩ HOK.out
        · exact (((Touch.of_below (fun b => b = g) B1.out).trans T4.out (fun _ _ h => h)).trans h2 (fun _ _ h => h)).trans k2 (fun _ _ h => h)
        · have := h3 b hb
          have s4 : w1.heap.size ≤ (wr.setCell ⟨g, 0, none⟩ (.slice oa (restS S r.id).length oc)).heap.size := T4.out.size
          have := hsz1.out
          omega
      have KP := rput_any ⟨r, n⟩ g room v1 (restS S r.id) (by omega) _ q1
      have hpl := put_len ⟨r, n⟩ (restS S r.id)
      have hpl2 : (putS ⟨r, n⟩ (restS S r.id)).length ≤ 65 := by omega
      have hrm : 1 ≤ room ∧ room ≤ 64 := ⟨HH.out.r1, HH.out.r2⟩
      clear hS hre hbd q1 q2 q3 x0 gl L2 hpl
      generalize putS ⟨r, n⟩ (restS S r.id) = P at *
      have g0 := q4.cell 0 _ rfl
      have gf := q4.free 0 _ rfl
      have gl := q4.lt
      clear q4
      go_upto_region 14 with fail
      generalize (wr.setCell ⟨g, 0, none⟩ (.slice oa (restS S r.id).length oc)) = w4 at *
      clear g0 gf gl
      have c0 := RB4.out.cell 0 _ rfl
      have c1 := RB4.out.cell 1 _ rfl
      have c2 := RB4.out.cell 2 _ rfl
      have c3 := RB4.out.cell 3 _ rfl
      have c4 := RB4.out.cell 4 _ rfl
      go_wp2_with fail
      refine KP.mono ?_; rintro e w5 ⟨rfl, hr5⟩
      obtain ⟨gv, cap, bx, hmc, AF0⟩ := FIN.out w5 hr5
      have AF := Lib.hid (AF0.then_ (Below.refl _ _).drew)
      clear KP hr5 FIN AF0 c0 c1 c2 c3 c4
      have g0 := bx.cell 0 _ rfl
      have g1 := bx.cell 1 _ rfl
      have gf := bx.free 0 _ rfl
      have gl := bx.lt
      clear bx
      obtain ⟨m, hm⟩ : ∃ m, min P.length room = m := ⟨_, rfl⟩
      have hm1 : min (P.length : Int) (room : Int) = (m : Nat) := by omega
      rw [hm] at hmc AF
      have hm0 : (0 : Int) ≤ (m : Nat) := by omega
      have hmc2 : (m : Int) ≤ cap := by omega
      have hm64 : (m : Int) ≤ 64 := by omega
      clear hm hrm
      go_upto_region 15 with fail
      go_region
      go_wp2
      go_ret
      exact ⟨by rw [e1.out]; rfl, AF.out⟩
end Go.Proofs.Ythebcaielbnhjaa
