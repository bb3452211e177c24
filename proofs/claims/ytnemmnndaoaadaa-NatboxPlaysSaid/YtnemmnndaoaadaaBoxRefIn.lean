/- The reference's box: In. -/
import Derived.Test.YtnemmnndaoaadaaBoxRefRbs
import Derived.Test.YtnemmnndaoaadaaBoxIn
namespace Go.Proofs.Ytnemmnndaoaadaa
open Go.Sort Go.RowKit Go.BigFrame
set_option linter.unusedVariables false
set_option linter.unusedSimpArgs false

/-- a field of a binding is stored -/
theorem RBs.field {g b n c i k : Nat} {S : Nat → Prop} {m f ip hold : Int} {room : Nat} {L : List Bd} {w : World} {x x' : Bd} {u : Value} (h : RBs g S m f ip hold room ⟨some ⟨b, 0, none⟩, n, c⟩ L w) (hx : L[i]? = some x) (hk : k < 7) (hc : ch x' = (ch x).set k u)
    (hm : MetR g S ⟨some ⟨b, 0, none⟩, n, c⟩ w x') (hw : HoldW room ((L.set i x').map (·.1))) (h16 : x'.1.met.length ≤ 16) :
    RBs g S m f ip hold room ⟨some ⟨b, 0, none⟩, n, c⟩ (L.set i x') (w.setCell ⟨b, i * 7 + k, none⟩ u) ∧ Touch (fun q => q = b) w (w.setCell ⟨b, i * 7 + k, none⟩ u) := by
  have hob : (Sl.v ⟨some ⟨b, 0, none⟩, n, c⟩).ownBlock = some b := rfl
  obtain ⟨hn, C, hC, hcl, hct, hlc, hcm⟩ := rrow_open (show RfRow 0 w (.slice (some ⟨b, 0, none⟩) n c) L from h.row)
  have hi : i < L.length := (List.getElem?_eq_some_iff.1 hx).1
  have tt : Touch (fun q => q = b) w (w.setCell ⟨b, i * 7 + k, none⟩ u) := Touch.set (F := fun q => q = b) (Touch.refl _ w) (fun _ => rfl) _
  have hbg := (h.vS b hob).2
  have hmt : ∀ y, MetR g S ⟨some ⟨b, 0, none⟩, n, c⟩ w y → MetR g S ⟨some ⟨b, 0, none⟩, n, c⟩ (w.setCell ⟨b, i * 7 + k, none⟩ u) y := fun y hy => ⟨hy.1, hy.2.1.touch tt (fun q hq e => (hy.2.2 q hq).2.2 (by rw [hob, e])), hy.2.2⟩
  refine ⟨⟨h.box.touch tt (fun e => hbg e.symm), ?_, by rw [List.length_set]; exact h.n, h.gS, h.vS, fun y hy => ?_, fun q hq => by simpa using h.lt q hq, hw, h.r1, h.r2, h.h1, h.h2, fun y hy => ?_⟩, tt⟩
  · have hC2 := hC.field i k (ch x) u (take_at hct hx) hk
    rw [← hc] at hC2
    have := hC2.own (n := L.length) (by rw [List.length_set]; omega) (by rw [List.length_set]; omega)
    rw [List.length_set, hcl, List.take_set, hct, ← List.map_set] at this
    show World.ownsRow _ _ _ _ _ _ _
    rw [List.length_set]
    show World.ownsRow _ _ _ _ (.slice (some ⟨b, 0, none⟩) n c) _ _
    rw [hn]
    exact this
  · rcases List.mem_or_eq_of_mem_set hy with h1 | rfl
    · exact hmt y (h.met y h1)
    · exact hmt _ hm
  · rcases List.mem_or_eq_of_mem_set hy with h1 | rfl
    · exact h.m16 y h1
    · exact h16
theorem RBs.block {g : Nat} {S : Nat → Prop} {m f ip hold : Int} {room n c : Nat} {a : Option Addr} {L : List Bd} {w : World} (h : RBs g S m f ip hold room ⟨a, n, c⟩ L w) (hl : 0 < L.length) : ∃ b, a = some ⟨b, 0, none⟩ := by
  rcases rrow_form h.row with ⟨_, rfl⟩ | ⟨b, _, h1, _⟩
  · simp at hl
  · simp [Sl.v] at h1; exact ⟨b, h1.1⟩
def hitP (f port si sp : Int) (b : Pb) : Bool := portP port b && passT f b.met si sp
theorem rinq_none {f hold now port si sp : Int} {room : Nat} {l : List Pb} (h : HoldW room l) (e : (sweepP now l).findIdx? (hitP f port si sp) = none) : inQ f hold now port si sp l = ((0, 0, 5), sweepP now l) := by
  have : rfIn f now port si sp l = none := e
  unfold inQ; rw [← rfIn_eq h, this]
theorem rinq_some {f hold now port si sp : Int} {room j : Nat} {l : List Pb} (h : HoldW room l) (e : (sweepP now l).findIdx? (hitP f port si sp) = some j) : inQ f hold now port si sp l = (((innAt (sweepP now l) j).1, (innAt (sweepP now l) j).2, 0), modP (sweepP now l) j (untP (now + hold))) := by
  have : rfIn f now port si sp l = some j := e
  unfold inQ; rw [← rfIn_eq h, this]
theorem inn_at (K : List Bd) (j : Nat) (h : j < K.length) : innAt (K.map (·.1)) j = (K[j].1.ii, K[j].1.ip) := by
  unfold innAt; rw [List.getElem?_map, List.getElem?_eq_getElem h]; rfl
def RBad (w : World) (e : Ending) (w' : World) : Prop := e = .returned (.tuple #[.agg #[.int .u32 0, .int .u16 0], .int .i64 1]) ∧ Below w.heap.size w w'
set_option maxHeartbeats 3200000 in
theorem rin_bad (g : Nat) (port si sp now : Int) (w : World) (hb : badI si sp now = true) :
    Calls Try.prog 9 #[.pointer (some ⟨g, 0, none⟩), .int .u64 now, .int .u16 port, .agg #[.int .u32 si, .int .u16 sp]] w (RBad w) := by
  have N1 := rnone_any si sp
  unfold badI at hb
  have hB : Hid (Below w.heap.size w ((w.alloc (.cells #[.int .u32 si, .int .u16 sp] 44)).alloc (.cells #[.int .u32 0, .int .u16 0] 44))) := by show Below _ _ _; (repeat (first | with_reducible exact Below.refl _ _ | with_reducible refine Below.drew ?_ | with_reducible refine below_drewN ?_ _ | with_reducible refine Below.alloc ?_ (by first | omega | (simp; done) | (simp; omega)) _ | with_reducible refine Below.setCell ?_ (by first | omega | (simp; done) | (simp; omega)) _))
  have X : Hid (Cs w.heap.size [.int .u32 si, .int .u16 sp] ((w.alloc (.cells #[.int .u32 si, .int .u16 sp] 44)).alloc (.cells #[.int .u32 0, .int .u16 0] 44))) := (Cs.new w [.int .u32 si, .int .u16 sp] 44).alloc _
  have Z : Hid (Cs (w.heap.size + 1) [.int .u32 0, .int .u16 0] ((w.alloc (.cells #[.int .u32 si, .int .u16 sp] 44)).alloc (.cells #[.int .u32 0, .int .u16 0] 44))) := by
    show Cs _ _ _
    have := Cs.new (w.alloc (.cells #[.int .u32 si, .int .u16 sp] 44)) [.int .u32 0, .int .u16 0] 44
    rw [World.size_alloc] at this
    exact this
  generalize hA : noneI si sp = A at *
  clear hA
  have x0 := X.out.cell 0 _ rfl
  have x1 := X.out.cell 1 _ rfl
  have xl := X.out.lt
  cases A
  · have hn : 4611686018427387904 < now := by simpa using hb
    clear hb
    go_enter Try.func9, Try.ntmps9
    go_wp2_with fail
    refine (N1 _).mono ?_; rintro e w1 ⟨rfl, d⟩
    replace Z := Lib.hid (Z.out.keep d)
    replace hB := Lib.hid (hB.out.trans (d.mono hB.out.size))
    clear x0 x1 xl d N1
    have z0 := Z.out.cell 0 _ rfl
    have z1 := Z.out.cell 1 _ rfl
    have zf0 := Z.out.free 0 _ rfl
    have zf1 := Z.out.free 1 _ rfl
    have zl := Z.out.lt
    go_wp2_with fail
    refine bodyPost_ret (v := .tuple #[.agg #[.int .u32 0, .int .u16 0], .int .i64 1]) (by simp [results, Try.results9, go_sem, *]) rfl ⟨rfl, ?_⟩
    have hb := hB.out
    (have zzh := Below.size hb; repeat (first | with_reducible exact hb | with_reducible refine Below.setCell ?_ (by first | omega | (simp; done) | (simp; omega)) _ | with_reducible refine Below.alloc ?_ (by first | omega | (simp; done) | (simp; omega)) _ | with_reducible refine Below.drew ?_))
  · clear hb
    go_enter Try.func9, Try.ntmps9
    go_wp2_with fail
    refine (N1 _).mono ?_; rintro e w1 ⟨rfl, d⟩
    replace Z := Lib.hid (Z.out.keep d)
    replace hB := Lib.hid (hB.out.trans (d.mono hB.out.size))
    clear x0 x1 xl d N1
    have z0 := Z.out.cell 0 _ rfl
    have z1 := Z.out.cell 1 _ rfl
    have zf0 := Z.out.free 0 _ rfl
    have zf1 := Z.out.free 1 _ rfl
    have zl := Z.out.lt
    go_wp2_with fail
    refine bodyPost_ret (v := .tuple #[.agg #[.int .u32 0, .int .u16 0], .int .i64 1]) (by simp [results, Try.results9, go_sem, *]) rfl ⟨rfl, ?_⟩
    have hb := hB.out
    (have zzh := Below.size hb; repeat (first | with_reducible exact hb | with_reducible refine Below.setCell ?_ (by first | omega | (simp; done) | (simp; omega)) _ | with_reducible refine Below.alloc ?_ (by first | omega | (simp; done) | (simp; omega)) _ | with_reducible refine Below.drew ?_))
def RInPost (g : Nat) (S : Nat → Prop) (m f ip hold : Int) (room : Nat) (now port si sp : Int) (L : List Bd) (w : World) (e : Ending) (w' : World) : Prop :=
  ∃ L' : List Bd, L'.map (·.1) = (inQ f hold now port si sp (L.map (·.1))).2 ∧
    e = .returned (.tuple #[.agg #[.int .u32 (inQ f hold now port si sp (L.map (·.1))).1.1, .int .u16 (inQ f hold now port si sp (L.map (·.1))).1.2.1], .int .i64 (inQ f hold now port si sp (L.map (·.1))).1.2.2]) ∧ (∃ v', RBs g (grownS S w w') m f ip hold room v' L' w') ∧ Touch S w w'
def RiJ (K : List Bd) (f port si sp : Int) (w3 : World) (iv : Value) (wr : World) : Prop := ∃ i : Nat, iv = .int .i64 (i : Nat) ∧ i ≤ K.length ∧ (∀ x ∈ K.take i, hitP f port si sp x.1 = false) ∧ Below w3.heap.size w3 wr
set_option maxHeartbeats 6400000 in
set_option maxRecDepth 100000 in
theorem rin_ok (g : Nat) (S : Nat → Prop) (m f ip hold : Int) (room : Nat) (v : Sl) (now port si sp : Int) (L : List Bd) (w : World) (h : RBs g S m f ip hold room v L w) (hb : badI si sp now = false) (h0 : 0 ≤ now) :
    Calls Try.prog 9 #[.pointer (some ⟨g, 0, none⟩), .int .u64 now, .int .u16 port, .agg #[.int .u32 si, .int .u16 sp]] w (RInPost g S m f ip hold room now port si sp L w) := by
  have N1 := rnone_any si sp
  unfold badI at hb
  have hh1 := h.h1
  have hh2 := h.h2
  have hS := h.lt
  have HW := Lib.hid h.hw
  have hB : Hid (Below w.heap.size w ((w.alloc (.cells #[.int .u32 si, .int .u16 sp] 44)).alloc (.cells #[.int .u32 0, .int .u16 0] 44))) := by show Below _ _ _; (repeat (first | with_reducible exact Below.refl _ _ | with_reducible refine Below.drew ?_ | with_reducible refine below_drewN ?_ _ | with_reducible refine Below.alloc ?_ (by first | omega | (simp; done) | (simp; omega)) _ | with_reducible refine Below.setCell ?_ (by first | omega | (simp; done) | (simp; omega)) _))
  have X : Hid (Cs w.heap.size [.int .u32 si, .int .u16 sp] ((w.alloc (.cells #[.int .u32 si, .int .u16 sp] 44)).alloc (.cells #[.int .u32 0, .int .u16 0] 44))) := (Cs.new w [.int .u32 si, .int .u16 sp] 44).alloc _
  have Z : Hid (Cs (w.heap.size + 1) [.int .u32 0, .int .u16 0] ((w.alloc (.cells #[.int .u32 si, .int .u16 sp] 44)).alloc (.cells #[.int .u32 0, .int .u16 0] 44))) := by
    show Cs _ _ _
    have := Cs.new (w.alloc (.cells #[.int .u32 si, .int .u16 sp] 44)) [.int .u32 0, .int .u16 0] 44
    rw [World.size_alloc] at this
    exact this
  have HB := Lib.hid (h.keep hB.out)
  have hgS := h.lt g h.gS
  have HNO : Hid (∀ q, w.heap.size ≤ q → ¬ S q) := fun q hq hk => Nat.lt_irrefl _ (Nat.lt_of_lt_of_le (hS q hk) hq)
  clear h hS
  generalize hA : noneI si sp = A at *
  clear hA
  obtain ⟨rfl, hn⟩ : A = false ∧ now ≤ 4611686018427387904 := by
    revert hb
    cases A <;> simp
  have hwr : IntKind.u64.wrap (now + hold) = now + hold := IntWalk.u64_in _ (by omega)
  have hw0 : 0 ≤ now + hold := by omega
  clear hb
  have x0 := X.out.cell 0 _ rfl
  have x1 := X.out.cell 1 _ rfl
  have xl := X.out.lt
  go_enter Try.func9, Try.ntmps9
  go_wp2_with fail
  refine (N1 _).mono ?_; rintro e w1 ⟨rfl, d⟩
  replace X := Lib.hid (X.out.keep d)
  replace Z := Lib.hid (Z.out.keep d)
  replace HB := Lib.hid (HB.out.keep d)
  replace hB := Lib.hid (hB.out.trans (d.mono hB.out.size))
  clear x0 x1 xl d N1
  have XZ1 : Hid (w.heap.size + 1 < w1.heap.size) := Z.out.lt
  have SW := rsweep_b now g S m f ip hold room v L w1 HB.out
  go_wp2_with fail
  refine SW.mono ?_; rintro e w3 ⟨rfl, ⟨v3, hb3⟩, ht3⟩
  replace X := Lib.hid (X.out.touch ht3 (fun e => by omega))
  replace Z := Lib.hid (Z.out.touch ht3 (fun e => by omega))
  have hSg : S g := HB.out.gS
  have T : Hid (Touch S w w3) := (Touch.of_below S hB.out).trans (ht3.mono (F' := S) (fun k _ e => by rw [e]; exact hSg)) (fun _ _ h => h)
  obtain ⟨S1, hS1⟩ : ∃ S1, S1 = grownS S w1 w3 := ⟨_, rfl⟩
  rw [← hS1] at hb3
  have HS1 : Hid (∀ k, S1 k → S k ∨ w.heap.size ≤ k) := fun k hk => by
    rw [hS1] at hk
    exact hk.imp id (fun h => Nat.le_trans hB.out.size h.1)
  have HS2 : Hid (∀ k, S1 k → k ≠ w.heap.size ∧ k ≠ w.heap.size + 1) := fun k hk => by
    rw [hS1] at hk
    rcases hk with hk | ⟨h1, _⟩
    · exact ⟨fun e => HNO.out k (by omega) hk, fun e => HNO.out k (by omega) hk⟩
    · have h3 := XZ1.out
      exact ⟨by omega, by omega⟩
  obtain ⟨K, hK⟩ : ∃ K, keepU now L = K := ⟨_, rfl⟩
  rw [hK] at hb3
  have HK : Hid (K.map (·.1) = sweepP now (L.map (·.1))) := by rw [← hK]; exact keepU_fst now L
  replace HB := Lib.hid hb3
  clear hK hS1 SW hb3 ht3 hB
  have hlen := HB.out.len
  have hr2 := HB.out.r2
  have hn3 := HB.out.n
  obtain ⟨a4, n4, c4⟩ := v3
  simp only at hn3
  subst hn3
  have hl64 : (K.length : Int) ≤ 64 := by omega
  go_wp2_with fail
  go_loopw [11] (fun iv wr => RiJ K f port si sp w3 iv wr) (fun iv _ => 100 - (intOf iv).toNat)
  case atStart => exact ⟨0, rfl, Nat.zero_le _, by simp, Below.refl _ _⟩
  case round =>
    obtain ⟨i, rfl, hi, hno, hb⟩ := hrel
    have hi0 : (0 : Int) ≤ i := by omega
    have HBr := Lib.hid (HB.out.keep hb)
    have Xr := Lib.hid (X.out.keep hb)
    have Zr := Lib.hid (Z.out.keep hb)
    have Tr := Lib.hid (T.out.trans (Touch.of_below S hb) (fun _ _ h => h))
    have HB3 := Lib.hid hb
    have e5 := HBr.out.box.cell 5 _ rfl
    have gl := HBr.out.box.lt
    by_cases hlt : i < K.length
    · have hlt' : (i : Int) < K.length := by omega
      obtain ⟨gv, rfl⟩ := HB.out.block (by omega)
      obtain ⟨-, C, hC, hcap, htk, hlc, hm⟩ := rrow_open (show RfRow 0 wr (.slice (some ⟨gv, 0, none⟩) K.length c4) K from HBr.out.row)
      have hx : K[i]? = some K[i] := List.getElem?_eq_getElem hlt
      have hCi := take_at htk hx
      have hmr := HBr.out.met K[i] (List.getElem_mem hlt)
      have hm16 := HBr.out.m16 K[i] (List.getElem_mem hlt)
      have HI : Hid (i + 1 ≤ K.length) := hlt
      have HNX := Lib.hid (fun hq => take_no (p := hitP f port si sp) hlt hno hq)
      have HYX := Lib.hid (fun hq => idx_some (p := hitP f port si sp) hlt hq hno)
      have HIN := Lib.hid (inn_at K i hlt)
      have HSET := Lib.hid (set_fst K i hlt (untP (now + hold)) K[i].2)
      have d0 := hC.cell i 0 _ _ hCi rfl
      have d1 := hC.cell i 1 _ _ hCi rfl
      have d4 := hC.cell i 4 _ _ hCi rfl
      have d5 := hC.cell i 5 _ _ hCi rfl
      have d6 := hC.cell i 6 _ _ hCi rfl
      have f6 := hC.free (i * 7 + 6)
      have blt := hC.lt
      have HX := Lib.hid hx
      generalize K[i] = y at *
      obtain ⟨⟨u1, u2, u3, u4, u5, u6, u7⟩, ⟨z1, z2, z3⟩⟩ := y
      have hz2 := hmr.1.1
      have HNC := Lib.hid hmr.1.2
      have ha := hmr.2.1
      have HMR := Lib.hid hmr.2.2
      simp only at hz2 ha hm16 HIN HSET
      subst hz2
      simp only [Nat.add_zero] at d0 d1 d4 d5 d6
      clear hC hcap htk hlc hm hx hCi hmr hb hno
      by_cases hp : u5 = port
      · subst hp
        have K1 := fun d os => Calls.regrown_of (rpasses_any m f z1 z3 u7 (by omega) si sp (grow (redrawn wr d) os) ((ha.below (below_regrown wr d os)).more (below_regrown wr d os).size))
        obtain ⟨pt, hpt⟩ : ∃ pt, passT f u7 si sp = pt := ⟨_, rfl⟩
        have HHIT : Hid (hitP f u5 si sp ⟨u1, u2, u3, u4, u5, u6, u7⟩ = pt) := by show _ = _; unfold hitP portP; simp [hpt]
        rw [hpt] at K1
        clear hpt
        go_upto_region 9 with fail
        have k0 := cell_regrown (HBr.out.box.cell 0 _ rfl)
        have k1 := cell_regrown (HBr.out.box.cell 1 _ rfl)
        have k5 := cell_regrown (HBr.out.box.cell 5 _ rfl)
        have kd := cell_regrown d5
        have y0 := cell_regrown (Xr.out.cell 0 _ rfl)
        have y1 := cell_regrown (Xr.out.cell 1 _ rfl)
        clear d0 d1 d4 d5 d6 f6 e5
        (refine wp_region_quiet_below (by kernel_rfl) (by kernel_rfl) ?_; (repeat (go_big_quiet_step (first | with_reducible exact K1 _ _))); refine wpQuiet_nil ?_; intro _ hw'; obtain ⟨⟨dq, osq⟩, hw''⟩ := hw'; subst hw'')
        have bq := below_regrown wr dq osq
        have HB4 := Lib.hid (HBr.out.keep bq)
        have X4 := Lib.hid (Xr.out.keep bq)
        have Z4 := Lib.hid (Zr.out.keep bq)
        have T4 := Lib.hid (Tr.out.trans (Touch.of_below S bq) (fun _ _ h => h))
        have B4 := Lib.hid (HB3.out.trans (bq.mono HB3.out.size))
        have ha4 := (ha.below bq).more bq.size
        clear k0 k1 k5 kd y0 y1 K1 bq gl blt
        generalize grow (redrawn wr dq) osq = w6 at *
        cases pt with
        | false =>
          replace HNX := Lib.hid (HNX.out HHIT.out)
          clear HYX ha4
          go_wp2_with fail
          go_roundw
          case rel => exact ⟨i + 1, by go_num, HI.out, HNX.out, B4.out⟩
          case measure => have := HI.out; simp [intOf]; omega
        | true =>
          replace HYX := Lib.hid (HYX.out HHIT.out)
          clear HNX
          obtain ⟨-, C, hC, hcap, htk, hlc, hm⟩ := rrow_open (show RfRow 0 w6 (.slice (some ⟨gv, 0, none⟩) K.length c4) K from HB4.out.row)
          have hCi := take_at htk HX.out
          have HQ := rinq_some (hold := hold) HW.out (by rw [← HK.out]; exact HYX.out)
          rw [← HK.out, HIN.out, ← HSET.out] at HQ
          have HQ2 : HoldW room ((K.set i (untP (now + hold) ⟨u1, u2, u3, u4, u5, u6, u7⟩, ⟨z1, u7.length, z3⟩)).map (·.1)) := by
            have := holdW_in (f := f) (hold := hold) (now := now) (port := u5) (si := si) (sp := sp) HW.out
            rw [HQ] at this
            exact this
          have HQH := Lib.hid HQ
          obtain ⟨q1, q2⟩ := RBs.field (x' := (untP (now + hold) ⟨u1, u2, u3, u4, u5, u6, u7⟩, ⟨z1, u7.length, z3⟩)) (k := 6) (u := .int .u64 (now + hold)) (HB4.out.keep ((Below.refl w6.heap.size w6).drew)) HX.out (by decide) rfl ⟨⟨rfl, HNC.out⟩, ha4.below ((Below.refl w6.heap.size w6).drew), HMR.out⟩ HQ2 hm16
          have Q1 := Lib.hid q1
          have Q2 := Lib.hid q2
          have e5 := HB4.out.box.cell 5 _ rfl
          have e3 := HB4.out.box.cell 3 _ rfl
          have d6 := hC.cell i 6 _ _ hCi rfl
          have f6 := hC.free (i * 7 + 6)
          have gl := HB4.out.box.lt
          have blt := hC.lt
          clear hC hcap htk hlc hm hCi HQ HQ2 q1 q2 ha4
          go_wp2_with fail
          go_region
          change Exit.then _ _ _ _ (w6.drew.setCell ⟨gv, i * 7 + 6, none⟩ (.int .u64 (now + hold)))
          have hgv : S1 gv := (HB4.out.vS gv rfl).1
          have X7 := Lib.hid (X4.out.drew.touch Q2.out (fun e => (HS2.out gv hgv).1 e.symm))
          have Z7 := Lib.hid (Z4.out.drew.touch Q2.out (fun e => (HS2.out gv hgv).2 e.symm))
          have T7 : Hid (Touch S w (w6.drew.setCell ⟨gv, i * 7 + 6, none⟩ (.int .u64 (now + hold)))) := by
            refine (T4.out.trans (Touch.of_below S ((Below.refl w6.heap.size w6).drew)) (fun _ _ h => h)).trans Q2.out (fun k hk e => ?_)
            rcases HS1.out gv hgv with h1 | h1
            · rw [e]; exact h1
            · omega
          clear e5 e3 d6 f6 gl blt HB4 X4 Z4 T4 B4
          generalize (w6.drew.setCell ⟨gv, i * 7 + 6, none⟩ (.int .u64 (now + hold))) = w7 at *
          obtain ⟨-, C, hC, hcap, htk, hlc, hm⟩ := rrow_open (show RfRow 0 w7 (.slice (some ⟨gv, 0, none⟩) K.length c4) _ from Q1.out.row)
          have hki : i < K.length := HI.out
          have hCi := take_at htk (List.getElem?_set_self hki)
          have e5 := Q1.out.box.cell 5 _ rfl
          have d0 := hC.cell i 0 _ _ hCi rfl
          have d1 := hC.cell i 1 _ _ hCi rfl
          have gl := Q1.out.box.lt
          have blt := hC.lt
          have z0 := Z7.out.cell 0 _ rfl
          have z1' := Z7.out.cell 1 _ rfl
          have zf0 := Z7.out.free 0 _ rfl
          have zf1 := Z7.out.free 1 _ rfl
          have zl := Z7.out.lt
          simp only [Nat.add_zero, untP] at d0 d1
          clear hC hcap htk hlc hm hCi
          go_wp2_with fail
          refine bodyPost_ret (v := .tuple #[.agg #[.int .u32 u1, .int .u16 u2], .int .i64 0]) (by simp [results, Try.results9, go_sem, *]) rfl ?_
          unfold RInPost
          rw [HQH.out]
          have t : Touch (fun k => k = w.heap.size + 1) w7 ((w7.setCell ⟨w.heap.size + 1, 0, none⟩ (.int .u32 u1)).setCell ⟨w.heap.size + 1, 1, none⟩ (.int .u16 u2)) := Touch.set (F := fun k => k = w.heap.size + 1) (Touch.set (F := fun k => k = w.heap.size + 1) (Touch.refl _ w7) (fun _ => rfl) _) (fun _ => rfl) _
          have QF := Q1.out.touch t (fun k hk e => (HS2.out k hk).2 e)
          exact ⟨_, rfl, rfl, ⟨_, QF.mono (fun k hk => (HS1.out k hk).imp id (fun h1 => ⟨h1, QF.lt k hk⟩)) (grown_lt (fun k hk => Nat.lt_of_not_le (fun h1 => HNO.out k h1 hk)) (Nat.le_trans T7.out.size t.size))⟩, T7.out.trans t (fun k h1 h2 => by omega)⟩
      · have hp2 : (u5 == port) = false := by rw [beq_eq_false_iff_ne]; exact hp
        have HHIT : Hid (hitP f port si sp ⟨u1, u2, u3, u4, u5, u6, u7⟩ = false) := by show _ = _; unfold hitP portP; rw [decide_eq_false hp]; rfl
        replace HNX := Lib.hid (HNX.out HHIT.out)
        clear HYX ha
        go_wp2_with fail
        go_roundw
        case rel => exact ⟨i + 1, by go_num, HI.out, HNX.out, HB3.out⟩
        case measure => have := HI.out; simp [intOf]; omega
    · obtain rfl : i = K.length := by omega
      rw [List.take_length] at hno
      have HQ := Lib.hid (rinq_none (f := f) (hold := hold) (now := now) (port := port) (si := si) (sp := sp) HW.out (by rw [← HK.out]; exact idx_none hno))
      clear hno hb
      have z0 := Zr.out.cell 0 _ rfl
      have z1' := Zr.out.cell 1 _ rfl
      have zf0 := Zr.out.free 0 _ rfl
      have zf1 := Zr.out.free 1 _ rfl
      have zl := Zr.out.lt
      go_wp2_with fail
      refine bodyPost_ret (v := .tuple #[.agg #[.int .u32 0, .int .u16 0], .int .i64 5]) (by simp [results, Try.results9, go_sem, *]) rfl ?_
      unfold RInPost
      rw [HQ.out]
      have t : Touch (fun k => k = w.heap.size + 1) wr ((wr.setCell ⟨w.heap.size + 1, 0, none⟩ (.int .u32 0)).setCell ⟨w.heap.size + 1, 1, none⟩ (.int .u16 0)) := Touch.set (F := fun k => k = w.heap.size + 1) (Touch.set (F := fun k => k = w.heap.size + 1) (Touch.refl _ wr) (fun _ => rfl) _) (fun _ => rfl) _
      have QF := HBr.out.touch t (fun k hk e => (HS2.out k hk).2 e)
      exact ⟨K, HK.out, rfl, ⟨_, QF.mono (fun k hk => (HS1.out k hk).imp id (fun h1 => ⟨h1, QF.lt k hk⟩)) (grown_lt (fun k hk => Nat.lt_of_not_le (fun h1 => HNO.out k h1 hk)) (Nat.le_trans Tr.out.size t.size))⟩, Tr.out.trans t (fun k h1 h2 => by omega)⟩
end Go.Proofs.Ytnemmnndaoaadaa
