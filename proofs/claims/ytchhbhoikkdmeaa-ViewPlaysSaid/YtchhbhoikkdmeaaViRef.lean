/- The reference's view in memory: find, Of, Live, Events. -/
import Derived.Test.YtchhbhoikkdmeaaViRefMath
namespace Go.Proofs.Ytchhbhoikkdmeaa
open Go.Sort Go.RowKit Go.BigFrame
set_option linter.unusedVariables false
set_option linter.unusedSimpArgs false

/-- the reference's view: what is known in one row, the events in another -/
structure Rs (g : Nat) (vl ve : Sl) (v : Vw) (w : World) : Prop where
  box : Cs g [.slice vl.a vl.n vl.c, .slice ve.a ve.n ve.c] w
  row : ERow rcs 5 48 w vl.v (membersV v)
  ev : ERow ce 4 90 w ve.v v.E
  ne1 : vl.v.ownBlock ≠ some g
  ne2 : ve.v.ownBlock ≠ some g
  ne3 : ∀ b, vl.v.ownBlock = some b → ve.v.ownBlock ≠ some b
  ok : OkV v
def OwnV (g : Nat) (vl ve : Sl) (k : Nat) : Prop := k = g ∨ vl.v.ownBlock = some k ∨ ve.v.ownBlock = some k
section
variable {g : Nat} {vl ve : Sl} {v : Vw} {w w' : World} {F : Nat → Prop}
theorem Rs.touch (h : Rs g vl ve v w) (ht : Touch F w w') (hF : ∀ b, OwnV g vl ve b → ¬ F b) : Rs g vl ve v w' :=
  ⟨h.box.touch ht (hF _ (.inl rfl)), erow_touch h.row ht (fun b hb => hF b (.inr (.inl hb))), erow_touch h.ev ht (fun b hb => hF b (.inr (.inr hb))), h.ne1, h.ne2, h.ne3, h.ok⟩
theorem Rs.keep (h : Rs g vl ve v w) (hb : Below w.heap.size w w') : Rs g vl ve v w' := h.touch (Touch.of_below (fun _ => False) hb) (fun _ _ h => h)
theorem Rs.ln (h : Rs g vl ve v w) : vl.n = (membersV v).length := erow_n h.row
theorem Rs.en (h : Rs g vl ve v w) : ve.n = v.E.length := erow_n h.ev
theorem Rs.lt (h : Rs g vl ve v w) : ∀ b, OwnV g vl ve b → b < w.heap.size := by
  rintro b (rfl | hb | hb)
  · exact h.box.lt
  · exact erow_lt h.row hb
  · exact erow_lt h.ev hb
theorem Rs.rd (h : Rs g vl ve v w) : RdE rcs 5 w vl.a (membersV v) := erow_rd (n := vl.n) (cap := vl.c) rcs_enc h.row
theorem Rs.rde (h : Rs g vl ve v w) : RdE ce 4 w ve.a v.E := erow_rd (n := ve.n) (cap := ve.c) ce_enc h.ev
end
/-- behind a call -/
def RAft (g : Nat) (vl ve : Sl) (v' : Vw) (w w' : World) : Prop := ∃ vl' ve', Rs g vl' ve' v' w' ∧ Touch (OwnV g vl ve) w w' ∧ ∀ b, OwnV g vl' ve' b → OwnV g vl ve b ∨ w.heap.size ≤ b
theorem Rs.same {g : Nat} {vl ve : Sl} {v : Vw} {w w' : World} (h : Rs g vl ve v w) (hb : Below w.heap.size w w') : RAft g vl ve v w w' := ⟨vl, ve, h.keep hb, Touch.of_below _ hb, fun _ hb => .inl hb⟩
theorem RAft.after {g : Nat} {vl ve : Sl} {v' : Vw} {w w1 w' : World} (hb : Below w.heap.size w w1) (h : RAft g vl ve v' w1 w') : RAft g vl ve v' w w' := by
  obtain ⟨vl', ve', h1, h2, h3⟩ := h
  exact ⟨vl', ve', h1, (Touch.of_below _ hb).trans h2 (fun _ _ h => h), fun b hk => (h3 b hk).imp id (fun h => Nat.le_trans hb.size h)⟩
theorem RAft.then_ {g : Nat} {vl ve : Sl} {v' : Vw} {w w1 w' : World} (h : RAft g vl ve v' w w1) (hb : Below w1.heap.size w1 w') : RAft g vl ve v' w w' := by
  obtain ⟨vl', ve', h1, h2, h3⟩ := h
  exact ⟨vl', ve', h1.keep hb, h2.trans (Touch.of_below (OwnV g vl ve) hb) (fun _ _ h => h), h3⟩
theorem RAft.trans {g : Nat} {vl ve vl1 ve1 : Sl} {v' : Vw} {w w1 w' : World} (ht : Touch (OwnV g vl ve) w w1) (hn : ∀ b, OwnV g vl1 ve1 b → OwnV g vl ve b ∨ w.heap.size ≤ b) (h : RAft g vl1 ve1 v' w1 w') : RAft g vl ve v' w w' := by
  obtain ⟨vl', ve', h2, h3, h4⟩ := h
  refine ⟨vl', ve', h2, ⟨h3.os.trans ht.os, h3.tape.trans ht.tape, h3.output.trans ht.output, Nat.le_trans ht.size h3.size, fun b hb hk => ?_⟩, fun b hb => ?_⟩
  · rw [h3.block b (Nat.lt_of_lt_of_le hb ht.size) (fun e => by
      rcases hn b e with h5 | h5
      · exact hk h5
      · omega), ht.block b hb hk]
  · rcases h4 b hb with h5 | h5
    · exact hn b h5
    · exact .inr (Nat.le_trans ht.size h5)
theorem find_yes {v : Vw} (hv : OkV v) {i : Int} {j : Nat} {x : Rec} (hx : (membersV v)[j]? = some x) (hj : j ≤ posR (membersV v) i) (h : i ≤ x.id) : posR (membersV v) i = j ∧ knows v i = decide (x.id = i) := by
  have hp := pos_here hx hj h
  refine ⟨hp, ?_⟩
  cases hk : knows v i with
  | true =>
    obtain ⟨h1, h2⟩ := pos_knows hv hk
    rw [hp, hx] at h1
    have h1 : x = v.k i.toNat := Option.some.inj h1
    rw [h1, h2]; simp
  | false => exact (decide_eq_false (pos_unknown hv hk (List.mem_of_getElem? hx))).symm
theorem find_end {v : Vw} (hv : OkV v) {i : Int} (hj : (membersV v).length ≤ posR (membersV v) i) : posR (membersV v) i = (membersV v).length ∧ knows v i = false := by
  have hp : posR (membersV v) i = (membersV v).length := Nat.le_antisymm (pos_le _ _) hj
  refine ⟨hp, ?_⟩
  cases hk : knows v i with
  | false => rfl
  | true =>
    obtain ⟨h1, _⟩ := pos_knows hv hk
    have := (List.getElem?_eq_some_iff.1 h1).1
    omega
def FindPost (v : Vw) (i : Int) (w : World) (e : Ending) (w' : World) : Prop := e = .returned (.tuple #[.int .i64 (posR (membersV v) i : Nat), .bool (knows v i)]) ∧ Below w.heap.size w w'
def FdJ (L : List Rec) (i : Int) (w : World) (iv : Value) (wr : World) : Prop := ∃ j : Nat, iv = .int .i64 (j : Nat) ∧ j ≤ L.length ∧ j ≤ posR L i ∧ Below w.heap.size w wr
set_option maxHeartbeats 1600000 in
theorem rfind_any (i : Int) (g : Nat) (vl ve : Sl) (v : Vw) (w : World) (h : Rs g vl ve v w) :
    Calls Try.prog 33 #[.pointer (some ⟨g, 0, none⟩), .int .i64 i] w (FindPost v i w) := by
  unfold FindPost
  have HF := Lib.hid (fun j x => find_yes h.ok (i := i) (j := j) (x := x))
  have HE := Lib.hid (find_end h.ok (i := i))
  have HN := Lib.hid (fun j x => pos_on (L := membersV v) (i := i) (j := j) (x := x))
  have hn := h.ln
  have hml := members_len v
  have HH := Lib.hid h
  have HR := Lib.hid h.rd
  have x0 := h.box.cell 0 _ rfl
  have gl := h.box.lt
  obtain ⟨a, n, c⟩ := vl
  simp only at hn HR x0
  subst hn
  clear h
  generalize membersV v = L at *
  generalize knows v i = q at *
  have hl2 : (L.length : Int) ≤ 33 := by omega
  go_enter Try.func33, Try.ntmps33
  go_wp2_with fail
  go_loopw [6] (fun iv wr => FdJ L i w iv wr) (fun iv _ => 100 - (intOf iv).toNat)
  case atStart => exact ⟨0, rfl, Nat.zero_le _, Nat.zero_le _, Below.refl _ _⟩
  case round =>
    obtain ⟨j, rfl, hj, hp, hb⟩ := hrel
    have hj0 : (0 : Int) ≤ j := by omega
    have H1 := HH.out.keep hb
    clear x0 gl
    have x0 := H1.box.cell 0 _ rfl
    have gl := H1.box.lt
    simp only at x0
    have HB := Lib.hid hb
    clear H1
    by_cases hlt : j < L.length
    · have hlt' : (j : Int) < L.length := by omega
      obtain ⟨x, hx⟩ : ∃ x, L[j]? = some x := ⟨_, List.getElem?_eq_getElem hlt⟩
      obtain ⟨b, off, rfl, hbl, hcc⟩ := (HR.out.keep hb) (by omega)
      have c0 := hcc j x hx 0 _ rfl
      simp only [Nat.add_zero] at c0
      have KF := HF.out j x hx hp
      have KN := HN.out j x hx hp
      have HI : Hid (j + 1 ≤ L.length) := hlt
      clear hcc hx hb
      obtain ⟨xi, r1, r2, r3, r4⟩ := x
      simp only at c0 KF KN
      by_cases hxi : i ≤ xi
      · have KF := KF hxi
        have EP := Lib.hid KF.1
        have EQ := Lib.hid KF.2
        clear KF KN
        have hge : decide (i ≤ xi) = true := decide_eq_true hxi
        go_upto_region 5 with fail
        go_quiet (fail)
        have HB2 := Lib.hid (HB.out.trans ((below_drewN (Below.refl wr.heap.size wr) nq).mono HB.out.size))
        go_wp2
        refine bodyPost_ret (v := (.tuple #[.int .i64 (j : Nat), .bool (xi == i)])) (by simp [results, Try.results33, go_sem, *]) rfl ?_
        exact ⟨by rw [EP.out, EQ.out, show (xi == i) = decide (xi = i) by rw [Bool.eq_iff_iff]; simp], HB2.out⟩
      · have hge : decide (i ≤ xi) = false := decide_eq_false hxi
        have EN := Lib.hid (KN (by omega))
        clear KF KN
        go_wp2_with fail
        go_roundw
        case rel => exact ⟨j + 1, by go_num, HI.out, EN.out, HB.out⟩
        case measure => have := HI.out; simp [intOf]; omega
    · obtain rfl : j = L.length := by omega
      obtain ⟨e1, e2⟩ := HE.out hp
      have E1 := Lib.hid e1
      have E2 := Lib.hid e2
      clear e1 e2 hp
      go_wp2_with fail
      refine bodyPost_ret (v := (.tuple #[.int .i64 (L.length : Nat), .bool false])) (by simp [results, Try.results33, go_sem, *]) rfl ?_
      exact ⟨by rw [E1.out, E2.out], HB.out⟩
def ROfPost (v : Vw) (i : Int) (w : World) (e : Ending) (w' : World) : Prop := e = .returned (.tuple #[.agg #[.int .i64 (ofV v i).id, .int .i64 (ofV v i).st, .int .u32 (ofV v i).n, .int .u32 (ofV v i).ip, .int .u16 (ofV v i).port], .bool (knows v i)]) ∧ Below w.heap.size w w'
set_option maxHeartbeats 1600000 in
theorem rof_any (i : Int) (g : Nat) (vl ve : Sl) (v : Vw) (w : World) (h : Rs g vl ve v w) :
    Calls Try.prog 16 #[.pointer (some ⟨g, 0, none⟩), .int .i64 i] w (ROfPost v i w) := by
  unfold ROfPost
  have hb : Below w.heap.size w (w.alloc (.cells #[.int .i64 0, .int .i64 0, .int .u32 0, .int .u32 0, .int .u16 0] 48)) := (Below.refl _ w).alloc (Nat.le_refl _) _
  have h1 := h.keep hb
  have K := rfind_any i g vl ve v _ h1
  unfold FindPost at K
  have HH := Lib.hid h1
  have gl0 := h.box.lt
  have hml := members_len v
  cases hk : knows v i with
  | false =>
    rw [of_no hk]
    rw [hk] at K
    clear h h1 hb hk
    generalize posR (membersV v) i = p at *
    go_enter Try.func16, Try.ntmps16
    go_wp2_with fail
    refine K.mono ?_; rintro e w1 ⟨rfl, b1⟩; obtain ⟨hc1, hf1, hz1⟩ := bcell b1; (try simp at hz1); have kc1_0 := fun o => hc1 (w.heap.size) o (by first | omega | (simp; done) | (simp; omega)); have kf1_0 := fun o => hf1 (w.heap.size) o (by first | omega | (simp; done) | (simp; omega)); have kl1_0 : w.heap.size < w1.heap.size := (by omega); clear hc1 hf1
    go_wp2
    refine bodyPost_ret (v := (.tuple #[.agg #[.int .i64 0, .int .i64 0, .int .u32 0, .int .u32 0, .int .u16 0], .bool false])) (by simp [results, Try.results16, go_sem, *]) rfl ?_
    exact ⟨rfl, by (have zz0 := Below.size b1; (try simp at zz0); repeat (first | with_reducible exact Below.refl _ _ | with_reducible refine Below.drew ?_ | with_reducible refine below_drewN ?_ _ | with_reducible refine Below.alloc ?_ (by first | omega | (simp; done) | (simp; omega)) _ | with_reducible refine Below.setCell ?_ (by first | omega | (simp; done) | (simp; omega)) _ | (with_reducible refine Below.trans ?_ (Below.mono b1 (by first | omega | (simp; done) | (simp; omega))))))⟩
  | true =>
    have hp := pos_knows h.ok hk
    rw [of_yes hk]
    rw [hk] at K
    have hx := hp.1
    clear hp
    have hln := h.ln
    have hpl := (List.getElem?_eq_some_iff.1 hx).1
    obtain ⟨a, n, c⟩ := vl
    simp only at hln
    subst hln
    clear h h1 hb hk
    generalize v.k i.toNat = r at *
    generalize posR (membersV v) i = p at *
    have hp0 : (0 : Int) ≤ p := by omega
    have hpl2 : (p : Int) < (membersV v).length := by omega
    have HX := Lib.hid hx
    go_enter Try.func16, Try.ntmps16
    go_wp2_with fail
    refine K.mono ?_; rintro e w1 ⟨rfl, b1⟩; obtain ⟨hc1, hf1, hz1⟩ := bcell b1; (try simp at hz1); have kc1_0 := fun o => hc1 (w.heap.size) o (by first | omega | (simp; done) | (simp; omega)); have kf1_0 := fun o => hf1 (w.heap.size) o (by first | omega | (simp; done) | (simp; omega)); have kl1_0 : w.heap.size < w1.heap.size := (by omega); clear hc1 hf1
    have h2 := HH.out.keep b1
    have x0 := h2.box.cell 0 _ rfl
    obtain ⟨b, off, hab, hbl, hcc⟩ := h2.rd (by omega)
    simp only at hab x0
    subst hab
    have c0 := hcc p r HX.out 0 _ rfl
    have c1' := hcc p r HX.out 1 _ rfl
    have c2' := hcc p r HX.out 2 _ rfl
    have c3 := hcc p r HX.out 3 _ rfl
    have c4 := hcc p r HX.out 4 _ rfl
    simp only [Nat.add_zero] at c0
    have gl := h2.box.lt
    clear h2 hcc hx K
    generalize (membersV v).length = ml at *
    go_wp2
    refine bodyPost_ret (v := (.tuple #[.agg #[.int .i64 r.id, .int .i64 r.st, .int .u32 r.n, .int .u32 r.ip, .int .u16 r.port], .bool true])) (by simp [results, Try.results16, go_sem, *]) rfl ?_
    exact ⟨rfl, by (have zz0 := Below.size b1; (try simp at zz0); repeat (first | with_reducible exact Below.refl _ _ | with_reducible refine Below.drew ?_ | with_reducible refine below_drewN ?_ _ | with_reducible refine Below.alloc ?_ (by first | omega | (simp; done) | (simp; omega)) _ | with_reducible refine Below.setCell ?_ (by first | omega | (simp; done) | (simp; omega)) _ | (with_reducible refine Below.trans ?_ (Below.mono b1 (by first | omega | (simp; done) | (simp; omega))))))⟩
theorem live_members {v : Vw} (hv : OkV v) : liveV v = ((membersV v).filter fun x => liveI x.st).map fun x => x.id := by
  unfold liveV membersV
  rw [List.filter_map, List.map_map]
  refine List.map_congr_left fun i hi => ?_
  have h1 := (List.mem_filter.1 (List.mem_filter.1 hi).1).2
  exact (hv.id i h1).symm
def liveM (L : List Rec) : List Int := (L.filter fun x => liveI x.st).map fun x => x.id
theorem liveM_yes {L : List Rec} {i : Nat} {x : Rec} (hx : L[i]? = some x) (h : liveI x.st = true) : liveM (L.take (i + 1)) = liveM (L.take i) ++ [x.id] := by
  unfold liveM; rw [List.take_add_one, hx, List.filter_append, List.map_append]; simp [h]
theorem liveM_no {L : List Rec} {i : Nat} {x : Rec} (hx : L[i]? = some x) (h : liveI x.st = false) : liveM (L.take (i + 1)) = liveM (L.take i) := by
  unfold liveM; rw [List.take_add_one, hx, List.filter_append, List.map_append]; simp [h]
theorem liveM_len (L : List Rec) : (liveM L).length ≤ L.length := by unfold liveM; rw [List.length_map]; exact List.length_filter_le _ _
def RlJ (L : List Rec) (w : World) (sv iv : Value) (wr : World) : Prop :=
  ∃ i : Nat, i ≤ L.length ∧ iv = .int .i64 (i : Nat) ∧ ERow c64 1 3 wr sv (liveM (L.take i)) ∧ Below w.heap.size w wr ∧ ∀ k, sv.ownBlock = some k → w.heap.size ≤ k
set_option maxHeartbeats 1600000 in
set_option maxRecDepth 100000 in
theorem rlive_all (g : Nat) (vl ve : Sl) (v : Vw) (w : World) (h : Rs g vl ve v w) :
    Calls Try.prog 23 #[.pointer (some ⟨g, 0, none⟩)] w (NewPost c64 1 3 (liveM (membersV v)) w) := by
  obtain ⟨i0, hi0, hz0, hz1, hz2⟩ := info_parts info_int
  have hn := h.ln
  have hml := members_len v
  have HH := Lib.hid h
  have HR := Lib.hid h.rd
  have x0 := h.box.cell 0 _ rfl
  have gl := h.box.lt
  obtain ⟨a, n, c⟩ := vl
  simp only at hn HR x0
  subst hn
  clear h
  generalize membersV v = L at *
  have hl2 : (L.length : Int) ≤ 33 := by omega
  go_enter Try.func23, Try.ntmps23
  go_wp2_with fail
  go_loopw [3, 4] (fun sv iv wr => RlJ L w sv iv wr) (fun _ i _ => 100 - (intOf i).toNat)
  case atStart => exact ⟨0, Nat.zero_le _, rfl, erow_nil, Below.refl _ _, fun k hk => by simp [Value.ownBlock] at hk⟩
  case round =>
    obtain ⟨i, hi, rfl, hrow, hb, hov⟩ := hrel
    have HOV := Lib.hid hov
    clear hov
    generalize u3 = sv at *
    have HROW := Lib.hid hrow
    have HB := Lib.hid hb
    have hi0' : (0 : Int) ≤ i := by omega
    have H1 := HH.out.keep hb
    clear x0 gl hrow
    have x0 := H1.box.cell 0 _ rfl
    have gl := H1.box.lt
    simp only at x0
    clear H1
    by_cases hlt : i < L.length
    · have hlt' : (i : Int) < L.length := by omega
      obtain ⟨x, hx⟩ : ∃ x, L[i]? = some x := ⟨_, List.getElem?_eq_getElem hlt⟩
      obtain ⟨b, off, rfl, hbl, hcc⟩ := (HR.out.keep hb) (by omega)
      have c0 := hcc i x hx 0 _ rfl
      have c1 := hcc i x hx 1 _ rfl
      have c2 := hcc i x hx 2 _ rfl
      have c3 := hcc i x hx 3 _ rfl
      have c4 := hcc i x hx 4 _ rfl
      simp only [Nat.add_zero] at c0
      have KY := liveM_yes hx
      have KN := liveM_no hx
      have K := rlive_any x.id x.st x.n x.ip x.port
      have HI : Hid (i + 1 ≤ L.length) := hlt
      have HX := Lib.hid hx
      have hll : (liveM (L.take i)).length ≤ 33 := by
        have := liveM_len (L.take i)
        rw [List.length_take] at this
        omega
      clear hcc hx
      generalize liveI x.st = lv at *
      generalize liveM (L.take i) = M at *
      cases lv with
      | true =>
        have EQ := Lib.hid (KY rfl)
        clear KY KN
        go_wp2_with fail
        refine (K _).mono ?_; rintro e w1 ⟨rfl, b1⟩
        have HB1 := Lib.hid (HB.out.trans (b1.mono HB.out.size))
        have R1 := Lib.hid (erow_keep HROW.out b1)
        have H1 := HH.out.keep HB1.out
        obtain ⟨b', off', e', hbl', hcc⟩ := (HR.out.keep HB1.out) (by omega)
        simp only [Option.some.injEq, Addr.mk.injEq, and_true] at e'
        obtain ⟨rfl, rfl⟩ := e'
        clear x0 gl c0 c1 c2 c3 c4 hbl K b1 hb HB HROW
        have x0 := H1.box.cell 0 _ rfl
        have gl := H1.box.lt
        have c0 := hcc i x HX.out 0 _ rfl
        simp only [Nat.add_zero] at c0 x0
        clear H1 hcc
        go_wp2_with (at_builtin; refine wpList_append_lies _ rfl (.tmp 24) (.tmp 33) 62 rfl 0 3 i0 _ 1 8 Try.underlying62 hi0 hz0 hz1 hz2 rfl (by omega) sv M.length (M.map c64).flatten rfl (erow_keep R1.out ((Below.refl _ _).alloc (Nat.le_refl _) _)) ⟨_, 0, none⟩ 1 1 (c64 x.id) rfl rfl (World.news_of_block (cs := (c64 x.id).toArray) (t := 3) (fr := (0, 0)) (heap_alloc_new _ _)) (c64_enc.one x.id) (by omega) ?c2 ?c3 ?c4 _ rfl ?_)
        case c2 => unfold maxLen; omega
        case c3 => omega
        case c4 => exact Nat.zero_le _
        intro g1 cap1 w9 hown hgrow hat hlt9
        have fin : Hid (ERow c64 1 3 w9 (.slice (some ⟨g1, 0, none⟩) (M.length + 1) cap1) (M ++ [x.id])) := erow_snoc rfl hown
        have QB := HB1.out.alloc HB1.out.size (.cells (c64 x.id).toArray 3)
        have bin := Lib.hid (QB.grown hgrow QB.size (fun k hk => HOV.out k hk))
        have hov : Hid (∀ k, (Value.slice (some ⟨g1, 0, none⟩) (M.length + 1) cap1).ownBlock = some k → w.heap.size ≤ k) := fun k hk => by
          obtain rfl : g1 = k := by injection hk
          rcases hat with h | h
          · exact HOV.out _ h
          · rw [h]; have := HB1.out.size; simp; omega
        clear hown hgrow hat QB
        go_wp2
        go_roundw
        case rel => exact ⟨i + 1, HI.out, by go_num, by rw [EQ.out]; exact fin.out, bin.out, hov.out⟩
        case measure => have := HI.out; simp [intOf]; omega
      | false =>
        have EQ := Lib.hid (KN rfl)
        clear KY KN
        go_wp2_with fail
        refine (K _).mono ?_; rintro e w1 ⟨rfl, b1⟩
        have HB1 := Lib.hid (HB.out.trans (b1.mono HB.out.size))
        have R1 := Lib.hid (erow_keep HROW.out b1)
        clear x0 gl c0 c1 c2 c3 c4 hbl K b1 hb HB HROW
        go_wp2
        go_roundw
        case rel => exact ⟨i + 1, HI.out, by go_num, by rw [EQ.out]; exact R1.out, HB1.out, HOV.out⟩
        case measure => have := HI.out; simp [intOf]; omega
    · obtain rfl : i = L.length := by omega
      have hR2 := HROW.out
      rw [List.take_length] at hR2
      obtain ⟨au, cu, hsv⟩ := erow_sl hR2
      subst hsv
      have F : Hid (NewE c64 1 3 (liveM L) w ⟨au, (liveM L).length, cu⟩ wr) := ⟨hR2, rfl, HOV.out⟩
      clear hR2 HROW hb
      generalize (liveM L).length = n9 at *
      go_wp2
      go_ret
      exact ⟨⟨au, n9, cu⟩, rfl, F.out, HB.out⟩
theorem rlive_v (g : Nat) (vl ve : Sl) (v : Vw) (w : World) (h : Rs g vl ve v w) :
    Calls Try.prog 23 #[.pointer (some ⟨g, 0, none⟩)] w (NewPost c64 1 3 (liveV v) w) := by
  rw [live_members h.ok]; exact rlive_all g vl ve v w h
def REvPost (E : List Ev) (w : World) (e : Ending) (w' : World) : Prop := ∃ (a : Option Addr) (c : Nat), e = .returned (.slice a (lastE E).length c) ∧ RdE ce 4 w' a (lastE E) ∧ Below w.heap.size w w'
set_option maxHeartbeats 1600000 in
theorem revents_any (g : Nat) (vl ve : Sl) (v : Vw) (w : World) (h : Rs g vl ve v w) (hE : v.E.length < 1000000) :
    Calls Try.prog 26 #[.pointer (some ⟨g, 0, none⟩)] w (REvPost v.E w) := by
  have hn := h.en
  have HR := Lib.hid h.rde
  have x0 := h.box.cell 1 _ rfl
  have gl := h.box.lt
  have hrow := h.ev
  obtain ⟨a, n, c⟩ := ve
  simp only at hn HR x0
  subst hn
  clear h
  generalize v.E = E at *
  obtain ⟨n, hn⟩ : ∃ n, E.length = n := ⟨_, rfl⟩
  obtain ⟨s, hs⟩ : ∃ s : Nat, s = n - 128 := ⟨_, rfl⟩
  have hmax : (if (n : Int) - 128 < 0 then (0 : Int) else (n : Int) - 128) = (s : Nat) := by split <;> omega
  have hmax2 : (if (0 : Int) < (n : Int) - 128 then (n : Int) - 128 else (0 : Int)) = (s : Nat) := by split <;> omega
  have hmax3 : (if (n : Int) - 128 ≤ 0 then (0 : Int) else (n : Int) - 128) = (s : Nat) := by split <;> omega
  have hsn : s ≤ n := by omega
  have hLE : lastE E = E.drop s := by unfold lastE; rw [hn, hs]
  have hs0 : (0 : Int) ≤ s := by omega
  have hn0 : (n : Int) < 1000000 := by omega
  have hsn' : (s : Int) ≤ n := by omega
  rw [hn] at x0 hE
  rcases erow_form hrow with ⟨h1, h2⟩ | ⟨gb, cap, h1, hgl⟩
  · simp only [Sl.v, Value.slice.injEq] at h1
    obtain ⟨rfl, -, rfl⟩ := h1
    subst h2
    obtain rfl : n = 0 := by simpa using hn.symm
    obtain rfl : s = 0 := by omega
    clear hmax hmax2 hmax3 hs hrow hn
    go_enter Try.func26, Try.ntmps26
    go_wp2_with fail
    go_region
    go_wp2
    go_ret
    exact ⟨none, 0, rfl, fun h => by simp [lastE] at h, (Below.refl _ _).drew⟩
  · simp only [Sl.v, Value.slice.injEq] at h1
    obtain ⟨rfl, -, rfl⟩ := h1
    have hcap : n ≤ c := by
      obtain ⟨-, C, -, h1, -, h3, -⟩ := erow_open ce_enc (show ERow ce 4 _ w (.slice (some ⟨gb, 0, none⟩) E.length c) E from hrow)
      rw [hn] at h3; exact h3
    have hcap' : (n : Int) ≤ c := by omega
    obtain ⟨ad, hadq, hadn⟩ : ∃ ad : Addr, some ad = (if c = s then some ⟨gb, 0, none⟩ else some ⟨gb, s * 4, none⟩) ∧ (¬ c = s → ad = ⟨gb, s * 4, none⟩) := by
      split
      · rename_i h0; exact ⟨_, rfl, fun h => absurd h0 h⟩
      · exact ⟨_, rfl, fun _ => rfl⟩
    have F : Hid (RdE ce 4 w.drew (some ad) (lastE E)) := fun hp => by
      rw [hLE, List.length_drop, hn] at hp
      have hne : ¬ c = s := by omega
      rw [hadn hne, hLE]
      obtain ⟨b', off', e', hb', hcc⟩ := HR.out (by omega)
      simp only [Option.some.injEq, Addr.mk.injEq, and_true] at e'
      obtain ⟨rfl, rfl⟩ := e'
      refine ⟨_, _, rfl, hb', fun i x hx k u hu => ?_⟩
      rw [List.getElem?_drop] at hx
      have := hcc (s + i) x hx k u hu
      rw [Nat.zero_add, Nat.add_mul] at this
      exact this
    have HL : Hid ((lastE E).length = n - s) := by show _ = _; rw [hLE, List.length_drop, hn]
    have HADQ := Lib.hid hadq
    clear hadq hadn hs hrow hn HR hLE
    go_enter Try.func26, Try.ntmps26
    go_wp2_with fail
    go_region
    clear hmax hmax2 hmax3
    have hq := HADQ.out
    simp only [← hq]
    clear hq
    go_wp2
    go_ret
    exact ⟨some ad, c - s, by rw [HL.out]; rfl, F.out, (Below.refl _ _).drew⟩
end Go.Proofs.Ytchhbhoikkdmeaa
