/- The statement DrawMixed: for every seed, list (its first 30, each modulo 8) and k: mixed, the list hml just what it had; the same stream mixes it the same; some of it are what stands first. No conditions. -/
import Derived.Test.YthjdchhhiopceaaDrawPlays
namespace Go.Proofs.Ythjdchhhiopceaa
open Go.RowKit Go.ChangeShapes Go.WideShapes Go.ChangeAt
set_option linter.unusedVariables false
set_option linter.unusedSimpArgs false

/-- the list of the law -/
def eightL (zs : List Int) : List Int := zs.map (· % 8)
/-- how often each of 0 .. 7 stands in it -/
def cntRow (l : List Int) : Nat → Value := fun j => .int .i64 (l.count (j : Int))
def leftRow (l a : List Int) : Nat → Value := fun j => .int .i64 ((l.count (j : Int) : Int) - (a.count (j : Int) : Int))

/-- only block G hml turned -/
def Only (G : Nat) (W wr : World) : Prop := W.heap.size ≤ wr.heap.size ∧ ∀ p : Addr, p.block ≠ G → wr.cell? p = W.cell? p
theorem Only.refl (G : Nat) (W : World) : Only G W W := ⟨Nat.le_refl _, fun _ _ => rfl⟩
theorem Only.set {G : Nat} {W wr : World} (h : Only G W wr) (i : Nat) (u : Value) : Only G W (wr.setCell ⟨G, i, none⟩ u) :=
  ⟨by simpa using h.1, fun p hp => (World.cell?_setCell_other wr ⟨G, i, none⟩ p u (fun e => by subst e; exact hp rfl)).trans (h.2 p hp)⟩

/-- the first loop: the list and its counts, ml far ml place i -/
def CountJ (w : World) (G m : Nat) (L : List Int) (v i : Value) (wr : World) : Prop :=
  ∃ k : Nat, i = .int .i64 k ∧ k ≤ m ∧ wr.ownsRow (G + 1) 3 1 v k ((L.take k).map (Value.int .i64)) ∧ wr.rowIs G 46 8 (cntRow (L.take k)) ∧ Below w.heap.size w wr

theorem count_step {w wr w2 : World} {G m k x : Nat} {L : List Int} {v v2 : Value} {o : Obj} (hG : w.heap.size ≤ G) (hk : k < m) (hx : L.getD k 0 = (x : Int)) (hkl : k < L.length)
    (ho : wr.ownsRow (G + 1) 3 1 v k ((L.take k).map (Value.int .i64))) (hr : wr.rowIs G 46 8 (cntRow (L.take k))) (hb : Below w.heap.size w wr)
    (h2 : w2.ownsRow (G + 1) 3 1 v2 (k + 1) ((L.take k).map (Value.int .i64) ++ [(x : Int)].map (Value.int .i64))) (hg : (wr.alloc o).grownBy w2 v.ownBlock) :
    Below w.heap.size w w2 ∧ w2.rowIs G 46 8 (cntRow (L.take k)) ∧ CountJ w G m L v2 (.int .i64 ((k : Int) + 1)) (w2.setCell ⟨G, x, none⟩ (.int .i64 (((L.take k).count (x : Int) : Int) + 1))) := by
  have hlt := hr.lt
  have hown : ∀ g, v.ownBlock = some g → G + 1 ≤ g := fun g h => (ho.lt g h).1
  have hr2 : w2.rowIs G 46 8 (cntRow (L.take k)) := (hr.alloc o).of_block (hg.block G (by simp; omega) (fun e => by have := hown G e.symm; omega))
  have ht : L.take (k + 1) = L.take k ++ [(x : Int)] := by
    rw [List.take_succ_eq_append_getElem hkl]
    have : L.getD k 0 = L[k] := by simp [List.getD_eq_getElem?_getD, hkl]
    rw [← this, hx]
  have hb2 : Below w.heap.size w w2 := (hb.alloc hb.size o).grown hg (by have := hb.size; simp; omega) (fun g h => by have := hown g h; omega)
  refine ⟨hb2, hr2, k + 1, by go_num, by omega, ?_, (hr2.set x _).congr fun j hj => ?_, hb2.setCell hG _⟩
  · rw [ht, List.map_append]
    exact ownsRow_setCell_below h2 (by show G < G + 1; omega) _
  · rw [ht]
    unfold cntRow
    by_cases h : j = x
    · subst h; simp [List.count_append]
    · have : ¬ (x : Int) = (j : Int) := by omega
      simp [h, List.count_append, List.count_cons, this]

def UpK (wz : World) (j : Nat) (t : Value) (wr : World) : Prop := ∃ a : Nat, t = .int .i64 a ∧ a ≤ j ∧ wz = wr

/-- the second loop: what is left of the counts -/
def LeftJ (w W : World) (G n : Nat) (L a : List Int) (i : Value) (wr : World) : Prop :=
  ∃ k : Nat, i = .int .i64 k ∧ k ≤ n ∧ wr.rowIs G 46 8 (leftRow L (a.take k)) ∧ Only G W wr ∧ Below w.heap.size w wr

theorem left_step {w W wr : World} {G n k x : Nat} {L a : List Int} (hG : w.heap.size ≤ G) (hk : k < n) (hkl : k < a.length) (hx : a.getD k 0 = (x : Int))
    (hr : wr.rowIs G 46 8 (leftRow L (a.take k))) (ho : Only G W wr) (hb : Below w.heap.size w wr) :
    LeftJ w W G n L a (.int .i64 ((k : Int) + 1)) (wr.setCell ⟨G, x, none⟩ (.int .i64 ((L.count (x : Int) : Int) - ((a.take k).count (x : Int) : Int) - 1))) := by
  have ht : a.take (k + 1) = a.take k ++ [(x : Int)] := by
    rw [List.take_succ_eq_append_getElem hkl]
    have : a.getD k 0 = a[k] := by simp [List.getD_eq_getElem?_getD, hkl]
    rw [← this, hx]
  refine ⟨k + 1, by go_num, by omega, (hr.set x _).congr fun j hj => ?_, ho.set _ _, hb.setCell hG _⟩
  rw [ht]
  unfold leftRow
  by_cases h : j = x
  · subst h; simp [List.count_append]; omega
  · have : ¬ (x : Int) = (j : Int) := by omega
    simp [h, List.count_append, List.count_cons, this]

theorem eight_facts (zs : List Int) (i : Nat) (hi : i < zs.length) : ∃ x : Nat, x < 8 ∧ zs.getD i 0 % 8 = (x : Int) ∧ (eightL zs).getD i 0 = (x : Int) := by
  have h0 := Int.emod_nonneg (zs.getD i 0) (show (8 : Int) ≠ 0 by omega)
  have h1 := Int.emod_lt_of_pos (zs.getD i 0) (show (0 : Int) < 8 by omega)
  refine ⟨(zs.getD i 0 % 8).toNat, by omega, by omega, ?_⟩
  have : (eightL zs).getD i 0 = zs.getD i 0 % 8 := by simp [eightL, List.getD_eq_getElem?_getD, hi]
  omega

theorem eight_get {ml L : List Int} (hp : ml.Perm L) (h8 : ∀ y ∈ L, 0 ≤ y ∧ y ≤ 7) (i : Nat) (hi : i < L.length) : ∃ x : Nat, x < 8 ∧ ml.getD i 0 = (x : Int) := by
  have hil : i < ml.length := by rw [hp.length_eq]; exact hi
  have hm : ml[i] ∈ L := hp.mem_iff.1 (List.getElem_mem hil)
  have := h8 _ hm
  refine ⟨ml[i].toNat, by omega, ?_⟩
  rw [show ml.getD i 0 = ml[i] from by simp [List.getD_eq_getElem?_getD, hil]]
  omega

set_option maxRecDepth 100000 in
set_option maxHeartbeats 4000000 in
theorem drawMixed_walk (s k : Int) (a : Option Addr) (len cap m : Nat) (zs L : List Int) (hk : 0 ≤ k ∧ k ≤ 255) (hm : Hid (m = min len 30)) (hL : Hid (L = eightL (zs.take m)))
    (hlen : len ≤ 9223372036854775807) (hzl : Hid (zs.length = len)) (w : World) (hr : Hid (Rd .u8 w w.heap.size a zs)) (hwf : Hid (∀ n ∈ zs, 0 ≤ n ∧ n ≤ 255)) :
    Calls Try.prog 4 #[.int .u64 s, .slice a len cap, .int .u8 k] w fun e w' => e = .returned (.bool true) ∧ Below w.heap.size w w' := by
  have hm30 : m ≤ 30 := by have := hm.out; omega
  have hLl : Hid (L.length = m) := by
    have h1 := hm.out
    have h2 := hzl.out
    have h3 := hL.out
    show _ = _
    rw [h3, eightL, List.length_map, List.length_take]; omega
  go_enter Try.func4, Try.ntmps4
  go_wp2_with fail
  refine (examples_yes _).mono ?_; rintro e w1 ⟨rfl, b1⟩
  go_wp2_with fail
  go_loopw [8, 10] (fun v i wr => CountJ w w1.heap.size m L v i wr) (fun _ i _ => m - (intOf i).toNat)
  case atStart =>
    refine ⟨0, rfl, Nat.zero_le _, World.ownsRow_nil _ _ _ _, (World.rowIs_alloc w1 _ 46 (cntRow (L.take 0)) ?_), by (have zz0 := Below.size b1; (try simp at zz0); repeat (first | exact Below.refl _ _ | refine Below.drew ?_ | refine below_drewN ?_ _ | refine Below.alloc ?_ (by first | omega | (simp; done) | (simp; omega)) _ | refine Below.setCell ?_ (by first | omega | (simp; done) | (simp; omega)) _ | (with_reducible refine Below.trans ?_ (Below.mono b1 (by first | omega | (simp; done) | (simp; omega))))))⟩
    intro j hj
    have hj8 : j < 8 := by simpa using hj
    match j, hj8 with
    | 0, _ => rfl
    | 1, _ => rfl
    | 2, _ => rfl
    | 3, _ => rfl
    | 4, _ => rfl
    | 5, _ => rfl
    | 6, _ => rfl
    | 7, _ => rfl
  case round =>
    obtain ⟨j, rfl, hj, hown, hrow, hbel⟩ := hrel
    have HO := Lib.hid hown
    have HW := Lib.hid hrow
    have HB := Lib.hid hbel
    clear hown hrow hbel
    by_cases hjm : j < m
    · have hjl : (j : Int) < len := by have := hm.out; omega
      have hj30 : (j : Int) < 30 := by omega
      have hj0 : (0 : Int) ≤ j := by omega
      obtain ⟨x, hx8, hx1, hx2⟩ := eight_facts zs j (by have := hzl.out; omega)
      obtain ⟨b, off, hA, hbl, hc⟩ := hr.out (by have := hzl.out; omega)
      subst hA
      have hcell : wr.cell? ⟨b, off + j, none⟩ = some (.int .u8 (zs.getD j 0)) := (HB.out.cell (p := ⟨b, off + j, none⟩) hbl).trans (hc j (by have := hzl.out; omega))
      have hr1 : 0 ≤ zs.getD j 0 ∧ zs.getD j 0 ≤ 255 := by
        have hjz : j < zs.length := by have := hzl.out; omega
        have : zs.getD j 0 ∈ zs := by
          rw [show zs.getD j 0 = zs[j] from by simp [List.getD_eq_getElem?_getD, hjz]]
          exact List.getElem_mem hjz
        exact hwf.out _ this
      obtain ⟨y, hy⟩ : ∃ y : Int, zs.getD j 0 = y := ⟨_, rfl⟩
      rw [hy] at hcell hr1 hx1
      have e8 : y.tmod 8 = (x : Int) := by rw [Int.tmod_eq_emod_of_nonneg hr1.1]; exact hx1
      have HX : Hid (L.getD j 0 = (x : Int)) := by
        obtain ⟨x2, _, h1, h2⟩ := eight_facts (zs.take m) j (by rw [List.length_take]; have := hzl.out; omega)
        have h3 : (zs.take m).getD j 0 = zs.getD j 0 := by simp [List.getD_eq_getElem?_getD, List.getElem?_take, hjm]
        show _ = _
        rw [h3, hy, hx1] at h1
        rw [hL.out, h2, h1]
      clear hc hx2 hy hx1
      have hx0 : (0 : Int) ≤ x := by omega
      have hx7 : (x : Int) ≤ 7 := by omega
      go_wp2_with (at_builtin; refine wpList_append_rd _ rfl (.tmp 34) (.tmp 41) 23 rfl (w1.heap.size + 1) 3 .i64 8 Try.underlying23 info_int _ j ((L.take j).map (Value.int .i64)) rfl (HO.out.alloc _) _ (some ⟨wr.heap.size, 0, none⟩) 1 1 [(x : Int)] rfl rfl (Rd.of_alloc _ _ _ _ rfl) (fun h => by cases h) ?c1 ?c2 ?c3 ?_)
      case c1 => omega
      case c2 => omega
      case c3 => have := HW.out.lt; simp; omega
      intro v2 w2 hown2 hg2
      obtain ⟨hbel2, hrow2, hfin⟩ := count_step b1.size hjm HX.out (by have := hLl.out; omega) HO.out HW.out HB.out (by simpa using hown2) hg2
      have HF := Lib.hid hfin
      have cm : w2.cell? ⟨w1.heap.size, x, none⟩ = some (.int .i64 ((L.take j).count (x : Int) : Int)) := hrow2.cell hx8
      have fm : w2.frozen? ⟨w1.heap.size, x, none⟩ = false := hrow2.frozen _
      have hcell2 : w2.cell? ⟨b, off + j, none⟩ = some (.int .u8 y) := (hbel2.cell (p := ⟨b, off + j, none⟩) hbl).trans ((HB.out.cell (p := ⟨b, off + j, none⟩) hbl).symm.trans hcell)
      have hcl : ((L.take j).count (x : Int)) ≤ j := by have := List.count_le_length (a := (x : Int)) (l := L.take j); rw [List.length_take] at this; omega
      clear hown2 hg2 hrow2 hfin hbel2
      generalize (L.take j).count (x : Int) = q at *
      go_wp2
      go_roundw
      case rel => exact HF.out
      case measure => simp [intOf] <;> omega
    · obtain rfl : j = m := by omega
      have hLt : L.take j = L := List.take_of_length_le (by have := hLl.out; omega)
      have HO2 := Lib.hid (hLt ▸ HO.out)
      have HW2 := Lib.hid (hLt ▸ HW.out)
      clear hLt HO HW
      go_upto_region 7 with fail
      go_cut [31] (fun x wx => x = .bool false ∧ wr = wx)
      case first =>
        by_cases hlen2 : (j : Int) < len
        · have h30 : ¬ (j : Int) < 30 := by have := hm.out; omega
          go_wp2_with fail
          go_meet
          exact ⟨rfl, rfl⟩
        · go_wp2_with fail
          go_meet
          exact ⟨rfl, rfl⟩
      case rest =>
        obtain ⟨rfl, rfl⟩ := hcut
        obtain ⟨A, c, hv⟩ := own_slice HO2.out
        subst hv
        have hA : j ≤ c := by
          rcases HO2.out.2 with ⟨h, h0⟩ | ⟨g, cap, cur, h, _, _, h2, _⟩
          · omega
          · injection h; omega
        have HL := Lib.hid (Rd.of_own HO2.out)
        generalize wr = wz at *
        clear HO2
        have hk40 : 0 ≤ k % 40 ∧ k % 40 < 40 := by omega
        have ek : k.tmod 40 = k % 40 := Int.tmod_eq_emod_of_nonneg hk.1
        obtain ⟨q, hq⟩ : ∃ q, much (k % 40) j = q := ⟨_, rfl⟩
        have HQ := Lib.hid hq
        clear hq
        go_wp2_with fail
        refine (new_any _ _).mono ?_; rintro e w2 ⟨rfl, b2⟩
        have B2 : Hid (Below wz.heap.size wz w2) := by
          have hb := Below.refl wz.heap.size wz
          show Below _ _ _
          (have zz0 := Below.size b2; (try simp at zz0); have zz1 := Below.size hb; (try simp at zz1); repeat (first | exact Below.refl _ _ | refine Below.drew ?_ | refine below_drewN ?_ _ | refine Below.alloc ?_ (by first | omega | (simp; done) | (simp; omega)) _ | refine Below.setCell ?_ (by first | omega | (simp; done) | (simp; omega)) _ | (with_reducible refine Below.trans ?_ (Below.mono b2 (by first | omega | (simp; done) | (simp; omega)))) | (with_reducible refine Below.trans ?_ (Below.mono hb (by first | omega | (simp; done) | (simp; omega))))))
        go_wp2_with fail
        refine (mix_ans _ _ _ _ L (by omega) hA hLl.out _ ?r3).mono ?_; rotate_right; rintro e w3 ⟨g3, rfl, h3, b3⟩
        case r3 => exact HL.out.now (by have hb := B2.out; (have zz0 := Below.size hb; (try simp at zz0); repeat (first | exact Below.refl _ _ | refine Below.drew ?_ | refine below_drewN ?_ _ | refine Below.alloc ?_ (by first | omega | (simp; done) | (simp; omega)) _ | refine Below.setCell ?_ (by first | omega | (simp; done) | (simp; omega)) _ | (with_reducible refine Below.trans ?_ (Below.mono hb (by first | omega | (simp; done) | (simp; omega)))))))
        have B3 : Hid (Below wz.heap.size wz w3) := by
          have hb := B2.out
          show Below _ _ _
          (have zz0 := Below.size b3; (try simp at zz0); have zz1 := Below.size hb; (try simp at zz1); repeat (first | exact Below.refl _ _ | refine Below.drew ?_ | refine below_drewN ?_ _ | refine Below.alloc ?_ (by first | omega | (simp; done) | (simp; omega)) _ | refine Below.setCell ?_ (by first | omega | (simp; done) | (simp; omega)) _ | (with_reducible refine Below.trans ?_ (Below.mono b3 (by first | omega | (simp; done) | (simp; omega)))) | (with_reducible refine Below.trans ?_ (Below.mono hb (by first | omega | (simp; done) | (simp; omega))))))
        go_wp2_with fail
        refine (new_any _ _).mono ?_; rintro e w4 ⟨rfl, b4⟩
        obtain ⟨hc4, hf4, hz4⟩ := bcell b4; (try simp at hz4); have kc4_0 := fun o => hc4 (w3.heap.size) o (by first | omega | (simp; done) | (simp; omega)); have kf4_0 := fun o => hf4 (w3.heap.size) o (by first | omega | (simp; done) | (simp; omega)); have kl4_0 : w3.heap.size < w4.heap.size := (by omega); clear hc4 hf4
        have B4 : Hid (Below wz.heap.size wz w4) := by
          have hb := B3.out
          show Below _ _ _
          (have zz0 := Below.size b4; (try simp at zz0); have zz1 := Below.size hb; (try simp at zz1); repeat (first | exact Below.refl _ _ | refine Below.drew ?_ | refine below_drewN ?_ _ | refine Below.alloc ?_ (by first | omega | (simp; done) | (simp; omega)) _ | refine Below.setCell ?_ (by first | omega | (simp; done) | (simp; omega)) _ | (with_reducible refine Below.trans ?_ (Below.mono b4 (by first | omega | (simp; done) | (simp; omega)))) | (with_reducible refine Below.trans ?_ (Below.mono hb (by first | omega | (simp; done) | (simp; omega))))))
        go_wp2_with fail
        refine (mix_ans _ _ _ _ L (by omega) hA hLl.out _ ?r5).mono ?_; rotate_right; rintro e w5 ⟨g5, rfl, h5, b5⟩
        case r5 => exact HL.out.now (by have hb := B4.out; (have zz0 := Below.size hb; (try simp at zz0); repeat (first | exact Below.refl _ _ | refine Below.drew ?_ | refine below_drewN ?_ _ | refine Below.alloc ?_ (by first | omega | (simp; done) | (simp; omega)) _ | refine Below.setCell ?_ (by first | omega | (simp; done) | (simp; omega)) _ | (with_reducible refine Below.trans ?_ (Below.mono hb (by first | omega | (simp; done) | (simp; omega)))))))
        obtain ⟨hc5, hf5, hz5⟩ := bcell b5; (try simp at hz5); have kc5_0 := fun o => hc5 (w3.heap.size) o (by first | omega | (simp; done) | (simp; omega)); have kf5_0 := fun o => hf5 (w3.heap.size) o (by first | omega | (simp; done) | (simp; omega)); have kl5_0 : w3.heap.size < w5.heap.size := (by omega); clear hc5 hf5
        have B5 : Hid (Below wz.heap.size wz w5) := by
          have hb := B4.out
          show Below _ _ _
          (have zz0 := Below.size b5; (try simp at zz0); have zz1 := Below.size hb; (try simp at zz1); repeat (first | exact Below.refl _ _ | refine Below.drew ?_ | refine below_drewN ?_ _ | refine Below.alloc ?_ (by first | omega | (simp; done) | (simp; omega)) _ | refine Below.setCell ?_ (by first | omega | (simp; done) | (simp; omega)) _ | (with_reducible refine Below.trans ?_ (Below.mono b5 (by first | omega | (simp; done) | (simp; omega)))) | (with_reducible refine Below.trans ?_ (Below.mono hb (by first | omega | (simp; done) | (simp; omega))))))
        go_wp2_with fail
        refine (new_any _ _).mono ?_; rintro e w6 ⟨rfl, b6⟩
        obtain ⟨hc6, hf6, hz6⟩ := bcell b6; (try simp at hz6); have kc6_0 := fun o => hc6 (w3.heap.size) o (by first | omega | (simp; done) | (simp; omega)); have kf6_0 := fun o => hf6 (w3.heap.size) o (by first | omega | (simp; done) | (simp; omega)); have kl6_0 : w3.heap.size < w6.heap.size := (by omega); have kc6_1 := fun o => hc6 (w5.heap.size) o (by first | omega | (simp; done) | (simp; omega)); have kf6_1 := fun o => hf6 (w5.heap.size) o (by first | omega | (simp; done) | (simp; omega)); have kl6_1 : w5.heap.size < w6.heap.size := (by omega); clear hc6 hf6
        have B6 : Hid (Below wz.heap.size wz w6) := by
          have hb := B5.out
          show Below _ _ _
          (have zz0 := Below.size b6; (try simp at zz0); have zz1 := Below.size hb; (try simp at zz1); repeat (first | exact Below.refl _ _ | refine Below.drew ?_ | refine below_drewN ?_ _ | refine Below.alloc ?_ (by first | omega | (simp; done) | (simp; omega)) _ | refine Below.setCell ?_ (by first | omega | (simp; done) | (simp; omega)) _ | (with_reducible refine Below.trans ?_ (Below.mono b6 (by first | omega | (simp; done) | (simp; omega)))) | (with_reducible refine Below.trans ?_ (Below.mono hb (by first | omega | (simp; done) | (simp; omega))))))
        go_wp2_with fail
        refine (some_all _ _ _ _ L _ q HQ (by omega) hA hLl _ ?r7).mono ?_; rotate_right; rintro e w7 ⟨A7, c7, rfl, h7, b7⟩
        case r7 => exact HL.out.now (by have hb := B6.out; (have zz0 := Below.size hb; (try simp at zz0); repeat (first | exact Below.refl _ _ | refine Below.drew ?_ | refine below_drewN ?_ _ | refine Below.alloc ?_ (by first | omega | (simp; done) | (simp; omega)) _ | refine Below.setCell ?_ (by first | omega | (simp; done) | (simp; omega)) _ | (with_reducible refine Below.trans ?_ (Below.mono hb (by first | omega | (simp; done) | (simp; omega)))))))
        obtain ⟨hc7, hf7, hz7⟩ := bcell b7; (try simp at hz7); have kc7_0 := fun o => hc7 (w3.heap.size) o (by first | omega | (simp; done) | (simp; omega)); have kf7_0 := fun o => hf7 (w3.heap.size) o (by first | omega | (simp; done) | (simp; omega)); have kl7_0 : w3.heap.size < w7.heap.size := (by omega); have kc7_1 := fun o => hc7 (w5.heap.size) o (by first | omega | (simp; done) | (simp; omega)); have kf7_1 := fun o => hf7 (w5.heap.size) o (by first | omega | (simp; done) | (simp; omega)); have kl7_1 : w5.heap.size < w7.heap.size := (by omega); clear hc7 hf7
        have B7 : Hid (Below wz.heap.size wz w7) := by
          have hb := B6.out
          show Below _ _ _
          (have zz0 := Below.size b7; (try simp at zz0); have zz1 := Below.size hb; (try simp at zz1); repeat (first | exact Below.refl _ _ | refine Below.drew ?_ | refine below_drewN ?_ _ | refine Below.alloc ?_ (by first | omega | (simp; done) | (simp; omega)) _ | refine Below.setCell ?_ (by first | omega | (simp; done) | (simp; omega)) _ | (with_reducible refine Below.trans ?_ (Below.mono b7 (by first | omega | (simp; done) | (simp; omega)))) | (with_reducible refine Below.trans ?_ (Below.mono hb (by first | omega | (simp; done) | (simp; omega))))))
        have H3 := Lib.hid h3
        have H5 := Lib.hid h5
        have H7 := Lib.hid h7
        clear h3 h5 h7
        go_wp2_with fail
        refine (same_yes _ _ j _ _ _ (by omega) H3.out.1 _ ?ra8 ?rb8).mono ?_; rotate_right; rintro e w8 ⟨rfl, b8⟩
        case ra8 => exact H3.out.2.1.now (by (have zz0 := Below.size b7; (try simp at zz0); have zz1 := Below.size b6; (try simp at zz1); have zz2 := Below.size b5; (try simp at zz2); have zz3 := Below.size b4; (try simp at zz3); repeat (first | exact Below.refl _ _ | refine Below.drew ?_ | refine below_drewN ?_ _ | refine Below.alloc ?_ (by first | omega | (simp; done) | (simp; omega)) _ | refine Below.setCell ?_ (by first | omega | (simp; done) | (simp; omega)) _ | (with_reducible refine Below.trans ?_ (Below.mono b7 (by first | omega | (simp; done) | (simp; omega)))) | (with_reducible refine Below.trans ?_ (Below.mono b6 (by first | omega | (simp; done) | (simp; omega)))) | (with_reducible refine Below.trans ?_ (Below.mono b5 (by first | omega | (simp; done) | (simp; omega)))) | (with_reducible refine Below.trans ?_ (Below.mono b4 (by first | omega | (simp; done) | (simp; omega)))))))
        case rb8 => exact H5.out.2.1.now (by (have zz0 := Below.size b7; (try simp at zz0); have zz1 := Below.size b6; (try simp at zz1); repeat (first | exact Below.refl _ _ | refine Below.drew ?_ | refine below_drewN ?_ _ | refine Below.alloc ?_ (by first | omega | (simp; done) | (simp; omega)) _ | refine Below.setCell ?_ (by first | omega | (simp; done) | (simp; omega)) _ | (with_reducible refine Below.trans ?_ (Below.mono b7 (by first | omega | (simp; done) | (simp; omega)))) | (with_reducible refine Below.trans ?_ (Below.mono b6 (by first | omega | (simp; done) | (simp; omega)))))))
        obtain ⟨hc8, hf8, hz8⟩ := bcell b8; (try simp at hz8); have kc8_0 := fun o => hc8 (w3.heap.size) o (by first | omega | (simp; done) | (simp; omega)); have kf8_0 := fun o => hf8 (w3.heap.size) o (by first | omega | (simp; done) | (simp; omega)); have kl8_0 : w3.heap.size < w8.heap.size := (by omega); have kc8_1 := fun o => hc8 (w5.heap.size) o (by first | omega | (simp; done) | (simp; omega)); have kf8_1 := fun o => hf8 (w5.heap.size) o (by first | omega | (simp; done) | (simp; omega)); have kl8_1 : w5.heap.size < w8.heap.size := (by omega); have kc8_2 := fun o => hc8 (w7.heap.size) o (by first | omega | (simp; done) | (simp; omega)); have kf8_2 := fun o => hf8 (w7.heap.size) o (by first | omega | (simp; done) | (simp; omega)); have kl8_2 : w7.heap.size < w8.heap.size := (by omega); clear hc8 hf8
        have B8 : Hid (Below wz.heap.size wz w8) := by
          have hb := B7.out
          show Below _ _ _
          (have zz0 := Below.size b8; (try simp at zz0); have zz1 := Below.size hb; (try simp at zz1); repeat (first | exact Below.refl _ _ | refine Below.drew ?_ | refine below_drewN ?_ _ | refine Below.alloc ?_ (by first | omega | (simp; done) | (simp; omega)) _ | refine Below.setCell ?_ (by first | omega | (simp; done) | (simp; omega)) _ | (with_reducible refine Below.trans ?_ (Below.mono b8 (by first | omega | (simp; done) | (simp; omega)))) | (with_reducible refine Below.trans ?_ (Below.mono hb (by first | omega | (simp; done) | (simp; omega))))))
        have hqj : q ≤ j := by have := HQ.out; unfold much at this; omega
        go_upto_region 15 with fail
        go_cut [94] (fun x wx => x = .bool false ∧ w8 = wx)
        case first =>
          by_cases hkj : k % 40 ≤ j
          · have eq : k % 40 = (q : Int) := by have := HQ.out; unfold much at this; omega
            go_wp2_with fail
            go_meet
            exact ⟨rfl, rfl⟩
          · obtain rfl : q = j := by have := HQ.out; unfold much at this; omega
            go_wp2_with fail
            go_meet
            exact ⟨rfl, rfl⟩
        case rest =>
          obtain ⟨rfl, rfl⟩ := hcut
          have hqj2 : (q : Int) ≤ j := by omega
          have hq0 : (0 : Int) ≤ q := by omega
          go_wp2_with fail
          refine (same_yes _ _ q _ _ _ (by omega) H7.out.1 _ ?ra9 ?rb9).mono ?_; rotate_right; rintro e w9 ⟨rfl, b9⟩
          case ra9 => exact H7.out.2.1.now (by (have zz0 := Below.size b8; (try simp at zz0); repeat (first | exact Below.refl _ _ | refine Below.drew ?_ | refine below_drewN ?_ _ | refine Below.alloc ?_ (by first | omega | (simp; done) | (simp; omega)) _ | refine Below.setCell ?_ (by first | omega | (simp; done) | (simp; omega)) _ | (with_reducible refine Below.trans ?_ (Below.mono b8 (by first | omega | (simp; done) | (simp; omega)))))))
          case rb9 => exact (H3.out.2.1.take q).now (by (have zz0 := Below.size b8; (try simp at zz0); have zz1 := Below.size b7; (try simp at zz1); have zz2 := Below.size b6; (try simp at zz2); have zz3 := Below.size b5; (try simp at zz3); have zz4 := Below.size b4; (try simp at zz4); repeat (first | exact Below.refl _ _ | refine Below.drew ?_ | refine below_drewN ?_ _ | refine Below.alloc ?_ (by first | omega | (simp; done) | (simp; omega)) _ | refine Below.setCell ?_ (by first | omega | (simp; done) | (simp; omega)) _ | (with_reducible refine Below.trans ?_ (Below.mono b8 (by first | omega | (simp; done) | (simp; omega)))) | (with_reducible refine Below.trans ?_ (Below.mono b7 (by first | omega | (simp; done) | (simp; omega)))) | (with_reducible refine Below.trans ?_ (Below.mono b6 (by first | omega | (simp; done) | (simp; omega)))) | (with_reducible refine Below.trans ?_ (Below.mono b5 (by first | omega | (simp; done) | (simp; omega)))) | (with_reducible refine Below.trans ?_ (Below.mono b4 (by first | omega | (simp; done) | (simp; omega)))))))
          obtain ⟨hc9, hf9, hz9⟩ := bcell b9; (try simp at hz9); have kc9_0 := fun o => hc9 (w3.heap.size) o (by first | omega | (simp; done) | (simp; omega)); have kf9_0 := fun o => hf9 (w3.heap.size) o (by first | omega | (simp; done) | (simp; omega)); have kl9_0 : w3.heap.size < w9.heap.size := (by omega); have kc9_1 := fun o => hc9 (w5.heap.size) o (by first | omega | (simp; done) | (simp; omega)); have kf9_1 := fun o => hf9 (w5.heap.size) o (by first | omega | (simp; done) | (simp; omega)); have kl9_1 : w5.heap.size < w9.heap.size := (by omega); have kc9_2 := fun o => hc9 (w7.heap.size) o (by first | omega | (simp; done) | (simp; omega)); have kf9_2 := fun o => hf9 (w7.heap.size) o (by first | omega | (simp; done) | (simp; omega)); have kl9_2 : w7.heap.size < w9.heap.size := (by omega); clear hc9 hf9
          have B9 : Hid (Below wz.heap.size wz w9) := by
            have hb := B8.out
            show Below _ _ _
            (have zz0 := Below.size b9; (try simp at zz0); have zz1 := Below.size hb; (try simp at zz1); repeat (first | exact Below.refl _ _ | refine Below.drew ?_ | refine below_drewN ?_ _ | refine Below.alloc ?_ (by first | omega | (simp; done) | (simp; omega)) _ | refine Below.setCell ?_ (by first | omega | (simp; done) | (simp; omega)) _ | (with_reducible refine Below.trans ?_ (Below.mono b9 (by first | omega | (simp; done) | (simp; omega)))) | (with_reducible refine Below.trans ?_ (Below.mono hb (by first | omega | (simp; done) | (simp; omega))))))
          have hGz := HW2.out.lt
          have HG9 := Lib.hid (HW2.out.of_block (B9.out.block _ hGz))
          have HB9 := Lib.hid (HB.out.trans (B9.out.mono HB.out.size))
          have HA9 := Lib.hid (H3.out.below (show Below w3.heap.size w3 w9 from by (have zz0 := Below.size b9; (try simp at zz0); have zz1 := Below.size b8; (try simp at zz1); have zz2 := Below.size b7; (try simp at zz2); have zz3 := Below.size b6; (try simp at zz3); have zz4 := Below.size b5; (try simp at zz4); have zz5 := Below.size b4; (try simp at zz5); repeat (first | exact Below.refl _ _ | refine Below.drew ?_ | refine below_drewN ?_ _ | refine Below.alloc ?_ (by first | omega | (simp; done) | (simp; omega)) _ | refine Below.setCell ?_ (by first | omega | (simp; done) | (simp; omega)) _ | (with_reducible refine Below.trans ?_ (Below.mono b9 (by first | omega | (simp; done) | (simp; omega)))) | (with_reducible refine Below.trans ?_ (Below.mono b8 (by first | omega | (simp; done) | (simp; omega)))) | (with_reducible refine Below.trans ?_ (Below.mono b7 (by first | omega | (simp; done) | (simp; omega)))) | (with_reducible refine Below.trans ?_ (Below.mono b6 (by first | omega | (simp; done) | (simp; omega)))) | (with_reducible refine Below.trans ?_ (Below.mono b5 (by first | omega | (simp; done) | (simp; omega)))) | (with_reducible refine Below.trans ?_ (Below.mono b4 (by first | omega | (simp; done) | (simp; omega))))))))
          have c3 : w9.cell? ⟨w3.heap.size, 0, none⟩ = some (.int .u64 (mixL s L).2) := by go_simp
          have c5 : w9.cell? ⟨w5.heap.size, 0, none⟩ = some (.int .u64 (mixL s L).2) := by go_simp
          have c7 : w9.cell? ⟨w7.heap.size, 0, none⟩ = some (.int .u64 (mixL s L).2) := by go_simp
          have n3 : ¬ w3.heap.size = w1.heap.size := by have := b2.size; have := b3.size; omega
          have n5 : ¬ w5.heap.size = w1.heap.size := by have := b2.size; have := b3.size; omega
          have n7 : ¬ w7.heap.size = w1.heap.size := by have := b2.size; have := b3.size; omega
          obtain ⟨ml, hml⟩ : ∃ ml, (mixL s L).1 = ml := ⟨_, rfl⟩
          have HP : Hid (ml.Perm L) := by rw [← hml]; exact mixL_perm s L
          rw [hml] at HA9
          have HL8 : Hid (∀ y ∈ L, 0 ≤ y ∧ y ≤ 7) := by
            intro y hy
            rw [hL.out, eightL, List.mem_map] at hy
            obtain ⟨z, _, rfl⟩ := hy
            omega
          have g3lo : w2.heap.size ≤ g3 := H3.out.2.2 _ rfl
          have z2 := b2.size
          have n4 : ¬ g3 = w1.heap.size := by omega
          have hG0 : w.heap.size ≤ w1.heap.size := b1.size
          clear hml H3 H5 H7 HL HQ HB HW2 B2 B3 B4 B5 B6 B7 B8
          go_wp2_with fail
          go_loopw [19] (fun i wr => LeftJ w w9 w1.heap.size j L ml i wr) (fun i _ => j - (intOf i).toNat)
          case atStart => exact ⟨0, rfl, Nat.zero_le _, HG9.out.congr fun t _ => by simp [cntRow, leftRow], Only.refl _ _, HB9.out⟩
          case round =>
            obtain ⟨i, rfl, hij, hrow, honly, hbel⟩ := hrel
            have HR1 := Lib.hid hrow
            have HR2 := Lib.hid honly
            have HR3 := Lib.hid hbel
            clear hrow honly hbel
            by_cases hlt : i < j
            · obtain ⟨x, hx8, hx⟩ := eight_get HP.out HL8.out i (by have := hLl.out; omega)
              obtain ⟨g', o', he, _, hca⟩ := HA9.out.2.1 (by have := HA9.out.1; omega)
              injection he with he
              injection he with he1 he2
              subst he1
              subst he2
              have ca : wr.cell? ⟨g3, i, none⟩ = some (.int .i64 (x : Int)) := by
                rw [HR2.out.2 ⟨g3, i, none⟩ n4]
                have := hca i (by have := HA9.out.1; omega)
                rw [Nat.zero_add] at this
                rw [this, hx]
              have cm : wr.cell? ⟨w1.heap.size, x, none⟩ = some (.int .i64 ((L.count (x : Int) : Int) - ((ml.take i).count (x : Int) : Int))) := HR1.out.cell hx8
              have fm : wr.frozen? ⟨w1.heap.size, x, none⟩ = false := HR1.out.frozen _
              have k1 : L.count (x : Int) ≤ 30 := by have := List.count_le_length (a := (x : Int)) (l := L); have := hLl.out; omega
              have k2 : (ml.take i).count (x : Int) ≤ 30 := by have := List.count_le_length (a := (x : Int)) (l := ml.take i); rw [List.length_take] at this; omega
              have HS := Lib.hid (left_step hG0 hlt (by have := HA9.out.1; omega) hx HR1.out HR2.out HR3.out)
              have hx0 : (0 : Int) ≤ x := by omega
              have hx7 : (x : Int) ≤ 7 := by omega
              have hij2 : (i : Int) < j := by omega
              have hi0 : (0 : Int) ≤ i := by omega
              clear hca hx
              generalize L.count (x : Int) = p1 at *
              generalize (ml.take i).count (x : Int) = p2 at *
              go_wp2
              go_roundw
              case rel => exact HS.out
              case measure => simp [intOf] <;> omega
            · obtain rfl : i = j := by omega
              have hz8 : Hid (∀ t : Nat, t < 8 → wr.cell? ⟨w1.heap.size, t, none⟩ = some (.int .i64 0)) := by
                intro t ht
                rw [HR1.out.cell ht]
                have e1 : ml.take i = ml := List.take_of_length_le (by have := HA9.out.1; omega)
                have e2 : ml.count (t : Int) = L.count (t : Int) := HP.out.count_eq _
                simp [leftRow, e1, e2]
              have e3 : wr.cell? ⟨w3.heap.size, 0, none⟩ = some (.int .u64 (mixL s L).2) := (HR2.out.2 ⟨w3.heap.size, 0, none⟩ n3).trans c3
              have e5 : wr.cell? ⟨w5.heap.size, 0, none⟩ = some (.int .u64 (mixL s L).2) := (HR2.out.2 ⟨w5.heap.size, 0, none⟩ n5).trans c5
              have e7 : wr.cell? ⟨w7.heap.size, 0, none⟩ = some (.int .u64 (mixL s L).2) := (HR2.out.2 ⟨w7.heap.size, 0, none⟩ n7).trans c7
              clear HR1 HR2 HA9 HG9 c3 c5 c7 HP
              go_wp2_with fail
              go_loopw [20] (fun t wv => UpK wr 8 t wv) (fun t _ => 8 - (intOf t).toNat)
              case atStart => exact ⟨0, rfl, by omega, rfl⟩
              case round =>
                obtain ⟨t, rfl, ht, rfl⟩ := hrel
                by_cases ht8 : t < 8
                · have ct : wr.cell? ⟨w1.heap.size, t, none⟩ = some (.int .i64 0) := hz8.out t ht8
                  have ht0 : (0 : Int) ≤ t := by omega
                  have ht7 : (t : Int) < 8 := by omega
                  go_wp2
                  go_roundw
                  case rel => exact ⟨t + 1, by go_num, by omega, rfl⟩
                  case measure => simp [intOf] <;> omega
                · go_wp2
                  go_ret
                  exact ⟨rfl, HR3.out⟩

theorem drawMixed_run (s : Int) (a : Option Addr) (len cap : Nat) (zs : List Int) (k : Int) (w : World) (ws : (Lit.int .u64 s).wf = true) (wz : ArgRow .u8 w a len cap zs) (wk : (Lit.int .u8 k).wf = true) :
    Calls Try.prog 4 #[.int .u64 s, .slice a len cap, .int .u8 k] w fun e w' => e = .returned (.bool true) ∧ Below w.heap.size w w' := by
  obtain ⟨h1, h2, h3, h4⟩ := wz.rd
  have h5 : len ≤ 9223372036854775807 := by
    rcases wz with ⟨_, h, _, _⟩ | ⟨_, _, hl, hm, _⟩
    · omega
    · unfold maxLen at hm; omega
  have h6 : ∀ n ∈ zs.take len, 0 ≤ n ∧ n ≤ 255 := by
    intro n hn
    rcases wz with ⟨_, _, _, h⟩ | ⟨_, _, _, _, _, _, h⟩
    · subst h; simp at hn
    · exact bounds_u8 (h n (List.mem_of_mem_take hn))
  exact drawMixed_walk s k a len cap (min len 30) (zs.take len) _ (bounds_u8 wk) (Lib.hid rfl) (Lib.hid rfl) h5 h2 w h1 h6

theorem drawMixed_own : ownKnob Try.prog.godebug = none := by kernel_rfl
theorem drawMixed_laid : laidOutB Try.prog = true := by kernel_rfl
set_option maxRecDepth 100000 in
theorem drawMixed_lifted (os : Os) (started : os.Started) (H : Type) (enc : TypeId × Value → H) :
    ReturnsInHanded {} Try.checked os 4 .any (Rows.drawMixedSpec.pre6 enc Try.prog Try.f4 Rows.drawMixedRow.domain false) (Rows.drawMixedSpec.post enc Try.prog Try.f4 false true false false) := by
  refine returnsInHanded_of_change (C := Try.checked) drawMixed_own started (by kernel_rfl) Try.func4
    (ChangeSpec.witness6 (enc := enc) (C := Try.checked) false ⟨#[], #[.int .u64 0, .slice none 0 0, .int .u8 0], []⟩ 8 (by kernel_rfl) (by kernel_rfl) (by kernel_rfl) (by kernel_rfl)) ?_
  intro W base args ds gs before hval0 hW hcnd _
  have hval : ∀ (j : Nat) t v, Try.f4.params[j]? = some t → args[j]? = some v → Value.okWide Try.prog W .any base t v := hval0
  have hW' := hW
  obtain ⟨p, q, hA0, hV, rfl, hfz, hnd⟩ := hW
  have hA : DataW.TrodAll enc Try.prog W 0 (fun _ => true) true Try.f4.params.toList args.toList ds p := hA0
  rw [Try.params4] at hA hval
  obtain ⟨v0, vs0, d0, ds0, p0, q0, hargs, rfl, rfl, h0, r0⟩ := trodAll_cons hA
  obtain ⟨v1, vs1, d1, ds1, p1, q1, rfl, rfl, rfl, h1, r1⟩ := trodAll_cons r0
  obtain ⟨v2, vs2, d2, ds2, p2, q2, rfl, rfl, rfl, h2, r2⟩ := trodAll_cons r1
  obtain ⟨rfl, rfl, rfl⟩ := trodAll_nil r2
  obtain rfl : args = #[v0, v1, v2] := by cases args; simp_all
  obtain ⟨rfl, rfl⟩ := trodVars_none hV
  obtain ⟨a0, rfl, rfl, rfl, w0⟩ := open_int Try.underlying22 (hval 0 22 v0 rfl rfl) h0
  obtain ⟨a1, len1, cap1, rfl⟩ := okWide_slice Try.underlying45 (hval 1 45 v1 rfl rfl)
  have k1 := h1
  have lt1 : ∀ x ∈ p1, x.block < W.heap.size := by obtain ⟨m, hm⟩ := k1; exact DataW.trod_lt m _ _ _ hm
  obtain ⟨z1, w1⟩ : ∃ zs, ArgRow .u8 W a1 len1 cap1 zs := by
    obtain ⟨fuel, hf⟩ := h1
    rcases open_ints Try.underlying45 Try.underlying5 (by kernel_rfl) hf with ⟨hcs, _⟩ | ⟨x, l, c, zs, hcs, _, hl, hm, hz, _, hcell, hwz⟩
    · simp [Value.cells] at hcs
      obtain ⟨rfl, rfl, rfl⟩ := hcs
      exact ⟨[], .inl ⟨rfl, rfl, rfl, rfl⟩⟩
    · simp [Value.cells] at hcs
      obtain ⟨rfl, rfl, rfl⟩ := hcs
      exact ⟨zs, .inr ⟨_, rfl, hl, hm, by simpa using hz, hcell, hwz⟩⟩
  obtain ⟨a2, rfl, rfl, rfl, w2⟩ := open_int Try.underlying5 (hval 2 5 v2 rfl rfl) h2
  clear hA0 hval0
  refine (drawMixed_run a0 a1 len1 cap1 z1 a2 W w0 w1 w2).mono fun e W' ⟨he, bel⟩ => ?_
  subst he
  exact ⟨_, rfl, _, _, _, [], _, [], hW', trodAll_mk1 (shut_bool Try.underlying4 _), (trodAll_cons_mk (shut_int Try.underlying22 w0) (trodAll_cons_mk (Below.trod drawMixed_laid (by kernel_rfl) (of_decide_eq_true (by kernel_rfl)) k1 bel lt1) (trodAll_cons_mk (shut_int Try.underlying5 w2) trodAll_mk0))), rfl, bel.frame _, fun h => by cases h⟩
theorem drawMixed_over : Rows.drawMixedRow.holds Try.pinned (OpenSpec.ofChange Rows.drawMixedSpec) :=
  OpenClaim.holds_of_wide 4 Try.f4 rfl rfl rfl rfl rfl rfl rfl ⟨rfl, rfl, rfl, rfl, rfl⟩ rfl rfl rfl rfl rfl (by kernel_rfl) Try.func4 (by kernel_rfl)
    (of_decide_eq_true (by kernel_rfl)) (by unfold Func.isWrapper; first | (rw [if_pos (by decide +kernel)]; kernel_rfl) | (rw [if_neg (by decide +kernel)]; exact ⟨rfl, rfl⟩))
    (fun os started H enc _ => drawMixed_lifted os started H enc)
theorem drawMixed_holds : Rows.DrawMixedSaid := drawMixed_over
#print axioms drawMixed_holds
end Go.Proofs.Ythjdchhhiopceaa
