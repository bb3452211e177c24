/- A box's Out, of what may be. -/
import Derived.Test.YtdpgmdkclaahdaaNbBoxOut
namespace Go.Proofs.Ytdpgmdkclaahdaa.Nb
open Go.Sort Go.RowKit Go.BigFrame
set_option linter.unusedVariables false
set_option linter.unusedSimpArgs false

/-- the three boxes of Out's own: src, dst, the answer -/
structure Ob (x y z : Nat) (si sp di dp : Int) (w : World) : Prop where
  x : Cs x [.int .u32 si, .int .u16 sp] w
  y : Cs y [.int .u32 di, .int .u16 dp] w
  z : Cs z [.int .u32 0, .int .u16 0] w
theorem Ob.touch {x y z : Nat} {si sp di dp : Int} {F : Nat → Prop} {w w' : World} (h : Ob x y z si sp di dp w) (t : Touch F w w') (hx : ¬ F x) (hy : ¬ F y) (hz : ¬ F z) : Ob x y z si sp di dp w' := ⟨h.x.touch t hx, h.y.touch t hy, h.z.touch t hz⟩
theorem Ob.keep {x y z : Nat} {si sp di dp : Int} {w w' : World} (h : Ob x y z si sp di dp w) (b : Below w.heap.size w w') : Ob x y z si sp di dp w' := ⟨h.x.keep b, h.y.keep b, h.z.keep b⟩
def OutPost (g : Nat) (S : Nat → Prop) (m f ip hold : Int) (room : Nat) (now si sp di dp : Int) (L : List Bd) (w : World) (e : Ending) (w' : World) : Prop :=
  ∃ L' : List Bd, L'.map (·.1) = (outP m hold room now si sp di dp (L.map (·.1))).2 ∧ (outP m hold room now si sp di dp (L.map (·.1))).1 < L'.length ∧
    e = .returned (.tuple #[.agg #[.int .u32 ip, .int .u16 (poAt (outP m hold room now si sp di dp (L.map (·.1))).2 (outP m hold room now si sp di dp (L.map (·.1))).1)], .int .i64 0]) ∧ (∃ v', Bs g (grownS S w w') m f ip hold room v' L' w') ∧ Touch S w w'
theorem grownS_mono {S : Nat → Prop} {w w1 w2 w3 : World} (h : w.heap.size ≤ w1.heap.size) (h2 : w2.heap.size ≤ w3.heap.size) : ∀ k, grownS S w1 w2 k → grownS S w w3 k := fun k hk => by
  rcases hk with hk | ⟨h1, h3⟩
  · exact .inl hk
  · exact .inr ⟨by omega, by omega⟩
def KeyJ (g : Nat) (S : Nat → Prop) (m f ip hold : Int) (room : Nat) (L1 : List Bd) (si sp di dp : Int) (w w1 : World) (kv : Value) (wx : World) : Prop :=
  ∃ gk v, kv = .pointer (some ⟨gk, 0, none⟩) ∧ Cs gk [.int .u32 (keyIP m di), .int .u16 (keyPort m dp)] wx ∧ w.heap.size + 1 + 1 < gk ∧ Bs g S m f ip hold room v L1 wx ∧ Ob w.heap.size (w.heap.size + 1) (w.heap.size + 1 + 1) si sp di dp wx ∧ Touch S w wx
def PlaceJ (g : Nat) (S : Nat → Prop) (m f ip hold : Int) (room : Nat) (l2 : List Pb) (j : Nat) (si sp di dp : Int) (w : World) (jv : Value) (wx : World) : Prop :=
  ∃ (S2 : Nat → Prop) (v : Sl) (L2 : List Bd), jv = .int .i64 (j : Nat) ∧ L2.map (·.1) = l2 ∧ j < L2.length ∧ Bs g S2 m f ip hold room v L2 wx ∧ (∀ k, S2 k → S k ∨ (w.heap.size + 1 + 1 < k ∧ k < wx.heap.size)) ∧ Ob w.heap.size (w.heap.size + 1) (w.heap.size + 1 + 1) si sp di dp wx ∧ Touch S w wx
theorem key_b {g : Nat} {S : Nat → Prop} {m f ip hold : Int} {room : Nat} {L1 : List Bd} {si sp di dp : Int} {w w3 w4 : World} {v3 : Sl} (O : Ob w.heap.size (w.heap.size + 1) (w.heap.size + 1 + 1) si sp di dp w3) (HB : Bs g S m f ip hold room v3 L1 w3) (T : Touch S w w3) (d : Below w3.heap.size w3 w4) :
    KeyJ g S m f ip hold room L1 si sp di dp w w3 (.pointer (some ⟨w4.heap.size, 0, none⟩)) (w4.alloc (.cells #[.int .u32 (keyIP m di), .int .u16 (keyPort m dp)] 28)) :=
  ⟨w4.heap.size, v3, rfl, Cs.new w4 [.int .u32 (keyIP m di), .int .u16 (keyPort m dp)] 28, Nat.lt_of_lt_of_le O.z.lt d.size, (HB.keep d).keep ((Below.refl _ _).alloc (Nat.le_refl _) _), (O.keep d).keep ((Below.refl _ _).alloc (Nat.le_refl _) _), (T.trans (Touch.of_below S d) (fun _ _ h => h)).alloc _⟩
theorem key_a {g : Nat} {S : Nat → Prop} {m f ip hold : Int} {room : Nat} {L1 : List Bd} {si sp di dp : Int} {w w3 w4 : World} {v3 : Sl} (O : Ob w.heap.size (w.heap.size + 1) (w.heap.size + 1 + 1) si sp di dp w3) (HB : Bs g S m f ip hold room v3 L1 w3) (T : Touch S w w3) (hS : ∀ k, S k → k < w.heap.size) (d : Below w3.heap.size w3 w4)
    (X : Cs w3.heap.size [.int .u32 0, .int .u16 0] w4) :
    KeyJ g S m f ip hold room L1 si sp di dp w w3 (.pointer (some ⟨w3.heap.size, 0, none⟩)) ((w4.setCell ⟨w3.heap.size, 0, none⟩ (.int .u32 (keyIP m di))).setCell ⟨w3.heap.size, 1, none⟩ (.int .u16 (keyPort m dp))) := by
  have t : Touch (fun k => k = w3.heap.size) w3 ((w4.setCell ⟨w3.heap.size, 0, none⟩ (.int .u32 (keyIP m di))).setCell ⟨w3.heap.size, 1, none⟩ (.int .u16 (keyPort m dp))) := Touch.set (F := fun k => k = w3.heap.size) (Touch.set (F := fun k => k = w3.heap.size) (Touch.of_below _ d) (fun _ => rfl) _) (fun _ => rfl) _
  have t2 : Touch (fun _ => False) w3 ((w4.setCell ⟨w3.heap.size, 0, none⟩ (.int .u32 (keyIP m di))).setCell ⟨w3.heap.size, 1, none⟩ (.int .u16 (keyPort m dp))) := t.mono (fun k hk h => by omega)
  exact ⟨w3.heap.size, v3, rfl, (X.set 0 (.int .u32 (keyIP m di)) (by simp)).set 1 (.int .u16 (keyPort m dp)) (by simp), O.z.lt, HB.touch t2 (fun _ _ h => h), O.touch t2 (fun h => h) (fun h => h) (fun h => h), T.trans t2 (fun _ _ h => h.elim)⟩
theorem find_found {room : Nat} {si sp ki kp : Int} {L : List Bd} {j : Nat} (h : j < L.length) (h1 : isP si sp ki kp L[j].1 = true) (h2 : ∀ x ∈ L.take j, isP si sp ki kp x.1 = false) : findP room si sp ki kp (L.map (·.1)) = (j, L.map (·.1)) := by
  unfold findP; rw [idx_some h h1 h2]
theorem find_new {room : Nat} {si sp ki kp : Int} {L : List Bd} (h : ∀ x ∈ L, isP si sp ki kp x.1 = false) : findP room si sp ki kp (L.map (·.1)) = (freeF 0 ((evictB room L).map (·.1)), (openB room si sp ki kp L).map (·.1)) := by
  unfold findP; rw [idx_none h, open_fst, evict_fst]
theorem open_len (room : Nat) (si sp ki kp : Int) (L : List Bd) : freeF 0 ((evictB room L).map (·.1)) < (openB room si sp ki kp L).length := by
  have := (freeF_le ((evictB room L).map (·.1)) 0).2
  rw [List.length_map, Nat.zero_add] at this
  unfold openB
  rw [insL_len _ _ _ this]; omega
theorem poAt_mod (l : List Pb) (j : Nat) (u d p : Int) : poAt (modP l j (updP u d p)) j = poAt l j := by
  unfold poAt modP
  rw [List.getElem?_modify]
  simp only [if_true]
  cases l[j]? <;> rfl
/-- the last of Out: the answer is laid -/
theorem out_last {g z : Nat} {S S2 : Nat → Prop} {m f ip hold : Int} {room : Nat} {v : Sl} {L' : List Bd} {w w6 w9 : World} {p q : Value} (hz : z = w.heap.size + 1 + 1) (hzl : z < w6.heap.size) (hS : ∀ k, S k → k < w.heap.size) (hS2 : ∀ k, S2 k → S k ∨ (w.heap.size + 1 + 1 < k ∧ k < w6.heap.size)) (T6 : Touch S w w6)
    (hB : Bs g (grownS S2 w6 w9) m f ip hold room v L' w9) (hT : Touch S2 w6 w9) (w10 : World) (h10 : w10 = (w9.drew.setCell ⟨z, 0, none⟩ p).setCell ⟨z, 1, none⟩ q) :
    (∃ v', Bs g (grownS S w w10) m f ip hold room v' L' w10) ∧ Touch S w w10 := by
  have T9 : Touch S w w9 := T6.trans hT (fun k hk h => (hS2 k h).elim id (fun h2 => by omega))
  have t : Touch (fun k => k = z) w9 w10 := by rw [h10]; exact Touch.set (F := fun k => k = z) (Touch.set (F := fun k => k = z) ((Touch.refl _ w9).drew) (fun _ => rfl) _) (fun _ => rfl) _
  have hs9 : w9.heap.size ≤ w10.heap.size := t.size
  refine ⟨⟨v, (hB.touch t (fun k hk e => ?_)).mono (fun k hk => ?_)⟩, T9.trans t (fun k h1 h2 => by omega)⟩
  · subst e
    rcases hk with hk | hk
    · rcases hS2 _ hk with h | h
      · have := hS _ h; omega
      · omega
    · omega
  · have := T6.size
    have := hT.size
    rcases hk with hk | hk
    · rcases hS2 _ hk with h | h
      · exact .inl h
      · exact .inr ⟨by omega, by omega⟩
    · exact .inr ⟨by omega, by omega⟩
set_option maxHeartbeats 6400000 in
set_option maxRecDepth 100000 in
theorem out_ok (g : Nat) (S : Nat → Prop) (m f ip hold : Int) (room : Nat) (v : Sl) (now si sp di dp : Int) (L : List Bd) (w : World) (h : Bs g S m f ip hold room v L w) (hS : ∀ k, S k → k < w.heap.size) (hb : badO si sp di dp now = false) (h0 : 0 ≤ now) :
    Calls Try.prog 40 #[.pointer (some ⟨g, 0, none⟩), .int .u64 now, .agg #[.int .u32 si, .int .u16 sp], .agg #[.int .u32 di, .int .u16 dp]] w (OutPost g S m f ip hold room now si sp di dp L w) := by
  have N1 := none_any si sp
  have N2 := none_any di dp
  unfold badO at hb
  have hh1 := h.ok.h1
  have hh2 := h.ok.h2
  have hB : Hid (Below w.heap.size w (((w.alloc (.cells #[.int .u32 si, .int .u16 sp] 28)).alloc (.cells #[.int .u32 di, .int .u16 dp] 28)).alloc (.cells #[.int .u32 0, .int .u16 0] 28))) := by show Below _ _ _; (repeat (first | with_reducible exact Below.refl _ _ | with_reducible refine Below.drew ?_ | with_reducible refine below_drewN ?_ _ | with_reducible refine Below.alloc ?_ (by first | omega | (simp; done) | (simp; omega)) _ | with_reducible refine Below.setCell ?_ (by first | omega | (simp; done) | (simp; omega)) _))
  have O : Hid (Ob w.heap.size (w.heap.size + 1) (w.heap.size + 1 + 1) si sp di dp (((w.alloc (.cells #[.int .u32 si, .int .u16 sp] 28)).alloc (.cells #[.int .u32 di, .int .u16 dp] 28)).alloc (.cells #[.int .u32 0, .int .u16 0] 28))) := by
    have h1 := Cs.new (w.alloc (.cells #[.int .u32 si, .int .u16 sp] 28)) [.int .u32 di, .int .u16 dp] 28
    have h2 := Cs.new ((w.alloc (.cells #[.int .u32 si, .int .u16 sp] 28)).alloc (.cells #[.int .u32 di, .int .u16 dp] 28)) [.int .u32 0, .int .u16 0] 28
    simp only [World.size_alloc] at h1 h2
    exact ⟨((Cs.new w [.int .u32 si, .int .u16 sp] 28).alloc _).alloc _, h1.alloc _, h2⟩
  have HB := Lib.hid (h.keep hB.out)
  have HS := Lib.hid hS
  clear h hS
  generalize hA : noneI si sp = A at *
  generalize hA2 : noneI di dp = A2 at *
  clear hA hA2
  obtain ⟨rfl, rfl, hn⟩ : A = false ∧ A2 = false ∧ now ≤ 4611686018427387904 := by
    revert hb
    cases A <;> cases A2 <;> simp
  have hw : IntKind.u64.wrap (now + hold) = now + hold := IntWalk.u64_in _ (by omega)
  have hw0 : 0 ≤ now + hold := by omega
  clear hb
  have x0 := O.out.x.cell 0 _ rfl
  have x1 := O.out.x.cell 1 _ rfl
  go_enter Try.func40, Try.ntmps40
  go_wp2_with fail
  refine (N1 _).mono ?_; rintro e w1 ⟨rfl, d⟩
  replace O := Lib.hid (O.out.keep d)
  replace HB := Lib.hid (HB.out.keep d)
  replace hB := Lib.hid (hB.out.trans (d.mono hB.out.size))
  clear x0 x1 d N1
  have x0 := O.out.y.cell 0 _ rfl
  have x1 := O.out.y.cell 1 _ rfl
  go_wp2_with fail
  refine (N2 _).mono ?_; rintro e w2 ⟨rfl, d⟩
  replace O := Lib.hid (O.out.keep d)
  replace HB := Lib.hid (HB.out.keep d)
  replace hB := Lib.hid (hB.out.trans (d.mono hB.out.size))
  clear x0 x1 d N2
  have SW := sweep_any now g S m f ip hold room v L w2 HB.out (fun k hk => Nat.lt_of_lt_of_le (HS.out k hk) hB.out.size)
  go_wp2_with fail
  refine SW.mono ?_; rintro e w3 ⟨rfl, ⟨v3, hb3⟩, ht3⟩
  have hno : ∀ q, w.heap.size ≤ q → ¬ S q := fun q hq hk => Nat.lt_irrefl _ (Nat.lt_of_lt_of_le (HS.out q hk) hq)
  replace O := Lib.hid (O.out.touch ht3 (hno _ (Nat.le_refl _)) (hno _ (by omega)) (hno _ (by omega)))
  replace HB := Lib.hid hb3
  have T := Lib.hid ((Touch.of_below S hB.out).trans ht3 (fun _ _ h => h))
  have HNO := Lib.hid hno
  clear SW hb3 ht3 hB hno
  obtain ⟨L1, hL1⟩ : ∃ L1, keepL (goneP now) L = L1 := ⟨_, rfl⟩
  rw [hL1] at HB
  have HL1 : Hid (L1.map (·.1) = sweepP now (L.map (·.1))) := by rw [← hL1]; exact sweep_fst now L
  clear hL1
  go_upto_region 4 with fail
  go_cut [10] (fun kv wx => KeyJ g S m f ip hold room L1 si sp di dp w w3 kv wx)
  case first =>
    have b0 := HB.out.box.cell 0 _ rfl
    have b1 := HB.out.box.cell 1 _ rfl
    have gl := HB.out.box.lt
    have x0 := O.out.y.cell 0 _ rfl
    have x1 := O.out.y.cell 1 _ rfl
    have yl := O.out.y.lt
    have K := key_any m f di dp
    have FB := Lib.hid (fun (w4 : World) (d : Below w3.heap.size w3 w4) => key_b (w4 := w4) O.out HB.out T.out d)
    have FA := Lib.hid (fun (w4 : World) (d : Below w3.heap.size w3 w4) X => key_a (w4 := w4) O.out HB.out T.out HS.out d X)
    generalize keyIP m di = ki at *
    generalize keyPort m dp = kp at *
    go_region_law ((go_simp; go_at_call 57; refine (K _).mono ?_; rintro e w4 ⟨rfl, d⟩; first | (have ZK : Cs w3.heap.size [.int .u32 0, .int .u16 0] w4 := (Cs.new w3.drew [.int .u32 0, .int .u16 0] 28).keep d; have D := Lib.hid ((((Below.refl w3.heap.size w3).drew).alloc (Nat.le_refl _) (.cells #[.int .u32 0, .int .u16 0] 28)).trans (d.mono (by simp))); have z0 := ZK.cell 0 _ rfl; have z1 := ZK.cell 1 _ rfl; have zf0 := ZK.free 0 _ rfl; have zf1 := ZK.free 1 _ rfl; have zl := ZK.lt; have F0 := Lib.hid (FA.out w4 D.out ZK); clear d ZK D FB) | (have D := Lib.hid (((Below.refl w3.heap.size w3).drew).trans d); have F0 := Lib.hid (FB.out w4 D.out); clear d D FA)))
    all_goals go_wp2_with fail
    all_goals go_meet
    all_goals exact F0.out
  case rest =>
    obtain ⟨gk, v4, rfl, hK, hgk, hBs, hO, hT⟩ := hcut
    generalize wc = w4 at *
    obtain ⟨fj, hfj⟩ : ∃ fj, findP room si sp (keyIP m di) (keyPort m dp) (L1.map (·.1)) = fj := ⟨_, rfl⟩
    obtain ⟨j, l2⟩ := fj
    have HF := Lib.hid hfj
    have HOUT : Hid (outP m hold room now si sp di dp (L.map (·.1)) = (j, modP l2 j (updP (now + hold) di dp))) := by
      show _ = _
      unfold outP
      rw [← HL1.out, hfj]
    clear hfj HL1 O HB T
    have hn4 := hBs.form.1
    have hlen := hBs.len
    have hr2 := hBs.ok.r2
    obtain ⟨a4, n4, c4⟩ := v4
    simp only at hn4
    subst hn4
    have I := idxF_any _ enters_out #[.pointer (some ⟨w.heap.size, 0, none⟩), .pointer (some ⟨gk, 0, none⟩)] (isP si sp (keyIP m di) (keyPort m dp)) a4 c4 L1 (by omega) w4 (brow_rd hBs.row) (fun x hx w' hb => outC_any x si sp (keyIP m di) (keyPort m dp) w.heap.size gk w' (hO.x.keep hb) (hK.keep hb))
    generalize keyIP m di = ki at *
    generalize keyPort m dp = kp at *
    have x5 := hBs.box.cell 5 _ rfl
    have gl := hBs.box.lt
    have HB := Lib.hid hBs
    have O := Lib.hid hO
    have T := Lib.hid hT
    have HK := Lib.hid hK
    have hwgk : w.heap.size ≤ gk := by omega
    have HGK := Lib.hid hgk
    clear hBs hO hT hK hgk
    go_wp2_with fail
    refine I.mono ?_; rintro e w5 ⟨iv, rfl, hv, b5⟩
    replace HB := Lib.hid (HB.out.keep b5)
    replace O := Lib.hid (O.out.keep b5)
    replace T := Lib.hid (T.out.trans (Touch.of_below S b5) (fun _ _ h => h))
    replace HK := Lib.hid (HK.out.keep b5)
    clear I x5 gl b5
    have HV := Lib.hid hv
    clear hv
    go_upto_if 40 with fail
    go_cut [11] (fun jv wx => PlaceJ g S m f ip hold room l2 j si sp di dp w jv wx)
    case first =>
      rcases HV.out with ⟨rfl, hno⟩ | ⟨j1, hj1, rfl, hy, hno⟩
      · have HN := Lib.hid ((find_new (room := room) hno).symm.trans HF.out)
        have x0 := O.out.x.cell 0 _ rfl
        have x1 := O.out.x.cell 1 _ rfl
        have y0 := HK.out.cell 0 _ rfl
        have y1 := HK.out.cell 1 _ rfl
        have OP := open_any g S m f ip hold room _ si sp ki kp L1 w5 HB.out (fun k hk => Nat.lt_of_lt_of_le (HS.out k hk) T.out.size)
        clear hno HV
        go_wp2_with fail
        refine OP.mono ?_; rintro e w6 ⟨rfl, ⟨v6, hb6⟩, ht6⟩
        have hno := HNO.out
        have e1 := Prod.mk.inj HN.out
        have FIN : Hid (PlaceJ g S m f ip hold room l2 j si sp di dp w (.int .i64 (freeF 0 ((evictB room L1).map (·.1)) : Nat)) w6) := by
          refine ⟨_, v6, openB room si sp ki kp L1, by rw [e1.1], e1.2, by rw [← e1.1]; exact open_len _ _ _ _ _ _, hb6, fun k hk => ?_, O.out.touch ht6 (hno _ (Nat.le_refl _)) (hno _ (by omega)) (hno _ (by omega)), T.out.trans ht6 (fun _ _ h => h)⟩
          rcases hk with hk | ⟨h1, h2⟩
          · exact .inl hk
          · exact .inr ⟨by have := O.out.z.lt; omega, h2⟩
        clear hno e1 OP hb6 ht6 x0 x1 y0 y1
        go_wp2_with fail
        go_meet
        exact FIN.out
      · have e1 := Prod.mk.inj ((find_found (room := room) hj1 hy hno).symm.trans HF.out)
        have hj0 : (0 : Int) ≤ j1 := by omega
        have FIN : Hid (PlaceJ g S m f ip hold room l2 j si sp di dp w (.int .i64 (j1 : Nat)) w5) :=
          ⟨S, _, L1, by rw [e1.1], e1.2, by rw [← e1.1]; exact hj1, HB.out, fun k hk => .inl hk, O.out, T.out⟩
        clear e1 hy hno HV hj1
        go_wp2_with fail
        go_meet
        exact FIN.out
    case rest =>
      obtain ⟨S2, v6, L2, rfl, hfst, hjl, hBs, hS2, hO, hT⟩ := hcut
      generalize wc = w6 at *
      have hn6 := hBs.form
      obtain ⟨a6, n6, c6⟩ := v6
      simp only at hn6
      obtain ⟨hn6, ha6⟩ := hn6
      subst hn6
      obtain ⟨gb, rfl⟩ : ∃ gb, a6 = some ⟨gb, 0, none⟩ := by
        rcases ha6 with h | ⟨gb, h, _⟩
        · injection h with _ h _; omega
        · exact ⟨gb, h⟩
      obtain ⟨-, C, hC, hcap, htk, hlc, hm⟩ := brow_open hBs.row
      have hjx : L2[j]? = some L2[j] := List.getElem?_eq_getElem hjl
      have hCj := take_at htk hjx
      have hjr : L2.length ≤ room := hBs.len
      have hS2b : ∀ k, S2 k → k < w6.heap.size := fun k hk => (hS2 k hk).elim (fun h => Nat.lt_of_lt_of_le (HS.out k h) hT.size) (fun h => h.2)
      have hgb := (hBs.vS gb rfl).1
      have hmet16 := hBs.ok.met L2[j].1 (List.mem_map.2 ⟨L2[j], List.getElem_mem hjl, rfl⟩)
      have hpoj := poAt_fst L2 j hjl
      have hset := set_fst L2 j hjl (updP (now + hold) di dp)
      rw [hfst] at hset hpoj
      have hmr := hBs.met L2[j] (List.getElem_mem hjl)
      have hmS := hBs.mS L2[j] (List.getElem_mem hjl)
      have FU := fun (w4 w5 : World) (v' : Sl) b hr ht hat => upd_fin (w4 := w4) (w5 := w5) (v' := v') (u := now + hold) (b' := updP (now + hold) di dp (L2[j]'hjl).1) hjl hBs hS2b b rfl (meetP_len hmet16) hr ht hat
      have x5 := hBs.box.cell 5 _ rfl
      have x3 := hBs.box.cell 3 _ rfl
      have gl := hBs.box.lt
      have t7 : Touch (fun k => k = gb) w6 (w6.setCell ⟨gb, j * 7 + 6, none⟩ (.int .u64 (now + hold))) := Touch.set (F := fun k => k = gb) (Touch.refl _ w6) (fun _ => rfl) _
      have hnz : ∀ q, w.heap.size ≤ q → q ≤ w.heap.size + 1 + 1 → ¬ S2 q := fun q h1 h2 hk => by
        rcases hS2 q hk with h | h
        · have := HS.out q h; omega
        · omega
      have hzl := hO.z.lt
      have O7 := hO.touch t7 (fun e => hnz w.heap.size (Nat.le_refl _) (by omega) (by rw [e]; exact hgb)) (fun e => hnz (w.heap.size + 1) (by omega) (by omega) (by rw [e]; exact hgb)) (fun e => hnz (w.heap.size + 1 + 1) (by omega) (by omega) (by rw [e]; exact hgb))
      have R7 := hC.field j 6 _ (.int .u64 (now + hold)) hCj (by decide)
      have hlj : j < C.length := by omega
      have M7 : ARow (w6.setCell ⟨gb, j * 7 + 6, none⟩ (.int .u64 (now + hold))) L2[j].2.v L2[j].1.met := own_touch hmr t7 (fun k hk e => (hmS k hk).2.2 (by rw [e]; rfl))
      have d6 := hC.cell j 6 _ _ hCj rfl
      have d5 := R7.cell j 5 _ _ (List.getElem?_set_self hlj) rfl
      have f6 := hC.free (j * 7 + 6)
      have blt := hC.lt
      have hjl' : (j : Int) < L2.length := by omega
      have hj0 : (0 : Int) ≤ j := by omega
      have hset := hset
      obtain ⟨y, hy⟩ : ∃ y, L2[j] = y := ⟨_, rfl⟩
      rw [hy] at hmet16 hpoj hset hmr hmS FU d6 d5 M7
      simp only [hy] at R7
      obtain ⟨⟨y1, y2, y3, y4, y5, y6, y7⟩, ⟨z1, z2, z3⟩⟩ := y
      have HR7 := Lib.hid R7
      clear R7
      have HFU := Lib.hid FU
      clear FU
      have HO7 := Lib.hid O7
      clear O7
      have HM7 := Lib.hid M7
      clear M7
      have HB := Lib.hid hBs
      have HO := Lib.hid hO
      have T := Lib.hid hT
      have HS2 := Lib.hid hS2
      have HSET := Lib.hid hset
      have HPO := Lib.hid hpoj
      have HMS := Lib.hid hmS
      have HM16 := Lib.hid hmet16
      have HLJ := Lib.hid hlj
      have HNZ := Lib.hid hnz
      clear hcap htk hlc hm hC hCj hjx hS2b hgb hmr hmS hset hpoj hmet16 t7 hBs hO hT hS2 hfst ha6 hy hlj hnz HGK hwgk hlen
      simp only at d5 d6
      clear HB HNO HK HV HF O
      have hz2 : z2 = y7.length := by
        rcases arow_form HM7.out with ⟨h1, h2⟩ | ⟨_, _, h1, _⟩
        · have h2' : y7 = [] := h2
          simp [Sl.v] at h1; rw [h2', h1.2.1]; rfl
        · simp [Sl.v] at h1; exact h1.2.1
      subst hz2
      go_upto_region 10 with fail
      go_cut [] (fun wx => ∃ vm : Sl, Bs g (grownS S2 w6 wx) m f ip hold room ⟨some ⟨gb, 0, none⟩, L2.length, c6⟩ (L2.set j (updP (now + hold) di dp ⟨y1, y2, y3, y4, y5, y6, y7⟩, vm)) wx ∧ Touch S2 w6 wx)
      case first =>
        have b0 := HO7.out.y.cell 0 _ rfl
        have b1 := HO7.out.y.cell 1 _ rfl
        generalize (w6.setCell ⟨gb, j * 7 + 6, none⟩ (.int .u64 (now + hold))) = w7 at *
        have MR : Hid (ARow w7.drew (.slice z1 y7.length z3) y7) := own_touch HM7.out ((Touch.refl (fun _ => False) w7).drew) (fun _ _ h => h)
        have R7D : Hid (Rw 7 gb 107 _ w7.drew) := ⟨HR7.out.all, HR7.out.heap⟩
        clear x5 x3 d6 f6
        go_region_law ((go_simp; go_at_call 61; refine (meet_any z1 z3 y7 di dp HM16.out _ MR.out).mono ?_; rintro e w8 ⟨vm, rfl, hr8, ht8, hat8⟩; have R8 := R7D.out.touch ht8 (fun hk => (HMS.out _ (own_eq hk)).2.2 rfl); have e5 := R8.cell j 5 _ _ (List.getElem?_set_self HLJ.out) rfl; have ef := R8.free (j * 7 + 5); have el := R8.lt; have FIN := Lib.hid (HFU.out w7.drew w8 vm ((Below.refl _ _).drew) hr8 ht8 hat8); clear hr8 ht8 hat8 R8))
        all_goals go_wp2_with fail
        all_goals go_meet
        all_goals exact ⟨vm, FIN.out.1, FIN.out.2⟩
      case rest =>
        obtain ⟨vm, hB9, hT9⟩ := hcut
        generalize wc = w9 at *
        obtain ⟨-, C9, hC9, -, ht9, -, -⟩ := brow_open hB9.row
        rw [List.length_set] at ht9
        have hx9 := take_at (by rw [List.length_set]; exact ht9) (List.getElem?_set_self (a := ((updP (now + hold) di dp ⟨y1, y2, y3, y4, y5, y6, y7⟩, vm) : Bd)) hjl)
        have p4 := hC9.cell j 4 _ _ hx9 rfl
        have q2 := hB9.box.cell 2 _ rfl
        have gl9 := hB9.box.lt
        have bl9 := hC9.lt
        have Z9 := HO.out.z.touch hT9 (HNZ.out _ (by omega) (Nat.le_refl _))
        have z0 := Z9.cell 0 _ rfl
        have z1' := Z9.cell 1 _ rfl
        have zf0 := Z9.free 0 _ rfl
        have zf1 := Z9.free 1 _ rfl
        have zl := Z9.lt
        have LAST := Lib.hid (fun w10 h => out_last (p := .int .u32 ip) (q := .int .u16 y5) rfl hzl HS.out HS2.out T.out hB9 hT9 w10 h)
        simp only [updP] at p4
        clear hB9 hT9 hC9 ht9 hx9 Z9 x5 x3 d5 d6 f6 HFU HR7 HO7 HM7 HM16 HMS HO hw hw0
        go_wp2_with fail
        go_region
        all_goals go_wp2_with fail
        all_goals
          refine bodyPost_ret (v := .tuple #[.agg #[.int .u32 ip, .int .u16 y5], .int .i64 0]) (by simp [results, Try.results40, go_sem, *]) rfl ?_
          unfold OutPost
          rw [HOUT.out]
          refine ⟨L2.set j (updP (now + hold) di dp ⟨y1, y2, y3, y4, y5, y6, y7⟩, vm), HSET.out vm, by rw [List.length_set]; exact hjl, ?_, (LAST.out _ rfl).1, (LAST.out _ rfl).2⟩
          simp only
          rw [poAt_mod, HPO.out]
end Go.Proofs.Ytdpgmdkclaahdaa.Nb