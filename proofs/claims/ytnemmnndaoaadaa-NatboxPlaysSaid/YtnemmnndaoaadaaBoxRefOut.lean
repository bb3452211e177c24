/- The reference's box: Out. -/
import Derived.Test.YtnemmnndaoaadaaBoxRefSt
import Derived.Deep.RegionHeld3
import Derived.Deep.DeepCutAuto
namespace Go.Proofs.Ytnemmnndaoaadaa
open Go.Sort Go.RowKit Go.BigFrame
set_option linter.unusedVariables false
set_option linter.unusedSimpArgs false

theorem both_snoc {l : List (Int × Int)} {i : Nat} {d p : Int} (h : i < l.length) : bothIn (l.take (i + 1)) d p = (bothIn (l.take i) d p || (decide (l[i].1 = d) && decide (l[i].2 = p))) := by
  unfold bothIn
  rw [List.take_succ_eq_append_getElem h, List.any_append]
  simp
def ROutPost (g : Nat) (S : Nat → Prop) (m f ip hold : Int) (room : Nat) (now si sp di dp : Int) (L : List Bd) (w : World) (e : Ending) (w' : World) : Prop :=
  ∃ L' : List Bd, L'.map (·.1) = (outP m hold room now si sp di dp (L.map (·.1))).2 ∧
    e = .returned (.tuple #[.agg #[.int .u32 ip, .int .u16 (poAt (outP m hold room now si sp di dp (L.map (·.1))).2 (outP m hold room now si sp di dp (L.map (·.1))).1)], .int .i64 0]) ∧ (∃ v', RBs g (grownS S w w') m f ip hold room v' L' w') ∧ Touch S w w'
def RoJ (met : List (Int × Int)) (d p : Int) (w7 : World) (tv iv : Value) (wr : World) : Prop := ∃ i : Nat, iv = .int .i64 (i : Nat) ∧ i ≤ met.length ∧ tv = .bool (bothIn (met.take i) d p) ∧ Below w7.heap.size w7 wr
/-- behind the if: the list that is to be stored -/
def RmJ (S : Nat → Prop) (w : World) (si sp di dp : Int) (g : Nat) (m f ip hold : Int) (room : Nat) (v : Sl) (L : List Bd) (met : List (Int × Int)) (sv : Value) (wx : World) : Prop :=
  ∃ (a : Option Addr) (c : Nat) (S1 : Nat → Prop), sv = .slice a (rfMet met di dp).length c ∧ RoB S w si sp di dp g m f ip hold room S1 v L wx ∧ (a = none → c = 0) ∧ RdA wx wx.heap.size a (rfMet met di dp) ∧ ∀ b, (Value.slice a 0 0).ownBlock = some b → S1 b ∧ b ≠ g ∧ v.v.ownBlock ≠ some b
theorem info_raddr : (Try.prog.info? 44).map (fun i => (i.zero, i.size, i.bytes)) = some (some (.agg #[.int .u32 0, .int .u16 0]), 2, 8) := by kernel_rfl
/-- a list of our own, made since -/
def RnJ (met : List (Int × Int)) (d p : Int) (wr : World) (sv : Value) (wx : World) : Prop := ∃ (g2 cap2 : Nat), sv = .slice (some ⟨g2, 0, none⟩) (met.length + 1) cap2 ∧ met.length + 1 ≤ cap2 ∧ cap2 ≤ maxLen ∧ wr.heap.size ≤ g2 ∧ RdA wx wx.heap.size (some ⟨g2, 0, none⟩) (met ++ [(d, p)]) ∧ Below wr.heap.size wr wx
theorem rnJ_of {met : List (Int × Int)} {d p : Int} {wr w9 : World} {g2 cap2 B n : Nat} {T : TypeId} {xs : List Value} (hown : w9.ownsRow B T 2 (.slice (some ⟨g2, 0, none⟩) n cap2) n xs) (hn : n = met.length + 1) (hx : xs = (met.map pr).flatten ++ pr (d, p)) (hB : wr.heap.size ≤ B) (hb : Below wr.heap.size wr w9) : RnJ met d p wr (.slice (some ⟨g2, 0, none⟩) n cap2) w9 := by
  subst hn hx
  obtain ⟨C, hC, h2, h3, h4, h5, h6⟩ := Rw.of_own (by decide) hown
  have hfl : C.take (met.length + 1) = (met ++ [(d, p)]).map pr := by
    refine flatten_inj (z := 2) _ _ (by decide) (fun c hc => hC.all c (List.mem_of_mem_take hc)) (pr_all _) ?_
    rw [h5, List.map_append, List.flatten_append]; simp
  refine ⟨g2, cap2, rfl, h3, h4, Nat.le_trans hB h6, fun _ => ⟨g2, 0, rfl, hC.lt, fun i hi => ?_⟩, hb⟩
  have hi2 : i < met.length + 1 := by simpa using hi
  have hCi : C[i]? = some (pr (met ++ [(d, p)])[i]) := by
    have h7 : (C.take (met.length + 1))[i]? = C[i]? := by rw [List.getElem?_take, if_pos hi2]
    rw [← h7, hfl, List.getElem?_map, List.getElem?_eq_getElem hi]; rfl
  have c0 := hC.cell i 0 _ _ hCi rfl
  have c1 := hC.cell i 1 _ _ hCi rfl
  rw [Nat.zero_add]
  exact ⟨c0, c1⟩
theorem rdA_drop {w : World} {B g2 k : Nat} {l : List (Int × Int)} (h : RdA w B (some ⟨g2, 0, none⟩) l) : RdA w B (some ⟨g2, k * 2, none⟩) (l.drop k) := fun hp => by
  rw [List.length_drop] at hp
  obtain ⟨b, off, he, hB, hc⟩ := h (by omega)
  simp only [Option.some.injEq, Addr.mk.injEq, and_true] at he
  obtain ⟨rfl, rfl⟩ := he
  refine ⟨_, _, rfl, hB, fun i hi => ?_⟩
  rw [List.length_drop] at hi
  obtain ⟨c0, c1⟩ := hc (k + i) (by omega)
  rw [List.getElem_drop]
  have e : k * 2 + i * 2 = 0 + (k + i) * 2 := by omega
  rw [e]
  exact ⟨c0, c1⟩
theorem RoB.more {S S1 : Nat → Prop} {w w1 w2 : World} {si sp di dp m f ip hold : Int} {g room : Nat} {v : Sl} {L : List Bd} (h : RoB S w si sp di dp g m f ip hold room S1 v L w1) (hb : Below w1.heap.size w1 w2) : RoB S w si sp di dp g m f ip hold room (grownS S1 w1 w2) v L w2 := by
  have h2 := h.keep hb
  exact ⟨h2.b.mono (fun k hk => .inl hk) (grown_lt h.b.lt hb.size), h2.x, h2.y, h2.z, h2.t, h.ok.grown h.z.lt⟩
theorem rmJ_new {S S1 : Nat → Prop} {w wr wx : World} {si sp di dp m f ip hold : Int} {g room g2 lo : Nat} {v : Sl} {L : List Bd} {met : List (Int × Int)} (h : RoB S w si sp di dp g m f ip hold room S1 v L wr) (hE : rfMet met di dp = (met ++ [(di, dp)]).drop lo) (hlo : lo ≤ met.length) (hg : wr.heap.size ≤ g2)
    (hrd : RdA wx wx.heap.size (some ⟨g2, 0, none⟩) (met ++ [(di, dp)])) (hb : Below wr.heap.size wr wx) (c : Nat) : RmJ S w si sp di dp g m f ip hold room v L met (.slice (some ⟨g2, lo * 2, none⟩) (met.length + 1 - lo) c) wx := by
  obtain ⟨b, off, he, hB, _⟩ := hrd (by simp)
  simp only [Option.some.injEq, Addr.mk.injEq, and_true] at he
  obtain ⟨rfl, rfl⟩ := he
  refine ⟨_, c, _, by rw [hE, List.length_drop, List.length_append]; rfl, h.more hb, fun hq => (by cases hq), by rw [hE]; exact rdA_drop hrd, fun b hb2 => ?_⟩
  have e : g2 = b := Option.some.inj hb2
  subst e
  refine ⟨.inr ⟨hg, hB⟩, fun e => ?_, fun e => ?_⟩
  · have := h.b.lt g h.b.gS; omega
  · have := h.b.lt _ (h.b.vS _ e).1; omega
set_option maxHeartbeats 6400000 in
set_option maxRecDepth 100000 in
theorem rout_ok (g : Nat) (S : Nat → Prop) (m f ip hold : Int) (room : Nat) (v : Sl) (now si sp di dp : Int) (L : List Bd) (w : World) (h : RBs g S m f ip hold room v L w) (hb : badO si sp di dp now = false) (h0 : 0 ≤ now) :
    Calls Try.prog 17 #[.pointer (some ⟨g, 0, none⟩), .int .u64 now, .agg #[.int .u32 si, .int .u16 sp], .agg #[.int .u32 di, .int .u16 dp]] w (ROutPost g S m f ip hold room now si sp di dp L w) := by
  have N1 := rnone_any si sp
  have N2 := rnone_any di dp
  unfold badO at hb
  have hh1 := h.h1
  have hh2 := h.h2
  have HLT := Lib.hid h.lt
  have HGS := Lib.hid h.gS
  have O := Lib.hid (RoB.start (si := si) (sp := sp) (di := di) (dp := dp) h)
  clear h
  generalize hA : noneI si sp = A at *
  generalize hA2 : noneI di dp = A2 at *
  clear hA hA2
  obtain ⟨rfl, rfl, hn⟩ : A = false ∧ A2 = false ∧ now ≤ 4611686018427387904 := by
    revert hb
    cases A <;> cases A2 <;> simp
  have hwr : IntKind.u64.wrap (now + hold) = now + hold := IntWalk.u64_in _ (by omega)
  have hw0 : 0 ≤ now + hold := by omega
  clear hb
  have x0 := O.out.x.cell 0 _ rfl
  have x1 := O.out.x.cell 1 _ rfl
  have xl := O.out.x.lt
  go_enter Try.func17, Try.ntmps17
  go_wp2_with fail
  refine (N1 _).mono ?_; rintro e w1 ⟨rfl, d⟩
  replace O := Lib.hid (O.out.keep d)
  clear x0 x1 xl d N1
  have x0 := O.out.y.cell 0 _ rfl
  have x1 := O.out.y.cell 1 _ rfl
  have xl := O.out.y.lt
  go_wp2_with fail
  refine (N2 _).mono ?_; rintro e w2 ⟨rfl, d⟩
  replace O := Lib.hid (O.out.keep d)
  clear x0 x1 xl d N2
  have SW := rsweep_b now g S m f ip hold room v L w2 O.out.b
  go_wp2_with fail
  refine SW.mono ?_; rintro e w3 ⟨rfl, ⟨v3, hb3⟩, ht3⟩
  replace O := Lib.hid (O.out.aft hb3 (ht3.mono (fun k _ e => by rw [e]; exact HGS.out)))
  obtain ⟨S1, hS1⟩ : ∃ S1, S1 = grownS S w2 w3 := ⟨_, rfl⟩
  rw [← hS1] at O
  obtain ⟨K, hK⟩ : ∃ K, keepU now L = K := ⟨_, rfl⟩
  rw [hK] at O
  have HK : Hid (K.map (·.1) = sweepP now (L.map (·.1))) := by rw [← hK]; exact keepU_fst now L
  clear hK hS1 SW hb3 ht3
  have b0 := O.out.b.box.cell 0 _ rfl
  have b1 := O.out.b.box.cell 1 _ rfl
  have gl := O.out.b.box.lt
  have x0 := O.out.x.cell 0 _ rfl
  have x1 := O.out.x.cell 1 _ rfl
  have xl := O.out.x.lt
  have y0 := O.out.y.cell 0 _ rfl
  have y1 := O.out.y.cell 1 _ rfl
  have yl := O.out.y.lt
  have KK := rkey_any m f di dp
  obtain ⟨fj, hfj⟩ : ∃ fj, findP room si sp (keyIP m di) (keyPort m dp) (K.map (·.1)) = fj := ⟨_, rfl⟩
  obtain ⟨j, l2⟩ := fj
  have HOUT : Hid (outP m hold room now si sp di dp (L.map (·.1)) = (j, modP l2 j (updP (now + hold) di dp))) := by
    show _ = _
    unfold outP
    rw [← HK.out, hfj]
  have AT : Hid (∀ w4, RoB S w si sp di dp g m f ip hold room S1 v3 K w4 → Calls Try.prog 37 #[.pointer (some ⟨g, 0, none⟩), .agg #[.int .u32 si, .int .u16 sp], .agg #[.int .u32 (keyIP m di), .int .u16 (keyPort m dp)]] w4 (fun e w' => e = .returned (.int .i64 (j : Nat)) ∧ ∃ v' L' S', L'.map (·.1) = l2 ∧ j < L'.length ∧ RoB S w si sp di dp g m f ip hold room S' v' L' w')) := fun w4 h4 =>
    (rat_b g S1 m f ip hold si sp (keyIP m di) (keyPort m dp) room v3 K w4 h4.b).mono (fun e w' hh => by
      obtain ⟨he, v', L', q1, q2, q3, q4⟩ := hh
      rw [hfj] at he q1 q2
      exact ⟨he, v', L', _, q1, q2, h4.aft q3 (q4.mono (fun k _ e => by rw [e]; exact h4.b.gS))⟩)
  have SF : Hid (∀ S' v' L' w', RoB S w si sp di dp g m f ip hold room S' v' L' w' → w'.cell? ⟨w.heap.size, 0, none⟩ = some (.int .u32 si) ∧ w'.cell? ⟨w.heap.size, 1, none⟩ = some (.int .u16 sp) ∧ w'.cell? ⟨w.heap.size + 1, 0, none⟩ = some (.int .u32 di) ∧ w'.cell? ⟨w.heap.size + 1, 1, none⟩ = some (.int .u16 dp) ∧ w'.cell? ⟨g, 0, none⟩ = some (.int .i64 m) ∧ w'.cell? ⟨g, 1, none⟩ = some (.int .i64 f)) := fun S' v' L' w' hh => ⟨hh.x.cell 0 _ rfl, hh.x.cell 1 _ rfl, hh.y.cell 0 _ rfl, hh.y.cell 1 _ rfl, hh.b.box.cell 0 _ rfl, hh.b.box.cell 1 _ rfl⟩
  clear hfj
  generalize keyIP m di = ki at *
  generalize keyPort m dp = kp at *
  go_upto_region 6 with fail
  have OD := Lib.hid (O.out.keep (Below.refl _ _).drew)
  clear O b0 b1 x0 x1 y0 y1
  go_region_held3 (fun w' => w'.cell? ⟨w.heap.size, 0, none⟩ = some (.int .u32 si) ∧ w'.cell? ⟨w.heap.size, 1, none⟩ = some (.int .u16 sp) ∧ w'.cell? ⟨w.heap.size + 1, 0, none⟩ = some (.int .u32 di) ∧ w'.cell? ⟨w.heap.size + 1, 1, none⟩ = some (.int .u16 dp) ∧ w'.cell? ⟨g, 0, none⟩ = some (.int .i64 m) ∧ w'.cell? ⟨g, 1, none⟩ = some (.int .i64 f)) (first | exact SF.out _ _ _ _ OD.out | exact SF.out _ _ _ _ OK.out | exact SF.out _ _ _ _ OA.out) (first | (go_at_call 38; refine (KK _).mono ?_; rintro e w4 ⟨rfl, d4⟩; have OK := Lib.hid (OD.out.keep d4)) | (go_at_call 37; refine (AT.out _ OK.out).mono ?_; rintro e w5 ⟨rfl, v4, L4, S4, hl4, hj4, ha⟩; have OA := Lib.hid ha; clear ha) | fail)
  clear KK AT SF OD OK d4 gl xl yl
  have hn4 := OA.out.b.n
  have hlen4 := OA.out.b.len
  have hr2 := OA.out.b.r2
  obtain ⟨a4, n4, c4⟩ := v4
  simp only at hn4
  subst hn4
  obtain ⟨gv, rfl⟩ := OA.out.b.block (by omega)
  have hx : L4[j]? = some L4[j] := List.getElem?_eq_getElem hj4
  have hm16 := OA.out.b.m16 L4[j] (List.getElem_mem hj4)
  have hmr := OA.out.b.met L4[j] (List.getElem_mem hj4)
  have HSET := Lib.hid (set_fst L4 j hj4 (updP (now + hold) di dp))
  have HPO := Lib.hid (poAt_fst (L4.set j (updP (now + hold) di dp L4[j].1, ⟨none, 0, 0⟩)) j (by rw [List.length_set]; exact hj4))
  have HJ4 := Lib.hid hj4
  have hj0 : (0 : Int) ≤ j := by omega
  have hj1 : (j : Int) < L4.length := by omega
  have hl64 : (L4.length : Int) ≤ 64 := by omega
  generalize hy : L4[j] = y at *
  have HY := Lib.hid hy
  clear hy
  obtain ⟨⟨u1, u2, u3, u4, u5, u6, u7⟩, ⟨z1, z2, z3⟩⟩ := y
  have hz2 := hmr.1.1
  have HNC := Lib.hid hmr.1.2
  have ha := Lib.hid hmr.2.1
  have HMR := Lib.hid hmr.2.2
  simp only at hz2 hm16
  subst hz2
  clear hmr
  have HX := Lib.hid hx
  obtain ⟨-, C, hC, hcap, htk, hlc, hm⟩ := rrow_open (show RfRow 0 w5 (.slice (some ⟨gv, 0, none⟩) L4.length c4) L4 from OA.out.b.row)
  have hCi := take_at htk hx
  obtain ⟨q1, q2⟩ := RBs.field (x' := (untP (now + hold) ⟨u1, u2, u3, u4, u5, u6, u7⟩, ⟨z1, u7.length, z3⟩)) (k := 6) (u := .int .u64 (now + hold)) (OA.out.keep ((Below.refl w5.heap.size w5).drew)).b hx (by decide) rfl ⟨⟨rfl, HNC.out⟩, ha.out.below ((Below.refl w5.heap.size w5).drew), HMR.out⟩ (holdW_set OA.out.b.hw hx rfl) hm16
  have hgv : S4 gv := (OA.out.b.vS gv rfl).1
  have O7 := Lib.hid ((OA.out.keep ((Below.refl w5.heap.size w5).drew)).set q1 (q2.mono (fun k _ e => by rw [e]; exact hgv)))
  have HA7 := Lib.hid ((ha.out.keep ((Below.refl w5.heap.size w5).drew)).touch q2 (fun b hb => fun e => (HMR.out b hb).2.2 (by rw [e]; rfl)))
  have e5 := OA.out.b.box.cell 5 _ rfl
  have e3 := OA.out.b.box.cell 3 _ rfl
  have d6 := hC.cell j 6 _ _ hCi rfl
  have f6 := hC.free (j * 7 + 6)
  have gl := OA.out.b.box.lt
  have blt := hC.lt
  clear hC hcap htk hlc hm hCi q1 q2 hx
  go_upto_region 7 with fail
  go_region
  change Exit.then _ _ _ _ (w5.drew.setCell ⟨gv, j * 7 + 6, none⟩ (.int .u64 (now + hold)))
  clear e5 e3 d6 f6 gl blt OA
  generalize (w5.drew.setCell ⟨gv, j * 7 + 6, none⟩ (.int .u64 (now + hold))) = w7 at *
  obtain ⟨L5, hL5⟩ : ∃ L5, L4.set j (untP (now + hold) ⟨u1, u2, u3, u4, u5, u6, u7⟩, ⟨z1, u7.length, z3⟩) = L5 := ⟨_, rfl⟩
  have HL5 := Lib.hid hL5
  have HX5 : Hid (L5[j]? = some (untP (now + hold) ⟨u1, u2, u3, u4, u5, u6, u7⟩, ⟨z1, u7.length, z3⟩)) := by show _ = _; rw [← hL5]; exact List.getElem?_set_self HJ4.out
  have hl5 : L5.length = L4.length := by rw [← hL5, List.length_set]
  rw [hL5] at O7
  clear hL5
  rw [← hl5] at hj1 hl64 O7
  obtain ⟨-, C, hC, hcap, htk, hlc, hm⟩ := rrow_open (show RfRow 0 w7 (.slice (some ⟨gv, 0, none⟩) L5.length c4) L5 from O7.out.b.row)
  have hCi := take_at htk HX5.out
  have e5 := O7.out.b.box.cell 5 _ rfl
  have d5 := hC.cell j 5 _ _ hCi rfl
  have gl := O7.out.b.box.lt
  have blt := hC.lt
  have hu7 : (u7.length : Int) ≤ 16 := by omega
  clear hC hcap htk hlc hm hCi
  generalize hl5n : L5.length = ln at *
  go_wp2_with fail
  have R0 : Hid (RoJ u7 di dp w7 (.bool false) (.int .i64 0) w7) := ⟨0, rfl, Nat.zero_le _, rfl, Below.refl _ _⟩
  go_loopw [14, 15] (fun tv iv wr => RoJ u7 di dp w7 tv iv wr) (fun _ iv _ => 100 - (intOf iv).toNat)
  case atStart => exact R0.out
  case round =>
    obtain ⟨i, rfl, hi, rfl, hb⟩ := hrel
    clear R0
    have hi0 : (0 : Int) ≤ i := by omega
    have HB := Lib.hid hb
    by_cases hlt : i < u7.length
    · have hlt' : (i : Int) < u7.length := by omega
      obtain ⟨mb, mo, rfl, hmb, hmc⟩ := (HA7.out.keep hb) (by omega)
      obtain ⟨c0, c1⟩ := hmc i hlt
      have O8 := O7.out.keep hb
      have y0 := O8.y.cell 0 _ rfl
      have y1 := O8.y.cell 1 _ rfl
      have yl := O8.y.lt
      have EQ := Lib.hid (both_snoc (d := di) (p := dp) hlt)
      have HI : Hid (i + 1 ≤ u7.length) := hlt
      clear hmc hb O8 e5 d5
      generalize u7[i].1 = m1 at *
      generalize u7[i].2 = m2 at *
      cases hth : bothIn (u7.take i) di dp with
      | true =>
        have EQ2 : Hid (bothIn (u7.take (i + 1)) di dp = true) := by show _ = _; rw [EQ.out, hth]; rfl
        clear hth EQ
        go_upto_region 13 with fail
        go_quiet (fail)
        have HB2 := Lib.hid (HB.out.trans ((below_drewN (Below.refl wr.heap.size wr) nq).mono HB.out.size))
        clear c0 c1 y0 y1 HB
        go_wp2_with fail
        go_roundw
        case rel => exact ⟨i + 1, by go_num, HI.out, by rw [EQ2.out], HB2.out⟩
        case measure => have := HI.out; simp [intOf]; omega
      | false =>
        by_cases h1 : m1 = di
        · by_cases h2 : m2 = dp
          · subst h1 h2
            have EQ2 : Hid (bothIn (u7.take (i + 1)) m1 m2 = true) := by show _ = _; rw [EQ.out]; simp
            clear hth EQ
            go_upto_region 13 with fail
            go_quiet (fail)
            have HB2 := Lib.hid (HB.out.trans ((below_drewN (Below.refl wr.heap.size wr) nq).mono HB.out.size))
            clear c0 c1 y0 y1 HB
            go_wp2_with fail
            go_roundw
            case rel => exact ⟨i + 1, by go_num, HI.out, by rw [EQ2.out], HB2.out⟩
            case measure => have := HI.out; simp [intOf]; omega
          · have EQ2 : Hid (bothIn (u7.take (i + 1)) di dp = false) := by show _ = _; rw [EQ.out, hth]; simp [h2]
            clear hth EQ
            go_upto_region 13 with fail
            go_quiet (fail)
            have HB2 := Lib.hid (HB.out.trans ((below_drewN (Below.refl wr.heap.size wr) nq).mono HB.out.size))
            clear c0 c1 y0 y1 HB
            go_wp2_with fail
            go_roundw
            case rel => exact ⟨i + 1, by go_num, HI.out, by rw [EQ2.out], HB2.out⟩
            case measure => have := HI.out; simp [intOf]; omega
        · have EQ2 : Hid (bothIn (u7.take (i + 1)) di dp = false) := by show _ = _; rw [EQ.out, hth]; simp [h1]
          clear hth EQ
          go_upto_region 13 with fail
          go_quiet (fail)
          have HB2 := Lib.hid (HB.out.trans ((below_drewN (Below.refl wr.heap.size wr) nq).mono HB.out.size))
          clear c0 c1 y0 y1 HB
          go_wp2_with fail
          go_roundw
          case rel => exact ⟨i + 1, by go_num, HI.out, by rw [EQ2.out], HB2.out⟩
          case measure => have := HI.out; simp [intOf]; omega
    · obtain rfl : i = u7.length := by omega
      rw [List.take_length]
      have O8 := Lib.hid (O7.out.keep hb)
      have HA8 := Lib.hid (HA7.out.keep hb)
      clear hb HB O7 HA7 e5 d5
      have y0 := O8.out.y.cell 0 _ rfl
      have y1 := O8.out.y.cell 1 _ rfl
      have yl := O8.out.y.lt
      have hwl := O8.out.t.size
      obtain ⟨i0, hi0, hz0, hz1, hz2⟩ := info_parts info_raddr
      obtain ⟨th, hth⟩ : ∃ th, bothIn u7 di dp = th := ⟨_, rfl⟩
      rw [hth]
      replace hth := Lib.hid hth
      go_upto_if 78 with fail
      go_cut [13] (fun sv wx => RmJ S w si sp di dp g m f ip hold room ⟨some ⟨gv, 0, none⟩, ln, c4⟩ L5 u7 sv wx)
      case first =>
        cases th with
        | true =>
          have e : rfMet u7 di dp = u7 := by unfold rfMet; rw [if_pos hth.out]
          have FN : Hid (RmJ S w si sp di dp g m f ip hold room ⟨some ⟨gv, 0, none⟩, ln, c4⟩ L5 u7 (.slice z1 u7.length z3) wr) := ⟨z1, z3, S4, by rw [e], O8.out, HNC.out, by rw [e]; exact HA8.out, HMR.out⟩
          clear e hth
          go_wp2_with fail
          go_meet
          exact FN.out
        | false =>
          have e : rfMet u7 di dp = (u7 ++ [(di, dp)]).drop (u7.length + 1 - 16) := by unfold rfMet; rw [if_neg (by rw [hth.out]; simp)]
          have EM := Lib.hid e
          have HZ0 : Hid (z1 = none → u7.length = 0) := fun hq => by
            rcases Nat.eq_zero_or_pos u7.length with h1 | h1
            · exact h1
            · obtain ⟨b, off, h2, _⟩ := HA8.out h1
              rw [hq] at h2; cases h2
          have RDX : Hid (∀ w', Below wr.heap.size wr w' → ∀ ad, z1 = some ad → ∀ j u, (u7.map pr).flatten[j]? = some u → w'.cell? (ad.add j) = some u) := fun w' hb => rdA_cells (HA8.out.keep hb)
          have YX : Hid (∀ w', Below wr.heap.size wr w' → w'.cell? ⟨w.heap.size + 1, 0, none⟩ = some (.int .u32 di) ∧ w'.cell? ⟨w.heap.size + 1, 1, none⟩ = some (.int .u16 dp)) := fun w' hb => ⟨(O8.out.y.keep hb).cell 0 _ rfl, (O8.out.y.keep hb).cell 1 _ rfl⟩
          have hu8 : u7.length ≤ 16 := hm16
          clear e hth
          go_upto_region 15 with fail
          go_cut [13] (fun sv wx => RnJ u7 di dp wr sv wx)
          case first =>
            refine wp_region_held_drew (S := (fun w' => w'.cell? ⟨w.heap.size + 1, 0, none⟩ = some (.int .u32 di) ∧ w'.cell? ⟨w.heap.size + 1, 1, none⟩ = some (.int .u16 dp))) (by kernel_rfl) (YX.out _ ((Below.refl wr.heap.size wr).drew)) (fun hHeld => ?_)
            refine wpAnyH_take (i := 0) (v := ?_) rfl (by kernel_rfl) (by kernel_rfl) (by kernel_rfl) (fun _ _ _ h => h) (Or.inl ⟨by rfl, ?_⟩) (by assumption) ?_; rotate_left 1; (focus (intro w hSw; (try dsimp only at hSw); go_simp; (try with_reducible rfl))); (try simp only [Act.put, List.setIfInBounds_toArray, List.set_cons_zero, List.set_cons_succ])
            refine wpAnyH_take (i := 2) (v := ?_) rfl (by kernel_rfl) (by kernel_rfl) (by kernel_rfl) (fun _ _ _ h => h) (Or.inl ⟨by rfl, ?_⟩) (by assumption) ?_; rotate_left 1; (focus (intro w hSw; (try dsimp only at hSw); go_simp; (try with_reducible rfl))); (try simp only [Act.put, List.setIfInBounds_toArray, List.set_cons_zero, List.set_cons_succ])
            refine wpAnyH_ready (rs := [1, 3]) (by kernel_rfl) (by simp) ?_
            refine AllReadyH.cons rfl (fun K hK => ?_) (AllReadyH.cons rfl (fun K hK => ?_) AllReadyH.nil)
            · refine step_append_part _ (by rfl) _ _ _ (by rfl) wr.heap.size 44 i0 _ 2 8 Try.underlying71 hi0 hz0 hz1 hz2 rfl (by omega) (.slice none 0 0) 0 [] (by rfl) (World.ownsRow_nil _ _ _ _) z1 u7.length z3 (u7.map pr).flatten (by rfl) (pr_flat u7) (RDX.out _ ((Below.refl wr.heap.size wr).drew)) (pr_ones u7) (fun hq => ⟨HZ0.out hq, HNC.out hq⟩) (by unfold maxLen; omega) (by omega) (Nat.le_refl _) ?_; intro v1 wa hown1 hgrow1
              have bA := Lib.hid (Below.grown ((Below.refl wr.heap.size wr).drew) hgrow1 (Nat.le_refl _) (fun k hk => by simp [Value.ownBlock] at hk))
              refine hK.out _ _ (YX.out _ bA.out) (fun hHeld => ?_); clear hK K
              refine wpAnyH_ready (rs := [3]) (by kernel_rfl) (by simp) ?_
              refine AllReadyH.cons rfl (fun K hK => ?_) AllReadyH.nil
              go_simp
              refine hK.out _ _ (YX.out _ (bA.out.alloc bA.out.size _)) (fun hHeld => ?_); clear hK K
              refine wpAnyH_ready (rs := [4]) (by kernel_rfl) (by simp) ?_
              refine AllReadyH.cons rfl (fun K hK => ?_) AllReadyH.nil
              refine step_append_lies _ (by rfl) _ _ _ (by rfl) wr.heap.size 44 i0 _ 2 8 Try.underlying71 hi0 hz0 hz1 hz2 rfl (by omega) v1 (0 + u7.length) ([] ++ (u7.map pr).flatten) (by rfl) (own_touch (F := fun _ => False) hown1 ((Touch.refl _ _).alloc _) (fun _ _ h => h)) ⟨_, 0, none⟩ 1 1 [.int .u32 di, .int .u16 dp] (by rfl) (by rfl) (World.news_of_block (cs := #[.int .u32 di, .int .u16 dp]) (t := 44) (fr := (0, 0)) (heap_alloc_new _ _)) (by simp [Value.oneCell']) (by omega) (by unfold maxLen; omega) (by omega) (by have := bA.out.size; simp; omega) _ rfl ?_; intro g2 cap2 w9 hown hgrow hat hlt9
              have bB := Lib.hid (Below.grown (bA.out.alloc bA.out.size _) hgrow (by have := bA.out.size; simp; omega) (fun k hk => (World.ownsRow.lt hown1 k hk).1))
              refine hK.out _ _ (YX.out _ bB.out) (fun hHeld => ?_); clear hK K
              have FN := Lib.hid (rnJ_of (met := u7) (d := di) (p := dp) hown (by omega) (by simp [pr]) (Nat.le_refl _) bB.out)
              clear hown hgrow hat hlt9 hown1 hgrow1
              refine wpAnyH_ready (rs := [5]) (by kernel_rfl) (by simp) ?_
              refine AllReadyH.cons rfl (fun K hK => ?_) AllReadyH.nil
              go_simp
              refine hK.out _ _ (YX.out _ bB.out) (fun hHeld => ?_); clear hK K
              refine wpAnyH_done (by kernel_rfl) ?_ _
              go_wp2_with fail
              go_meet
              first | exact FN.out | (have q := FN.out; simpa using q)
            · go_simp
              have bO : Hid (Below wr.heap.size wr ((wr.alloc (.cells #[.int .u32 di, .int .u16 dp] 44)).drew)) := ((Below.refl wr.heap.size wr).alloc (Nat.le_refl _) _).drew
              refine hK.out _ _ (YX.out _ bO.out) (fun hHeld => ?_); clear hK K
              refine wpAnyH_ready (rs := [1]) (by kernel_rfl) (by simp) ?_
              refine AllReadyH.cons rfl (fun K hK => ?_) AllReadyH.nil
              refine step_append_part _ (by rfl) _ _ _ (by rfl) wr.heap.size 44 i0 _ 2 8 Try.underlying71 hi0 hz0 hz1 hz2 rfl (by omega) (.slice none 0 0) 0 [] (by rfl) (World.ownsRow_nil _ _ _ _) z1 u7.length z3 (u7.map pr).flatten (by rfl) (pr_flat u7) (RDX.out _ (bO.out)) (pr_ones u7) (fun hq => ⟨HZ0.out hq, HNC.out hq⟩) (by unfold maxLen; omega) (by omega) (by have := bO.out.size; omega) ?_; intro v1 wa hown1 hgrow1
              have bA := Lib.hid (Below.grown bO.out hgrow1 (by have := bO.out.size; omega) (fun k hk => by simp [Value.ownBlock] at hk))
              refine hK.out _ _ (YX.out _ bA.out) (fun hHeld => ?_); clear hK K
              have hblk : wa.heap[wr.heap.size]? = some (.cells #[.int .u32 di, .int .u16 dp] 44 (0, 0)) := (hgrow1.block wr.heap.size (by show _ < (wr.alloc _).heap.size; rw [World.size_alloc]; omega) (by simp [Value.ownBlock])).trans (heap_alloc_new wr _)
              refine wpAnyH_ready (rs := [4]) (by kernel_rfl) (by simp) ?_
              refine AllReadyH.cons rfl (fun K hK => ?_) AllReadyH.nil
              refine step_append_lies _ (by rfl) _ _ _ (by rfl) wr.heap.size 44 i0 _ 2 8 Try.underlying71 hi0 hz0 hz1 hz2 rfl (by omega) v1 (0 + u7.length) ([] ++ (u7.map pr).flatten) (by rfl) (hown1) ⟨_, 0, none⟩ 1 1 [.int .u32 di, .int .u16 dp] (by rfl) (by rfl) (World.news_of_block (cs := #[.int .u32 di, .int .u16 dp]) (t := 44) (fr := (0, 0)) (hblk)) (by simp [Value.oneCell']) (by omega) (by unfold maxLen; omega) (by omega) (by have := bA.out.size; omega) _ rfl ?_; intro g2 cap2 w9 hown hgrow hat hlt9
              have bB := Lib.hid (Below.grown bA.out hgrow (by have := bA.out.size; omega) (fun k hk => (World.ownsRow.lt hown1 k hk).1))
              refine hK.out _ _ (YX.out _ bB.out) (fun hHeld => ?_); clear hK K hblk
              have FN := Lib.hid (rnJ_of (met := u7) (d := di) (p := dp) hown (by omega) (by simp [pr]) (Nat.le_refl _) bB.out)
              clear hown hgrow hat hlt9 hown1 hgrow1
              refine wpAnyH_ready (rs := [5]) (by kernel_rfl) (by simp) ?_
              refine AllReadyH.cons rfl (fun K hK => ?_) AllReadyH.nil
              go_simp
              refine hK.out _ _ (YX.out _ bB.out) (fun hHeld => ?_); clear hK K
              refine wpAnyH_done (by kernel_rfl) ?_ _
              go_wp2_with fail
              go_meet
              first | exact FN.out | (have q := FN.out; simpa using q)
          case rest =>
            obtain ⟨g2, cap2, rfl, hc1, hc2, hg2, hrd, hbx⟩ := hcut
            have hlo : u7.length + 1 - 16 ≤ u7.length := by omega
            have FN := Lib.hid (rmJ_new (lo := u7.length + 1 - 16) O8.out EM.out hlo hg2 hrd hbx)
            clear O8 EM hrd hbx HZ0 RDX YX y0 y1 yl hlo HA8 ha
            obtain ⟨lo, hlo⟩ : ∃ lo, u7.length + 1 - 16 = lo := ⟨_, rfl⟩
            rw [hlo] at FN
            have hmax : (if (u7.length : Int) + 1 - 16 < 0 then (0 : Int) else (u7.length : Int) + 1 - 16) = (lo : Nat) := by split <;> omega
            have hmax2 : (if (0 : Int) < (u7.length : Int) + 1 - 16 then (u7.length : Int) + 1 - 16 else (0 : Int)) = (lo : Nat) := by split <;> omega
            have hmax3 : (if (u7.length : Int) + 1 - 16 ≤ 0 then (0 : Int) else (u7.length : Int) + 1 - 16) = (lo : Nat) := by split <;> omega
            have hlo0 : (0 : Int) ≤ lo := by omega
            have hlo1 : (lo : Int) ≤ (u7.length : Int) + 1 := by omega
            have hlo2 : lo ≤ u7.length + 1 := by omega
            have hlo3 : lo ≤ cap2 := by omega
            have hcx : ¬ cap2 = lo := by omega
            clear hlo hm16 hlt
            go_wp2_with fail
            go_meet
            exact FN.out (cap2 - lo)
      case rest =>
        obtain ⟨a9, c9, S9, rfl, O9, hnc9, hrd9, hsep9⟩ := hcut
        clear O8 HA8 y0 y1 yl HMR HNC ha hth
        rw [rfMet_eq hm16] at hrd9 ⊢
        have hMl := meetP_len (d := di) (p := dp) hm16
        obtain ⟨-, C, hC, hcap, htk, hlc, hm⟩ := rrow_open (show RfRow 0 wc (.slice (some ⟨gv, 0, none⟩) ln c4) L5 from O9.b.row)
        have hCi := take_at htk HX5.out
        obtain ⟨q1, q2⟩ := RBs.field (x' := (updP (now + hold) di dp ⟨u1, u2, u3, u4, u5, u6, u7⟩, ⟨a9, (meetP u7 di dp).length, c9⟩)) (k := 5) (u := .slice a9 (meetP u7 di dp).length c9) O9.b HX5.out (by decide) rfl ⟨⟨rfl, hnc9⟩, hrd9, hsep9⟩ (holdW_set O9.b.hw HX5.out rfl) hMl
        have hgv9 : S9 gv := (O9.b.vS gv rfl).1
        have OA := Lib.hid (O9.set q1 (q2.mono (fun k _ e => by rw [e]; exact hgv9)))
        have e5 := O9.b.box.cell 5 _ rfl
        have d5 := hC.cell j 5 _ _ hCi rfl
        have f5 := hC.free (j * 7 + 5)
        have gl := O9.b.box.lt
        have blt := hC.lt
        have HSL : Hid (L5.set j (updP (now + hold) di dp ⟨u1, u2, u3, u4, u5, u6, u7⟩, ⟨a9, (meetP u7 di dp).length, c9⟩) = L4.set j (updP (now + hold) di dp ⟨u1, u2, u3, u4, u5, u6, u7⟩, ⟨a9, (meetP u7 di dp).length, c9⟩)) := by show _ = _; rw [← HL5.out, List.set_set]
        have HF1 := Lib.hid (HSET.out ⟨a9, (meetP u7 di dp).length, c9⟩)
        have HF2 : Hid (poAt (modP l2 j (updP (now + hold) di dp)) j = u5) := by
          show _ = _
          have h1 := HF1.out
          rw [hl4] at h1
          have h2 := poAt_fst (L4.set j (updP (now + hold) di dp ⟨u1, u2, u3, u4, u5, u6, u7⟩, ⟨a9, (meetP u7 di dp).length, c9⟩)) j (by rw [List.length_set]; exact HJ4.out)
          rw [h1, List.getElem_set_self] at h2
          exact h2
        clear hC hcap htk hlc hm hCi q1 q2 O9 hrd9 hsep9 hnc9
        generalize (meetP u7 di dp).length = ml at *
        go_upto_region 18 with fail
        generalize (wc.setCell ⟨gv, j * 7 + 5, none⟩ (.slice a9 ml c9)) = wd at *
        clear e5 d5 f5 gl blt
        obtain ⟨-, C, hC, hcap, htk, hlc, hm⟩ := rrow_open (show RfRow 0 wd (.slice (some ⟨gv, 0, none⟩) ln c4) _ from OA.out.b.row)
        have hCi := take_at htk (List.getElem?_set_self (by rw [hl5n, hl5]; exact HJ4.out))
        have e5 := OA.out.b.box.cell 5 _ rfl
        have e2 := OA.out.b.box.cell 2 _ rfl
        have d4 := hC.cell j 4 _ _ hCi rfl
        simp only [updP] at d4
        have gl := OA.out.b.box.lt
        have blt := hC.lt
        have z0 := OA.out.z.cell 0 _ rfl
        have z1' := OA.out.z.cell 1 _ rfl
        have zf0 := OA.out.z.free 0 _ rfl
        have zf1 := OA.out.z.free 1 _ rfl
        have zl := OA.out.z.lt
        clear hC hcap htk hlc hm hCi
        go_region
        go_wp2_with fail
        refine bodyPost_ret (v := .tuple #[.agg #[.int .u32 ip, .int .u16 u5], .int .i64 0]) (by simp [results, Try.results17, go_sem, *]) rfl ?_
        have t0 : Touch (fun k => k = w.heap.size + 1 + 1) wd ((wd.setCell ⟨w.heap.size + 1 + 1, 0, none⟩ (.int .u32 ip)).setCell ⟨w.heap.size + 1 + 1, 1, none⟩ (.int .u16 u5)) := Touch.set (F := fun k => k = w.heap.size + 1 + 1) (Touch.set (F := fun k => k = w.heap.size + 1 + 1) (Touch.refl _ wd) (fun _ => rfl) _) (fun _ => rfl) _
        have t := t0.drew
        have QF := OA.out.b.touch t (fun k hk e => (OA.out.ok k hk).2.2.2 e)
        unfold ROutPost
        rw [HOUT.out]
        simp only
        rw [HF2.out]
        refine ⟨_, ?_, rfl, ⟨_, QF.mono (fun k hk => (OA.out.ok k hk).1.imp id (fun h1 => ⟨h1, QF.lt k hk⟩)) (grown_lt HLT.out (Nat.le_trans OA.out.t.size t.size))⟩, OA.out.t.trans t (fun k h1 h2 => by omega)⟩
        rw [HSL.out, HF1.out, hl4]
set_option maxHeartbeats 3200000 in
theorem rout_bad (g : Nat) (si sp di dp now : Int) (w : World) (hb : badO si sp di dp now = true) :
    Calls Try.prog 17 #[.pointer (some ⟨g, 0, none⟩), .int .u64 now, .agg #[.int .u32 si, .int .u16 sp], .agg #[.int .u32 di, .int .u16 dp]] w (RBad w) := by
  have N1 := rnone_any si sp
  have N2 := rnone_any di dp
  unfold badO at hb
  have hB : Hid (Below w.heap.size w (((w.alloc (.cells #[.int .u32 si, .int .u16 sp] 44)).alloc (.cells #[.int .u32 di, .int .u16 dp] 44)).alloc (.cells #[.int .u32 0, .int .u16 0] 44))) := by show Below _ _ _; (repeat (first | with_reducible exact Below.refl _ _ | with_reducible refine Below.drew ?_ | with_reducible refine below_drewN ?_ _ | with_reducible refine Below.alloc ?_ (by first | omega | (simp; done) | (simp; omega)) _ | with_reducible refine Below.setCell ?_ (by first | omega | (simp; done) | (simp; omega)) _))
  have O : Hid (Cs w.heap.size [.int .u32 si, .int .u16 sp] (((w.alloc (.cells #[.int .u32 si, .int .u16 sp] 44)).alloc (.cells #[.int .u32 di, .int .u16 dp] 44)).alloc (.cells #[.int .u32 0, .int .u16 0] 44)) ∧ Cs (w.heap.size + 1) [.int .u32 di, .int .u16 dp] (((w.alloc (.cells #[.int .u32 si, .int .u16 sp] 44)).alloc (.cells #[.int .u32 di, .int .u16 dp] 44)).alloc (.cells #[.int .u32 0, .int .u16 0] 44)) ∧ Cs (w.heap.size + 1 + 1) [.int .u32 0, .int .u16 0] (((w.alloc (.cells #[.int .u32 si, .int .u16 sp] 44)).alloc (.cells #[.int .u32 di, .int .u16 dp] 44)).alloc (.cells #[.int .u32 0, .int .u16 0] 44))) := by
    show _ ∧ _ ∧ _
    have h1 := Cs.new (w.alloc (.cells #[.int .u32 si, .int .u16 sp] 44)) [.int .u32 di, .int .u16 dp] 44
    have h2 := Cs.new ((w.alloc (.cells #[.int .u32 si, .int .u16 sp] 44)).alloc (.cells #[.int .u32 di, .int .u16 dp] 44)) [.int .u32 0, .int .u16 0] 44
    simp only [World.size_alloc] at h1 h2
    exact ⟨((Cs.new w [.int .u32 si, .int .u16 sp] 44).alloc _).alloc _, h1.alloc _, h2⟩
  generalize hA : noneI si sp = A at *
  generalize hA2 : noneI di dp = A2 at *
  clear hA hA2
  have hcase : (A = false ∧ A2 = false ∧ 4611686018427387904 < now) ∨ (A = false ∧ A2 = true) ∨ A = true := by
    revert hb
    cases A <;> cases A2 <;> simp
  clear hb
  have x0 := O.out.1.cell 0 _ rfl
  have x1 := O.out.1.cell 1 _ rfl
  have xl := O.out.1.lt
  rcases hcase with ⟨rfl, rfl, hn⟩ | ⟨rfl, rfl⟩ | rfl
  · go_enter Try.func17, Try.ntmps17
    go_wp2_with fail
    refine (N1 _).mono ?_; rintro e w1 ⟨rfl, d⟩
    replace O := Lib.hid (And.intro (O.out.1.keep d) (And.intro (O.out.2.1.keep d) (O.out.2.2.keep d)))
    replace hB := Lib.hid (hB.out.trans (d.mono hB.out.size))
    clear x0 x1 xl d N1
    have x0 := O.out.2.1.cell 0 _ rfl
    have x1 := O.out.2.1.cell 1 _ rfl
    have xl := O.out.2.1.lt
    go_wp2_with fail
    refine (N2 _).mono ?_; rintro e w2 ⟨rfl, d⟩
    replace O := Lib.hid (And.intro (O.out.1.keep d) (And.intro (O.out.2.1.keep d) (O.out.2.2.keep d)))
    replace hB := Lib.hid (hB.out.trans (d.mono hB.out.size))
    clear x0 x1 xl d N2
    have z0 := O.out.2.2.cell 0 _ rfl
    have z1 := O.out.2.2.cell 1 _ rfl
    have zf0 := O.out.2.2.free 0 _ rfl
    have zf1 := O.out.2.2.free 1 _ rfl
    have zl := O.out.2.2.lt
    go_wp2_with fail
    refine bodyPost_ret (v := .tuple #[.agg #[.int .u32 0, .int .u16 0], .int .i64 1]) (by simp [results, Try.results17, go_sem, *]) rfl ⟨rfl, ?_⟩
    have hb := hB.out
    (have zzh := Below.size hb; repeat (first | with_reducible exact hb | with_reducible refine Below.setCell ?_ (by first | omega | (simp; done) | (simp; omega)) _ | with_reducible refine Below.alloc ?_ (by first | omega | (simp; done) | (simp; omega)) _ | with_reducible refine Below.drew ?_))
  · go_enter Try.func17, Try.ntmps17
    go_wp2_with fail
    refine (N1 _).mono ?_; rintro e w1 ⟨rfl, d⟩
    replace O := Lib.hid (And.intro (O.out.1.keep d) (And.intro (O.out.2.1.keep d) (O.out.2.2.keep d)))
    replace hB := Lib.hid (hB.out.trans (d.mono hB.out.size))
    clear x0 x1 xl d N1
    have x0 := O.out.2.1.cell 0 _ rfl
    have x1 := O.out.2.1.cell 1 _ rfl
    have xl := O.out.2.1.lt
    go_wp2_with fail
    refine (N2 _).mono ?_; rintro e w2 ⟨rfl, d⟩
    replace O := Lib.hid (And.intro (O.out.1.keep d) (And.intro (O.out.2.1.keep d) (O.out.2.2.keep d)))
    replace hB := Lib.hid (hB.out.trans (d.mono hB.out.size))
    clear x0 x1 xl d N2
    have z0 := O.out.2.2.cell 0 _ rfl
    have z1 := O.out.2.2.cell 1 _ rfl
    have zf0 := O.out.2.2.free 0 _ rfl
    have zf1 := O.out.2.2.free 1 _ rfl
    have zl := O.out.2.2.lt
    go_wp2_with fail
    refine bodyPost_ret (v := .tuple #[.agg #[.int .u32 0, .int .u16 0], .int .i64 1]) (by simp [results, Try.results17, go_sem, *]) rfl ⟨rfl, ?_⟩
    have hb := hB.out
    (have zzh := Below.size hb; repeat (first | with_reducible exact hb | with_reducible refine Below.setCell ?_ (by first | omega | (simp; done) | (simp; omega)) _ | with_reducible refine Below.alloc ?_ (by first | omega | (simp; done) | (simp; omega)) _ | with_reducible refine Below.drew ?_))
  · go_enter Try.func17, Try.ntmps17
    go_wp2_with fail
    refine (N1 _).mono ?_; rintro e w1 ⟨rfl, d⟩
    replace O := Lib.hid (And.intro (O.out.1.keep d) (And.intro (O.out.2.1.keep d) (O.out.2.2.keep d)))
    replace hB := Lib.hid (hB.out.trans (d.mono hB.out.size))
    clear x0 x1 xl d N1
    have x0 := O.out.2.1.cell 0 _ rfl
    have x1 := O.out.2.1.cell 1 _ rfl
    have xl := O.out.2.1.lt
    go_wp2_with fail
    refine (N2 _).mono ?_; rintro e w2 ⟨rfl, d⟩
    replace O := Lib.hid (And.intro (O.out.1.keep d) (And.intro (O.out.2.1.keep d) (O.out.2.2.keep d)))
    replace hB := Lib.hid (hB.out.trans (d.mono hB.out.size))
    clear x0 x1 xl d N2
    have z0 := O.out.2.2.cell 0 _ rfl
    have z1 := O.out.2.2.cell 1 _ rfl
    have zf0 := O.out.2.2.free 0 _ rfl
    have zf1 := O.out.2.2.free 1 _ rfl
    have zl := O.out.2.2.lt
    go_wp2_with fail
    refine bodyPost_ret (v := .tuple #[.agg #[.int .u32 0, .int .u16 0], .int .i64 1]) (by simp [results, Try.results17, go_sem, *]) rfl ⟨rfl, ?_⟩
    have hb := hB.out
    (have zzh := Below.size hb; repeat (first | with_reducible exact hb | with_reducible refine Below.setCell ?_ (by first | omega | (simp; done) | (simp; omega)) _ | with_reducible refine Below.alloc ?_ (by first | omega | (simp; done) | (simp; omega)) _ | with_reducible refine Below.drew ?_))
end Go.Proofs.Ytnemmnndaoaadaa
