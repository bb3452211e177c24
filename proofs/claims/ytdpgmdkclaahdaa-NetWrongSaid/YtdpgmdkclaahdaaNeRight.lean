/- slices.Clone of hosts; areRight. -/
import Derived.Test.YtdpgmdkclaahdaaNeRest
namespace Go.Proofs.Ytdpgmdkclaahdaa.Ne
open Go.Sort Go.RowKit Go.BigFrame
set_option linter.unusedVariables false
set_option linter.unusedSimpArgs false

theorem info_host : (Try.prog.info? 34).map (fun i => (i.zero, i.size, i.bytes)) = some (some (.agg #[.int .u32 0, .int .u16 0, .int .i64 0]), 3, 16) := by kernel_rfl
theorem rd_part {w : World} {a : Option Addr} {L M : List Ho} (h : RdE cho 3 w a L) (hM : ∀ (i : Nat) (x : Ho), M[i]? = some x → L[i]? = some x) (hp : 0 < M.length → 0 < L.length) : RdE cho 3 w a M := fun hm => by
  obtain ⟨b, off, h1, h2, h3⟩ := h (hp hm)
  exact ⟨b, off, h1, h2, fun i x hx k u hu => h3 i x (hM i x hx) k u hu⟩
theorem rd_take {w : World} {a : Option Addr} {L : List Ho} (h : RdE cho 3 w a L) (j : Nat) : RdE cho 3 w a (L.take j) :=
  rd_part h (fun i x hx => by rw [List.getElem?_take] at hx; split at hx; exact hx; cases hx) (fun h => by rw [List.length_take] at h; omega)
theorem new_of_own {α : Type} {c : α → List Value} {z : Nat} {T : TypeId} {D : List α} {w w' : World} {v : Sl} {b : Nat} (hb : w.heap.size ≤ b) (h : w'.ownsRow b T z v.v D.length (D.map c).flatten) : NewE c z T D w v w' :=
  ⟨own_zero h, erow_n (c := c) (z := z) (own_zero h), fun k hk => Nat.le_trans hb (World.ownsRow.lt h k hk).1⟩
theorem rd_cells {w : World} {b off : Nat} {L : List Ho} (hc : ∀ i x, L[i]? = some x → ∀ k u, (cho x)[k]? = some u → w.cell? ⟨b, off + i * 3 + k, none⟩ = some u) : ∀ j u, (L.map cho).flatten[j]? = some u → w.cell? ((⟨b, off, none⟩ : Addr).add j) = some u := by
  intro j u hj
  have hlen := flatten_len (z := 3) _ (cho_enc.all L)
  have hjl : j < (L.map cho).flatten.length := (List.getElem?_eq_some_iff.1 hj).1
  rw [hlen] at hjl
  have hq : j / 3 < (L.map cho).length := by omega
  have e : j = j / 3 * 3 + j % 3 := by omega
  have hx : (L.map cho)[j / 3]? = some ((L.map cho)[j / 3]) := List.getElem?_eq_getElem hq
  rw [e, flatten_at (z := 3) _ (cho_enc.all L) (j / 3) (j % 3) (by omega) _ hx] at hj
  obtain ⟨x, hx1, hx2⟩ : ∃ x, L[j / 3]? = some x ∧ cho x = (L.map cho)[j / 3] := by
    rw [List.getElem?_map, Option.map_eq_some_iff] at hx
    exact hx
  rw [← hx2] at hj
  have := hc (j / 3) x hx1 (j % 3) u hj
  rw [add_at, ← this]
  congr 2
  omega
set_option maxHeartbeats 1600000 in
set_option maxRecDepth 100000 in
theorem clone_any (a : Option Addr) (cap : Nat) (L : List Ho) (h0 : 0 < L.length) (hl : L.length ≤ 1000) (w : World) (hr : RdE cho 3 w a L) :
    Calls Try.prog 25 #[.slice a L.length cap] w (NewPost cho 3 34 L w) := by
  have q22 : ∀ (w : World) (a : Option Addr) (n c n' c' : Nat), (binOp .eql 35 (.slice a n c) (.slice none n' c')).run Try.prog w = .ok (.bool a.isNone) w := fun w a n c n' c' => Lib.run_eql_slice_nil w _ _ a n c n' c' Try.underlying35
  obtain ⟨b, off, rfl, hb, hc⟩ := (hr.keep ((Below.refl _ w).alloc (Nat.le_refl _) (.cells #[] 34))) h0
  obtain ⟨i0, hi0, hz0, hz1, hz2⟩ := info_parts info_host
  have OW : Hid ((w.alloc (.cells #[] 34)).ownsRow w.heap.size 34 3 (.slice (some ⟨w.heap.size, 0, none⟩) 0 0) 0 []) := own_empty w 34 3
  have NN := Lib.hid (rd_cells hc)
  have f1 := Lib.hid (show (L.map cho).flatten.length = L.length * 3 by rw [flatten_len (z := 3) _ (cho_enc.all L), List.length_map])
  have o1 := Lib.hid (cho_enc.ones L)
  have FIN : Hid (∀ (v : Sl) w9, w9.ownsRow w.heap.size 34 3 v.v L.length (L.map cho).flatten → (w.alloc (.cells #[] 34)).grownBy w9 (some w.heap.size) → NewE cho 3 34 L w v w9 ∧ Below w.heap.size w w9) := fun v w9 h1 h2 => by
    refine ⟨new_of_own (Nat.le_refl _) h1, ?_⟩
    exact ((Below.refl _ w).alloc (Nat.le_refl _) _).grown h2 (by simp) (fun k hk => by injection hk with hk; omega)
  clear hr hc
  generalize (L.map cho).flatten = news at *
  go_enter Try.func25, Try.ntmps25
  go_wp2_with (at_builtin; refine wpList_append_own _ rfl (.tmp 5) (.tmp 6) 35 rfl w.heap.size 34 i0 _ 3 16 Try.underlying35 hi0 hz0 hz1 hz2 rfl (by omega) (.slice (some ⟨w.heap.size, 0, none⟩) 0 0) 0 [] rfl OW.out ⟨b, off, none⟩ L.length cap news rfl f1.out NN.out o1.out (by unfold maxLen; omega) (by omega) (by simp) ?_)
  intro v1 w1 hown hgrow _
  obtain ⟨⟨sa, sn, sc⟩, hv⟩ := sl_of hown
  obtain rfl : v1 = .slice sa sn sc := hv
  have F9 := Lib.hid (FIN.out ⟨sa, sn, sc⟩ w1 hown hgrow)
  clear hown hgrow FIN
  go_wp2
  go_ret
  exact ⟨⟨sa, sn, sc⟩, rfl, F9.out⟩
def RightJ (w : World) (k : Int) (hs : List Ho) (iv : Value) (wr : World) : Prop := ∃ j : Nat, j ≤ hs.length ∧ iv = .int .i64 (j : Nat) ∧ allH k [] hs = allH k (hs.take j) (hs.drop j) ∧ Below w.heap.size w wr
set_option maxHeartbeats 3200000 in
set_option maxRecDepth 20000 in
theorem areRight_any (a : Option Addr) (cap : Nat) (hs : List Ho) (k : Int) (hl : hs.length ≤ 1000) (hcap : hs.length ≤ cap) (w : World) (hr : RdE cho 3 w a hs) :
    Calls Try.prog 24 #[.slice a hs.length cap, .int .i64 k] w fun e w' => e = .returned (.bool (rightH hs k)) ∧ Below w.heap.size w w' := by
  by_cases h1 : hs.length < 1
  · have e1 : rightH hs k = false := by unfold rightH; rw [decide_eq_false (by omega : ¬ 1 ≤ hs.length)]; rfl
    rw [e1]
    have h1' : decide ((hs.length : Int) < 1) = true := decide_eq_true (by omega)
    clear hr
    go_enter Try.func24, Try.ntmps24
    go_wp2
    go_ret
    exact ⟨rfl, Below.refl _ _⟩
  · have h1' : decide ((hs.length : Int) < 1) = false := decide_eq_false (by omega)
    by_cases h2 : 32 < hs.length
    · have e1 : rightH hs k = false := by unfold rightH; rw [decide_eq_false (by omega : ¬ hs.length ≤ 32)]; simp
      rw [e1]
      have h2' : decide (32 < (hs.length : Int)) = true := decide_eq_true (by omega)
      clear hr
      go_enter Try.func24, Try.ntmps24
      go_wp2
      go_ret
      exact ⟨rfl, Below.refl _ _⟩
    · have e1 : rightH hs k = allH k [] hs := by
        unfold rightH; rw [decide_eq_true (by omega : 1 ≤ hs.length), decide_eq_true (by omega : hs.length ≤ 32)]; rfl
      rw [e1]
      have h2' : decide (32 < (hs.length : Int)) = false := decide_eq_false (by omega)
      obtain ⟨b, off, rfl, hb, hc⟩ := hr (by omega)
      have HR := Lib.hid hr
      have HC := Lib.hid hc
      clear e1 hr hc h1 h2
      go_enter Try.func24, Try.ntmps24
      go_wp2_with fail
      go_loopw [17] (fun iv wr => RightJ w k hs iv wr) (fun iv _ => hs.length - (intOf iv).toNat)
      case atStart => exact ⟨0, Nat.zero_le _, rfl, rfl, Below.refl _ _⟩
      case round =>
        obtain ⟨j, hj, rfl, he, hbw⟩ := hrel
        by_cases hlt : j < hs.length
        · have hlt' : (j : Int) < hs.length := by omega
          have hj0 : (0 : Int) ≤ j := by omega
          have hx : hs[j]? = some hs[j] := List.getElem?_eq_getElem hlt
          have c0 := (hbw.cell (p := ⟨b, off + j * 3 + 0, none⟩) hb).trans (HC.out j _ hx 0 _ rfl)
          have c1 := (hbw.cell (p := ⟨b, off + j * 3 + 1, none⟩) hb).trans (HC.out j _ hx 1 _ rfl)
          have c2 := (hbw.cell (p := ⟨b, off + j * 3 + 2, none⟩) hb).trans (HC.out j _ hx 2 _ rfl)
          simp only [Nat.add_zero] at c0
          have hbr : b < wr.heap.size := Nat.lt_of_lt_of_le hb hbw.size
          have e2 : allH k (hs.take j) (hs.drop j) = (oneH k hs[j] && freshH (hs.take j) hs[j] && allH k (hs.take (j + 1)) (hs.drop (j + 1))) := by
            rw [List.drop_eq_getElem_cons hlt, List.take_succ_eq_append_getElem hlt]; rfl
          rw [e2] at he
          have HE := Lib.hid he
          have RT := Lib.hid (rd_take (HR.out.keep hbw) j)
          have tl : (hs.take j).length = j := by rw [List.length_take]; omega
          have KX := Lib.hid (Cs.new wr [.int .u32 hs[j].i, .int .u16 hs[j].p, .int .i64 hs[j].b] 34)
          have hjc : j ≤ cap := by omega
          have hjc' : (j : Int) ≤ (cap : Int) := by omega
          have BW := Lib.hid hbw
          clear he e2 hbw hx
          have HA := Lib.hid (show allH k [] hs = allH k [] hs from rfl)
          have HM := Lib.hid (show allH k (hs.take (j + 1)) (hs.drop (j + 1)) = allH k (hs.take (j + 1)) (hs.drop (j + 1)) from rfl)
          obtain ⟨ans, hans⟩ : ∃ t, allH k [] hs = t := ⟨_, rfl⟩
          obtain ⟨more, hmore⟩ : ∃ t, allH k (hs.take (j + 1)) (hs.drop (j + 1)) = t := ⟨_, rfl⟩
          clear HA HM
          rw [hmore] at HE
          rw [hans] at HE
          have HA := Lib.hid hans
          have HM := Lib.hid hmore
          clear hans hmore
          have NA := fun w => Bg.none_any hs[j].i hs[j].p w
          have CF : Hid (∀ w1, Below (wr.alloc (.cells #[.int .u32 hs[j].i, .int .u16 hs[j].p, .int .i64 hs[j].b] 34)).heap.size (wr.alloc (.cells #[.int .u32 hs[j].i, .int .u16 hs[j].p, .int .i64 hs[j].b] 34)) w1 →
              Calls Try.prog 37 #[.slice (some ⟨b, off, none⟩) j cap, .func (.func 38) #[] #[.pointer (some ⟨wr.heap.size, 0, none⟩)]] w1 fun e w' => e = .returned (.bool (!freshH (hs.take j) hs[j])) ∧ Below w1.heap.size w1 w') := fun w1 b1 => by
            have := has_anyH _ enters_areR #[.pointer (some ⟨wr.heap.size, 0, none⟩)] (fun x => decide (x.i = hs[j].i) && decide (x.p = hs[j].p)) (some ⟨b, off, none⟩) cap (hs.take j) (by omega) w1 (RT.out.keep ((by (repeat (first | with_reducible exact Below.refl _ _ | with_reducible refine Below.drew ?_ | with_reducible refine below_drewN ?_ _ | with_reducible refine Below.alloc ?_ (by first | omega | (simp; done) | (simp; omega)) _ | with_reducible refine Below.setCell ?_ (by first | omega | (simp; done) | (simp; omega)) _)) : Below wr.heap.size wr (wr.alloc (.cells #[.int .u32 hs[j].i, .int .u16 hs[j].p, .int .i64 hs[j].b] 34))).trans (b1.mono (by simp)))) (fun x _ w' hb => areR_any x wr.heap.size hs[j].i hs[j].p hs[j].b w' ((KX.out.keep b1).keep hb))
            rw [tl] at this
            unfold freshH; rw [Bool.not_not]; exact this
          have EO := Lib.hid (show oneH k hs[j] = (!Bg.noneA hs[j].i hs[j].p && decide (0 ≤ hs[j].b) && decide (hs[j].b ≤ k)) from rfl)
          generalize freshH (hs.take j) hs[j] = fr at *
          generalize oneH k hs[j] = on at *
          generalize hs[j] = x at *
          obtain ⟨xi, xp, xb⟩ := x
          simp only at c0 c1 c2 KX NA CF EO
          generalize Bg.noneA xi xp = nn at *
          have x2 := KX.out.cell 2 _ rfl
          have xl := KX.out.lt
          have AW := Lib.hid (show Below wr.heap.size wr (wr.alloc (.cells #[.int .u32 xi, .int .u16 xp, .int .i64 xb] 34)) by (repeat (first | with_reducible exact Below.refl _ _ | with_reducible refine Below.drew ?_ | with_reducible refine below_drewN ?_ _ | with_reducible refine Below.alloc ?_ (by first | omega | (simp; done) | (simp; omega)) _ | with_reducible refine Below.setCell ?_ (by first | omega | (simp; done) | (simp; omega)) _)))
          go_wp2_with fail
          refine (NA _).mono ?_; rintro e w1 ⟨rfl, b1⟩
          have CF1 := CF.out w1 b1
          have X1 := KX.out.keep b1
          have y0 := X1.cell 0 _ rfl
          have y1 := X1.cell 1 _ rfl
          have y2 := X1.cell 2 _ rfl
          have yl := X1.lt
          have B1 := Lib.hid (BW.out.trans ((AW.out.trans (b1.mono AW.out.size)).mono BW.out.size))
          clear CF c0 c1 c2 KX NA x2 xl AW b1 X1 BW
          generalize wr.heap.size = g1 at *
          cases nn
          · by_cases hn : xb < 0
            · have hn' : decide (xb < 0) = true := decide_eq_true hn
              have ho : on = false := by rw [EO.out, decide_eq_false (by omega : ¬ 0 ≤ xb)]; rfl
              have HE2 := Lib.hid (show ans = false by rw [HE.out, ho]; rfl)
              clear CF1 EO HE ho
              go_wp2
              go_ret
              exact ⟨by rw [HA.out, HE2.out]; rfl, B1.out⟩
            · have hn' : decide (xb < 0) = false := decide_eq_false hn
              by_cases hk : k < xb
              · have hk' : decide (k < xb) = true := decide_eq_true hk
                have ho : on = false := by rw [EO.out, decide_eq_false (by omega : ¬ xb ≤ k)]; simp
                have HE2 := Lib.hid (show ans = false by rw [HE.out, ho]; rfl)
                clear CF1 EO HE ho
                go_wp2
                go_ret
                exact ⟨by rw [HA.out, HE2.out]; rfl, B1.out⟩
              · have hk' : decide (k < xb) = false := decide_eq_false hk
                have ho : on = true := by rw [EO.out, decide_eq_true (by omega : xb ≤ k), decide_eq_true (by omega : 0 ≤ xb)]; rfl
                have HE2 := Lib.hid (show ans = (fr && more) by rw [HE.out, ho]; rfl)
                clear EO HE ho
                go_wp2_with fail
                refine CF1.mono ?_; rintro e w2 ⟨rfl, b2⟩
                have B2 := Lib.hid (B1.out.trans (b2.mono B1.out.size))
                clear CF1 y0 y1 y2 yl b2 B1
                cases fr
                · have HE3 := Lib.hid (show ans = false by rw [HE2.out]; rfl)
                  clear HE2
                  go_wp2
                  go_ret
                  exact ⟨by rw [HA.out, HE3.out]; rfl, B2.out⟩
                · have HE3 := Lib.hid (show ans = more by rw [HE2.out]; rfl)
                  clear HE2
                  go_wp2
                  go_roundw
                  case rel => exact ⟨j + 1, by omega, by go_num, HA.out.trans (HE3.out.trans HM.out.symm), B2.out⟩
                  case measure => simp [intOf]; omega
          · have ho : on = false := by rw [EO.out]; rfl
            have HE2 := Lib.hid (show ans = false by rw [HE.out, ho]; rfl)
            clear CF1 EO HE ho
            go_wp2
            go_ret
            exact ⟨by rw [HA.out, HE2.out]; rfl, B1.out⟩
        · obtain rfl : j = hs.length := by omega
          rw [List.take_length, List.drop_length] at he
          have HE := Lib.hid he
          clear he
          go_wp2
          go_ret
          exact ⟨by rw [HE.out]; rfl, hbw⟩
end Go.Proofs.Ytdpgmdkclaahdaa.Ne
