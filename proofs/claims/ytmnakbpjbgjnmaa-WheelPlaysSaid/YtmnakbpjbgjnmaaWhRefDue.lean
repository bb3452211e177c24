/- The reference's wheel: Due. -/
import Derived.Test.YtmnakbpjbgjnmaaWhRefSet
namespace Go.Proofs.Ytmnakbpjbgjnmaa
open Go.Sort Go.RowKit Go.BigFrame
set_option linter.unusedVariables false
set_option linter.unusedSimpArgs false

/-- all of M are stopped, one by one -/
def stopsL (L M : List Tm) : List Tm := M.foldl (fun L x => stopL x.k x.i L) L
theorem stops_filter : ∀ (M L : List Tm), (L.map keyT).Nodup → stopsL L M = L.filter fun y => !M.any fun x => isT x.k x.i y
  | [], L, _ => (List.filter_eq_self.2 (by simp)).symm
  | x :: r, L, h => by
    have h1 := stops_filter r (stopL x.k x.i L) (h.sublist ((stopL_sub _ _ _).map keyT))
    have : stopsL L (x :: r) = stopsL (stopL x.k x.i L) r := rfl
    rw [this, h1, stopL_filter h, List.filter_filter]
    congr 1; funext y
    simp only [List.any_cons, Bool.not_or]
    rw [Bool.and_comm]
theorem key_inj : ∀ {L : List Tm} {x y : Tm}, (L.map keyT).Nodup → x ∈ L → y ∈ L → keyT x = keyT y → x = y
  | [], _, _, _, h, _, _ => by simp at h
  | z :: r, x, y, hn, hx, hy, e => by
    rw [List.map_cons, List.nodup_cons] at hn
    rcases List.mem_cons.1 hx with hx1 | hx1
    · rcases List.mem_cons.1 hy with hy1 | hy1
      · rw [hx1, hy1]
      · exact absurd (List.mem_map.2 ⟨y, hy1, by rw [← e, hx1]⟩) hn.1
    · rcases List.mem_cons.1 hy with hy1 | hy1
      · exact absurd (List.mem_map.2 ⟨x, hx1, by rw [e, hy1]⟩) hn.1
      · exact key_inj hn.2 hx1 hy1 e
theorem stops_succ {L D : List Tm} {n : Nat} (h : n < D.length) : stopsL L (D.take (n + 1)) = stopL D[n].k D[n].i (stopsL L (D.take n)) := by
  unfold stopsL
  rw [List.take_succ_eq_append_getElem h, List.foldl_append]; rfl
theorem ins_perm (out : List Tm) (x : Tm) : (insT out x).Perm (out ++ [x]) := by
  have e : out.takeWhile (fun y => decide (y.t ≤ x.t)) ++ out.dropWhile (fun y => decide (y.t ≤ x.t)) = out := List.takeWhile_append_dropWhile
  unfold insT
  refine List.perm_middle.trans ?_
  rw [e]
  exact (List.perm_append_singleton x out).symm
theorem fold_perm : ∀ (L out : List Tm), (L.foldl insT out).Perm (out ++ L)
  | [], out => by simp
  | x :: r, out => by
    refine (fold_perm r (insT out x)).trans ?_
    have := (ins_perm out x).append_right r
    simpa using this
theorem sortT_perm (L : List Tm) : (sortT L).Perm L := by simpa [sortT] using fold_perm L []
theorem rdue_end {L : List Tm} {n : Nat} {now : Int} (hk : OkW L) (hn : n ≤ (sortT L).length) (h1 : ∀ x ∈ (sortT L).take n, x.t ≤ now) (h2 : n = (sortT L).length ∨ ∃ x, (sortT L)[n]? = some x ∧ now < x.t) :
    (sortT L).take n = sortT (dueL now L) ∧ stopsL L ((sortT L).take n) = restL now L := by
  have h3 : ∀ x ∈ (sortT L).drop n, now < x.t := fun x hx => by
    rcases h2 with rfl | ⟨z, hz, hzt⟩
    · simp at hx
    · obtain ⟨j, hj, rfl⟩ := List.getElem_of_mem hx
      rw [List.getElem_drop]
      rw [List.length_drop] at hj
      have := srt_get (sortT_srt L) (s := n) (t := n + j) (by omega) hz (List.getElem?_eq_getElem (by omega))
      unfold kt at this; omega
  have hd : dueL now (sortT L) = (sortT L).take n := by
    have e := List.take_append_drop n (sortT L)
    conv => lhs; rw [← e]
    unfold dueL
    rw [List.filter_append, List.filter_eq_self.2 (fun x hx => decide_eq_true (h1 x hx)), List.filter_eq_nil_iff.2 (fun x hx => by have := h3 x hx; simp; omega), List.append_nil]
  have he : Eqv kt (dueL now L) (dueL now (sortT L)) := by
    have := sortT_eqv L
    have hf : ∀ (l : List Tm) (k : Int), (dueL now l).filter (fun x => decide (kt x = k)) = (l.filter (fun x => decide (kt x = k))).filter (fun x => decide (x.t ≤ now)) := fun l k => by
      unfold dueL
      rw [List.filter_filter, List.filter_filter]
      congr 1; funext x
      rw [Bool.and_comm]
    refine ⟨?_, fun k => by rw [hf, hf, this.2 k]⟩
    unfold dueL
    exact ((sortT_perm L).filter (fun x => decide (x.t ≤ now))).length_eq.symm
  refine ⟨?_, ?_⟩
  · refine sortT_uniq ?_ (by rw [← hd]; exact he)
    exact (sortT_srt L).sublist (List.take_sublist _ _)
  · rw [stops_filter _ _ hk.nd]
    unfold restL
    refine List.filter_congr fun y hy => ?_
    congr 1
    rw [Bool.eq_iff_iff, List.any_eq_true, decide_eq_true_eq]
    constructor
    · rintro ⟨x, hx, hxy⟩
      have : y = x := key_inj hk.nd hy (sortT_mem.1 (List.mem_of_mem_take hx)) (isT_key.1 hxy)
      subst this
      exact h1 y hx
    · intro hle
      have hm : y ∈ (sortT L).take n ++ (sortT L).drop n := by rw [List.take_append_drop]; exact sortT_mem.2 hy
      rcases List.mem_append.1 hm with hm | hm
      · exact ⟨y, hm, isT_key.2 rfl⟩
      · have := h3 y hm; omega
theorem trow_take {T : TypeId} {w : World} {a : Option Addr} {len c n : Nat} {D : List Tm} (h : TRow T w (.slice a len c) D) (hn : n ≤ D.length) : TRow T w (.slice a n c) (D.take n) := by
  rcases trow_form h with ⟨h1, rfl⟩ | ⟨g, cap, h1, _⟩
  · simp only [Value.slice.injEq] at h1
    obtain ⟨rfl, -, rfl⟩ := h1
    obtain rfl : n = 0 := by simpa using hn
    exact World.ownsRow_nil _ _ _ _
  · simp only [Value.slice.injEq] at h1
    obtain ⟨rfl, -, rfl⟩ := h1
    obtain ⟨_, C, hC, hcap, ht, hl, hm⟩ := trow_open h
    have hl2 : (D.take n).length = n := by rw [List.length_take]; omega
    have := trow_close (L := D.take n) hC (by rw [hl2, List.map_take, ← ht, List.take_take, Nat.min_eq_left hn]) (by rw [hl2]; omega) (by omega)
    rw [hl2, hcap] at this
    exact this
def RDueJ (g : Nat) (v u : Sl) (D L : List Tm) (now : Int) (w : World) (nv : Value) (wr : World) : Prop :=
  ∃ n : Nat, nv = .int .i64 (n : Nat) ∧ n ≤ D.length ∧ (∀ x ∈ D.take n, x.t ≤ now) ∧ (∃ v', Ws false g v' (stopsL L (D.take n)) wr ∧ Touch (OwnS g v) w wr ∧ (∀ b, OwnS g v' b → OwnS g v b ∨ w.heap.size ≤ b) ∧ ∀ b, u.v.ownBlock = some b → ¬ OwnS g v' b) ∧ TRow (tT false) wr u.v D
set_option maxHeartbeats 6400000 in
set_option maxRecDepth 100000 in
theorem rdue_any (now : Int) (g : Nat) (v : Sl) (L : List Tm) (w : World) (h : Ws false g v L w) :
    Calls Try.prog 13 #[.pointer (some ⟨g, 0, none⟩), .int .u64 now] w (DuePost false g v (sortT (dueL now L)) (restL now L) w) := by
  have K := rall_any g v L w h
  have HW := Lib.hid h
  have HLT := Lib.hid h.lt
  have HE := Lib.hid (fun n => rdue_end (L := L) (n := n) (now := now) h.ok)
  have hDl : (sortT L).length ≤ 256 := by rw [sortT_len]; exact h.ok.len
  have hDl2 : ((sortT L).length : Int) ≤ 256 := by omega
  have h' := h
  clear h
  generalize sortT L = D at *
  go_enter Try.func13, Try.ntmps13
  go_wp2_with fail
  refine K.mono ?_; rintro e w1 ⟨u, rfl, ⟨hr, hun, hlo⟩, b1⟩
  clear K
  have HLO := Lib.hid hlo
  have S0 : Hid (RDueJ g v u D L now w (.int .i64 0) w1) := ⟨0, rfl, Nat.zero_le _, by simp, ⟨v, h'.keep b1, Touch.of_below _ b1, fun _ h => .inl h, fun b hb ho => by have := hlo b hb; have := h'.lt b ho; omega⟩, hr⟩
  clear hr hlo b1 h'
  obtain ⟨ua, un, uc⟩ := u
  simp only at hun
  subst hun
  go_wp2_with fail
  go_loopw [6] (fun nv wr => RDueJ g v ⟨ua, D.length, uc⟩ D L now w nv wr) (fun nv _ => D.length - (intOf nv).toNat)
  case atStart => exact S0.out
  case round =>
    obtain ⟨n, rfl, hnl, hall, hst, hrow⟩ := hrel
    clear S0
    generalize wr = wA at *
    have hn0 : (0 : Int) ≤ n := by omega
    have hnl' : (n : Int) ≤ D.length := by omega
    have HST := Lib.hid hst
    have HROW := Lib.hid hrow
    have HALL := Lib.hid hall
    have FIN : Hid ((n = D.length ∨ ∃ x, D[n]? = some x ∧ now < x.t) → ∀ w9, Below wA.heap.size wA w9 → DuePost false g v (sortT (dueL now L)) (restL now L) w (.returned (.slice ua n uc)) w9) := fun hend w9 hb9 => by
      obtain ⟨e1, e2⟩ := HE.out n hnl hall hend
      obtain ⟨v', k1, k2, k3, k4⟩ := HST.out
      rw [e2] at k1
      have hr9 := trow_touch (F := fun _ => False) (trow_take HROW.out hnl) (Touch.of_below _ hb9) (fun _ _ h => h)
      rw [e1] at hr9
      refine ⟨⟨ua, n, uc⟩, v', rfl, ⟨hr9, by rw [← e1, List.length_take]; show n = _; omega, fun b hb => HLO.out b (own_eq hb)⟩, k1.keep hb9, k2.trans (Touch.of_below (OwnS g v) hb9) (fun _ _ h => h), k3, fun b hb => k4 b (own_eq hb)⟩
    have hcapq : Hid (n ≤ uc) := by
      rcases trow_form HROW.out with ⟨h1, h2⟩ | ⟨g2, c2, h1, _⟩
      · simp [Sl.v] at h1; have : D.length = 0 := by rw [h2]; rfl
        show n ≤ uc; omega
      · simp only [Sl.v, Value.slice.injEq] at h1
        obtain ⟨rfl, -, rfl⟩ := h1
        have := (trow_open (cap := uc) HROW.out).2.choose_spec.2.2.2.1
        show n ≤ uc; omega
    have hcap2 : (n : Int) ≤ uc := by have := hcapq.out; omega
    by_cases hlt : n < D.length
    · have hlt' : (n : Int) < D.length := by omega
      have hx : D[n]? = some D[n] := List.getElem?_eq_getElem hlt
      obtain ⟨by1, offy, hboy, hbly, hccy⟩ := (trow_rd (a := ua) (n := D.length) (cap := uc) hrow) (by omega)
      subst hboy
      have d0 := hccy _ _ hx 0 _ rfl
      have d1 := hccy _ _ hx 1 _ rfl
      have d2 := hccy _ _ hx 2 _ rfl
      have HS1 := Lib.hid (stops_succ (L := L) hlt)
      have HTK : Hid (D[n].t ≤ now → ∀ x ∈ D.take (n + 1), x.t ≤ now) := fun h x hx => by
        rw [List.take_succ_eq_append_getElem hlt] at hx
        rcases List.mem_append.1 hx with hx | hx
        · exact hall x hx
        · simp at hx; subst hx; exact h
      have HXx := Lib.hid hx
      have HLT2 := Lib.hid hlt
      clear hccy hx hall hst hrow
      generalize D[n] = y at *
      by_cases hc : y.t ≤ now
      · have K : Hid (Calls Try.prog 11 #[.pointer (some ⟨g, 0, none⟩), .int .i64 y.k, .int .i64 y.i] wA.drew (fun e w' => e = .returned (.bool (hasT y.k y.i (stopsL L (D.take n)))) ∧ RDueJ g v ⟨some ⟨by1, offy, none⟩, D.length, uc⟩ D L now w (.int .i64 ((n + 1 : Nat) : Int)) w')) := by
          obtain ⟨v', k1, k2, k3, k4⟩ := HST.out
          have hd : Below wA.heap.size wA wA.drew := (Below.refl _ _).drew
          refine (rstop_any y.k y.i g v' _ wA.drew (k1.keep hd)).mono ?_
          rintro e w' ⟨rfl, v2, m1, m2, m3⟩
          refine ⟨rfl, n + 1, rfl, HLT2.out, HTK.out hc, ⟨v2, by rw [HS1.out]; exact m1, ?_, fun b hb => ?_, fun b hb ho => ?_⟩, ?_⟩
          · refine ⟨m2.os.trans (k2.drew).os, m2.tape.trans (k2.drew).tape, m2.output.trans (k2.drew).output, Nat.le_trans k2.size m2.size, fun b hb hF => ?_⟩
            rw [m2.block b (Nat.lt_of_lt_of_le hb k2.size) (fun ho => by
              rcases k3 b ho with h1 | h1
              · exact hF h1
              · omega)]
            exact k2.drew.block b hb hF
          · rcases m3 b hb with h1 | h1
            · exact k3 b h1
            · exact .inr (Nat.le_trans k2.size h1)
          · rcases m3 b ho with h1 | h1
            · exact k4 b hb h1
            · have := (World.ownsRow.lt HROW.out b hb).2
              have h2 : wA.heap.size ≤ b := h1
              omega
          · exact trow_touch (trow_touch (F := fun _ => False) HROW.out (Touch.of_below _ hd) (fun _ _ h => h)) m2 k4
        have hc2 : decide (y.t ≤ now) = true := decide_eq_true hc
        clear FIN hc
        obtain ⟨y1, y2, y3⟩ := y
        simp only at d0 d1 d2 hc2 K
        simp only [Nat.add_zero] at d0
        go_wp2_with fail
        go_region_law (go_simp; go_at_call 11; refine K.out.mono ?_; rintro e wx ⟨rfl, hx⟩; have HX := Lib.hid hx; clear hx)
        all_goals go_wp2
        all_goals go_roundw
        all_goals first
          | exact HX.out
          | (have := HLT2.out; simp [intOf]; omega)
      · have hc2 : decide (y.t ≤ now) = false := decide_eq_false hc
        have F := Lib.hid (FIN.out (.inr ⟨y, HXx.out, by omega⟩) wA (Below.refl _ _))
        clear FIN hc
        obtain ⟨y1, y2, y3⟩ := y
        simp only at d0 d1 d2 hc2
        go_wp2_with fail
        go_ret
        exact F.out
    · obtain rfl : n = D.length := by omega
      have F := Lib.hid (FIN.out (.inl rfl) wA (Below.refl _ _))
      have hge : decide ((D.length : Int) < D.length) = false := decide_eq_false (by omega)
      have hge2 : decide (D.length < D.length) = false := decide_eq_false (by omega)
      clear FIN hall hst hrow hlt
      rcases ua with _ | ad
      · go_wp2_with fail
        go_ret
        exact F.out
      · go_wp2_with fail
        go_ret
        exact F.out
end Go.Proofs.Ytmnakbpjbgjnmaa
