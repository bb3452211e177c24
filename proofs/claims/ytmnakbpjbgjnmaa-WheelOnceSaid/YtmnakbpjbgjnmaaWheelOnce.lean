/- WheelOnce: each timer falls due once, at its time, and not ahead; of one time as they were set; what was stopped never: for every list of times, and whichever is stopped. -/
import Derived.Test.YtmnakbpjbgjnmaaWhEx
import Derived.ChangeOld
import Derived.ChangeMaps5
import Derived.ShutString
import Derived.OpenShut
import Derived.SizedLaws
namespace Go.Proofs.Ytmnakbpjbgjnmaa
open Go.Sort Go.RowKit Go.BigFrame Go.ChangeShapes Go.WideShapes Go.ChangeAt
open Go.ChangeMaps (open_string shut_string)
set_option linter.unusedVariables false
set_option linter.unusedSimpArgs false

theorem ArgRow.rd {k : IntKind} {w : World} {a : Option Addr} {len cap : Nat} {zs : List Int} (h : ArgRow k w a len cap zs) : Rd k w w.heap.size a (zs.take len) ∧ (zs.take len).length = len ∧ len ≤ cap ∧ cap ≤ 9223372036854775807 ∧ (a = none → len = 0 ∧ cap = 0) ∧ ∀ n ∈ zs.take len, (Lit.int k n).wf = true := by
  rcases h with ⟨rfl, rfl, rfl, rfl⟩ | ⟨x, rfl, hl, hm, hz, hc, hw⟩
  · exact ⟨Rd.nil _ _ _ _, rfl, by omega, by omega, fun _ => ⟨rfl, rfl⟩, by simp⟩
  · refine ⟨fun hp => ?_, by rw [List.length_take]; omega, hl, by unfold maxLen at hm; omega, (fun h => nomatch h), fun n hn => hw n (List.mem_of_mem_take hn)⟩
    rw [List.length_take] at hp
    obtain ⟨b, off, spot⟩ := x
    have h0 := hc 0 (by omega)
    have hs : spot = none := by simpa [Addr.add] using World.cell?_spot h0
    subst hs
    refine ⟨b, off, rfl, by simpa [Addr.add] using World.block_lt_of_cell? _ _ h0, fun i hi => ?_⟩
    rw [List.length_take] at hi
    have := hc i (by omega)
    rw [add_at] at this
    rw [this]
    simp [List.getD_eq_getElem?_getD, List.getElem?_take, show i < len by omega]
def oT (Z : List Int) (j : Nat) : Tm := ⟨2, j, Z.getD j 0 % 16⟩
def oL (Z : List Int) (m : Nat) : List Tm := (List.range m).map (oT Z)
theorem oL_len (Z : List Int) (m : Nat) : (oL Z m).length = m := by simp [oL]
theorem oL_succ (Z : List Int) (m : Nat) : oL Z (m + 1) = oL Z m ++ [oT Z m] := by simp [oL, List.range_succ]
theorem oL_mem {Z : List Int} {m : Nat} {x : Tm} : x ∈ oL Z m ↔ ∃ j < m, x = oT Z j := by
  constructor
  · intro h
    obtain ⟨j, hj, rfl⟩ := List.mem_map.1 h
    exact ⟨j, List.mem_range.1 hj, rfl⟩
  · rintro ⟨j, hj, rfl⟩
    exact List.mem_map.2 ⟨j, List.mem_range.2 hj, rfl⟩
theorem oL_has (Z : List Int) {m s : Nat} : hasT 2 s (oL Z m) = decide (s < m) := by
  rw [Bool.eq_iff_iff, hasT_iff, decide_eq_true_eq]
  constructor
  · intro h
    obtain ⟨x, hx, he⟩ := List.mem_map.1 h
    obtain ⟨j, hj, rfl⟩ := oL_mem.1 hx
    have := congrArg Prod.snd he
    simp [keyT, oT] at this
    omega
  · intro h
    exact List.mem_map.2 ⟨oT Z s, oL_mem.2 ⟨s, h, rfl⟩, rfl⟩
theorem once_set {Z : List Int} {i : Nat} (h : i ≤ 255) : setE 2 i (oL Z i) = 0 ∧ setL 2 i (Z.getD i 0 % 16) (oL Z i) = oL Z (i + 1) := by
  have hb : badT 2 i = false := by
    have h2 : ¬ (i : Int) < 0 := by omega
    have h3 : ¬ 1023 < (i : Int) := by omega
    simp [badT, h2, h3]
  have hh : hasT 2 i (oL Z i) = false := by rw [oL_has]; exact decide_eq_false (by omega)
  obtain ⟨h1, h2⟩ := set_good (t := Z.getD i 0 % 16) (L := oL Z i) hb (fun h3 => by rw [oL_len] at h3; omega)
  exact ⟨h1, by rw [h2, stopL_none hh, oL_succ]; rfl⟩
theorem oL_pair (Z : List Int) (m : Nat) : (oL Z m).Pairwise (fun x y => x.i < y.i) := by
  unfold oL
  rw [List.pairwise_map]
  exact List.pairwise_lt_range.imp (fun {a b} h => by simp only [oT]; omega)
theorem oL_nd (Z : List Int) (m : Nat) : ((oL Z m).map keyT).Nodup := by
  unfold List.Nodup
  rw [List.pairwise_map]
  refine (oL_pair Z m).imp fun {a b} h e => ?_
  have := congrArg Prod.snd e
  simp [keyT] at this
  omega
/-- what is left to fall due from now on; what fell due ahead -/
def goL (L : List Tm) (now : Int) : List Tm := L.filter fun x => decide (now ≤ x.t)
def nowL (L : List Tm) (now : Int) : List Tm := L.filter fun x => decide (x.t = now)
theorem once_due (L : List Tm) (now : Int) : sortT (dueL now (goL L now)) = nowL L now ∧ restL now (goL L now) = goL L (now + 1) := by
  have e : dueL now (goL L now) = nowL L now := by
    unfold dueL goL nowL
    rw [List.filter_filter]
    congr 1; funext x
    rw [Bool.eq_iff_iff]; simp; omega
  refine ⟨?_, ?_⟩
  · rw [e]
    refine (sortT_uniq ?_ (Eqv.refl _)).symm
    unfold Srt
    refine List.pairwise_of_forall_mem_list fun x hx y hy => ?_
    have h1 := (List.mem_filter.1 hx).2
    have h2 := (List.mem_filter.1 hy).2
    simp at h1 h2
    unfold kt; omega
  · unfold restL goL
    rw [List.filter_filter]
    congr 1; funext x
    rw [Bool.eq_iff_iff]; simp; omega
theorem once_count (L : List Tm) (now : Int) : (goL L (now + 1)).length + (nowL L now).length = (goL L now).length := by
  induction L with
  | nil => rfl
  | cons x r ih =>
    unfold goL nowL at *
    simp only [List.filter_cons]
    by_cases h1 : now ≤ x.t
    · have e1 : decide (now ≤ x.t) = true := decide_eq_true h1
      by_cases h2 : x.t = now
      · have e2 : decide (x.t = now) = true := decide_eq_true h2
        have e3 : decide (now + 1 ≤ x.t) = false := decide_eq_false (by omega)
        simp only [e1, e2, e3, if_true, Bool.false_eq_true, if_false, List.length_cons]; omega
      · have e2 : decide (x.t = now) = false := decide_eq_false h2
        have e3 : decide (now + 1 ≤ x.t) = true := decide_eq_true (by omega)
        simp only [e1, e2, e3, if_true, Bool.false_eq_true, if_false, List.length_cons]; omega
    · have e1 : decide (now ≤ x.t) = false := decide_eq_false h1
      have e2 : decide (x.t = now) = false := decide_eq_false (by omega)
      have e3 : decide (now + 1 ≤ x.t) = false := decide_eq_false (by omega)
      simp only [e1, e2, e3, if_true, Bool.false_eq_true, if_false, List.length_cons]; omega
/-- who falls due at now, one by one -/
theorem once_at {Z : List Int} {n s k : Nat} {now : Int} {x : Tm} (h : (nowL (stopL 2 s (oL Z n)) now)[k]? = some x) : ∃ j : Nat, x = ⟨2, j, now⟩ ∧ j < n ∧ ¬ j = s ∧ Z.getD j 0 % 16 = now := by
  have hm := List.mem_of_getElem? h
  obtain ⟨h1, h2⟩ := List.mem_filter.1 hm
  rw [stopL_filter (oL_nd Z n)] at h1
  obtain ⟨h3, h4⟩ := List.mem_filter.1 h1
  obtain ⟨j, hj, rfl⟩ := oL_mem.1 h3
  simp [oT] at h2
  refine ⟨j, by rw [← h2]; rfl, hj, fun e => ?_, h2⟩
  subst e
  simp [isT, oT] at h4
theorem once_next {Z : List Int} {n s k : Nat} {now : Int} {x y : Tm} (h : (nowL (stopL 2 s (oL Z n)) now)[k]? = some x) (h2 : (nowL (stopL 2 s (oL Z n)) now)[k + 1]? = some y) : x.i < y.i := by
  have hp : (nowL (stopL 2 s (oL Z n)) now).Pairwise (fun x y => x.i < y.i) := (oL_pair Z n).sublist (List.filter_sublist.trans (stopL_sub _ _ _))
  obtain ⟨a, rfl⟩ := List.getElem?_eq_some_iff.1 h
  obtain ⟨b, rfl⟩ := List.getElem?_eq_some_iff.1 h2
  exact (List.pairwise_iff_getElem.1 hp) k (k + 1) a b (by omega)
theorem once_start {Z : List Int} {n s : Nat} (hs : s < n) (hz : ∀ z ∈ Z, 0 ≤ z) : goL (stopL 2 s (oL Z n)) 0 = stopL 2 s (oL Z n) ∧ (stopL 2 s (oL Z n)).length = n - 1 ∧ goL (stopL 2 s (oL Z n)) 16 = [] := by
  refine ⟨?_, ?_, ?_⟩
  · unfold goL
    rw [List.filter_eq_self]
    intro x hx
    obtain ⟨j, hj, rfl⟩ := oL_mem.1 ((stopL_sub _ _ _).subset hx)
    simp [oT]; omega
  · rw [stopL_len (by rw [oL_has]; exact decide_eq_true hs), oL_len]
  · unfold goL
    rw [List.filter_eq_nil_iff]
    intro x hx
    obtain ⟨j, hj, rfl⟩ := oL_mem.1 ((stopL_sub _ _ _).subset hx)
    simp [oT]; omega
def OncePost (w : World) (e : Ending) (w' : World) : Prop := e = .returned (.bool true) ∧ Below w.heap.size w w'
def On1J (Z : List Int) (w0 : World) (g : Nat) (X : List (Nat × Obj)) (iv : Value) (wr : World) : Prop := ∃ i : Nat, iv = .int .i64 (i : Nat) ∧ i ≤ Z.length ∧ StX w0 g (oL Z i) [] X wr
def On2J (L : List Tm) (w0 : World) (g : Nat) (X : List (Nat × Obj)) (mv nv : Value) (wr : World) : Prop := ∃ now m : Nat, nv = .int .u64 (now : Nat) ∧ mv = .int .i64 (m : Nat) ∧ now ≤ 16 ∧ m + (goL L now).length = L.length ∧ StX w0 g (goL L now) [] X wr
def On3J (D : List Tm) (m : Nat) (P : World → Prop) (mv kv : Value) (wr : World) : Prop := ∃ k : Nat, kv = .int .i64 (k : Nat) ∧ mv = .int .i64 ((m + k : Nat) : Int) ∧ k ≤ D.length ∧ P wr
theorem info_u8 : (Try.prog.info? 5).map (fun i => (i.zero, i.size, i.bytes)) = some (some (.int .u8 0), 1, 1) := by kernel_rfl

set_option maxHeartbeats 6400000 in
set_option maxRecDepth 20000 in
theorem once_walk (a : Option Addr) (len cap : Nat) (zs : List Int) (st : Int) (w : World) (hr : Rd .u8 w w.heap.size a zs) (hz : zs.length = len) (hlc : len ≤ cap) (hcm : cap ≤ 9223372036854775807) (hA : a = none → len = 0 ∧ cap = 0) (hzb : ∀ z ∈ zs, 0 ≤ z ∧ z ≤ 255) (hs0 : 0 ≤ st) (hs1 : st ≤ 255) :
    Calls Try.prog 4 #[.slice a len cap, .int .u8 st] w (OncePost w) := by
  have K0 := ex_any w
  obtain ⟨m, hm⟩ : ∃ m, m = min len 30 := ⟨_, rfl⟩
  have HR := Lib.hid (hr.take m)
  have HL : Hid ((zs.take m).length = m) := by show _ = _; rw [List.length_take]; omega
  have HZB : Hid (∀ z ∈ (5 : Int) :: zs.take m, 0 ≤ z ∧ z ≤ 255) := fun z h => by
    rcases List.mem_cons.1 h with rfl | h
    · omega
    · exact hzb z (List.mem_of_mem_take h)
  have HM := Lib.hid hm
  have HA := Lib.hid hA
  have hm30 : m ≤ 30 := by omega
  have hml : m ≤ len := by omega
  clear hr hzb hm hz hA
  generalize zs.take m = Y at *
  go_enter Try.func4, Try.ntmps4
  go_wp2_with fail
  refine K0.mono ?_; rintro e w1 ⟨rfl, b9⟩
  have K := new_s w w1 b9
  clear K0 b9
  go_wp2_with fail
  refine K.mono ?_; rintro e w2 ⟨g, rfl, h⟩
  clear K
  have H := Lib.hid h
  clear h
  go_upto_region 7 with fail
  go_cut [0] (fun x wx => ∃ (g1 cap1 : Nat) (cur : Array Value), x = .slice (some ⟨g1, 0, none⟩) (m + 1) cap1 ∧ cur.toList.take (m + 1) = ((5 : Int) :: Y).map (Value.int .u8) ∧ StX w g [] [] [(g1, .cells cur 5 (0, 0))] wx)
  case first =>
    have hown : (w2.alloc (.cells #[.int .u8 5] 5)).ownsRow w2.heap.size 5 1 (.slice (some ⟨w2.heap.size, 0, none⟩) 1 1) 1 [.int .u8 5] :=
      ⟨rfl, .inr ⟨w2.heap.size, 1, #[.int .u8 5], rfl, Nat.le_refl _, heap_alloc_new _ _, Nat.le_refl _, by unfold maxLen; omega, rfl, rfl⟩⟩
    have HO := Lib.hid hown
    have hrd := (HR.out.below H.out.below).below ((Below.refl w.heap.size w2).alloc H.out.below.size (.cells #[.int .u8 5] 5))
    have HRD := Lib.hid hrd
    have FIN : Hid (∀ v' w', w'.ownsRow w2.heap.size 5 1 v' (1 + m) ([.int .u8 5] ++ Y.map (Value.int .u8)) → (w2.alloc (.cells #[.int .u8 5] 5)).grownBy w' (Value.slice (some ⟨w2.heap.size, 0, none⟩) 1 1).ownBlock → ∃ (g1 cap1 : Nat) (cur : Array Value), v' = .slice (some ⟨g1, 0, none⟩) (m + 1) cap1 ∧ cur.toList.take (m + 1) = ((5 : Int) :: Y).map (Value.int .u8) ∧ StX w g [] [] [(g1, .cells cur 5 (0, 0))] w') := fun v' w' ho hg => by
      have hb : Below w2.heap.size w2 w' := ((Below.refl _ w2).alloc (Nat.le_refl _) _).grown hg (by simp) (fun k hk => by have e : w2.heap.size = k := Option.some.inj hk; omega)
      rcases ho.2 with ⟨_, h0⟩ | ⟨g1, cap1, cur, rfl, hbg, hg1, hn, hm', hs, ht⟩
      · omega
      · refine ⟨g1, cap1, cur, by rw [Nat.add_comm], ?_, H.out.add hb hg1 hbg⟩
        rw [Nat.add_comm]
        simpa using ht
    clear hown hrd
    by_cases h30 : len ≤ 30
    · obtain rfl : m = len := by have := HM.out; omega
      go_wp2_with (at_builtin; refine wpList_append_rd _ rfl (.tmp 20) (.tmp 25) 50 rfl w2.heap.size 5 .u8 1 Try.underlying50 info_u8 _ 1 [.int .u8 5] rfl HO.out w.heap.size a m cap Y rfl HL.out HRD.out (fun e => by have := HA.out e; omega) (by omega) (by omega) (by simp) ?_)
      intro v' w9 ho hg
      obtain ⟨g1, cap1, cur, rfl, f1, f2⟩ := FIN.out v' w9 ho hg
      have F2 := Lib.hid f2
      clear ho hg f2
      go_wp2_with fail
      go_meet
      exact ⟨g1, cap1, cur, rfl, f1, F2.out⟩
    · obtain rfl : m = 30 := by have := HM.out; omega
      go_wp2_with (at_builtin; refine wpList_append_rd _ rfl (.tmp 20) (.tmp 25) 50 rfl w2.heap.size 5 .u8 1 Try.underlying50 info_u8 _ 1 [.int .u8 5] rfl HO.out w.heap.size a 30 cap Y rfl HL.out HRD.out (fun e => by have := HA.out e; omega) (by omega) (by omega) (by simp) ?_)
      intro v' w9 ho hg
      obtain ⟨g1, cap1, cur, rfl, f1, f2⟩ := FIN.out v' w9 ho hg
      have F2 := Lib.hid f2
      clear ho hg f2
      go_wp2_with fail
      go_meet
      exact ⟨g1, cap1, cur, rfl, f1, F2.out⟩
  case rest =>
    obtain ⟨g1, cap1, cur, rfl, hcur, hst⟩ := hcut
    generalize wc = w3 at *
    have HC : Hid (∀ wr g' L' R', StX w g' L' R' [(g1, .cells cur 5 (0, 0))] wr → ∀ j, j < m + 1 → wr.cell? ⟨g1, j, none⟩ = some (.int .u8 (((5 : Int) :: Y).getD j 0))) := fun wr g' L' R' h j hj => by
      have hb := h.block (p := (g1, .cells cur 5 (0, 0))) (by simp)
      rw [cell_of_row wr g1 j cur 5 (0, 0) hb]
      have h1 : (cur.toList.take (m + 1))[j]? = cur.toList[j]? := by rw [List.getElem?_take, if_pos hj]
      rw [← Array.getElem?_toList, ← h1, hcur, List.getElem?_map]
      have h2 : j < ((5 : Int) :: Y).length := by rw [List.length_cons, HL.out]; exact hj
      rw [List.getElem?_eq_getElem h2, List.getD_eq_getElem?_getD, List.getElem?_eq_getElem h2]; rfl
    obtain ⟨Z, hZ⟩ : ∃ Z, Z = (5 : Int) :: Y := ⟨_, rfl⟩
    have hZl : Z.length = m + 1 := by rw [hZ, List.length_cons, HL.out]
    rw [← hZ] at HC HZB
    have HZL := Lib.hid hZl
    have S0 : Hid (On1J Z w g [(g1, .cells cur 5 (0, 0))] (.int .i64 0) w3) := ⟨0, rfl, Nat.zero_le _, hst⟩
    obtain ⟨n, hn⟩ : ∃ n, n = m + 1 := ⟨_, rfl⟩
    rw [← hn] at HC HZL hZl ⊢
    have hn0 : 0 < n := by omega
    have hn1 : n ≤ 31 := by omega
    have hn2 : (n : Int) ≤ 31 := by omega
    clear hcur hst hZ hn HM HA HR HL hlc hcm hm30 hml H
    generalize [(g1, Obj.cells cur 5 (0, 0))] = XX at *
    go_wp2_with fail
    go_loopw [7] (fun iv wr => On1J Z w g XX iv wr) (fun iv _ => n - (intOf iv).toNat)
    case atStart => exact S0.out
    case round =>
      obtain ⟨i, rfl, hin, h⟩ := hrel
      clear S0
      rw [hZl] at hin
      have hi0 : (0 : Int) ≤ i := by omega
      by_cases hlt : i < n
      · have hlt' : (i : Int) < n := by omega
        have c0 := HC.out wr _ _ _ h i hlt
        obtain ⟨z0, z1⟩ := HZB.out (Z.getD i 0) (by rw [List.getD_eq_getElem?_getD, List.getElem?_eq_getElem (by omega)]; exact List.getElem_mem _)
        have K := set_s h 2 i (Z.getD i 0 % 16) (by omega) (by omega)
        rw [(once_set (Z := Z) (i := i) (by omega)).1, (once_set (Z := Z) (i := i) (by omega)).2] at K
        have HI : Hid (i + 1 ≤ Z.length) := by show i + 1 ≤ Z.length; omega
        have HLT := Lib.hid hlt
        clear h
        generalize Z.getD i 0 = z at *
        obtain ⟨q, hq⟩ : ∃ q, z % 16 = q := ⟨_, rfl⟩
        have hq2 : z.tmod 16 = q := by rw [tmod_pos _ _ z0]; exact hq
        rw [hq] at K
        have hq0 : 0 ≤ q := by omega
        have hq1 : q < 16 := by omega
        go_wp2_with fail
        refine K.mono ?_; rintro e w4 ⟨rfl, h⟩
        have H := Lib.hid h
        clear K h c0
        go_wp2_with fail
        go_roundw
        case rel => exact ⟨i + 1, by go_num, HI.out, H.out⟩
        case measure => have := HLT.out; simp [intOf]; omega
      · obtain rfl : i = n := by omega
        obtain ⟨s, hs⟩ : ∃ s : Nat, st % (i : Int) = (s : Nat) := ⟨(st % (i : Int)).toNat, by have := Int.emod_nonneg st (show (i : Int) ≠ 0 by omega); omega⟩
        have hs2 : st.tmod (i : Int) = (s : Nat) := by rw [tmod_pos _ _ hs0]; exact hs
        have hsn : s < i := by have := Int.emod_lt_of_pos st (show (0 : Int) < i by omega); omega
        have hsn' : (s : Int) < i := by omega
        have hs00 : (0 : Int) ≤ s := by omega
        have hiz : ¬ (i : Int) = 0 := by omega
        have hiz2 : ¬ i = 0 := by omega
        have K := stop_s h 2 s
        rw [oL_has, decide_eq_true hsn] at K
        obtain ⟨g1', g2, g3⟩ := once_start (Z := Z) hsn (fun z hz => (HZB.out z hz).1)
        obtain ⟨L0, hL0⟩ : ∃ L0, L0 = stopL 2 s (oL Z i) := ⟨_, rfl⟩
        have HAT : Hid (∀ (k : Nat) (now : Int) (x : Tm), (nowL L0 now)[k]? = some x → ∃ j : Nat, x = ⟨2, j, now⟩ ∧ j < i ∧ ¬ j = s ∧ Z.getD j 0 % 16 = now) := fun k now x h => by subst hL0; exact once_at h
        have HNX : Hid (∀ (k : Nat) (now : Int) (x y : Tm), (nowL L0 now)[k]? = some x → (nowL L0 now)[k + 1]? = some y → x.i < y.i) := fun k now x y h h2 => by subst hL0; exact once_next h h2
        rw [← hL0] at K g1' g2 g3
        have G1 := Lib.hid g1'
        have G2 := Lib.hid g2
        have G3 := Lib.hid g3
        have hlm : ((i : Int) - 1) = ((i - 1 : Nat) : Int) := by omega
        clear h hlt hin hL0 g1' g2 g3
        go_wp2_with fail
        refine K.mono ?_; rintro e w4 ⟨rfl, h⟩
        have S1 : Hid (On2J L0 w g XX (.int .i64 0) (.int .u64 0) w4) := ⟨0, 0, rfl, rfl, by omega, by rw [show ((0 : Nat) : Int) = 0 from rfl, G1.out]; omega, by rw [show ((0 : Nat) : Int) = 0 from rfl, G1.out]; exact h⟩
        clear K h
        go_wp2_with fail
        go_loopw [10, 11] (fun mv nv wr => On2J L0 w g XX mv nv wr) (fun _ nv _ => 16 - (intOf nv).toNat)
        case atStart => exact S1.out
        case round =>
          obtain ⟨now, mm, rfl, rfl, hn16, hmm, h⟩ := hrel
          clear S1
          have hn0' : (0 : Int) ≤ now := by omega
          have hn16' : (now : Int) ≤ 16 := by omega
          have hm31 : (mm : Int) ≤ 31 := by have := G2.out; omega
          have hm0' : (0 : Int) ≤ mm := by omega
          by_cases hlt : now < 16
          · have hlt' : (now : Int) < 16 := by omega
            have K := due_s h (now : Int)
            rw [(once_due L0 now).1, (once_due L0 now).2] at K
            have hct := once_count L0 now
            have HCT := Lib.hid hct
            have HMM := Lib.hid hmm
            have HLT := Lib.hid hlt
            clear h hct hmm
            go_wp2_with fail
            refine K.mono ?_; rintro e w5 ⟨u, rfl, h⟩
            clear K
            have HD : Hid ((nowL L0 now).length + mm ≤ 31) := by show _ ≤ _; have := HCT.out; have := HMM.out; have := G2.out; omega
            have S2 : Hid (On3J (nowL L0 now) mm (fun wr => StX w g (goL L0 (now + 1)) [(u, nowL L0 now)] XX wr) (.int .i64 (mm : Nat)) (.int .i64 0) w5) := ⟨0, rfl, rfl, Nat.zero_le _, h⟩
            clear h
            generalize hDq : nowL L0 now = D at *
            have HDQ := Lib.hid hDq
            clear hDq
            go_wp2_with fail
            go_loopw [10, 13] (fun mv kv wr => On3J D mm (fun wr => StX w g (goL L0 (now + 1)) [(u, D)] XX wr) mv kv wr) (fun _ kv _ => D.length - (intOf kv).toNat)
            case atStart => exact S2.out
            case round =>
              obtain ⟨k, rfl, rfl, hk, h⟩ := hrel
              clear S2
              have hk0 : (0 : Int) ≤ k := by omega
              have hdl : (D.length : Int) ≤ 31 := by have := HD.out; omega
              by_cases hkl : k < D.length
              · have hkl' : (k : Int) < D.length := by omega
                have hx : D[k]? = some D[k] := List.getElem?_eq_getElem hkl
                obtain ⟨j, hj, hji, hjs, hjz⟩ := HAT.out k now D[k] (by rw [HDQ.out]; exact hx)
                rw [hj] at hx
                obtain ⟨bl, off, hbo, hbl, hcc⟩ := h.rd (r := (u, D)) (by simp) (by show 0 < D.length; omega)
                have l1 := hcc k _ hx 1 _ rfl
                have l2 := hcc k _ hx 2 _ rfl
                have c0 := HC.out _ _ _ _ h j hji
                have zb := HZB.out (Z.getD j 0) (by rw [List.getD_eq_getElem?_getD, List.getElem?_eq_getElem (by omega)]; exact List.getElem_mem _)
                obtain ⟨zb0, zb1⟩ := zb
                generalize Z.getD j 0 = z at *
                have hzt : z.tmod 16 = (now : Int) := by rw [tmod_pos _ _ zb0]; exact hjz
                have hji' : (j : Int) < i := by omega
                have hj0 : (0 : Int) ≤ j := by omega
                have hjs' : ¬ (j : Int) = s := by omega
                have hjs2 : ((j : Int) == (s : Int)) = false := by rw [beq_eq_false_iff_ne]; exact hjs'
                have hjs3 : (j == s) = false := by rw [beq_eq_false_iff_ne]; exact hjs
                have hj00 : decide ((j : Int) < 0) = false := decide_eq_false (by omega)
                have hnn1 : ((now : Int) != (now : Int)) = false := by simp
                simp only at hbo l1 l2
                obtain ⟨ua, un, uc⟩ := u
                simp only at hbo
                subst hbo
                have H := Lib.hid h
                have HKL := Lib.hid hkl
                have hmk : ((mm + k : Nat) : Int) + 1 = ((mm + (k + 1) : Nat) : Int) := by omega
                have hmk2 : ((mm + k : Nat) : Int) ≤ 62 := by have := HD.out; omega
                have hmk0 : (0 : Int) ≤ ((mm + k : Nat) : Int) := by omega
                have hmk3 : ((mm + (k + 1) : Nat) : Int) ≤ 62 := by have := HD.out; omega
                have hmk4 : (0 : Int) ≤ ((mm + (k + 1) : Nat) : Int) := by omega
                obtain ⟨m1, hm1⟩ : ∃ m1, m1 = mm + k := ⟨_, rfl⟩
                obtain ⟨m2, hm2⟩ : ∃ m2, m2 = mm + (k + 1) := ⟨_, rfl⟩
                rw [← hm1] at hmk hmk2 hmk0 ⊢
                rw [← hm2] at hmk hmk3 hmk4
                have HM2 := Lib.hid hm2
                by_cases hkp : 0 < k
                · have hx' : D[k - 1]? = some D[k - 1] := List.getElem?_eq_getElem (by omega)
                  obtain ⟨j', hj', -, -, -⟩ := HAT.out (k - 1) now D[k - 1] (by rw [HDQ.out]; exact hx')
                  have hord := HNX.out (k - 1) now D[k - 1] ⟨2, j, now⟩ (by rw [HDQ.out]; exact hx') (by rw [HDQ.out, show k - 1 + 1 = k by omega]; exact hx)
                  rw [hj'] at hx' hord
                  have p1 := hcc (k - 1) _ hx' 1 _ rfl
                  obtain ⟨k', hk'⟩ : ∃ k', k' = k - 1 := ⟨_, rfl⟩
                  rw [← hk'] at p1
                  have hkk : (k : Int) - 1 = (k' : Nat) := by omega
                  have hk'0 : (0 : Int) ≤ k' := by omega
                  have hk'l : (k' : Int) < D.length := by omega
                  have hkp' : (0 : Int) < k := by omega
                  have hkp2 : decide ((0 : Int) < k) = true := decide_eq_true hkp'
                  have hkp3 : decide (0 < k) = true := decide_eq_true hkp
                  have hord' : (j' : Int) < j := hord
                  have hord2 : ¬ (j : Int) ≤ j' := by omega
                  have hord3 : decide ((j : Int) ≤ j') = false := decide_eq_false hord2
                  have hord4 : decide (j ≤ j') = false := decide_eq_false (by omega)
                  have hji2 : decide ((i : Int) ≤ j) = false := decide_eq_false (by omega)
                  have hji3 : decide (i ≤ j) = false := decide_eq_false (by omega)
                  clear hcc hx hx' hj hj' h hk' hm1 hm2 hord hkp hjz hk
                  go_upto_region 23 with fail
                  dsimp only [List.append]
                  go_quiet (fail)
                  have H2 := Lib.hid (H.out.keep (below_drewN (Below.refl wr.heap.size wr) nq))
                  clear l1 l2 c0 p1 H
                  generalize wr.drewN nq = w6 at *
                  go_wp2_with fail
                  go_roundw
                  case rel => exact ⟨k + 1, by go_num, by rw [← HM2.out], HKL.out, H2.out⟩
                  case measure => have := HKL.out; simp [intOf]; omega
                · obtain rfl : k = 0 := by omega
                  have hkp2 : decide ((0 : Int) < ((0 : Nat) : Int)) = false := rfl
                  have hji2 : decide ((i : Int) ≤ j) = false := decide_eq_false (by omega)
                  have hji3 : decide (i ≤ j) = false := decide_eq_false (by omega)
                  simp only [Nat.zero_mul, Nat.add_zero] at l1 l2
                  clear hcc hx hj h hm1 hm2 hjz hk hkp
                  go_upto_region 23 with fail
                  dsimp only [List.append]
                  go_quiet (fail)
                  have H2 := Lib.hid (H.out.keep (below_drewN (Below.refl wr.heap.size wr) nq))
                  clear l1 l2 c0 H
                  generalize wr.drewN nq = w6 at *
                  go_wp2_with fail
                  go_roundw
                  case rel => exact ⟨0 + 1, by go_num, by rw [← HM2.out], HKL.out, H2.out⟩
                  case measure => have := HKL.out; simp [intOf]; omega
              · obtain rfl : k = D.length := by omega
                have hge : decide ((D.length : Int) < D.length) = false := decide_eq_false (by omega)
                have H2 := Lib.hid h.forget
                obtain ⟨m1, hm1⟩ : ∃ m1, m1 = mm + D.length := ⟨_, rfl⟩
                rw [← hm1]
                have hm1l : (m1 : Int) ≤ 31 := by have := HD.out; omega
                have HM1 := Lib.hid hm1
                clear h hm1 hkl
                go_wp2_with fail
                go_roundw
                case rel => exact ⟨now + 1, m1, by go_num, rfl, HLT.out, by have h1 := HM1.out; have h2 := HCT.out; have h3 := HMM.out; rw [show ((now + 1 : Nat) : Int) = (now : Int) + 1 by omega]; omega, by rw [show ((now + 1 : Nat) : Int) = (now : Int) + 1 by omega]; exact H2.out⟩
                case measure => have := HLT.out; simp [intOf]; omega
          · obtain rfl : now = 16 := by omega
            have hmme : mm = i - 1 := by
              have h1 := hmm
              rw [show ((16 : Nat) : Int) = 16 from rfl, G3.out] at h1
              have := G2.out
              simp at h1; omega
            have HE := Lib.hid hmme
            have K := len_s h
            rw [show ((16 : Nat) : Int) = 16 from rfl, G3.out] at K
            have HB := Lib.hid h.below
            subst hmme
            clear h hmm hlt
            simp only [List.length_nil] at K
            go_wp2_with fail
            refine K.mono ?_; rintro e w6 ⟨rfl, rfl⟩
            clear K
            go_wp2_with fail
            go_ret
            exact ⟨rfl, HB.out⟩
theorem once_run (a : Option Addr) (len cap : Nat) (zs : List Int) (st : Int) (w : World) (wz : ArgRow .u8 w a len cap zs) (ws : (Lit.int .u8 st).wf = true) :
    Calls Try.prog 4 #[.slice a len cap, .int .u8 st] w (OncePost w) := by
  obtain ⟨h1, h2, h3, h4, h5, h6⟩ := wz.rd
  obtain ⟨s0, s1⟩ := bounds_u8 ws
  exact once_walk a len cap (zs.take len) st w h1 h2 h3 h4 h5 (fun z hz => bounds_u8 (h6 z hz)) s0 s1
theorem wheelOnce_own : ownKnob Try.prog.godebug = none := by kernel_rfl
theorem wheelOnce_laid : laidOutB Try.prog = true := by kernel_rfl
set_option maxRecDepth 100000 in
theorem wheelOnce_lifted (os : Os) (started : os.Started) (H : Type) (enc : TypeId × Value → H) :
    ReturnsInHanded {} Try.checked os 4 .any (Rows.wheelOnceSpec.pre6 enc Try.prog Try.f4 Rows.wheelOnceRow.domain false) (Rows.wheelOnceSpec.post enc Try.prog Try.f4 false true false false) := by
  refine returnsInHanded_of_change (C := Try.checked) wheelOnce_own started (by kernel_rfl) Try.func4
    (ChangeSpec.witness6 (enc := enc) (C := Try.checked) false ⟨#[], #[.slice none 0 0, .int .u8 0], []⟩ 8 (by kernel_rfl) (by kernel_rfl) (by kernel_rfl) (by kernel_rfl)) ?_
  intro W base args ds gs before hval0 hW hcnd _
  have hval : ∀ (j : Nat) t v, Try.f4.params[j]? = some t → args[j]? = some v → Value.okWide Try.prog W .any base t v := hval0
  have hW' := hW
  obtain ⟨p, q, hA0, hV, rfl, hfz, hnd⟩ := hW
  have hA : DataW.TrodAll enc Try.prog W 0 (fun _ => true) true Try.f4.params.toList args.toList ds p := hA0
  rw [Try.params4] at hA hval
  obtain ⟨v0, vs0, d0, ds0, p0, q0, hargs, rfl, rfl, h0, r0⟩ := trodAll_cons hA
  obtain ⟨v1, vs1, d1, ds1, p1, q1, rfl, rfl, rfl, h1, r1⟩ := trodAll_cons r0
  obtain ⟨rfl, rfl, rfl⟩ := trodAll_nil r1
  obtain rfl : args = #[v0, v1] := by cases args; simp_all
  obtain ⟨rfl, rfl⟩ := trodVars_none hV
  obtain ⟨a0, len0, cap0, rfl⟩ := okWide_slice Try.underlying50 (hval 0 50 v0 rfl rfl)
  have k0 := h0
  have lt0 : ∀ x ∈ p0, x.block < W.heap.size := by obtain ⟨m, hm⟩ := k0; exact DataW.trod_lt m _ _ _ hm
  obtain ⟨z0, w0⟩ : ∃ zs, ArgRow .u8 W a0 len0 cap0 zs := by
    obtain ⟨fuel, hf⟩ := h0
    rcases open_ints Try.underlying50 Try.underlying5 (by kernel_rfl) hf with ⟨hcs, _⟩ | ⟨x, l, c, zs, hcs, _, hl, hm, hz, _, hcell, hwz⟩
    · simp [Value.cells] at hcs
      obtain ⟨rfl, rfl, rfl⟩ := hcs
      exact ⟨[], .inl ⟨rfl, rfl, rfl, rfl⟩⟩
    · simp [Value.cells] at hcs
      obtain ⟨rfl, rfl, rfl⟩ := hcs
      exact ⟨zs, .inr ⟨_, rfl, hl, hm, by simpa using hz, hcell, hwz⟩⟩
  obtain ⟨a1, rfl, rfl, rfl, w1⟩ := open_int Try.underlying5 (hval 1 5 v1 rfl rfl) h1
  clear hA0 hval0
  refine (once_run a0 len0 cap0 z0 a1 W w0 w1).mono fun e W' ⟨he, bel⟩ => ?_
  subst he
  exact ⟨_, rfl, _, _, _, [], _, [], hW', trodAll_mk1 (shut_bool Try.underlying4 _), (trodAll_cons_mk (Below.trod wheelOnce_laid (by kernel_rfl) (of_decide_eq_true (by kernel_rfl)) k0 bel lt0) (trodAll_cons_mk (shut_int Try.underlying5 w1) trodAll_mk0)), rfl, bel.frame _, fun h => by cases h⟩
theorem wheelOnce_over : Rows.wheelOnceRow.holds Try.pinned (OpenSpec.ofChange Rows.wheelOnceSpec) :=
  OpenClaim.holds_of_wide 4 Try.f4 rfl rfl rfl rfl rfl rfl rfl ⟨rfl, rfl, rfl, rfl, rfl⟩ rfl rfl rfl rfl rfl (by kernel_rfl) Try.func4 (by kernel_rfl)
    (of_decide_eq_true (by kernel_rfl)) (by unfold Func.isWrapper; first | (rw [if_pos (by decide +kernel)]; kernel_rfl) | (rw [if_neg (by decide +kernel)]; exact ⟨rfl, rfl⟩))
    (fun os started H enc _ => wheelOnce_lifted os started H enc)
theorem wheelOnce_holds : Rows.WheelOnceSaid := wheelOnce_over
#print axioms wheelOnce_holds
end Go.Proofs.Ytmnakbpjbgjnmaa
