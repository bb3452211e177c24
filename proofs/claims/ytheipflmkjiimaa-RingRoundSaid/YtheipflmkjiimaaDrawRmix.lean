/- The contract of the reference's Mix. -/
import Derived.Test.YtheipflmkjiimaaDrawMix
namespace Go.Proofs.Ytheipflmkjiimaa
open Go.RowKit
set_option linter.unusedVariables false
set_option linter.unusedSimpArgs false

theorem rbelow_k (s n : Int) (k : Nat) (h : 1 ≤ n) (hn : n ≤ 9223372036854775807) (hk : num s % n = (k : Int)) (w : World) :
    Calls Try.prog 29 #[.agg #[.int .u64 s], .int .i64 n] w fun e w' => e = .returned (.tuple #[.int .i64 (k : Int), .agg #[.int .u64 (nx s)]]) ∧ Below w.heap.size w w' := by
  rw [← hk]
  exact rbelow_yes s n h hn w

/-- what holds of memory while the reference mixes -/
structure RmSt (w w' : World) (g n cap : Nat) (fin : List Int × Int) (p : Nat) (s1 : Int) (l1 : List Int) : Prop where
  box : w'.cell? ⟨w.heap.size, 0, none⟩ = some (.int .u64 s1)
  boxF : w'.frozen? ⟨w.heap.size, 0, none⟩ = false
  res : ∃ u, w'.cell? ⟨w.heap.size + 1, 0, none⟩ = some u
  resF : w'.frozen? ⟨w.heap.size + 1, 0, none⟩ = false
  row : w'.ownsRow (w.heap.size + 1 + 1) 3 1 (.slice (some ⟨g, 0, none⟩) n cap) n (l1.map (Value.int .i64))
  below : Below w.heap.size w w'
  size : w.heap.size + 1 < w'.heap.size
  len : l1.length = n
  todo : mixTo p s1 l1 = fin

theorem rm_lt {w w' : World} {g n cap p : Nat} {fin : List Int × Int} {s1 : Int} {l1 : List Int} (M : RmSt w w' g n cap fin p s1 l1) : w.heap.size + 1 + 1 ≤ g ∧ g < w'.heap.size := M.row.lt g rfl

theorem RmSt.on {w w1 w2 : World} {g n cap p : Nat} {fin : List Int × Int} {s1 : Int} {l1 : List Int} (M : RmSt w w1 g n cap fin p s1 l1) (hb : Below w1.heap.size w1 w2) : RmSt w w2 g n cap fin p s1 l1 := by
  have hz := M.size
  refine ⟨?_, ?_, ?_, ?_, M.row.kept (row := none) ⟨hb.os, hb.tape, hb.output, hb.size, fun k hk _ => hb.block k hk⟩ (.inr (by simp [Value.ownBlock])), M.below.trans (hb.mono (by omega)), by have := hb.size; omega, M.len, M.todo⟩
  · rw [hb.cell (p := ⟨w.heap.size, 0, none⟩) (by show w.heap.size < _; omega)]; exact M.box
  · rw [hb.frozen (p := ⟨w.heap.size, 0, none⟩) (by show w.heap.size < _; omega)]; exact M.boxF
  · rw [hb.cell (p := ⟨w.heap.size + 1, 0, none⟩) (by show w.heap.size + 1 < _; omega)]; exact M.res
  · rw [hb.frozen (p := ⟨w.heap.size + 1, 0, none⟩) (by show w.heap.size + 1 < _; omega)]; exact M.resF

/-- what the walk of a round wants to know behind the draw -/
theorem rm_facts {w w1 w2 : World} {g n cap q : Nat} {fin : List Int × Int} {s1 : Int} {l1 : List Int} (M0 : RmSt w w1 g n cap fin q s1 l1) (hb : Below w1.heap.size w1 w2) (p k : Nat) (hp : p + 1 < n) (hk : k < n) :
    w2.cell? ⟨w.heap.size, 0, none⟩ = some (.int .u64 s1) ∧ w2.frozen? ⟨w.heap.size, 0, none⟩ = false ∧
    Hid (RmSt w w2 g n cap fin q s1 l1) ∧ w.heap.size + 1 < w2.heap.size ∧ w.heap.size < w2.heap.size ∧ g < w2.heap.size ∧ ¬ g = w.heap.size ∧
    w2.cell? ⟨g, p + 1, none⟩ = some (.int .i64 (l1.getD (p + 1) 0)) ∧ w2.cell? ⟨g, k, none⟩ = some (.int .i64 (l1.getD k 0)) ∧
    w2.frozen? ⟨g, p + 1, none⟩ = false ∧ w2.frozen? ⟨g, k, none⟩ = false := by
  have M := M0.on hb
  have hz := M.size
  have hl := M.len
  obtain ⟨hg1, hg2⟩ := rm_lt M
  have c : ∀ i, i < n → w2.cell? ⟨g, i, none⟩ = some (.int .i64 (l1.getD i 0)) := fun i hi => by
    rw [M.row.cellAt i (by omega), List.getElem?_map, List.getElem?_eq_getElem (by omega)]
    simp [List.getD_eq_getElem?_getD, hl, hi]
  exact ⟨M.box, M.boxF, Lib.hid M, hz, by omega, hg2, by omega, c _ hp, c _ hk, M.row.frozenAt _, M.row.frozenAt _⟩

/-- one exchange -/
theorem rm_step {w w2 : World} {g n cap p k : Nat} {fin : List Int × Int} {s1 : Int} {l1 : List Int} (hp : p + 1 < n) (hk : k < n) (M : RmSt w w2 g n cap fin ((p : Int) + 1).toNat s1 l1)
    (h : mixTo (p + 1) s1 l1 = mixTo p (nx s1) (swp l1 (p + 1) k)) :
    RmSt w ((((w2.setCell ⟨w.heap.size, 0, none⟩ (.int .u64 (nx s1))).setCell ⟨g, p + 1, none⟩ (.int .i64 (l1[k]?.getD 0))).setCell ⟨g, k, none⟩ (.int .i64 (l1[p + 1]?.getD 0))).alloc (Obj.cells #[Value.int IntKind.u64 (nx s1)] 39)) g n cap fin ((p : Int)).toNat (nx s1) (swp l1 (p + 1) k) := by
  have e : ((p : Int) + 1).toNat = p + 1 := by omega
  rw [e] at M
  rw [Int.toNat_natCast]
  have hbx := M.box
  have hbf := M.boxF
  obtain ⟨ru, hres⟩ := M.res
  have hrf := M.resF
  have hz := M.size
  obtain ⟨hg1, hg2⟩ := rm_lt M
  have hz0 : w.heap.size < w2.heap.size := by omega
  have n1 : ¬ g = w.heap.size := by omega
  have n2 : ¬ g = w.heap.size + 1 := by omega
  have n3 : ¬ w.heap.size = g := by omega
  have n4 : ¬ w.heap.size + 1 = g := by omega
  refine ⟨?_, ?_, ⟨ru, ?_⟩, ?_, ?_, ?_, ?_, by rw [swp_length]; exact M.len, by rw [← M.todo, h]⟩
  · go_simp
  · go_simp
  · go_simp
  · go_simp
  · have r := ((((ownsRow_setCell_below (a := ⟨w.heap.size, 0, none⟩) M.row (by show w.heap.size < _; omega) (.int .u64 (nx s1))).stored (p + 1) (.int .i64 (l1[k]?.getD 0))).1.stored k (.int .i64 (l1[p + 1]?.getD 0))).1).alloc (Obj.cells #[Value.int IntKind.u64 (nx s1)] 39)
    have e2 : ((l1.map (Value.int .i64)).set (p + 1) (.int .i64 (l1[k]?.getD 0))).set k (.int .i64 (l1[p + 1]?.getD 0)) = (swp l1 (p + 1) k).map (Value.int .i64) := by
      simp only [swp, List.map_set, List.getD_eq_getElem?_getD]
    rw [e2] at r
    exact r
  · have hb := M.below
    (have zz0 := Below.size hb; (try simp at zz0); repeat (first | with_reducible exact Below.refl _ _ | with_reducible refine Below.drew ?_ | with_reducible refine below_drewN ?_ _ | with_reducible refine Below.alloc ?_ (by first | omega | (simp; done) | (simp; omega)) _ | with_reducible refine Below.setCell ?_ (by first | omega | (simp; done) | (simp; omega)) _ | (with_reducible refine Below.trans ?_ (Below.mono hb (by first | omega | (simp; done) | (simp; omega))))))
  · simpa using by omega

theorem rm_end {w w1 : World} {g n cap : Nat} {pl : Int} {fin : List Int × Int} {s1 : Int} {l1 : List Int} (hp : pl < 1) (M : RmSt w w1 g n cap fin pl.toNat s1 l1) :
    ∃ v, Ending.returned (.tuple #[.slice (some ⟨g, 0, none⟩) n cap, .agg #[.int .u64 s1]]) = .returned (.tuple #[v, .agg #[.int .u64 fin.2]]) ∧
      ((w1.setCell ⟨w.heap.size + 1, 0, none⟩ (.int .u64 s1)).drew).ownsRow (w.heap.size + 1 + 1) 3 1 v n (fin.1.map (Value.int .i64)) ∧ Below w.heap.size w ((w1.setCell ⟨w.heap.size + 1, 0, none⟩ (.int .u64 s1)).drew) := by
  have e : pl.toNat = 0 := by omega
  have ht := M.todo
  rw [e, mixTo] at ht
  subst ht
  refine ⟨_, rfl, (ownsRow_setCell_below M.row (by show w.heap.size + 1 < _; omega) _).drew, ?_⟩
  have hb := M.below
  (have zz0 := Below.size hb; (try simp at zz0); repeat (first | with_reducible exact Below.refl _ _ | with_reducible refine Below.drew ?_ | with_reducible refine below_drewN ?_ _ | with_reducible refine Below.alloc ?_ (by first | omega | (simp; done) | (simp; omega)) _ | with_reducible refine Below.setCell ?_ (by first | omega | (simp; done) | (simp; omega)) _ | (with_reducible refine Below.trans ?_ (Below.mono hb (by first | omega | (simp; done) | (simp; omega))))))

/-- what holds at every round's head -/
def RmJ (w : World) (g n cap : Nat) (fin : List Int × Int) (i : Value) (wr : World) : Prop :=
  ∃ (pl : Int) (s1 : Int) (l1 : List Int), i = .int .i64 pl ∧ -1 ≤ pl ∧ pl < n ∧ RmSt w wr g n cap fin pl.toNat s1 l1

theorem own_form {w : World} {base n : Nat} {e : TypeId} {v : Value} {xs : List Value} (h : w.ownsRow base e 1 v n xs) (hn : 0 < n) : ∃ g c, v = .slice (some ⟨g, 0, none⟩) n c := by
  rcases h.2 with ⟨_, h0⟩ | ⟨g, cap, cur, hv, _⟩
  · omega
  · exact ⟨g, cap, hv⟩

theorem own_slice {w : World} {base n : Nat} {e : TypeId} {v : Value} {xs : List Value} (h : w.ownsRow base e 1 v n xs) : ∃ A c, v = .slice A n c := by
  rcases h.2 with ⟨hv, h0⟩ | ⟨g, cap, cur, hv, _⟩
  · subst h0; exact ⟨none, 0, hv⟩
  · exact ⟨_, _, hv⟩

theorem rm_none {w w' : World} {s : Int} {v : Value} {xs : List Value} (hrow : w'.ownsRow (w.heap.size + 1 + 1) 3 1 v (0 + 0) xs)
    (hg : ((w.alloc (Obj.cells #[Value.int IntKind.u64 s] 39)).alloc (Obj.cells #[Value.int IntKind.u64 0] 39)).grownBy w' (Value.slice none 0 0).ownBlock) :
    w'.cell? ⟨w.heap.size, 0, none⟩ = some (.int .u64 s) ∧ w'.cell? ⟨w.heap.size + 1, 0, none⟩ = some (.int .u64 0) ∧ w'.frozen? ⟨w.heap.size + 1, 0, none⟩ = false ∧ w'.ownsRow (w.heap.size + 1 + 1) 3 1 v 0 xs ∧ Below w.heap.size w w' := by
  have hb : Below (w.heap.size + 1 + 1) ((w.alloc (Obj.cells #[Value.int IntKind.u64 s] 39)).alloc (Obj.cells #[Value.int IntKind.u64 0] 39)) w' :=
    (Below.refl _ _).grown hg (by simp) (by simp [Value.ownBlock])
  refine ⟨?_, ?_, ?_, hrow, ?_⟩
  · rw [hb.cell (p := ⟨w.heap.size, 0, none⟩) (by show w.heap.size < _; omega)]; go_simp
  · rw [hb.cell (p := ⟨w.heap.size + 1, 0, none⟩) (by show w.heap.size + 1 < _; omega)]; go_simp
  · rw [hb.frozen (p := ⟨w.heap.size + 1, 0, none⟩) (by show w.heap.size + 1 < _; omega)]; go_simp
  · exact (((Below.refl _ _).alloc (Nat.le_refl _) _).alloc (by simp) _).trans (hb.mono (by omega))

theorem rm_start {w w' : World} {s : Int} {g n c : Nat} {zs : List Int} (hn : zs.length = n) (hrow : w'.ownsRow (w.heap.size + 1 + 1) 3 1 (.slice (some ⟨g, 0, none⟩) n c) n (zs.map (Value.int .i64)))
    (hg : ((w.alloc (Obj.cells #[Value.int IntKind.u64 s] 39)).alloc (Obj.cells #[Value.int IntKind.u64 0] 39)).grownBy w' (Value.slice none 0 0).ownBlock) :
    RmSt w w' g n c (mixL s zs) ((n : Int) - 1).toNat s zs := by
  have hb : Below (w.heap.size + 1 + 1) ((w.alloc (Obj.cells #[Value.int IntKind.u64 s] 39)).alloc (Obj.cells #[Value.int IntKind.u64 0] 39)) w' :=
    (Below.refl _ _).grown hg (by simp) (by simp [Value.ownBlock])
  have e0 : ((n : Int) - 1).toNat = n - 1 := by omega
  rw [e0]
  refine ⟨?_, ?_, ⟨.int .u64 0, ?_⟩, ?_, hrow, ?_, ?_, hn, ?_⟩
  · rw [hb.cell (p := ⟨w.heap.size, 0, none⟩) (by show w.heap.size < _; omega)]; go_simp
  · rw [hb.frozen (p := ⟨w.heap.size, 0, none⟩) (by show w.heap.size < _; omega)]; go_simp
  · rw [hb.cell (p := ⟨w.heap.size + 1, 0, none⟩) (by show w.heap.size + 1 < _; omega)]; go_simp
  · rw [hb.frozen (p := ⟨w.heap.size + 1, 0, none⟩) (by show w.heap.size + 1 < _; omega)]; go_simp
  · exact (((Below.refl _ _).alloc (Nat.le_refl _) _).alloc (by simp) _).trans (hb.mono (by omega))
  · have := hb.size; simp at this; omega
  · subst hn; rfl

set_option maxRecDepth 100000 in
set_option maxHeartbeats 800000 in
theorem rmix_some (s : Int) (a : Option Addr) (n cap : Nat) (zs : List Int) (hl : n ≤ 100000) (hcap : n ≤ cap) (hA : a = none → n = 0 ∧ cap = 0) (hn0 : 0 < n) (hn : Hid (zs.length = n)) (w : World) (hr : Rd .i64 w w.heap.size a zs) :
    Calls Try.prog 25 #[.agg #[.int .u64 s], .slice a n cap] w fun e w' => ∃ v, e = .returned (.tuple #[v, .agg #[.int .u64 (mixL s zs).2]]) ∧
      w'.ownsRow (w.heap.size + 1 + 1) 3 1 v n ((mixL s zs).1.map (Value.int .i64)) ∧ Below w.heap.size w w' := by
  obtain ⟨fin, hfin⟩ : ∃ fin, mixL s zs = fin := ⟨_, rfl⟩
  rw [hfin]
  have HF := Lib.hid hfin
  have HA := Lib.hid hA
  clear hfin hA
  go_enter Try.func25, Try.ntmps25
  go_wp2_with (with_reducible refine wpList_append_rd _ rfl (.const (.slice none 0 0)) (.tmp 11) 33 rfl (w.heap.size + 1 + 1) 3 .i64 8 Try.underlying33 info_int (.slice none 0 0) 0 [] rfl (World.ownsRow_nil _ _ _ _) w.heap.size a n cap zs rfl hn.out ?h2 HA.out ?h3 ?h4 ?h5 ?_)
  case h2 => exact hr.below (by ((repeat (first | with_reducible exact Below.refl _ _ | with_reducible refine Below.drew ?_ | with_reducible refine below_drewN ?_ _ | with_reducible refine Below.alloc ?_ (by first | omega | (simp; done) | (simp; omega)) _ | with_reducible refine Below.setCell ?_ (by first | omega | (simp; done) | (simp; omega)) _))))
  case h3 => omega
  case h4 => omega
  case h5 => simp
  intro v1 w1 hown hg
  obtain ⟨g, c, hv⟩ := own_form hown (by omega)
  subst hv
  have M := rm_start hn.out (by simpa using hown) hg
  rw [HF.out] at M
  clear hown hg
  go_wp2
  go_loopw [7] (fun i wr => RmJ w g n c fin i wr) (fun i _ => (intOf i).toNat)
  case atStart => exact ⟨_, _, _, rfl, by omega, by omega, M⟩
  case round =>
    clear M
    obtain ⟨pl, s1, l1, rfl, hpl, hpn, M⟩ := hrel
    have hbx := M.box
    have hbf := M.boxF
    obtain ⟨ru, hres⟩ := M.res
    have hrf := M.resF
    have hz1 := M.size
    by_cases h1 : pl < 1
    · have MH := Lib.hid M
      clear M
      go_wp2
      go_region
      all_goals go_wp2
      all_goals (refine bodyPost_ret (v := .tuple #[.slice (some ⟨g, 0, none⟩) n c, .agg #[.int .u64 s1]]) (by simp [results, Try.results25, go_sem, hres, hrf]) rfl ?_)
      all_goals exact rm_end (by omega) MH.out
    · obtain ⟨p, rfl⟩ : ∃ p : Nat, pl = (p : Int) + 1 := ⟨(pl - 1).toNat, by omega⟩
      obtain ⟨k, hk0, hkl⟩ := pick_nat s1 p
      have hk : num s1 % ((p : Int) + 1 + 1) = (k : Int) := by rw [← hk0, show ((p : Int) + 1 + 1) = (p : Int) + 2 from by omega]
      have HK := Lib.hid hk
      have HM := Lib.hid (mixTo_succ p s1 l1 k hk0)
      have MH := Lib.hid M
      clear hk hk0 M hbf hres hrf
      have hkn : (k : Int) < n := by omega
      have hpn1 : (p : Int) + 1 < n := by omega
      by_cases hkp : k = p + 1
      · subst hkp
        go_wp2_with (go_at_call 29; refine (rbelow_k _ _ (p + 1) (by omega) (by omega) HK.out _).mono ?_; rintro e w2 ⟨rfl, hb⟩; obtain ⟨hbx2, hbf2, row2, hz22, hz23, hg2, hg3, c1, c2, f1, f2⟩ := rm_facts MH.out hb p (p + 1) (by omega) (by omega))
        go_roundw
        case rel => exact ⟨p, nx s1, swp l1 (p + 1) (p + 1), rfl, by omega, by omega, rm_step (by omega) (by omega) row2.out HM.out⟩
        case measure => simp [intOf] <;> omega
      · go_wp2_with (go_at_call 29; refine (rbelow_k _ _ k (by omega) (by omega) HK.out _).mono ?_; rintro e w2 ⟨rfl, hb⟩; obtain ⟨hbx2, hbf2, row2, hz22, hz23, hg2, hg3, c1, c2, f1, f2⟩ := rm_facts MH.out hb p k (by omega) (by omega))
        go_roundw
        case rel => exact ⟨p, nx s1, swp l1 (p + 1) k, rfl, by omega, by omega, rm_step (by omega) (by omega) row2.out HM.out⟩
        case measure => simp [intOf] <;> omega

theorem rmix_none (s : Int) (a : Option Addr) (cap : Nat) (hA : a = none → cap = 0) (w : World) :
    Calls Try.prog 25 #[.agg #[.int .u64 s], .slice a 0 cap] w fun e w' => ∃ v, e = .returned (.tuple #[v, .agg #[.int .u64 (mixL s []).2]]) ∧
      w'.ownsRow (w.heap.size + 1 + 1) 3 1 v 0 ((mixL s []).1.map (Value.int .i64)) ∧ Below w.heap.size w w' := by
  have hr : Rd .i64 w w.heap.size a [] := Rd.nil _ _ _ _
  have HA := Lib.hid hA
  clear hA
  go_enter Try.func25, Try.ntmps25
  go_wp2_with (with_reducible refine wpList_append_rd _ rfl (.const (.slice none 0 0)) (.tmp 11) 33 rfl (w.heap.size + 1 + 1) 3 .i64 8 Try.underlying33 info_int (.slice none 0 0) 0 [] rfl (World.ownsRow_nil _ _ _ _) w.heap.size a 0 cap [] rfl rfl ?h2 (fun h => ⟨rfl, HA.out h⟩) ?h3 ?h4 ?h5 ?_)
  case h2 => exact Rd.nil _ _ _ _
  case h3 => omega
  case h4 => omega
  case h5 => simp
  intro v1 w1 hown hg
  obtain ⟨A, c, hv⟩ := own_slice hown
  subst hv
  obtain ⟨hbx, hres, hrf, hown1, hbel⟩ := rm_none hown hg
  clear hown hg
  have HB := Lib.hid hbel
  have HO := Lib.hid hown1
  clear hbel hown1
  go_wp2
  go_loopw [7] (fun i wr => i = .int .i64 (-1) ∧ w1 = wr) (fun i _ => (intOf i).toNat)
  case atStart => exact ⟨rfl, rfl⟩
  case round =>
    obtain ⟨rfl, rfl⟩ := hrel
    go_wp2
    go_region
    all_goals go_wp2
    all_goals (refine bodyPost_ret (v := .tuple #[.slice A 0 c, .agg #[.int .u64 s]]) (by simp [results, Try.results25, go_sem, hres, hrf]) rfl ?_)
    all_goals refine ⟨_, rfl, (ownsRow_setCell_below HO.out (by show w.heap.size + 1 < _; omega) _).drew, ?_⟩
    all_goals have hb := HB.out
    all_goals ((have zz0 := Below.size hb; (try simp at zz0); repeat (first | with_reducible exact Below.refl _ _ | with_reducible refine Below.drew ?_ | with_reducible refine below_drewN ?_ _ | with_reducible refine Below.alloc ?_ (by first | omega | (simp; done) | (simp; omega)) _ | with_reducible refine Below.setCell ?_ (by first | omega | (simp; done) | (simp; omega)) _ | (with_reducible refine Below.trans ?_ (Below.mono hb (by first | omega | (simp; done) | (simp; omega)))))))

theorem rmix_any (s : Int) (a : Option Addr) (n cap : Nat) (zs : List Int) (hl : n ≤ 100000) (hcap : n ≤ cap) (hA : a = none → n = 0 ∧ cap = 0) (hn : zs.length = n) (w : World) (hr : Rd .i64 w w.heap.size a zs) :
    Calls Try.prog 25 #[.agg #[.int .u64 s], .slice a n cap] w fun e w' => ∃ v, e = .returned (.tuple #[v, .agg #[.int .u64 (mixL s zs).2]]) ∧
      w'.ownsRow (w.heap.size + 1 + 1) 3 1 v n ((mixL s zs).1.map (Value.int .i64)) ∧ Below w.heap.size w w' := by
  rcases Nat.eq_zero_or_pos n with h0 | h0
  · subst h0
    obtain rfl : zs = [] := List.eq_nil_of_length_eq_zero hn
    exact rmix_none s a cap (fun h => (hA h).2) w
  · exact rmix_some s a n cap zs hl hcap hA h0 hn w hr
end Go.Proofs.Ytheipflmkjiimaa
