/- The contract of Mix (both programs): the list that is answered is a new block that holds the mixed list. -/
import Derived.Test.YtheipflmkjiimaaDrawBase
import Derived.ScopeJumps
import Derived.WalkMore
import Derived.Laws.MakeOwn
namespace Go.Proofs.Ytheipflmkjiimaa
open Go.RowKit
set_option linter.unusedVariables false
set_option linter.unusedSimpArgs false

theorem info_int : (Try.prog.info? 3).map (fun i => (i.zero, i.size, i.bytes)) = some (some (.int .i64 0), 1, 8) := by kernel_rfl

theorem below_k (s n : Int) (k : Nat) (h : 1 ≤ n) (hn : n ≤ 9223372036854775807) (hk : num s % n = (k : Int)) (w : World) :
    Calls Try.prog 27 #[.agg #[.int .u64 s], .int .i64 n] w fun e w' => e = .returned (.tuple #[.int .i64 (k : Int), .agg #[.int .u64 (nx s)]]) ∧ Below w.heap.size w w' := by
  rw [← hk]
  exact below_yes s n h hn w

/-- what holds of memory while the list is mixed: from place p down it is still to be mixed -/
structure MixSt (w w' : World) (n : Nat) (fin : List Int × Int) (p : Nat) (s1 : Int) (l1 : List Int) : Prop where
  box : w'.cell? ⟨w.heap.size, 0, none⟩ = some (.int .u64 s1)
  boxF : w'.frozen? ⟨w.heap.size, 0, none⟩ = false
  res : ∃ u, w'.cell? ⟨w.heap.size + 1, 0, none⟩ = some u
  resF : w'.frozen? ⟨w.heap.size + 1, 0, none⟩ = false
  row : w'.rowIs (w.heap.size + 1 + 1) 3 n (row .i64 l1)
  below : Below w.heap.size w w'
  size : w.heap.size + 1 + 1 < w'.heap.size
  len : l1.length = n
  todo : mixTo p s1 l1 = fin

/-- what the frame holds at every round's head -/
def MixFrame (w : World) (s : Int) (a : Option Addr) (n cap : Nat) (pl : Int) (t : Array Value) : Prop :=
  ∃ (u8 u9 u10 u11 u12 u13 u14 u15 u16 u17 u18 u19 u20 u21 u22 u23 u24 u25 u26 u27 u28 u29 u30 u31 u32 u33 u34 u35 u36 u37 u38 u39 u40 u41 u42 u43 u44 : Value),
    t = #[.agg #[.int .u64 s], .slice a n cap, .pointer (some ⟨w.heap.size, 0, none⟩), undef, .slice none 0 0, .pointer (some ⟨w.heap.size + 1, 0, none⟩), .slice (some ⟨w.heap.size + 1 + 1, 0, none⟩) n n, .int .i64 pl,
      u8, u9, u10, u11, u12, u13, u14, u15, u16, u17, u18, u19, u20, u21, u22, u23, u24, u25, u26, u27, u28, u29, u30, u31, u32, u33, u34, u35, u36, u37, u38, u39, u40, u41, u42, u43, u44]

/-- what holds at every jump -/
def MixJ (w : World) (s : Int) (a : Option Addr) (n cap : Nat) (fin : List Int × Int) (a' : Act) (w' : World) : Prop :=
  ∃ (p : Nat) (s1 : Int) (l1 : List Int), p < n ∧ a'.defers = [] ∧ MixFrame w s a n cap p a'.tmps ∧ MixSt w w' n fin p s1 l1

theorem MixSt.on {w w1 w2 : World} {n p : Nat} {fin : List Int × Int} {s1 : Int} {l1 : List Int} (M : MixSt w w1 n fin p s1 l1) (hb : Below w1.heap.size w1 w2) : MixSt w w2 n fin p s1 l1 := by
  have hz := M.size
  refine ⟨?_, ?_, ?_, ?_, M.row.of_block (hb.block _ (by omega)), M.below.trans (hb.mono (by omega)), by have := hb.size; omega, M.len, M.todo⟩
  · rw [hb.cell (p := ⟨w.heap.size, 0, none⟩) (by show w.heap.size < _; omega)]; exact M.box
  · rw [hb.frozen (p := ⟨w.heap.size, 0, none⟩) (by show w.heap.size < _; omega)]; exact M.boxF
  · rw [hb.cell (p := ⟨w.heap.size + 1, 0, none⟩) (by show w.heap.size + 1 < _; omega)]; exact M.res
  · rw [hb.frozen (p := ⟨w.heap.size + 1, 0, none⟩) (by show w.heap.size + 1 < _; omega)]; exact M.resF

/-- what the walk of a round wants to know behind the draw -/
theorem mix_facts {w w1 w2 : World} {n q : Nat} {fin : List Int × Int} {s1 : Int} {l1 : List Int} (M0 : MixSt w w1 n fin q s1 l1) (hb : Below w1.heap.size w1 w2) (p k : Nat) (hp : p + 1 < n) (hk : k < n) :
    w2.cell? ⟨w.heap.size, 0, none⟩ = some (.int .u64 s1) ∧ w2.frozen? ⟨w.heap.size, 0, none⟩ = false ∧ (∃ u, w2.cell? ⟨w.heap.size + 1, 0, none⟩ = some u) ∧ w2.frozen? ⟨w.heap.size + 1, 0, none⟩ = false ∧
    Hid (MixSt w w2 n fin q s1 l1) ∧ w.heap.size + 1 + 1 < w2.heap.size ∧
    w2.cell? ⟨w.heap.size + 1 + 1, p + 1, none⟩ = some (.int .i64 (l1.getD (p + 1) 0)) ∧ w2.cell? ⟨w.heap.size + 1 + 1, k, none⟩ = some (.int .i64 (l1.getD k 0)) ∧
    w2.frozen? ⟨w.heap.size + 1 + 1, p + 1, none⟩ = false ∧ w2.frozen? ⟨w.heap.size + 1 + 1, k, none⟩ = false := by
  have M := M0.on hb
  exact ⟨M.box, M.boxF, M.res, M.resF, Lib.hid M, M.size, M.row.cell hp, M.row.cell hk, M.row.frozen _, M.row.frozen _⟩

/-- one exchange -/
theorem mix_step {w w2 : World} {n p k : Nat} {fin : List Int × Int} {s1 : Int} {l1 : List Int} (hp : p + 1 < n) (hk : k < n) (M : MixSt w w2 n fin ((p : Int) + 1).toNat s1 l1)
    (h : mixTo (p + 1) s1 l1 = mixTo p (nx s1) (swp l1 (p + 1) k)) :
    MixSt w ((((w2.setCell ⟨w.heap.size, 0, none⟩ (.int .u64 (nx s1))).setCell ⟨w.heap.size + 1 + 1, p + 1, none⟩ (.int .i64 (l1[k]?.getD 0))).setCell ⟨w.heap.size + 1 + 1, k, none⟩ (.int .i64 (l1[p + 1]?.getD 0))).drew) n fin p (nx s1) (swp l1 (p + 1) k) := by
  have e : ((p : Int) + 1).toNat = p + 1 := by omega
  rw [e] at M
  have hbx := M.box
  have hbf := M.boxF
  obtain ⟨ru, hres⟩ := M.res
  have hrf := M.resF
  have hz := M.size
  refine ⟨?_, ?_, ⟨ru, ?_⟩, ?_, ?_, ?_, ?_, by rw [swp_length]; exact M.len, by rw [← M.todo, h]⟩
  · go_simp
  · go_simp
  · go_simp
  · go_simp
  · have r := (((M.row.setOther (a := ⟨w.heap.size, 0, none⟩) (by show w.heap.size + 1 + 1 ≠ w.heap.size; omega) (.int .u64 (nx s1))).set (p + 1) (.int .i64 (l1[k]?.getD 0))).set k (.int .i64 (l1[p + 1]?.getD 0))).drew
    refine r.congr fun i hi => ?_
    have hl := M.len
    simp only [row, swp, List.getD_eq_getElem?_getD, List.getElem?_set, List.length_set]
    by_cases h1 : i = k
    · subst h1; simp [hl, hi]
    · by_cases h2 : i = p + 1
      · subst h2; simp [h1, hl, hi, Ne.symm h1]
      · simp [h1, h2, Ne.symm h1, Ne.symm h2]
  · have hb := M.below
    (have zz0 := Below.size hb; (try simp at zz0); repeat (first | with_reducible exact Below.refl _ _ | with_reducible refine Below.drew ?_ | with_reducible refine below_drewN ?_ _ | with_reducible refine Below.alloc ?_ (by first | omega | (simp; done) | (simp; omega)) _ | with_reducible refine Below.setCell ?_ (by first | omega | (simp; done) | (simp; omega)) _ | (with_reducible refine Below.trans ?_ (Below.mono hb (by first | omega | (simp; done) | (simp; omega))))))
  · simpa using hz

theorem mix_end {w w1 : World} {n : Nat} {pl : Int} {fin : List Int × Int} {s1 : Int} {l1 : List Int} (hp : pl < 1) (M : MixSt w w1 n fin pl.toNat s1 l1) :
    Ending.returned (.tuple #[.slice (some ⟨w.heap.size + 1 + 1, 0, none⟩) n n, .agg #[.int .u64 s1]]) = .returned (.tuple #[.slice (some ⟨w.heap.size + 1 + 1, 0, none⟩) n n, .agg #[.int .u64 fin.2]]) ∧
      ((w1.setCell ⟨w.heap.size + 1, 0, none⟩ (.int .u64 s1)).drew).rowIs (w.heap.size + 1 + 1) 3 n (row .i64 fin.1) ∧ Below w.heap.size w ((w1.setCell ⟨w.heap.size + 1, 0, none⟩ (.int .u64 s1)).drew) := by
  have e : pl.toNat = 0 := by omega
  have ht := M.todo
  rw [e, mixTo] at ht
  subst ht
  refine ⟨rfl, (M.row.setOther (by show w.heap.size + 1 + 1 ≠ w.heap.size + 1; omega) _).drew, ?_⟩
  have hb := M.below
  (have zz0 := Below.size hb; (try simp at zz0); repeat (first | with_reducible exact Below.refl _ _ | with_reducible refine Below.drew ?_ | with_reducible refine below_drewN ?_ _ | with_reducible refine Below.alloc ?_ (by first | omega | (simp; done) | (simp; omega)) _ | with_reducible refine Below.setCell ?_ (by first | omega | (simp; done) | (simp; omega)) _ | (with_reducible refine Below.trans ?_ (Below.mono hb (by first | omega | (simp; done) | (simp; omega))))))

theorem mix_start {w w' : World} {s : Int} {n : Nat} {zs : List Int} (hn : zs.length = n) (hrow : w'.rowIs (w.heap.size + 1 + 1) 3 n (row .i64 zs))
    (hb : Below (w.heap.size + 1 + 1) ((w.alloc (Obj.cells #[Value.int IntKind.u64 s] 52)).alloc (Obj.cells #[Value.int IntKind.u64 0] 52)) w') :
    MixSt w w' n (mixL s zs) (n - 1) s zs := by
  refine ⟨?_, ?_, ⟨.int .u64 0, ?_⟩, ?_, hrow, ?_, hrow.lt, hn, ?_⟩
  · rw [hb.cell (p := ⟨w.heap.size, 0, none⟩) (by show w.heap.size < _; omega)]; go_simp
  · rw [hb.frozen (p := ⟨w.heap.size, 0, none⟩) (by show w.heap.size < _; omega)]; go_simp
  · rw [hb.cell (p := ⟨w.heap.size + 1, 0, none⟩) (by show w.heap.size + 1 < _; omega)]; go_simp
  · rw [hb.frozen (p := ⟨w.heap.size + 1, 0, none⟩) (by show w.heap.size + 1 < _; omega)]; go_simp
  · exact (((Below.refl _ _).alloc (Nat.le_refl _) _).alloc (by simp) _).trans (hb.mono (by omega))
  · subst hn; rfl

set_option maxRecDepth 100000 in
set_option maxHeartbeats 800000 in
theorem mix_any (s : Int) (a : Option Addr) (n cap : Nat) (zs : List Int) (hl : n ≤ 100000) (hcap : n ≤ cap) (hn : Hid (zs.length = n)) (w : World) (hr : Rd .i64 w w.heap.size a zs) :
    Calls Try.prog 22 #[.agg #[.int .u64 s], .slice a n cap] w fun e w' => e = .returned (.tuple #[.slice (some ⟨w.heap.size + 1 + 1, 0, none⟩) n n, .agg #[.int .u64 (mixL s zs).2]]) ∧
      w'.rowIs (w.heap.size + 1 + 1) 3 n (row .i64 (mixL s zs).1) ∧ Below w.heap.size w w' := by
  have hmk := run_make_row' (P := Try.prog) 33 3 (.int .i64 0) 8 Try.underlying33 info_int rfl .i64 .i64 n (by omega) (by omega)
  obtain ⟨fin, hfin⟩ : ∃ fin, mixL s zs = fin := ⟨_, rfl⟩
  rw [hfin]
  have HF := Lib.hid hfin
  clear hfin
  go_enter Try.func22, Try.ntmps22
  go_wp2
  refine wp_scope_jumps 0 (MixJ w s a n cap fin) (fun a' _ => (intOf (a'.tmps.getD 7 undef)).toNat) rfl ?_ ?_
  · go_wp2_with (with_reducible refine wpList_copy_all rfl (.tmp 12) (.tmp 13) 33 33 rfl 3 Try.underlying33 (by kernel_rfl) (w.heap.size + 1 + 1) n cap a rfl rfl .i64 zs hn.out w.heap.size ?h2 (fun _ => .int .i64 0) 3 ?h3 ((w.alloc (Obj.cells #[Value.int IntKind.u64 s] 52)).alloc (Obj.cells #[Value.int IntKind.u64 0] 52)) (w.heap.size + 1 + 1) ?h4 (Nat.le_refl _) ?_)
    case h2 => exact hr.below (by ((repeat (first | with_reducible exact Below.refl _ _ | with_reducible refine Below.drew ?_ | with_reducible refine below_drewN ?_ _ | with_reducible refine Below.alloc ?_ (by first | omega | (simp; done) | (simp; omega)) _ | with_reducible refine Below.setCell ?_ (by first | omega | (simp; done) | (simp; omega)) _))))
    case h3 => simpa using World.rowIs_made ((w.alloc (Obj.cells #[Value.int IntKind.u64 s] 52)).alloc (Obj.cells #[Value.int IntKind.u64 0] 52)) (.int .i64 0) n 3
    case h4 => ((repeat (first | with_reducible exact Below.refl _ _ | with_reducible refine Below.drew ?_ | with_reducible refine below_drewN ?_ _ | with_reducible refine Below.alloc ?_ (by first | omega | (simp; done) | (simp; omega)) _ | with_reducible refine Below.setCell ?_ (by first | omega | (simp; done) | (simp; omega)) _)))
    intro w1 hrow hb
    have M := mix_start hn.out hrow hb
    rw [HF.out] at M
    clear hrow hb hmk
    go_wp2
    go_step3
    have hpl : (-1 : Int) ≤ (n : Int) - 1 := by omega
    have hpn : (n : Int) - 1 < n := by omega
    have e0 : ((n : Int) - 1).toNat = n - 1 := by omega
    rw [← e0] at M
    clear e0
    obtain ⟨s1, hs1⟩ : ∃ s1, s1 = s := ⟨_, rfl⟩
    obtain ⟨l1, hl1⟩ : ∃ l1, l1 = zs := ⟨_, rfl⟩
    obtain ⟨pl, hpl0⟩ : ∃ pl, pl = (n : Int) - 1 := ⟨_, rfl⟩
    rw [← hs1, ← hl1, ← hpl0] at M
    rw [← hpl0] at hpl hpn ⊢
    clear hs1 hl1 hpl0
    have hbx := M.box
    have hbf := M.boxF
    obtain ⟨ru, hres⟩ := M.res
    have hrf := M.resF
    have hz2 := M.size
    have hz1 : w.heap.size + 1 < w1.heap.size := by omega
    have hz0 : w.heap.size < w1.heap.size := by omega
    by_cases h1 : pl < 1
    · have MH := Lib.hid M
      clear M
      go_wp2
      go_region
      all_goals go_wp2
      all_goals simp only [Exit.jump]
      all_goals (refine bodyPost_ret (v := .tuple #[.slice (some ⟨w.heap.size + 1 + 1, 0, none⟩) n n, .agg #[.int .u64 s1]]) (by simp [results, Try.results22, go_sem, hres, hrf]) rfl ?_)
      all_goals exact mix_end (by omega) MH.out
    · obtain ⟨p, rfl⟩ : ∃ p : Nat, pl = (p : Int) + 1 := ⟨(pl - 1).toNat, by omega⟩
      obtain ⟨k, hk0, hkl⟩ := pick_nat s1 p
      have hk : num s1 % ((p : Int) + 1 + 1) = (k : Int) := by rw [← hk0, show ((p : Int) + 1 + 1) = (p : Int) + 2 from by omega]
      have HK := Lib.hid hk
      have HM := Lib.hid (mixTo_succ p s1 l1 k hk0)
      have MH := Lib.hid M
      clear hk hk0 M hbx hbf hres hrf
      have hbx : w1.cell? ⟨w.heap.size, 0, none⟩ = some (.int .u64 s1) := MH.out.box
      have hkn : (k : Int) < n := by omega
      have hpn1 : (p : Int) + 1 < n := by omega
      by_cases hkp : k = p + 1
      · subst hkp
        go_wp2_with (go_at_call 27; refine (below_k _ _ (p + 1) (by omega) (by omega) HK.out _).mono ?_; rintro e w2 ⟨rfl, hb⟩; obtain ⟨hbx2, hbf2, ⟨ru2, hres2⟩, hrf2, row2, hz22, c1, c2, f1, f2⟩ := mix_facts MH.out hb p (p + 1) (by omega) (by omega))
        go_region
        all_goals go_wp2
        all_goals go_step3
        all_goals go_wp2
        all_goals refine ⟨rfl, ⟨p, nx s1, swp l1 (p + 1) (p + 1), by omega, rfl, ⟨_, _, _, _, _, _, _, _, _, _, _, _, _, _, _, _, _, _, _, _, _, _, _, _, _, _, _, _, _, _, _, _, _, _, _, _, _, rfl⟩, mix_step (by omega) (by omega) row2.out HM.out⟩⟩
      · go_wp2_with (go_at_call 27; refine (below_k _ _ k (by omega) (by omega) HK.out _).mono ?_; rintro e w2 ⟨rfl, hb⟩; obtain ⟨hbx2, hbf2, ⟨ru2, hres2⟩, hrf2, row2, hz22, c1, c2, f1, f2⟩ := mix_facts MH.out hb p k (by omega) (by omega))
        go_region
        all_goals go_wp2
        all_goals go_step3
        all_goals go_wp2
        all_goals refine ⟨rfl, ⟨p, nx s1, swp l1 (p + 1) k, by omega, rfl, ⟨_, _, _, _, _, _, _, _, _, _, _, _, _, _, _, _, _, _, _, _, _, _, _, _, _, _, _, _, _, _, _, _, _, _, _, _, _, rfl⟩, mix_step (by omega) (by omega) row2.out HM.out⟩⟩
  · rintro ⟨t1, d1⟩ w1 ⟨p0, s1, l1, hp0, hd, ⟨u8, u9, u10, u11, u12, u13, u14, u15, u16, u17, u18, u19, u20, u21, u22, u23, u24, u25, u26, u27, u28, u29, u30, u31, u32, u33, u34, u35, u36, u37, u38, u39, u40, u41, u42, u43, u44, ht⟩, M⟩
    obtain rfl : d1 = [] := hd
    obtain rfl : t1 = _ := ht
    clear hmk
    have hpl : (-1 : Int) ≤ p0 := by omega
    have hpn : (p0 : Int) < n := by omega
    rw [← Int.toNat_natCast p0] at M
    clear hp0
    generalize (p0 : Int) = pl at M hpl hpn ⊢
    have hbx := M.box
    have hbf := M.boxF
    obtain ⟨ru, hres⟩ := M.res
    have hrf := M.resF
    have hz2 := M.size
    have hz1 : w.heap.size + 1 < w1.heap.size := by omega
    have hz0 : w.heap.size < w1.heap.size := by omega
    by_cases h1 : pl < 1
    · have MH := Lib.hid M
      clear M
      go_wp2
      go_region
      all_goals go_wp2
      all_goals simp only [Exit.jump]
      all_goals (refine bodyPost_ret (v := .tuple #[.slice (some ⟨w.heap.size + 1 + 1, 0, none⟩) n n, .agg #[.int .u64 s1]]) (by simp [results, Try.results22, go_sem, hres, hrf]) rfl ?_)
      all_goals exact mix_end (by omega) MH.out
    · obtain ⟨p, rfl⟩ : ∃ p : Nat, pl = (p : Int) + 1 := ⟨(pl - 1).toNat, by omega⟩
      obtain ⟨k, hk0, hkl⟩ := pick_nat s1 p
      have hk : num s1 % ((p : Int) + 1 + 1) = (k : Int) := by rw [← hk0, show ((p : Int) + 1 + 1) = (p : Int) + 2 from by omega]
      have HK := Lib.hid hk
      have HM := Lib.hid (mixTo_succ p s1 l1 k hk0)
      have MH := Lib.hid M
      clear hk hk0 M hbx hbf hres hrf
      have hbx : w1.cell? ⟨w.heap.size, 0, none⟩ = some (.int .u64 s1) := MH.out.box
      have hkn : (k : Int) < n := by omega
      have hpn1 : (p : Int) + 1 < n := by omega
      by_cases hkp : k = p + 1
      · subst hkp
        go_wp2_with (go_at_call 27; refine (below_k _ _ (p + 1) (by omega) (by omega) HK.out _).mono ?_; rintro e w2 ⟨rfl, hb⟩; obtain ⟨hbx2, hbf2, ⟨ru2, hres2⟩, hrf2, row2, hz22, c1, c2, f1, f2⟩ := mix_facts MH.out hb p (p + 1) (by omega) (by omega))
        go_region
        all_goals go_wp2
        all_goals go_step3
        all_goals go_wp2
        all_goals refine ⟨rfl, ⟨p, nx s1, swp l1 (p + 1) (p + 1), by omega, rfl, ⟨_, _, _, _, _, _, _, _, _, _, _, _, _, _, _, _, _, _, _, _, _, _, _, _, _, _, _, _, _, _, _, _, _, _, _, _, _, rfl⟩, mix_step (by omega) (by omega) row2.out HM.out⟩, by simp [intOf]; omega⟩
      · go_wp2_with (go_at_call 27; refine (below_k _ _ k (by omega) (by omega) HK.out _).mono ?_; rintro e w2 ⟨rfl, hb⟩; obtain ⟨hbx2, hbf2, ⟨ru2, hres2⟩, hrf2, row2, hz22, c1, c2, f1, f2⟩ := mix_facts MH.out hb p k (by omega) (by omega))
        go_region
        all_goals go_wp2
        all_goals go_step3
        all_goals go_wp2
        all_goals refine ⟨rfl, ⟨p, nx s1, swp l1 (p + 1) k, by omega, rfl, ⟨_, _, _, _, _, _, _, _, _, _, _, _, _, _, _, _, _, _, _, _, _, _, _, _, _, _, _, _, _, _, _, _, _, _, _, _, _, rfl⟩, mix_step (by omega) (by omega) row2.out HM.out⟩, by simp [intOf]; omega⟩
end Go.Proofs.Ytheipflmkjiimaa
