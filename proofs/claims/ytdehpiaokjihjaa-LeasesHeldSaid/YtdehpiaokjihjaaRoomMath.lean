/- Plain mathematics: how many clients there are; a round of LeaseRoom. -/
import Derived.Test.YtdehpiaokjihjaaLsEx
namespace Go.Proofs.Ytdehpiaokjihjaa
set_option linter.unusedVariables false
set_option linter.unusedSimpArgs false

theorem range_cut {i n : Nat} (h : i < n) : List.range n = List.range i ++ i :: List.range' (i + 1) (n - (i + 1)) := by
  rw [List.range_eq_range', List.range_eq_range']
  have h1 := List.range'_append (s := 0) (m := i) (n := n - i) (step := 1)
  simp only [Nat.zero_add, Nat.one_mul] at h1
  rw [show i + (n - i) = n by omega] at h1
  rw [← h1, show n - i = (n - (i + 1)) + 1 by omega, List.range'_succ]
def hiV (f : Nat → Vt) (i : Nat) : List Vt := ((List.range' (i + 1) (33 - (i + 1))).map f).filter isV
theorem cut_at (f : Nat → Vt) {i : Nat} (h : i < 33) : allV f = loV f i ++ (if isV (f i) = true then [f i] else []) ++ hiV f i := by
  unfold allV loV
  rw [range_cut h, List.map_append, List.map_cons, List.filter_append, List.filter_cons]
  unfold hiV
  split <;> simp
theorem map_upd {f : Nat → Vt} {i : Nat} {x : Vt} : ∀ {l : List Nat}, i ∉ l → l.map (upd f i x) = l.map f
  | [], _ => rfl
  | a :: l, h => by
    rw [List.map_cons, List.map_cons, map_upd (fun e => h (by simp [e])), upd_ne (fun e => h (by simp [e]))]
theorem lo_upd (f : Nat → Vt) (i : Nat) (x : Vt) : loV (upd f i x) i = loV f i := by
  unfold loV; rw [map_upd (by simp)]
theorem hi_upd (f : Nat → Vt) (i : Nat) (x : Vt) : hiV (upd f i x) i = hiV f i := by
  unfold hiV; rw [map_upd (by rw [List.mem_range'_1]; omega)]
/-- one more, where that one is none -/
theorem cnt_upd (f : Nat → Vt) {i : Nat} (h : i < 33) (x : Vt) : (allV (upd f i x)).length ≤ (allV f).length + (if isV (f i) = true then 0 else 1) := by
  rw [cut_at f h, cut_at (upd f i x) h, lo_upd, hi_upd, upd_same]
  simp only [List.length_append]
  split <;> split <;> simp <;> omega
theorem cnt_mono {f h : Nat → Vt} (hm : ∀ i, isV (h i) = true → isV (f i) = true) (n : Nat) : (loV h n).length ≤ (loV f n).length := by
  induction n with
  | zero => exact Nat.le_refl _
  | succ n ih =>
    cases c : isV (h n) with
    | true => rw [lo_yes c, lo_yes (hm n c)]; simp; exact ih
    | false =>
      rw [lo_no c]
      cases d : isV (f n) with
      | true => rw [lo_yes d]; simp; omega
      | false => rw [lo_no d]; exact ih
theorem sweep_left {k : Tb} (h : OkT k) (now : Int) (i : Nat) : isV ((sweepD k now).cl i) = true → isV (k.cl i) = true := by
  rw [sweep_cl h]; split
  · rw [isV_z]; intro e; exact absurd e (by simp)
  · exact id
theorem sweep_cnt {k : Tb} (h : OkT k) (now : Int) : (allV (sweepD k now).cl).length ≤ (allV k.cl).length := cnt_mono (sweep_left h now) 33
/-- behind a sweep nobody's time is over -/
theorem sweep_live {k : Tb} (h : OkT k) (now : Int) (i : Nat) (hv : isV ((sweepD k now).cl i) = true) : now < ((sweepD k now).cl i).tm := by
  rw [sweep_cl h] at hv ⊢
  split at hv
  · rw [isV_z] at hv; exact absurd hv (by simp)
  · rename_i e
    rw [if_neg e]
    by_cases c : (k.cl i).tm ≤ now
    · exact absurd ⟨c, hv⟩ e
    · omega
theorem drops_none (now : Int) : ∀ (L : List Vt) (k : Tb), (∀ v ∈ L, now < v.tm) → L.foldl (dropS now) k = k
  | [], _, _ => rfl
  | v :: L, k, h => by
    rw [List.foldl_cons]
    have e : dropS now k v = k := by unfold dropS; rw [if_neg (by have := h v (by simp); omega)]
    rw [e]; exact drops_none now L k (fun u hu => h u (by simp [hu]))
theorem sweep_again {k : Tb} (h : OkT k) (now : Int) : sweepD (sweepD k now) now = sweepD k now := by
  have hd := drops_none now (allV (sweepD k now).cl) (sweepD k now) (fun v hv => by
    obtain ⟨j, _, rfl, hj⟩ := mem_all.1 hv
    exact sweep_live h now j hj)
  exact hd
/-- was it one, and in its time? so it is one behind the sweep -/
theorem of_sweep {k : Tb} (h : OkT k) (now : Int) (m : Nat) : isC (sweepD k now) m = ofB k m now := by
  rw [isC_at (sweep_ok h now)]
  unfold ofB
  rw [isC_at h, Int.toNat_natCast, sweep_cl h]
  cases hv : isV (k.cl m) with
  | false => rw [if_neg (by simp)]; exact hv
  | true =>
    by_cases c : (k.cl m).tm ≤ now
    · rw [if_pos ⟨c, rfl⟩, isV_z, decide_eq_false (by omega)]; rfl
    · rw [if_neg (by simp [c]), hv, decide_eq_true (by omega)]; rfl
/-- what a round of LeaseRoom tells -/
structure RR (k : Tb) (n h now : Int) (m : Nat) (was : Bool) (many : Nat) (e u : Int) (k2 : Tb) (b2 : Bool) (v2 : Vt) : Prop where
  hwas : ofB k m now = was
  hmany : (allV (sweepD k now).cl).length = many
  he : grantE (sweepD k now) m m 9 now = e
  hu : grantU (sweepD k now) m m 9 now = u
  hk2 : grantD (sweepD k now) m m 9 now = k2
  hb2 : ofB k2 m now = b2
  hv2 : ofA k2 m now = v2
  hroom : k2.room = n
  hhold : k2.hold = h
  hcnt : ((allV k2.cl).length : Int) ≤ n
theorem room_round {k : Tb} (hk : OkT k) {n h now : Int} (hn : k.room = n) (hh : k.hold = h) (hc : ((allV k.cl).length : Int) ≤ n) (h0 : 0 ≤ now) (h1 : now ≤ 60) {m : Nat} (hm : 1 ≤ m) (hm2 : m ≤ 32) :
    (∃ was many k2 v2, RR k n h now m was many 0 (now + h) k2 true v2 ∧ (was = true ∨ was = false ∧ (many : Int) < n) ∧ v2.ip = m ∧ ofB k2 m (now + h) = false) ∨
    (∃ many k2, RR k n h now m false many 4 0 k2 false zV ∧ n ≤ (many : Int)) := by
  have hs := sweep_ok hk now
  have hrm := sweep_room k now
  have hcs := sweep_cnt hk now
  have hnode : nodeI (m : Int) = true := nodeI_iff.2 (by omega)
  have hnone : noneI m 9 = false := by unfold noneI; rw [decide_eq_false (by omega)]; rfl
  have hag := sweep_again hk now
  have GN := grantE_no (k := sweepD k now) (ip := m) (pt := 9) (now := now) hnode hnone (by omega)
  have GY := grantE_yes (k := sweepD k now) (ip := m) (pt := 9) (now := now) hnode hnone (by omega)
  rw [hag, hrm.1, hn, of_sweep hk] at GN
  rw [hag, hrm.1, hn, hrm.2, hh, of_sweep hk] at GY
  have hk2 : ∀ k2 : Tb, k2 = { sweepD k now with cl := upd (sweepD k now).cl (m : Int).toNat ⟨m, m, 9, now + h⟩ } → ofB k2 m now = true ∧ (ofA k2 m now).ip = m ∧ ofB k2 m (now + h) = false ∧ k2.room = n ∧ k2.hold = h := by
    intro k2 e
    have hcl : k2.cl (m : Int).toNat = ⟨m, m, 9, now + h⟩ := by rw [e]; exact upd_same _ _ _
    have hr : k2.room = n := by rw [e]; show (sweepD k now).room = n; rw [hrm.1, hn]
    have hd : k2.hold = h := by rw [e]; show (sweepD k now).hold = h; rw [hrm.2, hh]
    clear e
    have hic : isC k2 (m : Int) = true := by unfold isC; rw [hcl, hnode]; simp
    have hh0 : 1 ≤ h := by rw [← hh]; exact hk.h0
    have hb : ofB k2 (m : Int) now = true := by
      unfold ofB; rw [hic, hcl, Bool.true_and]; exact decide_eq_true (by show now < now + h; omega)
    refine ⟨hb, ?_, ?_, hr, hd⟩
    · unfold ofA; rw [if_pos hb, hcl]
    · unfold ofB; rw [hic, hcl, Bool.true_and]; exact decide_eq_false (by show ¬ now + h < now + h; omega)
  by_cases hq : ofB k m now = false ∧ n ≤ ((allV (sweepD k now).cl).length : Nat)
  · right
    obtain ⟨g1, g2, g3⟩ := GN hq
    have hb : ofB (sweepD k now) m now = false := by
      unfold ofB; rw [of_sweep hk, hq.1]; rfl
    exact ⟨_, _, ⟨hq.1, rfl, g1, g2, g3, hb, by unfold ofA; rw [hb]; rfl, by rw [hrm.1, hn], by rw [hrm.2, hh], by omega⟩, hq.2⟩
  · left
    obtain ⟨g1, g2, g3⟩ := GY hq
    obtain ⟨a1, a2, a3, a4, a5⟩ := hk2 _ g3
    refine ⟨_, _, _, _, ⟨rfl, rfl, g1, g2, rfl, a1, rfl, a4, a5, ?_⟩, ?_, a2, a3⟩
    · rw [g3]
      have hcu := cnt_upd (sweepD k now).cl (i := (m : Int).toNat) (by omega) ⟨m, m, 9, now + h⟩
      have hv : isV ((sweepD k now).cl (m : Int).toNat) = ofB k m now := by
        rw [Int.toNat_natCast, ← isC_at hs, of_sweep hk]
      rw [hv] at hcu
      show ((allV (upd (sweepD k now).cl (m : Int).toNat ⟨m, m, 9, now + h⟩)).length : Int) ≤ n
      cases c : ofB k m now with
      | true => rw [c, if_pos rfl] at hcu; omega
      | false =>
        rw [c, if_neg (by simp)] at hcu
        have : ¬ n ≤ ((allV (sweepD k now).cl).length : Nat) := fun e => hq ⟨c, e⟩
        omega
    · cases c : ofB k m now with
      | true => exact .inl rfl
      | false =>
        right
        have : ¬ n ≤ ((allV (sweepD k now).cl).length : Nat) := fun e => hq ⟨c, e⟩
        exact ⟨rfl, by omega⟩
end Go.Proofs.Ytdehpiaokjihjaa
