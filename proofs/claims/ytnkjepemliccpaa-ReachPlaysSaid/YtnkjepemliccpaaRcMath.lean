/- Plain mathematics: votes, rounds, the address that most votes are of. No program is read here. -/
import Derived.Test.YtnkjepemliccpaaKit
namespace Go.Proofs.Ytnkjepemliccpaa
set_option linter.unusedVariables false
set_option linter.unusedSimpArgs false

structure Vt where
  who : Int
  ip : Nat
  pt : Nat
  tm : Int
def zV : Vt := ⟨0, 0, 0, 0⟩
structure Rc where
  rounds : Nat
  hold : Int
  vote : Nat → Vt
  past : List Bool
  on : Bool
  seq : Int
  got : Bool
def newR (n : Nat) (h : Int) : Rc := ⟨n, h, fun _ => zV, [], false, 0, false⟩
def nodeI (i : Int) : Bool := decide (1 ≤ i) && decide (i ≤ 32)
def noneI (ip port : Nat) : Bool := decide (ip = 0) || decide (port = 0)
def ordI (a p b q : Nat) : Int := if a = b ∧ p = q then 0 else if a < b ∨ (a = b ∧ p < q) then -1 else 1
def updV (f : Nat → Vt) (i : Nat) (x : Vt) : Nat → Vt := fun j => if j = i then x else f j
def argN (rounds hold : Int) : Bool := decide (rounds < 1) || (decide (8 < rounds) || ((hold == 0) || decide (1000000 < hold)))
def seeE (i : Int) (ip pt : Nat) (now : Int) : Int := if nodeI i = false ∨ noneI ip pt = true ∨ 4611686018427387904 < now then 1 else 0
def seeD (k : Rc) (i : Int) (ip pt : Nat) (now : Int) : Rc := if seeE i ip pt now = 0 then { k with vote := updV k.vote i.toNat ⟨i, ip, pt, now⟩ } else k
def roundE (k : Rc) (now : Int) : Int := if 4611686018427387904 < now then 1 else if k.on = true then 4 else 0
def roundD (k : Rc) (seq now : Int) : Rc := if roundE k now = 0 then { k with on := true, seq := seq, got := false } else k
def heardB (k : Rc) (seq : Int) : Bool := k.on && (k.seq == seq)
def heardD (k : Rc) (seq : Int) : Rc := if heardB k seq = true then { k with got := true } else k
def endD (k : Rc) : Rc := if k.on = true then { k with past := (k.got :: k.past).take k.rounds, on := false } else k
def classI (k : Rc) : Int := if k.past.length < k.rounds then 0 else if k.past.any id = true then 1 else 2
def liveB (hold now : Int) (v : Vt) : Bool := decide (now < v.tm + hold)
def sameA (v : Vt) (ip pt : Nat) : Bool := decide (v.ip = ip ∧ v.pt = pt)
def isV (v : Vt) : Bool := nodeI v.who
def allV (f : Nat → Vt) : List Vt := ((List.range 33).map f).filter isV
def cntB (hold now : Int) (ip pt : Nat) (v : Vt) : Bool := liveB hold now v && sameA v ip pt
def cntL (hold now : Int) (L : List Vt) (ip pt : Nat) : Nat := L.countP (cntB hold now ip pt)
structure Bs where
  ip : Nat
  pt : Nat
  n : Nat
def betB (b : Bs) (ip pt n : Nat) : Bool := decide (b.n < n) || (decide (n = b.n) && decide (ordI ip pt b.ip b.pt < 0))
def stepA (hold now : Int) (L : List Vt) (b : Bs) (v : Vt) : Bs :=
  if liveB hold now v = true then (if betB b v.ip v.pt (cntL hold now L v.ip v.pt) = true then ⟨v.ip, v.pt, cntL hold now L v.ip v.pt⟩ else b) else b
def zB : Bs := ⟨0, 0, 0⟩
def bestL (hold now : Int) (L : List Vt) : Bs := L.foldl (stepA hold now L) zB
def addrR (k : Rc) (now : Int) : Bs := bestL k.hold now (allV k.vote)

/-- what a vote of node i is -/
structure OkV (i : Nat) (v : Vt) : Prop where
  lo : 1 ≤ i
  hi : i ≤ 32
  who : v.who = i
  t0 : 0 ≤ v.tm
  t1 : v.tm ≤ 4611686018427387904
  some : noneI v.ip v.pt = false
  ip : v.ip < 4294967296
  pt : v.pt < 65536
structure OkR (k : Rc) : Prop where
  r0 : 1 ≤ k.rounds
  r1 : k.rounds ≤ 8
  h0 : 1 ≤ k.hold
  h1 : k.hold ≤ 1000000
  len : k.past.length ≤ k.rounds
  vote : ∀ i, k.vote i = zV ∨ OkV i (k.vote i)

theorem updV_same (f : Nat → Vt) (i : Nat) (x : Vt) : updV f i x i = x := by unfold updV; rw [if_pos rfl]
theorem updV_ne {f : Nat → Vt} {i j : Nat} {x : Vt} (h : j ≠ i) : updV f i x j = f j := by unfold updV; rw [if_neg h]
theorem nodeI_iff {i : Int} : nodeI i = true ↔ 1 ≤ i ∧ i ≤ 32 := by unfold nodeI; simp only [Bool.and_eq_true, decide_eq_true_eq]
theorem nodeI_no {i : Int} (h : i < 1 ∨ 32 < i) : nodeI i = false := by
  cases e : nodeI i with
  | false => rfl
  | true => rw [nodeI_iff] at e; omega
theorem isV_z : isV zV = false := by decide
theorem OkV.is {i : Nat} {v : Vt} (h : OkV i v) : isV v = true := by
  have h1 := h.lo; have h2 := h.hi
  unfold isV; rw [h.who, nodeI_iff]; omega
theorem argN_no {r h : Int} (ha : argN r h = false) : 1 ≤ r ∧ r ≤ 8 ∧ h ≠ 0 ∧ h ≤ 1000000 := by
  unfold argN at ha
  simp only [Bool.or_eq_false_iff, decide_eq_false_iff_not, beq_eq_false_iff_ne] at ha
  obtain ⟨h1, h2, h3, h4⟩ := ha
  exact ⟨by omega, by omega, h3, by omega⟩
theorem new_ok {r h : Int} (ha : argN r h = false) (hh : 0 ≤ h) : OkR (newR r.toNat h) := by
  have := argN_no ha
  exact ⟨by show 1 ≤ r.toNat; omega, by show r.toNat ≤ 8; omega, by show 1 ≤ h; omega, this.2.2.2, Nat.zero_le _, fun _ => .inl rfl⟩
theorem reset_ok {k : Rc} (h : OkR k) : OkR (newR k.rounds k.hold) := ⟨h.r0, h.r1, h.h0, h.h1, Nat.zero_le _, fun _ => .inl rfl⟩
theorem see_arg {i : Int} {ip pt : Nat} {now : Int} (h : seeE i ip pt now = 0) : 1 ≤ i ∧ i ≤ 32 ∧ noneI ip pt = false ∧ now ≤ 4611686018427387904 := by
  unfold seeE at h
  split at h
  · simp at h
  · rename_i e
    simp only [not_or, Bool.not_eq_false, Bool.not_eq_true] at e
    have := nodeI_iff.1 e.1
    exact ⟨this.1, this.2, e.2.1, by omega⟩
theorem see_ok {k : Rc} (h : OkR k) (i : Int) (ip pt : Nat) (now : Int) (hn : 0 ≤ now) (hi : ip < 4294967296) (hp : pt < 65536) : OkR (seeD k i ip pt now) := by
  unfold seeD
  split
  · rename_i e
    have ha := see_arg e
    refine ⟨h.r0, h.r1, h.h0, h.h1, h.len, fun j => ?_⟩
    by_cases ej : j = i.toNat
    · subst ej
      right
      show OkV _ (updV _ _ _ _)
      rw [updV_same]
      exact ⟨by omega, by omega, by simp; omega, hn, ha.2.2.2, ha.2.2.1, hi, hp⟩
    · show updV _ _ _ _ = _ ∨ OkV _ (updV _ _ _ _)
      rw [updV_ne ej]; exact h.vote j
  · exact h
theorem round_ok {k : Rc} (h : OkR k) (seq now : Int) : OkR (roundD k seq now) := by
  unfold roundD; split
  · exact ⟨h.r0, h.r1, h.h0, h.h1, h.len, h.vote⟩
  · exact h
theorem heard_ok {k : Rc} (h : OkR k) (seq : Int) : OkR (heardD k seq) := by
  unfold heardD; split
  · exact ⟨h.r0, h.r1, h.h0, h.h1, h.len, h.vote⟩
  · exact h
theorem end_ok {k : Rc} (h : OkR k) : OkR (endD k) := by
  unfold endD; split
  · exact ⟨h.r0, h.r1, h.h0, h.h1, by show (List.take _ _).length ≤ _; rw [List.length_take]; exact Nat.min_le_left _ _, h.vote⟩
  · exact h
theorem OkR.no {k : Rc} (h : OkR k) (i : Nat) (hv : isV (k.vote i) = false) : k.vote i = zV := by
  rcases h.vote i with h1 | h1
  · exact h1
  · rw [h1.is] at hv; simp at hv
theorem OkR.yes {k : Rc} (h : OkR k) (i : Nat) (hv : isV (k.vote i) = true) : OkV i (k.vote i) := by
  rcases h.vote i with h1 | h1
  · rw [h1, isV_z] at hv; simp at hv
  · exact h1
theorem OkR.num {k : Rc} (h : OkR k) (i : Nat) : 0 ≤ (k.vote i).tm ∧ (k.vote i).tm ≤ 4611686018427387904 ∧ (k.vote i).ip < 4294967296 ∧ (k.vote i).pt < 65536 := by
  rcases h.vote i with h1 | h1
  · rw [h1]; exact ⟨by decide, by decide, by decide, by decide⟩
  · exact ⟨h1.t0, h1.t1, h1.ip, h1.pt⟩

/-! all of them, in a list -/
theorem range_cut {i n : Nat} (h : i < n) : List.range n = List.range i ++ i :: List.range' (i + 1) (n - (i + 1)) := by
  rw [List.range_eq_range', List.range_eq_range']
  have h1 := List.range'_append (s := 0) (m := i) (n := n - i) (step := 1)
  simp only [Nat.zero_add, Nat.one_mul] at h1
  rw [show i + (n - i) = n by omega] at h1
  rw [← h1, show n - i = (n - (i + 1)) + 1 by omega, List.range'_succ]
def loV (f : Nat → Vt) (i : Nat) : List Vt := ((List.range i).map f).filter isV
def hiV (f : Nat → Vt) (i : Nat) : List Vt := ((List.range' (i + 1) (33 - (i + 1))).map f).filter isV
theorem cut_at (f : Nat → Vt) {i : Nat} (h : i < 33) : allV f = loV f i ++ (if isV (f i) = true then [f i] else []) ++ hiV f i := by
  unfold allV
  rw [range_cut h, List.map_append, List.map_cons, List.filter_append, List.filter_cons]
  unfold loV hiV
  split <;> simp
theorem map_upd {f : Nat → Vt} {i : Nat} {x : Vt} : ∀ {l : List Nat}, i ∉ l → l.map (updV f i x) = l.map f
  | [], _ => rfl
  | a :: l, h => by
    rw [List.map_cons, List.map_cons, map_upd (fun e => h (by simp [e])), updV_ne (fun e => h (by simp [e]))]
theorem lo_upd (f : Nat → Vt) (i : Nat) (x : Vt) : loV (updV f i x) i = loV f i := by
  unfold loV; rw [map_upd (by simp)]
theorem hi_upd (f : Nat → Vt) (i : Nat) (x : Vt) : hiV (updV f i x) i = hiV f i := by
  unfold hiV; rw [map_upd (by rw [List.mem_range'_1]; omega)]
theorem lo_yes {f : Nat → Vt} {i : Nat} (h : isV (f i) = true) : loV f (i + 1) = loV f i ++ [f i] := by
  unfold loV; rw [List.range_succ, List.map_append, List.filter_append]; simp [h]
theorem lo_no {f : Nat → Vt} {i : Nat} (h : isV (f i) = false) : loV f (i + 1) = loV f i := by
  unfold loV; rw [List.range_succ, List.map_append, List.filter_append]; simp [h]
theorem lo_len (f : Nat → Vt) (i : Nat) : (loV f i).length ≤ i := by
  unfold loV
  have := List.length_filter_le isV ((List.range i).map f)
  rw [List.length_map, List.length_range] at this
  exact this
theorem lo_all (f : Nat → Vt) : loV f 33 = allV f := rfl
theorem lo_z (f : Nat → Vt) : loV f 0 = [] := rfl
theorem all_len (f : Nat → Vt) : (allV f).length ≤ 33 := lo_len f 33
theorem mem_lo {f : Nat → Vt} {i : Nat} {x : Vt} (h : x ∈ loV f i) : ∃ j, j < i ∧ x = f j ∧ isV (f j) = true := by
  unfold loV at h
  rw [List.mem_filter] at h
  obtain ⟨j, hj, rfl⟩ := List.mem_map.1 h.1
  exact ⟨j, by simpa using hj, rfl, h.2⟩
theorem mem_hi {f : Nat → Vt} {i : Nat} {x : Vt} (h : x ∈ hiV f i) : ∃ j, i < j ∧ j < 33 ∧ x = f j ∧ isV (f j) = true := by
  unfold hiV at h
  rw [List.mem_filter] at h
  obtain ⟨j, hj, rfl⟩ := List.mem_map.1 h.1
  rw [List.mem_range'_1] at hj
  exact ⟨j, by omega, by omega, rfl, h.2⟩
theorem mem_all {f : Nat → Vt} {x : Vt} : x ∈ allV f ↔ ∃ j, j < 33 ∧ x = f j ∧ isV (f j) = true := by
  constructor
  · exact mem_lo
  · rintro ⟨j, hj, rfl, hv⟩
    unfold allV
    rw [List.mem_filter]
    exact ⟨List.mem_map.2 ⟨j, by simpa using hj, rfl⟩, hv⟩

/-! the address that most votes are of -/
theorem cnt_le (hold now : Int) (L : List Vt) (ip pt : Nat) : cntL hold now L ip pt ≤ L.length := List.countP_le_length
theorem cnt_pos {hold now : Int} {L : List Vt} {v : Vt} (hm : v ∈ L) (hl : liveB hold now v = true) : 0 < cntL hold now L v.ip v.pt := by
  unfold cntL
  rw [List.countP_pos_iff]
  exact ⟨v, hm, by unfold cntB sameA; rw [hl]; simp⟩
theorem ord_tri (a p b q : Nat) : ordI a p b q = -ordI b q a p := by
  unfold ordI
  split <;> split <;> (try split) <;> (try split) <;> omega
/-- what the best one of those seen is -/
def BestI (hold now : Int) (L M : List Vt) (b : Bs) : Prop :=
  (b = zB ∧ ∀ v ∈ M, liveB hold now v = false) ∨
  ((∃ v ∈ M, liveB hold now v = true ∧ b = ⟨v.ip, v.pt, cntL hold now L v.ip v.pt⟩) ∧ ∀ v ∈ M, liveB hold now v = true → cntL hold now L v.ip v.pt < b.n ∨ (cntL hold now L v.ip v.pt = b.n ∧ ordI v.ip v.pt b.ip b.pt ≥ 0))
theorem ord_self (a p : Nat) : ordI a p a p = 0 := by unfold ordI; rw [if_pos ⟨rfl, rfl⟩]
theorem ord_trans {a p b q c r : Nat} (h1 : ordI a p b q ≥ 0) (h2 : ordI b q c r ≥ 0) : ordI a p c r ≥ 0 := by
  unfold ordI at *
  split at h1 <;> split at h2 <;> (try split at h1) <;> (try split at h2) <;> (try omega) <;> split <;> (try omega) <;> split <;> omega
theorem best_step {hold now : Int} {L M : List Vt} {b : Bs} (hL : ∀ v ∈ M, v ∈ L) {v : Vt} (hv : v ∈ L) (h : BestI hold now L M b) : BestI hold now L (M ++ [v]) (stepA hold now L b v) := by
  unfold stepA
  by_cases hl : liveB hold now v = true
  · rw [if_pos hl]
    have hp := cnt_pos hv hl
    right
    rcases h with ⟨rfl, h1⟩ | ⟨⟨x, hx, hxl, rfl⟩, h1⟩
    · rw [if_pos (by unfold betB zB; simp [hp])]
      refine ⟨⟨v, by simp, hl, rfl⟩, fun y hy hyl => ?_⟩
      rcases List.mem_append.1 hy with hy | hy
      · rw [h1 y hy] at hyl; simp at hyl
      · obtain rfl := List.mem_singleton.1 hy
        exact .inr ⟨rfl, by simp only [ord_self]; decide⟩
    · simp only at h1 ⊢
      generalize hb : betB ⟨x.ip, x.pt, cntL hold now L x.ip x.pt⟩ v.ip v.pt (cntL hold now L v.ip v.pt) = bb
      unfold betB at hb
      simp only at hb
      cases bb with
      | true =>
        rw [if_pos rfl]
        refine ⟨⟨v, by simp, hl, rfl⟩, fun y hy hyl => ?_⟩
        simp only
        simp only [Bool.or_eq_true, Bool.and_eq_true, decide_eq_true_eq] at hb
        rcases List.mem_append.1 hy with hy | hy
        · rcases h1 y hy hyl with h2 | ⟨h2, h3⟩
          · left; omega
          · rcases hb with hb | ⟨hb, hb2⟩
            · left; omega
            · right
              refine ⟨by omega, ?_⟩
              have h4 := ord_tri v.ip v.pt x.ip x.pt
              exact ord_trans h3 (by omega)
        · obtain rfl := List.mem_singleton.1 hy
          exact .inr ⟨rfl, by simp only [ord_self]; decide⟩
      | false =>
        rw [if_neg (by simp)]
        refine ⟨⟨x, by simp [hx], hxl, rfl⟩, fun y hy hyl => ?_⟩
        simp only
        rcases List.mem_append.1 hy with hy | hy
        · exact h1 y hy hyl
        · obtain rfl := List.mem_singleton.1 hy
          simp only [Bool.or_eq_false_iff, Bool.and_eq_false_iff, decide_eq_false_iff_not] at hb
          rcases Nat.lt_trichotomy (cntL hold now L y.ip y.pt) (cntL hold now L x.ip x.pt) with h2 | h2 | h2
          · exact .inl h2
          · exact .inr ⟨h2, by rcases hb.2 with h3 | h3 <;> omega⟩
          · exact absurd h2 hb.1
  · rw [if_neg hl]
    rcases h with ⟨rfl, h1⟩ | ⟨⟨x, hx, hxl, rfl⟩, h1⟩
    · left
      refine ⟨rfl, fun y hy => ?_⟩
      rcases List.mem_append.1 hy with hy | hy
      · exact h1 y hy
      · obtain rfl := List.mem_singleton.1 hy
        simpa using hl
    · right
      refine ⟨⟨x, by simp [hx], hxl, rfl⟩, fun y hy hyl => ?_⟩
      rcases List.mem_append.1 hy with hy | hy
      · exact h1 y hy hyl
      · obtain rfl := List.mem_singleton.1 hy
        exact absurd hyl hl
theorem best_fold (hold now : Int) (L : List Vt) : ∀ (R M : List Vt) (b : Bs), (∀ v ∈ M, v ∈ L) → (∀ v ∈ R, v ∈ L) → BestI hold now L M b → BestI hold now L (M ++ R) (R.foldl (stepA hold now L) b)
  | [], M, b, _, _, h => by simpa using h
  | v :: R, M, b, h1, h2, h => by
    rw [List.foldl_cons]
    have h3 := best_step h1 (h2 v (by simp)) h
    have h4 := best_fold hold now L R (M ++ [v]) _ (fun x hx => by
      rcases List.mem_append.1 hx with hx | hx
      · exact h1 x hx
      · obtain rfl := List.mem_singleton.1 hx
        exact h2 x (by simp)) (fun x hx => h2 x (by simp [hx])) h3
    simpa using h4
theorem best_is (hold now : Int) (L : List Vt) : BestI hold now L L (bestL hold now L) := by
  have := best_fold hold now L L [] zB (by simp) (fun _ h => h) (.inl ⟨rfl, by simp⟩)
  rw [List.nil_append] at this
  exact this
/-- the best one's numbers -/
theorem best_num {hold now : Int} {L : List Vt} (hL : ∀ v ∈ L, v.ip < 4294967296 ∧ v.pt < 65536) : (bestL hold now L).ip < 4294967296 ∧ (bestL hold now L).pt < 65536 ∧ (bestL hold now L).n ≤ L.length := by
  rcases best_is hold now L with ⟨h, _⟩ | ⟨⟨v, hv, _, h⟩, _⟩
  · rw [h]; exact ⟨by decide, by decide, Nat.zero_le _⟩
  · rw [h]; exact ⟨(hL v hv).1, (hL v hv).2, cnt_le _ _ _ _ _⟩
end Go.Proofs.Ytnkjepemliccpaa
