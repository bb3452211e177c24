/- Plain mathematics: a table of clients, leases of relays; what each call answers, and what is behind it. No program is read here. -/
import Derived.Test.YtdehpiaokjihjaaKit
namespace Go.Proofs.Ytdehpiaokjihjaa
set_option linter.unusedVariables false
set_option linter.unusedSimpArgs false

def nodeI (i : Int) : Bool := decide (1 ≤ i) && decide (i ≤ 32)
def noneI (ip port : Nat) : Bool := decide (ip = 0) || decide (port = 0)
def mayI (n span : Int) : Bool := decide (1 ≤ n) && (decide (n ≤ 8) && (decide (1 ≤ span) && decide (span ≤ 1000000)))
theorem nodeI_iff {i : Int} : nodeI i = true ↔ 1 ≤ i ∧ i ≤ 32 := by unfold nodeI; simp only [Bool.and_eq_true, decide_eq_true_eq]
theorem nodeI_no {i : Int} (h : i < 1 ∨ 32 < i) : nodeI i = false := by
  cases e : nodeI i with
  | false => rfl
  | true => rw [nodeI_iff] at e; omega
theorem mayI_iff {n s : Int} : mayI n s = true ↔ 1 ≤ n ∧ n ≤ 8 ∧ 1 ≤ s ∧ s ≤ 1000000 := by unfold mayI; simp only [Bool.and_eq_true, decide_eq_true_eq]
def upd {α : Type} (f : Nat → α) (i : Nat) (x : α) : Nat → α := fun j => if j = i then x else f j
theorem upd_same {α : Type} (f : Nat → α) (i : Nat) (x : α) : upd f i x i = x := by unfold upd; rw [if_pos rfl]
theorem upd_ne {α : Type} {f : Nat → α} {i j : Nat} {x : α} (h : j ≠ i) : upd f i x j = f j := by unfold upd; rw [if_neg h]

/-- a client -/
structure Vt where
  who : Int
  ip : Nat
  pt : Nat
  tm : Int
def zV : Vt := ⟨0, 0, 0, 0⟩
def isV (v : Vt) : Bool := nodeI v.who
structure Tb where
  room : Int
  hold : Int
  cl : Nat → Vt
structure OkV (i : Nat) (v : Vt) : Prop where
  lo : 1 ≤ i
  hi : i ≤ 32
  who : v.who = i
  t0 : 0 ≤ v.tm
  t1 : v.tm ≤ 4611686018428387904
  ip : v.ip < 4294967296
  pt : v.pt < 65536
structure OkT (k : Tb) : Prop where
  r0 : 1 ≤ k.room
  r1 : k.room ≤ 8
  h0 : 1 ≤ k.hold
  h1 : k.hold ≤ 1000000
  cl : ∀ i, k.cl i = zV ∨ OkV i (k.cl i)
def newT (room hold : Int) : Tb := ⟨room, hold, fun _ => zV⟩
theorem isV_z : isV zV = false := by decide
theorem OkV.is {i : Nat} {v : Vt} (h : OkV i v) : isV v = true := by
  have h1 := h.lo; have h2 := h.hi
  unfold isV; rw [h.who, nodeI_iff]; omega
theorem new_ok {r h : Int} (ha : mayI r h = true) : OkT (newT r h) := by
  have := mayI_iff.1 ha
  exact ⟨this.1, this.2.1, this.2.2.1, this.2.2.2, fun _ => .inl rfl⟩
theorem OkT.no {k : Tb} (h : OkT k) (i : Nat) (hv : isV (k.cl i) = false) : k.cl i = zV := by
  rcases h.cl i with h1 | h1
  · exact h1
  · rw [h1.is] at hv; simp at hv
theorem OkT.yes {k : Tb} (h : OkT k) (i : Nat) (hv : isV (k.cl i) = true) : OkV i (k.cl i) := by
  rcases h.cl i with h1 | h1
  · rw [h1, isV_z] at hv; simp at hv
  · exact h1
theorem OkT.num {k : Tb} (h : OkT k) (i : Nat) : 0 ≤ (k.cl i).tm ∧ (k.cl i).tm ≤ 4611686018428387904 ∧ (k.cl i).ip < 4294967296 ∧ (k.cl i).pt < 65536 := by
  rcases h.cl i with h1 | h1
  · rw [h1]; exact ⟨by decide, by decide, by decide, by decide⟩
  · exact ⟨h1.t0, h1.t1, h1.ip, h1.pt⟩
/-- is that one a client? -/
def isC (k : Tb) (id : Int) : Bool := nodeI id && decide ((k.cl id.toNat).who = id)
theorem isC_at {k : Tb} (h : OkT k) (i : Nat) : isC k (i : Int) = isV (k.cl i) := by
  unfold isC
  rw [Int.toNat_natCast]
  rcases h.cl i with h1 | h1
  · rw [h1, isV_z]
    by_cases h0 : (i : Int) = 0
    · rw [nodeI_no (by omega)]; rfl
    · rw [decide_eq_false (by intro e; exact h0 e.symm), Bool.and_false]
  · rw [h1.is, h1.who, decide_eq_true rfl, Bool.and_true]; exact nodeI_iff.2 (by have := h1.lo; have := h1.hi; omega)

/-! all of them, in a list -/
def loV (f : Nat → Vt) (i : Nat) : List Vt := ((List.range i).map f).filter isV
def allV (f : Nat → Vt) : List Vt := loV f 33
theorem lo_yes {f : Nat → Vt} {i : Nat} (h : isV (f i) = true) : loV f (i + 1) = loV f i ++ [f i] := by
  unfold loV; rw [List.range_succ, List.map_append, List.filter_append]; simp [h]
theorem lo_no {f : Nat → Vt} {i : Nat} (h : isV (f i) = false) : loV f (i + 1) = loV f i := by
  unfold loV; rw [List.range_succ, List.map_append, List.filter_append]; simp [h]
theorem lo_len (f : Nat → Vt) (i : Nat) : (loV f i).length ≤ i := by
  unfold loV
  have := List.length_filter_le isV ((List.range i).map f)
  rw [List.length_map, List.length_range] at this
  exact this
theorem all_len (f : Nat → Vt) : (allV f).length ≤ 33 := lo_len f 33
theorem mem_lo {f : Nat → Vt} {i : Nat} {x : Vt} (h : x ∈ loV f i) : ∃ j, j < i ∧ x = f j ∧ isV (f j) = true := by
  unfold loV at h
  rw [List.mem_filter] at h
  obtain ⟨j, hj, rfl⟩ := List.mem_map.1 h.1
  exact ⟨j, by simpa using hj, rfl, h.2⟩
theorem mem_all {f : Nat → Vt} {x : Vt} : x ∈ allV f ↔ ∃ j, j < 33 ∧ x = f j ∧ isV (f j) = true := by
  constructor
  · exact mem_lo
  · rintro ⟨j, hj, rfl, hv⟩
    unfold allV loV
    rw [List.mem_filter]
    exact ⟨List.mem_map.2 ⟨j, by simpa using hj, rfl⟩, hv⟩

/-! what the calls answer -/
def relD (k : Tb) (id : Int) : Tb := if isC k id = true then { k with cl := upd k.cl id.toNat zV } else k
def ofB (k : Tb) (id now : Int) : Bool := isC k id && decide (now < (k.cl id.toNat).tm)
def ofA (k : Tb) (id now : Int) : Vt := if ofB k id now = true then k.cl id.toNat else zV
def dropS (now : Int) (k : Tb) (v : Vt) : Tb := if v.tm ≤ now then relD k v.who else k
def endS (now : Int) (v : Vt) : Bool := decide (v.tm ≤ now)
/-- who goes, then what is left -/
def sweepL (k : Tb) (now : Int) : List Int := ((allV k.cl).filter (endS now)).map (·.who)
def sweepD (k : Tb) (now : Int) : Tb := (allV k.cl).foldl (dropS now) k
def grantE (k : Tb) (id : Int) (ip pt : Nat) (now : Int) : Int :=
  if nodeI id = false ∨ noneI ip pt = true ∨ 4611686018427387904 < now then 1
  else if isC (sweepD k now) id = false ∧ k.room ≤ ((allV (sweepD k now).cl).length : Nat) then 4 else 0
def grantU (k : Tb) (id : Int) (ip pt : Nat) (now : Int) : Int := if grantE k id ip pt now = 0 then now + k.hold else 0
def grantD (k : Tb) (id : Int) (ip pt : Nat) (now : Int) : Tb :=
  if grantE k id ip pt now = 1 then k
  else if grantE k id ip pt now = 4 then sweepD k now
  else { sweepD k now with cl := upd (sweepD k now).cl id.toNat ⟨id, ip, pt, now + k.hold⟩ }
theorem rel_ok {k : Tb} (h : OkT k) (id : Int) : OkT (relD k id) := by
  unfold relD
  split
  · refine ⟨h.r0, h.r1, h.h0, h.h1, fun i => ?_⟩
    show upd _ _ _ _ = _ ∨ OkV _ (upd _ _ _ _)
    by_cases e : i = id.toNat
    · subst e; rw [upd_same]; exact .inl rfl
    · rw [upd_ne e]; exact h.cl i
  · exact h
theorem rel_room (k : Tb) (id : Int) : (relD k id).room = k.room ∧ (relD k id).hold = k.hold := by unfold relD; split <;> exact ⟨rfl, rfl⟩
theorem drop_ok {k : Tb} (h : OkT k) (now : Int) (v : Vt) : OkT (dropS now k v) := by unfold dropS; split; exact rel_ok h _; exact h
theorem drop_room (now : Int) (k : Tb) (v : Vt) : (dropS now k v).room = k.room ∧ (dropS now k v).hold = k.hold := by unfold dropS; split; exact rel_room _ _; exact ⟨rfl, rfl⟩
theorem drops_ok (now : Int) : ∀ (L : List Vt) {k : Tb}, OkT k → OkT (L.foldl (dropS now) k)
  | [], _, h => h
  | v :: L, _, h => drops_ok now L (drop_ok h now v)
theorem drops_room (now : Int) : ∀ (L : List Vt) (k : Tb), (L.foldl (dropS now) k).room = k.room ∧ (L.foldl (dropS now) k).hold = k.hold
  | [], _ => ⟨rfl, rfl⟩
  | v :: L, k => by
    have h := drops_room now L (dropS now k v)
    have h2 := drop_room now k v
    exact ⟨h.1.trans h2.1, h.2.trans h2.2⟩
theorem sweep_ok {k : Tb} (h : OkT k) (now : Int) : OkT (sweepD k now) := drops_ok now _ h
theorem sweep_room (k : Tb) (now : Int) : (sweepD k now).room = k.room ∧ (sweepD k now).hold = k.hold := drops_room now _ k
theorem rel_cl {k : Tb} (h : OkT k) (id : Int) (i : Nat) : (relD k id).cl i = if (i : Int) = id then zV else k.cl i := by
  unfold relD
  split
  · rename_i e
    unfold isC at e
    rw [Bool.and_eq_true] at e
    have := nodeI_iff.1 e.1
    show upd _ _ _ _ = _
    by_cases hi : (i : Int) = id
    · rw [if_pos hi, show i = id.toNat by omega, upd_same]
    · rw [if_neg hi, upd_ne (by omega)]
  · rename_i e
    split
    · rename_i hi
      subst hi
      rw [isC_at h] at e
      exact h.no i (by simpa using e)
    · rfl
theorem drops_cl (now : Int) (i : Nat) : ∀ (L : List Vt) {k : Tb}, OkT k → (L.foldl (dropS now) k).cl i = if (∃ v ∈ L, v.who = (i : Int) ∧ v.tm ≤ now) then zV else k.cl i
  | [], k, h => by simp
  | v :: L, k, h => by
    rw [List.foldl_cons, drops_cl now i L (drop_ok h now v)]
    unfold dropS
    by_cases ht : v.tm ≤ now
    · rw [if_pos ht, rel_cl h]
      by_cases hi : (i : Int) = v.who
      · rw [if_pos hi, if_pos (c := ∃ u ∈ v :: L, _) ⟨v, by simp, hi.symm, ht⟩]; split <;> rfl
      · rw [if_neg hi]
        congr 1
        rw [eq_iff_iff]
        constructor
        · rintro ⟨u, h1, h2⟩; exact ⟨u, by simp [h1], h2⟩
        · rintro ⟨u, h1, h2, h3⟩
          rcases List.mem_cons.1 h1 with rfl | h1
          · exact absurd h2.symm hi
          · exact ⟨u, h1, h2, h3⟩
    · rw [if_neg ht]
      congr 1
      rw [eq_iff_iff]
      constructor
      · rintro ⟨u, h1, h2⟩; exact ⟨u, by simp [h1], h2⟩
      · rintro ⟨u, h1, h2, h3⟩
        rcases List.mem_cons.1 h1 with rfl | h1
        · exact absurd h3 ht
        · exact ⟨u, h1, h2, h3⟩
/-- behind a sweep: who is left -/
theorem sweep_cl {k : Tb} (h : OkT k) (now : Int) (i : Nat) : (sweepD k now).cl i = if (k.cl i).tm ≤ now ∧ isV (k.cl i) = true then zV else k.cl i := by
  unfold sweepD
  rw [drops_cl now i _ h]
  congr 1
  rw [eq_iff_iff]
  constructor
  · rintro ⟨v, h1, h2, h3⟩
    obtain ⟨j, hj, rfl, hv⟩ := mem_all.1 h1
    have := (h.yes j hv).who
    obtain rfl : j = i := by omega
    exact ⟨h3, hv⟩
  · rintro ⟨h1, hv⟩
    have hk := h.yes i hv
    have := hk.hi
    exact ⟨k.cl i, mem_all.2 ⟨i, by omega, rfl, hv⟩, hk.who, h1⟩
theorem grant_arg {k : Tb} {id : Int} {ip pt : Nat} {now : Int} (h : ¬ grantE k id ip pt now = 1) : 1 ≤ id ∧ id ≤ 32 ∧ noneI ip pt = false ∧ now ≤ 4611686018427387904 := by
  unfold grantE at h
  split at h
  · simp at h
  · rename_i e
    simp only [not_or, Bool.not_eq_false, Bool.not_eq_true] at e
    have := nodeI_iff.1 e.1
    exact ⟨this.1, this.2, e.2.1, by omega⟩
theorem grant_ok {k : Tb} (h : OkT k) (id : Int) (ip pt : Nat) (now : Int) (hn : 0 ≤ now) (hi : ip < 4294967296) (hp : pt < 65536) : OkT (grantD k id ip pt now) := by
  unfold grantD
  split
  · exact h
  · rename_i e
    have ha := grant_arg e
    split
    · exact sweep_ok h now
    · have hs := sweep_ok h now
      have h0 := h.h0
      have h1 := h.h1
      refine ⟨hs.r0, hs.r1, hs.h0, hs.h1, fun i => ?_⟩
      show upd _ _ _ _ = _ ∨ OkV _ (upd _ _ _ _)
      by_cases ei : i = id.toNat
      · subst ei; rw [upd_same]
        exact .inr ⟨by omega, by omega, by simp; omega, by show 0 ≤ now + k.hold; omega, by show now + k.hold ≤ _; omega, hi, hp⟩
      · rw [upd_ne ei]; exact hs.cl i

/-! relays -/
structure Re where
  ask : Bool
  at_ : Int
  un : Int
def zR : Re := ⟨false, 0, 0⟩
structure Ls where
  want : Int
  wait : Int
  rl : Nat → Re
structure OkE (r : Re) : Prop where
  a0 : 0 ≤ r.at_
  a1 : r.at_ ≤ 4611686018427387904
  u0 : 0 ≤ r.un
  u1 : r.un ≤ 4611686018427387904
structure OkL (k : Ls) : Prop where
  w0 : 1 ≤ k.want
  w1 : k.want ≤ 8
  t0 : 1 ≤ k.wait
  t1 : k.wait ≤ 1000000
  rl : ∀ i, OkE (k.rl i)
  asked : ∀ i, (k.rl i).un ≠ 0 → (k.rl i).ask = true ∧ 1 ≤ i ∧ i ≤ 32
def newL (want wait : Int) : Ls := ⟨want, wait, fun _ => zR⟩
theorem zR_ok : OkE zR := ⟨by decide, by decide, by decide, by decide⟩
theorem newL_ok {r h : Int} (ha : mayI r h = true) : OkL (newL r h) := by
  have := mayI_iff.1 ha
  exact ⟨this.1, this.2.1, this.2.2.1, this.2.2.2, fun _ => zR_ok, fun i h => absurd rfl h⟩
def askB (k : Ls) (id : Int) : Bool := nodeI id && (k.rl id.toNat).ask
def heldB (r : Re) (now : Int) : Bool := decide (now < r.un)
def leftB (r : Re) (wait now : Int) : Bool := r.ask && decide (now < r.at_ + wait)
def gotB (k : Ls) (id un now : Int) : Bool := askB k id && decide (now < un)
def gotD (k : Ls) (id un now : Int) : Ls := if gotB k id un now = true then { k with rl := upd k.rl id.toNat { k.rl id.toNat with un := min un 4611686018427387904 } } else k
def lostD (k : Ls) (id : Int) : Ls := if askB k id = true then { k with rl := upd k.rl id.toNat zR } else k
def loH (now : Int) (f : Nat → Re) (i : Nat) : List Int := ((List.range i).filter fun j => heldB (f j) now).map fun j => ((j : Nat) : Int)
def heldL (k : Ls) (now : Int) : List Int := loH now k.rl 33
theorem loH_yes {now : Int} {f : Nat → Re} {i : Nat} (h : heldB (f i) now = true) : loH now f (i + 1) = loH now f i ++ [(i : Int)] := by
  unfold loH; rw [List.range_succ, List.filter_append]; simp [h]
theorem loH_no {now : Int} {f : Nat → Re} {i : Nat} (h : heldB (f i) now = false) : loH now f (i + 1) = loH now f i := by
  unfold loH; rw [List.range_succ, List.filter_append]; simp [h]
theorem loH_len (now : Int) (f : Nat → Re) (i : Nat) : (loH now f i).length ≤ i := by
  unfold loH
  rw [List.length_map]
  have := List.length_filter_le (fun j => heldB (f j) now) (List.range i)
  rw [List.length_range] at this
  exact this
def overB (r : Re) (now : Int) : Bool := (r.un != 0) && !heldB r now
/-- a sweep of leases, as far as relay i -/
def swp2 (now : Int) (k : Ls) : Nat → List Int × Ls
  | 0 => ([], k)
  | i + 1 => if overB (k.rl i) now = true then ((swp2 now k i).1 ++ [(i : Int)], lostD (swp2 now k i).2 i) else swp2 now k i
theorem got_ok {k : Ls} (h : OkL k) (id un now : Int) (hn : 0 ≤ now) : OkL (gotD k id un now) := by
  unfold gotD
  split
  · rename_i e
    unfold gotB at e
    rw [Bool.and_eq_true, decide_eq_true_eq] at e
    have e1 := e.1
    unfold askB at e1
    rw [Bool.and_eq_true] at e1
    have e2 := nodeI_iff.1 e1.1
    have ho := h.rl id.toNat
    refine ⟨h.w0, h.w1, h.t0, h.t1, fun i => ?_, fun i => ?_⟩
    · show OkE (upd _ _ _ _)
      by_cases ei : i = id.toNat
      · subst ei; rw [upd_same]; exact ⟨ho.a0, ho.a1, by show 0 ≤ min un _; omega, by show min un _ ≤ _; omega⟩
      · rw [upd_ne ei]; exact h.rl i
    · show (upd _ _ _ _ : Re).un ≠ 0 → (upd _ _ _ _ : Re).ask = true ∧ _
      by_cases ei : i = id.toNat
      · subst ei; rw [upd_same]; exact fun _ => ⟨e1.2, by omega, by omega⟩
      · rw [upd_ne ei]; exact h.asked i
  · exact h
theorem lost_ok {k : Ls} (h : OkL k) (id : Int) : OkL (lostD k id) := by
  unfold lostD
  split
  · refine ⟨h.w0, h.w1, h.t0, h.t1, fun i => ?_, fun i => ?_⟩
    · show OkE (upd _ _ _ _)
      by_cases ei : i = id.toNat
      · subst ei; rw [upd_same]; exact zR_ok
      · rw [upd_ne ei]; exact h.rl i
    · show (upd _ _ _ _ : Re).un ≠ 0 → (upd _ _ _ _ : Re).ask = true ∧ _
      by_cases ei : i = id.toNat
      · subst ei; rw [upd_same]; exact fun h => absurd rfl h
      · rw [upd_ne ei]; exact h.asked i
  · exact h
theorem swp2_ok {now : Int} {k : Ls} (h : OkL k) : ∀ i, OkL (swp2 now k i).2
  | 0 => h
  | i + 1 => by
    unfold swp2; split
    · exact lost_ok (swp2_ok h i) _
    · exact swp2_ok h i
theorem swp2_len (now : Int) (k : Ls) : ∀ i, (swp2 now k i).1.length ≤ i
  | 0 => Nat.le_refl _
  | i + 1 => by
    have := swp2_len now k i
    unfold swp2; split
    · simp; omega
    · omega
theorem swp2_yes {now : Int} {k : Ls} {i : Nat} (h : overB (k.rl i) now = true) : swp2 now k (i + 1) = ((swp2 now k i).1 ++ [(i : Int)], lostD (swp2 now k i).2 i) := by rw [swp2, if_pos h]
theorem swp2_no {now : Int} {k : Ls} {i : Nat} (h : overB (k.rl i) now = false) : swp2 now k (i + 1) = swp2 now k i := by rw [swp2, if_neg (by rw [h]; decide)]
end Go.Proofs.Ytdehpiaokjihjaa
