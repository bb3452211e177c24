/- Small facts on worlds that all walks of this seat use. -/
import Derived.WalkKit
import Derived.Below
import Derived.Deep.Draws
import Derived.Deep.OwnRows
import Derived.Laws.CopyOwn
import Derived.Laws.AppendOwnNone
import Derived.OwnWalk
import Derived.ScopeJumps
import Derived.Lib.Hide
namespace Go.Proofs.Ytdpgmdkclaahdaa
open Go.RowKit
set_option linter.unusedVariables false
set_option linter.unusedSimpArgs false

/-- behind a call that only made memory: old cells, old marks, the heap's size -/
theorem bcell {W w1 : World} (hb : Below W.heap.size W w1) : (∀ b o, b < W.heap.size → w1.cell? ⟨b, o, none⟩ = W.cell? ⟨b, o, none⟩) ∧ (∀ b o, b < W.heap.size → w1.frozen? ⟨b, o, none⟩ = W.frozen? ⟨b, o, none⟩) ∧ W.heap.size ≤ w1.heap.size :=
  ⟨fun b o h => hb.cell (p := ⟨b, o, none⟩) h, fun b o h => hb.frozen (p := ⟨b, o, none⟩) h, hb.size⟩

/-- rules of the walk: what lies below the old size lies below the new one -/
theorem lt_rule {S T : Nat} (h : S ≤ T) : ∀ b, b < S → b < T := fun _ hb => Nat.lt_of_lt_of_le hb h
theorem le_rule {S T : Nat} (h : S ≤ T) : ∀ b, b ≤ S → b ≤ T := fun _ hb => Nat.le_trans hb h

theorem below_drewN {B : Nat} {a w : World} (h : Below B a w) (n : Nat) : Below B a (w.drewN n) := ⟨h.os, h.tape, h.output, h.size, h.block⟩

theorem tmod_pos (a n : Int) (ha : 0 ≤ a) : a.tmod n = a % n := Int.tmod_eq_emod_of_nonneg ha

/-- a slice of numbers that can be read: it is 'zs', and lies below block B -/
def Rd (k : IntKind) (w : World) (B : Nat) (a : Option Addr) (zs : List Int) : Prop :=
  0 < zs.length → ∃ b off, a = some ⟨b, off, none⟩ ∧ b < B ∧ ∀ i, i < zs.length → w.cell? ⟨b, off + i, none⟩ = some (.int k (zs.getD i 0))
/-- the row of a list of numbers -/
def row (k : IntKind) (l : List Int) : Nat → Value := fun i => .int k (l.getD i 0)

theorem Rd.nil (k : IntKind) (w : World) (B : Nat) (a : Option Addr) : Rd k w B a [] := fun h => absurd h (by simp)
theorem Rd.below {k : IntKind} {w w' : World} {B : Nat} {a : Option Addr} {zs : List Int} (h : Rd k w B a zs) (hb : Below B w w') : Rd k w' B a zs := fun hp => by
  obtain ⟨b, off, rfl, hB, hc⟩ := h hp
  exact ⟨b, off, rfl, hB, fun i hi => (hb.cell (p := ⟨b, off + i, none⟩) hB).trans (hc i hi)⟩
theorem Rd.more {k : IntKind} {w : World} {B B' : Nat} {a : Option Addr} {zs : List Int} (h : Rd k w B a zs) (hB : B ≤ B') : Rd k w B' a zs := fun hp => by
  obtain ⟨b, off, rfl, hb, hc⟩ := h hp
  exact ⟨b, off, rfl, by omega, hc⟩
theorem Rd.of_row {k : IntKind} {w : World} {g n : Nat} {t : TypeId} {zs : List Int} (h : w.rowIs g t n (row k zs)) (hn : zs.length ≤ n) : Rd k w w.heap.size (some ⟨g, 0, none⟩) zs := fun hp =>
  ⟨g, 0, rfl, h.lt, fun i hi => by rw [Nat.zero_add]; exact h.cell (by omega)⟩
theorem Rd.take {k : IntKind} {w : World} {B : Nat} {a : Option Addr} {zs : List Int} (h : Rd k w B a zs) (m : Nat) : Rd k w B a (zs.take m) := fun hp => by
  have hl : (zs.take m).length ≤ zs.length := List.length_take_le' _ _
  obtain ⟨b, off, rfl, hB, hc⟩ := h (by omega)
  refine ⟨b, off, rfl, hB, fun i hi => ?_⟩
  rw [hc i (by omega)]
  have : i < m := by rw [List.length_take] at hi; omega
  simp [List.getD_eq_getElem?_getD, List.getElem?_take, this]

/-- copy(d, s), d a row that this call made whole, s a slice of numbers just as long -/
theorem wpList_copy_all {P : Program} {w : World} {ops : Array Oper} {rest : List Oper} {o : Oper} {a : Act} {Q : Exit → Act → World → Prop} (hgd : o.guard = none) (d s : Operand) (dT sT : TypeId)
    (ho : o.op = .call { callee := .builtin .copy, args := #[d, s], argTypes := #[dT, sT] }) (elem : TypeId) (hu : P.underlying dT = some (.slice elem)) (hsz : (P.info? elem).map (·.size) = some 1)
    (g n scap : Nat) (A : Option Addr) (hd : a.eval d = .slice (some ⟨g, 0, none⟩) n n) (hs : a.eval s = .slice A n scap)
    (k : IntKind) (zs : List Int) (hn : zs.length = n) (B : Nat) (hr : Rd k w B A zs) (f : Nat → Value) (t : TypeId) (hrow : w.rowIs g t n f) (w0 : World) (C : Nat) (hb : Below C w0 w) (hC : C ≤ g)
    (h : ∀ w', w'.rowIs g t n (row k zs) → Below C w0 w' → wpList P ops Q rest (a.put o.dst (goInt n)) w') :
    wpList P ops Q (o :: rest) a w := by
  obtain ⟨c, hg, hcn, _⟩ := hrow
  have hlen : (zs.map (Value.int k)).length = n := by simpa using hn
  refine wpList_copy_splice hgd d s dT sT ho elem hu hsz (some ⟨g, 0, none⟩) A n n n scap hd hs g 0 c.toList t (by simpa using hg) (zs.map (Value.int k)) (by rw [hlen]; exact (Nat.min_self n).symm) ?_ (by simp [hcn, hn]) (by simp [Value.oneCell']) C w0 hb hC ?_
  · intro hp
    obtain ⟨b, off, rfl, _, hc⟩ := hr (by simpa using hp)
    refine ⟨rfl, _, rfl, fun j v hv => ?_⟩
    have hj : j < zs.length := by
      rcases Nat.lt_or_ge j zs.length with h1 | h1
      · exact h1
      · rw [List.getElem?_eq_none (by simpa using h1)] at hv; cases hv
    rw [List.getElem?_map, List.getElem?_eq_getElem hj] at hv
    injection hv with hv
    subst hv
    have := hc j hj
    rw [List.getD_eq_getElem?_getD, List.getElem?_eq_getElem hj] at this
    by_cases h0 : j = 0
    · subst h0; simpa [Addr.add] using this
    · simpa [Addr.add, h0] using this
  · intro w' hw' hb'
    have hw'' := hw'.out
    rw [hlen]
    refine h w' ⟨_, hw'', ?_, ?_⟩ hb'
    · simp [splice, hcn, hn]
    · intro i hi
      have hi' : i < zs.length := by omega
      simp [splice, row, List.getElem?_append, hi', List.getD_eq_getElem?_getD]

theorem ints_one (k : IntKind) (zs : List Int) : ∀ u ∈ zs.map (Value.int k), u.oneCell' = true := by simp [Value.oneCell']

theorem Rd.cells {k : IntKind} {w : World} {B : Nat} {ad : Addr} {zs : List Int} (h : Rd k w B (some ad) zs) : ∀ j u, (zs.map (Value.int k))[j]? = some u → w.cell? (ad.add j) = some u := by
  intro j u hv
  have hj : j < zs.length := by
    rcases Nat.lt_or_ge j zs.length with h1 | h1
    · exact h1
    · rw [List.getElem?_eq_none (by simpa using h1)] at hv; cases hv
  obtain ⟨b, off, hab, _, hc⟩ := h (by omega)
  injection hab with hab
  subst hab
  rw [List.getElem?_map, List.getElem?_eq_getElem hj] at hv
  injection hv with hv
  subst hv
  have := hc j hj
  rw [List.getD_eq_getElem?_getD, List.getElem?_eq_getElem hj] at this
  by_cases h0 : j = 0
  · subst h0; simpa [Addr.add] using this
  · simpa [Addr.add, h0] using this

/-- append(v, s...), v a slice of this call's own, s a slice of numbers that can be read -/
theorem wpList_append_rd {P : Program} (w : World) {ops : Array Oper} {rest : List Oper} {o : Oper} {a : Act} {Q : Exit → Act → World → Prop} (hgd : o.guard = none) (s x : Operand) (t : TypeId)
    (ho : o.op = .call { callee := .builtin .append, args := #[s, x], argTypes := #[t, t] })
    (base : Nat) (e : TypeId) (k : IntKind) (bytes : Nat) (ht : P.underlying t = some (.slice e)) (hinfo : (P.info? e).map (fun i => (i.zero, i.size, i.bytes)) = some (some (.int k 0), 1, bytes))
    (v : Value) (n : Nat) (xs : List Value) (hs : a.eval s = v) (hown : w.ownsRow base e 1 v n xs)
    (B : Nat) (A : Option Addr) (m c : Nat) (zs : List Int) (hx : a.eval x = .slice A m c) (hm : zs.length = m) (hr : Rd k w B A zs) (hA : A = none → m = 0 ∧ c = 0)
    (h63 : n + m ≤ 1000000) (hby : bytes ≤ 1000) (hbase : base ≤ w.heap.size)
    (h : ∀ v' w', w'.ownsRow base e 1 v' (n + m) (xs ++ zs.map (Value.int k)) → w.grownBy w' v.ownBlock → wpList P ops Q rest (a.put o.dst v') w') : wpList P ops Q (o :: rest) a w := by
  obtain ⟨i, hi, hz, hsz, hb⟩ := info_parts hinfo
  rcases A with _ | ad
  · obtain ⟨h1, h2⟩ := hA rfl
    subst h1 h2
    obtain rfl : zs = [] := List.eq_nil_of_length_eq_zero hm
    exact wpList_append_own_none hgd s x t ho base e i 1 ht hi v n xs hs hown hx (h v w (by simpa using hown) (World.grownBy.refl w _))
  · refine wpList_append_own w hgd s x t ho base e i (.int k 0) 1 bytes ht hi hz hsz hb rfl (by omega) v n xs hs hown ad m c (zs.map (Value.int k)) hx (by simpa using hm) hr.cells (ints_one k zs) (by unfold maxLen; omega) ?_ hbase fun v' w' h1 h2 _ => h v' w' h1 h2
    have : (n + m) * bytes ≤ 1000000 * 1000 := Nat.mul_le_mul h63 hby
    omega

theorem Rd.of_own {k : IntKind} {w : World} {base n c : Nat} {e : TypeId} {A : Option Addr} {zs : List Int} (h : w.ownsRow base e 1 (.slice A n c) n (zs.map (Value.int k))) : Rd k w w.heap.size A zs := fun hp => by
  have hl := h.1
  rw [List.length_map] at hl
  rcases h.2 with ⟨_, h0⟩ | ⟨g, cap, cur, hv, _, hg, _, _, _, ht⟩
  · omega
  · have hA : A = some ⟨g, 0, none⟩ := by injection hv
    subst hA
    have hlt : g < w.heap.size := by
      rcases Nat.lt_or_ge g w.heap.size with h1 | h1
      · exact h1
      · rw [Array.getElem?_eq_none h1] at hg; cases hg
    refine ⟨g, 0, rfl, hlt, fun i hi => ?_⟩
    have hcap : c = cap := by injection hv
    subst hcap
    rw [Nat.zero_add, World.ownsRow.cellAt h i (by omega), List.getElem?_map, List.getElem?_eq_getElem hi]
    simp [List.getD_eq_getElem?_getD, hi]

theorem Rd.of_alloc {k : IntKind} (w : World) (t : TypeId) (zs : List Int) (cs : Array Value) (hcs : cs = (zs.map (Value.int k)).toArray) : Rd k (w.alloc (.cells cs t)) (w.alloc (.cells cs t)).heap.size (some ⟨w.heap.size, 0, none⟩) zs := fun _ =>
  ⟨w.heap.size, 0, rfl, by simp, fun i hi => by
    subst hcs
    rw [Nat.zero_add, World.rowIs.cell (World.rowIs_alloc w (zs.map (Value.int k)).toArray t (row k zs) (fun j hj => ?_)) (by simpa using hi)]
    · rfl
    · have hj' : j < zs.length := by simpa using hj
      simp [row, List.getD_eq_getElem?_getD, hj']⟩

/-- what is known of a slice of numbers that came in: it is nil, or a row of 'cap' cells, the numbers 'zs' (the first 'len' are its elements), each fitting its kind -/
def ArgRow (k : IntKind) (w : World) (a : Option Addr) (len cap : Nat) (zs : List Int) : Prop :=
  (a = none ∧ len = 0 ∧ cap = 0 ∧ zs = []) ∨
  ∃ x, a = some x ∧ len ≤ cap ∧ cap ≤ maxLen ∧ zs.length = cap ∧ (∀ i, i < zs.length → w.cell? (x.add i) = some (.int k (zs.getD i 0))) ∧ ∀ n ∈ zs, (Lit.int k n).wf = true

/-- a scope whose label is jumped to once, forward: what stands behind the label is walked there -/
theorem wp_scope_fwd {P : Program} {c rest : Code} {a : Act} {w : World} {Q : Exit → Act → World → Prop} (l : Nat) (hf : findLabel c l = some rest)
    (first : c.wp P (Exit.jump l (fun a' w' => rest.wp P (Exit.noGoto Q) a' w') Q) a w) : (Code.scope c).wp P Q a w := by
  refine wp_scope_jumps l _ (fun _ _ => 0) hf first fun a' w' h => ?_
  refine Code.wp_mono (fun e a1 w1 h => ?_) h
  cases e <;> first | exact h.elim | exact h

def IsBool (v : Value) : Prop := ∃ t : Bool, v = .bool t
def IsInt (k : IntKind) (v : Value) : Prop := ∃ n : Int, v = .int k n ∧ (Lit.int k n).wf = true
def IsStr (v : Value) : Prop := ∃ s : ByteArray, v = .string s ∧ s.size ≤ maxLen
/-- what is known of a slice of structs of two one-cell fields that came in -/
def PairRow (F0 F1 : Value → Prop) (w : World) (a : Option Addr) (len cap : Nat) : Prop :=
  (a = none ∧ len = 0 ∧ cap = 0) ∨
  ∃ x, a = some x ∧ len ≤ cap ∧ cap ≤ maxLen ∧ ∀ i, i < len → ∃ v0 v1, w.cell? (x.add (i * 2)) = some v0 ∧ w.cell? (x.add (i * 2 + 1)) = some v1 ∧ F0 v0 ∧ F1 v1
theorem add_at (b off i : Nat) : ((⟨b, off, none⟩ : Addr).add i) = ⟨b, off + i, none⟩ := by
  by_cases h0 : i = 0
  · subst h0; simp [Addr.add]
  · simp [Addr.add, h0]
theorem PairRow.at_ {F0 F1 : Value → Prop} {w : World} {a : Option Addr} {len cap : Nat} (h : PairRow F0 F1 w a len cap) (hp : 0 < len) :
    ∃ b off, a = some ⟨b, off, none⟩ ∧ b < w.heap.size ∧ ∀ i, i < len → ∃ v0 v1, w.cell? ⟨b, off + i * 2, none⟩ = some v0 ∧ w.cell? ⟨b, off + i * 2 + 1, none⟩ = some v1 ∧ F0 v0 ∧ F1 v1 := by
  rcases h with ⟨_, h0, _⟩ | ⟨x, rfl, hl, hm, hc⟩
  · omega
  · obtain ⟨v0, v1, h0, _⟩ := hc 0 hp
    obtain ⟨b, off, spot⟩ := x
    have hs : spot = none := by simpa [Addr.add] using World.cell?_spot h0
    subst hs
    refine ⟨b, off, rfl, by simpa [Addr.add] using World.block_lt_of_cell? _ _ h0, fun i hi => ?_⟩
    obtain ⟨v0, v1, h0, h1, f0, f1⟩ := hc i hi
    rw [add_at] at h0 h1
    exact ⟨v0, v1, h0, h1, f0, f1⟩
theorem PairRow.len {F0 F1 : Value → Prop} {w : World} {a : Option Addr} {len cap : Nat} (h : PairRow F0 F1 w a len cap) : len ≤ 9223372036854775807 := by
  rcases h with ⟨_, h0, _⟩ | ⟨x, rfl, hl, hm, hc⟩
  · omega
  · unfold maxLen at hm; omega
end Go.Proofs.Ytdpgmdkclaahdaa
