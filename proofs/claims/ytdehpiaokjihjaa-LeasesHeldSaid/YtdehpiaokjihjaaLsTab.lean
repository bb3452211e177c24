/- The program's table: Of, Release, Clients; an array by value. -/
import Derived.Test.YtdehpiaokjihjaaLsSmall
namespace Go.Proofs.Ytdehpiaokjihjaa
open Go.Sort Go.RowKit Go.BigFrame
set_option linter.unusedVariables false
set_option linter.unusedSimpArgs false

/-- many cells loaded at once -/
theorem wpList_load_cells {P : Program} {ops : Array Oper} {rest : List Oper} {o : Oper} {a : Act} {w : World} {Q : Exit → Act → World → Prop} (hgd : o.guard = none) (ty : TypeId) (x : Operand) (ho : o.op = .load ty x)
    (ad : Addr) (hx : a.eval x = .pointer (some ad)) (cs : List Value) (hc : ∀ j v, cs[j]? = some v → w.cell? (ad.add j) = some v) (d : TypeDesc)
    (hu : P.underlying ty = some d) (hd : (match d with | .struct _ | .array _ _ => true | _ => false) = true) (hi : (P.info? ty).map (·.size) = some cs.length)
    (h : wpList P ops Q rest (a.put o.dst (.agg cs.toArray)) w) : wpList P ops Q (o :: rest) a w := by
  refine wpList_plain hgd fun _ hK => ?_
  have hl := run_loadCells_list (P := P) w ad cs hc
  have hrun : (loadVar ty ad).run P w = .ok (.agg cs.toArray) w := by
    cases hq : P.info? ty with
    | none => simp [hq] at hi
    | some i =>
      have hs : i.size = cs.length := by simpa [hq] using hi
      have hagg : (isAgg ty).run P w = .ok true w := by
        unfold isAgg
        rw [Sem.run_bind, run_underlying hu w]
        cases d <;> simp_all
      simp [loadVar, Sem.run_bind, hagg, sizeOf, typeInfo, hq, hs, hl]
  unfold Oper.wp execOp
  simp only [ho, hx, Instr.loadAt, Instr.sureAddr, Sem.run_bind, Sem.run_pure, Result.andThen_ok, hrun]
  exact hK _ _ h
/-- an element of an array by value -/
theorem wpList_index_part {P : Program} {ops : Array Oper} {rest : List Oper} {o : Oper} {a : Act} {w : World} {Q : Exit → Act → World → Prop} (hgd : o.guard = none) (ty : TypeId) (x ix : Operand) (ho : o.op = .index ty x ix)
    (cs : List Value) (hx : a.eval x = .agg cs.toArray) (k : IntKind) (i : Nat) (hix : a.eval ix = .int k i) (n z : Nat) (e : TypeId) (hu : P.underlying ty = some (.array n e)) (hi : i < n) (d : TypeDesc)
    (hue : P.underlying e = some d) (hd : (match d with | .struct _ | .array _ _ => true | _ => false) = true) (hs : (P.info? e).map (·.size) = some z)
    (vs : List Value) (hv : (cs.drop (i * z)).take z = vs)
    (h : wpList P ops Q rest (a.put o.dst (.agg vs.toArray)) w) : wpList P ops Q (o :: rest) a w := by
  refine wpList_plain hgd fun _ hK => ?_
  have hrun : (Instr.index ty (.agg cs.toArray) (.int k i)).run P w = .ok (.agg vs.toArray) w := by
    cases hq : P.info? e with
    | none => simp [hq] at hs
    | some inf =>
      have hsz : inf.size = z := by simpa [hq] using hs
      have hagg : (isAgg e).run P w = .ok true w := by
        unfold isAgg
        rw [Sem.run_bind, run_underlying hue w]
        cases d <;> simp_all
      have h0 : (0 : Int) ≤ i := by omega
      have h1 : (i : Int) < n := by omega
      subst hv
      simp [Instr.index, asIntOf, run_underlying hu, h0, h1, hi, part, hagg, sizeOf, typeInfo, hq, hsz, List.take_drop]
  unfold Oper.wp execOp
  simp only [ho, hx, hix, Sem.run_bind, Sem.run_pure, hrun, Result.andThen_ok]
  exact hK _ _ h

def OfPost (k : Tb) (id now : Int) (w : World) (e : Ending) (w' : World) : Prop := e = .returned (.tuple #[.agg #[.int .u32 (ofA k id now).ip, .int .u16 (ofA k id now).pt], .bool (ofB k id now)]) ∧ Below w.heap.size w w'
set_option maxHeartbeats 1600000 in
theorem of_any (id now : Int) (g : Nat) (k : Tb) (w : World) (h : Ts g k w) :
    Calls Try.prog 8 #[.pointer (some ⟨g, 0, none⟩), .int .i64 id, .int .u64 now] w (OfPost k id now w) := by
  have K := isC_any id g k _ (h.keep ((Below.refl _ w).alloc (Nat.le_refl _) (.cells #[.int .u32 0, .int .u16 0] 32)))
  unfold OfPost
  cases hc : isC k id with
  | false =>
    have e1 : ofB k id now = false := by unfold ofB; rw [hc]; rfl
    have e2 : ofA k id now = zV := by unfold ofA; rw [e1]; rfl
    rw [e1, e2]
    rw [hc] at K
    clear h hc e1 e2
    simp only [zV]
    go_enter Try.func8, Try.ntmps8
    go_wp2_with fail
    refine K.mono ?_; rintro e w1 ⟨rfl, rfl⟩
    clear K
    go_wp2
    refine bodyPost_ret (v := (.tuple #[.agg #[.int .u32 0, .int .u16 0], .bool false])) (by simp [results, Try.results8, go_sem, *]) rfl ?_
    exact ⟨rfl, by (repeat (first | with_reducible exact Below.refl _ _ | with_reducible refine Below.drew ?_ | with_reducible refine below_drewN ?_ _ | with_reducible refine Below.alloc ?_ (by first | omega | (simp; done) | (simp; omega)) _ | with_reducible refine Below.setCell ?_ (by first | omega | (simp; done) | (simp; omega)) _))⟩
  | true =>
    have hb := hc
    unfold isC at hb
    rw [Bool.and_eq_true] at hb
    have hb := nodeI_iff.1 hb.1
    obtain ⟨n, rfl⟩ : ∃ n : Nat, id = n := ⟨id.toNat, by omega⟩
    have c1 := h.cl n (by omega) 1 _ rfl
    have c2 := h.cl n (by omega) 2 _ rfl
    have c3 := h.cl n (by omega) 3 _ rfl
    have hn0 : (0 : Int) ≤ n := by omega
    have hn1 : (n : Int) < 33 := by omega
    have hn2 : n < 33 := by omega
    have gl := h.lt
    rw [hc] at K
    have e1 : ofB k n now = decide (now < (k.cl n).tm) := by unfold ofB; rw [hc]; simp
    have e2 : ofA k n now = if decide (now < (k.cl n).tm) = true then k.cl n else zV := by unfold ofA; rw [e1]; simp
    rw [e1, e2]
    generalize k.cl n = x at *
    obtain ⟨x1, x2, x3, x4⟩ := x
    simp only at c1 c2 c3 ⊢
    clear h hc e1 e2 hb
    by_cases ht : now < x4
    · have ht2 : decide (x4 ≤ now) = false := decide_eq_false (by omega)
      rw [if_pos (decide_eq_true ht), decide_eq_true ht]
      go_enter Try.func8, Try.ntmps8
      go_wp2_with fail
      refine K.mono ?_; rintro e w1 ⟨rfl, rfl⟩
      clear K
      go_wp2
      refine bodyPost_ret (v := (.tuple #[.agg #[.int .u32 x2, .int .u16 x3], .bool true])) (by simp [results, Try.results8, go_sem, *]) rfl ?_
      exact ⟨rfl, by (repeat (first | with_reducible exact Below.refl _ _ | with_reducible refine Below.drew ?_ | with_reducible refine below_drewN ?_ _ | with_reducible refine Below.alloc ?_ (by first | omega | (simp; done) | (simp; omega)) _ | with_reducible refine Below.setCell ?_ (by first | omega | (simp; done) | (simp; omega)) _))⟩
    · have ht2 : decide (x4 ≤ now) = true := decide_eq_true (by omega)
      have ht3 : x4 ≤ now := by omega
      rw [if_neg (by simpa using ht3), decide_eq_false ht]
      simp only [zV]
      go_enter Try.func8, Try.ntmps8
      go_wp2_with fail
      refine K.mono ?_; rintro e w1 ⟨rfl, rfl⟩
      clear K
      go_wp2
      refine bodyPost_ret (v := (.tuple #[.agg #[.int .u32 0, .int .u16 0], .bool false])) (by simp [results, Try.results8, go_sem, *]) rfl ?_
      exact ⟨rfl, by (repeat (first | with_reducible exact Below.refl _ _ | with_reducible refine Below.drew ?_ | with_reducible refine below_drewN ?_ _ | with_reducible refine Below.alloc ?_ (by first | omega | (simp; done) | (simp; omega)) _ | with_reducible refine Below.setCell ?_ (by first | omega | (simp; done) | (simp; omega)) _))⟩
def RelPost (g : Nat) (k : Tb) (id : Int) (w : World) (e : Ending) (w' : World) : Prop := e = .returned (.bool (isC k id)) ∧ TAft g (relD k id) w w'
set_option maxHeartbeats 1600000 in
theorem rel_any (id : Int) (g : Nat) (k : Tb) (w : World) (h : Ts g k w) :
    Calls Try.prog 12 #[.pointer (some ⟨g, 0, none⟩), .int .i64 id] w (RelPost g k id w) := by
  have K := isC_any id g k w h
  have RO := rel_ok h.ok id
  unfold RelPost
  unfold relD at RO ⊢
  cases hc : isC k id with
  | false =>
    have F := Lib.hid (h.same (Below.refl _ _))
    rw [hc] at K
    rw [if_neg (by decide)]
    clear h hc
    go_enter Try.func12, Try.ntmps12
    go_wp2_with fail
    refine K.mono ?_; rintro e w1 ⟨rfl, rfl⟩
    clear K
    go_wp2
    go_ret
    exact ⟨rfl, F.out⟩
  | true =>
    have hb := hc
    unfold isC at hb
    rw [Bool.and_eq_true] at hb
    have hb := nodeI_iff.1 hb.1
    obtain ⟨n, rfl⟩ : ∃ n : Nat, id = n := ⟨id.toNat, by omega⟩
    rw [hc, if_pos rfl] at RO
    rw [if_pos rfl]
    simp only [Int.toNat_natCast] at RO ⊢
    have F := Lib.hid (h.put (i := n) (by omega) zV RO)
    have F2 : Hid (TAft g { k with cl := upd k.cl n zV } w (w.setCells g (2 + n * 4) (cv zV)).drew) := F.out.then_ (Below.refl _ _).drew
    have fr := fun o => h.free o
    have gl := h.lt
    have c0 := h.cl n (by omega) 0 _ rfl
    have c1 := h.cl n (by omega) 1 _ rfl
    have c2 := h.cl n (by omega) 2 _ rfl
    have c3 := h.cl n (by omega) 3 _ rfl
    simp only [cv, zV, Nat.add_zero, World.setCells] at F F2 c0
    have hn0 : (0 : Int) ≤ n := by omega
    have hn1 : (n : Int) < 33 := by omega
    have hn2 : n < 33 := by omega
    rw [hc] at K
    clear h hc hb RO
    go_enter Try.func12, Try.ntmps12
    go_wp2_with fail
    refine K.mono ?_; rintro e w1 ⟨rfl, rfl⟩
    clear K
    go_wp2
    go_ret
    first | exact ⟨rfl, F.out⟩ | exact ⟨rfl, F2.out⟩
end Go.Proofs.Ytdehpiaokjihjaa
