/- The reference's Out: its state on the way; at, with all that is the box's own; an append out of a list that came in. -/
import Derived.Test.YtnemmnndaoaadaaBoxRefIn
import Derived.Test.YtnemmnndaoaadaaBoxOut2
namespace Go.Proofs.Ytnemmnndaoaadaa
open Go.Sort Go.RowKit Go.BigFrame
set_option linter.unusedVariables false
set_option linter.unusedSimpArgs false

/-- append(v, part...), in a region that draws -/
theorem step_append_part {P : Program} (w : World) {ops : Array Oper} {o : Oper} {a : Act} {K : Act → World → Prop} {Q : Exit → Act → World → Prop} {E : Prop} (hgd : o.guard = none) (s x : Operand) (t : TypeId)
    (ho : o.op = .call { callee := .builtin .append, args := #[s, x], argTypes := #[t, t] })
    (base : Nat) (e : TypeId) (i : TypeInfo) (z : Value) (size bytes : Nat) (ht : P.underlying t = some (.slice e)) (hi : P.info? e = some i) (hz : i.zero = some z) (hsize : i.size = size) (hby : i.bytes = bytes) (hzs : z.cells.size = size) (hsz : 0 < size)
    (v : Value) (n : Nat) (xs : List Value) (hs : a.eval s = v) (hown : w.ownsRow base e size v n xs)
    (A : Option Addr) (m c : Nat) (news : List Value) (hx : a.eval x = .slice A m c) (hm : news.length = m * size) (hr : ∀ ad, A = some ad → ∀ j u, news[j]? = some u → w.cell? (ad.add j) = some u) (h1 : ∀ u ∈ news, u.oneCell' = true) (hA : A = none → m = 0 ∧ c = 0)
    (h63 : n + m ≤ maxLen) (hbytes : (n + m) * bytes ≤ 140737488355328) (hbase : base ≤ w.heap.size)
    (h : ∀ v' w', w'.ownsRow base e size v' (n + m) (xs ++ news) → w.grownBy w' v.ownBlock → K (a.put o.dst v') w') : if Region.wanted o (yielded ops a.tmps) = true then Oper.wp P o a w K Q else E := by
  have hw : Region.wanted o (yielded ops a.tmps) = true := by simp [Region.wanted, hgd]
  rw [if_pos hw]
  rcases A with _ | ad
  · obtain ⟨q1, q2⟩ := hA rfl
    subst q1 q2
    obtain rfl : news = [] := List.eq_nil_of_length_eq_zero (by rw [hm, Nat.zero_mul])
    have hrun := run_append_owned_none (P := P) (w := w) base t o.type e i size ht hi v n xs hown
    have hK := h v w (by simpa using hown) (World.grownBy.refl w _)
    unfold Oper.wp
    simp [execOp, ho, resolve, invoke, builtin, hs, hx, hrun, Result.andThen]
    exact hK
  · exact wp_append_own w s x t ho base e i z size bytes ht hi hz hsize hby hzs hsz v n xs hs hown ad m c news hx hm (hr ad rfl) h1 h63 hbytes hbase fun v' w' q1 q2 _ => h v' w' q1 q2
theorem pr_flat (l : List (Int × Int)) : (l.map pr).flatten.length = l.length * 2 := by rw [flatten_len _ (pr_all l), List.length_map]
theorem pr_ones (l : List (Int × Int)) : ∀ u ∈ (l.map pr).flatten, u.oneCell' = true := by
  intro u hu
  obtain ⟨c, hc, hu⟩ := List.mem_flatten.1 hu
  obtain ⟨x, _, rfl⟩ := List.mem_map.1 hc
  simp [pr] at hu
  rcases hu with rfl | rfl <;> rfl
theorem rdA_cells {w : World} {B : Nat} {a : Option Addr} {l : List (Int × Int)} (h : RdA w B a l) : ∀ ad, a = some ad → ∀ j u, (l.map pr).flatten[j]? = some u → w.cell? (ad.add j) = some u := by
  rintro ad rfl j u hu
  have hj : j < l.length * 2 := by rw [← pr_flat]; exact (List.getElem?_eq_some_iff.1 hu).1
  have hi : j / 2 < l.length := by omega
  obtain ⟨b, off, he, _, hc⟩ := h (by omega)
  obtain rfl := Option.some.inj he
  obtain ⟨c0, c1⟩ := hc (j / 2) hi
  have e : j = j / 2 * 2 + j % 2 := by omega
  rw [e, flatten_at (z := 2) _ (pr_all l) (j / 2) (j % 2) (by omega) (pr l[j / 2]) (by rw [List.getElem?_map, List.getElem?_eq_getElem hi]; rfl)] at hu
  have ea : (⟨b, off, none⟩ : Addr).add j = ⟨b, off + j, none⟩ := add_at _ _ _
  rw [ea]
  rcases Nat.mod_two_eq_zero_or_one j with h2 | h2
  · rw [h2] at hu e
    simp [pr] at hu
    rw [← hu, ← c0]; congr 2; omega
  · rw [h2] at hu e
    simp [pr] at hu
    rw [← hu, ← c1]; congr 2; omega
theorem holdW_set {room : Nat} {L : List Bd} {j : Nat} {x x' : Bd} (h : HoldW room (L.map (·.1))) (hx : L[j]? = some x) (e : x'.1.po = x.1.po) : HoldW room ((L.set j x').map (·.1)) := by
  obtain ⟨hj, hxj⟩ := List.getElem?_eq_some_iff.1 hx
  refine ⟨by have := h.len; simpa using this, fun b hb => ?_, ?_⟩
  · obtain ⟨y, hy, rfl⟩ := List.mem_map.1 hb
    rcases List.mem_or_eq_of_mem_set hy with h1 | rfl
    · exact h.po _ (List.mem_map.2 ⟨y, h1, rfl⟩)
    · rw [e]; exact h.po _ (List.mem_map.2 ⟨x, List.mem_of_getElem? hx, rfl⟩)
  · have hr := List.pairwise_iff_getElem.1 h.rise
    rw [List.pairwise_iff_getElem]
    intro a b ha hb hab
    simp only [List.length_map, List.length_set] at ha hb
    have h1 := hr a b (by simpa using ha) (by simpa using hb) hab
    simp only [List.getElem_map, List.getElem_set] at h1 ⊢
    split
    · rename_i q
      rw [if_neg (by omega)]
      subst q
      rw [hxj] at h1
      rw [e]; exact h1
    · split
      · rename_i q
        subst q
        rw [hxj] at h1
        rw [e]; exact h1
      · exact h1
def RAtB (g : Nat) (S : Nat → Prop) (m f ip hold : Int) (room : Nat) (si sp ki kp : Int) (L : List Bd) (w : World) (e : Ending) (w' : World) : Prop :=
  e = .returned (.int .i64 ((findP room si sp ki kp (L.map (·.1))).1 : Nat)) ∧ ∃ (v' : Sl) (L' : List Bd), L'.map (·.1) = (findP room si sp ki kp (L.map (·.1))).2 ∧ (findP room si sp ki kp (L.map (·.1))).1 < L'.length ∧ RBs g (grownS S w w') m f ip hold room v' L' w' ∧ Touch (fun k => k = g) w w'
theorem rat_b (g : Nat) (S : Nat → Prop) (m f ip hold si sp ki kp : Int) (room : Nat) (v : Sl) (L : List Bd) (w : World) (h : RBs g S m f ip hold room v L w) :
    Calls Try.prog 37 #[.pointer (some ⟨g, 0, none⟩), .agg #[.int .u32 si, .int .u16 sp], .agg #[.int .u32 ki, .int .u16 kp]] w (RAtB g S m f ip hold room si sp ki kp L w) := by
  refine (rat_any g m f ip hold si sp ki kp room v L h.hw h.r1 h.r2 h.n w h.box h.row (fun k hk => (h.vS k hk).2)).mono ?_
  rintro e w' ⟨he, v', L', h1, h2, h3, h4, h5, h6, h7⟩
  obtain ⟨A, x, B, q1, q2⟩ := holdW_find (si := si) (sp := sp) (ki := ki) (kp := kp) h.hw h.r1
  have hlen : (findP room si sp ki kp (L.map (·.1))).1 < L'.length := by
    have : L'.length = (L'.map (·.1)).length := by simp
    rw [this, h1, q1]; simp
  have hlt : ∀ k, v'.v.ownBlock = some k → k < w'.heap.size := fun k hk => (World.ownsRow.lt h5 k hk).2
  refine ⟨he, v', L', h1, hlen, ⟨h4, h5, h3, .inl h.gS, fun k hk => ?_, fun y hy => ?_, grown_lt h.lt h7.size, by rw [h1, q1]; exact q2, h.r1, h.r2, h.h1, h.h2, fun y hy => ?_⟩, h7⟩
  · rcases h6 k hk with h8 | h8
    · exact ⟨.inl (h.vS k h8).1, (h.vS k h8).2⟩
    · exact ⟨.inr ⟨h8, hlt k hk⟩, by have := h.lt g h.gS; omega⟩
  · rcases h2 y hy with h8 | ⟨p, rfl⟩
    · have h9 := h.met y h8
      refine ⟨h9.1, h9.2.1.touch h7 (fun b e => (h9.2.2 b e).2.1), fun b e => ⟨.inl (h9.2.2 b e).1, (h9.2.2 b e).2.1, fun e2 => ?_⟩⟩
      rcases h6 b e2 with h10 | h10
      · exact (h9.2.2 b e).2.2 h10
      · have := h.lt b (h9.2.2 b e).1; omega
    · exact ⟨⟨rfl, fun _ => rfl⟩, RdA.nil _ _ _, fun b e => by simp [Value.ownBlock] at e⟩
  · rcases h2 y hy with h8 | ⟨p, rfl⟩
    · exact h.m16 y h8
    · exact Nat.zero_le _
/-- what belongs to the box is of S, or new, but not the call's own three boxes -/
def ROk (S S' : Nat → Prop) (w : World) : Prop := ∀ k, S' k → (S k ∨ w.heap.size ≤ k) ∧ k ≠ w.heap.size ∧ k ≠ w.heap.size + 1 ∧ k ≠ w.heap.size + 1 + 1
theorem ROk.grown {S S' : Nat → Prop} {w w1 w2 : World} (h : ROk S S' w) (hl : w.heap.size + 1 + 1 < w1.heap.size) : ROk S (grownS S' w1 w2) w := fun k hk => by
  rcases hk with hk | ⟨h1, h2⟩
  · exact h k hk
  · exact ⟨.inr (by omega), by omega, by omega, by omega⟩
structure RoB (S : Nat → Prop) (w : World) (si sp di dp : Int) (g : Nat) (m f ip hold : Int) (room : Nat) (S1 : Nat → Prop) (v : Sl) (L : List Bd) (w1 : World) : Prop where
  b : RBs g S1 m f ip hold room v L w1
  x : Cs w.heap.size [.int .u32 si, .int .u16 sp] w1
  y : Cs (w.heap.size + 1) [.int .u32 di, .int .u16 dp] w1
  z : Cs (w.heap.size + 1 + 1) [.int .u32 0, .int .u16 0] w1
  t : Touch S w w1
  ok : ROk S S1 w
section
variable {S S1 : Nat → Prop} {w w1 w2 : World} {si sp di dp m f ip hold : Int} {g room : Nat} {v v' : Sl} {L L' : List Bd}
theorem RoB.keep (h : RoB S w si sp di dp g m f ip hold room S1 v L w1) (hb : Below w1.heap.size w1 w2) : RoB S w si sp di dp g m f ip hold room S1 v L w2 :=
  ⟨h.b.keep hb, h.x.keep hb, h.y.keep hb, h.z.keep hb, h.t.trans (Touch.of_below S hb) (fun _ _ h => h), h.ok⟩
theorem RoB.aft (h : RoB S w si sp di dp g m f ip hold room S1 v L w1) (h1 : RBs g (grownS S1 w1 w2) m f ip hold room v' L' w2) (ht : Touch S1 w1 w2) : RoB S w si sp di dp g m f ip hold room (grownS S1 w1 w2) v' L' w2 := by
  refine ⟨h1, h.x.touch ht (fun e => (h.ok _ e).2.1 rfl), h.y.touch ht (fun e => (h.ok _ e).2.2.1 rfl), h.z.touch ht (fun e => (h.ok _ e).2.2.2 rfl), h.t.trans ht (fun k hk e => ?_), h.ok.grown h.z.lt⟩
  rcases (h.ok k e).1 with h2 | h2
  · exact h2
  · omega
/-- the same, of the same blocks -/
theorem RoB.set (h : RoB S w si sp di dp g m f ip hold room S1 v L w1) (h1 : RBs g S1 m f ip hold room v' L' w2) (ht : Touch S1 w1 w2) : RoB S w si sp di dp g m f ip hold room S1 v' L' w2 := by
  refine ⟨h1, h.x.touch ht (fun e => (h.ok _ e).2.1 rfl), h.y.touch ht (fun e => (h.ok _ e).2.2.1 rfl), h.z.touch ht (fun e => (h.ok _ e).2.2.2 rfl), h.t.trans ht (fun k hk e => ?_), h.ok⟩
  rcases (h.ok k e).1 with h2 | h2
  · exact h2
  · omega
theorem RoB.start (h : RBs g S m f ip hold room v L w) : RoB S w si sp di dp g m f ip hold room S v L (((w.alloc (.cells #[.int .u32 si, .int .u16 sp] 44)).alloc (.cells #[.int .u32 di, .int .u16 dp] 44)).alloc (.cells #[.int .u32 0, .int .u16 0] 44)) := by
  have hb : Below w.heap.size w (((w.alloc (.cells #[.int .u32 si, .int .u16 sp] 44)).alloc (.cells #[.int .u32 di, .int .u16 dp] 44)).alloc (.cells #[.int .u32 0, .int .u16 0] 44)) := by (repeat (first | with_reducible exact Below.refl _ _ | with_reducible refine Below.drew ?_ | with_reducible refine below_drewN ?_ _ | with_reducible refine Below.alloc ?_ (by first | omega | (simp; done) | (simp; omega)) _ | with_reducible refine Below.setCell ?_ (by first | omega | (simp; done) | (simp; omega)) _))
  have h1 := Cs.new (w.alloc (.cells #[.int .u32 si, .int .u16 sp] 44)) [.int .u32 di, .int .u16 dp] 44
  have h2 := Cs.new ((w.alloc (.cells #[.int .u32 si, .int .u16 sp] 44)).alloc (.cells #[.int .u32 di, .int .u16 dp] 44)) [.int .u32 0, .int .u16 0] 44
  simp only [World.size_alloc] at h1 h2
  refine ⟨h.keep hb, ((Cs.new w [.int .u32 si, .int .u16 sp] 44).alloc _).alloc _, h1.alloc _, h2, Touch.of_below S hb, fun k hk => ?_⟩
  have := h.lt k hk
  exact ⟨.inl hk, by omega, by omega, by omega⟩
end
end Go.Proofs.Ytnemmnndaoaadaa
