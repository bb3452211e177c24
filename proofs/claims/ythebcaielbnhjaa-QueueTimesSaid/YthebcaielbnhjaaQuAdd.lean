/- The queue's lay, Add. -/
import Derived.Test.YthebcaielbnhjaaQuLast
namespace Go.Proofs.Ythebcaielbnhjaa
open Go.Sort Go.RowKit Go.BigFrame
set_option linter.unusedVariables false
set_option linter.unusedSimpArgs false

/-- one item more, behind all -/
theorem Lq.app {g room g1 cap1 : Nat} {v : Sl} {L : List Im} {x : Im} {w wc w9 : World} (h : Lq g room v L w) (hb : Below w.heap.size w wc) (hown : w9.ownsRow 0 61 6 (.slice (some ⟨g1, 0, none⟩) (L.length + 1) cap1) (L.length + 1) ((L.map ci).flatten ++ ci x))
    (hgrow : wc.grownBy w9 v.v.ownBlock) (hat : v.v.ownBlock = some g1 ∨ g1 = wc.heap.size) :
    Lq g room ⟨some ⟨g1, 0, none⟩, L.length + 1, cap1⟩ (L ++ [x]) (w9.setCell ⟨g, 1, none⟩ (.slice (some ⟨g1, 0, none⟩) (L.length + 1) cap1)) ∧ Touch (OwnS g v) w (w9.setCell ⟨g, 1, none⟩ (.slice (some ⟨g1, 0, none⟩) (L.length + 1) cap1)) ∧
      (∀ b, OwnS g ⟨some ⟨g1, 0, none⟩, L.length + 1, cap1⟩ b → OwnS g v b ∨ w.heap.size ≤ b) ∧ Cs g (qc true room v) w9 := by
  have ht0 : Touch (fun b => v.v.ownBlock = some b) wc w9 := Touch.of_grown hgrow (fun _ h => h)
  have ht : Touch (fun b => v.v.ownBlock = some b) w w9 := (Touch.of_below _ hb).trans ht0 (fun _ _ h => h)
  have hne : g1 ≠ g := fun e => by
    subst e
    rcases hat with h1 | h1
    · exact h.ne h1
    · have := h.box.lt; have := hb.size; omega
  have hr : ERow ci 6 61 w9 (Sl.v ⟨some ⟨g1, 0, none⟩, L.length + 1, cap1⟩) (L ++ [x]) := erow_snoc rfl hown
  refine ⟨⟨?_, ?_, ?_⟩, ?_, fun b hb2 => ?_, h.box.touch ht h.ne⟩
  · have hx := h.box.touch ht h.ne
    exact hx.set 1 (.slice (some ⟨g1, 0, none⟩) (L.length + 1) cap1) (by simp [qc])
  · exact erow_touch hr (Touch.set (F := fun b => b = g) (Touch.refl _ w9) (fun _ => rfl) _) (fun b hb e => by
      have : g1 = b := Option.some.inj hb
      omega)
  · intro e; exact hne (Option.some.inj e)
  · have t2 : Touch (OwnS g v) w w9 := ht.mono (fun b _ hb => Or.inr hb)
    exact t2.set (a := ⟨g, 1, none⟩) (fun _ => Or.inl rfl) _
  · rcases hb2 with rfl | hb2
    · exact .inl (.inl rfl)
    · have e : g1 = b := Option.some.inj hb2
      subst e
      rcases hat with h1 | h1
      · exact .inl (.inr h1)
      · exact .inr (by have := hb.size; omega)
def LqAft (g room : Nat) (v : Sl) (L : List Im) (w w' : World) : Prop := ∃ v', Lq g room v' L w' ∧ Touch (OwnS g v) w w' ∧ ∀ b, OwnS g v' b → OwnS g v b ∨ w.heap.size ≤ b
def LayPost (g room : Nat) (v : Sl) (S' : List Im) (w : World) (e : Ending) (w' : World) : Prop := e = .returned (.tuple #[]) ∧ Aft true g room v S' w w'
theorem lq_of {g room : Nat} {v : Sl} {S : List Im} {w : World} (h : Qs true g room v S w) : ∃ L, Lq g room v L w ∧ L.Perm S := by
  obtain ⟨L, h1, h2⟩ := h.row
  exact ⟨L, ⟨h.box, h1, h.ne⟩, h2⟩
set_option maxHeartbeats 3200000 in
set_option maxRecDepth 100000 in
theorem lay_any (g room : Nat) (v : Sl) (S : List Im) (x : Im) (hx : OkI x) (hid : ∀ y ∈ S, y.r.id ≠ x.r.id) (w : World) (h : Qs true g room v S w) :
    Calls Try.prog 31 #[.pointer (some ⟨g, 0, none⟩), .agg #[.int .i64 x.r.id, .int .i64 x.r.st, .int .u32 x.r.n, .int .u32 x.r.ip, .int .u16 x.r.port, .int .i64 x.left]] w (LayPost g room v ((putS x S).take room) w) := by
  obtain ⟨L, hLq, hperm⟩ := lq_of h
  have hlen := hperm.length_eq
  have hroom := h.ok.len
  have r1 := h.r1
  have r2 := h.r2
  have hsrt := put_srt h.ok.srt hid
  have hrest : restS S x.r.id = S := rest_none hid
  have hok' : OkS room ((putS x S).take room) := by
    have := add_ok (room := room) h.ok hx.ok x.left
    unfold addS at this
    have he : errA S x.r x.left = 0 := by
      unfold errA
      rw [if_pos (by rw [hx.right, fit_iff.2 ⟨hx.l1, hx.l2⟩]; rfl), bad_none hid]; rfl
    rw [if_pos he, hrest] at this
    exact this
  have FEW : Hid (∀ v' w', Lq g room v' (L ++ [x]) w' → S.length < room → Qs true g room v' ((putS x S).take room) w') := fun v' w' h1 h2 => ⟨h1.box, ⟨_, h1.row, lay_few hperm h2⟩, h1.ne, r1, r2, hok'⟩
  have MANY : Hid (∀ v' w1 w2 (n2 : Nat) j, Lq g room v' (L ++ [x]) w1 → S.length = room → IsLast (L ++ [x]) j → ERow ci 6 61 w2 (Sl.v ⟨v'.a, n2, v'.c⟩) ((L ++ [x]).eraseIdx j) → Touch (fun b => v'.v.ownBlock = some b) w1 w2 → Aft true g room v' ((putS x S).take room) w1 (w2.setCell ⟨g, 1, none⟩ (.slice v'.a n2 v'.c)) ∧ Cs g (qc true room v') w2) :=
    fun v' w1 w2 n2 j h1 h2 h3 h4 h5 => ⟨put_row (k := true) (v' := ⟨v'.a, n2, v'.c⟩) h1.box h1.ne r1 r2 h4 (lay_many hperm h2 hsrt h3) h5 (fun b hb => .inl (own_eq hb)) hok', h1.box.touch h5 h1.ne⟩
  have HL := Lib.hid hLq
  have hn := hLq.n
  obtain ⟨i0, hi0, hz0, hz1, hz2⟩ := info_parts info_item
  have hL64 : L.length ≤ 64 := by omega
  have hSr := Lib.hid (show L.length = S.length from hlen)
  have hroom' : L.length ≤ room := by omega
  have HO := ci_enc.one x
  clear h hLq hperm hlen hsrt hrest hok' hid hx hroom
  generalize (putS x S).take room = S' at *
  obtain ⟨⟨i1, s1, n1, a1, p1⟩, l1⟩ := x
  obtain ⟨av, vn, vc⟩ := v
  simp only at hn
  subst hn
  simp only at *
  go_enter Try.func31, Try.ntmps31
  have X0 : Cs w.heap.size (ci ⟨⟨i1, s1, n1, a1, p1⟩, l1⟩) (w.alloc (.cells #[.int .i64 i1, .int .i64 s1, .int .u32 n1, .int .u32 a1, .int .u16 p1, .int .i64 l1] 61)) := Cs.new w (ci ⟨⟨i1, s1, n1, a1, p1⟩, l1⟩) 61
  have B0 : Hid (Below w.heap.size w (w.alloc (.cells #[.int .i64 i1, .int .i64 s1, .int .u32 n1, .int .u32 a1, .int .u16 p1, .int .i64 l1] 61))) := (Below.refl _ w).alloc (Nat.le_refl _) _
  go_upto_region 1 with fail
  generalize (w.alloc (.cells #[.int .i64 i1, .int .i64 s1, .int .u32 n1, .int .u32 a1, .int .u16 p1, .int .i64 l1] 61)) = w1 at *
  have HL1 := Lib.hid (HL.out.keep B0.out)
  have KQ : Hid (∀ w', Below w1.heap.size w1 w' → ERow ci 6 61 w' (.slice av L.length vc) L) := fun w' hb => (HL1.out.keep hb).row
  have x1 := HL1.out.box.cell 1 _ rfl
  have xf := HL1.out.box.free 1 _ rfl
  have gl := HL1.out.box.lt
  have c0 := X0.cell 0 _ rfl
  have c1 := X0.cell 1 _ rfl
  have c2 := X0.cell 2 _ rfl
  have c3 := X0.cell 3 _ rfl
  have c4 := X0.cell 4 _ rfl
  have c5 := X0.cell 5 _ rfl
  clear X0
  go_cut [] (fun wx => LqAft g room ⟨av, L.length, vc⟩ (L ++ [⟨⟨i1, s1, n1, a1, p1⟩, l1⟩]) w1 wx)
  case first =>
    go_region_law (first
      | (refine step_append_lies _ (by rfl) _ _ _ (by rfl) 0 61 i0 _ 6 40 Try.underlying54 hi0 hz0 hz1 hz2 rfl (by omega) (.slice av L.length vc) L.length (L.map ci).flatten (by rfl) (KQ.out _ (by (repeat (first | with_reducible exact Below.refl _ _ | with_reducible refine Below.drew ?_ | with_reducible refine below_drewN ?_ _ | with_reducible refine Below.alloc ?_ (by first | omega | (simp; done) | (simp; omega)) _ | with_reducible refine Below.setCell ?_ (by first | omega | (simp; done) | (simp; omega)) _)))) ⟨_, 0, none⟩ 1 1 (ci ⟨⟨i1, s1, n1, a1, p1⟩, l1⟩) (by rfl) (by rfl) (World.news_of_block (cs := (ci ⟨⟨i1, s1, n1, a1, p1⟩, l1⟩).toArray) (t := 61) (fr := (0, 0)) (heap_alloc_new _ _)) HO (by omega) (by unfold maxLen; omega) (by omega) (Nat.zero_le _) _ rfl ?_; intro g1 cap1 w9 hown hgrow hat hlt9; obtain ⟨q1, q2, q3, q4⟩ := Lq.app (x := ⟨⟨i1, s1, n1, a1, p1⟩, l1⟩) HL1.out (by (repeat (first | with_reducible exact Below.refl _ _ | with_reducible refine Below.drew ?_ | with_reducible refine below_drewN ?_ _ | with_reducible refine Below.alloc ?_ (by first | omega | (simp; done) | (simp; omega)) _ | with_reducible refine Below.setCell ?_ (by first | omega | (simp; done) | (simp; omega)) _))) hown hgrow (hat.imp id (fun h => by rw [h])); have AF : Hid (LqAft g room ⟨av, L.length, vc⟩ (L ++ [⟨⟨i1, s1, n1, a1, p1⟩, l1⟩]) w1 _) := ⟨_, q1, q2, q3⟩; clear x1 xf gl; have x1 := q4.cell 1 _ rfl; have xf := q4.free 1 _ rfl; have gl := q4.lt; clear q1 q2 q3 q4 hown hgrow hat))
    all_goals go_wp2
    all_goals go_meet
    all_goals exact AF.out
  case rest =>
    obtain ⟨v', hq, ht, ho⟩ := hcut
    generalize wc = w2 at *
    have HM : Hid ((L ++ [(⟨⟨i1, s1, n1, a1, p1⟩, l1⟩ : Im)]).length = L.length + 1) := by show _ = _; simp
    have HT := Lib.hid ht
    have HW := Lib.hid ho
    have HQ := Lib.hid hq
    clear x1 xf gl c0 c1 c2 c3 c4 c5 KQ HL HL1 HO ht ho
    generalize L ++ [(⟨⟨i1, s1, n1, a1, p1⟩, l1⟩ : Im)] = M at *
    have hMl : M.length = L.length + 1 := HM.out
    have hn := hq.n
    obtain ⟨gv, cap2, hv, _⟩ : ∃ gv cap2, v' = ⟨some ⟨gv, 0, none⟩, M.length, cap2⟩ ∧ True := by
      rcases erow_form hq.row with ⟨_, e⟩ | ⟨gv, cap2, e, _⟩
      · rw [e] at hMl; simp at hMl
      · obtain ⟨a', n', c'⟩ := v'
        simp only [Sl.v, Value.slice.injEq] at e
        obtain ⟨rfl, rfl, rfl⟩ := e
        exact ⟨gv, _, rfl, trivial⟩
    subst hv
    have x0 := hq.box.cell 0 _ rfl
    have x1 := hq.box.cell 1 _ rfl
    have gl := hq.box.lt
    have hM1 : 0 < M.length := by omega
    have hM2 : M.length ≤ 65 := by omega
    clear hq hn hMl
    simp only at x1
    by_cases hfew : L.length < room
    · have hc0 : ¬ room < M.length := by have := HM.out; omega
      have hc1 : ¬ (room : Int) < M.length := by omega
      have hc : decide ((room : Int) < M.length) = false := decide_eq_false hc1
      have QF := Lib.hid (FEW.out _ _ HQ.out (by have := hSr.out; omega))
      have AF : Hid (∀ n, Aft true g room ⟨av, L.length, vc⟩ S' w (w2.drewN n)) := fun n => Aft.after B0.out (Aft.trans HT.out HW.out (QF.out.same (below_drewN (Below.refl _ _) n)))
      clear FEW MANY HQ hfew
      go_upto_region 2 with fail
      go_quiet (fail)
      go_wp2
      go_end0
      exact ⟨rfl, AF.out _⟩
    · have hc0 : room < M.length := by have := HM.out; omega
      have hc1 : (room : Int) < M.length := by omega
      have hc : decide ((room : Int) < M.length) = true := decide_eq_true hc1
      have hr : Hid (S.length = room) := by have := hSr.out; show _ = _; omega
      have KL := fun n => last_any g room ⟨some ⟨gv, 0, none⟩, M.length, cap2⟩ M hM1 (by omega) (w2.drewN n) (HQ.out.keep (below_drewN (Below.refl _ _) n))
      clear FEW hfew
      go_upto_region 2 with fail
      go_quiet (fail)
      go_wp2_with fail
      refine (KL _).mono ?_; rintro e w3 ⟨j, rfl, hj, b3⟩
      have B3 : Hid (Below w2.heap.size w2 w3) := (below_drewN (Below.refl _ _) _).trans b3
      have H3 := Lib.hid (HQ.out.keep B3.out)
      have hjl := hj.1
      have KD := delI_any gv cap2 j M hjl (by omega) w3 H3.out.row
      have HJ := Lib.hid hj
      clear KL b3 hj x0 x1 gl
      have x1 := H3.out.box.cell 1 _ rfl
      have gl := H3.out.box.lt
      go_wp2_with fail
      refine KD.mono ?_; rintro e w4 ⟨rfl, hr4, ht4⟩
      obtain ⟨af, bx4⟩ := MANY.out ⟨some ⟨gv, 0, none⟩, M.length, cap2⟩ w3 w4 (M.length - 1) j H3.out hr.out HJ.out hr4 (ht4.mono (fun k _ h => own_eq h))
      have AF := Lib.hid (Aft.after B0.out (Aft.trans HT.out HW.out (Aft.after B3.out af)))
      clear KD hr4 ht4 af x1 gl MANY
      have x1 := bx4.cell 1 _ rfl
      have xf := bx4.free 1 _ rfl
      have gl := bx4.lt
      clear bx4
      go_wp2
      go_end0
      exact ⟨rfl, AF.out⟩
end Go.Proofs.Ythebcaielbnhjaa
