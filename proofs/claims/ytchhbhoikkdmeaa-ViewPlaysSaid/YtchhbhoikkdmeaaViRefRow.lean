/- The reference's view: what a store makes of it. -/
import Derived.Test.YtchhbhoikkdmeaaViRef
namespace Go.Proofs.Ytchhbhoikkdmeaa
open Go.Sort Go.RowKit Go.BigFrame
set_option linter.unusedVariables false
set_option linter.unusedSimpArgs false

theorem info_rrec : (Try.prog.info? 48).map (fun i => (i.zero, i.size, i.bytes)) = some (some (.agg #[.int .i64 0, .int .i64 0, .int .u32 0, .int .u32 0, .int .u16 0]), 5, 32) := by kernel_rfl
theorem info_rev : (Try.prog.info? 90).map (fun i => (i.zero, i.size, i.bytes)) = some (some (.agg #[.int .i64 0, .int .i64 0, .int .i64 0, .int .u32 0]), 4, 32) := by kernel_rfl
section
variable {g : Nat} {vl ve : Sl} {v V' : Vw} {w w2 w9 : World}
/-- an event is appended, and the slice stored -/
theorem Rs.app (h : Rs g vl ve v w) {x : Ev} {g1 cap1 : Nat} (hm : membersV V' = membersV v) (hE : V'.E = v.E ++ [x]) (hok : OkV V')
    (hown : w9.ownsRow 0 90 4 (.slice (some ⟨g1, 0, none⟩) (v.E.length + 1) cap1) (v.E.length + 1) ((v.E.map ce).flatten ++ ce x)) (hg : w.grownBy w9 (Value.slice ve.a v.E.length ve.c).ownBlock) (hat : (Value.slice ve.a v.E.length ve.c).ownBlock = some g1 ∨ g1 = w.heap.size) :
    RAft g vl ve V' w (w9.setCell ⟨g, 1, none⟩ (.slice (some ⟨g1, 0, none⟩) (v.E.length + 1) cap1)) ∧ Cs g [.slice vl.a vl.n vl.c, .slice ve.a ve.n ve.c] w9 := by
  have hoe : ∀ k, (Value.slice ve.a v.E.length ve.c).ownBlock = some k ↔ ve.v.ownBlock = some k := fun k => ⟨fun e => own_eq e, fun e => own_eq e⟩
  have ht : Touch (fun k => ve.v.ownBlock = some k) w w9 := Touch.of_grown hg (fun k hk => (hoe k).1 hk)
  have hbox := h.box.touch ht h.ne2
  have hgl := h.box.lt
  have hng : g1 ≠ g := fun e => by
    subst e
    rcases hat with h1 | h1
    · exact h.ne2 ((hoe _).1 h1)
    · omega
  have hrow : ERow ce 4 90 w9 (.slice (some ⟨g1, 0, none⟩) (v.E.length + 1) cap1) V'.E := by rw [hE]; exact erow_snoc rfl hown
  have tset : Touch (fun k => k = g) w9 (w9.setCell ⟨g, 1, none⟩ (.slice (some ⟨g1, 0, none⟩) (v.E.length + 1) cap1)) := Touch.set (F := fun k => k = g) (Touch.refl _ w9) (fun _ => rfl) _
  refine ⟨⟨vl, ⟨some ⟨g1, 0, none⟩, v.E.length + 1, cap1⟩, ⟨?_, ?_, ?_, h.ne1, ?_, ?_, hok⟩, ?_, ?_⟩, hbox⟩
  · exact hbox.set 1 (.slice (some ⟨g1, 0, none⟩) (v.E.length + 1) cap1) (by simp)
  · rw [hm]
    exact erow_touch (erow_touch h.row ht (fun b hb e => h.ne3 b hb e)) tset (fun b hb e => h.ne1 (by rw [← e]; exact hb))
  · exact erow_touch hrow tset (fun b hb e => hng (by
      have e1 : g1 = b := Option.some.inj hb
      omega))
  · intro e
    have e1 : g1 = g := Option.some.inj e
    exact hng e1
  · intro b hb e
    have e1 : g1 = b := Option.some.inj e
    subst e1
    rcases hat with h1 | h1
    · exact h.ne3 _ hb ((hoe _).1 h1)
    · have := erow_lt h.row hb; omega
  · exact (ht.mono (F' := OwnV g vl ve) (fun k _ hk => .inr (.inr hk))).trans tset (fun k _ hk => .inl hk)
  · rintro b (rfl | hb | hb)
    · exact .inl (.inl rfl)
    · exact .inl (.inr (.inl hb))
    · have e1 : g1 = b := Option.some.inj hb
      subst e1
      rcases hat with h1 | h1
      · exact .inl (.inr (.inr ((hoe _).1 h1)))
      · exact .inr (by omega)
/-- a new row of records is stored -/
theorem Rs.put0 (h : Rs g vl ve v w) {vl' : Sl} (hr : ERow rcs 5 48 w2 vl'.v (membersV V')) (hb : Below w.heap.size w w2) (hn : ∀ b, vl'.v.ownBlock = some b → w.heap.size ≤ b) (hE : V'.E = v.E) (hok : OkV V') :
    Rs g vl' ve V' (w2.setCell ⟨g, 0, none⟩ (.slice vl'.a vl'.n vl'.c)) ∧ Touch (OwnV g vl ve) w (w2.setCell ⟨g, 0, none⟩ (.slice vl'.a vl'.n vl'.c)) ∧ (∀ b, OwnV g vl' ve b → OwnV g vl ve b ∨ w.heap.size ≤ b) ∧ Cs g [.slice vl.a vl.n vl.c, .slice ve.a ve.n ve.c] w2 := by
  have h2 := h.keep hb
  have hgl := h.box.lt
  have tset : Touch (fun k => k = g) w2 (w2.setCell ⟨g, 0, none⟩ (.slice vl'.a vl'.n vl'.c)) := Touch.set (F := fun k => k = g) (Touch.refl _ w2) (fun _ => rfl) _
  refine ⟨⟨?_, ?_, ?_, ?_, h.ne2, ?_, hok⟩, ?_, ?_, h2.box⟩
  · exact h2.box.set 0 (.slice vl'.a vl'.n vl'.c) (by simp)
  · exact erow_touch hr tset (fun b hb2 e => by have := hn b hb2; omega)
  · rw [hE]; exact erow_touch h2.ev tset (fun b hb2 e => h.ne2 (by rw [← e]; exact hb2))
  · exact fun e => by have := hn g e; omega
  · intro b hb2 e
    have := hn b hb2
    have := erow_lt h.ev e
    omega
  · exact (Touch.of_below (OwnV g vl ve) hb).trans tset (fun k _ hk => .inl hk)
  · rintro b (rfl | hb2 | hb2)
    · exact .inl (.inl rfl)
    · exact .inr (hn b hb2)
    · exact .inl (.inr (.inr hb2))
/-- a record is stored where one stood -/
theorem Rs.set {b n c : Nat} (h : Rs g ⟨some ⟨b, 0, none⟩, n, c⟩ ve v w) {p : Nat} {r : Rec} (hp : p < (membersV v).length) (hm : membersV V' = (membersV v).set p r) (hE : V'.E = v.E) (hok : OkV V') :
    Rs g ⟨some ⟨b, 0, none⟩, n, c⟩ ve V' (w.setCells b (p * 5) (rcs r)) ∧ Touch (OwnV g ⟨some ⟨b, 0, none⟩, n, c⟩ ve) w (w.setCells b (p * 5) (rcs r)) ∧ (∀ o, w.frozen? ⟨b, o, none⟩ = false) := by
  have hob : (Sl.v ⟨some ⟨b, 0, none⟩, n, c⟩).ownBlock = some b := rfl
  have ts : Touch (fun k => k = b) w (w.setCells b (p * 5) (rcs r)) := Touch.sets (F := fun k => k = b) (Touch.refl _ w) b (fun _ => rfl) _ _
  obtain ⟨hn, C, hC, hcl, hct, hcc, hcm⟩ := erow_open rcs_enc (show ERow rcs 5 _ w (.slice (some ⟨b, 0, none⟩) n c) _ from h.row)
  have hbg : b ≠ g := fun e => h.ne1 (by rw [hob, e])
  refine ⟨⟨h.box.touch ts (fun e => hbg e.symm), ?_, ?_, h.ne1, h.ne2, h.ne3, hok⟩, ts.mono (fun k _ hk => by subst hk; exact .inr (.inl hob)), fun o => hC.free o⟩
  · have hC2 := hC.put p (rcs r) rfl (by omega)
    have := hC2.own (n := (membersV v).length) (by rw [List.length_set]; omega) (by rw [List.length_set]; omega)
    rw [List.length_set, hcl, List.take_set, hct] at this
    have e : ((membersV v).map rcs).set p (rcs r) = (membersV V').map rcs := by rw [hm, List.map_set]
    rw [e] at this
    show World.ownsRow _ _ _ _ _ _ _
    rw [hm, List.length_set, ← hm]
    rw [hn]
    exact this
  · rw [hE]; exact erow_touch h.ev ts (fun k hk e => h.ne3 b hob (by rw [← e]; exact hk))
end
end Go.Proofs.Ytchhbhoikkdmeaa
