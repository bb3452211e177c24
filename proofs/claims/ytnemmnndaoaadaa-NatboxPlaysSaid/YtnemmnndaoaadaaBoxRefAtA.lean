/- The reference's box: at, whole. -/
import Derived.Test.YtnemmnndaoaadaaBoxRefAtN
namespace Go.Proofs.Ytnemmnndaoaadaa
open Go.Sort Go.RowKit Go.BigFrame
set_option linter.unusedVariables false
set_option linter.unusedSimpArgs false

/-- behind at: the place; the list with the binding in it, found or new; only the box's cells are written -/
def RAtAny (g : Nat) (m f ip hold : Int) (room : Nat) (v : Sl) (si sp ki kp : Int) (L : List Bd) (w : World) (e : Ending) (w' : World) : Prop :=
  e = .returned (.int .i64 ((findP room si sp ki kp (L.map (·.1))).1 : Nat)) ∧ ∃ (v' : Sl) (L' : List Bd), L'.map (·.1) = (findP room si sp ki kp (L.map (·.1))).2 ∧ (∀ x ∈ L', x ∈ L ∨ ∃ p, x = (newP si sp ki kp p, ⟨none, 0, 0⟩)) ∧ v'.n = L'.length ∧ Cs g (bcells m f ip hold room v') w' ∧ RfRow 0 w' v'.v L' ∧ (∀ k, v'.v.ownBlock = some k → v.v.ownBlock = some k ∨ w.heap.size ≤ k) ∧ Touch (fun k => k = g) w w'
theorem rat_any (g : Nat) (m f ip hold si sp ki kp : Int) (room : Nat) (v : Sl) (L : List Bd) (hh : HoldW room (L.map (·.1))) (hrm : 1 ≤ room) (hrm2 : room ≤ 64) (hvn : v.n = L.length) (w : World) (hx : Cs g (bcells m f ip hold room v) w) (hr : RfRow 0 w v.v L) (hne : ∀ k, v.v.ownBlock = some k → k ≠ g) :
    Calls Try.prog 37 #[.pointer (some ⟨g, 0, none⟩), .agg #[.int .u32 si, .int .u16 sp], .agg #[.int .u32 ki, .int .u16 kp]] w (RAtAny g m f ip hold room v si sp ki kp L w) := by
  have hlen : L.length ≤ room := by have := hh.len; rw [List.length_map] at this; exact this
  cases e : L.findIdx? (fun x => isP si sp ki kp x.1) with
  | some j =>
    rw [List.findIdx?_eq_some_iff_getElem] at e
    obtain ⟨hj, h1, h2⟩ := e
    have hfi : (L.map (·.1)).findIdx? (isP si sp ki kp) = some j := by
      rw [List.findIdx?_eq_some_iff_getElem]
      exact ⟨by simpa using hj, by simpa using h1, fun i hi => by have := h2 i hi; simpa using this⟩
    have hfp : findP room si sp ki kp (L.map (·.1)) = (j, L.map (·.1)) := by unfold findP; rw [hfi]
    refine (rat_found g j m f ip hold si sp ki kp room v L hj h1 (fun i h hi => by have := h2 i hi; simpa using this) (by omega) hvn w hx (rrow_rd (by have := hr; unfold Sl.v at this; exact this))).mono ?_
    rintro e w' ⟨rfl, hb⟩
    refine ⟨by rw [hfp], v, L, by rw [hfp], fun x hx => .inl hx, hvn, hx.keep hb, rrow_touch (F := fun _ => False) hr (Touch.of_below _ hb) (fun _ _ h => h), fun k hk => .inl hk, Touch.of_below _ hb⟩
  | none =>
    rw [List.findIdx?_eq_none_iff] at e
    have hfi : (L.map (·.1)).findIdx? (isP si sp ki kp) = none := by
      rw [List.findIdx?_eq_none_iff]
      intro b hb
      obtain ⟨x, hx, rfl⟩ := List.mem_map.1 hb
      exact e x hx
    have hev : (evB room L).map (·.1) = evictP room (L.map (·.1)) := by rw [evB_fst, rfEvict_eq hh]
    have hfp : findP room si sp ki kp (L.map (·.1)) = (freeF 0 ((evB room L).map (·.1)), insP ((evB room L).map (·.1)) (freeF 0 ((evB room L).map (·.1))) (newP si sp ki kp (freeF 0 ((evB room L).map (·.1))))) := by unfold findP; rw [hfi, hev]
    refine (rat_new g m f ip hold si sp ki kp room v L (fun i h => e _ (List.getElem_mem h)) (fun x hx => by have := hh.po _ (List.mem_map.2 ⟨x, hx, rfl⟩); omega) hlen hrm hrm2 hvn w hx hr hne).mono ?_
    rintro e w' ⟨rfl, v', h1, h2, h3, h4⟩
    refine ⟨by rw [hfp], v', _, by rw [hfp, ins_fst], fun x hx => ?_, h1, h2, own_low h3 (Nat.zero_le _), fun k hk => .inr (World.ownsRow.lt h3 k hk).1, h4⟩
    rcases mem_ins hx with rfl | hx
    · exact .inr ⟨_, rfl⟩
    · exact .inl (evB_sub hx)
end Go.Proofs.Ytnemmnndaoaadaa
