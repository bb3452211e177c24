/- A law's state: views, and slices of our own beside them, all in memory made since the law began. -/
import Derived.Test.YtchhbhoikkdmeaaViMerge
namespace Go.Proofs.Ytchhbhoikkdmeaa
open Go.Sort Go.RowKit Go.BigFrame
set_option linter.unusedVariables false
set_option linter.unusedSimpArgs false

theorem live_is (v : Vw) : liveTo v 33 = liveV v := rfl
theorem live_any' (g : Nat) (v : Vw) (w : World) (h : Vs g v w) :
    Calls Try.prog 22 #[.pointer (some ⟨g, 0, none⟩)] w (NewPost c64 1 3 (liveV v) w) := by rw [← live_is]; exact live_all g v w h
/-- a slice of our own, whatever its elements -/
structure It where
  T : TypeId
  z : Nat
  v : Sl
  n : Nat
  xs : List Value
def iR (u : Sl) (L : List Rec) : It := ⟨37, 5, u, L.length, (L.map rcs).flatten⟩
def iE (u : Sl) (L : List Ev) : It := ⟨74, 4, u, L.length, (L.map ce).flatten⟩
def iI (u : Sl) (L : List Int) : It := ⟨3, 1, u, L.length, (L.map c64).flatten⟩
def It.holds (r : It) (w : World) : Prop := w.ownsRow 0 r.T r.z r.v.v r.n r.xs
/-- a record's own variable -/
def bR (b : Nat) (r : Rec) : It := iR ⟨some ⟨b, 0, none⟩, 1, 1⟩ [r]
structure LS (w0 : World) (V : List (Nat × Vw)) (R : List It) (w : World) : Prop where
  vs : ∀ p ∈ V, Vs p.1 p.2 w
  lo : ∀ p ∈ V, w0.heap.size ≤ p.1
  nd : (V.map Prod.fst).Nodup
  rows : ∀ r ∈ R, r.holds w ∧ ∀ b, r.v.v.ownBlock = some b → w0.heap.size ≤ b ∧ ∀ p ∈ V, p.1 ≠ b
  apart : R.Pairwise fun r s => ∀ b, r.v.v.ownBlock = some b → s.v.v.ownBlock ≠ some b
  below : Below w0.heap.size w0 w
section
variable {w0 w w' : World} {V V1 V2 : List (Nat × Vw)} {R R' : List It} {r r' : It} {g : Nat} {v v' : Vw}
theorem It.lt (h : r.holds w) {b : Nat} (hb : r.v.v.ownBlock = some b) : b < w.heap.size := (World.ownsRow.lt h b hb).2
theorem LS.start (w0 w : World) (hb : Below w0.heap.size w0 w) : LS w0 [] [] w := ⟨by simp, by simp, by simp, by simp, by simp, hb⟩
theorem LS.keep (h : LS w0 V R w) (hb : Below w.heap.size w w') : LS w0 V R w' :=
  ⟨fun p hp => (h.vs p hp).keep hb, h.lo, h.nd, fun r hr => ⟨own_touch (F := fun _ => False) (h.rows r hr).1 (Touch.of_below _ hb) (fun _ _ h => h), (h.rows r hr).2⟩, h.apart, h.below.trans (hb.mono h.below.size)⟩
theorem LS.alloc (h : LS w0 V R w) (o : Obj) : LS w0 V R (w.alloc o) := h.keep ((Below.refl _ _).alloc (Nat.le_refl _) o)
theorem LS.forget (h : LS w0 V R w) (hs : R'.Sublist R) : LS w0 V R' w := ⟨h.vs, h.lo, h.nd, fun r hr => h.rows r (hs.subset hr), h.apart.sublist hs, h.below⟩
theorem LS.drop (h : LS w0 V R w) : LS w0 V [] w := h.forget (List.nil_sublist _)
theorem LS.row (h : LS w0 V R w) (hr : r ∈ R) : r.holds w := (h.rows r hr).1
theorem LS.new (h : LS w0 V R w) (hb : Below w.heap.size w w') (hg : w.heap.size ≤ g) (hv : Vs g v w') : LS w0 ((g, v) :: V) R w' := by
  have h2 := h.keep hb
  have hne : ∀ p ∈ V, p.1 ≠ g := fun p hp e => by have := (h.vs p hp).lt; omega
  refine ⟨fun p hp => ?_, fun p hp => ?_, ?_, fun r hr => ⟨(h2.rows r hr).1, fun b hb3 => ⟨((h2.rows r hr).2 b hb3).1, fun p hp => ?_⟩⟩, h.apart, h2.below⟩
  · rcases List.mem_cons.1 hp with rfl | hp
    · exact hv
    · exact h2.vs p hp
  · rcases List.mem_cons.1 hp with rfl | hp
    · exact Nat.le_trans h.below.size hg
    · exact h.lo p hp
  · rw [List.map_cons, List.nodup_cons]
    refine ⟨fun hm => ?_, h.nd⟩
    obtain ⟨p, hp, e⟩ := List.mem_map.1 hm
    exact hne p hp e
  · rcases List.mem_cons.1 hp with rfl | hp
    · intro e
      have := It.lt (h.rows r hr).1 hb3
      simp only at e; omega
    · exact ((h2.rows r hr).2 b hb3).2 p hp
theorem LS.aft (h : LS w0 (V1 ++ (g, v) :: V2) R w) (ha : VAft g v' w w') : LS w0 (V1 ++ (g, v') :: V2) R w' := by
  have hgm : (g, v) ∈ V1 ++ (g, v) :: V2 := by simp
  have hnd : ∀ p, p ∈ V1 ∨ p ∈ V2 → p.1 ≠ g := by
    have := h.nd
    rw [List.map_append, List.map_cons, List.nodup_append] at this
    obtain ⟨_, h2, h3⟩ := this
    rw [List.nodup_cons] at h2
    rintro p (hp | hp) e
    · exact h3 p.1 (List.mem_map.2 ⟨p, hp, rfl⟩) g (by simp) e
    · exact h2.1 (List.mem_map.2 ⟨p, hp, e⟩)
  have hmem : ∀ p, p ∈ V1 ++ (g, v') :: V2 → p = (g, v') ∨ ((p ∈ V1 ∨ p ∈ V2) ∧ p ∈ V1 ++ (g, v) :: V2) := by
    intro p hp
    simp only [List.mem_append, List.mem_cons] at hp ⊢
    rcases hp with hp | hp | hp
    · exact .inr ⟨.inl hp, .inl hp⟩
    · exact .inl hp
    · exact .inr ⟨.inr hp, .inr (.inr hp)⟩
  refine ⟨fun p hp => ?_, fun p hp => ?_, ?_, fun r hr => ⟨own_touch (h.rows r hr).1 ha.2 (fun b hb e => ((h.rows r hr).2 b hb).2 _ hgm e.symm), fun b hb => ⟨((h.rows r hr).2 b hb).1, fun p hp => ?_⟩⟩, h.apart, h.below.trans (ha.2.below h.below.size (fun k _ hk => by have := h.lo _ hgm; simp only at this; omega))⟩
  · rcases hmem p hp with rfl | ⟨h1, h2⟩
    · exact ha.1
    · exact (h.vs p h2).touch ha.2 (hnd p h1)
  · rcases hmem p hp with rfl | ⟨h1, h2⟩
    · exact h.lo (g, v) hgm
    · exact h.lo p h2
  · have := h.nd
    rw [List.map_append, List.map_cons] at this ⊢
    exact this
  · rcases hmem p hp with rfl | ⟨h1, h2⟩
    · exact ((h.rows r hr).2 b hb).2 (g, v) hgm
    · exact ((h.rows r hr).2 b hb).2 p h2
/-- a slice of new memory more -/
theorem LS.more (h : LS w0 V R w) (hb : Below w.heap.size w w') (hn : r.holds w') (ho : ∀ b, r.v.v.ownBlock = some b → w.heap.size ≤ b) : LS w0 V (r :: R) w' := by
  have h2 := h.keep hb
  refine ⟨h2.vs, h2.lo, h2.nd, fun s hs => ?_, ?_, h2.below⟩
  · rcases List.mem_cons.1 hs with rfl | hs
    · exact ⟨hn, fun b hb2 => ⟨Nat.le_trans h.below.size (ho b hb2), fun p hp e => by have := (h.vs p hp).lt; have := ho b hb2; omega⟩⟩
    · exact h2.rows s hs
  · rw [List.pairwise_cons]
    exact ⟨fun s hs b hb1 hb2 => by have := It.lt (h.rows s hs).1 hb2; have := ho b hb1; omega, h.apart⟩
/-- a slice of ours grew -/
theorem LS.grow (h : LS w0 V (r :: R) w) (hg : w.grownBy w' r.v.v.ownBlock) (hn : r'.holds w') (ho : ∀ b, r'.v.v.ownBlock = some b → r.v.v.ownBlock = some b ∨ w.heap.size ≤ b) : LS w0 V (r' :: R) w' := by
  have ht : Touch (fun k => r.v.v.ownBlock = some k) w w' := Touch.of_grown hg (fun k hk => hk)
  have hr := h.rows r (by simp)
  have hp := List.pairwise_cons.1 h.apart
  refine ⟨fun p hp => (h.vs p hp).touch ht (fun e => (hr.2 _ e).2 p hp rfl), h.lo, h.nd, fun s hs => ?_, ?_, h.below.trans (ht.below h.below.size (fun k _ hk => (hr.2 k hk).1))⟩
  · rcases List.mem_cons.1 hs with rfl | hs
    · refine ⟨hn, fun b hb => ?_⟩
      rcases ho b hb with h1 | h1
      · exact hr.2 b h1
      · exact ⟨Nat.le_trans h.below.size h1, fun p hp e => by have := (h.vs p hp).lt; omega⟩
    · exact ⟨own_touch (h.rows s (by simp [hs])).1 ht (fun b hb e => hp.1 s hs b e hb), (h.rows s (by simp [hs])).2⟩
  · rw [List.pairwise_cons]
    refine ⟨fun s hs b hb1 hb2 => ?_, hp.2⟩
    rcases ho b hb1 with h1 | h1
    · exact hp.1 s hs b h1 hb2
    · have := It.lt (h.rows s (by simp [hs])).1 hb2; omega
theorem LS.nil (h : LS w0 V R w) (hn : r.holds w) (hv : r.v.v.ownBlock = none) : LS w0 V (r :: R) w := h.more (Below.refl _ _) hn (fun b hb => by rw [hv] at hb; cases hb)
theorem LS.rd (h : LS w0 V R w) {u : Sl} {L : List Rec} (hr : iR u L ∈ R) : RdE rcs 5 w u.a L := erow_rd (n := u.n) (cap := u.c) (T := 37) rcs_enc (h.row hr)
theorem LS.rdE (h : LS w0 V R w) {u : Sl} {L : List Ev} (hr : iE u L ∈ R) : RdE ce 4 w u.a L := erow_rd (n := u.n) (cap := u.c) (T := 74) ce_enc (h.row hr)
theorem LS.rdI (h : LS w0 V R w) {u : Sl} {L : List Int} (hr : iI u L ∈ R) : RdE c64 1 w u.a L := erow_rd (n := u.n) (cap := u.c) (T := 3) c64_enc (h.row hr)
/-- .. by an append of one element -/
theorem LS.app {T : TypeId} {z n g1 cap1 : Nat} {u : Sl} {xs ys : List Value} {o : Obj} (h : LS w0 V (⟨T, z, u, n, xs⟩ :: R) w) (hown : w'.ownsRow 0 T z (.slice (some ⟨g1, 0, none⟩) (n + 1) cap1) (n + 1) (xs ++ ys)) (hg : (w.alloc o).grownBy w' u.v.ownBlock) (hat : u.v.ownBlock = some g1 ∨ g1 = (w.alloc o).heap.size) :
    LS w0 V (⟨T, z, ⟨some ⟨g1, 0, none⟩, n + 1, cap1⟩, n + 1, xs ++ ys⟩ :: R) w' :=
  (h.alloc o).grow (r := ⟨T, z, u, n, xs⟩) (r' := ⟨T, z, ⟨some ⟨g1, 0, none⟩, n + 1, cap1⟩, n + 1, xs ++ ys⟩) hg hown (fun b hb => by
    have e : g1 = b := Option.some.inj hb
    subst e
    exact hat.imp id (fun h => by rw [h]; exact Nat.le_refl _))
theorem LS.box (h : LS w0 V R w) (r : Rec) : LS w0 V (bR w.heap.size r :: R) (w.alloc (.cells #[.int .i64 r.id, .int .i64 r.st, .int .u32 r.n, .int .u32 r.ip, .int .u16 r.port] 37)) :=
  h.more ((Below.refl _ w).alloc (Nat.le_refl _) _) ⟨rfl, .inr ⟨w.heap.size, 1, (rcs r).toArray, rfl, Nat.zero_le _, heap_alloc_new _ _, Nat.le_refl _, by unfold maxLen; omega, rfl, by simp [rcs, bR, iR]⟩⟩ (fun b hb => by
    have e : w.heap.size = b := Option.some.inj hb
    omega)
theorem LS.cells (h : LS w0 V R w) {b : Nat} {r : Rec} (hr : bR b r ∈ R) : (∀ k u, (rcs r)[k]? = some u → w.cell? ⟨b, k, none⟩ = some u) ∧ b < w.heap.size := by
  obtain ⟨b', off, he, hl, hc⟩ := (h.rd (L := [r]) hr) (by simp)
  simp only [Option.some.injEq, Addr.mk.injEq, and_true] at he
  obtain ⟨rfl, rfl⟩ := he
  exact ⟨fun k u hu => by have := hc 0 r rfl k u hu; simpa using this, hl⟩
theorem new_l (h : LS w0 V R w) : Calls Try.prog 10 #[] w (fun e w' => ∃ g, e = .returned (.pointer (some ⟨g, 0, none⟩)) ∧ LS w0 ((g, newV) :: V) R w') :=
  (new_any w).mono fun e w' ⟨g, he, hg, hV, hb⟩ => ⟨g, he, h.new hb hg hV⟩
theorem take_l (r : Rec) (hr : r.Ok) (V1 V2 : List (Nat × Vw)) (h : LS w0 (V1 ++ (g, v) :: V2) R w) (hl : v.E.length < 1000000) :
    Calls Try.prog 12 #[.pointer (some ⟨g, 0, none⟩), .agg #[.int .i64 r.id, .int .i64 r.st, .int .u32 r.n, .int .u32 r.ip, .int .u16 r.port]] w (fun e w' => e = .returned (.tuple #[.bool (turns v r), .int .i64 (errR r)]) ∧ LS w0 (V1 ++ (g, takeV v r) :: V2) R w') :=
  (take_any r hr g v w (h.vs (g, v) (by simp)) hl).mono fun e w' ⟨he, ha⟩ => ⟨he, h.aft ha⟩
theorem of_l (i : Int) (V1 V2 : List (Nat × Vw)) (h : LS w0 (V1 ++ (g, v) :: V2) R w) :
    Calls Try.prog 15 #[.pointer (some ⟨g, 0, none⟩), .int .i64 i] w (fun e w' => e = .returned (.tuple #[.agg #[.int .i64 (ofV v i).id, .int .i64 (ofV v i).st, .int .u32 (ofV v i).n, .int .u32 (ofV v i).ip, .int .u16 (ofV v i).port], .bool (knows v i)]) ∧ LS w0 (V1 ++ (g, v) :: V2) R w') :=
  (of_any i g v w (h.vs (g, v) (by simp))).mono fun e w' ⟨he, hb⟩ => ⟨he, h.keep hb⟩
theorem seen_l (V1 V2 : List (Nat × Vw)) (h : LS w0 (V1 ++ (g, v) :: V2) R w) :
    Calls Try.prog 27 #[.pointer (some ⟨g, 0, none⟩)] w (fun e w' => e = .returned (.int .u64 (v.E.length : Nat)) ∧ w' = w) := seen_any g v w (h.vs (g, v) (by simp))
theorem fresh_l {e : Ending} {α : Type} {c : α → List Value} {z : Nat} {T : TypeId} {L : List α} (h : LS w0 V R w) (hp : NewPost c z T L w e w') : ∃ u : Sl, e = .returned (.slice u.a L.length u.c) ∧ LS w0 V (⟨T, z, u, L.length, (L.map c).flatten⟩ :: R) w' := by
  obtain ⟨u, he, hn, hb⟩ := hp
  exact ⟨u, by rw [he, hn.2.1], h.more hb hn.1 hn.2.2⟩
theorem members_l (V1 V2 : List (Nat × Vw)) (h : LS w0 (V1 ++ (g, v) :: V2) R w) :
    Calls Try.prog 20 #[.pointer (some ⟨g, 0, none⟩)] w (fun e w' => ∃ u : Sl, e = .returned (.slice u.a (membersV v).length u.c) ∧ LS w0 (V1 ++ (g, v) :: V2) (iR u (membersV v) :: R) w') :=
  (members_any g v w (h.vs (g, v) (by simp))).mono fun e w' hp => fresh_l h hp
theorem live_l (V1 V2 : List (Nat × Vw)) (h : LS w0 (V1 ++ (g, v) :: V2) R w) :
    Calls Try.prog 22 #[.pointer (some ⟨g, 0, none⟩)] w (fun e w' => ∃ u : Sl, e = .returned (.slice u.a (liveV v).length u.c) ∧ LS w0 (V1 ++ (g, v) :: V2) (iI u (liveV v) :: R) w') :=
  (live_any' g v w (h.vs (g, v) (by simp))).mono fun e w' hp => fresh_l h hp
theorem events_l (V1 V2 : List (Nat × Vw)) (h : LS w0 (V1 ++ (g, v) :: V2) R w) (hl : v.E.length < 1000000) :
    Calls Try.prog 25 #[.pointer (some ⟨g, 0, none⟩)] w (fun e w' => ∃ u : Sl, e = .returned (.slice u.a (lastE v.E).length u.c) ∧ LS w0 (V1 ++ (g, v) :: V2) (iE u (lastE v.E) :: R) w') :=
  (events_any g v w (h.vs (g, v) (by simp)) hl).mono fun e w' hp => fresh_l h hp
theorem merge_l (u : Sl) (L : List Rec) (hL : ∀ r ∈ L, r.Ok) (hl : L.length ≤ 1000) (V1 V2 : List (Nat × Vw)) (h : LS w0 (V1 ++ (g, v) :: V2) R w) (hu : iR u L ∈ R) (hE : v.E.length + L.length < 1000000) :
    Calls Try.prog 17 #[.pointer (some ⟨g, 0, none⟩), .slice u.a L.length u.c] w (fun e w' => ∃ x : Sl, e = .returned (.tuple #[.slice x.a (mergeL v L).length x.c, .int .i64 (mergeE L)]) ∧ LS w0 (V1 ++ (g, mergeV v L) :: V2) (iR x (mergeL v L) :: R) w') := by
  have hv := h.vs (g, v) (by simp)
  refine (merge_any u.a u.c L g v w hv (h.rd hu) (fun b off e hbg => ?_) hL hl hE).mono fun e w' ⟨x, he, hn, ha⟩ => ⟨x, by rw [he, hn.2.1], ?_⟩
  · have := ((h.rows _ hu).2 b (by show (Value.slice u.a u.n u.c).ownBlock = some b; rw [e]; rfl)).2 (g, v) (by simp)
    exact this hbg.symm
  · have h2 := h.aft ha
    refine ⟨h2.vs, h2.lo, h2.nd, fun s hs => ?_, ?_, h2.below⟩
    · rcases List.mem_cons.1 hs with rfl | hs
      · refine ⟨hn.1, fun b hb => ⟨Nat.le_trans h.below.size (hn.2.2 b hb), fun p hp e => ?_⟩⟩
        have hp2 : p = (g, mergeV v L) ∨ p ∈ V1 ++ (g, v) :: V2 := by
          simp only [List.mem_append, List.mem_cons] at hp ⊢
          rcases hp with hp | hp | hp
          · exact .inr (.inl hp)
          · exact .inl hp
          · exact .inr (.inr (.inr hp))
        have hb2 := hn.2.2 b hb
        rcases hp2 with rfl | hp2
        · have := hv.lt; simp only at e; omega
        · have := (h.vs p hp2).lt; omega
      · exact h2.rows s hs
    · rw [List.pairwise_cons]
      exact ⟨fun s hs b hb1 hb2 => by have := It.lt (h.rows s hs).1 hb2; have := hn.2.2 b hb1; omega, h.apart⟩
end
end Go.Proofs.Ytchhbhoikkdmeaa
