/- Both views side by side: the program's and the reference's hold the same, or are on their way to it; slices of a law's own beside them. A slice of slices of things that came in. -/
import Derived.Test.YtchhbhoikkdmeaaViRefMerge
import Derived.Test.YtchhbhoikkdmeaaViAlike
namespace Go.Proofs.Ytchhbhoikkdmeaa
open Go.Sort Go.RowKit Go.BigFrame Go.ChangeShapes Go.WideShapes Go.Deep
set_option linter.unusedVariables false
set_option linter.unusedSimpArgs false

def iX (u : Sl) (L : List Rec) : It := ⟨48, 5, u, L.length, (L.map rcs).flatten⟩
def bX (b : Nat) (r : Rec) : It := iX ⟨some ⟨b, 0, none⟩, 1, 1⟩ [r]
structure P2 (w0 : World) (g : Nat) (v : Vw) (R : List It) (gx : Nat) (vl ve : Sl) (vx : Vw) (w : World) : Prop where
  ls : LS w0 [(g, v)] R w
  rs : Rs gx vl ve vx w
  lo : ∀ b, OwnV gx vl ve b → w0.heap.size ≤ b ∧ b ≠ g ∧ ∀ r ∈ R, r.v.v.ownBlock ≠ some b
section
variable {w0 w w' : World} {g gx : Nat} {v v' vx vx' : Vw} {vl ve : Sl} {R R' : List It} {r r' s : It}
theorem LS.swap {V : List (Nat × Vw)} (h : LS w0 V (r :: s :: R) w) : LS w0 V (s :: r :: R) w := by
  have hm : ∀ x, x ∈ s :: r :: R → x ∈ r :: s :: R := fun x hx => by
    simp only [List.mem_cons] at hx ⊢
    rcases hx with h | h | h
    · exact .inr (.inl h)
    · exact .inl h
    · exact .inr (.inr h)
  refine ⟨h.vs, h.lo, h.nd, fun x hx => h.rows x (hm x hx), ?_, h.below⟩
  have := h.apart
  rw [List.pairwise_cons, List.pairwise_cons] at this ⊢
  obtain ⟨h1, h2, h3⟩ := this
  refine ⟨fun x hx b hb hb2 => ?_, fun x hx => h1 x (by simp [hx]), h3⟩
  rcases List.mem_cons.1 hx with rfl | hx
  · exact h1 s (by simp) b hb2 hb
  · exact h2 x hx b hb hb2
theorem P2.swap (h : P2 w0 g v (r :: s :: R) gx vl ve vx w) : P2 w0 g v (s :: r :: R) gx vl ve vx w :=
  ⟨h.ls.swap, h.rs, fun b hb => ⟨(h.lo b hb).1, (h.lo b hb).2.1, fun x hx => (h.lo b hb).2.2 x (by
    simp only [List.mem_cons] at hx ⊢
    rcases hx with h | h | h
    · exact .inr (.inl h)
    · exact .inl h
    · exact .inr (.inr h))⟩⟩
theorem P2.keep (h : P2 w0 g v R gx vl ve vx w) (hb : Below w.heap.size w w') : P2 w0 g v R gx vl ve vx w' := ⟨h.ls.keep hb, h.rs.keep hb, h.lo⟩
theorem P2.forget (h : P2 w0 g v R gx vl ve vx w) (hs : R'.Sublist R) : P2 w0 g v R' gx vl ve vx w := ⟨h.ls.forget hs, h.rs, fun b hb => ⟨(h.lo b hb).1, (h.lo b hb).2.1, fun x hx => (h.lo b hb).2.2 x (hs.subset hx)⟩⟩
theorem P2.drop (h : P2 w0 g v R gx vl ve vx w) : P2 w0 g v [] gx vl ve vx w := h.forget (List.nil_sublist _)
theorem P2.below (h : P2 w0 g v R gx vl ve vx w) : Below w0.heap.size w0 w := h.ls.below
/-- the program's view turned -/
theorem P2.prog (h : P2 w0 g v R gx vl ve vx w) (ha : VAft g v' w w') : P2 w0 g v' R gx vl ve vx w' :=
  ⟨LS.aft (V1 := []) (V2 := []) h.ls ha, h.rs.touch ha.2 (fun b hb e => (h.lo b hb).2.1 e), h.lo⟩
/-- a slice of new memory more -/
theorem P2.more (h : P2 w0 g v R gx vl ve vx w) (hb : Below w.heap.size w w') (hn : r.holds w') (ho : ∀ b, r.v.v.ownBlock = some b → w.heap.size ≤ b) : P2 w0 g v (r :: R) gx vl ve vx w' :=
  ⟨h.ls.more hb hn ho, h.rs.keep hb, fun b hb2 => ⟨(h.lo b hb2).1, (h.lo b hb2).2.1, fun x hx => by
    rcases List.mem_cons.1 hx with rfl | hx
    · intro e
      have := ho b e
      have := h.rs.lt b hb2
      omega
    · exact (h.lo b hb2).2.2 x hx⟩⟩
/-- a slice of ours grew -/
theorem P2.grow (h : P2 w0 g v (r :: R) gx vl ve vx w) (hg : w.grownBy w' r.v.v.ownBlock) (hn : r'.holds w') (ho : ∀ b, r'.v.v.ownBlock = some b → r.v.v.ownBlock = some b ∨ w.heap.size ≤ b) : P2 w0 g v (r' :: R) gx vl ve vx w' :=
  ⟨h.ls.grow hg hn ho, h.rs.touch (Touch.of_grown (F := fun k => r.v.v.ownBlock = some k) hg (fun k hk => hk)) (fun b hb e => (h.lo b hb).2.2 r (by simp) e), fun b hb => ⟨(h.lo b hb).1, (h.lo b hb).2.1, fun x hx => by
    rcases List.mem_cons.1 hx with rfl | hx
    · intro e
      rcases ho b e with h1 | h1
      · exact (h.lo b hb).2.2 r (by simp) h1
      · have := h.rs.lt b hb; omega
    · exact (h.lo b hb).2.2 x (by simp [hx])⟩⟩
/-- the program's view turned, and a slice of new memory more -/
theorem P2.progNew (h : P2 w0 g v R gx vl ve vx w) (ha : VAft g v' w w') (hn : r.holds w') (ho : ∀ b, r.v.v.ownBlock = some b → w.heap.size ≤ b) : P2 w0 g v' (r :: R) gx vl ve vx w' := by
  have h2 := h.prog ha
  refine ⟨⟨h2.ls.vs, h2.ls.lo, h2.ls.nd, fun s hs => ?_, ?_, h2.ls.below⟩, h2.rs, fun b hb => ⟨(h2.lo b hb).1, (h2.lo b hb).2.1, fun x hx => ?_⟩⟩
  · rcases List.mem_cons.1 hs with rfl | hs
    · refine ⟨hn, fun b hb => ⟨Nat.le_trans h.below.size (ho b hb), fun p hp e => ?_⟩⟩
      simp at hp
      subst hp
      have := (h.ls.vs (g, v) (by simp)).lt
      have := ho b hb
      simp only at e this; omega
    · exact h2.ls.rows s hs
  · rw [List.pairwise_cons]
    exact ⟨fun s hs b hb1 hb2 => by have := It.lt (h.ls.rows s hs).1 hb2; have := ho b hb1; omega, h.ls.apart⟩
  · rcases List.mem_cons.1 hx with rfl | hx
    · intro e
      have := ho b e
      have := h.rs.lt b hb; omega
    · exact (h2.lo b hb).2.2 x hx
/-- the reference's view turned -/
theorem P2.ref (h : P2 w0 g v R gx vl ve vx w) (ha : RAft gx vl ve vx' w w') : ∃ vl' ve', P2 w0 g v R gx vl' ve' vx' w' := by
  obtain ⟨vl', ve', h1, h2, h3⟩ := ha
  have hg := (h.ls.vs (g, v) (by simp)).lt
  refine ⟨vl', ve', ⟨fun p hp => ?_, h.ls.lo, h.ls.nd, fun s hs => ⟨own_touch (h.ls.rows s hs).1 h2 (fun b hb e => (h.lo b e).2.2 s hs hb), (h.ls.rows s hs).2⟩, h.ls.apart, h.below.trans (h2.below h.below.size (fun k _ hk => (h.lo k hk).1))⟩, h1, fun b hb => ?_⟩
  · refine (h.ls.vs p hp).touch h2 (fun e => ?_)
    simp at hp
    subst hp
    exact (h.lo _ e).2.1 rfl
  · rcases h3 b hb with h4 | h4
    · exact h.lo b h4
    · refine ⟨Nat.le_trans h.below.size h4, fun e => by simp only at hg; omega, fun x hx e => ?_⟩
      have := It.lt (h.ls.rows x hx).1 e; omega
theorem P2.box (h : P2 w0 g v R gx vl ve vx w) (r : Rec) : P2 w0 g v (bR w.heap.size r :: R) gx vl ve vx (w.alloc (.cells #[.int .i64 r.id, .int .i64 r.st, .int .u32 r.n, .int .u32 r.ip, .int .u16 r.port] 37)) :=
  h.more ((Below.refl _ w).alloc (Nat.le_refl _) _) ⟨rfl, .inr ⟨w.heap.size, 1, (rcs r).toArray, rfl, Nat.zero_le _, heap_alloc_new _ _, Nat.le_refl _, by unfold maxLen; omega, rfl, by simp [rcs, bR, iR]⟩⟩ (fun b hb => by
    have e : w.heap.size = b := Option.some.inj hb
    omega)
theorem P2.boxX (h : P2 w0 g v R gx vl ve vx w) (r : Rec) : P2 w0 g v (bX w.heap.size r :: R) gx vl ve vx (w.alloc (.cells #[.int .i64 r.id, .int .i64 r.st, .int .u32 r.n, .int .u32 r.ip, .int .u16 r.port] 48)) :=
  h.more ((Below.refl _ w).alloc (Nat.le_refl _) _) ⟨rfl, .inr ⟨w.heap.size, 1, (rcs r).toArray, rfl, Nat.zero_le _, heap_alloc_new _ _, Nat.le_refl _, by unfold maxLen; omega, rfl, by simp [rcs, bX, iX]⟩⟩ (fun b hb => by
    have e : w.heap.size = b := Option.some.inj hb
    omega)
theorem P2.cells (h : P2 w0 g v R gx vl ve vx w) {b : Nat} {r : Rec} (hr : bR b r ∈ R) : (∀ k u, (rcs r)[k]? = some u → w.cell? ⟨b, k, none⟩ = some u) ∧ b < w.heap.size := h.ls.cells hr
theorem P2.cellsX (h : P2 w0 g v R gx vl ve vx w) {b : Nat} {r : Rec} (hr : bX b r ∈ R) : (∀ k u, (rcs r)[k]? = some u → w.cell? ⟨b, k, none⟩ = some u) ∧ b < w.heap.size := by
  obtain ⟨b', off, he, hl, hc⟩ := (erow_rd (L := [r]) (a := some ⟨b, 0, none⟩) (n := 1) (cap := 1) (T := 48) rcs_enc (h.ls.row hr)) (by simp)
  simp only [Option.some.injEq, Addr.mk.injEq, and_true] at he
  obtain ⟨rfl, rfl⟩ := he
  exact ⟨fun k u hu => by have := hc 0 r rfl k u hu; simpa using this, hl⟩
variable {u : Sl} {L : List Rec} {T : TypeId}
theorem row_n {T : TypeId} (h : P2 w0 g v R gx vl ve vx w) (hr : (⟨T, 5, u, L.length, (L.map rcs).flatten⟩ : It) ∈ R) : u.n = L.length := erow_n (c := rcs) (z := 5) (T := T) (L := L) (h.ls.row hr)
theorem P2.own {T : TypeId} (h : P2 w0 g v R gx vl ve vx w) (hr : (⟨T, 5, u, L.length, (L.map rcs).flatten⟩ : It) ∈ R) : w.ownsRow 0 T 5 (.slice u.a L.length u.c) L.length (L.map rcs).flatten := by
  have hn := row_n h hr
  have h2 := h.ls.row hr
  obtain ⟨a, n, c⟩ := u
  simp only at hn
  subst hn
  exact h2
theorem P2.rd {T : TypeId} (h : P2 w0 g v R gx vl ve vx w) (hr : (⟨T, 5, u, L.length, (L.map rcs).flatten⟩ : It) ∈ R) : RdE rcs 5 w u.a L := erow_rd (n := u.n) (cap := u.c) (T := T) rcs_enc (h.ls.row hr)
/-- an element is appended to a slice of ours -/
theorem P2.app {T : TypeId} {g1 cap1 : Nat} {x : Rec} {o : Obj} (h : P2 w0 g v (⟨T, 5, u, L.length, (L.map rcs).flatten⟩ :: R) gx vl ve vx w) (hown : w'.ownsRow 0 T 5 (.slice (some ⟨g1, 0, none⟩) (L.length + 1) cap1) (L.length + 1) ((L.map rcs).flatten ++ rcs x))
    (hg : (w.alloc o).grownBy w' (Value.slice u.a L.length u.c).ownBlock) (hat : (Value.slice u.a L.length u.c).ownBlock = some g1 ∨ g1 = w.heap.size + 1) :
    P2 w0 g v (⟨T, 5, ⟨some ⟨g1, 0, none⟩, L.length + 1, cap1⟩, (L ++ [x]).length, ((L ++ [x]).map rcs).flatten⟩ :: R) gx vl ve vx w' := by
  have hn := row_n (T := T) (u := u) (L := L) h (by simp)
  have h1 := h.keep ((Below.refl _ w).alloc (Nat.le_refl _) o)
  obtain ⟨a, n, c⟩ := u
  simp only at hn
  subst hn
  refine h1.grow (r := ⟨T, 5, ⟨a, L.length, c⟩, L.length, (L.map rcs).flatten⟩) hg ?_ (fun b hb => ?_)
  · show w'.ownsRow 0 T 5 (.slice (some ⟨g1, 0, none⟩) (L.length + 1) cap1) (L ++ [x]).length ((L ++ [x]).map rcs).flatten
    rw [List.length_append, List.map_append, List.flatten_append]
    simpa using hown
  · have e : g1 = b := Option.some.inj hb
    subst e
    exact hat.imp id (fun h => by rw [h, World.size_alloc]; exact Nat.le_refl _)
theorem P2.nil {T : TypeId} (h : P2 w0 g v R gx vl ve vx w) : P2 w0 g v (⟨T, 5, ⟨none, 0, 0⟩, ([] : List Rec).length, (([] : List Rec).map rcs).flatten⟩ :: R) gx vl ve vx w :=
  h.more (Below.refl _ _) (erow_nil (c := rcs) (z := 5) (T := T)) (fun b hb => by simp [Sl.v, Value.ownBlock] at hb)
theorem members_new : membersV newV = [] := by decide
/-- two empty views -/
theorem P2.start (hl : LS w0 [(g, newV)] [] w) : P2 w0 g newV [] w.heap.size ⟨none, 0, 0⟩ ⟨none, 0, 0⟩ newV (w.alloc (.cells #[.slice none 0 0, .slice none 0 0] 31)) := by
  have hb : Below w.heap.size w (w.alloc (.cells #[.slice none 0 0, .slice none 0 0] 31)) := (Below.refl _ w).alloc (Nat.le_refl _) _
  refine ⟨hl.keep hb, ⟨Cs.new w [.slice none 0 0, .slice none 0 0] 31, ?_, ?_, by simp [Sl.v, Value.ownBlock], by simp [Sl.v, Value.ownBlock], by simp [Sl.v, Value.ownBlock], new_ok⟩, fun b hb => ?_⟩
  · rw [members_new]; exact erow_nil
  · exact erow_nil
  · rcases hb with rfl | hb | hb
    · exact ⟨hl.below.size, fun e => by have := (hl.vs (g, newV) (by simp)).lt; simp only at this; omega, by simp⟩
    · simp [Sl.v, Value.ownBlock] at hb
    · simp [Sl.v, Value.ownBlock] at hb
/-! calls -/
theorem take_p (r : Rec) (hr : r.Ok) (h : P2 w0 g v R gx vl ve vx w) (hl : v.E.length < 1000000) :
    Calls Try.prog 12 #[.pointer (some ⟨g, 0, none⟩), .agg #[.int .i64 r.id, .int .i64 r.st, .int .u32 r.n, .int .u32 r.ip, .int .u16 r.port]] w (fun e w' => e = .returned (.tuple #[.bool (turns v r), .int .i64 (errR r)]) ∧ P2 w0 g (takeV v r) R gx vl ve vx w') :=
  (take_any r hr g v w (h.ls.vs (g, v) (by simp)) hl).mono fun e w' ⟨he, ha⟩ => ⟨he, h.prog ha⟩
theorem take_x (r : Rec) (hr : r.Ok) (h : P2 w0 g v R gx vl ve vx w) (hl : vx.E.length < 1000000) :
    Calls Try.prog 13 #[.pointer (some ⟨gx, 0, none⟩), .agg #[.int .i64 r.id, .int .i64 r.st, .int .u32 r.n, .int .u32 r.ip, .int .u16 r.port]] w (fun e w' => e = .returned (.tuple #[.bool (turns vx r), .int .i64 (errR r)]) ∧ ∃ vl' ve', P2 w0 g v R gx vl' ve' (takeV vx r) w') :=
  (rtake_any r hr gx vl ve vx w h.rs hl).mono fun e w' ⟨he, ha⟩ => ⟨he, h.ref ha⟩
theorem of_p (i : Int) (h : P2 w0 g v R gx vl ve vx w) :
    Calls Try.prog 15 #[.pointer (some ⟨g, 0, none⟩), .int .i64 i] w (fun e w' => e = .returned (.tuple #[.agg #[.int .i64 (ofV v i).id, .int .i64 (ofV v i).st, .int .u32 (ofV v i).n, .int .u32 (ofV v i).ip, .int .u16 (ofV v i).port], .bool (knows v i)]) ∧ P2 w0 g v R gx vl ve vx w') :=
  (of_any i g v w (h.ls.vs (g, v) (by simp))).mono fun e w' ⟨he, hb⟩ => ⟨he, h.keep hb⟩
theorem of_x (i : Int) (h : P2 w0 g v R gx vl ve vx w) :
    Calls Try.prog 16 #[.pointer (some ⟨gx, 0, none⟩), .int .i64 i] w (fun e w' => e = .returned (.tuple #[.agg #[.int .i64 (ofV vx i).id, .int .i64 (ofV vx i).st, .int .u32 (ofV vx i).n, .int .u32 (ofV vx i).ip, .int .u16 (ofV vx i).port], .bool (knows vx i)]) ∧ P2 w0 g v R gx vl ve vx w') :=
  (rof_any i gx vl ve vx w h.rs).mono fun e w' ⟨he, hb⟩ => ⟨he, h.keep hb⟩
theorem merge_p (u : Sl) (L : List Rec) (hL : ∀ r ∈ L, r.Ok) (hl : L.length ≤ 1000) (h : P2 w0 g v R gx vl ve vx w) (hu : iR u L ∈ R) (hE : v.E.length + L.length < 1000000) :
    Calls Try.prog 17 #[.pointer (some ⟨g, 0, none⟩), .slice u.a L.length u.c] w (fun e w' => ∃ x : Sl, e = .returned (.tuple #[.slice x.a (mergeL v L).length x.c, .int .i64 (mergeE L)]) ∧ P2 w0 g (mergeV v L) (iR x (mergeL v L) :: R) gx vl ve vx w') := by
  have hv := h.ls.vs (g, v) (by simp)
  refine (merge_any u.a u.c L g v w hv (h.ls.rd hu) (fun b off e hbg => ?_) hL hl hE).mono fun e w' ⟨x, he, hn, ha⟩ => ⟨x, by rw [he, hn.2.1], h.progNew ha hn.1 hn.2.2⟩
  have := ((h.ls.rows _ hu).2 b (by show (Value.slice u.a u.n u.c).ownBlock = some b; rw [e]; rfl)).2 (g, v) (by simp)
  exact this hbg.symm
theorem merge_x (u : Sl) (L : List Rec) (hL : ∀ r ∈ L, r.Ok) (hl : L.length ≤ 1000) (h : P2 w0 g v R gx vl ve vx w) (hu : iX u L ∈ R) (hE : vx.E.length + L.length < 1000000) :
    Calls Try.prog 18 #[.pointer (some ⟨gx, 0, none⟩), .slice u.a L.length u.c] w (fun e w' => ∃ x : Sl, e = .returned (.tuple #[.slice x.a (mergeL vx L).length x.c, .int .i64 (mergeE L)]) ∧ RdE rcs 5 w' x.a (mergeL vx L) ∧ ∃ vl' ve', P2 w0 g v R gx vl' ve' (mergeV vx L) w') := by
  refine (rmerge_any u.a u.c L gx vl ve vx w h.rs (h.rd hu) (fun b off e hbg => ?_) hL hl hE).mono fun e w' ⟨x, he, hn, ha⟩ => ⟨x, by rw [he, hn.2.1], erow_rd (n := x.n) (cap := x.c) rcs_enc hn.1, h.ref ha⟩
  exact (h.lo b hbg).2.2 _ hu (by show (Value.slice u.a u.n u.c).ownBlock = some b; rw [e]; rfl)
theorem members_p (h : P2 w0 g v R gx vl ve vx w) :
    Calls Try.prog 20 #[.pointer (some ⟨g, 0, none⟩)] w (fun e w' => ∃ u : Sl, e = .returned (.slice u.a (membersV v).length u.c) ∧ RdE rcs 5 w' u.a (membersV v) ∧ P2 w0 g v R gx vl ve vx w') :=
  (members_any g v w (h.ls.vs (g, v) (by simp))).mono fun e w' ⟨u, he, hn, hb⟩ => ⟨u, by rw [he, hn.2.1], erow_rd (n := u.n) (cap := u.c) rcs_enc hn.1, h.keep hb⟩
theorem live_p (h : P2 w0 g v R gx vl ve vx w) :
    Calls Try.prog 22 #[.pointer (some ⟨g, 0, none⟩)] w (fun e w' => ∃ u : Sl, e = .returned (.slice u.a (liveV v).length u.c) ∧ RdE c64 1 w' u.a (liveV v) ∧ P2 w0 g v R gx vl ve vx w') :=
  (live_any' g v w (h.ls.vs (g, v) (by simp))).mono fun e w' ⟨u, he, hn, hb⟩ => ⟨u, by rw [he, hn.2.1], erow_rd (n := u.n) (cap := u.c) c64_enc hn.1, h.keep hb⟩
theorem live_x {a : Option Addr} {M : List Int} (ha : RdE c64 1 w a M) (h : P2 w0 g v R gx vl ve vx w) :
    Calls Try.prog 23 #[.pointer (some ⟨gx, 0, none⟩)] w (fun e w' => ∃ u : Sl, e = .returned (.slice u.a (liveV vx).length u.c) ∧ RdE c64 1 w' u.a (liveV vx) ∧ RdE c64 1 w' a M ∧ P2 w0 g v R gx vl ve vx w') :=
  (rlive_v gx vl ve vx w h.rs).mono fun e w' ⟨u, he, hn, hb⟩ => ⟨u, by rw [he, hn.2.1], erow_rd (n := u.n) (cap := u.c) c64_enc hn.1, ha.keep hb, h.keep hb⟩
theorem events_p (h : P2 w0 g v R gx vl ve vx w) (hl : v.E.length < 1000000) :
    Calls Try.prog 25 #[.pointer (some ⟨g, 0, none⟩)] w (fun e w' => ∃ u : Sl, e = .returned (.slice u.a (lastE v.E).length u.c) ∧ RdE ce 4 w' u.a (lastE v.E) ∧ P2 w0 g v R gx vl ve vx w') :=
  (events_any g v w (h.ls.vs (g, v) (by simp)) hl).mono fun e w' ⟨u, he, hn, hb⟩ => ⟨u, by rw [he, hn.2.1], erow_rd (n := u.n) (cap := u.c) ce_enc hn.1, h.keep hb⟩
theorem events_x {a : Option Addr} {M : List Ev} (ha : RdE ce 4 w a M) (h : P2 w0 g v R gx vl ve vx w) (hl : vx.E.length < 1000000) :
    Calls Try.prog 26 #[.pointer (some ⟨gx, 0, none⟩)] w (fun e w' => ∃ u : Sl, e = .returned (.slice u.a (lastE vx.E).length u.c) ∧ RdE ce 4 w' u.a (lastE vx.E) ∧ RdE ce 4 w' a M ∧ P2 w0 g v R gx vl ve vx w') :=
  (revents_any gx vl ve vx w h.rs hl).mono fun e w' ⟨a1, c1, he, hn, hb⟩ => ⟨⟨a1, (lastE vx.E).length, c1⟩, he, hn, ha.keep hb, h.keep hb⟩
end
section
variable {H : Type} {enc : TypeId × Value → H} {w : World}
theorem cells_things : Try.prog.cellsOf 22 = 1 := by kernel_rfl
/-- a slice of slices of things -/
def ThingsRow (w : World) (a : Option Addr) (len cap : Nat) : Prop :=
  (a = none ∧ len = 0 ∧ cap = 0) ∨
  ∃ x, a = some x ∧ len ≤ cap ∧ cap ≤ maxLen ∧ ∀ i, i < len → ∃ a' n' c', w.cell? (x.add i) = some (.slice a' n' c') ∧ ThingRow w a' n' c'
theorem thingss_open {base fuel : Nat} {held : Bool} {a : Option Addr} {len cap : Nat} {x : DataW H × List MemPlace}
    (h : DataW.trod enc Try.prog w base (fun _ => true) held fuel 23 [.slice a len cap] = some x) : ThingsRow w a len cap := by
  rcases open_slice Try.underlying23 h with ⟨hcs, _⟩ | ⟨y, l, c, m, n, D, Pl, hcs, _, hl, hm, hmm, _, hi⟩
  · simp at hcs
    obtain ⟨rfl, rfl, rfl⟩ := hcs
    exact .inl ⟨rfl, rfl, rfl⟩
  · simp at hcs
    obtain ⟨rfl, rfl, rfl⟩ := hcs
    refine .inr ⟨_, rfl, hl, hm, fun i h1 => ?_⟩
    obtain ⟨cs', hc, ht⟩ := hi i (by rw [hmm]; simp; omega)
    rw [cells_things] at hc
    have hsh : ∃ a' n' c', cs' = [.slice a' n' c'] := by
      rcases open_slice Try.underlying22 ht with ⟨hq, _⟩ | ⟨y', l', c', m', n', D', Pl', hq, _⟩
      · exact ⟨_, _, _, hq⟩
      · exact ⟨_, _, _, hq⟩
    obtain ⟨a', n', c', rfl⟩ := hsh
    refine ⟨a', n', c', ?_, things_open ht⟩
    obtain ⟨_, hcl, hat⟩ := World.cells?_some hc
    have := hat 0 (by decide)
    simpa [Addr.add] using this
theorem ThingsRow.at_ {a : Option Addr} {len cap : Nat} (h : ThingsRow w a len cap) (hp : 0 < len) :
    ∃ b off, a = some ⟨b, off, none⟩ ∧ b < w.heap.size ∧ ∀ i, i < len → ∃ a' n' c', w.cell? ⟨b, off + i, none⟩ = some (.slice a' n' c') ∧ ThingRow w a' n' c' := by
  rcases h with ⟨_, h0, _⟩ | ⟨x, rfl, hl, hm, hc⟩
  · omega
  · obtain ⟨a', n', c', h0, _⟩ := hc 0 hp
    obtain ⟨b, off, spot⟩ := x
    have hs : spot = none := by simpa [Addr.add] using World.cell?_spot h0
    subst hs
    refine ⟨b, off, rfl, by simpa [Addr.add] using World.block_lt_of_cell? _ _ h0, fun i hi => ?_⟩
    obtain ⟨a', n', c', h1, h2⟩ := hc i hi
    rw [add_at] at h1
    exact ⟨a', n', c', h1, h2⟩
theorem ThingsRow.len {a : Option Addr} {len cap : Nat} (h : ThingsRow w a len cap) : len ≤ 9223372036854775807 := by
  rcases h with ⟨_, h0, _⟩ | ⟨x, rfl, hl, hm, hc⟩
  · omega
  · unfold maxLen at hm; omega
end
end Go.Proofs.Ytchhbhoikkdmeaa
