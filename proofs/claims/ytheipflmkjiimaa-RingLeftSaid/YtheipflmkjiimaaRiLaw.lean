/- A law's state: what it holds in memory made since it began: rings, rows of our own, lists that are only read, boxes; each holding's blocks are its own. -/
import Derived.Test.YtheipflmkjiimaaRiSome
namespace Go.Proofs.Ytheipflmkjiimaa
open Go.Sort Go.RowKit Go.BigFrame
set_option linter.unusedVariables false
set_option linter.unusedSimpArgs false

/-- a holding: what holds, and which blocks are its own -/
structure Hl where
  P : World → Prop
  own : Nat → Prop
  st : ∀ {F : Nat → Prop} {w w' : World}, P w → Touch F w w' → (∀ b, own b → ¬ F b) → P w'
  lt : ∀ {w : World}, P w → ∀ b, own b → b < w.heap.size
/-- a ring -/
def hR (g : Nat) (s : Int) (v : Sl) (L : List Int) : Hl := ⟨Rs g s v L, OwnR g v, fun h ht hF => h.touch ht hF, fun h => h.lt⟩
/-- a row of numbers of the law's own -/
def IRow (w : World) (u : Sl) (L : List Int) : Prop := w.ownsRow 0 3 1 u.v L.length (L.map (Value.int .i64))
theorem irow_lt {w : World} {u : Sl} {L : List Int} (h : IRow w u L) (b : Nat) (hb : u.v.ownBlock = some b) : b < w.heap.size := (World.ownsRow.lt h b hb).2
def hI (u : Sl) (L : List Int) : Hl := ⟨fun w => IRow w u L, fun b => u.v.ownBlock = some b, fun h ht hF => own_touch h ht hF, fun h b hb => irow_lt h b hb⟩
/-- numbers that are only read -/
def hA (a : Option Addr) (L : List Int) : Hl := ⟨fun w => Rd .i64 w w.heap.size a L, fun b => 0 < L.length ∧ blk a b, fun {F} {w} {w'} h ht hF => fun hp => by
  obtain ⟨b, off, rfl, hB, hc⟩ := h hp
  exact ⟨b, off, rfl, Nat.lt_of_lt_of_le hB ht.size, fun i hi => (ht.cell (p := ⟨b, off + i, none⟩) hB (hF b ⟨hp, blk_some⟩)).trans (hc i hi)⟩, fun {w} h b hb => by
  obtain ⟨b', off, rfl, hB, hc⟩ := h hb.1
  rw [blk_inj hb.2]; exact hB⟩
def hC (b : Nat) (vs : List Value) : Hl := ⟨Cs b vs, fun k => k = b, fun h ht hF => h.touch ht (hF b rfl), fun h k hk => by rw [hk]; exact h.lt⟩
structure St (w0 : World) (H : List Hl) (w : World) : Prop where
  all : ∀ h ∈ H, h.P w ∧ ∀ b, h.own b → w0.heap.size ≤ b
  apart : H.Pairwise fun h k => ∀ b, h.own b → ¬ k.own b
  below : Below w0.heap.size w0 w
section
variable {w0 w w' : World} {H H1 H2 H' : List Hl} {h h' : Hl}
theorem St.start (w0 w : World) (hb : Below w0.heap.size w0 w) : St w0 [] w := ⟨by simp, by simp, hb⟩
theorem St.keep (s : St w0 H w) (hb : Below w.heap.size w w') : St w0 H w' :=
  ⟨fun h hm => ⟨h.st (s.all h hm).1 (Touch.of_below (fun _ => False) hb) (fun _ _ h => h), (s.all h hm).2⟩, s.apart, s.below.trans (hb.mono s.below.size)⟩
theorem St.drew (s : St w0 H w) : St w0 H w.drew := s.keep (Below.refl _ _).drew
theorem St.alloc (s : St w0 H w) (o : Obj) : St w0 H (w.alloc o) := s.keep ((Below.refl _ _).alloc (Nat.le_refl _) o)
theorem St.get (s : St w0 H w) (hm : h ∈ H) : h.P w := (s.all h hm).1
theorem St.sub (s : St w0 H w) (hs : H'.Sublist H) : St w0 H' w := ⟨fun h hm => s.all h (hs.subset hm), s.apart.sublist hs, s.below⟩
theorem St.drop (s : St w0 (h :: H) w) : St w0 H w := s.sub (List.sublist_cons_self _ _)
/-- a holding more, of new memory -/
theorem St.more (s : St w0 H w) (hb : Below w.heap.size w w') (hP : h.P w') (ho : ∀ b, h.own b → w.heap.size ≤ b) : St w0 (h :: H) w' := by
  have s2 := s.keep hb
  refine ⟨fun k hk => ?_, List.pairwise_cons.2 ⟨fun k hk b h1 h2 => ?_, s.apart⟩, s2.below⟩
  · rcases List.mem_cons.1 hk with rfl | hk
    · exact ⟨hP, fun b hb => Nat.le_trans s.below.size (ho b hb)⟩
    · exact s2.all k hk
  · have := k.lt (s.all k hk).1 b h2
    have := ho b h1
    omega
theorem St.nil (s : St w0 H w) (hP : h.P w) (ho : ∀ b, ¬ h.own b) : St w0 (h :: H) w := s.more (Below.refl _ _) hP (fun b hb => (ho b hb).elim)
/-- a holding turned -/
theorem St.aft (s : St w0 (H1 ++ h :: H2) w) (ht : Touch h.own w w') (hP : h'.P w') (ho : ∀ b, h'.own b → h.own b ∨ w.heap.size ≤ b) : St w0 (H1 ++ h' :: H2) w' := by
  have hm : h ∈ H1 ++ h :: H2 := by simp
  have hap := s.apart
  rw [List.pairwise_append] at hap
  obtain ⟨a1, a2, a3⟩ := hap
  obtain ⟨a4, a5⟩ := List.pairwise_cons.1 a2
  have far : ∀ k, k ∈ H1 ∨ k ∈ H2 → ∀ b, k.own b → ¬ h.own b := by
    rintro k (hk | hk) b hb hh
    · exact a3 k hk h (by simp) b hb hh
    · exact a4 k hk b hh hb
  have hin : ∀ k, k ∈ H1 ∨ k ∈ H2 → k ∈ H1 ++ h :: H2 := by
    rintro k (hk | hk)
    · simp [hk]
    · simp [hk]
  have new : ∀ k, k ∈ H1 ∨ k ∈ H2 → ∀ b, k.own b → ¬ h'.own b := by
    intro k hk b hb hh
    rcases ho b hh with h1 | h1
    · exact far k hk b hb h1
    · have := k.lt (s.all k (hin k hk)).1 b hb
      omega
  refine ⟨fun k hk => ?_, List.pairwise_append.2 ⟨a1, List.pairwise_cons.2 ⟨fun k hk b h1 h2 => new k (.inr hk) b h2 h1, a5⟩, fun k hk l hl => ?_⟩, ?_⟩
  · have hk2 : k = h' ∨ (k ∈ H1 ∨ k ∈ H2) := by
      simp only [List.mem_append, List.mem_cons] at hk
      rcases hk with hk | hk | hk
      · exact .inr (.inl hk)
      · exact .inl hk
      · exact .inr (.inr hk)
    rcases hk2 with rfl | hk2
    · refine ⟨hP, fun b hb => ?_⟩
      rcases ho b hb with h1 | h1
      · exact (s.all h hm).2 b h1
      · exact Nat.le_trans s.below.size h1
    · exact ⟨k.st (s.all k (hin k hk2)).1 ht (far k hk2), (s.all k (hin k hk2)).2⟩
  · rcases List.mem_cons.1 hl with rfl | hl
    · exact fun b hb => new k (.inl hk) b hb
    · exact a3 k hk l (by simp [hl])
  · exact s.below.trans (ht.below s.below.size (fun b _ hb => (s.all h hm).2 b hb))
/-- a holding turned, and one more beside -/
theorem St.aft2 {n : Hl} (s : St w0 (H1 ++ h :: H2) w) (ht : Touch h.own w w') (hP : h'.P w') (ho : ∀ b, h'.own b → h.own b ∨ w.heap.size ≤ b) (hn : n.P w') (hno : ∀ b, n.own b → w.heap.size ≤ b) (hnh : ∀ b, n.own b → ¬ h'.own b) : St w0 (n :: (H1 ++ h' :: H2)) w' := by
  have s2 := s.aft ht hP ho
  refine ⟨fun k hk => ?_, List.pairwise_cons.2 ⟨fun k hk b h1 h2 => ?_, s2.apart⟩, s2.below⟩
  · rcases List.mem_cons.1 hk with rfl | hk
    · exact ⟨hn, fun b hb => Nat.le_trans s.below.size (hno b hb)⟩
    · exact s2.all k hk
  · have hk2 : k = h' ∨ k ∈ H1 ++ h :: H2 := by
      simp only [List.mem_append, List.mem_cons] at hk ⊢
      rcases hk with hk | hk | hk
      · exact .inr (.inl hk)
      · exact .inl hk
      · exact .inr (.inr (.inr hk))
    rcases hk2 with rfl | hk2
    · exact hnh b h1 h2
    · have := k.lt (s.all k hk2).1 b h2
      have := hno b h1
      omega
theorem St.box (s : St w0 H w) (vs : List Value) (T : TypeId) : St w0 (hC w.heap.size vs :: H) (w.alloc (.cells vs.toArray T)) :=
  s.more (h := hC w.heap.size vs) ((Below.refl _ w).alloc (Nat.le_refl _) _) (Cs.new w vs T) (fun b hb => by rw [show b = w.heap.size from hb]; exact Nat.le_refl _)
theorem St.cs {b : Nat} {vs : List Value} (s : St w0 H w) (hm : hC b vs ∈ H) : Cs b vs w := s.get hm
/-! rows -/
variable {u : Sl} {l : List Int}
theorem irow_n (h : IRow w u l) : u.n = l.length := by
  obtain ⟨a, n, c⟩ := u
  rcases h.2 with ⟨h1, h0⟩ | ⟨g, cap, cur, h1, _⟩
  · simp only [Sl.v, Value.slice.injEq] at h1; show n = _; omega
  · simp only [Sl.v, Value.slice.injEq] at h1; show n = _; omega
theorem irow_cap (h : IRow w u l) : l.length ≤ u.c := by
  obtain ⟨a, n, c⟩ := u
  rcases h.2 with ⟨h1, h0⟩ | ⟨g, cap, cur, h1, _, _, h2, _⟩
  · simp only [Sl.v, Value.slice.injEq] at h1; show _ ≤ c; omega
  · simp only [Sl.v, Value.slice.injEq] at h1; show _ ≤ c; omega
theorem irow_nil (h : IRow w u l) (ha : u.a = none) : l.length = 0 ∧ u.c = 0 := by
  obtain ⟨a, n, c⟩ := u
  rcases h.2 with ⟨h1, h0⟩ | ⟨g, cap, cur, h1, _⟩
  · simp only [Sl.v, Value.slice.injEq] at h1; exact ⟨h0, h1.2.2⟩
  · simp only [Sl.v, Value.slice.injEq] at h1
    simp only at ha
    rw [ha] at h1; cases h1.1
theorem irow_rd (h : IRow w u l) : Rd .i64 w w.heap.size u.a l := by
  have hn := irow_n h
  obtain ⟨a, n, c⟩ := u
  simp only at hn
  subst hn
  exact Rd.of_own h
theorem irow_blk (b : Nat) (hb : blk u.a b) : u.v.ownBlock = some b := by
  obtain ⟨ad, e, rfl⟩ := hb
  unfold Sl.v; rw [e]; rfl
theorem irow_empty (w : World) : IRow w ⟨none, 0, 0⟩ [] := World.ownsRow_nil _ _ _ _
theorem St.rdI (s : St w0 H w) (hm : hI u l ∈ H) : Rd .i64 w w.heap.size u.a l := irow_rd (s.get hm)
theorem St.rdA {a : Option Addr} (s : St w0 H w) (hm : hA a l ∈ H) : Rd .i64 w w.heap.size a l := s.get hm
/-- two holdings have no block in common -/
theorem St.two (s : St w0 (H1 ++ h :: H2) w) {k : Hl} (hk : k ∈ H1 ++ H2) (b : Nat) (hb : k.own b) : ¬ h.own b := by
  have hap := s.apart
  rw [List.pairwise_append] at hap
  obtain ⟨a1, a2, a3⟩ := hap
  obtain ⟨a4, a5⟩ := List.pairwise_cons.1 a2
  rcases List.mem_append.1 hk with hk | hk
  · exact a3 k hk h (by simp) b hb
  · exact fun hh => a4 k hk b hh hb
/-! calls -/
variable {g : Nat} {s s' : Int} {v : Sl} {L L' : List Int}
theorem fresh_l {e : Ending} (st : St w0 H w) (hp : NewPost l w e w') : ∃ t : Sl, e = .returned (.slice t.a l.length t.c) ∧ St w0 (hA t.a l :: H) w' := by
  obtain ⟨t, he, hn, hb⟩ := hp
  exact ⟨t, by rw [he, hn.n], st.more (h := hA t.a l) hb hn.rd (fun b hb => hn.lo b hb.2)⟩
theorem aft_l (st : St w0 (H1 ++ hR g s v L :: H2) w) (ha : AftR g v s' L' w w') : ∃ v', St w0 (H1 ++ hR g s' v' L' :: H2) w' := by
  obtain ⟨v', h1, h2, h3⟩ := ha
  exact ⟨v', st.aft (h' := hR g s' v' L') (h2.mono (fun k _ hk => .inl hk)) h1 h3⟩
theorem some_post {e : Ending} {D : List Int} (st : St w0 (H1 ++ hR g s v L :: H2) w) (hp : SomePost g v s' L D w e w') : ∃ t : Sl, e = .returned (.slice t.a D.length t.c) ∧ St w0 (hA t.a D :: (H1 ++ hR g s' v L :: H2)) w' := by
  obtain ⟨t, he, hn, h1, h2⟩ := hp
  have hlt := (st.get (h := hR g s v L) (by simp)).lt
  exact ⟨t, he, st.aft2 (h' := hR g s' v L) (n := hA t.a D) (h2.mono (fun k _ hk => .inl hk)) h1 (fun _ h => .inl h) hn.rd (fun b hb => hn.lo b hb.2) (fun b hb hh => by have h3 := hn.lo b hb.2; have := hlt b hh; omega)⟩
theorem new_l (s : Int) (st : St w0 H w) : Calls Try.prog 9 #[.int .u64 s] w (fun e w' => ∃ g, e = .returned (.pointer (some ⟨g, 0, none⟩)) ∧ St w0 (hR g s ⟨none, 0, 0⟩ [] :: H) w') :=
  (rnew0_any s w).mono fun e w' ⟨g, hg, he, hr, hb⟩ => ⟨g, he, st.more (h := hR g s ⟨none, 0, 0⟩ []) hb hr (fun b hb => by
    rcases hb with rfl | hb
    · exact hg
    · exact (blk_none hb).elim)⟩
theorem rnew_l (s : Int) (st : St w0 H w) : Calls Try.prog 10 #[.int .u64 s] w (fun e w' => ∃ g, e = .returned (.pointer (some ⟨g, 0, none⟩)) ∧ St w0 (hR g s ⟨none, 0, 0⟩ [] :: H) w') :=
  (rnew_any s w).mono fun e w' ⟨he, hr, hb⟩ => ⟨_, he, st.more (h := hR w.heap.size s ⟨none, 0, 0⟩ []) hb hr (fun b hb => by
    rcases hb with rfl | hb
    · exact Nat.le_refl _
    · exact (blk_none hb).elim)⟩
theorem next_rd (a : Option Addr) (cap : Nat) (hl : l.length ≤ 1000) (hcap : l.length ≤ cap) (H1 H2 : List Hl) (st : St w0 (H1 ++ hR g s v L :: H2) w) (hr : Rd .i64 w w.heap.size a l) (hne : 0 < l.length → ¬ blk a g) :
    Calls Try.prog 15 #[.pointer (some ⟨g, 0, none⟩), .slice a l.length cap] w (fun e w' => e = .returned (.tuple #[.int .i64 (idR s L l), .bool (okR l)]) ∧ ∃ v', St w0 (H1 ++ hR g (stR s L l) v' (leftR s L l) :: H2) w') :=
  (ring_next g s v L a cap l hl hcap w (st.get (h := hR g s v L) (by simp)) hr hne).mono fun e w' ⟨he, ha⟩ => ⟨he, aft_l st ha⟩
theorem next_l (u : Sl) (hl : l.length ≤ 1000) (H1 H2 : List Hl) (hu : hI u l ∈ H1 ++ H2) (st : St w0 (H1 ++ hR g s v L :: H2) w) :
    Calls Try.prog 15 #[.pointer (some ⟨g, 0, none⟩), .slice u.a l.length u.c] w (fun e w' => e = .returned (.tuple #[.int .i64 (idR s L l), .bool (okR l)]) ∧ ∃ v', St w0 (H1 ++ hR g (stR s L l) v' (leftR s L l) :: H2) w') := by
  have hm : hI u l ∈ H1 ++ hR g s v L :: H2 := by
    rcases List.mem_append.1 hu with h | h
    · simp [h]
    · simp [h]
  exact next_rd u.a u.c hl (irow_cap (st.get hm)) H1 H2 st (st.rdI hm) (fun _ hb => st.two hu g (irow_blk g hb) (.inl rfl))
theorem rnext_l (u : Sl) (hl : l.length ≤ 1000) (H1 H2 : List Hl) (hu : hI u l ∈ H1 ++ H2) (st : St w0 (H1 ++ hR g s v L :: H2) w) :
    Calls Try.prog 16 #[.pointer (some ⟨g, 0, none⟩), .slice u.a l.length u.c] w (fun e w' => e = .returned (.tuple #[.int .i64 (idR s L l), .bool (okR l)]) ∧ ∃ v', St w0 (H1 ++ hR g (stR s L l) v' (leftR s L l) :: H2) w') := by
  have hm : hI u l ∈ H1 ++ hR g s v L :: H2 := by
    rcases List.mem_append.1 hu with h | h
    · simp [h]
    · simp [h]
  exact (ref_next g s v L u.a u.c l hl (irow_cap (st.get hm)) (irow_nil (st.get hm)) w (st.get (h := hR g s v L) (by simp)) (st.rdI hm) (fun _ hb => st.two hu g (irow_blk g hb) (.inl rfl))).mono fun e w' ⟨he, ha⟩ => ⟨he, aft_l st ha⟩
theorem some_l (u : Sl) (k : Int) (hl : l.length ≤ 1000) (H1 H2 : List Hl) (hu : hI u l ∈ H1 ++ H2) (st : St w0 (H1 ++ hR g s v L :: H2) w) :
    Calls Try.prog 12 #[.pointer (some ⟨g, 0, none⟩), .slice u.a l.length u.c, .int .i64 k] w (fun e w' => ∃ t : Sl, e = .returned (.slice t.a (someD s l k).length t.c) ∧ St w0 (hA t.a (someD s l k) :: (H1 ++ hR g (mixL s l).2 v L :: H2)) w') := by
  have hm : hI u l ∈ H1 ++ hR g s v L :: H2 := by
    rcases List.mem_append.1 hu with h | h
    · simp [h]
    · simp [h]
  exact (ring_some g s v L u.a u.c l k hl (irow_cap (st.get hm)) w (st.get (h := hR g s v L) (by simp)) (st.rdI hm)).mono fun e w' hp => some_post st hp
theorem rsome_l (u : Sl) (k : Int) (hl : l.length ≤ 1000) (H1 H2 : List Hl) (hu : hI u l ∈ H1 ++ H2) (st : St w0 (H1 ++ hR g s v L :: H2) w) :
    Calls Try.prog 14 #[.pointer (some ⟨g, 0, none⟩), .slice u.a l.length u.c, .int .i64 k] w (fun e w' => ∃ t : Sl, e = .returned (.slice t.a (someD s l k).length t.c) ∧ St w0 (hA t.a (someD s l k) :: (H1 ++ hR g (mixL s l).2 v L :: H2)) w') := by
  have hm : hI u l ∈ H1 ++ hR g s v L :: H2 := by
    rcases List.mem_append.1 hu with h | h
    · simp [h]
    · simp [h]
  exact (ref_ring_some g s v L u.a u.c l k hl (irow_cap (st.get hm)) (irow_nil (st.get hm)) w (st.get (h := hR g s v L) (by simp)) (st.rdI hm)).mono fun e w' hp => some_post st hp
theorem left_l (st : St w0 H w) (hm : hR g s v L ∈ H) :
    Calls Try.prog 17 #[.pointer (some ⟨g, 0, none⟩)] w (fun e w' => ∃ t : Sl, e = .returned (.slice t.a L.length t.c) ∧ St w0 (hA t.a L :: H) w') :=
  (left_any g s v L w (st.get hm)).mono fun e w' hp => fresh_l st hp
theorem state_l (st : St w0 H w) (hm : hR g s v L ∈ H) :
    Calls Try.prog 18 #[.pointer (some ⟨g, 0, none⟩)] w fun e w' => e = .returned (.int .u64 s) ∧ w' = w := state_any g s v L w (st.get hm)
end
end Go.Proofs.Ytheipflmkjiimaa
