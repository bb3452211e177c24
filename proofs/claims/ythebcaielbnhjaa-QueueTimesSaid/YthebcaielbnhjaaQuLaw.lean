/- A law's state: what it holds in memory made since it began: queues, slices of our own, boxes; each holding's blocks are its own. -/
import Derived.Test.YthebcaielbnhjaaQuRSome
namespace Go.Proofs.Ythebcaielbnhjaa
open Go.Sort Go.RowKit Go.BigFrame
set_option linter.unusedVariables false
set_option linter.unusedSimpArgs false

/-- a holding: what holds, and which blocks are its own -/
structure Hl where
  P : World → Prop
  own : Nat → Prop
  st : ∀ {F : Nat → Prop} {w w' : World}, P w → Touch F w w' → (∀ b, own b → ¬ F b) → P w'
  lt : ∀ {w : World}, P w → ∀ b, own b → b < w.heap.size
def hQ (k : Bool) (g room : Nat) (v : Sl) (S : List Im) : Hl := ⟨Qs k g room v S, OwnS g v, fun h ht hF => h.touch ht hF, fun h => h.lt⟩
def hE {α : Type} (c : α → List Value) (z : Nat) (T : TypeId) (u : Sl) (L : List α) : Hl := ⟨fun w => ERow c z T w u.v L, fun b => u.v.ownBlock = some b, fun h ht hF => erow_touch h ht hF, fun h b hb => erow_lt h hb⟩
def hC (b : Nat) (vs : List Value) : Hl := ⟨Cs b vs, fun k => k = b, fun h ht hF => h.touch ht (hF b rfl), fun h k hk => by rw [hk]; exact h.lt⟩
structure St (w0 : World) (H : List Hl) (w : World) : Prop where
  all : ∀ h ∈ H, h.P w ∧ ∀ b, h.own b → w0.heap.size ≤ b
  apart : H.Pairwise fun h k => ∀ b, h.own b → ¬ k.own b
  below : Below w0.heap.size w0 w
section
variable {w0 w w' : World} {H H1 H2 H' : List Hl} {h h' : Hl}
theorem St.start (w0 w : World) (hb : Below w0.heap.size w0 w) : St w0 [] w := ⟨by simp, by simp, hb⟩
theorem St.keep (s : St w0 H w) (hb : Below w.heap.size w w') : St w0 H w' :=
  ⟨fun h hm => ⟨h.st (s.all h hm).1 (Touch.of_below (fun _ => False) hb) (fun _ _ h => h), (s.all h hm).2⟩, s.apart, s.below.trans (hb.mono s.below.size)⟩
theorem St.drew (s : St w0 H w) : St w0 H w.drew := s.keep (Below.refl _ _).drew
theorem St.alloc (s : St w0 H w) (o : Obj) : St w0 H (w.alloc o) := s.keep ((Below.refl _ _).alloc (Nat.le_refl _) o)
theorem St.get (s : St w0 H w) (hm : h ∈ H) : h.P w := (s.all h hm).1
theorem St.sub (s : St w0 H w) (hs : H'.Sublist H) : St w0 H' w := ⟨fun h hm => s.all h (hs.subset hm), s.apart.sublist hs, s.below⟩
theorem St.drop (s : St w0 (h :: H) w) : St w0 H w := s.sub (List.sublist_cons_self _ _)
/-- a holding more, of new memory -/
theorem St.more (s : St w0 H w) (hb : Below w.heap.size w w') (hP : h.P w') (ho : ∀ b, h.own b → w.heap.size ≤ b) : St w0 (h :: H) w' := by
  have s2 := s.keep hb
  refine ⟨fun k hk => ?_, List.pairwise_cons.2 ⟨fun k hk b h1 h2 => ?_, s.apart⟩, s2.below⟩
  · rcases List.mem_cons.1 hk with rfl | hk
    · exact ⟨hP, fun b hb => Nat.le_trans s.below.size (ho b hb)⟩
    · exact s2.all k hk
  · have := k.lt (s.all k hk).1 b h2
    have := ho b h1
    omega
theorem St.nil (s : St w0 H w) (hP : h.P w) (ho : ∀ b, ¬ h.own b) : St w0 (h :: H) w := s.more (Below.refl _ _) hP (fun b hb => (ho b hb).elim)
/-- a holding turned -/
theorem St.aft (s : St w0 (H1 ++ h :: H2) w) (ht : Touch h.own w w') (hP : h'.P w') (ho : ∀ b, h'.own b → h.own b ∨ w.heap.size ≤ b) : St w0 (H1 ++ h' :: H2) w' := by
  have hm : h ∈ H1 ++ h :: H2 := by simp
  have hap := s.apart
  rw [List.pairwise_append] at hap
  obtain ⟨a1, a2, a3⟩ := hap
  obtain ⟨a4, a5⟩ := List.pairwise_cons.1 a2
  have far : ∀ k, k ∈ H1 ∨ k ∈ H2 → ∀ b, k.own b → ¬ h.own b := by
    rintro k (hk | hk) b hb hh
    · exact a3 k hk h (by simp) b hb hh
    · exact a4 k hk b hh hb
  have hin : ∀ k, k ∈ H1 ∨ k ∈ H2 → k ∈ H1 ++ h :: H2 := by
    rintro k (hk | hk)
    · simp [hk]
    · simp [hk]
  have new : ∀ k, k ∈ H1 ∨ k ∈ H2 → ∀ b, k.own b → ¬ h'.own b := by
    intro k hk b hb hh
    rcases ho b hh with h1 | h1
    · exact far k hk b hb h1
    · have := k.lt (s.all k (hin k hk)).1 b hb
      omega
  refine ⟨fun k hk => ?_, List.pairwise_append.2 ⟨a1, List.pairwise_cons.2 ⟨fun k hk b h1 h2 => new k (.inr hk) b h2 h1, a5⟩, fun k hk l hl => ?_⟩, ?_⟩
  · have hk2 : k = h' ∨ (k ∈ H1 ∨ k ∈ H2) := by
      simp only [List.mem_append, List.mem_cons] at hk
      rcases hk with hk | hk | hk
      · exact .inr (.inl hk)
      · exact .inl hk
      · exact .inr (.inr hk)
    rcases hk2 with rfl | hk2
    · refine ⟨hP, fun b hb => ?_⟩
      rcases ho b hb with h1 | h1
      · exact (s.all h hm).2 b h1
      · exact Nat.le_trans s.below.size h1
    · exact ⟨k.st (s.all k (hin k hk2)).1 ht (far k hk2), (s.all k (hin k hk2)).2⟩
  · rcases List.mem_cons.1 hl with rfl | hl
    · exact fun b hb => new k (.inl hk) b hb
    · exact a3 k hk l (by simp [hl])
  · exact s.below.trans (ht.below s.below.size (fun b _ hb => (s.all h hm).2 b hb))
/-- a holding turned, and one more beside -/
theorem St.aft2 {n : Hl} (s : St w0 (H1 ++ h :: H2) w) (ht : Touch h.own w w') (hP : h'.P w') (ho : ∀ b, h'.own b → h.own b ∨ w.heap.size ≤ b) (hn : n.P w') (hno : ∀ b, n.own b → w.heap.size ≤ b) (hnh : ∀ b, n.own b → ¬ h'.own b) : St w0 (n :: (H1 ++ h' :: H2)) w' := by
  have s2 := s.aft ht hP ho
  refine ⟨fun k hk => ?_, List.pairwise_cons.2 ⟨fun k hk b h1 h2 => ?_, s2.apart⟩, s2.below⟩
  · rcases List.mem_cons.1 hk with rfl | hk
    · exact ⟨hn, fun b hb => Nat.le_trans s.below.size (hno b hb)⟩
    · exact s2.all k hk
  · have hk2 : k = h' ∨ k ∈ H1 ++ h :: H2 := by
      simp only [List.mem_append, List.mem_cons] at hk ⊢
      rcases hk with hk | hk | hk
      · exact .inr (.inl hk)
      · exact .inl hk
      · exact .inr (.inr (.inr hk))
    rcases hk2 with rfl | hk2
    · exact hnh b h1 h2
    · have := k.lt (s.all k hk2).1 b h2
      have := hno b h1
      omega
theorem St.box (s : St w0 H w) (vs : List Value) (T : TypeId) : St w0 (hC w.heap.size vs :: H) (w.alloc (.cells vs.toArray T)) :=
  s.more (h := hC w.heap.size vs) ((Below.refl _ w).alloc (Nat.le_refl _) _) (Cs.new w vs T) (fun b hb => by rw [show b = w.heap.size from hb]; exact Nat.le_refl _)
theorem St.cs {b : Nat} {vs : List Value} (s : St w0 H w) (hm : hC b vs ∈ H) : Cs b vs w := s.get hm
theorem St.rd {α : Type} {c : α → List Value} {z : Nat} {T : TypeId} {u : Sl} {L : List α} (he : Enc c z) (s : St w0 H w) (hm : hE c z T u L ∈ H) : RdE c z w u.a L := erow_rd (n := u.n) (cap := u.c) he (s.get hm)
/-! calls -/
variable {k : Bool} {g room : Nat} {v : Sl} {S : List Im}
theorem fresh_l {e : Ending} {α : Type} {c : α → List Value} {z : Nat} {T : TypeId} {L : List α} (s : St w0 H w) (hp : NewPost c z T L w e w') : ∃ u : Sl, e = .returned (.slice u.a L.length u.c) ∧ St w0 (hE c z T u L :: H) w' := by
  obtain ⟨u, he, hn, hb⟩ := hp
  exact ⟨u, by rw [he, hn.2.1], s.more (h := hE c z T u L) hb hn.1 hn.2.2⟩
theorem aft_l {S' : List Im} (s : St w0 (H1 ++ hQ k g room v S :: H2) w) (ha : Aft k g room v S' w w') : ∃ v', St w0 (H1 ++ hQ k g room v' S' :: H2) w' := by
  obtain ⟨v', h1, h2, h3⟩ := ha
  exact ⟨v', s.aft (h' := hQ k g room v' S') h2 h1 h3⟩
theorem some_post {T : TypeId} {S' : List Im} {D : List Rec} {e : Ending} (s : St w0 (H1 ++ hQ k g room v S :: H2) w) (hp : SomePost k T g room v S' D w e w') : ∃ t v' : Sl, e = .returned (.slice t.a D.length t.c) ∧ St w0 (hE rcs 5 T t D :: (H1 ++ hQ k g room v' S' :: H2)) w' := by
  obtain ⟨t, v', he, hn, h1, h2, h3, h4⟩ := hp
  exact ⟨t, v', he, s.aft2 (h' := hQ k g room v' S') (n := hE rcs 5 T t D) h2 h1 h3 hn.1 hn.2.2 h4⟩
theorem new_l (room : Int) (s : St w0 H w) : Calls Try.prog 10 #[.int .i64 room] w (fun e w' => ∃ p, e = .returned (.tuple #[p, .int .i64 (if roomI room = true then 0 else 1)]) ∧
    ((roomI room = false ∧ p = .pointer none ∧ St w0 H w') ∨ (roomI room = true ∧ ∃ g, p = .pointer (some ⟨g, 0, none⟩) ∧ St w0 (hQ true g room.toNat ⟨none, 0, 0⟩ [] :: H) w'))) :=
  (new_any room w).mono fun e w' ⟨p, he, hn⟩ => ⟨p, he, by
    rcases hn with ⟨h1, h2, rfl⟩ | ⟨h1, h2, h3, h4⟩
    · exact .inl ⟨h1, h2, s⟩
    · refine .inr ⟨h1, _, h2, s.more (h := hQ true w.heap.size room.toNat ⟨none, 0, 0⟩ []) h4 h3 (fun b hb => ?_)⟩
      rcases hb with rfl | hb
      · exact Nat.le_refl _
      · simp [Sl.v, Value.ownBlock] at hb⟩
theorem newq_ok (room : Nat) (h1 : 1 ≤ room) (h2 : room ≤ 64) (s : St w0 H w) : Calls Try.prog 10 #[.int .i64 (room : Nat)] w (fun e w' => ∃ g, e = .returned (.tuple #[.pointer (some ⟨g, 0, none⟩), .int .i64 0]) ∧ St w0 (hQ true g room ⟨none, 0, 0⟩ [] :: H) w') :=
  (new_l (room : Int) s).mono fun e w' ⟨p, he, hn⟩ => by
    have hr : roomI (room : Int) = true := room_iff.2 ⟨by omega, by omega⟩
    rcases hn with ⟨h1, _⟩ | ⟨_, g, hp, hs⟩
    · rw [hr] at h1; cases h1
    · rw [hp, if_pos hr] at he
      exact ⟨g, he, by simpa using hs⟩
theorem rnew_l (room : Int) (s : St w0 H w) : Calls Try.prog 11 #[.int .i64 room] w (fun e w' => ∃ p, e = .returned p ∧
    ((roomI room = false ∧ p = .pointer none ∧ St w0 H w') ∨ (roomI room = true ∧ ∃ g, p = .pointer (some ⟨g, 0, none⟩) ∧ St w0 (hQ false g room.toNat ⟨none, 0, 0⟩ [] :: H) w'))) :=
  (rnew_any room w).mono fun e w' ⟨p, he, hn⟩ => ⟨p, he, by
    rcases hn with ⟨h1, h2, rfl⟩ | ⟨h1, h2, h3, h4⟩
    · exact .inl ⟨h1, h2, s⟩
    · refine .inr ⟨h1, _, h2, s.more (h := hQ false w.heap.size room.toNat ⟨none, 0, 0⟩ []) h4 h3 (fun b hb => ?_)⟩
      rcases hb with rfl | hb
      · exact Nat.le_refl _
      · simp [Sl.v, Value.ownBlock] at hb⟩
theorem add_l (r : Rec) (hr : r.Ok) (n : Int) (H1 H2 : List Hl) (s : St w0 (H1 ++ hQ true g room v S :: H2) w) :
    Calls Try.prog 18 #[.pointer (some ⟨g, 0, none⟩), .agg #[.int .i64 r.id, .int .i64 r.st, .int .u32 r.n, .int .u32 r.ip, .int .u16 r.port], .int .i64 n] w (fun e w' => e = .returned (.int .i64 (errA S r n)) ∧ ∃ v', St w0 (H1 ++ hQ true g room v' (addS room S r n) :: H2) w') := by
  have hq : Qs true g room v S w := s.get (h := hQ true g room v S) (by simp)
  cases hb : r.right && fitT n with
  | false =>
    obtain ⟨e1, e2⟩ := err_bad (S := S) hb room
    rw [e1, e2]
    exact (add_bad r hr n g room v S w hq hb).mono fun e w' ⟨he, ha⟩ => ⟨he, aft_l s ha⟩
  | true => exact (add_good r hr n g room v S w hq hb).mono fun e w' ⟨he, ha⟩ => ⟨he, aft_l s ha⟩
theorem radd_l (r : Rec) (hr : r.Ok) (n : Int) (H1 H2 : List Hl) (s : St w0 (H1 ++ hQ false g room v S :: H2) w) :
    Calls Try.prog 19 #[.pointer (some ⟨g, 0, none⟩), .agg #[.int .i64 r.id, .int .i64 r.st, .int .u32 r.n, .int .u32 r.ip, .int .u16 r.port], .int .i64 n] w (fun e w' => e = .returned (.int .i64 (errA S r n)) ∧ ∃ v', St w0 (H1 ++ hQ false g room v' (addS room S r n) :: H2) w') := by
  have hq : Qs false g room v S w := s.get (h := hQ false g room v S) (by simp)
  cases hb : r.right && fitT n with
  | false =>
    obtain ⟨e1, e2⟩ := err_bad (S := S) hb room
    rw [e1, e2]
    exact (radd_bad r hr n g room v S w hq hb).mono fun e w' ⟨he, ha⟩ => ⟨he, aft_l s ha⟩
  | true => exact (radd_good r hr n g room v S w hq hb).mono fun e w' ⟨he, ha⟩ => ⟨he, aft_l s ha⟩
theorem some_l (n : Int) (H1 H2 : List Hl) (s : St w0 (H1 ++ hQ true g room v S :: H2) w) :
    Calls Try.prog 16 #[.pointer (some ⟨g, 0, none⟩), .int .i64 n] w (fun e w' => ∃ t v' : Sl, e = .returned (.slice t.a (toldS S n).length t.c) ∧ St w0 (hE rcs 5 37 t (toldS S n) :: (H1 ++ hQ true g room v' (someS S n) :: H2)) w') :=
  (some_any n g room v S w (s.get (h := hQ true g room v S) (by simp))).mono fun e w' hp => some_post s hp
theorem rsome_l (n : Int) (H1 H2 : List Hl) (s : St w0 (H1 ++ hQ false g room v S :: H2) w) :
    Calls Try.prog 17 #[.pointer (some ⟨g, 0, none⟩), .int .i64 n] w (fun e w' => ∃ t v' : Sl, e = .returned (.slice t.a (toldS S n).length t.c) ∧ St w0 (hE rcs 5 52 t (toldS S n) :: (H1 ++ hQ false g room v' (someS S n) :: H2)) w') :=
  (rsome_any n g room v S w (s.get (h := hQ false g room v S) (by simp))).mono fun e w' hp => some_post s hp
theorem items_l (s : St w0 H w) (hm : hQ true g room v S ∈ H) :
    Calls Try.prog 21 #[.pointer (some ⟨g, 0, none⟩)] w (fun e w' => ∃ u : Sl, e = .returned (.slice u.a S.length u.c) ∧ St w0 (hE ci 6 61 u S :: H) w') :=
  (items_any g room v S w (s.get hm)).mono fun e w' hp => fresh_l s hp
theorem len_l (s : St w0 H w) (hm : hQ true g room v S ∈ H) :
    Calls Try.prog 22 #[.pointer (some ⟨g, 0, none⟩)] w fun e w' => e = .returned (.int .i64 (S.length : Nat)) ∧ w' = w := len_any g room v S w (s.get hm)
theorem len_b (s : St w0 H w) (hm : hQ true g room v S ∈ H) (w' : World) (hb : Below w.heap.size w w') :
    Calls Try.prog 22 #[.pointer (some ⟨g, 0, none⟩)] w' fun e w'' => e = .returned (.int .i64 (S.length : Nat)) ∧ Below w'.heap.size w' w'' :=
  (len_l (s.keep hb) hm).mono fun e w'' ⟨he, hw⟩ => ⟨he, by rw [hw]; exact Below.refl _ _⟩
theorem times_b (n : Int) (h : n ≤ 9223372036854775807) (w : World) : Calls Try.prog 12 #[.int .i64 n] w fun e w' => e = .returned (.int .i64 (timesN n : Nat)) ∧ Below w.heap.size w w' :=
  (times_any n h w).mono fun e w'' ⟨he, hw⟩ => ⟨he, by rw [hw]; exact Below.refl _ _⟩
end
end Go.Proofs.Ythebcaielbnhjaa
