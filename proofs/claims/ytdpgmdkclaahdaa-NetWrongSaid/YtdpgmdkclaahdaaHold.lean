/- A law's state: what it holds in memory made since it began; each holding's blocks are its own (taken from chapter 13, without its rings and rows). -/
import Derived.Test.YtdpgmdkclaahdaaOwn
namespace Go.Proofs.Ytdpgmdkclaahdaa
open Go.Sort Go.RowKit Go.BigFrame
set_option linter.unusedVariables false
set_option linter.unusedSimpArgs false

/-- a holding: what holds, and which blocks are its own -/
structure Hl where
  P : World → Prop
  own : Nat → Prop
  st : ∀ {F : Nat → Prop} {w w' : World}, P w → Touch F w w' → (∀ b, own b → ¬ F b) → P w'
  lt : ∀ {w : World}, P w → ∀ b, own b → b < w.heap.size
def hC (b : Nat) (vs : List Value) : Hl := ⟨Cs b vs, fun k => k = b, fun h ht hF => h.touch ht (hF b rfl), fun h k hk => by rw [hk]; exact h.lt⟩
structure St (w0 : World) (H : List Hl) (w : World) : Prop where
  all : ∀ h ∈ H, h.P w ∧ ∀ b, h.own b → w0.heap.size ≤ b
  apart : H.Pairwise fun h k => ∀ b, h.own b → ¬ k.own b
  below : Below w0.heap.size w0 w
section
variable {w0 w w' : World} {H H1 H2 H' : List Hl} {h h' : Hl}
theorem St.start (w0 w : World) (hb : Below w0.heap.size w0 w) : St w0 [] w := ⟨by simp, by simp, hb⟩
theorem St.keep (s : St w0 H w) (hb : Below w.heap.size w w') : St w0 H w' :=
  ⟨fun h hm => ⟨h.st (s.all h hm).1 (Touch.of_below (fun _ => False) hb) (fun _ _ h => h), (s.all h hm).2⟩, s.apart, s.below.trans (hb.mono s.below.size)⟩
theorem St.drew (s : St w0 H w) : St w0 H w.drew := s.keep (Below.refl _ _).drew
theorem St.alloc (s : St w0 H w) (o : Obj) : St w0 H (w.alloc o) := s.keep ((Below.refl _ _).alloc (Nat.le_refl _) o)
theorem St.get (s : St w0 H w) (hm : h ∈ H) : h.P w := (s.all h hm).1
theorem St.sub (s : St w0 H w) (hs : H'.Sublist H) : St w0 H' w := ⟨fun h hm => s.all h (hs.subset hm), s.apart.sublist hs, s.below⟩
theorem St.drop (s : St w0 (h :: H) w) : St w0 H w := s.sub (List.sublist_cons_self _ _)
/-- a holding more, of new memory -/
theorem St.more (s : St w0 H w) (hb : Below w.heap.size w w') (hP : h.P w') (ho : ∀ b, h.own b → w.heap.size ≤ b) : St w0 (h :: H) w' := by
  have s2 := s.keep hb
  refine ⟨fun k hk => ?_, List.pairwise_cons.2 ⟨fun k hk b h1 h2 => ?_, s.apart⟩, s2.below⟩
  · rcases List.mem_cons.1 hk with rfl | hk
    · exact ⟨hP, fun b hb => Nat.le_trans s.below.size (ho b hb)⟩
    · exact s2.all k hk
  · have := k.lt (s.all k hk).1 b h2
    have := ho b h1
    omega
theorem St.nil (s : St w0 H w) (hP : h.P w) (ho : ∀ b, ¬ h.own b) : St w0 (h :: H) w := s.more (Below.refl _ _) hP (fun b hb => (ho b hb).elim)
/-- a holding turned -/
theorem St.aft (s : St w0 (H1 ++ h :: H2) w) (ht : Touch h.own w w') (hP : h'.P w') (ho : ∀ b, h'.own b → h.own b ∨ w.heap.size ≤ b) : St w0 (H1 ++ h' :: H2) w' := by
  have hm : h ∈ H1 ++ h :: H2 := by simp
  have hap := s.apart
  rw [List.pairwise_append] at hap
  obtain ⟨a1, a2, a3⟩ := hap
  obtain ⟨a4, a5⟩ := List.pairwise_cons.1 a2
  have far : ∀ k, k ∈ H1 ∨ k ∈ H2 → ∀ b, k.own b → ¬ h.own b := by
    rintro k (hk | hk) b hb hh
    · exact a3 k hk h (by simp) b hb hh
    · exact a4 k hk b hh hb
  have hin : ∀ k, k ∈ H1 ∨ k ∈ H2 → k ∈ H1 ++ h :: H2 := by
    rintro k (hk | hk)
    · simp [hk]
    · simp [hk]
  have new : ∀ k, k ∈ H1 ∨ k ∈ H2 → ∀ b, k.own b → ¬ h'.own b := by
    intro k hk b hb hh
    rcases ho b hh with h1 | h1
    · exact far k hk b hb h1
    · have := k.lt (s.all k (hin k hk)).1 b hb
      omega
  refine ⟨fun k hk => ?_, List.pairwise_append.2 ⟨a1, List.pairwise_cons.2 ⟨fun k hk b h1 h2 => new k (.inr hk) b h2 h1, a5⟩, fun k hk l hl => ?_⟩, ?_⟩
  · have hk2 : k = h' ∨ (k ∈ H1 ∨ k ∈ H2) := by
      simp only [List.mem_append, List.mem_cons] at hk
      rcases hk with hk | hk | hk
      · exact .inr (.inl hk)
      · exact .inl hk
      · exact .inr (.inr hk)
    rcases hk2 with rfl | hk2
    · refine ⟨hP, fun b hb => ?_⟩
      rcases ho b hb with h1 | h1
      · exact (s.all h hm).2 b h1
      · exact Nat.le_trans s.below.size h1
    · exact ⟨k.st (s.all k (hin k hk2)).1 ht (far k hk2), (s.all k (hin k hk2)).2⟩
  · rcases List.mem_cons.1 hl with rfl | hl
    · exact fun b hb => new k (.inl hk) b hb
    · exact a3 k hk l (by simp [hl])
  · exact s.below.trans (ht.below s.below.size (fun b _ hb => (s.all h hm).2 b hb))
/-- a holding turned, and one more beside -/
theorem St.aft2 {n : Hl} (s : St w0 (H1 ++ h :: H2) w) (ht : Touch h.own w w') (hP : h'.P w') (ho : ∀ b, h'.own b → h.own b ∨ w.heap.size ≤ b) (hn : n.P w') (hno : ∀ b, n.own b → w.heap.size ≤ b) (hnh : ∀ b, n.own b → ¬ h'.own b) : St w0 (n :: (H1 ++ h' :: H2)) w' := by
  have s2 := s.aft ht hP ho
  refine ⟨fun k hk => ?_, List.pairwise_cons.2 ⟨fun k hk b h1 h2 => ?_, s2.apart⟩, s2.below⟩
  · rcases List.mem_cons.1 hk with rfl | hk
    · exact ⟨hn, fun b hb => Nat.le_trans s.below.size (hno b hb)⟩
    · exact s2.all k hk
  · have hk2 : k = h' ∨ k ∈ H1 ++ h :: H2 := by
      simp only [List.mem_append, List.mem_cons] at hk ⊢
      rcases hk with hk | hk | hk
      · exact .inr (.inl hk)
      · exact .inl hk
      · exact .inr (.inr (.inr hk))
    rcases hk2 with rfl | hk2
    · exact hnh b h1 h2
    · have := k.lt (s.all k hk2).1 b h2
      have := hno b h1
      omega
theorem St.box (s : St w0 H w) (vs : List Value) (T : TypeId) : St w0 (hC w.heap.size vs :: H) (w.alloc (.cells vs.toArray T)) :=
  s.more (h := hC w.heap.size vs) ((Below.refl _ w).alloc (Nat.le_refl _) _) (Cs.new w vs T) (fun b hb => by rw [show b = w.heap.size from hb]; exact Nat.le_refl _)
theorem St.cs {b : Nat} {vs : List Value} (s : St w0 H w) (hm : hC b vs ∈ H) : Cs b vs w := s.get hm
/-- two holdings have no block in common -/
theorem St.two (s : St w0 (H1 ++ h :: H2) w) {k : Hl} (hk : k ∈ H1 ++ H2) (b : Nat) (hb : k.own b) : ¬ h.own b := by
  have hap := s.apart
  rw [List.pairwise_append] at hap
  obtain ⟨a1, a2, a3⟩ := hap
  obtain ⟨a4, a5⟩ := List.pairwise_cons.1 a2
  rcases List.mem_append.1 hk with hk | hk
  · exact a3 k hk h (by simp) b hb
  · exact fun hh => a4 k hk b hh hb
end
theorem St.setc {w0 w : World} {b : Nat} {vs : List Value} (H1 H2 : List Hl) (s : St w0 (H1 ++ hC b vs :: H2) w) (i : Nat) (v : Value) (hi : i < vs.length) : St w0 (H1 ++ hC b (vs.set i v) :: H2) (w.setCell ⟨b, i, none⟩ v) :=
  s.aft (h' := hC b (vs.set i v)) (Touch.set (F := fun k => k = b) (Touch.refl _ _) (fun _ => rfl) _) ((s.cs (by simp)).set i v hi) (fun k hk => .inl hk)
theorem St.perm {w0 w : World} {H H' : List Hl} (s : St w0 H w) (hp : H'.Perm H) : St w0 H' w :=
  ⟨fun h hm => s.all h (hp.subset hm), hp.symm.pairwise s.apart (fun hab b h1 h2 => hab b h2 h1), s.below⟩
/-- a whole block is written, cell by cell -/
theorem St.setn {w0 : World} {b : Nat} (H1 H2 : List Hl) : ∀ (us pre suf : List Value) {w : World}, us.length = suf.length → St w0 (H1 ++ hC b (pre ++ suf) :: H2) w →
    St w0 (H1 ++ hC b (pre ++ us) :: H2) (us.foldl (fun (x : World × Nat) u => (x.1.setCell ⟨b, x.2, none⟩ u, x.2 + 1)) (w, pre.length)).1
  | [], pre, suf, w, hl, s => by
    obtain rfl : suf = [] := List.eq_nil_of_length_eq_zero (by simpa using hl.symm)
    exact s
  | u :: us, pre, [], w, hl, s => by simp at hl
  | u :: us, pre, v :: suf, w, hl, s => by
    have h := s.setc H1 H2 pre.length u (by simp)
    have e : (pre ++ v :: suf).set pre.length u = (pre ++ [u]) ++ suf := by simp
    rw [e] at h
    have h2 := St.setn H1 H2 us (pre ++ [u]) suf (by simpa using hl) h
    simp only [List.append_assoc, List.singleton_append, List.length_append, List.length_singleton] at h2
    exact h2
end Go.Proofs.Ytdpgmdkclaahdaa
