/- A law's state: the reference beside the program; its calls. -/
import Derived.Test.YtplllaafllcigaaDbSame
namespace Go.Proofs.Ytplllaafllcigaa
open Go.Sort Go.RowKit Go.BigFrame
set_option linter.unusedVariables false
set_option linter.unusedSimpArgs false

def hR (g : Nat) (u : Sl) (P : List (It × Sl)) (k : Nat → It) : Hl := ⟨Rs g u P k, ROwn g u P, fun h ht hF => h.touch ht hF, fun h => h.lt⟩
section
variable {w0 w w' : World} {H H1 H2 : List Hl} {h h' n : Hl}
/-- a holding turned, and one more beside, which took some of its blocks -/
theorem St.aft3 (s : St w0 (H1 ++ h :: H2) w) (ht : Touch h.own w w') (hP : h'.P w') (ho : ∀ b, h'.own b → h.own b ∨ w.heap.size ≤ b) (hn : n.P w') (hno : ∀ b, n.own b → h.own b ∨ w.heap.size ≤ b) (hnh : ∀ b, n.own b → ¬ h'.own b) : St w0 (n :: (H1 ++ h' :: H2)) w' := by
  have s2 := s.aft ht hP ho
  have hap := s.apart
  rw [List.pairwise_append] at hap
  obtain ⟨a1, a2, a3⟩ := hap
  obtain ⟨a4, a5⟩ := List.pairwise_cons.1 a2
  have far : ∀ k, k ∈ H1 ∨ k ∈ H2 → ∀ b, k.own b → ¬ h.own b := by
    rintro k (hk | hk) b hb hh
    · exact a3 k hk h (by simp) b hb hh
    · exact a4 k hk b hh hb
  have hin : ∀ k, k ∈ H1 ∨ k ∈ H2 → k ∈ H1 ++ h :: H2 := by
    rintro k (hk | hk)
    · simp [hk]
    · simp [hk]
  refine ⟨fun k hk => ?_, List.pairwise_cons.2 ⟨fun k hk b h1 h2 => ?_, s2.apart⟩, s2.below⟩
  · rcases List.mem_cons.1 hk with rfl | hk
    · refine ⟨hn, fun b hb => ?_⟩
      rcases hno b hb with h1 | h1
      · exact (s.all h (by simp)).2 b h1
      · exact Nat.le_trans s.below.size h1
    · exact s2.all k hk
  · have hk2 : k = h' ∨ (k ∈ H1 ∨ k ∈ H2) := by
      simp only [List.mem_append, List.mem_cons] at hk
      rcases hk with hk | hk | hk
      · exact .inr (.inl hk)
      · exact .inl hk
      · exact .inr (.inr hk)
    rcases hk2 with rfl | hk2
    · exact hnh b h1 h2
    · rcases hno b h1 with h3 | h3
      · exact far k hk2 b h2 h3
      · have := k.lt (s.all k (hin k hk2)).1 b h2
        omega
end
section
variable {w0 w w' : World} {H H1 H2 : List Hl} {g : Nat} {u : Sl} {P : List (It × Sl)} {k k' : Nat → It} {e : Int}
theorem raft_l (s : St w0 (H1 ++ hR g u P k :: H2) w) (ha : RAft g u P k' w w') : ∃ u' P', St w0 (H1 ++ hR g u' P' k' :: H2) w' := by
  obtain ⟨u', P', h1, h2, h3⟩ := ha
  exact ⟨u', P', s.aft (h' := hR g u' P' k') h2 h1 h3⟩
theorem rnew_box (s : St w0 H w) : St w0 (hR w.heap.size nilS [] newD :: H) (w.alloc (.cells #[.slice none 0 0] 29)) := by
  refine s.more (h := hR w.heap.size nilS [] newD) ((Below.refl _ w).alloc (Nat.le_refl _) _) ⟨Cs.new w [.slice none 0 0] _, irow_nil, by rw [all_new]; rfl, ?_, List.Pairwise.nil, new_ok⟩ ?_
  · rintro b (hb | ⟨p, hp, _⟩)
    · exact absurd hb (nil_own b)
    · simp at hp
  · rintro b (rfl | hb | ⟨p, hp, _⟩)
    · exact Nat.le_refl _
    · exact absurd hb (nil_own b)
    · simp at hp
theorem rbegin_l (i inc now hold : Int) (hn : 0 ≤ now) (hh : 0 ≤ hold) (he : beginE k i inc now hold = e) (hk : beginD k i inc now hold = k') (H1 H2 : List Hl) (s : St w0 (H1 ++ hR g u P k :: H2) w) :
    Calls Try.prog 19 #[.pointer (some ⟨g, 0, none⟩), .int .i64 i, .int .u32 inc, .int .u64 now, .int .u64 hold] w fun x w' => x = .returned (.int .i64 e) ∧ ∃ u' P', St w0 (H1 ++ hR g u' P' k' :: H2) w' :=
  (rbegin_any i inc now hold hn hh g u P k w (s.get (h := hR g u P k) (by simp))).mono fun x w' ⟨h1, h2⟩ => ⟨by rw [h1, he], raft_l s (by rw [← hk]; exact h2)⟩
theorem rconf_any (i inc who : Int) (g : Nat) (u : Sl) (P : List (It × Sl)) (k : Nat → It) (w : World) (h : Rs g u P k w) :
    Calls Try.prog 12 #[.pointer (some ⟨g, 0, none⟩), .int .i64 i, .int .u32 inc, .int .i64 who] w (RConfPost g u P k i inc who w) := by
  by_cases h1 : nodeI who = false ∨ who = i
  · exact rconf_arg i inc who g u P k w h h1
  · have h2 : nodeI who = true ∧ who ≠ i := by
      simp only [not_or, Bool.not_eq_false] at h1
      exact h1
    by_cases h3 : suspI k i = false ∨ (k i.toNat).inc ≠ inc
    · exact rconf_none i inc who g u P k w h h2.1 h2.2 h3
    · have h4 : suspI k i = true ∧ (k i.toNat).inc = inc := by
        simp only [not_or, Bool.not_eq_false, ne_eq, Decidable.not_not] at h3
        exact h3
      have hi := suspI_iff.1 h4.1
      obtain ⟨n, rfl⟩ : ∃ n : Nat, i = n := ⟨i.toNat, by omega⟩
      have e := h4.2
      rw [Int.toNat_natCast] at e
      subst e
      exact rconf_some n who (by omega) g u P k w h h2.1 h2.2 h4.1
theorem rconf_l (i inc who : Int) (he : confE k i inc who = e) (hk : confD k i inc who = k') (H1 H2 : List Hl) (s : St w0 (H1 ++ hR g u P k :: H2) w) :
    Calls Try.prog 12 #[.pointer (some ⟨g, 0, none⟩), .int .i64 i, .int .u32 inc, .int .i64 who] w fun x w' => x = .returned (.int .i64 e) ∧ ∃ u' P', St w0 (H1 ++ hR g u' P' k' :: H2) w' :=
  (rconf_any i inc who g u P k w (s.get (h := hR g u P k) (by simp))).mono fun x w' ⟨h1, h2⟩ => ⟨by rw [h1, he], raft_l s (by rw [← hk]; exact h2)⟩
theorem rclear_l (i inc : Int) {b : Bool} (he : clearB k i inc = b) (hk : clearD k i inc = k') (H1 H2 : List Hl) (s : St w0 (H1 ++ hR g u P k :: H2) w) :
    Calls Try.prog 14 #[.pointer (some ⟨g, 0, none⟩), .int .i64 i, .int .u32 inc] w fun x w' => x = .returned (.bool b) ∧ ∃ u' P', St w0 (H1 ++ hR g u' P' k' :: H2) w' :=
  (rclear_any i inc g u P k w (s.get (h := hR g u P k) (by simp))).mono fun x w' ⟨h1, h2⟩ => ⟨by rw [h1, he], raft_l s (by rw [← hk]; exact h2)⟩
theorem runtil_l (i : Int) {b : Bool} {U : Int} (hU : untilV k i = U) (hb : suspI k i = b) (s : St w0 H w) (hm : hR g u P k ∈ H) :
    Calls Try.prog 21 #[.pointer (some ⟨g, 0, none⟩), .int .i64 i] w fun x w' => x = .returned (.tuple #[.int .u64 U, .bool b]) ∧ St w0 H w' :=
  (rduntil_any i g u P k w (s.get hm)).mono fun x w' ⟨h1, h2⟩ => ⟨by rw [h1, hU, hb], s.keep h2⟩
theorem rdue_l (now : Int) {L : List It} (hL : dueL k now = L) (hk : restD k now = k') (H1 H2 : List Hl) (s : St w0 (H1 ++ hR g u P k :: H2) w) :
    Calls Try.prog 17 #[.pointer (some ⟨g, 0, none⟩), .int .u64 now] w fun x w' => ∃ (uo ur : Sl) (Po Pr : List (It × Sl)), x = .returned (.slice uo.a L.length uo.c) ∧ Po.map Prod.fst = L ∧ St w0 (hI 68 uo Po :: (H1 ++ hR g ur Pr k' :: H2)) w' := by
  have hd := s.get (h := hR g u P k) (by simp)
  refine (rdue_any g now u P k w hd).mono ?_
  rintro x w' ⟨uo, ur, Po, Pr, h1, h2, h3, h4, h5, h6, h7, h8⟩
  rw [hk] at h4
  have hn : uo.n = L.length := by rw [erow_n h3.row, ← hL, ← h2, List.length_map]
  exact ⟨uo, ur, Po, Pr, by rw [h1, hn], h2.trans hL, s.aft3 (h' := hR g ur Pr k') (n := hI 68 uo Po) h5 h4 h6 h3 h7 h8⟩
theorem ok_len (h : OkD k) : (allL k).length ≤ 33 ∧ ∀ x ∈ allL k, x.who.length ≤ 32 := ⟨all_len k, fun x hx => by
  obtain ⟨j, _, _, rfl, _⟩ := mem_all h hx
  exact h.len j⟩
theorem due_ok (h : OkD k) (now : Int) : (dueL k now).length ≤ 33 ∧ ∀ x ∈ dueL k now, x.who.length ≤ 32 := ⟨lo_len (dueB now) k 33, fun x hx => by
  obtain ⟨j, _, rfl, _⟩ := mem_lo (p := dueB now) (i := 33) hx
  exact h.len j⟩
/-- both answers told the same -/
theorem same_l {u1 u2 : Sl} {P1 P2 : List (It × Sl)} {L : List It} (hL : L.length ≤ 33 ∧ ∀ x ∈ L, x.who.length ≤ 32) (e1 : P1.map Prod.fst = L) (e2 : P2.map Prod.fst = L) (s : St w0 H w) (m1 : hI 53 u1 P1 ∈ H) (m2 : hI 68 u2 P2 ∈ H) :
    Calls Try.prog 15 #[.slice u1.a L.length u1.c, .slice u2.a L.length u2.c] w fun x w' => x = .returned (.bool true) ∧ Below w.heap.size w w' := by
  have h1 : IRow 53 w u1.v P1 := s.get m1
  have h2 : IRow 68 w u2.v P2 := s.get m2
  have n1 : u1.n = L.length := by rw [erow_n h1.row, ← e1, List.length_map]
  have n2 : u2.n = L.length := by rw [erow_n h2.row, ← e2, List.length_map]
  obtain ⟨a1, q1, c1⟩ := u1
  obtain ⟨a2, q2, c2⟩ := u2
  simp only at n1 n2
  subst n1
  subst n2
  exact same_any a1 _ c1 a2 _ c2 P1 P2 L w h1 h2 e1 e2 hL.1 hL.2
theorem same_r {u1 : Sl} {P1 : List (It × Sl)} (hL : (allL k).length ≤ 33 ∧ ∀ x ∈ allL k, x.who.length ≤ 32) (e1 : P1.map Prod.fst = allL k) (s : St w0 H w) (m1 : hI 53 u1 P1 ∈ H) (m2 : hR g u P k ∈ H) :
    Calls Try.prog 15 #[.slice u1.a (allL k).length u1.c, .slice u.a u.n u.c] w fun x w' => x = .returned (.bool true) ∧ Below w.heap.size w w' := by
  have h1 : IRow 53 w u1.v P1 := s.get m1
  have h2 : Rs g u P k w := s.get m2
  have n1 : u1.n = (allL k).length := by rw [erow_n h1.row, ← e1, List.length_map]
  obtain ⟨a1, q1, c1⟩ := u1
  simp only at n1
  subst n1
  exact same_any a1 _ c1 u.a _ u.c P1 P _ w h1 h2.row e1 h2.is hL.1 hL.2
end
end Go.Proofs.Ytplllaafllcigaa
