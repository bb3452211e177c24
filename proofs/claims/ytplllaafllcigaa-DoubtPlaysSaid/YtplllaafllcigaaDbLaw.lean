/- A law's state: who is suspected, answered items; the program's calls over it. -/
import Derived.Test.YtplllaafllcigaaHold
import Derived.Test.YtplllaafllcigaaDbDue
namespace Go.Proofs.Ytplllaafllcigaa
open Go.Sort Go.RowKit Go.BigFrame
set_option linter.unusedVariables false
set_option linter.unusedSimpArgs false

def hD (g : Nat) (V : Nat → Sl) (k : Nat → It) : Hl := ⟨Ds g V k, DOwn g V, fun h ht hF => h.touch ht hF, fun h => h.lt⟩
def hI (T : TypeId) (u : Sl) (P : List (It × Sl)) : Hl := ⟨fun w => IRow T w u.v P, IOwn u.v P, fun h ht hF => h.touch ht hF, fun h => h.lt⟩
section
variable {w0 w w' : World} {H H1 H2 : List Hl} {g : Nat} {V : Nat → Sl} {k k' : Nat → It} {e : Int}
theorem aft_l (s : St w0 (H1 ++ hD g V k :: H2) w) (ha : DAft g V k' w w') : ∃ V', St w0 (H1 ++ hD g V' k' :: H2) w' := by
  obtain ⟨V', h1, h2, h3⟩ := ha
  exact ⟨V', s.aft (h' := hD g V' k') h2 h1 h3⟩
theorem new_l (s : St w0 H w) : Calls Try.prog 10 #[] w fun e w' => ∃ g, e = .returned (.pointer (some ⟨g, 0, none⟩)) ∧ St w0 (hD g (fun _ => nilS) newD :: H) w' :=
  (new_any w).mono fun e w' ⟨g, he, hg, hd, hb⟩ => ⟨g, he, s.more (h := hD g (fun _ => nilS) newD) hb hd (fun b hb => by
    rcases hb with rfl | ⟨i, hb⟩
    · exact hg
    · exact absurd hb (nil_own b))⟩
theorem begin_l (i inc now hold : Int) (hn : 0 ≤ now) (hh : 0 ≤ hold) (he : beginE k i inc now hold = e) (hk : beginD k i inc now hold = k') (H1 H2 : List Hl) (s : St w0 (H1 ++ hD g V k :: H2) w) :
    Calls Try.prog 18 #[.pointer (some ⟨g, 0, none⟩), .int .i64 i, .int .u32 inc, .int .u64 now, .int .u64 hold] w fun x w' => x = .returned (.int .i64 e) ∧ ∃ V', St w0 (H1 ++ hD g V' k' :: H2) w' :=
  (begin_any i inc now hold hn hh g V k w (s.get (h := hD g V k) (by simp))).mono fun x w' ⟨h1, h2⟩ => ⟨by rw [h1, he], aft_l s (by rw [← hk]; exact h2)⟩
theorem conf_l (i inc who : Int) (he : confE k i inc who = e) (hk : confD k i inc who = k') (H1 H2 : List Hl) (s : St w0 (H1 ++ hD g V k :: H2) w) :
    Calls Try.prog 11 #[.pointer (some ⟨g, 0, none⟩), .int .i64 i, .int .u32 inc, .int .i64 who] w fun x w' => x = .returned (.int .i64 e) ∧ ∃ V', St w0 (H1 ++ hD g V' k' :: H2) w' :=
  (conf_any i inc who g V k w (s.get (h := hD g V k) (by simp))).mono fun x w' ⟨h1, h2⟩ => ⟨by rw [h1, he], aft_l s (by rw [← hk]; exact h2)⟩
theorem clear_l (i inc : Int) {b : Bool} (he : clearB k i inc = b) (hk : clearD k i inc = k') (H1 H2 : List Hl) (s : St w0 (H1 ++ hD g V k :: H2) w) :
    Calls Try.prog 13 #[.pointer (some ⟨g, 0, none⟩), .int .i64 i, .int .u32 inc] w fun x w' => x = .returned (.bool b) ∧ ∃ V', St w0 (H1 ++ hD g V' k' :: H2) w' :=
  (clear_any i inc g V k w (s.get (h := hD g V k) (by simp))).mono fun x w' ⟨h1, h2⟩ => ⟨by rw [h1, he], aft_l s (by rw [← hk]; exact h2)⟩
theorem until_l (i : Int) {b : Bool} {U : Int} (hU : untilV k i = U) (hb : suspI k i = b) (s : St w0 H w) (hm : hD g V k ∈ H) :
    Calls Try.prog 20 #[.pointer (some ⟨g, 0, none⟩), .int .i64 i] w fun x w' => x = .returned (.tuple #[.int .u64 U, .bool b]) ∧ St w0 H w' :=
  (duntil_any i g V k w (s.get hm)).mono fun x w' ⟨h1, h2⟩ => ⟨by rw [h1, hU, hb], s.keep h2⟩
theorem due_l (now : Int) {L : List It} (hL : dueL k now = L) (hk : restD k now = k') (H1 H2 : List Hl) (s : St w0 (H1 ++ hD g V k :: H2) w) :
    Calls Try.prog 16 #[.pointer (some ⟨g, 0, none⟩), .int .u64 now] w fun x w' => ∃ (u : Sl) (P : List (It × Sl)) (V' : Nat → Sl), x = .returned (.slice u.a L.length u.c) ∧ P.map Prod.fst = L ∧ St w0 (hI 53 u P :: (H1 ++ hD g V' k' :: H2)) w' := by
  have hd := s.get (h := hD g V k) (by simp)
  refine (due_any g now V k w hd).mono ?_
  rintro x w' ⟨u, P, V', h1, h2, h3, h4, h5, h6, h7, _⟩
  rw [hk] at h5
  have hn : u.n = L.length := by rw [erow_n h3.row, ← hL, ← h2, List.length_map]
  refine ⟨u, P, V', by rw [h1, hn], h2.trans hL, s.aft2 (h' := hD g V' k') (n := hI 53 u P) h6 h5 (fun b hb => .inl (h7 b hb)) h3 h4 (fun b hb hd2 => ?_)⟩
  have h8 := h4 b hb
  have h9 := Ds.lt hd b (h7 b hd2)
  omega
theorem items_l {L : List It} (hL : allL k = L) (s : St w0 H w) (hm : hD g V k ∈ H) :
    Calls Try.prog 22 #[.pointer (some ⟨g, 0, none⟩)] w fun x w' => ∃ (u : Sl) (P : List (It × Sl)), x = .returned (.slice u.a L.length u.c) ∧ P.map Prod.fst = L ∧ St w0 (hI 53 u P :: H) w' := by
  refine (items_any g V k w (s.get hm)).mono ?_
  rintro x w' ⟨u, P, h1, h2, h3, h4, h5, _⟩
  have hn : u.n = L.length := by rw [erow_n h3.row, ← hL, ← h2, List.length_map]
  exact ⟨u, P, by rw [h1, hn], h2.trans hL, s.more (h := hI 53 u P) h5 h3 h4⟩
/-- nobody is suspected: the answer is nil, whatever the world -/
theorem items_nil (hL : allL k = []) (s : St w0 H w) (hm : hD g V k ∈ H) (w1 : World) (hb : Below w.heap.size w w1) :
    Calls Try.prog 22 #[.pointer (some ⟨g, 0, none⟩)] w1 fun x w' => x = .returned (.slice none 0 0) ∧ Below w1.heap.size w1 w' := by
  have h : Ds g V k w := s.get hm
  refine (items_any g V k w1 (h.keep hb)).mono ?_
  rintro x w' ⟨u, P, h1, h2, h3, h4, h5, h6⟩
  have hP : P = [] := by
    rw [hL] at h2
    exact List.map_eq_nil_iff.1 h2
  rw [h6 hP] at h1
  exact ⟨h1, h5⟩
/-- the cells of an answered item -/
theorem St.item {T : TypeId} {u : Sl} {P : List (It × Sl)} (s : St w0 H w) (hm : hI T u P ∈ H) (hp : 0 < P.length) : ∃ b off, u.a = some ⟨b, off, none⟩ ∧ b < w.heap.size ∧ ∀ i p, P[i]? = some p → ∀ j v, (cp p)[j]? = some v → w.cell? ⟨b, off + i * 5 + j, none⟩ = some v := by
  have h : IRow T w u.v P := s.get hm
  exact erow_rd cp_enc h.row hp
theorem St.who {T : TypeId} {u : Sl} {P : List (It × Sl)} (s : St w0 H w) (hm : hI T u P ∈ H) {p : It × Sl} (hp : p ∈ P) : p.2.n = p.1.who.length := by
  have h : IRow T w u.v P := s.get hm
  exact erow_n (h.who p hp)
end
end Go.Proofs.Ytplllaafllcigaa
