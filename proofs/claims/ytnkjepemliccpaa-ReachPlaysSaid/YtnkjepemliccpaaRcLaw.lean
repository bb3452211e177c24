/- A law's state: reaches, answered votes; the program's calls over it. -/
import Derived.Test.YtnkjepemliccpaaRcAddr
import Derived.Test.YtnkjepemliccpaaRcVotes
namespace Go.Proofs.Ytnkjepemliccpaa
open Go.Sort Go.RowKit Go.BigFrame
set_option linter.unusedVariables false
set_option linter.unusedSimpArgs false

def hR (g : Nat) (k : Rc) : Hl := ⟨Rs g k, fun b => b = g, fun h ht hF => h.touch ht (hF g rfl), fun h b hb => by rw [hb]; exact h.lt⟩
def hV (u : Sl) (L : List Vt) : Hl := ⟨fun w => ERow cv 4 57 w u.v L, fun b => u.v.ownBlock = some b, fun h ht hF => erow_touch h ht hF, fun h b hb => erow_lt h hb⟩
section
variable {w0 w w' : World} {H H1 H2 : List Hl} {g : Nat} {k k' : Rc} {e : Int} {b : Bool}
theorem aft_l (s : St w0 (H1 ++ hR g k :: H2) w) (ha : RAft g k' w w') : St w0 (H1 ++ hR g k' :: H2) w' :=
  s.aft (h := hR g k) (h' := hR g k') ha.2 ha.1 (fun _ hb => .inl hb)
theorem new_l {r h : Int} (ha : argN r h = false) (hh : 0 ≤ h) {n : Nat} (hn : r.toNat = n) (s : St w0 H w) :
    Calls Try.prog 10 #[.int .i64 r, .int .u64 h] w fun x w' => ∃ g, x = .returned (.tuple #[.pointer (some ⟨g, 0, none⟩), .int .i64 0]) ∧ St w0 (hR g (newR n h) :: H) w' :=
  (new_any r h ha hh w).mono fun x w' ⟨g, h1, h2, h3, h4⟩ => ⟨g, h1, s.more (h := hR g (newR n h)) h4 (by rw [← hn]; exact h3) (fun b hb => by rw [show b = g from hb]; exact h2)⟩
theorem see_l (i : Int) (ip pt : Nat) (now : Int) (hn : 0 ≤ now) (hi : ip < 4294967296) (hp : pt < 65536) (he : seeE i ip pt now = e) (hk : seeD k i ip pt now = k') (H1 H2 : List Hl) (s : St w0 (H1 ++ hR g k :: H2) w) :
    Calls Try.prog 20 #[.pointer (some ⟨g, 0, none⟩), .int .i64 i, .agg #[.int .u32 ip, .int .u16 pt], .int .u64 now] w fun x w' => x = .returned (.int .i64 e) ∧ St w0 (H1 ++ hR g k' :: H2) w' :=
  (see_any i ip pt now hn hi hp g k w (s.get (h := hR g k) (by simp))).mono fun x w' ⟨h1, h2⟩ => ⟨by rw [h1, he], aft_l s (by rw [← hk]; exact h2)⟩
theorem round_l (seq now : Int) (he : roundE k now = e) (hk : roundD k seq now = k') (H1 H2 : List Hl) (s : St w0 (H1 ++ hR g k :: H2) w) :
    Calls Try.prog 12 #[.pointer (some ⟨g, 0, none⟩), .int .u32 seq, .int .u64 now] w fun x w' => x = .returned (.int .i64 e) ∧ St w0 (H1 ++ hR g k' :: H2) w' :=
  (round_any seq now g k w (s.get (h := hR g k) (by simp))).mono fun x w' ⟨h1, h2⟩ => ⟨by rw [h1, he], aft_l s (by rw [← hk]; exact h2)⟩
theorem heard_l (seq : Int) (he : heardB k seq = b) (hk : heardD k seq = k') (H1 H2 : List Hl) (s : St w0 (H1 ++ hR g k :: H2) w) :
    Calls Try.prog 14 #[.pointer (some ⟨g, 0, none⟩), .int .u32 seq] w fun x w' => x = .returned (.bool b) ∧ St w0 (H1 ++ hR g k' :: H2) w' :=
  (heard_any seq g k w (s.get (h := hR g k) (by simp))).mono fun x w' ⟨h1, h2⟩ => ⟨by rw [h1, he], aft_l s (by rw [← hk]; exact h2)⟩
theorem end_l (he : k.on = b) (hk : endD k = k') (H1 H2 : List Hl) (s : St w0 (H1 ++ hR g k :: H2) w) :
    Calls Try.prog 16 #[.pointer (some ⟨g, 0, none⟩)] w fun x w' => x = .returned (.bool b) ∧ St w0 (H1 ++ hR g k' :: H2) w' :=
  (end_any g k w (s.get (h := hR g k) (by simp))).mono fun x w' ⟨h1, h2⟩ => ⟨by rw [h1, he], aft_l s (by rw [← hk]; exact h2)⟩
theorem reset_l (hk : resetD k = k') (H1 H2 : List Hl) (s : St w0 (H1 ++ hR g k :: H2) w) :
    Calls Try.prog 18 #[.pointer (some ⟨g, 0, none⟩)] w fun x w' => x = .returned (.tuple #[]) ∧ St w0 (H1 ++ hR g k' :: H2) w' :=
  (reset_any g k w (s.get (h := hR g k) (by simp))).mono fun x w' ⟨h1, h2⟩ => ⟨h1, aft_l s (by rw [← hk]; exact h2)⟩
theorem class_l (he : classI k = e) (s : St w0 H w) (hm : hR g k ∈ H) :
    Calls Try.prog 26 #[.pointer (some ⟨g, 0, none⟩)] w fun x w' => x = .returned (.int .i64 e) ∧ St w0 H w' :=
  (class_any g k w (s.get hm)).mono fun x w' ⟨h1, h2⟩ => ⟨by rw [h1, he], s.keep h2⟩
theorem addr_l (now : Int) {ip pt n : Nat} (he : addrR k now = ⟨ip, pt, n⟩) (hb : decide (0 < n) = b) (s : St w0 H w) (hm : hR g k ∈ H) :
    Calls Try.prog 23 #[.pointer (some ⟨g, 0, none⟩), .int .u64 now] w fun x w' => x = .returned (.tuple #[.agg #[.int .u32 ip, .int .u16 pt], .bool b]) ∧ St w0 H w' :=
  (addr_any now g k w (s.get hm)).mono fun x w' ⟨h1, h2⟩ => ⟨by rw [h1, he, ← hb], s.keep h2⟩
theorem votes_l {L : List Vt} (hL : allV k.vote = L) (s : St w0 H w) (hm : hR g k ∈ H) :
    Calls Try.prog 25 #[.pointer (some ⟨g, 0, none⟩)] w fun x w' => ∃ u : Sl, x = .returned (.slice u.a L.length u.c) ∧ St w0 (hV u L :: H) w' := by
  refine (votes_any g k w (s.get hm)).mono ?_
  rintro x w' ⟨u, h1, ⟨h2, h3, h4⟩, h5⟩
  rw [hL] at h2 h3
  exact ⟨u, by rw [h1, h3], s.more (h := hV u L) h5 h2 h4⟩
/-- the cells of an answered vote -/
theorem St.vote {u : Sl} {L : List Vt} (s : St w0 H w) (hm : hV u L ∈ H) (hp : 0 < L.length) : ∃ b off, u.a = some ⟨b, off, none⟩ ∧ b < w.heap.size ∧ ∀ i x, L[i]? = some x → ∀ j v, (cv x)[j]? = some v → w.cell? ⟨b, off + i * 4 + j, none⟩ = some v := by
  have h : ERow cv 4 57 w u.v L := s.get hm
  exact erow_rd cv_enc h hp
end
end Go.Proofs.Ytnkjepemliccpaa
