/- A law's state: tables, answered rows; the program's calls over it. -/
import Derived.Test.YtpeoallhbbleaaaPaDue
namespace Go.Proofs.Ytpeoallhbbleaaa
open Go.Sort Go.RowKit Go.BigFrame
set_option linter.unusedVariables false
set_option linter.unusedSimpArgs false

def hT (g : Nat) (k : Tk) : Hl := ⟨Ts g k, fun b => b = g, fun h ht hF => h.touch ht (hF g rfl), fun h b hb => by rw [hb]; exact h.lt⟩
def hW {α : Type} (c : α → List Value) (z : Nat) (T : TypeId) (u : Sl) (L : List α) : Hl := ⟨fun w => ERow c z T w u.v L, fun b => u.v.ownBlock = some b, fun h ht hF => erow_touch h ht hF, fun h b hb => erow_lt h hb⟩
/-- what is to be sent, paths that were answered -/
def hS (u : Sl) (L : List (Int × Int)) : Hl := hW ck 2 52 u L
def hP (u : Sl) (L : List Pt) : Hl := hW cp 7 61 u L
section
variable {w0 w w' : World} {H H1 H2 : List Hl} {g : Nat} {k k' : Tk} {e : Int} {b : Bool}
theorem aftT_l (s : St w0 (H1 ++ hT g k :: H2) w) (ha : TAft g k' w w') : St w0 (H1 ++ hT g k' :: H2) w' :=
  s.aft (h := hT g k) (h' := hT g k') ha.2 ha.1 (fun _ hb => .inl hb)
theorem newT_l {t bs kp hd : Int} (ha : mayI t bs kp hd = true) (s : St w0 H w) :
    Calls Try.prog 10 #[.int .i64 t, .int .u64 bs, .int .u64 kp, .int .u64 hd] w fun x w' => ∃ g, x = .returned (.tuple #[.pointer (some ⟨g, 0, none⟩), .int .i64 0]) ∧ St w0 (hT g (newK t bs kp hd) :: H) w' :=
  (new_any t bs kp hd ha w).mono fun x w' ⟨g, h1, h2, h3, h4⟩ => ⟨g, h1, s.more (h := hT g (newK t bs kp hd)) h4 h3 (fun b hb => by rw [show b = g from hb]; exact h2)⟩
theorem want_l (id now : Int) (hn : 0 ≤ now) (he : wantE k id now = e) (hk : wantD k id now = k') (H1 H2 : List Hl) (s : St w0 (H1 ++ hT g k :: H2) w) :
    Calls Try.prog 12 #[.pointer (some ⟨g, 0, none⟩), .int .i64 id, .int .u64 now] w fun x w' => x = .returned (.int .i64 e) ∧ St w0 (H1 ++ hT g k' :: H2) w' :=
  (want_any id now hn g k w (s.get (h := hT g k) (by simp))).mono fun x w' ⟨h1, h2⟩ => ⟨by rw [h1, he], aftT_l s (by rw [← hk]; exact h2)⟩
theorem open_l (id : Int) (ip pt : Nat) (now : Int) (hn : 0 ≤ now) (hi : ip < 4294967296) (hp : pt < 65536) (he : openE id ip pt now = e) (hk : openD k id ip pt now = k') (H1 H2 : List Hl) (s : St w0 (H1 ++ hT g k :: H2) w) :
    Calls Try.prog 14 #[.pointer (some ⟨g, 0, none⟩), .int .i64 id, .agg #[.int .u32 ip, .int .u16 pt], .int .u64 now] w fun x w' => x = .returned (.int .i64 e) ∧ St w0 (H1 ++ hT g k' :: H2) w' :=
  (open_any id ip pt now hn hi hp g k w (s.get (h := hT g k) (by simp))).mono fun x w' ⟨h1, h2⟩ => ⟨by rw [h1, he], aftT_l s (by rw [← hk]; exact h2)⟩
theorem heard_l (id : Int) (ip pt : Nat) (now : Int) (hn : 0 ≤ now) (he : heardB k id ip pt now = b) (hk : heardD k id ip pt now = k') (H1 H2 : List Hl) (s : St w0 (H1 ++ hT g k :: H2) w) :
    Calls Try.prog 17 #[.pointer (some ⟨g, 0, none⟩), .int .i64 id, .agg #[.int .u32 ip, .int .u16 pt], .int .u64 now] w fun x w' => x = .returned (.bool b) ∧ St w0 (H1 ++ hT g k' :: H2) w' :=
  (heard_any id ip pt now hn g k w (s.get (h := hT g k) (by simp))).mono fun x w' ⟨h1, h2⟩ => ⟨by rw [h1, he], aftT_l s (by rw [← hk]; exact h2)⟩
theorem lost_l (id : Int) (hb : isP k id = b) (hk : lostD k id = k') (H1 H2 : List Hl) (s : St w0 (H1 ++ hT g k :: H2) w) :
    Calls Try.prog 19 #[.pointer (some ⟨g, 0, none⟩), .int .i64 id] w fun x w' => x = .returned (.bool b) ∧ St w0 (H1 ++ hT g k' :: H2) w' :=
  (lost_any id g k w (s.get (h := hT g k) (by simp))).mono fun x w' ⟨h1, h2⟩ => ⟨by rw [h1, hb], aftT_l s (by rw [← hk]; exact h2)⟩
theorem of_l (id : Int) {x : Pt} (hb : isP k id = b) (hx : ofX k id = x) (s : St w0 H w) (hm : hT g k ∈ H) :
    Calls Try.prog 25 #[.pointer (some ⟨g, 0, none⟩), .int .i64 id] w fun y w' => y = .returned (.tuple #[.agg #[.int .i64 x.peer, .int .i64 x.st, .int .i64 x.tr, .int .u32 x.ip, .int .u16 x.pt, .int .u64 x.nx, .int .u64 x.un], .bool b]) ∧ St w0 H w' :=
  (of_any id g k w (s.get hm)).mono fun y w' ⟨h1, h2⟩ => ⟨by rw [h1, hb, hx]; rfl, s.keep h2⟩
/-- a new row beside a holding that was turned -/
theorem row_more {α : Type} {c : α → List Value} {z : Nat} {T : TypeId} {L : List α} {u : Sl} {h h' : Hl} (s : St w0 (H1 ++ h :: H2) w) (ht : Touch h.own w w') (hP : h'.P w') (ho : ∀ b, h'.own b → h.own b ∨ w.heap.size ≤ b) (hn : NewE c z T L w u w') (hd : ∀ b, h'.own b → b < w.heap.size) : St w0 (hW c z T u L :: (H1 ++ h' :: H2)) w' :=
  s.aft2 (h := h) (h' := h') (n := hW c z T u L) ht hP ho hn.1 hn.2.2 (fun b h1 h2 => by have := hn.2.2 b h1; have := hd b h2; omega)
theorem due_l (now : Int) (hn : 0 ≤ now) {L : List (Int × Int)} (hL : dueL k now = L) (hk : dueD k now = k') (H1 H2 : List Hl) (s : St w0 (H1 ++ hT g k :: H2) w) :
    Calls Try.prog 21 #[.pointer (some ⟨g, 0, none⟩), .int .u64 now] w fun x w' => ∃ u : Sl, x = .returned (.slice u.a L.length u.c) ∧ St w0 (hS u L :: (H1 ++ hT g k' :: H2)) w' := by
  have hg := (s.get (h := hT g k) (by simp)).lt
  refine (due_any now hn g k w (s.get (h := hT g k) (by simp))).mono ?_
  rintro x w' ⟨u, h1, h2, h3⟩
  rw [hL] at h2
  rw [hk] at h3
  exact ⟨u, by rw [h1, h2.2.1], row_more (h := hT g k) (h' := hT g k') s h3.2 h3.1 (fun _ hb => .inl hb) h2 (fun b hb => by rw [show b = g from hb]; exact hg)⟩
/-- only how many are due -/
theorem due_n (now : Int) (hn : 0 ≤ now) {m : Nat} (hL : (dueL k now).length = m) (hk : dueD k now = k') (H1 H2 : List Hl) (s : St w0 (H1 ++ hT g k :: H2) w) :
    Calls Try.prog 21 #[.pointer (some ⟨g, 0, none⟩), .int .u64 now] w fun x w' => ∃ a c, x = .returned (.slice a m c) ∧ St w0 (H1 ++ hT g k' :: H2) w' := by
  refine (due_l now hn rfl hk H1 H2 s).mono ?_
  rintro x w' ⟨u, h1, h2⟩
  exact ⟨u.a, u.c, by rw [h1, hL], h2.drop⟩
theorem all_l {L : List Pt} (hL : allP k.p = L) (s : St w0 H w) (hm : hT g k ∈ H) :
    Calls Try.prog 23 #[.pointer (some ⟨g, 0, none⟩)] w fun x w' => ∃ u : Sl, x = .returned (.slice u.a L.length u.c) ∧ St w0 (hP u L :: H) w' := by
  refine (all_any g k w (s.get hm)).mono ?_
  rintro x w' ⟨u, h1, ⟨h2, h3, h4⟩, h5⟩
  rw [hL] at h2 h3
  exact ⟨u, by rw [h1, h3], s.more (h := hP u L) h5 h2 h4⟩
theorem St.step {u : Sl} {L : List (Int × Int)} (s : St w0 H w) (hm : hS u L ∈ H) (hp : 0 < L.length) : ∃ b off, u.a = some ⟨b, off, none⟩ ∧ b < w.heap.size ∧ ∀ i x, L[i]? = some x → ∀ j v, (ck x)[j]? = some v → w.cell? ⟨b, off + i * 2 + j, none⟩ = some v := by
  have h : ERow ck 2 52 w u.v L := s.get hm
  exact erow_rd ck_enc h hp
theorem St.path {u : Sl} {L : List Pt} (s : St w0 H w) (hm : hP u L ∈ H) (hp : 0 < L.length) : ∃ b off, u.a = some ⟨b, off, none⟩ ∧ b < w.heap.size ∧ ∀ i x, L[i]? = some x → ∀ j v, (cp x)[j]? = some v → w.cell? ⟨b, off + i * 7 + j, none⟩ = some v := by
  have h : ERow cp 7 61 w u.v L := s.get hm
  exact erow_rd cp_enc h hp
end
end Go.Proofs.Ytpeoallhbbleaaa
