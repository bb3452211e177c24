/- A law's state: tables, leases, answered rows; the program's calls over it. -/
import Derived.Test.YtdehpiaokjihjaaLsAsk
import Derived.Test.YtdehpiaokjihjaaLsGrant
namespace Go.Proofs.Ytdehpiaokjihjaa
open Go.Sort Go.RowKit Go.BigFrame
set_option linter.unusedVariables false
set_option linter.unusedSimpArgs false

def hT (g : Nat) (k : Tb) : Hl := ⟨Ts g k, fun b => b = g, fun h ht hF => h.touch ht (hF g rfl), fun h b hb => by rw [hb]; exact h.lt⟩
def hE (g : Nat) (k : Ls) : Hl := ⟨Es g k, fun b => b = g, fun h ht hF => h.touch ht (hF g rfl), fun h b hb => by rw [hb]; exact h.lt⟩
def hW {α : Type} (c : α → List Value) (z : Nat) (T : TypeId) (u : Sl) (L : List α) : Hl := ⟨fun w => ERow c z T w u.v L, fun b => u.v.ownBlock = some b, fun h ht hF => erow_touch h ht hF, fun h b hb => erow_lt h hb⟩
/-- numbers, clients that were answered -/
def hI (u : Sl) (L : List Int) : Hl := hW c64 1 3 u L
def hV (u : Sl) (L : List Vt) : Hl := hW cv 4 44 u L
section
variable {w0 w w' : World} {H H1 H2 : List Hl} {g : Nat} {k k' : Tb} {l l' : Ls} {e : Int} {b : Bool}
theorem aftT_l (s : St w0 (H1 ++ hT g k :: H2) w) (ha : TAft g k' w w') : St w0 (H1 ++ hT g k' :: H2) w' :=
  s.aft (h := hT g k) (h' := hT g k') ha.2 ha.1 (fun _ hb => .inl hb)
theorem aftE_l (s : St w0 (H1 ++ hE g l :: H2) w) (ha : EAft g l' w w') : St w0 (H1 ++ hE g l' :: H2) w' :=
  s.aft (h := hE g l) (h' := hE g l') ha.2 ha.1 (fun _ hb => .inl hb)
theorem newT_l {r h : Int} (ha : mayI r h = true) (s : St w0 H w) :
    Calls Try.prog 7 #[.int .i64 r, .int .u64 h] w fun x w' => ∃ g, x = .returned (.tuple #[.pointer (some ⟨g, 0, none⟩), .int .i64 0]) ∧ St w0 (hT g (newT r h) :: H) w' :=
  (tab_any r h ha w).mono fun x w' ⟨g, h1, h2, h3, h4⟩ => ⟨g, h1, s.more (h := hT g (newT r h)) h4 h3 (fun b hb => by rw [show b = g from hb]; exact h2)⟩
theorem newE_l {r h : Int} (ha : mayI r h = true) (s : St w0 H w) :
    Calls Try.prog 13 #[.int .i64 r, .int .u64 h] w fun x w' => ∃ g, x = .returned (.tuple #[.pointer (some ⟨g, 0, none⟩), .int .i64 0]) ∧ St w0 (hE g (newL r h) :: H) w' :=
  (lea_any r h ha w).mono fun x w' ⟨g, h1, h2, h3, h4⟩ => ⟨g, h1, s.more (h := hE g (newL r h)) h4 h3 (fun b hb => by rw [show b = g from hb]; exact h2)⟩
theorem of_l (id now : Int) {v : Vt} (hb : ofB k id now = b) (hv : ofA k id now = v) (s : St w0 H w) (hm : hT g k ∈ H) :
    Calls Try.prog 8 #[.pointer (some ⟨g, 0, none⟩), .int .i64 id, .int .u64 now] w fun x w' => x = .returned (.tuple #[.agg #[.int .u32 v.ip, .int .u16 v.pt], .bool b]) ∧ St w0 H w' :=
  (of_any id now g k w (s.get hm)).mono fun x w' ⟨h1, h2⟩ => ⟨by rw [h1, hb, hv], s.keep h2⟩
theorem rel_l (id : Int) (hb : isC k id = b) (hk : relD k id = k') (H1 H2 : List Hl) (s : St w0 (H1 ++ hT g k :: H2) w) :
    Calls Try.prog 12 #[.pointer (some ⟨g, 0, none⟩), .int .i64 id] w fun x w' => x = .returned (.bool b) ∧ St w0 (H1 ++ hT g k' :: H2) w' :=
  (rel_any id g k w (s.get (h := hT g k) (by simp))).mono fun x w' ⟨h1, h2⟩ => ⟨by rw [h1, hb], aftT_l s (by rw [← hk]; exact h2)⟩
theorem grant_l (id : Int) (ip pt : Nat) (now : Int) {u : Int} (hn : 0 ≤ now) (hi : ip < 4294967296) (hp : pt < 65536) (he : grantE k id ip pt now = e) (hu : grantU k id ip pt now = u) (hk : grantD k id ip pt now = k') (H1 H2 : List Hl) (s : St w0 (H1 ++ hT g k :: H2) w) :
    Calls Try.prog 11 #[.pointer (some ⟨g, 0, none⟩), .int .i64 id, .agg #[.int .u32 ip, .int .u16 pt], .int .u64 now] w fun x w' => x = .returned (.tuple #[.int .u64 u, .int .i64 e]) ∧ St w0 (H1 ++ hT g k' :: H2) w' :=
  (grant_any id ip pt now hn hi hp g k w (s.get (h := hT g k) (by simp))).mono fun x w' ⟨h1, h2⟩ => ⟨by rw [h1, he, hu], aftT_l s (by rw [← hk]; exact h2)⟩
/-- a new row beside a holding that was turned -/
theorem row_more {α : Type} {c : α → List Value} {z : Nat} {T : TypeId} {L : List α} {u : Sl} {h h' : Hl} (s : St w0 (H1 ++ h :: H2) w) (ht : Touch h.own w w') (hP : h'.P w') (ho : ∀ b, h'.own b → h.own b ∨ w.heap.size ≤ b) (hn : NewE c z T L w u w') (hd : ∀ b, h'.own b → b < w.heap.size) : St w0 (hW c z T u L :: (H1 ++ h' :: H2)) w' :=
  s.aft2 (h := h) (h' := h') (n := hW c z T u L) ht hP ho hn.1 hn.2.2 (fun b h1 h2 => by have := hn.2.2 b h1; have := hd b h2; omega)
theorem sweep_l (now : Int) {L : List Int} (hL : sweepL k now = L) (hk : sweepD k now = k') (H1 H2 : List Hl) (s : St w0 (H1 ++ hT g k :: H2) w) :
    Calls Try.prog 9 #[.pointer (some ⟨g, 0, none⟩), .int .u64 now] w fun x w' => ∃ u : Sl, x = .returned (.slice u.a L.length u.c) ∧ St w0 (hI u L :: (H1 ++ hT g k' :: H2)) w' := by
  have hg := (s.get (h := hT g k) (by simp)).lt
  refine (sweep_any now g k w (s.get (h := hT g k) (by simp))).mono ?_
  rintro x w' ⟨u, h1, h2, h3⟩
  rw [hL] at h2
  rw [hk] at h3
  exact ⟨u, by rw [h1, h2.2.1], row_more (h := hT g k) (h' := hT g k') s h3.2 h3.1 (fun _ hb => .inl hb) h2 (fun b hb => by rw [show b = g from hb]; exact hg)⟩
theorem clients_l {L : List Vt} (hL : allV k.cl = L) (s : St w0 H w) (hm : hT g k ∈ H) :
    Calls Try.prog 10 #[.pointer (some ⟨g, 0, none⟩)] w fun x w' => ∃ u : Sl, x = .returned (.slice u.a L.length u.c) ∧ St w0 (hV u L :: H) w' := by
  refine (clients_any g k w (s.get hm)).mono ?_
  rintro x w' ⟨u, h1, ⟨h2, h3, h4⟩, h5⟩
  rw [hL] at h2 h3
  exact ⟨u, by rw [h1, h3], s.more (h := hV u L) h5 h2 h4⟩
theorem got_l (id un now : Int) (hn : 0 ≤ now) (hb : gotB l id un now = b) (hk : gotD l id un now = l') (H1 H2 : List Hl) (s : St w0 (H1 ++ hE g l :: H2) w) :
    Calls Try.prog 15 #[.pointer (some ⟨g, 0, none⟩), .int .i64 id, .int .u64 un, .int .u64 now] w fun x w' => x = .returned (.bool b) ∧ St w0 (H1 ++ hE g l' :: H2) w' :=
  (got_any id un now hn g l w (s.get (h := hE g l) (by simp))).mono fun x w' ⟨h1, h2⟩ => ⟨by rw [h1, hb], aftE_l s (by rw [← hk]; exact h2)⟩
theorem lost_l (id : Int) (hb : askB l id = b) (hk : lostD l id = l') (H1 H2 : List Hl) (s : St w0 (H1 ++ hE g l :: H2) w) :
    Calls Try.prog 16 #[.pointer (some ⟨g, 0, none⟩), .int .i64 id] w fun x w' => x = .returned (.bool b) ∧ St w0 (H1 ++ hE g l' :: H2) w' :=
  (lost_any id g l w (s.get (h := hE g l) (by simp))).mono fun x w' ⟨h1, h2⟩ => ⟨by rw [h1, hb], aftE_l s (by rw [← hk]; exact h2)⟩
theorem held_l (now : Int) {L : List Int} (hL : heldL l now = L) (s : St w0 H w) (hm : hE g l ∈ H) :
    Calls Try.prog 17 #[.pointer (some ⟨g, 0, none⟩), .int .u64 now] w fun x w' => ∃ u : Sl, x = .returned (.slice u.a L.length u.c) ∧ St w0 (hI u L :: H) w' := by
  refine (heldL_any now g l w (s.get hm)).mono ?_
  rintro x w' ⟨u, h1, ⟨h2, h3, h4⟩, h5⟩
  rw [hL] at h2 h3
  exact ⟨u, by rw [h1, h3], s.more (h := hI u L) h5 h2 h4⟩
theorem sweepE_l (now : Int) {L : List Int} (hL : (swp2 now l 33).1 = L) (hk : (swp2 now l 33).2 = l') (H1 H2 : List Hl) (s : St w0 (H1 ++ hE g l :: H2) w) :
    Calls Try.prog 18 #[.pointer (some ⟨g, 0, none⟩), .int .u64 now] w fun x w' => ∃ u : Sl, x = .returned (.slice u.a L.length u.c) ∧ St w0 (hI u L :: (H1 ++ hE g l' :: H2)) w' := by
  have hg := (s.get (h := hE g l) (by simp)).lt
  refine (sweepE_any now g l w (s.get (h := hE g l) (by simp))).mono ?_
  rintro x w' ⟨u, h1, h2, h3⟩
  rw [hL] at h2
  rw [hk] at h3
  exact ⟨u, by rw [h1, h2.2.1], row_more (h := hE g l) (h' := hE g l') s h3.2 h3.1 (fun _ hb => .inl hb) h2 (fun b hb => by rw [show b = g from hb]; exact hg)⟩
theorem ask_l (now : Int) (h0 : 0 ≤ now) (h1 : now ≤ 4611686018427387904) (x y : Nat) {ids : List Int} {ps : List (Nat × Nat)} (hlen : ids.length = ps.length) (hl : ids.length < 20) {ia pa : Option Addr} (ic pc : Nat) {n : Nat} (hn : ids.length = n) (hi : RdE c64 1 w ia ids) (hp : RdE cc 1 w pa ps) {F : List Int} (hF : FarB x y (mayA l now (ids.zip ps)).wh F)
    {L : List Int} (hL : askL l now (mayA l now (ids.zip ps)) F = L) (hk : asks now l L = l') (H1 H2 : List Hl) (s : St w0 (H1 ++ hE g l :: H2) w) :
    Calls Try.prog 14 #[.pointer (some ⟨g, 0, none⟩), .int .u64 now, .complex .f64 x y, .slice ia n ic, .slice pa n pc] w fun x w' => ∃ u : Sl, x = .returned (.slice u.a L.length u.c) ∧ St w0 (hI u L :: (H1 ++ hE g l' :: H2)) w' := by
  subst hn
  have hg := (s.get (h := hE g l) (by simp)).lt
  refine (ask_any now h0 h1 x y ids ps hlen hl ia ic pa pc g l w (s.get (h := hE g l) (by simp)) hi hp F hF).mono ?_
  rintro x w' ⟨u, h1, h2, h3⟩
  rw [hL] at h2 h3
  rw [hk] at h3
  exact ⟨u, by rw [h1, h2.2.1], row_more (h := hE g l) (h' := hE g l') s h3.2 h3.1 (fun _ hb => .inl hb) h2 (fun b hb => by rw [show b = g from hb]; exact hg)⟩
/-- the numbers of an answered row -/
theorem St.num {u : Sl} {L : List Int} (s : St w0 H w) (hm : hI u L ∈ H) (hp : 0 < L.length) : ∃ b off, u.a = some ⟨b, off, none⟩ ∧ b < w.heap.size ∧ ∀ i x, L[i]? = some x → w.cell? ⟨b, off + i, none⟩ = some (.int .i64 x) := by
  have h : ERow c64 1 3 w u.v L := s.get hm
  obtain ⟨b, off, h1, h2, h3⟩ := erow_rd c64_enc h hp
  exact ⟨b, off, h1, h2, fun i x hx => by have := h3 i x hx 0 _ rfl; simpa using this⟩
theorem St.client {u : Sl} {L : List Vt} (s : St w0 H w) (hm : hV u L ∈ H) (hp : 0 < L.length) : ∃ b off, u.a = some ⟨b, off, none⟩ ∧ b < w.heap.size ∧ ∀ i x, L[i]? = some x → ∀ j v, (cv x)[j]? = some v → w.cell? ⟨b, off + i * 4 + j, none⟩ = some v := by
  have h : ERow cv 4 44 w u.v L := s.get hm
  exact erow_rd cv_enc h hp
/-- a box is a row that can be read -/
theorem cs_ids {b : Nat} {L : List Int} (h : Cs b (L.map fun x => .int .i64 x) w) : RdE c64 1 w (some ⟨b, 0, none⟩) L := fun hp =>
  ⟨b, 0, rfl, h.lt, fun i x hx j v hv => by
    match j, hv with
    | 0, hv =>
      simp only [c64, List.getElem?_cons_zero, Option.some.injEq] at hv
      subst hv
      have := h.cell i (.int .i64 x) (by rw [List.getElem?_map, hx]; rfl)
      simpa using this⟩
theorem cs_pls {b : Nat} {L : List (Nat × Nat)} (h : Cs b (L.map fun x => .complex .f64 x.1 x.2) w) : RdE cc 1 w (some ⟨b, 0, none⟩) L := fun hp =>
  ⟨b, 0, rfl, h.lt, fun i x hx j v hv => by
    match j, hv with
    | 0, hv =>
      simp only [cc, List.getElem?_cons_zero, Option.some.injEq] at hv
      subst hv
      have := h.cell i (.complex .f64 x.1 x.2) (by rw [List.getElem?_map, hx]; rfl)
      simpa using this⟩
end
end Go.Proofs.Ytdehpiaokjihjaa
