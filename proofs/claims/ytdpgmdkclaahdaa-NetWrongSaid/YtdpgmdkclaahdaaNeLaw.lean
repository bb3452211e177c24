/- A law's state: nets; the calls in letters; literal slices. -/
import Derived.Test.YtdpgmdkclaahdaaNeNew
namespace Go.Proofs.Ytdpgmdkclaahdaa.Ne
open Go.Sort Go.RowKit Go.BigFrame
set_option linter.unusedVariables false
set_option linter.unusedSimpArgs false

theorem rd_cs {α : Type} {c : α → List Value} {z : Nat} (he : Enc c z) {b : Nat} {L : List α} {w : World} (h : Cs b (L.map c).flatten w) : RdE c z w (some ⟨b, 0, none⟩) L := fun hp =>
  ⟨b, 0, rfl, h.lt, fun i x hx k u hu => by
    have hk : k < z := by
      have := (List.getElem?_eq_some_iff.1 hu).1
      rw [he.len] at this; exact this
    have := h.cell (i * z + k) u (by rw [flatten_at (z := z) _ (he.all L) i k hk (c x) (by rw [List.getElem?_map, hx]; rfl)]; exact hu)
    rw [Nat.zero_add]; exact this⟩
theorem rd_nil {α : Type} {c : α → List Value} {z : Nat} {a : Option Addr} {w : World} : RdE c z w a ([] : List α) := fun hp => absurd hp (by simp)
section
variable {w0 w w' : World} {m : Mem} {H : List Hl} {n n' : Nt}
theorem new_l {hs : List Ho} {sp : List Sp} {room : Int} (hN : newN hs sp room = some n) (a : Option Addr) (ca : Nat) (b : Option Addr) (cb : Nat) (hl : hs.length ≤ 1000) (hcap : hs.length ≤ ca) (hsl : sp.length ≤ 1000) (hsp : ∀ s ∈ sp, 0 ≤ s.hold) (w : World) (hr : RdE cho 3 w a hs) (hb : RdE csp 5 w b sp) :
    Calls Try.prog 10 #[.slice a hs.length ca, .slice b sp.length cb, .int .i64 room] w fun e w' => ∃ m, e = .returned (.tuple #[ptr m.g, .int .i64 0]) ∧ NN w m [] n w' := by
  refine (new_n a ca b cb hs sp room hl hcap hsl hsp w hr hb).mono ?_
  rintro e w' (⟨h1, -, -⟩ | ⟨n2, m, h1, h2, h3⟩)
  · rw [h1] at hN; cases hN
  · rw [h1] at hN
    injection hN with hN
    subst hN
    exact ⟨m, h2, h3⟩
theorem new_none {hs : List Ho} {sp : List Sp} {room : Int} (hN : newN hs sp room = none) (a : Option Addr) (ca : Nat) (b : Option Addr) (cb : Nat) (hl : hs.length ≤ 1000) (hcap : hs.length ≤ ca) (hsl : sp.length ≤ 1000) (hsp : ∀ s ∈ sp, 0 ≤ s.hold) (w : World) (hr : RdE cho 3 w a hs) (hb : RdE csp 5 w b sp) :
    Calls Try.prog 10 #[.slice a hs.length ca, .slice b sp.length cb, .int .i64 room] w fun e w' => e = .returned (.tuple #[.pointer none, .int .i64 1]) ∧ Below w.heap.size w w' := by
  refine (new_n a ca b cb hs sp room hl hcap hsl hsp w hr hb).mono ?_
  rintro e w' (⟨h1, h2, h3⟩ | ⟨n2, m, h1, h2, h3⟩)
  · exact ⟨h2, h3⟩
  · rw [hN] at h1; cases h1
theorem send_l {er : Int} (now host ti tp : Int) (b : ByteArray) (he : (sendP n now host ti tp b).1 = er) (hn : (sendP n now host ti tp b).2 = n') (h0 : 0 ≤ now) (hs : b.size ≤ 140737488355328) (hok : OkH n) (s : NN w0 m H n w) :
    Calls Try.prog 11 #[ptr m.g, .int .u64 now, .int .i64 host, .agg #[.int .u32 ti, .int .u16 tp], .string b] w fun e w' => e = .returned (.int .i64 er) ∧ NN w0 m H n' w' := by
  rw [← he, ← hn]; exact send_n now host ti tp b h0 hs hok s
theorem inj_l {er : Int} (now fi fp ti tp : Int) (b : ByteArray) (he : (injP n now fi fp ti tp b).1 = er) (hn : (injP n now fi fp ti tp b).2 = n') (h0 : 0 ≤ now) (hs : b.size ≤ 140737488355328) (s : NN w0 m H n w) :
    Calls Try.prog 14 #[ptr m.g, .int .u64 now, .agg #[.int .u32 fi, .int .u16 fp], .agg #[.int .u32 ti, .int .u16 tp], .string b] w fun e w' => e = .returned (.int .i64 er) ∧ NN w0 m H n' w' := by
  rw [← he, ← hn]; exact inj_n now fi fp ti tp b h0 hs s
theorem del_l {v : Value} (now pick : Int) (hv : delV n now pick = v) (hn : (delP n now pick).2 = n') (h0 : 0 ≤ now) (hp : pick ≤ 9223372036854775807) (s : NN w0 m H n w) :
    Calls Try.prog 12 #[ptr m.g, .int .u64 now, .int .i64 pick] w fun e w' => e = .returned v ∧ NN w0 m H n' w' := by
  rw [← hv, ← hn]; exact del_n now pick h0 hp s
theorem reb_l {er : Int} (box ip : Int) (he : (rebP n box ip).1 = er) (hn : (rebP n box ip).2 = n') (s : NN w0 m H n w) :
    Calls Try.prog 15 #[ptr m.g, .int .i64 box, .int .u32 ip] w fun e w' => e = .returned (.int .i64 er) ∧ NN w0 m H n' w' := by
  rw [← he, ← hn]; exact rebind_n box ip s
theorem drop_l {er : Int} (pick : Int) (he : delE n 18446744073709551615 pick = er) (hn : dropP n pick = n') (hp : pick ≤ 9223372036854775807) (s : NN w0 m H n w) :
    Calls Try.prog 13 #[ptr m.g, .int .i64 pick] w fun e w' => e = .returned (.int .i64 er) ∧ NN w0 m H n' w' := by
  rw [← he, ← hn]; exact drop_n pick hp s
theorem box_l (k : Int) (j : Nat) (hk : k = (j : Int) + 1) (hj : j < n.bs.length) (s : NN w0 m H n w) :
    Calls Try.prog 19 #[ptr m.g, .int .i64 k] w fun e w' => (∃ q, m.gs[j]? = some q ∧ e = .returned (ptr q)) ∧ NN w0 m H n w' := by
  have hq : m.gs[j]? = some (m.gs[j]'(by rw [s.lenB]; exact hj)) := List.getElem?_eq_getElem _
  exact (box_n k j _ hk hq s).mono fun e w' ⟨h1, h2⟩ => ⟨⟨_, hq, h1⟩, h2 ▸ s⟩
theorem hs_send (now host ti tp : Int) (b : ByteArray) : (sendP n now host ti tp b).2.hs = n.hs := by
  unfold sendP
  split
  · rfl
  · split
    · rw [injP_hs, srcP_hs]
    · rfl
theorem bl_src (now : Int) (h : Ho) (di dp : Int) : (srcP n now h di dp).2.bs.length = n.bs.length := by
  unfold srcP
  split
  · rfl
  · split
    · simp [setB]
    · rfl
theorem bl_inj (now a b c d : Int) (t : ByteArray) : (injP n now a b c d t).2.bs.length = n.bs.length := by
  unfold injP
  split <;> rfl
theorem bl_send (now host ti tp : Int) (b : ByteArray) : (sendP n now host ti tp b).2.bs.length = n.bs.length := by
  unfold sendP
  split
  · rfl
  · split
    · rw [bl_inj, bl_src]
    · rfl
theorem arr_keep (now : Int) (x : Bg.Pi) : (arrP n now x).2.hs = n.hs ∧ (arrP n now x).2.bs.length = n.bs.length := by
  unfold arrP
  split
  · exact ⟨rfl, rfl⟩
  · split
    · exact ⟨rfl, rfl⟩
    · split
      · exact ⟨rfl, by simp [arrB, setB]⟩
      · exact ⟨rfl, rfl⟩
theorem del_keep (now pick : Int) : (delP n now pick).2.hs = n.hs ∧ (delP n now pick).2.bs.length = n.bs.length := by
  unfold delP
  split
  · exact arr_keep (n := tkN n now pick) _ _
  · exact ⟨rfl, rfl⟩
theorem reb_keep (box ip : Int) : (rebP n box ip).2.hs = n.hs ∧ (rebP n box ip).2.bs.length = n.bs.length := by
  unfold rebP
  split
  · exact ⟨rfl, rfl⟩
  · split
    · exact ⟨rfl, rfl⟩
    · split
      · exact ⟨rfl, rfl⟩
      · split
        · exact ⟨rfl, by simp [setB]⟩
        · exact ⟨rfl, rfl⟩
theorem OkH.of (h : OkH n) (e1 : n'.hs = n.hs) (e2 : n'.bs.length = n.bs.length) : OkH n' := by
  unfold OkH; rw [e1, e2]; exact h
theorem OkH.send (h : OkH n) (now host ti tp : Int) (b : ByteArray) : OkH (sendP n now host ti tp b).2 := h.of (hs_send _ _ _ _ _) (bl_send _ _ _ _ _)
theorem OkH.inj (h : OkH n) (now a b c d : Int) (t : ByteArray) : OkH (injP n now a b c d t).2 := h.of (injP_hs _ _ _ _ _ _) (bl_inj _ _ _ _ _ _)
theorem OkH.del (h : OkH n) (now pick : Int) : OkH (delP n now pick).2 := h.of (del_keep _ _).1 (del_keep _ _).2
theorem OkH.reb (h : OkH n) (box ip : Int) : OkH (rebP n box ip).2 := h.of (reb_keep _ _).1 (reb_keep _ _).2
theorem OkH.drop (h : OkH n) (pick : Int) : OkH (dropP n pick) := h
end
end Go.Proofs.Ytdpgmdkclaahdaa.Ne
