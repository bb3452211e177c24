/- A law's state: the reference beside the program; its calls. -/
import Derived.Test.YtnkjepemliccpaaRcRefAddr
namespace Go.Proofs.Ytnkjepemliccpaa
open Go.Sort Go.RowKit Go.BigFrame
set_option linter.unusedVariables false
set_option linter.unusedSimpArgs false

/-- what the reference needs beside its votes -/
structure Rx where
  v : Sl
  p : Sl
  sq : Int
  gt : Bool
def hQ (g : Nat) (x : Rx) (k : Rc) : Hl := ⟨Qs g x.v x.p x.sq x.gt k, QOwn g x.v x.p, fun h ht hF => h.touch ht hF, fun h => h.lt⟩
section
variable {w0 w w' : World} {H H1 H2 : List Hl} {g : Nat} {x : Rx} {k k' : Rc} {e : Int} {b : Bool}
theorem qaft_l (s : St w0 (H1 ++ hQ g x k :: H2) w) (ha : QAft g x.v x.p k' w w') : ∃ x', St w0 (H1 ++ hQ g x' k' :: H2) w' := by
  obtain ⟨v', p', sq', gt', h1, h2, h3⟩ := ha
  exact ⟨⟨v', p', sq', gt'⟩, s.aft (h := hQ g x k) (h' := hQ g ⟨v', p', sq', gt'⟩ k') (h2.mono (fun b _ hb => .inl hb)) h1 h3⟩
theorem rnew_l {r h : Int} (ha : argN r h = false) (hh : 0 ≤ h) {n : Nat} (hn : r.toNat = n) (s : St w0 H w) :
    Calls Try.prog 11 #[.int .i64 r, .int .u64 h] w fun y w' => ∃ g x, y = .returned (.pointer (some ⟨g, 0, none⟩)) ∧ St w0 (hQ g x (newR n h) :: H) w' :=
  (rnew_any r h ha hh w).mono fun y w' ⟨g, h1, h2, h3, h4⟩ => ⟨g, ⟨nilS, nilS, 0, false⟩, h1, s.more (h := hQ g ⟨nilS, nilS, 0, false⟩ (newR n h)) h4 (by rw [← hn]; exact h3) (fun b hb => by
    rcases hb with rfl | hb | ⟨a, hb, _⟩
    · exact h2
    · exact absurd hb (nil_own b)
    · simp [nilS] at hb)⟩
theorem rsee_l (i : Int) (ip pt : Nat) (now : Int) (hn : 0 ≤ now) (hi : ip < 4294967296) (hp : pt < 65536) (he : seeE i ip pt now = e) (hk : seeD k i ip pt now = k') (H1 H2 : List Hl) (s : St w0 (H1 ++ hQ g x k :: H2) w) :
    Calls Try.prog 21 #[.pointer (some ⟨g, 0, none⟩), .int .i64 i, .agg #[.int .u32 ip, .int .u16 pt], .int .u64 now] w fun y w' => y = .returned (.int .i64 e) ∧ ∃ x', St w0 (H1 ++ hQ g x' k' :: H2) w' :=
  (rsee_any i ip pt now hn hi hp g x.v x.p x.sq x.gt k w (s.get (h := hQ g x k) (by simp))).mono fun y w' ⟨h1, h2⟩ => ⟨by rw [h1, he], qaft_l s (by rw [← hk]; exact h2)⟩
theorem rround_l (seq now : Int) (he : roundE k now = e) (hk : roundD k seq now = k') (H1 H2 : List Hl) (s : St w0 (H1 ++ hQ g x k :: H2) w) :
    Calls Try.prog 13 #[.pointer (some ⟨g, 0, none⟩), .int .u32 seq, .int .u64 now] w fun y w' => y = .returned (.int .i64 e) ∧ ∃ x', St w0 (H1 ++ hQ g x' k' :: H2) w' :=
  (rround_any seq now g x.v x.p x.sq x.gt k w (s.get (h := hQ g x k) (by simp))).mono fun y w' ⟨h1, h2⟩ => ⟨by rw [h1, he], qaft_l s (by rw [← hk]; exact h2)⟩
theorem rheard_l (seq : Int) (he : heardB k seq = b) (hk : heardD k seq = k') (H1 H2 : List Hl) (s : St w0 (H1 ++ hQ g x k :: H2) w) :
    Calls Try.prog 15 #[.pointer (some ⟨g, 0, none⟩), .int .u32 seq] w fun y w' => y = .returned (.bool b) ∧ ∃ x', St w0 (H1 ++ hQ g x' k' :: H2) w' :=
  (rheard_any seq g x.v x.p x.sq x.gt k w (s.get (h := hQ g x k) (by simp))).mono fun y w' ⟨h1, h2⟩ => ⟨by rw [h1, he], qaft_l s (by rw [← hk]; exact h2)⟩
theorem rend_l (he : k.on = b) (hk : endD k = k') (H1 H2 : List Hl) (s : St w0 (H1 ++ hQ g x k :: H2) w) :
    Calls Try.prog 17 #[.pointer (some ⟨g, 0, none⟩)] w fun y w' => y = .returned (.bool b) ∧ ∃ x', St w0 (H1 ++ hQ g x' k' :: H2) w' :=
  (rend_any g x.v x.p x.sq x.gt k w (s.get (h := hQ g x k) (by simp))).mono fun y w' ⟨h1, h2⟩ => ⟨by rw [h1, he], qaft_l s (by rw [← hk]; exact h2)⟩
theorem rreset_l (hk : resetD k = k') (H1 H2 : List Hl) (s : St w0 (H1 ++ hQ g x k :: H2) w) :
    Calls Try.prog 19 #[.pointer (some ⟨g, 0, none⟩)] w fun y w' => y = .returned (.tuple #[]) ∧ ∃ x', St w0 (H1 ++ hQ g x' k' :: H2) w' :=
  (rreset_any g x.v x.p x.sq x.gt k w (s.get (h := hQ g x k) (by simp))).mono fun y w' ⟨h1, h2⟩ => ⟨h1, qaft_l s (by rw [← hk]; exact h2)⟩
theorem raddr_l (now : Int) {ip pt n : Nat} (he : addrR k now = ⟨ip, pt, n⟩) (hb : decide (0 < n) = b) (s : St w0 H w) (hm : hQ g x k ∈ H) :
    Calls Try.prog 24 #[.pointer (some ⟨g, 0, none⟩), .int .u64 now] w fun y w' => y = .returned (.tuple #[.agg #[.int .u32 ip, .int .u16 pt], .bool b]) ∧ St w0 H w' :=
  (raddr_any now g x.v x.p x.sq x.gt k w (s.get hm)).mono fun y w' ⟨h1, h2⟩ => ⟨by rw [h1, he, ← hb], s.keep h2⟩
end
/-- an address as the reference's -/
theorem refaddr_any (ip pt : Nat) (w : World) : Calls Try.prog 22 #[.agg #[.int .u32 ip, .int .u16 pt]] w fun e w' => e = .returned (.agg #[.int .u32 ip, .int .u16 pt]) ∧ Below w.heap.size w w' := by
  go_enter Try.func22, Try.ntmps22
  go_wp2
  refine bodyPost_ret (v := .agg #[.int .u32 ip, .int .u16 pt]) (by simp [results, Try.results22, go_sem]) rfl ⟨rfl, ?_⟩
  have hB := Below.refl w.heap.size w
  (have zzh := Below.size hB; repeat (first | with_reducible exact hB | with_reducible refine Below.setCell ?_ (by first | omega | (simp; done) | (simp; omega)) _ | with_reducible refine Below.alloc ?_ (by first | omega | (simp; done) | (simp; omega)) _ | with_reducible refine Below.drew ?_))
end Go.Proofs.Ytnkjepemliccpaa
