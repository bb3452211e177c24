/- A law's state: the reference beside the program; its calls. -/
import Derived.Test.YtpeoallhbbleaaaPaRefDue
namespace Go.Proofs.Ytpeoallhbbleaaa
open Go.Sort Go.RowKit Go.BigFrame
set_option linter.unusedVariables false
set_option linter.unusedSimpArgs false

def hQ (g : Nat) (u : Sl) (k : Tk) : Hl := ⟨Qs g u k, QOwn g u, fun h ht hF => h.touch ht hF, fun h => h.lt⟩
/-- what the reference tells -/
def hR (u : Sl) (L : List (Int × Int)) : Hl := hW ck 2 53 u L
section
variable {w0 w w' : World} {H H1 H2 : List Hl} {g : Nat} {u : Sl} {k k' : Tk} {e : Int} {b : Bool}
theorem qaft_l (s : St w0 (H1 ++ hQ g u k :: H2) w) (ha : QAft g u k' w w') : ∃ u', St w0 (H1 ++ hQ g u' k' :: H2) w' := by
  obtain ⟨u', h1, h2, h3⟩ := ha
  exact ⟨u', s.aft (h := hQ g u k) (h' := hQ g u' k') h2 h1 h3⟩
theorem rnew_l {t bs kp hd : Int} (ha : mayI t bs kp hd = true) (s : St w0 H w) :
    Calls Try.prog 11 #[.int .i64 t, .int .u64 bs, .int .u64 kp, .int .u64 hd] w fun y w' => ∃ g u, y = .returned (.pointer (some ⟨g, 0, none⟩)) ∧ St w0 (hQ g u (newK t bs kp hd) :: H) w' :=
  (rnew_any t bs kp hd ha w).mono fun y w' ⟨g, h1, h2, h3, h4⟩ => ⟨g, nilS, h1, s.more (h := hQ g nilS (newK t bs kp hd)) h4 h3 (fun b hb => by
    rcases hb with rfl | hb
    · exact h2
    · exact absurd hb (nil_own b))⟩
theorem rwant_l (id now : Int) (hn : 0 ≤ now) (he : wantE k id now = e) (hk : wantD k id now = k') (H1 H2 : List Hl) (s : St w0 (H1 ++ hQ g u k :: H2) w) :
    Calls Try.prog 13 #[.pointer (some ⟨g, 0, none⟩), .int .i64 id, .int .u64 now] w fun x w' => x = .returned (.int .i64 e) ∧ ∃ u', St w0 (H1 ++ hQ g u' k' :: H2) w' :=
  (rwant_any id now hn g u k w (s.get (h := hQ g u k) (by simp))).mono fun x w' ⟨h1, h2⟩ => ⟨by rw [h1, he], qaft_l s (by rw [← hk]; exact h2)⟩
theorem ropen_l (id : Int) (ip pt : Nat) (now : Int) (hn : 0 ≤ now) (hi : ip < 4294967296) (hp : pt < 65536) (he : openE id ip pt now = e) (hk : openD k id ip pt now = k') (H1 H2 : List Hl) (s : St w0 (H1 ++ hQ g u k :: H2) w) :
    Calls Try.prog 15 #[.pointer (some ⟨g, 0, none⟩), .int .i64 id, .agg #[.int .u32 ip, .int .u16 pt], .int .u64 now] w fun x w' => x = .returned (.int .i64 e) ∧ ∃ u', St w0 (H1 ++ hQ g u' k' :: H2) w' :=
  (ropen_any id ip pt now hn hi hp g u k w (s.get (h := hQ g u k) (by simp))).mono fun x w' ⟨h1, h2⟩ => ⟨by rw [h1, he], qaft_l s (by rw [← hk]; exact h2)⟩
theorem rheard_l (id : Int) (ip pt : Nat) (now : Int) (hn : 0 ≤ now) (he : heardB k id ip pt now = b) (hk : heardD k id ip pt now = k') (H1 H2 : List Hl) (s : St w0 (H1 ++ hQ g u k :: H2) w) :
    Calls Try.prog 18 #[.pointer (some ⟨g, 0, none⟩), .int .i64 id, .agg #[.int .u32 ip, .int .u16 pt], .int .u64 now] w fun x w' => x = .returned (.bool b) ∧ ∃ u', St w0 (H1 ++ hQ g u' k' :: H2) w' :=
  (rheard_any id ip pt now hn g u k w (s.get (h := hQ g u k) (by simp))).mono fun x w' ⟨h1, h2⟩ => ⟨by rw [h1, he], qaft_l s (by rw [← hk]; exact h2)⟩
theorem rlost_l (id : Int) (hb : isP k id = b) (hk : lostD k id = k') (H1 H2 : List Hl) (s : St w0 (H1 ++ hQ g u k :: H2) w) :
    Calls Try.prog 20 #[.pointer (some ⟨g, 0, none⟩), .int .i64 id] w fun x w' => x = .returned (.bool b) ∧ ∃ u', St w0 (H1 ++ hQ g u' k' :: H2) w' :=
  (rlost_any id g u k w (s.get (h := hQ g u k) (by simp))).mono fun x w' ⟨h1, h2⟩ => ⟨by rw [h1, hb], qaft_l s (by rw [← hk]; exact h2)⟩
theorem rdue_l (now : Int) (hn : 0 ≤ now) {L : List (Int × Int)} (hL : dueL k now = L) (hk : dueD k now = k') (H1 H2 : List Hl) (s : St w0 (H1 ++ hQ g u k :: H2) w) :
    Calls Try.prog 22 #[.pointer (some ⟨g, 0, none⟩), .int .u64 now] w fun x w' => ∃ v : Sl, x = .returned (.slice v.a L.length v.c) ∧ St w0 (hR v L :: (H1 ++ hQ g u k' :: H2)) w' := by
  have hg := (s.get (h := hQ g u k) (by simp)).lt
  refine (rdue_any now hn g u k w (s.get (h := hQ g u k) (by simp))).mono ?_
  rintro x w' ⟨v, h1, h2, h3, h4⟩
  rw [hL] at h2
  rw [hk] at h3
  exact ⟨v, by rw [h1, h2.2.1], row_more (h := hQ g u k) (h' := hQ g u k') s h4 h3 (fun _ hb => .inl hb) h2 (fun b hb => hg b hb)⟩
theorem St.rstep {v : Sl} {L : List (Int × Int)} (s : St w0 H w) (hm : hR v L ∈ H) (hp : 0 < L.length) : ∃ b off, v.a = some ⟨b, off, none⟩ ∧ b < w.heap.size ∧ ∀ i x, L[i]? = some x → ∀ j y, (ck x)[j]? = some y → w.cell? ⟨b, off + i * 2 + j, none⟩ = some y := by
  have h : ERow ck 2 53 w v.v L := s.get hm
  exact erow_rd ck_enc h hp
end
/-- an address as the reference's -/
theorem refaddr_any (ip pt : Nat) (w : World) : Calls Try.prog 16 #[.agg #[.int .u32 ip, .int .u16 pt]] w fun e w' => e = .returned (.agg #[.int .u32 ip, .int .u16 pt]) ∧ Below w.heap.size w w' := by
  go_enter Try.func16, Try.ntmps16
  go_wp2
  refine bodyPost_ret (v := .agg #[.int .u32 ip, .int .u16 pt]) (by simp [results, Try.results16, go_sem]) rfl ⟨rfl, ?_⟩
  have hB := Below.refl w.heap.size w
  (have zzh := Below.size hB; repeat (first | with_reducible exact hB | with_reducible refine Below.setCell ?_ (by first | omega | (simp; done) | (simp; omega)) _ | with_reducible refine Below.alloc ?_ (by first | omega | (simp; done) | (simp; omega)) _ | with_reducible refine Below.drew ?_))
set_option maxHeartbeats 3200000 in
set_option maxRecDepth 100000 in
/-- a path is the reference's -/
theorem same_any (x1 x2 x3 : Int) (x4 x5 : Nat) (x6 x7 : Int) (w : World) : Calls Try.prog 24 #[.agg #[.int .i64 x1, .int .i64 x2, .int .i64 x3, .int .u32 x4, .int .u16 x5, .int .u64 x6, .int .u64 x7], .agg #[.int .i64 x1, .int .i64 x2, .int .i64 x3, .int .u32 x4, .int .u16 x5, .int .u64 x6, .int .u64 x7]] w fun e w' => e = .returned (.bool true) ∧ Below w.heap.size w w' := by
  have B1 : Hid (Below w.heap.size w ((w.alloc (.cells #[.int .i64 x1, .int .i64 x2, .int .i64 x3, .int .u32 x4, .int .u16 x5, .int .u64 x6, .int .u64 x7] 61)).alloc (.cells #[.int .i64 x1, .int .i64 x2, .int .i64 x3, .int .u32 x4, .int .u16 x5, .int .u64 x6, .int .u64 x7] 63))) := ((Below.refl _ w).alloc (Nat.le_refl _) _).alloc (by simp) _
  have X1 : Hid (Cs w.heap.size [.int .i64 x1, .int .i64 x2, .int .i64 x3, .int .u32 x4, .int .u16 x5, .int .u64 x6, .int .u64 x7] ((w.alloc (.cells #[.int .i64 x1, .int .i64 x2, .int .i64 x3, .int .u32 x4, .int .u16 x5, .int .u64 x6, .int .u64 x7] 61)).alloc (.cells #[.int .i64 x1, .int .i64 x2, .int .i64 x3, .int .u32 x4, .int .u16 x5, .int .u64 x6, .int .u64 x7] 63))) := (Cs.new w _ _).alloc _
  have X2 : Hid (Cs (w.heap.size + 1) [.int .i64 x1, .int .i64 x2, .int .i64 x3, .int .u32 x4, .int .u16 x5, .int .u64 x6, .int .u64 x7] ((w.alloc (.cells #[.int .i64 x1, .int .i64 x2, .int .i64 x3, .int .u32 x4, .int .u16 x5, .int .u64 x6, .int .u64 x7] 61)).alloc (.cells #[.int .i64 x1, .int .i64 x2, .int .i64 x3, .int .u32 x4, .int .u16 x5, .int .u64 x6, .int .u64 x7] 63))) := by
    have := Cs.new (w.alloc (.cells #[.int .i64 x1, .int .i64 x2, .int .i64 x3, .int .u32 x4, .int .u16 x5, .int .u64 x6, .int .u64 x7] 61)) [.int .i64 x1, .int .i64 x2, .int .i64 x3, .int .u32 x4, .int .u16 x5, .int .u64 x6, .int .u64 x7] 63
    rw [World.size_alloc] at this
    exact this
  go_enter Try.func24, Try.ntmps24
  go_upto_region 1 with fail
  generalize ((w.alloc (.cells #[.int .i64 x1, .int .i64 x2, .int .i64 x3, .int .u32 x4, .int .u16 x5, .int .u64 x6, .int .u64 x7] 61)).alloc (.cells #[.int .i64 x1, .int .i64 x2, .int .i64 x3, .int .u32 x4, .int .u16 x5, .int .u64 x6, .int .u64 x7] 63)) = w1 at *
  generalize w.heap.size + 1 = b2 at *
  obtain ⟨b1, hb1⟩ : ∃ b, w.heap.size = b := ⟨_, rfl⟩
  rw [hb1] at X1 B1 ⊢
  have k0 := cell_regrown (X1.out.cell 0 _ rfl)
  have k1 := cell_regrown (X1.out.cell 1 _ rfl)
  have k2 := cell_regrown (X1.out.cell 2 _ rfl)
  have k3 := cell_regrown (X1.out.cell 3 _ rfl)
  have k4 := cell_regrown (X1.out.cell 4 _ rfl)
  have k5 := cell_regrown (X1.out.cell 5 _ rfl)
  have k6 := cell_regrown (X1.out.cell 6 _ rfl)
  have l0 := cell_regrown (X2.out.cell 0 _ rfl)
  have l1 := cell_regrown (X2.out.cell 1 _ rfl)
  have l2 := cell_regrown (X2.out.cell 2 _ rfl)
  have l3 := cell_regrown (X2.out.cell 3 _ rfl)
  have l4 := cell_regrown (X2.out.cell 4 _ rfl)
  have l5 := cell_regrown (X2.out.cell 5 _ rfl)
  have l6 := cell_regrown (X2.out.cell 6 _ rfl)
  have C1 := fun d os => Calls.regrown_of (refaddr_any x4 x5 (grow (redrawn w1 d) os))
  clear X1 X2
  (refine wp_region_quiet_below (by kernel_rfl) (by kernel_rfl) ?_; (repeat (go_big_quiet_step (first | with_reducible exact C1 _ _))); refine wpQuiet_nil ?_; intro _ hw'; obtain ⟨⟨dq, osq⟩, hw''⟩ := hw'; subst hw'')
  have BW : Hid (Below b1 w (grow (redrawn w1 dq) osq)) := B1.out.trans ((below_regrown w1 dq osq).mono (by have := B1.out.size; omega))
  generalize grow (redrawn w1 dq) osq = w3 at *
  go_wp2
  go_ret
  exact ⟨rfl, by rw [hb1]; exact BW.out⟩
end Go.Proofs.Ytpeoallhbbleaaa
