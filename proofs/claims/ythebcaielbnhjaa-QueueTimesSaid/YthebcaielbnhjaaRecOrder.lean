/- Contracts of a record's Order, Over, Join, both programs. -/
import Derived.Test.YthebcaielbnhjaaRecCmp
import Derived.Deep.RegionHeld3
namespace Go.Proofs.Ythebcaielbnhjaa
open Go.RowKit
set_option linter.unusedVariables false
set_option linter.unusedSimpArgs false

/-- the five cells of a record -/
def rcs (a : Rec) : List Value := [.int .i64 a.id, .int .i64 a.st, .int .u32 a.n, .int .u32 a.ip, .int .u16 a.port]
structure Rb (g : Nat) (a : Rec) (w : World) : Prop where
  c0 : w.cell? ⟨g, 0, none⟩ = some (.int .i64 a.id)
  c1 : w.cell? ⟨g, 1, none⟩ = some (.int .i64 a.st)
  c2 : w.cell? ⟨g, 2, none⟩ = some (.int .u32 a.n)
  c3 : w.cell? ⟨g, 3, none⟩ = some (.int .u32 a.ip)
  c4 : w.cell? ⟨g, 4, none⟩ = some (.int .u16 a.port)
theorem Rb.of {g : Nat} {a : Rec} {w : World} (h : Cs g (rcs a) w) : Rb g a w := ⟨h.cell 0 _ rfl, h.cell 1 _ rfl, h.cell 2 _ rfl, h.cell 3 _ rfl, h.cell 4 _ rfl⟩

theorem order_at {a b : Nat} {p q : Nat} {o : Int} (h : Hid (ordI a p b q = o)) (h1 : a < 4294967296) (h2 : p < 65536) (h3 : b < 4294967296) (h4 : q < 65536) (w : World) :
    Calls Try.prog 50 #[.agg #[.int .u32 a, .int .u16 p], .agg #[.int .u32 b, .int .u16 q]] w fun e w' => e = .returned (.int .i64 o) ∧ Below w.heap.size w w' := by
  rw [← h.out]; exact order_any a p b q h1 h2 h3 h4 w
theorem cmp32_at {a b o : Int} (h : Hid (cmpI a b = o)) (w : World) : Calls Try.prog 49 #[.int .u32 a, .int .u32 b] w fun e w' => e = .returned (.int .i64 o) ∧ w = w' := by
  rw [← h.out]; exact cmp32 a b w
theorem cmp64_at {a b o : Int} (h : Hid (cmpI a b = o)) (w : World) : Calls Try.prog 48 #[.int .i64 a, .int .i64 b] w fun e w' => e = .returned (.int .i64 o) ∧ w = w' := by
  rw [← h.out]; exact cmp64 a b w

set_option maxHeartbeats 800000 in
theorem rorder_rec (a b : Rec) (ha : a.Ok) (hb : b.Ok) (w : World) :
    Calls Try.prog 45 #[.agg #[.int .i64 a.id, .int .i64 a.st, .int .u32 a.n, .int .u32 a.ip, .int .u16 a.port], .agg #[.int .i64 b.id, .int .i64 b.st, .int .u32 b.n, .int .u32 b.ip, .int .u16 b.port]] w fun e w' => e = .returned (.int .i64 (ordR a b)) ∧ Below w.heap.size w w' := by
  obtain ⟨i, st, n, ip, port⟩ := a
  obtain ⟨i', st', n', ip', port'⟩ := b
  obtain ⟨a1, a2, a3⟩ := ha
  obtain ⟨b1, b2, b3⟩ := hb
  simp only [ordR] at *
  rcases Nat.lt_trichotomy n n' with c | c | c
  · have n1 : (n : Int) < n' := by omega
    have n2 : ¬ (n : Int) = n' := by omega
    rw [show ∀ x y, orI (cmpI n n') x y = -1 by intro x y; unfold orI cmpI; rw [if_pos n1]; simp]
    clear c
    go_enter Try.func45, Try.ntmps45
    go_wp2
    go_ret
    exact ⟨rfl, by (repeat (first | with_reducible exact Below.refl _ _ | with_reducible refine Below.drew ?_ | with_reducible refine below_drewN ?_ _ | with_reducible refine Below.alloc ?_ (by first | omega | (simp; done) | (simp; omega)) _ | with_reducible refine Below.setCell ?_ (by first | omega | (simp; done) | (simp; omega)) _))⟩
  · subst c
    rw [show ∀ x y z, orI (cmpI n n) x y = orI 0 x y by intro x y z; unfold cmpI; simp]
    · rcases Int.lt_trichotomy st st' with c | c | c
      · have n2 : ¬ st = st' := by omega
        rw [show ∀ y, orI 0 (cmpI st st') y = -1 by intro y; unfold orI cmpI; rw [if_pos c]; simp]
        go_enter Try.func45, Try.ntmps45
        go_wp2
        go_ret
        exact ⟨rfl, by (repeat (first | with_reducible exact Below.refl _ _ | with_reducible refine Below.drew ?_ | with_reducible refine below_drewN ?_ _ | with_reducible refine Below.alloc ?_ (by first | omega | (simp; done) | (simp; omega)) _ | with_reducible refine Below.setCell ?_ (by first | omega | (simp; done) | (simp; omega)) _))⟩
      · subst c
        rw [show ∀ y, orI 0 (cmpI st st) y = y by intro y; unfold orI cmpI; simp]
        have O := rorder_any ip port ip' port' (by assumption) (by assumption) (by assumption) (by assumption)
        generalize ordI ip port ip' port' = o at *
        go_enter Try.func45, Try.ntmps45
        go_wp2_with fail
        refine (O _).mono ?_; rintro e w1 ⟨rfl, b1⟩
        go_wp2
        go_ret
        exact ⟨rfl, by (have zz0 := Below.size b1; (try simp at zz0); repeat (first | with_reducible exact Below.refl _ _ | with_reducible refine Below.drew ?_ | with_reducible refine below_drewN ?_ _ | with_reducible refine Below.alloc ?_ (by first | omega | (simp; done) | (simp; omega)) _ | with_reducible refine Below.setCell ?_ (by first | omega | (simp; done) | (simp; omega)) _ | (with_reducible refine Below.trans ?_ (Below.mono b1 (by first | omega | (simp; done) | (simp; omega))))))⟩
      · have n2 : ¬ st = st' := by omega
        have n3 : ¬ st < st' := by omega
        rw [show ∀ y, orI 0 (cmpI st st') y = 1 by intro y; unfold orI cmpI; rw [if_neg n3, if_neg n2]; simp]
        go_enter Try.func45, Try.ntmps45
        go_wp2
        go_ret
        exact ⟨rfl, by (repeat (first | with_reducible exact Below.refl _ _ | with_reducible refine Below.drew ?_ | with_reducible refine below_drewN ?_ _ | with_reducible refine Below.alloc ?_ (by first | omega | (simp; done) | (simp; omega)) _ | with_reducible refine Below.setCell ?_ (by first | omega | (simp; done) | (simp; omega)) _))⟩
    · exact 0
  · have n1 : ¬ (n : Int) < n' := by omega
    have n2 : ¬ (n : Int) = n' := by omega
    rw [show ∀ x y, orI (cmpI n n') x y = 1 by intro x y; unfold orI cmpI; rw [if_neg n1, if_neg n2]; simp]
    clear c
    go_enter Try.func45, Try.ntmps45
    go_wp2
    go_ret
    exact ⟨rfl, by (repeat (first | with_reducible exact Below.refl _ _ | with_reducible refine Below.drew ?_ | with_reducible refine below_drewN ?_ _ | with_reducible refine Below.alloc ?_ (by first | omega | (simp; done) | (simp; omega)) _ | with_reducible refine Below.setCell ?_ (by first | omega | (simp; done) | (simp; omega)) _))⟩

set_option maxHeartbeats 800000 in
theorem order_rec (a b : Rec) (ha : a.Ok) (hb : b.Ok) (w : World) :
    Calls Try.prog 37 #[.agg #[.int .i64 a.id, .int .i64 a.st, .int .u32 a.n, .int .u32 a.ip, .int .u16 a.port], .agg #[.int .i64 b.id, .int .i64 b.st, .int .u32 b.n, .int .u32 b.ip, .int .u16 b.port]] w fun e w' => e = .returned (.int .i64 (ordR a b)) ∧ Below w.heap.size w w' := by
  have HR : Hid (ordR a b = orI (cmpI a.n b.n) (cmpI a.st b.st) (ordI a.ip a.port b.ip b.port)) := rfl
  obtain ⟨x, hx⟩ : ∃ x, cmpI a.n b.n = x := ⟨_, rfl⟩
  obtain ⟨y, hy⟩ : ∃ y, cmpI a.st b.st = y := ⟨_, rfl⟩
  obtain ⟨z, hz⟩ : ∃ z, ordI a.ip a.port b.ip b.port = z := ⟨_, rfl⟩
  rw [hx, hy, hz] at HR
  have CX := Lib.hid hx
  have CY := Lib.hid hy
  have CZ := Lib.hid hz
  have OA := Lib.hid ha
  have OB := Lib.hid hb
  clear hx hy hz ha hb
  generalize ordR a b = o at *
  go_enter Try.func37, Try.ntmps37
  have X0 : Cs w.heap.size (rcs a) (w.alloc (.cells #[.int .i64 a.id, .int .i64 a.st, .int .u32 a.n, .int .u32 a.ip, .int .u16 a.port] 37)) := Cs.new w (rcs a) 37
  have X := X0.alloc (.cells #[.int .i64 b.id, .int .i64 b.st, .int .u32 b.n, .int .u32 b.ip, .int .u16 b.port] 37)
  have Y : Cs (w.heap.size + 1) (rcs b) ((w.alloc (.cells #[.int .i64 a.id, .int .i64 a.st, .int .u32 a.n, .int .u32 a.ip, .int .u16 a.port] 37)).alloc (.cells #[.int .i64 b.id, .int .i64 b.st, .int .u32 b.n, .int .u32 b.ip, .int .u16 b.port] 37)) := by
    have := Cs.new (w.alloc (.cells #[.int .i64 a.id, .int .i64 a.st, .int .u32 a.n, .int .u32 a.ip, .int .u16 a.port] 37)) (rcs b) 37
    simp only [World.size_alloc] at this
    exact this
  have hB : Hid (Below w.heap.size w ((w.alloc (.cells #[.int .i64 a.id, .int .i64 a.st, .int .u32 a.n, .int .u32 a.ip, .int .u16 a.port] 37)).alloc (.cells #[.int .i64 b.id, .int .i64 b.st, .int .u32 b.n, .int .u32 b.ip, .int .u16 b.port] 37))) := by show Below _ _ _; (repeat (first | with_reducible exact Below.refl _ _ | with_reducible refine Below.drew ?_ | with_reducible refine below_drewN ?_ _ | with_reducible refine Below.alloc ?_ (by first | omega | (simp; done) | (simp; omega)) _ | with_reducible refine Below.setCell ?_ (by first | omega | (simp; done) | (simp; omega)) _))
  clear X0
  go_upto_region 1 with fail
  generalize ((w.alloc (.cells #[.int .i64 a.id, .int .i64 a.st, .int .u32 a.n, .int .u32 a.ip, .int .u16 a.port] 37)).alloc (.cells #[.int .i64 b.id, .int .i64 b.st, .int .u32 b.n, .int .u32 b.ip, .int .u16 b.port] 37)) = wb at *
  have QB : Bel wb wb := Bel.refl _
  have HX := Lib.hid X
  have HY := Lib.hid Y
  obtain ⟨x0, x1, x2, x3, x4⟩ := Rb.of X
  obtain ⟨y0, y1, y2, y3, y4⟩ := Rb.of Y
  clear X Y x0 y0
  have mkS : Hid (∀ w', Bel wb w' → w'.cell? ⟨w.heap.size, 1, none⟩ = some (.int .i64 a.st) ∧ w'.cell? ⟨w.heap.size, 2, none⟩ = some (.int .u32 a.n) ∧ w'.cell? ⟨w.heap.size, 3, none⟩ = some (.int .u32 a.ip) ∧ w'.cell? ⟨w.heap.size, 4, none⟩ = some (.int .u16 a.port) ∧
      w'.cell? ⟨w.heap.size + 1, 1, none⟩ = some (.int .i64 b.st) ∧ w'.cell? ⟨w.heap.size + 1, 2, none⟩ = some (.int .u32 b.n) ∧ w'.cell? ⟨w.heap.size + 1, 3, none⟩ = some (.int .u32 b.ip) ∧ w'.cell? ⟨w.heap.size + 1, 4, none⟩ = some (.int .u16 b.port) ∧ Bel wb w') := fun w' h => by
    have A := Rb.of (HX.out.keep h.out)
    have B := Rb.of (HY.out.keep h.out)
    exact ⟨A.c1, A.c2, A.c3, A.c4, B.c1, B.c2, B.c3, B.c4, h⟩
  go_region_held3 (fun w' => w'.cell? ⟨w.heap.size, 1, none⟩ = some (.int .i64 a.st) ∧ w'.cell? ⟨w.heap.size, 2, none⟩ = some (.int .u32 a.n) ∧ w'.cell? ⟨w.heap.size, 3, none⟩ = some (.int .u32 a.ip) ∧ w'.cell? ⟨w.heap.size, 4, none⟩ = some (.int .u16 a.port) ∧
      w'.cell? ⟨w.heap.size + 1, 1, none⟩ = some (.int .i64 b.st) ∧ w'.cell? ⟨w.heap.size + 1, 2, none⟩ = some (.int .u32 b.n) ∧ w'.cell? ⟨w.heap.size + 1, 3, none⟩ = some (.int .u32 b.ip) ∧ w'.cell? ⟨w.heap.size + 1, 4, none⟩ = some (.int .u16 b.port) ∧ Bel wb w')
    (first | exact mkS.out _ QB | exact mkS.out _ QB.drew | exact mkS.out _ (QB.alloc _) | exact mkS.out _ (QB.drew.alloc _))
    (first
      | (go_at_call_of 49 (Value.int .u32 (a.n : Int)); refine (cmp32_at CX _).mono ?_; rintro e wx ⟨rfl, rfl⟩)
      | (go_at_call_of 48 (Value.int .i64 a.st); refine (cmp64_at CY _).mono ?_; rintro e wx ⟨rfl, rfl⟩)
      | (go_at_call_of 50 (Value.agg #[.int .u32 (a.ip : Int), .int .u16 (a.port : Int)]); refine (order_at CZ OA.out.ip OA.out.port OB.out.ip OB.out.port _).mono ?_; rintro e wx ⟨rfl, hb⟩; have QB := Bel.call (by first | exact QB | exact QB.drew) hb)
      | (go_at_call 47; refine (or_any x y z _ _ (by go_simp) (by go_simp) (by go_simp)).mono ?_; rintro e wx ⟨rfl, rfl⟩; have QB := QB.alloc (.cells #[.int .i64 x, .int .i64 y, .int .i64 z] 3)))
  all_goals go_wp2
  all_goals go_ret
  all_goals exact ⟨by rw [HR.out]; rfl, hB.out.trans (QB.out.mono hB.out.size)⟩
end Go.Proofs.Ythebcaielbnhjaa
