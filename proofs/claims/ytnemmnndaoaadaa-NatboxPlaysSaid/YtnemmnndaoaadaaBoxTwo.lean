/- Two boxes of a law's own. -/
import Derived.Test.YtnemmnndaoaadaaBoxDeed
namespace Go.Proofs.Ytnemmnndaoaadaa
open Go.Sort Go.RowKit Go.BigFrame
set_option linter.unusedVariables false
set_option linter.unusedSimpArgs false

/-- two boxes, apart from one another, from block B on, and boxes rs of the law's own -/
def T2 (B : Nat) (rs : List Nat) (gx gy : Nat) (X Y : Bx) (w : World) : Prop :=
  B ≤ w.heap.size ∧ (∀ k, k ∈ rs → k < w.heap.size) ∧ ∃ S1 S2, B1 B (fun k => k ∈ rs ∨ S2 k) gx X S1 w ∧ B1 B (fun k => k ∈ rs ∨ S1 k) gy Y S2 w
theorem T2.swap {B gx gy : Nat} {rs : List Nat} {X Y : Bx} {w : World} (h : T2 B rs gx gy X Y w) : T2 B rs gy gx Y X w := by
  obtain ⟨hB, hr, S1, S2, h1, h2⟩ := h
  exact ⟨hB, hr, S2, S1, h2, h1⟩
theorem T2.keep {B gx gy : Nat} {rs : List Nat} {X Y : Bx} {w w' : World} (h : T2 B rs gx gy X Y w) (b : Below w.heap.size w w') : T2 B rs gx gy X Y w' := by
  obtain ⟨hB, hr, S1, S2, h1, h2⟩ := h
  exact ⟨Nat.le_trans hB b.size, fun k hk => Nat.lt_of_lt_of_le (hr k hk) b.size, S1, S2, h1.keep b, h2.keep b⟩
theorem B1.more {B g : Nat} {R R' S : Nat → Prop} {x : Bx} {w : World} (h : B1 B R g x S w) (hR : ∀ k, S k → ¬ R' k) : B1 B R' g x S w := by
  obtain ⟨v, L, h1, h2, h3⟩ := h
  exact ⟨v, L, h1, h2, fun k hk => ⟨(h3 k hk).1, (h3 k hk).2.1, hR k hk⟩⟩
theorem B1.out {B g : Nat} {R S : Nat → Prop} {x : Bx} {w : World} (h : B1 B R g x S w) : ∀ k, S k → B ≤ k ∧ k < w.heap.size ∧ ¬ R k := by
  obtain ⟨v, L, h1, h2, h3⟩ := h
  exact h3
theorem T2.alloc {B gx gy : Nat} {rs : List Nat} {X Y : Bx} {w : World} (h : T2 B rs gx gy X Y w) (o : Obj) : T2 B (w.heap.size :: rs) gx gy X Y (w.alloc o) := by
  obtain ⟨hB, hr, S1, S2, h1, h2⟩ := h
  have b := (Below.refl w.heap.size w).alloc (Nat.le_refl _) o
  refine ⟨by simp; omega, fun k hk => ?_, S1, S2, (h1.keep b).more fun k hk e => ?_, (h2.keep b).more fun k hk e => ?_⟩
  · rcases List.mem_cons.1 hk with rfl | hk
    · simp
    · have := hr k hk; simp; omega
  · obtain ⟨_, h3, h4⟩ := h1.out k hk
    rcases e with e | e
    · rcases List.mem_cons.1 e with rfl | e
      · exact Nat.lt_irrefl _ h3
      · exact h4 (.inl e)
    · exact h4 (.inr e)
  · obtain ⟨_, h3, h4⟩ := h2.out k hk
    rcases e with e | e
    · rcases List.mem_cons.1 e with rfl | e
      · exact Nat.lt_irrefl _ h3
      · exact h4 (.inl e)
    · exact h4 (.inr e)
theorem T2.sub {B gx gy : Nat} {rs rs' : List Nat} {X Y : Bx} {w : World} (h : T2 B rs gx gy X Y w) (hs : ∀ k, k ∈ rs' → k ∈ rs) : T2 B rs' gx gy X Y w := by
  obtain ⟨hB, hr, S1, S2, h1, h2⟩ := h
  exact ⟨hB, fun k hk => hr k (hs k hk), S1, S2, h1.more fun k hk e => (h1.out k hk).2.2 (e.imp (hs k) id), h2.more fun k hk e => (h2.out k hk).2.2 (e.imp (hs k) id)⟩
theorem T2.set {B gx gy : Nat} {rs : List Nat} {X Y : Bx} {w : World} (h : T2 B rs gx gy X Y w) {p : Addr} (hp : p.block ∈ rs) (v : Value) : T2 B rs gx gy X Y (w.setCell p v) := by
  obtain ⟨hB, hr, S1, S2, h1, h2⟩ := h
  have t : Touch (fun k => k = p.block) w (w.setCell p v) := Touch.set (F := fun k => k = p.block) (Touch.refl _ w) (fun _ => rfl) _
  exact ⟨by simpa using hB, fun k hk => by simpa using hr k hk, S1, S2, h1.touch t (fun k hk e => (h1.out k hk).2.2 (.inl (by rw [e]; exact hp))), h2.touch t (fun k hk e => (h2.out k hk).2.2 (.inl (by rw [e]; exact hp)))⟩
theorem t2_of {B gx gy : Nat} {rs : List Nat} {X X' Y : Bx} {S1 S2 : Nat → Prop} {w w' : World} (hB : B ≤ w.heap.size) (hr : ∀ k, k ∈ rs → k < w.heap.size) (h1 : B1 B (fun k => k ∈ rs ∨ S2 k) gx X S1 w) (h2 : B1 B (fun k => k ∈ rs ∨ S1 k) gy Y S2 w)
    (h : Aft B (fun k => k ∈ rs ∨ S2 k) gx X' S1 w w') : T2 B rs gx gy X' Y w' ∧ Tr B rs w w' := by
  obtain ⟨S1', h3, t, hs⟩ := h
  refine ⟨⟨Nat.le_trans hB t.size, fun k hk => Nat.lt_of_lt_of_le (hr k hk) t.size, S1', S2, h3, ?_⟩, t.mono (fun k _ hk => ⟨(h1.out k hk).1, fun e => (h1.out k hk).2.2 (.inl e)⟩)⟩
  refine (h2.touch t (fun k hk e => (h2.out k hk).2.2 (.inr e))).more fun k hk e => ?_
  obtain ⟨_, h4, h5⟩ := h2.out k hk
  rcases e with e | e
  · exact h5 (.inl e)
  · rcases hs k e with e | e
    · exact h5 (.inr e)
    · omega
def T2A (B : Nat) (rs : List Nat) (gx gy : Nat) (X Y : Bx) (v : Value) (w : World) (e : Ending) (w' : World) : Prop := e = .returned v ∧ T2 B rs gx gy X Y w' ∧ Tr B rs w w'
theorem out2 {B gx gy : Nat} {rs : List Nat} {Y : Bx} {m f ip hold : Int} {room : Nat} {l l' : List Pb} {j : Nat} {p now si sp di dp : Int} {w : World} (h : T2 B rs gx gy ⟨m, f, ip, hold, room, l⟩ Y w)
    (hb : badO si sp di dp now = false) (h0 : 0 ≤ now) (ho : outP m hold room now si sp di dp l = (j, l')) (hp : poAt l' j = p) :
    Calls Try.prog 15 #[.pointer (some ⟨gx, 0, none⟩), .int .u64 now, .agg #[.int .u32 si, .int .u16 sp], .agg #[.int .u32 di, .int .u16 dp]] w (T2A B rs gx gy ⟨m, f, ip, hold, room, l'⟩ Y (.tuple #[.agg #[.int .u32 ip, .int .u16 p], .int .i64 0]) w) := by
  obtain ⟨hB, hr, S1, S2, h1, h2⟩ := h
  refine (out1 hB (fun k hk => hk.elim (hr k) (fun e => (h2.out k e).2.1)) h1 hb h0 ho hp).mono ?_
  rintro e w' ⟨rfl, ha⟩
  exact ⟨rfl, t2_of hB hr h1 h2 ha⟩
theorem in2 {B gx gy : Nat} {rs : List Nat} {Y : Bx} {m f ip hold : Int} {room : Nat} {l l' : List Pb} {a b c now port si sp : Int} {w : World} (h : T2 B rs gx gy ⟨m, f, ip, hold, room, l⟩ Y w)
    (hb : badI si sp now = false) (h0 : 0 ≤ now) (ho : inQ f hold now port si sp l = ((a, b, c), l')) :
    Calls Try.prog 7 #[.pointer (some ⟨gx, 0, none⟩), .int .u64 now, .int .u16 port, .agg #[.int .u32 si, .int .u16 sp]] w (T2A B rs gx gy ⟨m, f, ip, hold, room, l'⟩ Y (.tuple #[.agg #[.int .u32 a, .int .u16 b], .int .i64 c]) w) := by
  obtain ⟨hB, hr, S1, S2, h1, h2⟩ := h
  refine (in1 h1 hb h0 ho).mono ?_
  rintro e w' ⟨rfl, ha⟩
  exact ⟨rfl, t2_of hB hr h1 h2 ha⟩
def New2 (B : Nat) (rs : List Nat) (gx : Nat) (X Y : Bx) (w : World) (e : Ending) (w' : World) : Prop := ∃ gy, e = .returned (.tuple #[.pointer (some ⟨gy, 0, none⟩), .int .i64 0]) ∧ T2 B rs gx gy X Y w' ∧ Below w.heap.size w w'
theorem new2 {B gx : Nat} {rs : List Nat} {X : Bx} {m f ip hold : Int} {room : Nat} {w : World} (h : Bo B rs gx X w) (hb : badN m f ip hold room = false) (h0 : 0 ≤ hold) :
    Calls Try.prog 5 #[.agg #[.int .i64 m, .int .i64 f], .int .u32 ip, .int .u64 hold, .int .i64 (room : Nat)] w (New2 B rs gx X ⟨m, f, ip, hold, room, []⟩ w) := by
  obtain ⟨hB, hr, S1, h1⟩ := h
  refine (new1 (R := fun k => k ∈ rs ∨ S1 k) hB (fun k hk => hk.elim (hr k) (fun e => (h1.out k e).2.1)) hb h0).mono ?_
  rintro e w' ⟨gy, rfl, hg, h, b⟩
  refine ⟨gy, rfl, ⟨Nat.le_trans hB b.size, fun k hk => Nat.lt_of_lt_of_le (hr k hk) b.size, S1, _, (h1.keep b).more fun k hk e => ?_, h⟩, b⟩
  obtain ⟨_, h4, h5⟩ := h1.out k hk
  rcases e with e | e
  · exact h5 e
  · omega
theorem Tr.trans {B : Nat} {rs rs' : List Nat} {w w' w'' : World} (h : Tr B rs w w') (h2 : Tr B rs' w' w'') (hs : ∀ k, k ∈ rs → k ∈ rs') : Tr B rs w w'' := Touch.trans h h2 (fun k _ hk => ⟨hk.1, fun e => hk.2 (hs k e)⟩)
theorem Tr.of_below {B : Nat} {rs : List Nat} {w w' : World} (h : Below w.heap.size w w') : Tr B rs w w' := Touch.of_below _ h
/-- what one box's own sends, whether it gets in at the other one -/
def GetsPost (B : Nat) (rs : List Nat) (gx gy : Nat) (X Y : Bx) (ip p : Int) (ok : Bool) (w : World) (e : Ending) (w' : World) : Prop := e = .returned (.tuple #[.agg #[.int .u32 ip, .int .u16 p], .bool ok]) ∧ T2 B rs gx gy X Y w' ∧ Tr B rs w w'
end Go.Proofs.Ytnemmnndaoaadaa
