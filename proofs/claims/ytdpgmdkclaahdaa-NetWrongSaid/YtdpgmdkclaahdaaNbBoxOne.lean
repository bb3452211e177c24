/- One box of a law's own; two of them: contracts that speak of plain data. -/
import Derived.Test.YtdpgmdkclaahdaaNbBoxBinds
namespace Go.Proofs.Ytdpgmdkclaahdaa.Nb
open Go.Sort Go.RowKit Go.BigFrame
set_option linter.unusedVariables false
set_option linter.unusedSimpArgs false

/-- a box, as plain data -/
structure Bx where
  m : Int
  f : Int
  ip : Int
  hold : Int
  room : Nat
  l : List Pb
/-- a box of somebody's own, from block B on, apart from R -/
def B1 (B : Nat) (R : Nat → Prop) (g : Nat) (x : Bx) (S : Nat → Prop) (w : World) : Prop :=
  ∃ v L, Bs g S x.m x.f x.ip x.hold x.room v L w ∧ L.map (·.1) = x.l ∧ ∀ k, S k → B ≤ k ∧ k < w.heap.size ∧ ¬ R k
theorem B1.keep {B g : Nat} {R S : Nat → Prop} {x : Bx} {w w' : World} (h : B1 B R g x S w) (b : Below w.heap.size w w') : B1 B R g x S w' := by
  obtain ⟨v, L, h1, h2, h3⟩ := h
  exact ⟨v, L, h1.keep b, h2, fun k hk => ⟨(h3 k hk).1, Nat.lt_of_lt_of_le (h3 k hk).2.1 b.size, (h3 k hk).2.2⟩⟩
theorem B1.touch {B g : Nat} {R S F : Nat → Prop} {x : Bx} {w w' : World} (h : B1 B R g x S w) (t : Touch F w w') (hF : ∀ k, S k → ¬ F k) : B1 B R g x S w' := by
  obtain ⟨v, L, h1, h2, h3⟩ := h
  exact ⟨v, L, h1.touch t hF, h2, fun k hk => ⟨(h3 k hk).1, Nat.lt_of_lt_of_le (h3 k hk).2.1 t.size, (h3 k hk).2.2⟩⟩
theorem B1.ok {B g : Nat} {R S : Nat → Prop} {x : Bx} {w : World} (h : B1 B R g x S w) : Okb x.hold x.room x.l := by
  obtain ⟨v, L, h1, h2, _⟩ := h
  rw [← h2]; exact h1.ok
theorem B1.lt {B g : Nat} {R S : Nat → Prop} {x : Bx} {w : World} (h : B1 B R g x S w) : g < w.heap.size := by
  obtain ⟨v, L, h1, _⟩ := h
  exact h1.box.lt
/-- behind a call: the box is so, and nothing turned but what is its own -/
def Aft (B : Nat) (R : Nat → Prop) (g : Nat) (x : Bx) (S : Nat → Prop) (w w' : World) : Prop := ∃ S', B1 B R g x S' w' ∧ Touch S w w' ∧ ∀ k, S' k → S k ∨ w.heap.size ≤ k
theorem aft_grown {B g : Nat} {R S : Nat → Prop} {m f ip hold : Int} {room : Nat} {l : List Pb} {w w' : World} {v : Sl} {L : List Bd} (hB : B ≤ w.heap.size) (hR : ∀ k, R k → k < w.heap.size) (h3 : ∀ k, S k → B ≤ k ∧ k < w.heap.size ∧ ¬ R k)
    (h : Bs g (grownS S w w') m f ip hold room v L w') (hl : L.map (·.1) = l) (t : Touch S w w') : Aft B R g ⟨m, f, ip, hold, room, l⟩ S w w' := by
  refine ⟨grownS S w w', ⟨v, L, h, hl, fun k hk => ?_⟩, t, fun k hk => hk.imp id (fun h => h.1)⟩
  rcases hk with hk | ⟨h1, h2⟩
  · exact ⟨(h3 k hk).1, Nat.lt_of_lt_of_le (h3 k hk).2.1 t.size, (h3 k hk).2.2⟩
  · exact ⟨Nat.le_trans hB h1, h2, fun e => by have := hR k e; omega⟩
theorem aft_same {B g : Nat} {R S : Nat → Prop} {m f ip hold : Int} {room : Nat} {l : List Pb} {w w' : World} {v : Sl} {L : List Bd} (h3 : ∀ k, S k → B ≤ k ∧ k < w.heap.size ∧ ¬ R k)
    (h : Bs g S m f ip hold room v L w') (hl : L.map (·.1) = l) (t : Touch S w w') : Aft B R g ⟨m, f, ip, hold, room, l⟩ S w w' :=
  ⟨S, ⟨v, L, h, hl, fun k hk => ⟨(h3 k hk).1, Nat.lt_of_lt_of_le (h3 k hk).2.1 t.size, (h3 k hk).2.2⟩⟩, t, fun k hk => .inl hk⟩
def Out1 (B : Nat) (R : Nat → Prop) (g : Nat) (x : Bx) (S : Nat → Prop) (ip p : Int) (w : World) (e : Ending) (w' : World) : Prop := e = .returned (.tuple #[.agg #[.int .u32 ip, .int .u16 p], .int .i64 0]) ∧ Aft B R g x S w w'
theorem out1 {B g : Nat} {R S : Nat → Prop} {m f ip hold : Int} {room : Nat} {l l' : List Pb} {j : Nat} {p now si sp di dp : Int} {w : World} (hB : B ≤ w.heap.size) (hR : ∀ k, R k → k < w.heap.size) (h : B1 B R g ⟨m, f, ip, hold, room, l⟩ S w)
    (hb : badO si sp di dp now = false) (h0 : 0 ≤ now) (ho : outP m hold room now si sp di dp l = (j, l')) (hp : poAt l' j = p) :
    Calls Try.prog 40 #[.pointer (some ⟨g, 0, none⟩), .int .u64 now, .agg #[.int .u32 si, .int .u16 sp], .agg #[.int .u32 di, .int .u16 dp]] w (Out1 B R g ⟨m, f, ip, hold, room, l'⟩ S ip p w) := by
  obtain ⟨v, L, h1, h2, h3⟩ := h
  simp only at h1 h2
  refine (out_ok g S m f ip hold room v now si sp di dp L w h1 (fun k hk => (h3 k hk).2.1) hb h0).mono ?_
  rintro e w' ⟨L', hL', hlt, rfl, ⟨v', hb'⟩, ht⟩
  rw [h2, ho] at hL'
  refine ⟨?_, aft_grown hB hR h3 hb' hL' ht⟩
  rw [h2, ho]
  simp only
  rw [hp]
def In1 (B : Nat) (R : Nat → Prop) (g : Nat) (x : Bx) (S : Nat → Prop) (a b c : Int) (w : World) (e : Ending) (w' : World) : Prop := e = .returned (.tuple #[.agg #[.int .u32 a, .int .u16 b], .int .i64 c]) ∧ Aft B R g x S w w'
theorem in1 {B g : Nat} {R S : Nat → Prop} {m f ip hold : Int} {room : Nat} {l l' : List Pb} {a b c now port si sp : Int} {w : World} (h : B1 B R g ⟨m, f, ip, hold, room, l⟩ S w)
    (hb : badI si sp now = false) (h0 : 0 ≤ now) (ho : inQ f hold now port si sp l = ((a, b, c), l')) :
    Calls Try.prog 45 #[.pointer (some ⟨g, 0, none⟩), .int .u64 now, .int .u16 port, .agg #[.int .u32 si, .int .u16 sp]] w (In1 B R g ⟨m, f, ip, hold, room, l'⟩ S a b c w) := by
  obtain ⟨v, L, h1, h2, h3⟩ := h
  simp only at h1 h2
  refine (in_ok g S m f ip hold room v now port si sp L w h1 (fun k hk => (h3 k hk).2.1) hb h0).mono ?_
  rintro e w' ⟨L', hL', rfl, ⟨v', hb'⟩, ht⟩
  rw [h2, ho] at hL'
  refine ⟨?_, aft_same h3 hb' hL' ht⟩
  rw [h2, ho]
def Int1 (B : Nat) (R : Nat → Prop) (g : Nat) (x : Bx) (S : Nat → Prop) (a : Int) (w : World) (e : Ending) (w' : World) : Prop := e = .returned (.int .i64 a) ∧ Aft B R g x S w w'
theorem sweep1 {B g : Nat} {R S : Nat → Prop} {m f ip hold : Int} {room : Nat} {l : List Pb} {now : Int} {w : World} (h : B1 B R g ⟨m, f, ip, hold, room, l⟩ S w) :
    Calls Try.prog 56 #[.pointer (some ⟨g, 0, none⟩), .int .u64 now] w (Int1 B R g ⟨m, f, ip, hold, room, sweepP now l⟩ S ((l.length : Int) - (sweepP now l).length) w) := by
  obtain ⟨v, L, h1, h2, h3⟩ := h
  simp only at h1 h2
  refine (sweep_any now g S m f ip hold room v L w h1 (fun k hk => (h3 k hk).2.1)).mono ?_
  rintro e w' ⟨rfl, ⟨v', hb'⟩, ht⟩
  have e := sweep_fst now L
  rw [h2] at e
  refine ⟨?_, aft_same h3 hb' e ht⟩
  rw [← e, ← h2, List.length_map, List.length_map]
theorem rebind1 {B g : Nat} {R S : Nat → Prop} {m f ip0 hold : Int} {room : Nat} {l : List Pb} {ip : Int} {w : World} (hip : ¬ ip = 0) (h : B1 B R g ⟨m, f, ip0, hold, room, l⟩ S w) :
    Calls Try.prog 34 #[.pointer (some ⟨g, 0, none⟩), .int .u32 ip] w (Int1 B R g ⟨m, f, ip, hold, room, []⟩ S 0 w) := by
  obtain ⟨v, L, h1, h2, h3⟩ := h
  refine (rebind_ok g S m f ip0 hold room v L ip hip w h1).mono ?_
  rintro e w' ⟨rfl, ⟨v', hb'⟩, ht⟩
  exact ⟨rfl, aft_same h3 hb' rfl ht⟩
def New1 (B : Nat) (R : Nat → Prop) (x : Bx) (w : World) (e : Ending) (w' : World) : Prop := ∃ g, e = .returned (.tuple #[.pointer (some ⟨g, 0, none⟩), .int .i64 0]) ∧ w.heap.size ≤ g ∧ B1 B R g x (fun k => k = g) w' ∧ Below w.heap.size w w'
theorem new1 {B : Nat} {R : Nat → Prop} {m f ip hold : Int} {room : Nat} {w : World} (hB : B ≤ w.heap.size) (hR : ∀ k, R k → k < w.heap.size) (hb : badN m f ip hold room = false) (h0 : 0 ≤ hold) :
    Calls Try.prog 39 #[.agg #[.int .i64 m, .int .i64 f], .int .u32 ip, .int .u64 hold, .int .i64 (room : Nat)] w (New1 B R ⟨m, f, ip, hold, room, []⟩ w) := by
  refine (new_ok m f ip hold room w hb h0).mono ?_
  rintro e w' ⟨g, rfl, hg, hlt, h, b⟩
  exact ⟨g, rfl, hg, ⟨_, _, h, rfl, fun k hk => ⟨by omega, by omega, fun e => by have := hR k e; omega⟩⟩, b⟩
/-- what Binds answers: a slice that can be read -/
def RdP (w : World) (a : Option Addr) (n : Nat) (l : List Pb) : Prop := n = l.length ∧ ∃ M : List Bd, M.map (·.1) = l ∧ RdB w a M ∧ ∀ x ∈ M, RdA w w.heap.size x.2.a x.1.met ∧ x.2.n = x.1.met.length
def Binds1 (l : List Pb) (w : World) (e : Ending) (w' : World) : Prop := ∃ a n c, e = .returned (.slice a n c) ∧ RdP w' a n l ∧ Below w.heap.size w w'
theorem ip1 {B g : Nat} {R S : Nat → Prop} {x : Bx} {w : World} (h : B1 B R g x S w) : Calls Try.prog 20 #[.pointer (some ⟨g, 0, none⟩)] w fun e w' => e = .returned (.int .u32 x.ip) ∧ w = w' := by
  obtain ⟨v, L, h1, h2, h3⟩ := h
  exact ip_any g S x.m x.f x.ip x.hold x.room v L w h1
theorem Aft.below {B g : Nat} {R S : Nat → Prop} {x y : Bx} {w w' : World} (h : Aft B R g y S w w') (hB : B ≤ w.heap.size) (h1 : B1 B R g x S w) : Below B w w' := by
  obtain ⟨S', _, t, _⟩ := h
  obtain ⟨_, _, _, _, h3⟩ := h1
  exact t.below hB (fun k _ hk => (h3 k hk).1)
/-- nothing turned below B, nor in the blocks rs -/
def Tr (B : Nat) (rs : List Nat) (w w' : World) : Prop := Touch (fun k => B ≤ k ∧ ¬ k ∈ rs) w w'
theorem Tr.below {B : Nat} {rs : List Nat} {w w' : World} (h : Tr B rs w w') (hB : B ≤ w.heap.size) : Below B w w' := Touch.below h hB (fun k _ hk => hk.1)
theorem Tr.size {B : Nat} {rs : List Nat} {w w' : World} (h : Tr B rs w w') : w.heap.size ≤ w'.heap.size := Touch.size h
theorem _root_.Go.Proofs.Ytdpgmdkclaahdaa.Cs.tr {B : Nat} {rs : List Nat} {w w' : World} {r : Nat} {vs : List Value} (h : Cs r vs w) (t : Tr B rs w w') (hr : r ∈ rs) : Cs r vs w' := h.touch t (fun e => e.2 hr)
/-- one box alone, from block B on, and boxes rs of the law's own -/
def Bo (B : Nat) (rs : List Nat) (g : Nat) (x : Bx) (w : World) : Prop := B ≤ w.heap.size ∧ (∀ k, k ∈ rs → k < w.heap.size) ∧ ∃ S, B1 B (fun k => k ∈ rs) g x S w
theorem Bo.keep {B g : Nat} {rs : List Nat} {x : Bx} {w w' : World} (h : Bo B rs g x w) (b : Below w.heap.size w w') : Bo B rs g x w' := by
  obtain ⟨hB, hr, S, h1⟩ := h
  exact ⟨Nat.le_trans hB b.size, fun k hk => Nat.lt_of_lt_of_le (hr k hk) b.size, S, h1.keep b⟩
theorem Bo.alloc {B g : Nat} {rs : List Nat} {x : Bx} {w : World} (h : Bo B rs g x w) (o : Obj) : Bo B (w.heap.size :: rs) g x (w.alloc o) := by
  obtain ⟨hB, hr, S, v, L, h1, h2, h3⟩ := h
  refine ⟨by simp; omega, fun k hk => ?_, S, v, L, h1.keep ((Below.refl _ _).alloc (Nat.le_refl _) o), h2, fun k hk => ⟨(h3 k hk).1, by have := (h3 k hk).2.1; simp; omega, fun e => ?_⟩⟩
  · rcases List.mem_cons.1 hk with rfl | hk
    · simp
    · have := hr k hk; simp; omega
  · rcases List.mem_cons.1 e with rfl | e
    · exact Nat.lt_irrefl _ (h3 _ hk).2.1
    · exact (h3 k hk).2.2 e
/-- a box of the law's own is written, or forgotten -/
theorem Bo.set {B g : Nat} {rs : List Nat} {x : Bx} {w : World} (h : Bo B rs g x w) {p : Addr} (hp : p.block ∈ rs) (v : Value) : Bo B rs g x (w.setCell p v) := by
  obtain ⟨hB, hr, S, h1⟩ := h
  obtain ⟨v1, L, h4, h2, h3⟩ := h1
  refine ⟨by simpa using hB, fun k hk => by simpa using hr k hk, S, ⟨v1, L, h4.touch (F := fun k => k = p.block) (Touch.set (F := fun k => k = p.block) (Touch.refl _ w) (fun _ => rfl) _) (fun k hk e => (h3 k hk).2.2 (by rw [e]; exact hp)), h2, fun k hk => by simpa using h3 k hk⟩⟩
theorem Bo.sub {B g : Nat} {rs rs' : List Nat} {x : Bx} {w : World} (h : Bo B rs g x w) (hs : ∀ k, k ∈ rs' → k ∈ rs) : Bo B rs' g x w := by
  obtain ⟨hB, hr, S, v, L, h1, h2, h3⟩ := h
  exact ⟨hB, fun k hk => hr k (hs k hk), S, v, L, h1, h2, fun k hk => ⟨(h3 k hk).1, (h3 k hk).2.1, fun e => (h3 k hk).2.2 (hs k e)⟩⟩
theorem Bo.ok {B g : Nat} {rs : List Nat} {x : Bx} {w : World} (h : Bo B rs g x w) : Okb x.hold x.room x.l := by
  obtain ⟨_, _, S, h1⟩ := h
  exact h1.ok
def BoA (B : Nat) (rs : List Nat) (g : Nat) (x : Bx) (v : Value) (w : World) (e : Ending) (w' : World) : Prop := e = .returned v ∧ Bo B rs g x w' ∧ Tr B rs w w'
theorem bo_of {B g : Nat} {rs : List Nat} {x y : Bx} {S : Nat → Prop} {w w' : World} (hB : B ≤ w.heap.size) (hr : ∀ k, k ∈ rs → k < w.heap.size) (h1 : B1 B (fun k => k ∈ rs) g x S w) (h : Aft B (fun k => k ∈ rs) g y S w w') : Bo B rs g y w' ∧ Tr B rs w w' := by
  obtain ⟨S', h2, t, _⟩ := h
  obtain ⟨_, _, _, _, h3⟩ := h1
  exact ⟨⟨Nat.le_trans hB t.size, fun k hk => Nat.lt_of_lt_of_le (hr k hk) t.size, S', h2⟩, t.mono (fun k _ hk => ⟨(h3 k hk).1, (h3 k hk).2.2⟩)⟩
theorem outO {B g : Nat} {rs : List Nat} {m f ip hold : Int} {room : Nat} {l l' : List Pb} {j : Nat} {p now si sp di dp : Int} {w : World} (h : Bo B rs g ⟨m, f, ip, hold, room, l⟩ w)
    (hb : badO si sp di dp now = false) (h0 : 0 ≤ now) (ho : outP m hold room now si sp di dp l = (j, l')) (hp : poAt l' j = p) :
    Calls Try.prog 40 #[.pointer (some ⟨g, 0, none⟩), .int .u64 now, .agg #[.int .u32 si, .int .u16 sp], .agg #[.int .u32 di, .int .u16 dp]] w (BoA B rs g ⟨m, f, ip, hold, room, l'⟩ (.tuple #[.agg #[.int .u32 ip, .int .u16 p], .int .i64 0]) w) := by
  obtain ⟨hB, hr, S, h1⟩ := h
  refine (out1 hB hr h1 hb h0 ho hp).mono ?_
  rintro e w' ⟨rfl, ha⟩
  exact ⟨rfl, bo_of hB hr h1 ha⟩
theorem inO {B g : Nat} {rs : List Nat} {m f ip hold : Int} {room : Nat} {l l' : List Pb} {a b c now port si sp : Int} {w : World} (h : Bo B rs g ⟨m, f, ip, hold, room, l⟩ w)
    (hb : badI si sp now = false) (h0 : 0 ≤ now) (ho : inQ f hold now port si sp l = ((a, b, c), l')) :
    Calls Try.prog 45 #[.pointer (some ⟨g, 0, none⟩), .int .u64 now, .int .u16 port, .agg #[.int .u32 si, .int .u16 sp]] w (BoA B rs g ⟨m, f, ip, hold, room, l'⟩ (.tuple #[.agg #[.int .u32 a, .int .u16 b], .int .i64 c]) w) := by
  obtain ⟨hB, hr, S, h1⟩ := h
  refine (in1 h1 hb h0 ho).mono ?_
  rintro e w' ⟨rfl, ha⟩
  exact ⟨rfl, bo_of hB hr h1 ha⟩
theorem sweepO {B g : Nat} {rs : List Nat} {m f ip hold : Int} {room : Nat} {l : List Pb} {now : Int} {w : World} (h : Bo B rs g ⟨m, f, ip, hold, room, l⟩ w) :
    Calls Try.prog 56 #[.pointer (some ⟨g, 0, none⟩), .int .u64 now] w (BoA B rs g ⟨m, f, ip, hold, room, sweepP now l⟩ (.int .i64 ((l.length : Int) - (sweepP now l).length)) w) := by
  obtain ⟨hB, hr, S, h1⟩ := h
  refine (sweep1 h1).mono ?_
  rintro e w' ⟨rfl, ha⟩
  exact ⟨rfl, bo_of hB hr h1 ha⟩
theorem rebindO {B g : Nat} {rs : List Nat} {m f ip0 hold : Int} {room : Nat} {l : List Pb} {ip : Int} {w : World} (hip : ¬ ip = 0) (h : Bo B rs g ⟨m, f, ip0, hold, room, l⟩ w) :
    Calls Try.prog 34 #[.pointer (some ⟨g, 0, none⟩), .int .u32 ip] w (BoA B rs g ⟨m, f, ip, hold, room, []⟩ (.int .i64 0) w) := by
  obtain ⟨hB, hr, S, h1⟩ := h
  refine (rebind1 hip h1).mono ?_
  rintro e w' ⟨rfl, ha⟩
  exact ⟨rfl, bo_of hB hr h1 ha⟩
def NewO (B : Nat) (rs : List Nat) (x : Bx) (w : World) (e : Ending) (w' : World) : Prop := ∃ g, e = .returned (.tuple #[.pointer (some ⟨g, 0, none⟩), .int .i64 0]) ∧ Bo B rs g x w' ∧ Below w.heap.size w w'
theorem newO {B : Nat} {rs : List Nat} {m f ip hold : Int} {room : Nat} {w : World} (hB : B ≤ w.heap.size) (hr : ∀ k, k ∈ rs → k < w.heap.size) (hb : badN m f ip hold room = false) (h0 : 0 ≤ hold) :
    Calls Try.prog 39 #[.agg #[.int .i64 m, .int .i64 f], .int .u32 ip, .int .u64 hold, .int .i64 (room : Nat)] w (NewO B rs ⟨m, f, ip, hold, room, []⟩ w) := by
  refine (new1 (R := fun k => k ∈ rs) hB hr hb h0).mono ?_
  rintro e w' ⟨g, rfl, hg, h, b⟩
  exact ⟨g, rfl, ⟨Nat.le_trans hB b.size, fun k hk => Nat.lt_of_lt_of_le (hr k hk) b.size, _, h⟩, b⟩
theorem ipO {B g : Nat} {rs : List Nat} {x : Bx} {w : World} (h : Bo B rs g x w) : Calls Try.prog 20 #[.pointer (some ⟨g, 0, none⟩)] w fun e w' => e = .returned (.int .u32 x.ip) ∧ w = w' := by
  obtain ⟨hB, hr, S, h1⟩ := h
  exact ip1 h1
end Go.Proofs.Ytdpgmdkclaahdaa.Nb