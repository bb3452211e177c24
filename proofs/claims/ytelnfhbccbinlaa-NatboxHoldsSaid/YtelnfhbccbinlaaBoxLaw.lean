/- What a law holds: boxes of its own, one box or two: carried as one thing. -/
import Derived.Test.YtelnfhbccbinlaaBoxPair
namespace Go.Proofs.Ytelnfhbccbinlaa
open Go.Sort Go.RowKit Go.BigFrame
set_option linter.unusedVariables false
set_option linter.unusedSimpArgs false

def Cl (l : List (Nat × List Value)) (w : World) : Prop := ∀ x, x ∈ l → Cs x.1 x.2 w
theorem Cl.at {l : List (Nat × List Value)} {w : World} (h : Cl l w) (g : Nat) (vs : List Value) (hm : (g, vs) ∈ l) : Cs g vs w := h _ hm
theorem Cl.keep {l : List (Nat × List Value)} {w w' : World} (h : Cl l w) (b : Below w.heap.size w w') : Cl l w' := fun x hx => (h x hx).keep b
theorem Cl.tr {B : Nat} {l : List (Nat × List Value)} {w w' : World} (h : Cl l w) (t : Tr B (l.map (·.1)) w w') : Cl l w' := fun x hx => (h x hx).tr t (List.mem_map.2 ⟨x, hx, rfl⟩)
theorem Cl.alloc {l : List (Nat × List Value)} {w : World} (h : Cl l w) (vs : List Value) (t : TypeId) : Cl ((w.heap.size, vs) :: l) (w.alloc (.cells vs.toArray t)) := fun x hx => by
  rcases List.mem_cons.1 hx with rfl | hx
  · exact Cs.new w vs t
  · exact (h x hx).alloc _
theorem Cl.sub {l l' : List (Nat × List Value)} {w : World} (h : Cl l w) (hs : ∀ x, x ∈ l' → x ∈ l) : Cl l' w := fun x hx => h x (hs x hx)
/-- two boxes and what else the law holds -/
structure L2 (B : Nat) (l : List (Nat × List Value)) (gx gy : Nat) (X Y : Bx) (w : World) : Prop where
  t : T2 B (l.map (·.1)) gx gy X Y w
  c : Cl l w
theorem L2.keep {B gx gy : Nat} {l : List (Nat × List Value)} {X Y : Bx} {w w' : World} (h : L2 B l gx gy X Y w) (b : Below w.heap.size w w') : L2 B l gx gy X Y w' := ⟨h.t.keep b, h.c.keep b⟩
theorem L2.alloc {B gx gy : Nat} {l : List (Nat × List Value)} {X Y : Bx} {w : World} (h : L2 B l gx gy X Y w) (vs : List Value) (t : TypeId) : L2 B ((w.heap.size, vs) :: l) gx gy X Y (w.alloc (.cells vs.toArray t)) := ⟨h.t.alloc _, h.c.alloc vs t⟩
theorem L2.swap {B gx gy : Nat} {l : List (Nat × List Value)} {X Y : Bx} {w : World} (h : L2 B l gx gy X Y w) : L2 B l gy gx Y X w := ⟨h.t.swap, h.c⟩
theorem L2.sub {B gx gy : Nat} {l l' : List (Nat × List Value)} {X Y : Bx} {w : World} (h : L2 B l gx gy X Y w) (hs : ∀ x, x ∈ l' → x ∈ l) : L2 B l' gx gy X Y w :=
  ⟨h.t.sub (fun k hk => by obtain ⟨x, hx, rfl⟩ := List.mem_map.1 hk; exact List.mem_map.2 ⟨x, hs x hx, rfl⟩), h.c.sub hs⟩
def L2A (B : Nat) (l : List (Nat × List Value)) (gx gy : Nat) (X Y : Bx) (v : Value) (w : World) (e : Ending) (w' : World) : Prop := e = .returned v ∧ L2 B l gx gy X Y w' ∧ Below B w w'
theorem L2.outx {B gx gy : Nat} {lo : List (Nat × List Value)} {Y : Bx} {m f ip hold : Int} {room : Nat} {l l' : List Pb} {j : Nat} {p now si sp di dp : Int} {w : World} (h : L2 B lo gx gy ⟨m, f, ip, hold, room, l⟩ Y w)
    (hb : badO si sp di dp now = false) (h0 : 0 ≤ now) (ho : outP m hold room now si sp di dp l = (j, l')) (hp : poAt l' j = p) :
    Calls Try.prog 21 #[.pointer (some ⟨gx, 0, none⟩), .int .u64 now, .agg #[.int .u32 si, .int .u16 sp], .agg #[.int .u32 di, .int .u16 dp]] w (L2A B lo gx gy ⟨m, f, ip, hold, room, l'⟩ Y (.tuple #[.agg #[.int .u32 ip, .int .u16 p], .int .i64 0]) w) := by
  refine (out2 h.t hb h0 ho hp).mono ?_
  rintro e w' ⟨rfl, ht, t⟩
  exact ⟨rfl, ⟨ht, h.c.tr t⟩, t.below h.t.1⟩
theorem L2.inx {B gx gy : Nat} {lo : List (Nat × List Value)} {Y : Bx} {m f ip hold : Int} {room : Nat} {l l' : List Pb} {a b c now port si sp : Int} {w : World} (h : L2 B lo gx gy ⟨m, f, ip, hold, room, l⟩ Y w)
    (hb : badI si sp now = false) (h0 : 0 ≤ now) (ho : inQ f hold now port si sp l = ((a, b, c), l')) :
    Calls Try.prog 13 #[.pointer (some ⟨gx, 0, none⟩), .int .u64 now, .int .u16 port, .agg #[.int .u32 si, .int .u16 sp]] w (L2A B lo gx gy ⟨m, f, ip, hold, room, l'⟩ Y (.tuple #[.agg #[.int .u32 a, .int .u16 b], .int .i64 c]) w) := by
  refine (in2 h.t hb h0 ho).mono ?_
  rintro e w' ⟨rfl, ht, t⟩
  exact ⟨rfl, ⟨ht, h.c.tr t⟩, t.below h.t.1⟩
theorem L2.getsx {B gx gy : Nat} {lo : List (Nat × List Value)} {m f ip hold n g iq holdy : Int} {room roomy : Nat} {l l' ly ly' : List Pb} {j : Nat} {p si sp di dp a b c : Int} {w : World} (h : L2 B lo gx gy ⟨m, f, ip, hold, room, l⟩ ⟨n, g, iq, holdy, roomy, ly⟩ w)
    (hb : badO si sp di dp 1 = false) (ho : outP m hold room 1 si sp di dp l = (j, l')) (hp : poAt l' j = p) (hb2 : badI ip p 1 = false) (hi : inQ g holdy 1 dp ip p ly = ((a, b, c), ly')) :
    Calls Try.prog 26 #[.pointer (some ⟨gx, 0, none⟩), .pointer (some ⟨gy, 0, none⟩), .agg #[.int .u32 si, .int .u16 sp], .agg #[.int .u32 di, .int .u16 dp]] w (L2A B lo gx gy ⟨m, f, ip, hold, room, l'⟩ ⟨n, g, iq, holdy, roomy, ly'⟩ (.tuple #[.agg #[.int .u32 ip, .int .u16 p], .bool (c == 0)]) w) := by
  refine (gets_any h.t hb ho hp hb2 hi).mono ?_
  rintro e w' ⟨rfl, ht, t⟩
  exact ⟨rfl, ⟨ht, h.c.tr t⟩, t.below h.t.1⟩
def PairL (B : Nat) (l : List (Nat × List Value)) (m f n g : Int) (w : World) (e : Ending) (w' : World) : Prop :=
  ∃ gx gy, e = .returned (.tuple #[.pointer (some ⟨gx, 0, none⟩), .pointer (some ⟨gy, 0, none⟩), .agg #[.int .u32 1001, .int .u16 20000], .agg #[.int .u32 1002, .int .u16 20000]]) ∧ L2 B l gx gy ⟨m, f, 1001, 100, 8, xOne m 10⟩ ⟨n, g, 1002, 100, 8, xOne n 20⟩ w' ∧ Below w.heap.size w w'
theorem pairL {B : Nat} {l : List (Nat × List Value)} {m f n g : Int} {w : World} (h1 : rightT m f = true) (h2 : rightT n g = true) (hm : m = 0 ∨ m = 1 ∨ m = 2) (hn : n = 0 ∨ n = 1 ∨ n = 2) (hB : B ≤ w.heap.size) (hl : Cl l w) :
    Calls Try.prog 25 #[.agg #[.int .i64 m, .int .i64 f], .agg #[.int .i64 n, .int .i64 g]] w (PairL B l m f n g w) := by
  refine (pair_any h1 h2 hm hn hB (fun k hk => by obtain ⟨x, hx, rfl⟩ := List.mem_map.1 hk; exact (hl x hx).lt)).mono ?_
  rintro e w' ⟨gx, gy, rfl, ht, b⟩
  exact ⟨gx, gy, rfl, ⟨ht, hl.keep b⟩, b⟩
/-- one box and what else the law holds -/
structure L1 (B : Nat) (l : List (Nat × List Value)) (g : Nat) (x : Bx) (w : World) : Prop where
  t : Bo B (l.map (·.1)) g x w
  c : Cl l w
theorem L1.keep {B g : Nat} {l : List (Nat × List Value)} {x : Bx} {w w' : World} (h : L1 B l g x w) (b : Below w.heap.size w w') : L1 B l g x w' := ⟨h.t.keep b, h.c.keep b⟩
theorem L1.alloc {B g : Nat} {l : List (Nat × List Value)} {x : Bx} {w : World} (h : L1 B l g x w) (vs : List Value) (t : TypeId) : L1 B ((w.heap.size, vs) :: l) g x (w.alloc (.cells vs.toArray t)) := ⟨h.t.alloc _, h.c.alloc vs t⟩
theorem L1.sub {B g : Nat} {l l' : List (Nat × List Value)} {x : Bx} {w : World} (h : L1 B l g x w) (hs : ∀ x, x ∈ l' → x ∈ l) : L1 B l' g x w :=
  ⟨h.t.sub (fun k hk => by obtain ⟨x, hx, rfl⟩ := List.mem_map.1 hk; exact List.mem_map.2 ⟨x, hs x hx, rfl⟩), h.c.sub hs⟩
def L1A (B : Nat) (l : List (Nat × List Value)) (g : Nat) (x : Bx) (v : Value) (w : World) (e : Ending) (w' : World) : Prop := e = .returned v ∧ L1 B l g x w' ∧ Below B w w'
theorem L1.of {B g : Nat} {l : List (Nat × List Value)} {x y : Bx} {v : Value} {w w' : World} {e : Ending} (h : L1 B l g x w) (h2 : BoA B (l.map (·.1)) g y v w e w') : L1A B l g y v w e w' := ⟨h2.1, ⟨h2.2.1, h.c.tr h2.2.2⟩, h2.2.2.below h.t.1⟩
theorem L1.outx {B g : Nat} {lo : List (Nat × List Value)} {m f ip hold : Int} {room : Nat} {l l' : List Pb} {j : Nat} {p now si sp di dp : Int} {w : World} (h : L1 B lo g ⟨m, f, ip, hold, room, l⟩ w)
    (hb : badO si sp di dp now = false) (h0 : 0 ≤ now) (ho : outP m hold room now si sp di dp l = (j, l')) (hp : poAt l' j = p) :
    Calls Try.prog 21 #[.pointer (some ⟨g, 0, none⟩), .int .u64 now, .agg #[.int .u32 si, .int .u16 sp], .agg #[.int .u32 di, .int .u16 dp]] w (L1A B lo g ⟨m, f, ip, hold, room, l'⟩ (.tuple #[.agg #[.int .u32 ip, .int .u16 p], .int .i64 0]) w) :=
  (outO h.t hb h0 ho hp).mono fun _ _ h2 => h.of h2
theorem L1.inx {B g : Nat} {lo : List (Nat × List Value)} {m f ip hold : Int} {room : Nat} {l l' : List Pb} {a b c now port si sp : Int} {w : World} (h : L1 B lo g ⟨m, f, ip, hold, room, l⟩ w)
    (hb : badI si sp now = false) (h0 : 0 ≤ now) (ho : inQ f hold now port si sp l = ((a, b, c), l')) :
    Calls Try.prog 13 #[.pointer (some ⟨g, 0, none⟩), .int .u64 now, .int .u16 port, .agg #[.int .u32 si, .int .u16 sp]] w (L1A B lo g ⟨m, f, ip, hold, room, l'⟩ (.tuple #[.agg #[.int .u32 a, .int .u16 b], .int .i64 c]) w) :=
  (inO h.t hb h0 ho).mono fun _ _ h2 => h.of h2
theorem L1.sweepx {B g : Nat} {lo : List (Nat × List Value)} {m f ip hold : Int} {room : Nat} {l : List Pb} {now : Int} {w : World} (h : L1 B lo g ⟨m, f, ip, hold, room, l⟩ w) :
    Calls Try.prog 17 #[.pointer (some ⟨g, 0, none⟩), .int .u64 now] w (L1A B lo g ⟨m, f, ip, hold, room, sweepP now l⟩ (.int .i64 ((l.length : Int) - (sweepP now l).length)) w) :=
  (sweepO h.t).mono fun _ _ h2 => h.of h2
theorem L1.rebindx {B g : Nat} {lo : List (Nat × List Value)} {m f ip0 hold : Int} {room : Nat} {l : List Pb} {ip : Int} {w : World} (hip : ¬ ip = 0) (h : L1 B lo g ⟨m, f, ip0, hold, room, l⟩ w) :
    Calls Try.prog 19 #[.pointer (some ⟨g, 0, none⟩), .int .u32 ip] w (L1A B lo g ⟨m, f, ip, hold, room, []⟩ (.int .i64 0) w) :=
  (rebindO hip h.t).mono fun _ _ h2 => h.of h2
def NewL (B : Nat) (l : List (Nat × List Value)) (x : Bx) (w : World) (e : Ending) (w' : World) : Prop := ∃ g, e = .returned (.tuple #[.pointer (some ⟨g, 0, none⟩), .int .i64 0]) ∧ L1 B l g x w' ∧ Below w.heap.size w w'
theorem newL {B : Nat} {l : List (Nat × List Value)} {m f ip hold : Int} {room : Nat} {w : World} (hB : B ≤ w.heap.size) (hl : Cl l w) (hb : badN m f ip hold room = false) (h0 : 0 ≤ hold) :
    Calls Try.prog 11 #[.agg #[.int .i64 m, .int .i64 f], .int .u32 ip, .int .u64 hold, .int .i64 (room : Nat)] w (NewL B l ⟨m, f, ip, hold, room, []⟩ w) := by
  refine (newO hB (fun k hk => by obtain ⟨x, hx, rfl⟩ := List.mem_map.1 hk; exact (hl x hx).lt) hb h0).mono ?_
  rintro e w' ⟨g, rfl, h, b⟩
  exact ⟨g, rfl, ⟨h, hl.keep b⟩, b⟩
end Go.Proofs.Ytelnfhbccbinlaa
