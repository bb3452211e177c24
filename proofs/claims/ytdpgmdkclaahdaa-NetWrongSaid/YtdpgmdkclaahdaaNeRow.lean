/- A net in memory: its struct, its hosts, its boxes, its bag are holdings. -/
import Derived.Test.YtdpgmdkclaahdaaNbBoxOne
import Derived.Test.YtdpgmdkclaahdaaBgBagTwice
import Derived.Test.YtdpgmdkclaahdaaHold
import Derived.Test.YtdpgmdkclaahdaaERow
namespace Go.Proofs.Ytdpgmdkclaahdaa.Ne
open Go.Sort Go.RowKit Go.BigFrame
set_option linter.unusedVariables false
set_option linter.unusedSimpArgs false

/-- a host: its Inner, its box -/
structure Ho where
  i : Int
  p : Int
  b : Int
deriving DecidableEq
/-- how a box is to be -/
structure Sp where
  m : Int
  f : Int
  ip : Int
  hold : Int
  room : Int
/-- a net -/
structure Nt where
  hs : List Ho
  bs : List Nb.Bx
  room : Nat
  l : List Bg.Pi
def cho (h : Ho) : List Value := [.int .u32 h.i, .int .u16 h.p, .int .i64 h.b]
def csp (s : Sp) : List Value := [.int .i64 s.m, .int .i64 s.f, .int .u32 s.ip, .int .u64 s.hold, .int .i64 s.room]
def cpt (g : Nat) : List Value := [.pointer (some ⟨g, 0, none⟩)]
theorem cho_enc : Enc cho 3 := ⟨by decide, fun _ => rfl, fun x u hu => by
  simp only [cho, List.mem_cons, List.not_mem_nil, or_false] at hu
  rcases hu with rfl | rfl | rfl <;> rfl⟩
theorem csp_enc : Enc csp 5 := ⟨by decide, fun _ => rfl, fun x u hu => by
  simp only [csp, List.mem_cons, List.not_mem_nil, or_false] at hu
  rcases hu with rfl | rfl | rfl | rfl | rfl <;> rfl⟩
theorem cpt_enc : Enc cpt 1 := ⟨by decide, fun _ => rfl, fun x u hu => by
  simp only [cpt, List.mem_cons, List.not_mem_nil, or_false] at hu
  rcases hu with rfl; rfl⟩
/-- where the first is of whom it is so, from 1 on; 0: nowhere -/
def numP {α : Type} (p : α → Bool) (L : List α) : Nat := match L.findIdx? p with | some j => j + 1 | none => 0
def hostP (hs : List Ho) (i p b : Int) : Nat := numP (fun h => decide (h.i = i) && decide (h.p = p) && decide (h.b = b)) hs
def boxP (bs : List Nb.Bx) (ip : Int) : Nat := numP (fun b => decide (b.ip = ip)) bs
def hostsP (hs : List Ho) (ip : Int) : Bool := hs.any fun h => decide (h.i = ip)
def boxesP (bs : List Nb.Bx) (ip : Int) : Bool := bs.any fun b => decide (b.ip = ip)
/-- may these be the hosts, of so many boxes -/
def oneH (k : Int) (h : Ho) : Bool := !Bg.noneA h.i h.p && decide (0 ≤ h.b) && decide (h.b ≤ k)
def freshH (hs : List Ho) (h : Ho) : Bool := !hs.any fun x => decide (x.i = h.i) && decide (x.p = h.p)
def allH (k : Int) : List Ho → List Ho → Bool
  | _, [] => true
  | pre, h :: l => oneH k h && freshH pre h && allH k (pre ++ [h]) l
def rightH (hs : List Ho) (k : Int) : Bool := decide (1 ≤ hs.length) && decide (hs.length ≤ 32) && allH k [] hs
/-- the boxes that are made of these -/
def bxOf (s : Sp) : Nb.Bx := ⟨s.m, s.f, s.ip, s.hold, s.room.toNat, []⟩
def badS (hs : List Ho) (bs : List Nb.Bx) (s : Sp) : Bool := Nb.badN s.m s.f s.ip s.hold s.room || (hostsP hs s.ip || boxesP bs s.ip)
def addS (hs : List Ho) : List Nb.Bx → List Sp → Option (List Nb.Bx)
  | bs, [] => some bs
  | bs, s :: l => if badS hs bs s then none else addS hs (bs ++ [bxOf s]) l
def newN (hs : List Ho) (sp : List Sp) (room : Int) : Option Nt :=
  if (decide (room < 1) || decide (256 < room)) || (decide (16 < sp.length) || !rightH hs sp.length) then none
  else (addS hs [] sp).map fun bs => ⟨hs, bs, room.toNat, []⟩
/-- what comes from where -/
def setB (n : Nt) (j : Nat) (x : Nb.Bx) : Nt := { n with bs := n.bs.set j x }
def srcB (x : Nb.Bx) (now si sp di dp : Int) : Int × Nb.Bx :=
  (Nb.poAt (Nb.outP x.m x.hold x.room now si sp di dp x.l).2 (Nb.outP x.m x.hold x.room now si sp di dp x.l).1, ⟨x.m, x.f, x.ip, x.hold, x.room, (Nb.outP x.m x.hold x.room now si sp di dp x.l).2⟩)
def srcP (n : Nt) (now : Int) (h : Ho) (di dp : Int) : (Int × Int) × Nt :=
  if h.b = 0 then ((h.i, h.p), n) else match n.bs[(h.b - 1).toNat]? with
  | some x => ((x.ip, (srcB x now h.i h.p di dp).1), setB n (h.b - 1).toNat (srcB x now h.i h.p di dp).2)
  | none => ((0, 0), n)
def injP (n : Nt) (now fi fp ti tp : Int) (b : ByteArray) : Int × Nt :=
  if 4611686018427387904 < now then (1, n) else (Bg.putE n.room ⟨fi, fp, ti, tp, b, now + 1⟩ n.l, { n with l := Bg.putL n.room ⟨fi, fp, ti, tp, b, now + 1⟩ n.l })
def sendP (n : Nt) (now host ti tp : Int) (b : ByteArray) : Int × Nt :=
  if (decide (host < 1) || decide ((n.hs.length : Int) < host)) || (Bg.noneA ti tp || decide (4611686018427387904 < now)) then (1, n)
  else match n.hs[(host - 1).toNat]? with
  | some h => injP (srcP n now h ti tp).2 now (srcP n now h ti tp).1.1 (srcP n now h ti tp).1.2 ti tp b
  | none => (1, n)
/-- where it arrives -/
def inB (x : Nb.Bx) (now port si sp : Int) : (Int × Int × Int) × Nb.Bx :=
  if Nb.badI si sp now then ((0, 0, 1), x) else ((Nb.inQ x.f x.hold now port si sp x.l).1, ⟨x.m, x.f, x.ip, x.hold, x.room, (Nb.inQ x.f x.hold now port si sp x.l).2⟩)
def arrB (n : Nt) (j : Nat) (r : (Int × Int × Int) × Nb.Bx) : Nat × Nt := (if r.1.2.2 = 0 then hostP n.hs r.1.1 r.1.2.1 ((j : Int) + 1) else 0, setB n j r.2)
def arrP (n : Nt) (now : Int) (x : Bg.Pi) : Nat × Nt :=
  if hostP n.hs x.ti x.tp 0 ≠ 0 then (hostP n.hs x.ti x.tp 0, n)
  else match boxP n.bs x.ti with
  | 0 => (0, n)
  | j + 1 => match n.bs[j]? with
    | some b => arrB n j (inB b now x.tp x.fi x.fp)
    | none => (0, n)
/-- what Deliver tells: the host, from where, the bytes, the error -/
def delE (n : Nt) (now pick : Int) : Int := (Bg.pickE now pick n.l).2
def tkN (n : Nt) (now pick : Int) : Nt := { n with l := Bg.takeL now pick n.l }
def delP (n : Nt) (now pick : Int) : Nat × Nt := if delE n now pick = 0 then arrP (tkN n now pick) now (Bg.takeX now pick n.l) else (0, n)
def dropP (n : Nt) (pick : Int) : Nt := tkN n 18446744073709551615 pick
def twiceP (n : Nt) (pick : Int) : Nt := { n with l := Bg.twiceL n.room pick n.l }
def delayP (n : Nt) (pick by_ : Int) : Nt := { n with l := Bg.delayL pick by_ n.l }
def others (bs : List Nb.Bx) (j : Nat) : List Nb.Bx := bs.take j ++ bs.drop (j + 1)
def rebP (n : Nt) (box ip : Int) : Int × Nt :=
  if decide (box < 1) || decide ((n.bs.length : Int) < box) then (5, n)
  else if hostsP n.hs ip || boxesP (others n.bs (box - 1).toNat) ip then (1, n)
  else if ip = 0 then (1, n)
  else match n.bs[(box - 1).toNat]? with
  | some x => (0, setB n (box - 1).toNat ⟨x.m, x.f, ip, x.hold, x.room, []⟩)
  | none => (5, n)
/-- what a net keeps -/
def OkH (n : Nt) : Prop := ∀ h ∈ n.hs, Bg.noneA h.i h.p = false ∧ 0 ≤ h.b ∧ h.b ≤ n.bs.length
structure OkN (n : Nt) : Prop where
  hl : n.hs.length ≤ 32
  bl : n.bs.length ≤ 16
abbrev ptr (g : Nat) : Value := .pointer (some ⟨g, 0, none⟩)
def hW {α : Type} (c : α → List Value) (z : Nat) (T : TypeId) (u : Sl) (L : List α) : Hl := ⟨fun w => ERow c z T w u.v L, fun b => u.v.ownBlock = some b, fun h ht hF => erow_touch h ht hF, fun h b hb => erow_lt h hb⟩
/-- a box in memory: where it stands, what is its own -/
structure Bb where
  g : Nat
  S : Nat → Prop
  x : Nb.Bx
abbrev no (k : Nat) : Prop := False
theorem b1_lt {g : Nat} {S : Nat → Prop} {x : Nb.Bx} {w : World} (h : Nb.B1 0 no g x S w) : ∀ k, S k → k < w.heap.size := by
  obtain ⟨_, _, _, _, h3⟩ := h
  exact fun k hk => (h3 k hk).2.1
theorem b1_g {g : Nat} {S : Nat → Prop} {x : Nb.Bx} {w : World} (h : Nb.B1 0 no g x S w) : S g := by
  obtain ⟨_, _, h1, _⟩ := h
  exact h1.gS
def hX (b : Bb) : Hl := ⟨fun w => Nb.B1 0 no b.g b.x b.S w, b.S, fun h ht hF => h.touch ht hF, fun h => b1_lt h⟩
def hG (u room : Nat) (v : Sl) (L : List Bg.Pi) : Hl := ⟨fun w => Bg.Bs true u room v L w, Bg.OwnS u v, fun h ht hF => h.touch ht hF, fun h => h.lt⟩
def ncs (hv bv : Sl) (u : Nat) : List Value := [.slice hv.a hv.n hv.c, .slice bv.a bv.n bv.c, ptr u]
/-- where it all stands: that does not turn -/
structure Mem where
  g : Nat
  u : Nat
  hv : Sl
  bv : Sl
  gs : List Nat
def net (m : Mem) (uv : Sl) (bb : List Bb) (n : Nt) : List Hl :=
  hC m.g (ncs m.hv m.bv m.u) :: hW cho 3 34 m.hv n.hs :: hW cpt 1 60 m.bv m.gs :: hG m.u n.room uv n.l :: bb.map hX
/-- a net; holdings beside -/
def NN (w0 : World) (m : Mem) (H : List Hl) (n : Nt) (w : World) : Prop :=
  ∃ (uv : Sl) (bb : List Bb), bb.map Bb.g = m.gs ∧ bb.map Bb.x = n.bs ∧ OkN n ∧ St w0 (net m uv bb n ++ H) w
section
variable {w0 w w' : World} {m : Mem} {H H' : List Hl} {n n' : Nt} {k : Hl}
theorem NN.keep (h : NN w0 m H n w) (hb : Below w.heap.size w w') : NN w0 m H n w' := by
  obtain ⟨uv, bb, h1, h2, h3, h4⟩ := h
  exact ⟨uv, bb, h1, h2, h3, h4.keep hb⟩
theorem NN.drew (h : NN w0 m H n w) : NN w0 m H n w.drew := h.keep (Below.refl _ _).drew
theorem NN.ok (h : NN w0 m H n w) : OkN n := by
  obtain ⟨uv, bb, h1, h2, h3, h4⟩ := h
  exact h3
theorem NN.lenB (h : NN w0 m H n w) : m.gs.length = n.bs.length := by
  obtain ⟨uv, bb, h1, h2, h3, h4⟩ := h
  rw [← h1, ← h2, List.length_map, List.length_map]
theorem NN.below (h : NN w0 m H n w) : Below w0.heap.size w0 w := by
  obtain ⟨uv, bb, h1, h2, h3, h4⟩ := h
  exact h4.below
theorem NN.sub (h : NN w0 m H n w) (hs : H'.Sublist H) : NN w0 m H' n w := by
  obtain ⟨uv, bb, h1, h2, h3, h4⟩ := h
  exact ⟨uv, bb, h1, h2, h3, h4.sub ((List.Sublist.refl _).append hs)⟩
theorem NN.drop (h : NN w0 m (k :: H) n w) : NN w0 m H n w := h.sub (List.sublist_cons_self _ _)
theorem NN.perm (h : NN w0 m H n w) (hp : H'.Perm H) : NN w0 m H' n w := by
  obtain ⟨uv, bb, h1, h2, h3, h4⟩ := h
  exact ⟨uv, bb, h1, h2, h3, h4.perm (hp.append_left _)⟩
theorem NN.hold (h : NN w0 m H n w) (hk : k ∈ H) : k.P w := by
  obtain ⟨uv, bb, h1, h2, h3, h4⟩ := h
  exact h4.get (List.mem_append_right _ hk)
theorem NN.more (h : NN w0 m H n w) (hb : Below w.heap.size w w') (hP : k.P w') (ho : ∀ b, k.own b → w.heap.size ≤ b) : NN w0 m (k :: H) n w' := by
  obtain ⟨uv, bb, h1, h2, h3, h4⟩ := h
  exact ⟨uv, bb, h1, h2, h3, (h4.more hb hP ho).perm List.perm_middle⟩
theorem NN.new (h : NN w0 m H n w) (vs : List Value) (T : TypeId) : NN w0 m (hC w.heap.size vs :: H) n (w.alloc (.cells vs.toArray T)) :=
  h.more (k := hC w.heap.size vs) ((Below.refl _ w).alloc (Nat.le_refl _) _) (Cs.new w vs T) (fun b hb => by rw [show b = w.heap.size from hb]; exact Nat.le_refl _)
theorem NN.cs {b : Nat} {vs : List Value} (h : NN w0 m H n w) (hm : hC b vs ∈ H) : Cs b vs w := h.hold hm
theorem NN.setc {b : Nat} {vs : List Value} (H1 H2 : List Hl) (h : NN w0 m (H1 ++ hC b vs :: H2) n w) (i : Nat) (v : Value) (hi : i < vs.length) : NN w0 m (H1 ++ hC b (vs.set i v) :: H2) n (w.setCell ⟨b, i, none⟩ v) := by
  obtain ⟨uv, bb, h1, h2, h3, h4⟩ := h
  rw [← List.append_assoc] at h4
  have := h4.setc (net m uv bb n ++ H1) H2 i v hi
  rw [List.append_assoc] at this
  exact ⟨uv, bb, h1, h2, h3, this⟩
/-- .. all of it, but the bag -/
theorem NN.open2 (h : NN w0 m H n w) : ∃ (bb : List Bb), Cs m.g [.slice m.hv.a n.hs.length m.hv.c, .slice m.bv.a bb.length m.bv.c, ptr m.u] w ∧ RdE cho 3 w m.hv.a n.hs ∧ RdE (fun b : Bb => cpt b.g) 1 w m.bv.a bb ∧ (∀ b ∈ bb, Nb.B1 0 no b.g b.x b.S w) ∧ bb.map Bb.g = m.gs ∧ bb.map Bb.x = n.bs ∧ bb.Pairwise fun b c => b.g ≠ c.g := by
  obtain ⟨uv, bb, h1, h2, h3, h4⟩ := h
  have hx : Cs m.g (ncs m.hv m.bv m.u) w := h4.get (h := hC m.g (ncs m.hv m.bv m.u)) (by simp [net])
  have hr : ERow cho 3 34 w m.hv.v n.hs := h4.get (h := hW cho 3 34 m.hv n.hs) (by simp [net])
  have hp : ERow cpt 1 60 w m.bv.v m.gs := h4.get (h := hW cpt 1 60 m.bv m.gs) (by simp [net])
  have e1 := erow_n hr
  have e2 := erow_n hp
  rw [← h1, List.length_map] at e2
  have hb : ∀ b ∈ bb, Nb.B1 0 no b.g b.x b.S w := fun b hb => h4.get (h := hX b) (by simp only [net, List.cons_append, List.mem_cons, List.mem_append, List.mem_map]; exact .inr (.inr (.inr (.inr (.inl ⟨b, hb, rfl⟩)))))
  refine ⟨bb, ?_, erow_rd cho_enc (n := m.hv.n) (cap := m.hv.c) hr, ?_, hb, h1, h2, ?_⟩
  · unfold ncs at hx
    rw [e1, e2] at hx; exact hx
  · have := erow_rd cpt_enc (n := m.bv.n) (cap := m.bv.c) hp
    rw [← h1] at this
    exact fun hp => by
      obtain ⟨b, off, h1, h2, h3⟩ := this (by simpa using hp)
      exact ⟨b, off, h1, h2, fun i x hx k u hu => h3 i x.g (by rw [List.getElem?_map, hx]; rfl) k u hu⟩
  · have hap := h4.apart
    unfold net at hap
    rw [List.cons_append, List.cons_append, List.cons_append, List.cons_append] at hap
    have ha := (List.pairwise_append.1 (List.pairwise_cons.1 (List.pairwise_cons.1 (List.pairwise_cons.1 (List.pairwise_cons.1 hap).2).2).2).2).1
    rw [List.pairwise_map] at ha
    refine ha.imp_of_mem (fun {b c} hb' hc' h e => ?_)
    exact h b.g (b1_g (hb b hb')) (by rw [e]; exact b1_g (hb c hc'))
/-- the net's own cells -/
theorem NN.cells (h : NN w0 m H n w) : Cs m.g [.slice m.hv.a n.hs.length m.hv.c, .slice m.bv.a n.bs.length m.bv.c, ptr m.u] w ∧ RdE cho 3 w m.hv.a n.hs ∧ RdE cpt 1 w m.bv.a m.gs := by
  obtain ⟨bb, h1, h2, h3, -, h4, h5, -⟩ := h.open2
  refine ⟨by rw [← h5, List.length_map]; exact h1, h2, ?_⟩
  rw [← h4]
  exact fun hp => by
    obtain ⟨b, off, h1, h2, h3⟩ := h3 (by simpa using hp)
    refine ⟨b, off, h1, h2, fun i x hx k u hu => ?_⟩
    rw [List.getElem?_map, Option.map_eq_some_iff] at hx
    obtain ⟨y, hy, rfl⟩ := hx
    exact h3 i y hy k u hu
theorem NN.ph (h : NN w0 m H n w) : w.cell? ⟨m.g, 0, none⟩ = some (.slice m.hv.a n.hs.length m.hv.c) := h.cells.1.cell 0 _ rfl
theorem NN.pb (h : NN w0 m H n w) : w.cell? ⟨m.g, 1, none⟩ = some (.slice m.bv.a n.bs.length m.bv.c) := h.cells.1.cell 1 _ rfl
theorem NN.pu (h : NN w0 m H n w) : w.cell? ⟨m.g, 2, none⟩ = some (ptr m.u) := h.cells.1.cell 2 _ rfl
theorem NN.glt (h : NN w0 m H n w) : m.g < w.heap.size := h.cells.1.lt
/-- the box of a number -/
theorem NN.at_ (h : NN w0 m H n w) {j : Nat} {q : Nat} (hj : m.gs[j]? = some q) : ∃ x, n.bs[j]? = some x ∧ ∃ S, Nb.B1 0 no q x S w := by
  obtain ⟨uv, bb, h1, h2, h3, h4⟩ := h
  rw [← h1, List.getElem?_map, Option.map_eq_some_iff] at hj
  obtain ⟨b, hb, rfl⟩ := hj
  refine ⟨b.x, by rw [← h2, List.getElem?_map, hb]; rfl, b.S, ?_⟩
  exact h4.get (h := hX b) (by simp only [net, List.cons_append, List.mem_cons, List.mem_append, List.mem_map]; exact .inr (.inr (.inr (.inr (.inl ⟨b, List.mem_of_getElem? hb, rfl⟩)))))
/-- a box was turned -/
theorem NN.box (h : NN w0 m H n w) {j : Nat} {q : Nat} {x' : Nb.Bx} (hj : m.gs[j]? = some q)
    (P : Ending → World → Prop) (f : FuncId) (args : Array Value)
    (hc : ∀ x S, n.bs[j]? = some x → Nb.B1 0 no q x S w → Calls Try.prog f args w fun e w' => P e w' ∧ Nb.Aft 0 no q x' S w w') :
    Calls Try.prog f args w fun e w' => P e w' ∧ NN w0 m H (setB n j x') w' := by
  obtain ⟨uv, bb, h1, h2, h3, h4⟩ := h
  have hj2 := hj
  rw [← h1, List.getElem?_map, Option.map_eq_some_iff] at hj2
  obtain ⟨b, hb, rfl⟩ := hj2
  obtain ⟨hlt, hbj⟩ := List.getElem?_eq_some_iff.1 hb
  have eb : bb = bb.take j ++ b :: bb.drop (j + 1) := by
    rw [← hbj, List.getElem_cons_drop, List.take_append_drop]
  have hB : Nb.B1 0 no b.g b.x b.S w := h4.get (h := hX b) (by simp only [net, List.cons_append, List.mem_cons, List.mem_append, List.mem_map]; exact .inr (.inr (.inr (.inr (.inl ⟨b, List.mem_of_getElem? hb, rfl⟩)))))
  refine (hc b.x b.S (by rw [← h2, List.getElem?_map, hb]; rfl) hB).mono ?_
  rintro e w' ⟨hP, S', hb1, ht, hn⟩
  refine ⟨hP, uv, bb.take j ++ ⟨b.g, S', x'⟩ :: bb.drop (j + 1), ?_, ?_, ⟨h3.hl, ?_⟩, ?_⟩
  · rw [← h1]; conv => rhs; rw [eb]
    simp
  · show _ = n.bs.set j x'
    rw [← h2, List.set_eq_take_append_cons_drop, if_pos (by simpa using hlt)]
    simp
  · have := h3.bl
    simpa [setB] using this
  · have s := h4
    have e1 : net m uv bb n ++ H = (hC m.g (ncs m.hv m.bv m.u) :: hW cho 3 34 m.hv n.hs :: hW cpt 1 60 m.bv m.gs :: hG m.u n.room uv n.l :: (bb.take j).map hX) ++ hX b :: ((bb.drop (j + 1)).map hX ++ H) := by
      unfold net
      conv => lhs; arg 1; arg 2; arg 2; arg 2; arg 2; rw [eb]
      simp
    rw [e1] at s
    have s2 := s.aft (h' := hX ⟨b.g, S', x'⟩) ht hb1 hn
    have e2 : net m uv (bb.take j ++ ⟨b.g, S', x'⟩ :: bb.drop (j + 1)) (setB n j x') ++ H = (hC m.g (ncs m.hv m.bv m.u) :: hW cho 3 34 m.hv n.hs :: hW cpt 1 60 m.bv m.gs :: hG m.u n.room uv n.l :: (bb.take j).map hX) ++ hX ⟨b.g, S', x'⟩ :: ((bb.drop (j + 1)).map hX ++ H) := by
      unfold net
      simp [setB]
    rw [e2]; exact s2
/-- the bag was turned -/
theorem NN.bag (h : NN w0 m H n w) {L' : List Bg.Pi} (P : Ending → World → Prop) (f : FuncId) (args : Array Value)
    (hc : ∀ uv, Bg.Bs true m.u n.room uv n.l w → Calls Try.prog f args w fun e w' => P e w' ∧ Bg.Aft true m.u n.room uv L' w w') :
    Calls Try.prog f args w fun e w' => P e w' ∧ NN w0 m H { n with l := L' } w' := by
  obtain ⟨uv, bb, h1, h2, h3, h4⟩ := h
  have hB : Bg.Bs true m.u n.room uv n.l w := h4.get (h := hG m.u n.room uv n.l) (by simp [net])
  refine (hc uv hB).mono ?_
  rintro e w' ⟨hP, uv', hb1, ht, hn⟩
  refine ⟨hP, uv', bb, h1, h2, ⟨h3.hl, h3.bl⟩, ?_⟩
  have s2 := h4
  exact St.aft (H1 := [hC m.g (ncs m.hv m.bv m.u), hW cho 3 34 m.hv n.hs, hW cpt 1 60 m.bv m.gs]) (H2 := bb.map hX ++ H) (h := hG m.u n.room uv n.l) (h' := hG m.u n.room uv' L') s2 ht hb1 hn
theorem NN.bagged (h : NN w0 m H n w) : ∃ uv, Bg.Bs true m.u n.room uv n.l w := by
  obtain ⟨uv, bb, h1, h2, h3, h4⟩ := h
  exact ⟨uv, h4.get (h := hG m.u n.room uv n.l) (by simp [net])⟩
end
end Go.Proofs.Ytdpgmdkclaahdaa.Ne
