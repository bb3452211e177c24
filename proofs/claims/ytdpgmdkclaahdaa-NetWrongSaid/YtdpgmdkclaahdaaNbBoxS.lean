/- A box in memory; its drop, Sweep, Rebind, IP, Type, free. -/
import Derived.Test.YtdpgmdkclaahdaaOwn
import Derived.Test.YtdpgmdkclaahdaaNbBoxClos
namespace Go.Proofs.Ytdpgmdkclaahdaa.Nb
open Go.Sort Go.RowKit Go.BigFrame
set_option linter.unusedVariables false
set_option linter.unusedSimpArgs false

/-- the cells of a list of addresses -/
def pr (a : Int × Int) : List Value := [.int .u32 a.1, .int .u16 a.2]
theorem pr_all (l : List (Int × Int)) : ∀ c ∈ l.map pr, c.length = 2 := by
  intro c hc
  obtain ⟨x, _, rfl⟩ := List.mem_map.1 hc
  rfl
/-- what is asked of a box, as plain data -/
structure Okb (hold : Int) (room : Nat) (l : List Pb) : Prop where
  h1 : 1 ≤ hold
  h2 : hold ≤ 1000000
  r1 : 1 ≤ room
  r2 : room ≤ 64
  len : l.length ≤ room
  met : ∀ b ∈ l, b.met.length ≤ 16
  po : ∀ b ∈ l, 20000 ≤ b.po ∧ b.po ≤ 20063
def bcells (m f ip hold : Int) (room : Nat) (v : Sl) : List Value := [.int .i64 m, .int .i64 f, .int .u32 ip, .int .u64 hold, .int .i64 (room : Nat), .slice v.a v.n v.c]
/-- a slice of addresses that somebody owns -/
def ARow (w : World) (v : Value) (l : List (Int × Int)) : Prop := w.ownsRow 0 28 2 v l.length (l.map pr).flatten
/-- a box lies in block g, and all that is its own in blocks of S -/
structure Bs (g : Nat) (S : Nat → Prop) (m f ip hold : Int) (room : Nat) (v : Sl) (L : List Bd) (w : World) : Prop where
  box : Cs g (bcells m f ip hold room v) w
  row : BRow w v.v L
  met : ∀ x ∈ L, ARow w x.2.v x.1.met
  sep : L.Pairwise fun x y => ∀ k, x.2.v.ownBlock = some k → y.2.v.ownBlock ≠ some k
  gS : S g
  vS : ∀ k, v.v.ownBlock = some k → S k ∧ k ≠ g
  mS : ∀ x ∈ L, ∀ k, x.2.v.ownBlock = some k → S k ∧ k ≠ g ∧ v.v.ownBlock ≠ some k
  ok : Okb hold room (L.map (·.1))
section
variable {g : Nat} {S S' F : Nat → Prop} {m f ip hold : Int} {room : Nat} {v : Sl} {L : List Bd} {w w' : World}
theorem Bs.mono (h : Bs g S m f ip hold room v L w) (hS : ∀ k, S k → S' k) : Bs g S' m f ip hold room v L w :=
  ⟨h.box, h.row, h.met, h.sep, hS _ h.gS, fun k hk => ⟨hS _ (h.vS k hk).1, (h.vS k hk).2⟩, fun x hx k hk => ⟨hS _ (h.mS x hx k hk).1, (h.mS x hx k hk).2⟩, h.ok⟩
theorem Bs.touch (h : Bs g S m f ip hold room v L w) (ht : Touch F w w') (hF : ∀ k, S k → ¬ F k) : Bs g S m f ip hold room v L w' :=
  ⟨h.box.touch ht (hF _ h.gS), brow_touch h.row ht (fun k hk => hF k (h.vS k hk).1), fun x hx => own_touch (h.met x hx) ht (fun k hk => hF k (h.mS x hx k hk).1), h.sep, h.gS, h.vS, h.mS, h.ok⟩
theorem Bs.keep (h : Bs g S m f ip hold room v L w) (hb : Below w.heap.size w w') : Bs g S m f ip hold room v L w' := h.touch (Touch.of_below (fun _ => False) hb) (fun _ _ h => h)
theorem Bs.len (h : Bs g S m f ip hold room v L w) : L.length ≤ room := by simpa using h.ok.len
theorem Bs.form (h : Bs g S m f ip hold room v L w) : v.n = L.length ∧ (v = ⟨none, 0, 0⟩ ∨ ∃ b, v.a = some ⟨b, 0, none⟩ ∧ b < w.heap.size) := by
  obtain ⟨a, n, c⟩ := v
  rcases brow_form h.row with ⟨h1, h2⟩ | ⟨b, cap, h1, h2⟩
  · simp [Sl.v] at h1
    obtain ⟨rfl, rfl, rfl⟩ := h1
    exact ⟨by rw [h2]; rfl, .inl rfl⟩
  · simp [Sl.v] at h1
    obtain ⟨rfl, rfl, rfl⟩ := h1
    exact ⟨rfl, .inr ⟨b, rfl, h2⟩⟩
end
theorem Okb.sub {hold : Int} {room : Nat} {l l' : List Pb} (h : Okb hold room l) (hl : l'.length ≤ l.length) (hm : ∀ b ∈ l', b ∈ l) : Okb hold room l' :=
  ⟨h.h1, h.h2, h.r1, h.r2, Nat.le_trans hl h.len, fun b hb => h.met b (hm b hb), fun b hb => h.po b (hm b hb)⟩
def DropPost (p : Pb → Bool) (g : Nat) (S : Nat → Prop) (m f ip hold : Int) (room : Nat) (L : List Bd) (w : World) (e : Ending) (w' : World) : Prop :=
  e = .returned (.int .i64 ((L.length : Int) - (keepL p L).length)) ∧ (∃ v', Bs g S m f ip hold room v' (keepL p L) w') ∧ Touch S w w'
set_option maxHeartbeats 1600000 in
theorem dropF_any (N : Nat) (hN : Enters N) (caps : Array Value) (p : Pb → Bool) (g : Nat) (S : Nat → Prop) (m f ip hold : Int) (room : Nat) (v : Sl) (L : List Bd) (w : World) (h : Bs g S m f ip hold room v L w)
    (hc : ∀ x, x ∈ L → ∀ w', Touch S w w' → Calls Try.prog N (#[.agg #[.int .u32 x.1.ii, .int .u16 x.1.ip, .int .u32 x.1.ki, .int .u16 x.1.kp, .int .u16 x.1.po, .slice x.2.a x.2.n x.2.c, .int .u64 x.1.un]] ++ caps) w' fun e w'' => e = .returned (.bool (p x.1)) ∧ Below w'.heap.size w' w'') :
    Calls Try.prog 51 #[.pointer (some ⟨g, 0, none⟩), .func (.func N) #[] caps] w (DropPost p g S m f ip hold room L w) := by
  have hlen := h.len
  have hr2 := h.ok.r2
  have hn := h.form.1
  obtain ⟨a, n, c⟩ := v
  simp only at hn
  subst hn
  have hvS := h.vS
  have D := delF_any N hN caps p a c L (by omega) w h.row (fun x hx w' ht => hc x hx w' (ht.mono (fun k _ hk => (hvS k (own_eq hk)).1)))
  have kl := keep_len p L
  generalize hK : (keepL p L).length = KL at *
  have x5 := h.box.cell 5 _ rfl
  have gl := h.box.lt
  have HB := Lib.hid h
  have HK := Lib.hid hK
  have hl2 : (L.length : Int) ≤ 64 := by omega
  have hk2 : (KL : Int) ≤ L.length := by omega
  clear h hc hvS hK
  go_enter Try.func51, Try.ntmps51
  go_wp2_with fail
  refine D.mono ?_; rintro e w1 ⟨rfl, hrow, ht⟩
  have X := HB.out.box.touch ht (fun hk => (HB.out.vS _ (own_eq hk)).2 rfl)
  have y5 := X.cell 5 _ rfl
  have yf := X.free 5 _ rfl
  have yl := X.lt
  have HT := Lib.hid ht
  have HR := Lib.hid hrow
  have HX := Lib.hid X
  clear x5 ht hrow D X
  rw [HK.out]
  go_wp2_with fail
  go_ret
  have tB : Touch S w w1 := HT.out.mono (fun k _ hk => (HB.out.vS k (own_eq hk)).1)
  have tS : Touch (fun k => k = g) w1 (w1.setCell ⟨g, 5, none⟩ (.slice a KL c)) := Touch.set (F := fun k => k = g) (Touch.refl _ w1) (fun _ => rfl) _
  refine ⟨by rw [HK.out]; rfl, ⟨⟨a, KL, c⟩, ?_⟩, tB.set (fun _ => HB.out.gS) _⟩
  have sub : ∀ x ∈ keepL p L, x ∈ L := fun x hx => (List.mem_filter.1 hx).1
  refine ⟨?_, ?_, fun x hx => ?_, ?_, HB.out.gS, fun k hk => HB.out.vS k (own_eq hk), fun x hx k hk => ⟨(HB.out.mS x (sub x hx) k hk).1, (HB.out.mS x (sub x hx) k hk).2.1, fun e => (HB.out.mS x (sub x hx) k hk).2.2 (own_eq e)⟩, ?_⟩
  · exact HX.out.set 5 (.slice a KL c) (by simp [bcells])
  · have h1 := HR.out
    rw [HK.out] at h1
    exact brow_touch h1 tS (fun k hk e => (HB.out.vS k (own_eq hk)).2 e)
  · refine own_touch (own_touch (HB.out.met x (sub x hx)) HT.out (fun k hk hv => (HB.out.mS x (sub x hx) k hk).2.2 (own_eq hv))) tS (fun k hk e => (HB.out.mS x (sub x hx) k hk).2.1 e)
  · exact HB.out.sep.sublist List.filter_sublist
  · refine HB.out.ok.sub ?_ ?_
    · simpa using keep_len p L
    · intro b hb
      obtain ⟨x, hx, rfl⟩ := List.mem_map.1 hb
      exact List.mem_map.2 ⟨x, sub x hx, rfl⟩
def SweepPost (now : Int) (g : Nat) (S : Nat → Prop) (m f ip hold : Int) (room : Nat) (L : List Bd) (w : World) (e : Ending) (w' : World) : Prop := DropPost (goneP now) g S m f ip hold room L w e w'
theorem sweep_any (now : Int) (g : Nat) (S : Nat → Prop) (m f ip hold : Int) (room : Nat) (v : Sl) (L : List Bd) (w : World) (h : Bs g S m f ip hold room v L w) (hS : ∀ k, S k → k < w.heap.size) :
    Calls Try.prog 56 #[.pointer (some ⟨g, 0, none⟩), .int .u64 now] w (SweepPost now g S m f ip hold room L w) := by
  have X := Cs.new w [.int .u64 now] 36
  have h2 := h.keep ((Below.refl _ _).alloc (Nat.le_refl _) (.cells #[.int .u64 now] 36))
  have D := dropF_any _ enters_sweep #[.pointer (some ⟨w.heap.size, 0, none⟩)] (goneP now) g S m f ip hold room v L _ h2 (fun x hx w' ht => sweepC_any x now w.heap.size w' (X.touch ht (fun hk => Nat.lt_irrefl _ (hS _ hk))))
  clear X h2 h hS
  go_enter Try.func56, Try.ntmps56
  go_wp2_with fail
  refine D.mono ?_; rintro e w1 ⟨rfl, hb, ht⟩
  have HB := Lib.hid hb
  have HT := Lib.hid ht
  clear hb ht D
  go_wp2_with fail
  go_ret
  exact ⟨rfl, HB.out, ((Touch.refl S w).alloc _).trans HT.out (fun _ _ h => h)⟩
end Go.Proofs.Ytdpgmdkclaahdaa.Nb