/- Contracts of the news: are they right, how they are put. -/
import Derived.Test.YtmhlnlippfaclaaDoorWireSmall
import Derived.Test.YtmhlnlippfaclaaDoorRecPut
import Derived.Outline
namespace Go.Proofs.YtmhlnlippfaclaaDoor
open Go.Sort Go.RowKit Go.BigFrame
set_option linter.unusedVariables false
set_option linter.unusedSimpArgs false

/-- a slice of records that can be read: it is 'rs', and lies below block B -/
def RdR (w : World) (B : Nat) (a : Option Addr) (rs : List Rec) : Prop :=
  0 < rs.length → ∃ b off, a = some ⟨b, off, none⟩ ∧ b < B ∧ ∀ i (h : i < rs.length), w.cell? ⟨b, off + i * 5, none⟩ = some (.int .i64 rs[i].id) ∧ w.cell? ⟨b, off + i * 5 + 1, none⟩ = some (.int .i64 rs[i].st) ∧
    w.cell? ⟨b, off + i * 5 + 2, none⟩ = some (.int .u32 rs[i].n) ∧ w.cell? ⟨b, off + i * 5 + 3, none⟩ = some (.int .u32 rs[i].ip) ∧ w.cell? ⟨b, off + i * 5 + 4, none⟩ = some (.int .u16 rs[i].port)
theorem RdR.nil (w : World) (B : Nat) (a : Option Addr) : RdR w B a [] := fun h => absurd h (by simp)
theorem RdR.below {w w' : World} {B : Nat} {a : Option Addr} {rs : List Rec} (h : RdR w B a rs) (hb : Below B w w') : RdR w' B a rs := fun hp => by
  obtain ⟨b, off, rfl, hB, hc⟩ := h hp
  refine ⟨b, off, rfl, hB, fun i hi => ?_⟩
  obtain ⟨c0, c1, c2, c3, c4⟩ := hc i hi
  have e := fun o => hb.cell (p := ⟨b, o, none⟩) hB
  exact ⟨(e _).trans c0, (e _).trans c1, (e _).trans c2, (e _).trans c3, (e _).trans c4⟩
theorem RdR.more {w : World} {B B' : Nat} {a : Option Addr} {rs : List Rec} (h : RdR w B a rs) (hB : B ≤ B') : RdR w B' a rs := fun hp => by
  obtain ⟨b, off, rfl, hb, hc⟩ := h hp
  exact ⟨b, off, rfl, by omega, hc⟩
def OkAll (rs : List Rec) : Prop := ∀ r ∈ rs, r.Ok

theorem notRight_any (r : Rec) (hr : r.Ok) (w : World) : Calls Tryd.prog 48 #[.agg #[.int .i64 r.id, .int .i64 r.st, .int .u32 r.n, .int .u32 r.ip, .int .u16 r.port]] w fun e w' => e = .returned (.bool (!r.right)) ∧ Below w.heap.size w w' := by
  have R := right_any r.id r.st r.n r.ip r.port hr.ip hr.port
  have e : rightI r.id r.st r.ip r.port = r.right := rfl
  rw [e] at R
  generalize r.right = b at *
  go_enter Tryd.func48, Tryd.ntmps48
  go_wp2_with fail
  refine (R _).mono ?_; rintro e w1 ⟨rfl, b1⟩
  go_wp2
  go_ret
  exact ⟨rfl, by (have zz0 := Below.size b1; (try simp at zz0); repeat (first | with_reducible exact Below.refl _ _ | with_reducible refine Below.drew ?_ | with_reducible refine below_drewN ?_ _ | with_reducible refine Below.alloc ?_ (by first | omega | (simp; done) | (simp; omega)) _ | with_reducible refine Below.setCell ?_ (by first | omega | (simp; done) | (simp; omega)) _ | (with_reducible refine Below.trans ?_ (Below.mono b1 (by first | omega | (simp; done) | (simp; omega))))))⟩
def NewsJ (w : World) (rs : List Rec) (i : Value) (wr : World) : Prop := ∃ j : Nat, j ≤ rs.length ∧ i = .int .i64 j ∧ (rs.take j).all Rec.right = true ∧ Below w.heap.size w wr
theorem take_all {rs : List Rec} {j : Nat} (h : j < rs.length) (h1 : (rs.take j).all Rec.right = true) (h2 : rs[j].right = true) : (rs.take (j + 1)).all Rec.right = true := by
  rw [List.take_succ_eq_append_getElem h, List.all_append, h1]; simp [h2]
theorem not_all {rs : List Rec} {j : Nat} (h : j < rs.length) (h2 : rs[j].right = false) : rs.all Rec.right = false := by
  rw [List.all_eq_false]; exact ⟨rs[j], List.getElem_mem h, by simp [h2]⟩
theorem indexFunc_any (a : Option Addr) (cap : Nat) (rs : List Rec) (hok : OkAll rs) (hl : rs.length ≤ 1000000) (w : World) (hr : RdR w w.heap.size a rs) :
    Calls Tryd.prog 51 #[.slice a rs.length cap, .func (.func 48) #[] #[]] w fun e w' => ∃ v : Int, e = .returned (.int .i64 v) ∧ decide (v ≥ 0) = (!rs.all Rec.right) ∧ Below w.heap.size w w' := by
  go_enter Tryd.func51, Tryd.ntmps51
  go_wp2_with fail
  go_loopw [5, 8] (fun _ i wr => NewsJ w rs i wr) (fun _ i _ => rs.length - (intOf i).toNat)
  case atStart => exact ⟨0, Nat.zero_le _, rfl, by simp, Below.refl _ _⟩
  case round =>
    obtain ⟨j, hj, rfl, ha, hb⟩ := hrel
    by_cases hlt : j < rs.length
    · have hlt' : (j : Int) < rs.length := by omega
      have hj0 : (0 : Int) ≤ j := by omega
      obtain ⟨b, off, rfl, hbl, hc⟩ := hr.below hb (by omega)
      obtain ⟨c0, c1, c2, c3, c4⟩ := hc j hlt
      have N := notRight_any rs[j] (hok _ (List.getElem_mem hlt))
      have HA := Lib.hid ha
      have HB := Lib.hid hb
      have Hno := Lib.hid (fun h => not_all hlt h)
      have Hyes := Lib.hid (fun h => take_all hlt ha h)
      generalize rs[j] = r at *
      clear hc ha hb hr
      rcases hR : r.right
      · rw [hR] at N
        go_wp2_with fail
        refine (N _).mono ?_; rintro e w1 ⟨rfl, b1⟩
        go_wp2
        go_ret
        refine ⟨_, rfl, ?_, HB.out.trans (b1.mono HB.out.size)⟩
        rw [Hno.out hR]; simp
      · rw [hR] at N
        go_wp2_with fail
        refine (N _).mono ?_; rintro e w1 ⟨rfl, b1⟩
        go_wp2
        go_roundw
        case rel => exact ⟨j + 1, by omega, by go_num, Hyes.out hR, HB.out.trans (b1.mono HB.out.size)⟩
        case measure => simp [intOf]; omega
    · obtain rfl : j = rs.length := by omega
      rw [List.take_length] at ha
      have HA := Lib.hid ha
      have HB := Lib.hid hb
      clear ha hb hr
      go_wp2
      go_ret
      refine ⟨_, rfl, ?_, HB.out⟩
      rw [HA.out]; rfl
theorem contains_any (a : Option Addr) (cap : Nat) (rs : List Rec) (hok : OkAll rs) (hl : rs.length ≤ 1000000) (w : World) (hr : RdR w w.heap.size a rs) :
    Calls Tryd.prog 47 #[.slice a rs.length cap, .func (.func 48) #[] #[]] w fun e w' => e = .returned (.bool (!rs.all Rec.right)) ∧ Below w.heap.size w w' := by
  have I := indexFunc_any a cap rs hok hl w hr
  generalize hL : rs.length = L at *
  generalize (!rs.all Rec.right) = b at *
  clear hok hr hl hL
  go_enter Tryd.func47, Tryd.ntmps47
  go_wp2_with fail
  refine I.mono ?_; rintro e w1 ⟨v, rfl, hv, b1⟩
  rcases b
  · have hv : ¬ v ≥ 0 := by simpa using hv
    go_wp2
    go_ret
    exact ⟨rfl, b1⟩
  · have hv : v ≥ 0 := by simpa using hv
    go_wp2
    go_ret
    exact ⟨rfl, b1⟩
def newsOk (k : Int) (rs : List Rec) : Bool := decide (rs.length ≤ mostN k) && rs.all Rec.right
theorem rightNews_any (k : Int) (a : Option Addr) (cap : Nat) (rs : List Rec) (hok : OkAll rs) (hl : rs.length ≤ 1000000) (w : World) (hr : RdR w w.heap.size a rs) :
    Calls Tryd.prog 39 #[.int .i64 k, .slice a rs.length cap] w fun e w' => e = .returned (.bool (newsOk k rs)) ∧ Below w.heap.size w w' := by
  have M := mostNews_any k
  have C := contains_any a cap rs hok hl w hr
  unfold newsOk
  by_cases h : rs.length ≤ mostN k
  · have h' : (rs.length : Int) ≤ mostN k := by omega
    have e : decide (rs.length ≤ mostN k) = true := by simpa using h
    rw [e]
    generalize rs.all Rec.right = b at *
    generalize rs.length = L at *
    generalize mostN k = n at *
    clear hok hr hl e h
    go_enter Tryd.func39, Tryd.ntmps39
    go_wp2_with fail
    refine (M _).mono ?_; rintro e w1 ⟨rfl, rfl⟩
    go_wp2_with fail
    refine C.mono ?_; rintro e w1 ⟨rfl, b1⟩
    go_wp2
    go_ret
    exact ⟨by simp, b1⟩
  · have h' : ¬ (rs.length : Int) ≤ mostN k := by omega
    have e : decide (rs.length ≤ mostN k) = false := by simpa using h
    rw [e]
    generalize rs.all Rec.right = b at *
    generalize rs.length = L at *
    generalize mostN k = n at *
    clear hok hr hl e h C
    go_enter Tryd.func39, Tryd.ntmps39
    go_wp2_with fail
    refine (M _).mono ?_; rintro e w1 ⟨rfl, rfl⟩
    go_wp2
    go_ret
    exact ⟨by simp, Below.refl _ _⟩
def PutJ (w : World) (rs : List Rec) (s i : Value) (wr : World) : Prop := ∃ (j : Nat) (S : ByteArray), j ≤ rs.length ∧ i = .int .i64 j ∧ s = .string S ∧ S = numB rs.length 1 ++ newsP (rs.take j) ∧ Below w.heap.size w wr
theorem newsP_at {rs : List Rec} {j : Nat} (P S : ByteArray) (h : j < rs.length) (hS : S = P ++ newsP (rs.take j)) : S ++ putR rs[j] = P ++ newsP (rs.take (j + 1)) := by
  rw [newsP_take _ _ h, hS]; apply ba_ext; simp [List.append_assoc]
theorem putNews_any (a : Option Addr) (cap : Nat) (rs : List Rec) (hok : OkAll rs) (hR : rs.all Rec.right = true) (hl : rs.length ≤ 200) (w : World) (hr : RdR w w.heap.size a rs) :
    Calls Tryd.prog 23 #[.slice a rs.length cap] w fun e w' => e = .returned (.string (numB rs.length 1 ++ newsP rs)) ∧ Below w.heap.size w w' := by
  have NN := fun w => num_at (rs.length : Int) (1 : Int) rs.length 1 rfl rfl (by omega) (by omega) (by omega) w
  have c := IntWalk.u64_in (rs.length : Int) ⟨by omega, by omega⟩
  have H1 := numB_size rs.length 1
  have H2 := fun j => newsP_size (rs.take j)
  go_enter Tryd.func23, Tryd.ntmps23
  go_wp2_with fail
  refine (NN _).mono ?_; rintro e w1 ⟨rfl, b1⟩
  go_wp2_with fail
  go_loopw [3, 5, 6, 7, 14] (fun s _ _ _ i wr => PutJ w rs s i wr) (fun _ _ _ _ i _ => rs.length - (intOf i).toNat)
  case atStart => exact ⟨0, _, Nat.zero_le _, rfl, rfl, by apply ba_ext; simp [newsP], b1⟩
  case round =>
    obtain ⟨j, S, hj, rfl, rfl, hS, hb⟩ := hrel
    have hlo : Below w.heap.size w wr := hb
    by_cases hlt : j < rs.length
    · have hlt' : (j : Int) < rs.length := by omega
      have hj0 : (0 : Int) ≤ j := by omega
      obtain ⟨b, off, rfl, hbl, hc⟩ := hr.below hb (by omega)
      obtain ⟨c0, c1, c2, c3, c4⟩ := hc j hlt
      have hRj : rs[j].right = true := List.all_eq_true.1 hR _ (List.getElem_mem hlt)
      have N := put_yes rs[j] (hok _ (List.getElem_mem hlt)) hRj
      have zS : S.size ≤ 3000 := by rw [hS, ByteArray.size_append, H1, H2, List.length_take]; omega
      have zP := putR_size rs[j]
      have HS := Lib.hid (newsP_at (numB rs.length 1) S hlt hS)
      have HB := Lib.hid hb
      have hsz := hb.size
      clear hc hb hr hok hRj hR H2 hS hlo NN H1
      generalize rs[j] = r at *
      generalize putR r = P at *
      go_wp2_with fail
      refine (N _).mono ?_; rintro e w2 ⟨rfl, b2⟩
      have HB2 : Hid (Below w.heap.size w w2) := by
        have z := HB.out
        show Below _ _ _
        (have zz0 := Below.size b2; (try simp at zz0); have zz1 := Below.size z; (try simp at zz1); repeat (first | with_reducible exact Below.refl _ _ | with_reducible refine Below.drew ?_ | with_reducible refine below_drewN ?_ _ | with_reducible refine Below.alloc ?_ (by first | omega | (simp; done) | (simp; omega)) _ | with_reducible refine Below.setCell ?_ (by first | omega | (simp; done) | (simp; omega)) _ | (with_reducible refine Below.trans ?_ (Below.mono b2 (by first | omega | (simp; done) | (simp; omega)))) | (with_reducible refine Below.trans ?_ (Below.mono z (by first | omega | (simp; done) | (simp; omega))))))
      go_wp2
      go_roundw
      case rel => exact ⟨j + 1, S ++ P, by omega, by go_num, rfl, HS.out, HB2.out⟩
      case measure => simp [intOf]; omega
    · obtain rfl : j = rs.length := by omega
      rw [List.take_length] at hS
      have HS := Lib.hid hS
      have HB := Lib.hid hb
      clear hb hr hS hlo
      go_wp2
      go_ret
      exact ⟨by rw [← HS.out]; rfl, HB.out⟩
end Go.Proofs.YtmhlnlippfaclaaDoor
