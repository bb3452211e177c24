/- The reference's box: at, where a binding is made. -/
import Derived.Test.YtnemmnndaoaadaaBoxRefAtF
import Derived.Laws.AppendOwnNone
namespace Go.Proofs.Ytnemmnndaoaadaa
open Go.Sort Go.RowKit Go.BigFrame
set_option linter.unusedVariables false
set_option linter.unusedSimpArgs false

/-- append(v, part...), v a slice of this call's own, the part readable, perhaps nil or empty -/
theorem wpList_append_part {P : Program} (w : World) {ops : Array Oper} {rest : List Oper} {o : Oper} {a : Act} {Q : Exit → Act → World → Prop} (hgd : o.guard = none) (s x : Operand) (t : TypeId)
    (ho : o.op = .call { callee := .builtin .append, args := #[s, x], argTypes := #[t, t] })
    (base : Nat) (e : TypeId) (i : TypeInfo) (z : Value) (size bytes : Nat) (ht : P.underlying t = some (.slice e)) (hi : P.info? e = some i) (hz : i.zero = some z) (hsize : i.size = size) (hby : i.bytes = bytes) (hzs : z.cells.size = size) (hsz : 0 < size)
    (v : Value) (n : Nat) (xs : List Value) (hs : a.eval s = v) (hown : w.ownsRow base e size v n xs)
    (A : Option Addr) (m c : Nat) (news : List Value) (hx : a.eval x = .slice A m c) (hm : news.length = m * size) (hr : ∀ ad, A = some ad → ∀ j u, news[j]? = some u → w.cell? (ad.add j) = some u) (h1 : ∀ u ∈ news, u.oneCell' = true) (hA : A = none → m = 0 ∧ c = 0)
    (h63 : n + m ≤ maxLen) (hbytes : (n + m) * bytes ≤ 140737488355328) (hbase : base ≤ w.heap.size)
    (h : ∀ v' w', w'.ownsRow base e size v' (n + m) (xs ++ news) → w.grownBy w' v.ownBlock → wpList P ops Q rest (a.put o.dst v') w') : wpList P ops Q (o :: rest) a w := by
  rcases A with _ | ad
  · obtain ⟨q1, q2⟩ := hA rfl
    subst q1 q2
    obtain rfl : news = [] := List.eq_nil_of_length_eq_zero (by rw [hm, Nat.zero_mul])
    exact wpList_append_own_none hgd s x t ho base e i size ht hi v n xs hs hown hx (h v w (by simpa using hown) (World.grownBy.refl w _))
  · exact wpList_append_own w hgd s x t ho base e i z size bytes ht hi hz hsize hby hzs hsz v n xs hs hown ad m c news hx hm (hr ad rfl) h1 h63 hbytes hbase fun v' w' q1 q2 _ => h v' w' q1 q2
def unB (L : List Bd) (i : Nat) : Int := ((L[i]?).map (·.1.un)).getD 0
theorem unB_fst (L : List Bd) (i : Nat) : unAt (L.map (·.1)) i = unB L i := by unfold unAt unB; rw [List.getElem?_map]; cases L[i]? <;> rfl
theorem unB_at {L : List Bd} {i : Nat} {x : Bd} (h : L[i]? = some x) : unB L i = x.1.un := by unfold unB; rw [h]; rfl
def oldB (L : List Bd) (i : Nat) : Nat := oldN (L.map (·.1)) i
theorem oldB_next (L : List Bd) (i : Nat) : oldB L (i + 1) = if unB L i < unB L (oldB L i) then i else oldB L i := by
  unfold oldB; rw [← unB_fst, ← unB_fst]; rfl
theorem oldB_lt (L : List Bd) (h : 0 < L.length) : ∀ i, i ≤ L.length → oldB L i < L.length
  | 0, _ => h
  | i + 1, hi => by
    have ih := oldB_lt L h i (by omega)
    rw [oldB_next]
    split <;> omega
/-- whom the reference's box puts out -/
def evB (room : Nat) (L : List Bd) : List Bd := if room ≤ L.length then L.eraseIdx (oldB L L.length) else L
theorem evB_fst (room : Nat) (L : List Bd) : (evB room L).map (·.1) = rfEvict room (L.map (·.1)) := by
  unfold evB rfEvict
  rw [List.length_map]
  split
  · rw [List.eraseIdx_eq_take_drop_succ, List.eraseIdx_eq_take_drop_succ, List.map_append, List.map_take, List.map_drop]; rfl
  · rfl
theorem evB_sub {room : Nat} {L : List Bd} {x : Bd} (h : x ∈ evB room L) : x ∈ L := by
  unfold evB at h
  split at h
  · exact List.mem_of_mem_eraseIdx h
  · exact h
theorem evB_len {room : Nat} {L : List Bd} (h : L.length ≤ room) (h1 : 1 ≤ room) : (evB room L).length < room := by
  unfold evB
  split
  · have := oldB_lt L (by omega) L.length (Nat.le_refl _)
    rw [List.length_eraseIdx, if_pos this]; omega
  · omega
def RAtN (L : List Bd) (w : World) (iv : Value) (wr : World) : Prop := ∃ i : Nat, i ≤ L.length ∧ iv = .int .i64 (i : Nat) ∧ Below w.heap.size w wr
theorem own_low {w : World} {b b' : Nat} {t : TypeId} {z n : Nat} {v : Value} {xs : List Value} (h : w.ownsRow b t z v n xs) (hb : b' ≤ b) : w.ownsRow b' t z v n xs := by
  refine ⟨h.1, ?_⟩
  rcases h.2 with h0 | ⟨g, cap, cur, e, hg, h1⟩
  · exact .inl h0
  · exact .inr ⟨g, cap, cur, e, Nat.le_trans hb hg, h1⟩
theorem ins_flat {L : List Bd} {p : Nat} {x : Bd} : ((insL L p x).map ch).flatten = ((L.take p).map ch).flatten ++ (ch x ++ ((L.drop p).map ch).flatten) := by unfold insL; simp
theorem ins_length {L : List Bd} {p : Nat} {x : Bd} (h : p ≤ L.length) : (insL L p x).length = L.length + 1 := by unfold insL; simp; omega
def RFreeJ (L : List Bd) (fin : Nat) (w : World) (pv : Value) (wr : World) : Prop := ∃ k : Nat, k ≤ L.length ∧ pv = .int .i64 (k : Nat) ∧ freeF k ((L.drop k).map (·.1)) = fin ∧ w = wr
def ROldJ (L : List Bd) (w : World) (ov iv : Value) (wr : World) : Prop := ∃ i : Nat, i ≤ L.length ∧ iv = .int .i64 (i : Nat) ∧ ov = .int .i64 (oldB L i : Nat) ∧ Below w.heap.size w wr
def RAtPost (g p : Nat) (m f ip hold : Int) (room : Nat) (L' : List Bd) (w : World) (e : Ending) (w' : World) : Prop :=
  e = .returned (.int .i64 (p : Nat)) ∧ ∃ v' : Sl, v'.n = L'.length ∧ Cs g (bcells m f ip hold room v') w' ∧ RfRow w.heap.size w' v'.v L' ∧ Touch (fun k => k = g) w w'
/-- behind the cut of the one that ends soonest -/
def RAtE (g : Nat) (m f ip hold : Int) (room : Nat) (L' : List Bd) (w w' : World) : Prop :=
  ∃ v' : Sl, v'.n = L'.length ∧ Cs g (bcells m f ip hold room v') w' ∧ RfRow 0 w' v'.v L' ∧ (∀ k, v'.v.ownBlock = some k → k ≠ g) ∧ Touch (fun k => k = g) w w'
theorem rat_fin {g fin : Nat} {m f ip hold : Int} {room : Nat} {D : List Bd} {x : Bd} {v : Sl} {w w3 w8 : World} {sa : Option Addr} {sn sc : Nat} (hf : fin ≤ D.length) (hg : g < w.heap.size) (ht : Touch (fun k => k = g) w w3) (hx : Cs g (bcells m f ip hold room v) w3) (hb : Below w3.heap.size w3 w8)
    (hr : w8.ownsRow w3.heap.size 73 7 (.slice sa sn sc) (insL D fin x).length ((insL D fin x).map ch).flatten) :
    ∃ v' : Sl, v'.n = (insL D fin x).length ∧ Cs g (bcells m f ip hold room v') (w8.setCell ⟨g, 5, none⟩ (.slice sa sn sc)) ∧ RfRow w.heap.size (w8.setCell ⟨g, 5, none⟩ (.slice sa sn sc)) v'.v (insL D fin x) ∧ Touch (fun k => k = g) w (w8.setCell ⟨g, 5, none⟩ (.slice sa sn sc)) := by
  have hr2 : RfRow w3.heap.size w8 (.slice sa sn sc) (insL D fin x) := hr
  obtain ⟨a5, c5, h5⟩ := rfrow_slice hr2
  simp only [Value.slice.injEq] at h5
  obtain ⟨rfl, rfl, rfl⟩ := h5
  have hne : ∀ k, (Value.slice sa (insL D fin x).length sc).ownBlock = some k → k ≠ g := fun k hk => by
    have := (World.ownsRow.lt hr k hk).1
    have := ht.size
    omega
  refine ⟨⟨sa, (insL D fin x).length, sc⟩, rfl, ?_, ?_, ?_⟩
  · exact (hx.keep hb).set 5 (.slice sa (insL D fin x).length sc) (by simp [bcells])
  · exact own_low (rrow_touch (F := fun k => k = g) hr2 ((Touch.refl (fun k => k = g) _).set (a := ⟨g, 5, none⟩) (fun _ => rfl) _) hne) ht.size
  · exact Touch.set (a := ⟨g, 5, none⟩) (ht.trans (Touch.of_below _ hb) (fun _ _ h => h)) (fun _ => rfl) _
set_option maxHeartbeats 12800000 in
set_option maxRecDepth 100000 in
theorem rat_new (g : Nat) (m f ip hold si sp ki kp : Int) (room : Nat) (v : Sl) (L : List Bd) (hn : ∀ i (h : i < L.length), isP si sp ki kp L[i].1 = false) (hpo : ∀ x ∈ L, 20000 ≤ x.1.po ∧ x.1.po < 20064) (hl : L.length ≤ room) (hrm : 1 ≤ room) (hrm2 : room ≤ 64) (hvn : v.n = L.length) (w : World) (hx : Cs g (bcells m f ip hold room v) w) (hr : RfRow 0 w v.v L) (hne : ∀ k, v.v.ownBlock = some k → k ≠ g) :
    Calls Try.prog 37 #[.pointer (some ⟨g, 0, none⟩), .agg #[.int .u32 si, .int .u16 sp], .agg #[.int .u32 ki, .int .u16 kp]] w (RAtPost g (freeF 0 ((evB room L).map (·.1))) m f ip hold room (insL (evB room L) (freeF 0 ((evB room L).map (·.1))) (newP si sp ki kp (freeF 0 ((evB room L).map (·.1))), ⟨none, 0, 0⟩)) w) := by
  obtain ⟨i0, hi0, hz0, hz1, hz2⟩ := info_parts info_rbind
  obtain ⟨a, n, c⟩ := v
  simp only at hvn hr
  subst hvn
  have hB : Hid (Below w.heap.size w ((w.alloc (.cells #[.int .u32 si, .int .u16 sp] 44)).alloc (.cells #[.int .u32 ki, .int .u16 kp] 44))) := by show Below _ _ _; (repeat (first | with_reducible exact Below.refl _ _ | with_reducible refine Below.drew ?_ | with_reducible refine below_drewN ?_ _ | with_reducible refine Below.alloc ?_ (by first | omega | (simp; done) | (simp; omega)) _ | with_reducible refine Below.setCell ?_ (by first | omega | (simp; done) | (simp; omega)) _))
  have HX := Lib.hid hx
  have HRW := Lib.hid hr
  have HNE := Lib.hid hne
  have HPO := Lib.hid hpo
  have HR : Hid (RdB w a L) := rrow_rd hr
  have HN := Lib.hid hn
  have hl2 : (L.length : Int) ≤ 64 := by omega
  have hrm3 : (room : Int) ≤ 64 := by omega
  have hrm1 : (1 : Int) ≤ room := by omega
  clear hx hr hn hpo hne
  go_enter Try.func37, Try.ntmps37
  go_wp2_with fail
  have hA : Hid (w.heap.size + 1 < ((w.alloc (.cells #[.int .u32 si, .int .u16 sp] 44)).alloc (.cells #[.int .u32 ki, .int .u16 kp] 44)).heap.size) := by show _ < _; simp
  have X4 : Hid (Cs w.heap.size [.int .u32 si, .int .u16 sp] ((w.alloc (.cells #[.int .u32 si, .int .u16 sp] 44)).alloc (.cells #[.int .u32 ki, .int .u16 kp] 44))) := (Cs.new w [.int .u32 si, .int .u16 sp] 44).alloc _
  have X5 : Hid (Cs (w.heap.size + 1) [.int .u32 ki, .int .u16 kp] ((w.alloc (.cells #[.int .u32 si, .int .u16 sp] 44)).alloc (.cells #[.int .u32 ki, .int .u16 kp] 44))) := by
    show Cs _ _ _
    have := Cs.new (w.alloc (.cells #[.int .u32 si, .int .u16 sp] 44)) [.int .u32 ki, .int .u16 kp] 44
    rw [World.size_alloc] at this
    exact this
  generalize (w.alloc (.cells #[.int .u32 si, .int .u16 sp] 44)).alloc (.cells #[.int .u32 ki, .int .u16 kp] 44) = wA at *
  go_loopw [7] (fun iv wr => RAtN L wA iv wr) (fun iv _ => L.length - (intOf iv).toNat)
  case atStart => exact ⟨0, Nat.zero_le _, rfl, Below.refl _ _⟩
  case round =>
    obtain ⟨i, hi, rfl, hb⟩ := hrel
    have hi0 : (0 : Int) ≤ i := by omega
    have HB := Lib.hid (hB.out.trans (hb.mono hB.out.size))
    have HB2 := Lib.hid hb
    have X := HX.out.keep HB.out
    have x5 := X.cell 5 _ rfl
    have gl := X.lt
    have Y4 := X4.out.keep hb
    have Y5 := X5.out.keep hb
    have y40 := Y4.cell 0 _ rfl
    have y41 := Y4.cell 1 _ rfl
    have y50 := Y5.cell 0 _ rfl
    have y51 := Y5.cell 1 _ rfl
    have gl4 := Y4.lt
    have gl5 := Y5.lt
    by_cases hlt : i < L.length
    · have hlt' : (i : Int) < L.length := by omega
      obtain ⟨b, off, hbo, hbl, hcc⟩ := (HR.out.keep HB.out) (by omega)
      have hx : L[i]? = some L[i] := List.getElem?_eq_getElem hlt
      have c0 := hcc i _ hx 0 _ rfl
      have c1 := hcc i _ hx 1 _ rfl
      have c2 := hcc i _ hx 2 _ rfl
      have c3 := hcc i _ hx 3 _ rfl
      have HP := Lib.hid (HN.out i hlt)
      have HI1 : Hid (i + 1 ≤ L.length) := hlt
      generalize L[i] = y at *
      obtain ⟨⟨y1, y2, y3, y4, y5, y6, y7⟩, ⟨s1, s2, s3⟩⟩ := y
      simp only [Nat.add_zero] at c0 c1 c2 c3
      subst hbo
      clear hcc hx X Y4 Y5 hb
      have hneP : ¬ ((y1 = si ∧ y2 = sp) ∧ y3 = ki ∧ y4 = kp) := by
        intro h
        have := HP.out
        unfold isP at this
        obtain ⟨⟨rfl, rfl⟩, rfl, rfl⟩ := h
        simp at this
      clear HP
      by_cases e1 : y1 = si
      · by_cases e2 : y2 = sp
        · by_cases e3 : y3 = ki
          · have e4 : ¬ y4 = kp := fun h => hneP ⟨⟨e1, e2⟩, e3, h⟩
            clear hneP
            go_wp2
            go_quiet (fail)
            go_wp2
            go_roundw
            case rel => exact ⟨i + 1, HI1.out, by go_num, below_drewN HB2.out _⟩
            case measure => have := HI1.out; simp [intOf]; omega
          · clear hneP
            go_wp2
            go_quiet (fail)
            go_wp2
            go_roundw
            case rel => exact ⟨i + 1, HI1.out, by go_num, below_drewN HB2.out _⟩
            case measure => have := HI1.out; simp [intOf]; omega
        · clear hneP
          go_wp2
          go_quiet (fail)
          go_wp2
          go_roundw
          case rel => exact ⟨i + 1, HI1.out, by go_num, below_drewN HB2.out _⟩
          case measure => have := HI1.out; simp [intOf]; omega
      · clear hneP
        go_wp2
        go_quiet (fail)
        go_wp2
        go_roundw
        case rel => exact ⟨i + 1, HI1.out, by go_num, below_drewN HB2.out _⟩
        case measure => have := HI1.out; simp [intOf]; omega
    · obtain rfl : i = L.length := by omega
      have x4 := X.cell 4 _ rfl
      clear X Y4 Y5 hb y40 y41 y50 y51 gl4 gl5
      obtain ⟨bb, hbb⟩ : ∃ bb, decide (room ≤ L.length) = bb := ⟨_, rfl⟩
      have Hbb := Lib.hid hbb
      clear hbb
      go_upto_region 6 with fail
      go_cut [53] (fun c wx => c = .bool bb ∧ Below wr.heap.size wr wx)
      case first =>
        go_quiet (fail)
        go_wp2_with fail
        go_meet
        exact ⟨congrArg Value.bool Hbb.out, below_drewN (Below.refl _ _) _⟩
      case rest =>
        obtain ⟨rfl, hb⟩ := hcut
        have HB3 := Lib.hid (HB.out.trans (hb.mono HB.out.size))
        have HB4 := Lib.hid (HB2.out.trans (hb.mono HB2.out.size))
        clear hb x4 x5 gl hi hlt HB HB2 hi0
        generalize wc = w2 at *
        go_upto_if 53 with fail
        go_cut [] (fun wx => RAtE g m f ip hold room (evB room L) w2 wx)
        case first =>
          by_cases hf : room ≤ L.length
          · obtain rfl : true = bb := by rw [← Hbb.out]; simp [hf]
            have hlp : 0 < L.length := by omega
            have HEV : Hid (evB room L = L.eraseIdx (oldB L L.length)) := if_pos hf
            clear hf Hbb
            go_wp2_with fail
            go_loopw [8, 9] (fun ov iv wr => ROldJ L w2 ov iv wr) (fun _ iv _ => L.length - (intOf iv).toNat)
            case atStart => exact ⟨0, Nat.zero_le _, rfl, rfl, Below.refl _ _⟩
            case round =>
              obtain ⟨i, hi, rfl, rfl, hb⟩ := hrel
              have HB5 := Lib.hid (HB3.out.trans (hb.mono HB3.out.size))
              have HB6 := Lib.hid hb
              have X := HX.out.keep HB5.out
              have x5 := X.cell 5 _ rfl
              have gl := X.lt
              have hi0 : (0 : Int) ≤ i := by omega
              have hol := oldB_lt L hlp i hi
              have ho0 : (0 : Int) ≤ oldB L i := by omega
              have ho1 : (oldB L i : Int) < L.length := by omega
              by_cases hlt : i < L.length
              · have hlt' : (i : Int) < L.length := by omega
                have hx : L[i]? = some L[i] := List.getElem?_eq_getElem hlt
                have hy : L[oldB L i]? = some L[oldB L i] := List.getElem?_eq_getElem hol
                obtain ⟨b, off, hbo, hbl, hcc⟩ := (HR.out.keep HB5.out) (by omega)
                have HOB := oldB_next L i
                rw [unB_at hx, unB_at hy] at HOB
                have c6 := hcc i _ hx 6 _ rfl
                have d6 := hcc _ _ hy 6 _ rfl
                have HI1 : Hid (i + 1 ≤ L.length) := hlt
                generalize oldB L i = o at *
                generalize L[i] = y at *
                generalize L[o] = z at *
                obtain ⟨⟨y1, y2, y3, y4, y5, y6, y7⟩, ⟨s1, s2, s3⟩⟩ := y
                obtain ⟨⟨z1, z2, z3, z4, z5, z6, z7⟩, ⟨t1, t2, t3⟩⟩ := z
                simp only at c6 d6 HOB
                subst hbo
                clear hcc hx hy X hb
                by_cases hc : y6 < z6
                · have hc2 : decide (y6 < z6) = true := decide_eq_true hc
                  rw [if_pos hc] at HOB
                  replace HOB := Lib.hid HOB
                  go_wp2_with fail
                  go_quiet (fail)
                  go_wp2
                  go_roundw
                  case rel => exact ⟨i + 1, HI1.out, by go_num, by rw [HOB.out], below_drewN HB6.out _⟩
                  case measure => simp [intOf]; omega
                · have hc2 : decide (y6 < z6) = false := decide_eq_false hc
                  rw [if_neg hc] at HOB
                  replace HOB := Lib.hid HOB
                  go_wp2_with fail
                  go_quiet (fail)
                  go_wp2
                  go_roundw
                  case rel => exact ⟨i + 1, HI1.out, by go_num, by rw [HOB.out], below_drewN HB6.out _⟩
                  case measure => simp [intOf]; omega
              · obtain rfl : i = L.length := by omega
                have K := rcut_any g (oldB L L.length) m f ip hold room ⟨a, L.length, c⟩ L hol (by omega) wr X (rrow_touch (F := fun _ => False) HRW.out (Touch.of_below _ HB5.out) (fun _ _ h => h))
                have HLO := Lib.hid hol
                clear hb X
                generalize oldB L L.length = o at *
                go_wp2_with fail
                refine K.mono ?_; rintro e w5 ⟨v5, w6, rfl, hrow, hb6, rfl⟩
                go_wp2_with fail
                go_meet
                obtain ⟨a5, c5, rfl⟩ := rfrow_slice hrow
                have hgw : g < w.heap.size := HX.out.lt
                have hgr : g < wr.heap.size := Nat.lt_of_lt_of_le hgw HB5.out.size
                have hne5 : ∀ k, (Value.slice a5 (L.eraseIdx o).length c5).ownBlock = some k → k ≠ g := fun k hk => by have := (World.ownsRow.lt hrow k hk).1; omega
                refine ⟨⟨a5, (L.eraseIdx o).length, c5⟩, by rw [HEV], ?_, ?_, hne5, ?_⟩
                · exact (HX.out.keep (HB5.out.trans (hb6.mono HB5.out.size))).set 5 (.slice a5 (L.eraseIdx o).length c5) (by simp [bcells])
                · rw [HEV]
                  exact own_low (rrow_touch (F := fun k => k = g) hrow ((Touch.refl (fun k => k = g) _).set (a := ⟨g, 5, none⟩) (fun _ => rfl) _) hne5) (Nat.zero_le _)
                · exact Touch.set (F := fun k => k = g) (a := ⟨g, 5, none⟩) (Touch.of_below _ (HB6.out.trans (hb6.mono HB6.out.size))) (fun _ => rfl) _
          · obtain rfl : false = bb := by rw [← Hbb.out]; simp [hf]
            have HEV : Hid (evB room L = L) := if_neg hf
            clear hf Hbb
            go_wp2_with fail
            go_meet
            refine ⟨⟨a, L.length, c⟩, by rw [HEV.out], HX.out.keep HB3.out, by rw [HEV.out]; exact rrow_touch (F := fun _ => False) HRW.out (Touch.of_below _ HB3.out) (fun _ _ h => h), HNE.out, Touch.refl _ _⟩
        case rest =>
          obtain ⟨⟨a2, n2, c2⟩, hn2, hx2, hr2, hne2, ht2⟩ := hcut
          have hgw : g < w.heap.size := HX.out.lt
          generalize wc = w3 at *
          have T3 : Hid (Touch (fun k => k = g) w w3) := (Touch.of_below _ HB3.out).trans ht2 (fun _ _ h => h)
          have Y4 := Lib.hid ((X4.out.keep HB4.out).touch ht2 (by omega))
          have Y5 := Lib.hid ((X5.out.keep HB4.out).touch ht2 (by omega))
          have hel := evB_len (L := L) hl hrm
          have hpo : Hid (∀ x ∈ evB room L, 20000 ≤ x.1.po ∧ x.1.po < 20064) := fun x hx => HPO.out x (evB_sub hx)
          have Z3 := Lib.hid hx2
          have HR3 := Lib.hid hr2
          have HNE3 := Lib.hid hne2
          clear hx2 hr2 hne2 ht2 HB3 HB4 X4 X5 Hbb HN HR HRW HNE HPO HX hA hB
          obtain ⟨D, hD⟩ : ∃ D, evB room L = D := ⟨_, rfl⟩
          rw [hD] at hel hpo hn2 HR3
          have HD := Lib.hid hD
          clear hD
          simp only at hn2
          subst hn2
          simp only [Sl.v] at HR3 HNE3
          obtain ⟨fin, hfin⟩ : ∃ fin, freeF 0 (D.map (·.1)) = fin := ⟨_, rfl⟩
          have HF := Lib.hid hfin
          clear hfin
          have x5 := Z3.out.cell 5 _ rfl
          have gl := Z3.out.lt
          have hD64 : (D.length : Int) < 64 := by omega
          have RD3 := Lib.hid (rrow_rd HR3.out)
          obtain ⟨hfl0, hfl1⟩ := freeF_le (D.map (·.1)) 0
          rw [HF.out, List.length_map, Nat.zero_add] at hfl1
          clear hfl0
          go_wp2_with fail
          go_loopw [10] (fun pv wr => RFreeJ D fin w3 pv wr) (fun pv _ => D.length - (intOf pv).toNat)
          case atStart => exact ⟨0, Nat.zero_le _, rfl, HF.out, rfl⟩
          case round =>
            obtain ⟨k, hk, rfl, hF, rfl⟩ := hrel
            have hk0 : (0 : Int) ≤ k := by omega
            by_cases hlt : k < D.length
            · have hlt' : (k : Int) < D.length := by omega
              obtain ⟨b, off, hbo, hbl, hcc⟩ := RD3.out (by omega)
              have hx : D[k]? = some D[k] := List.getElem?_eq_getElem hlt
              have c4 := hcc k _ hx 4 _ rfl
              have pb := hpo.out _ (List.getElem_mem hlt)
              have hf := freeF_at (l := D) hlt
              generalize D[k] = y at *
              obtain ⟨⟨t1, t2, t3, t4, t5, t6, t7⟩, ⟨z1, z2, z3⟩⟩ := y
              simp only at c4 pb hf
              obtain ⟨p1, p2⟩ := pb
              have HL := Lib.hid hlt
              subst hbo
              clear hcc hx
              by_cases hp : t5 = 20000 + (k : Int)
              · have hF2 : Hid (freeF (k + 1) ((D.drop (k + 1)).map (·.1)) = fin) := by
                  show _ = _
                  rw [if_pos hp] at hf; rw [← hf]; exact hF
                clear hf hF
                subst hp
                go_wp2
                go_roundw
                case rel => exact ⟨k + 1, HL.out, by go_num, hF2.out, rfl⟩
                case measure => simp [intOf]; omega
              · obtain rfl : fin = k := by rw [if_neg hp] at hf; rw [← hF]; exact hf
                have hp2 : (t5 == 20000 + (fin : Int)) = false := by rw [beq_eq_false_iff_ne]; exact hp
                obtain ⟨g1, cap1, hv1, hg1⟩ : ∃ g1 cap1, Value.slice (some ⟨b, off, none⟩) D.length c2 = .slice (some ⟨g1, 0, none⟩) D.length cap1 ∧ g1 < w3.heap.size := by
                  rcases rrow_form HR3.out with ⟨h1, h2⟩ | h
                  · simp at h1
                  · exact h
                simp only [Value.slice.injEq, Option.some.injEq, Addr.mk.injEq, and_true, true_and] at hv1
                obtain ⟨⟨rfl, rfl⟩, rfl⟩ := hv1
                clear hf hF hg1 RD3
                simp only [Nat.zero_add] at c4
                obtain ⟨g1, rfl⟩ : ∃ g1, g1 = b := ⟨_, rfl⟩
                obtain ⟨cap1, rfl⟩ : ∃ cap1, cap1 = c2 := ⟨_, rfl⟩
                have hcap1 : Hid (D.length ≤ cap1 ∧ cap1 ≤ maxLen) := by
                  obtain ⟨_, C, _, q2, _, q4, q5⟩ := rrow_open HR3.out
                  exact ⟨q4, q5⟩
                have hg1 : g1 < w3.heap.size := by
                  rcases rrow_form HR3.out with ⟨h1, _⟩ | ⟨_, _, h1, h2⟩
                  · simp at h1
                  · simp at h1; rw [h1.1]; exact h2
                have hc1 : fin ≤ cap1 := by have := hcap1.out.1; omega
                have hc2' : (fin : Int) ≤ cap1 := by omega
                have hc3 : D.length ≤ cap1 := hcap1.out.1
                have hfd : (fin : Int) ≤ D.length := by omega
                have f1 : Hid (((D.take fin).map ch).flatten.length = fin * 7) := by show _ = _; rw [chs_len, List.length_take]; congr 1; omega
                have o1 := Lib.hid (chs_one (D.take fin))
                have f2 : Hid (((D.drop fin).map ch).flatten.length = (D.length - fin) * 7) := by show _ = _; rw [chs_len, List.length_drop]
                have o2 := Lib.hid (chs_one (D.drop fin))
                have n1 : Hid (∀ k u, ((D.take fin).map ch).flatten[k]? = some u → w3.cell? ((⟨g1, 0, none⟩ : Addr).add k) = some u) := fun k u hu => by
                  have := rpart_cells (p := 0) (M := D.take fin) HR3.out (fun i x hx => take_get hx) k u hu
                  rw [Nat.zero_mul] at this; exact this
                obtain ⟨ad, hadq, hadn⟩ : ∃ ad : Addr, some ad = (if cap1 = fin then some ⟨g1, 0, none⟩ else some ⟨g1, fin * 7, none⟩) ∧ (¬ cap1 = fin → ad = ⟨g1, fin * 7, none⟩) := by
                  split
                  · rename_i h0; exact ⟨_, rfl, fun h => absurd h0 h⟩
                  · exact ⟨_, rfl, fun _ => rfl⟩
                have n2 : Hid (∀ w7, RfRow 0 w7 (.slice (some ⟨g1, 0, none⟩) D.length cap1) D → ∀ k u, ((D.drop fin).map ch).flatten[k]? = some u → w7.cell? (ad.add k) = some u) := fun w7 hr k u hu => by
                  by_cases hce : cap1 = fin
                  · have : ((D.drop fin).map ch).flatten = [] := List.eq_nil_of_length_eq_zero (by rw [f2.out]; omega)
                    rw [this] at hu; simp at hu
                  · rw [hadn hce]
                    exact rpart_cells (p := fin) (M := D.drop fin) hr (fun i x hx => by rwa [List.getElem?_drop] at hx) k u hu
                have HADQ := Lib.hid hadq
                have HFL := Lib.hid (ins_flat (L := D) (p := fin) (x := (newP si sp ki kp fin, ⟨none, 0, 0⟩)))
                have HIL := Lib.hid (ins_length (L := D) (p := fin) (x := (newP si sp ki kp fin, ⟨none, 0, 0⟩)) hfl1)
                have hw2 : IntKind.u16.wrap (20000 + (fin : Int)) = 20000 + (fin : Int) := IntWalk.u16_in _ (by omega)
                have ho : Hid (ch (newP si sp ki kp fin, ⟨none, 0, 0⟩) = [.int .u32 si, .int .u16 sp, .int .u32 ki, .int .u16 kp, .int .u16 (20000 + (fin : Int)), .slice none 0 0, .int .u64 0]) := rfl
                have ho1 := ch_one (newP si sp ki kp fin, ⟨none, 0, 0⟩)
                rw [ho.out] at ho1
                rw [ho.out] at HFL
                clear hadq hadn
                generalize ((D.take fin).map ch).flatten = N1 at *
                generalize ((D.drop fin).map ch).flatten = N2 at *
                go_wp2_with (at_builtin; refine wpList_append_own _ rfl (.tmp 107) (.tmp 113) 62 rfl w3.heap.size 73 i0 _ 7 56 Try.underlying62 hi0 hz0 hz1 hz2 rfl (by omega) (.slice none 0 0) 0 [] rfl (World.ownsRow_nil _ _ _ _) ⟨g1, 0, none⟩ fin cap1 N1 rfl f1.out n1.out o1.out (by unfold maxLen; omega) (by omega) (Nat.le_refl _) ?_)
                intro v1 w6 hown hgrow _
                have t1 : Touch (fun _ => False) w3 w6 := Touch.of_grown hgrow (fun k hk => by simp [Value.ownBlock] at hk)
                have B6 := Lib.hid (t1.below (B := w3.heap.size) (Nat.le_refl _) (fun _ _ h => h.elim))
                have R6 := Lib.hid (rrow_touch HR3.out t1 (fun _ _ h => h))
                have y40 := (Y4.out.keep B6.out).cell 0 _ rfl
                have y41 := (Y4.out.keep B6.out).cell 1 _ rfl
                have y50 := (Y5.out.keep B6.out).cell 0 _ rfl
                have y51 := (Y5.out.keep B6.out).cell 1 _ rfl
                have gl4 := (Y4.out.keep B6.out).lt
                have gl5 := (Y5.out.keep B6.out).lt
                clear x5 gl
                have x5 := (Z3.out.keep B6.out).cell 5 _ rfl
                have gl := (Z3.out.keep B6.out).lt
                have OWN := Lib.hid hown
                have hs5 : Hid (w3.heap.size ≤ w6.heap.size) := t1.size
                clear hown hgrow t1
                go_wp2_with (at_builtin; refine wpList_append_lies _ rfl (.tmp 115) (.tmp 122) 62 rfl w3.heap.size 73 i0 _ 7 56 Try.underlying62 hi0 hz0 hz1 hz2 rfl (by omega) v1 fin N1 rfl (own_touch (F := fun _ => False) OWN.out ((Touch.refl _ _).alloc _) (fun _ _ h => h)) ⟨_, 0, none⟩ 1 1 [.int .u32 si, .int .u16 sp, .int .u32 ki, .int .u16 kp, .int .u16 (20000 + (fin : Int)), .slice none 0 0, .int .u64 0] rfl rfl (World.news_of_block (cs := ([.int .u32 si, .int .u16 sp, .int .u32 ki, .int .u16 kp, .int .u16 (20000 + (fin : Int)), .slice none 0 0, .int .u64 0] : List Value).toArray) (t := 73) (fr := (0, 0)) (heap_alloc_new _ _)) ho1 (by omega) (by unfold maxLen; omega) (by omega) (by have := hs5.out; simp; omega) _ rfl ?_)
                intro g2 cap2 w7 hown hgrow hat hlt7
                have t2 : Touch (fun b => w3.heap.size ≤ b) w6 w7 := ((Touch.refl _ w6).alloc _).trans (Touch.of_grown hgrow (fun k hk => (World.ownsRow.lt OWN.out k hk).1)) (fun _ _ h => h)
                have B7 := Lib.hid (B6.out.trans (t2.below (B := w3.heap.size) B6.out.size (fun _ _ h => h)))
                have R7 := Lib.hid (n2.out w7 (rrow_touch R6.out t2 (fun k hk h => by have e : g1 = k := Option.some.inj hk; omega)))
                have OWN7 := Lib.hid hown
                have hs7 : Hid (w3.heap.size ≤ w7.heap.size) := B7.out.size
                clear x5 gl hown hgrow hat t2 y40 y41 y50 y51 gl4 gl5
                have x5 := (Z3.out.keep B7.out).cell 5 _ rfl
                have gl := (Z3.out.keep B7.out).lt
                go_wp2_with (at_builtin; refine wpList_append_own _ rfl (.tmp 125) (.tmp 131) 62 rfl w3.heap.size 73 i0 _ 7 56 Try.underlying62 hi0 hz0 hz1 hz2 rfl (by omega) (.slice (some ⟨g2, 0, none⟩) (fin + 1) cap2) (fin + 1) (N1 ++ [.int .u32 si, .int .u16 sp, .int .u32 ki, .int .u16 kp, .int .u16 (20000 + (fin : Int)), .slice none 0 0, .int .u64 0]) rfl OWN7.out ad (D.length - fin) (cap1 - fin) N2 (by simp [Act.eval]; first | exact HADQ.out.symm | (have h := HADQ.out; rw [if_neg (by omega)] at h; first | exact h.symm | exact Option.some.inj h.symm)) f2.out R7.out o2.out (by unfold maxLen; omega) (by omega) hs7.out ?_)
                all_goals (
                  intro v3 w8 hown hgrow _
                  have B8 := Lib.hid (B7.out.grown hgrow B7.out.size (fun k hk => (World.ownsRow.lt OWN7.out k hk).1))
                  obtain ⟨sa, sn, sc, rfl⟩ := own_slice hown
                  have FIN := Lib.hid (rat_fin (sa := sa) (sn := sn) (sc := sc) (x := (newP si sp ki kp fin, ⟨none, 0, 0⟩)) hfl1 hgw T3.out Z3.out B8.out (by rw [HFL.out, HIL.out]; have h := hown; rw [show fin + 1 + (D.length - fin) = D.length + 1 by omega] at h; first | exact h | simpa using h))
                  clear x5 gl hown hgrow
                  have x5 := (Z3.out.keep B8.out).cell 5 _ rfl
                  have xf := (Z3.out.keep B8.out).free 5 _ rfl
                  have gl := (Z3.out.keep B8.out).lt
                  go_wp2_with fail
                  go_ret
                  rw [HD.out, HF.out]
                  exact ⟨rfl, FIN.out⟩)
            · obtain rfl : k = fin := by
                have e : k = D.length := by omega
                rw [← hF, e, List.drop_eq_nil_of_le (Nat.le_refl _)]; rfl
              have hfe : k = D.length := by omega
              have hlt2 : ¬ (k : Int) < D.length := by omega
              have hlt3 : decide ((k : Int) < D.length) = false := decide_eq_false hlt2
              clear hF
              rcases rrow_form HR3.out with ⟨h1, rfl⟩ | ⟨g1, cap1, h1, _⟩
              · simp only [Value.slice.injEq] at h1
                obtain ⟨rfl, -, rfl⟩ := h1
                obtain rfl : k = 0 := hfe
                clear RD3 hlt2 hlt3
                simp only [List.length_nil] at x5
                rw [show ((0 : Nat) : Int) = 0 from rfl]
                have hw2 : IntKind.u16.wrap (20000 + (0 : Int)) = 20000 + (0 : Int) := IntWalk.u16_in _ (by omega)
                have ho1 := ch_one (newP si sp ki kp 0, ⟨none, 0, 0⟩)
                have ho : Hid (ch (newP si sp ki kp 0, ⟨none, 0, 0⟩) = [.int .u32 si, .int .u16 sp, .int .u32 ki, .int .u16 kp, .int .u16 20000, .slice none 0 0, .int .u64 0]) := rfl
                have HFL := Lib.hid (ins_flat (L := []) (p := 0) (x := (newP si sp ki kp 0, ⟨none, 0, 0⟩)))
                rw [ho.out] at ho1 HFL
                go_wp2_with (at_builtin; refine wpList_append_part _ rfl (.tmp 107) (.tmp 113) 62 rfl w3.heap.size 73 i0 _ 7 56 Try.underlying62 hi0 hz0 hz1 hz2 rfl (by omega) (.slice none 0 0) 0 [] rfl (World.ownsRow_nil _ _ _ _) none 0 0 [] rfl rfl (fun _ h => by cases h) (by simp) (fun _ => ⟨rfl, rfl⟩) (by unfold maxLen; omega) (by omega) (Nat.le_refl _) ?_)
                intro v1 w6 hown hgrow
                have t1 : Touch (fun _ => False) w3 w6 := Touch.of_grown hgrow (fun k hk => by simp [Value.ownBlock] at hk)
                have B6 := Lib.hid (t1.below (B := w3.heap.size) (Nat.le_refl _) (fun _ _ h => h.elim))
                have y40 := (Y4.out.keep B6.out).cell 0 _ rfl
                have y41 := (Y4.out.keep B6.out).cell 1 _ rfl
                have y50 := (Y5.out.keep B6.out).cell 0 _ rfl
                have y51 := (Y5.out.keep B6.out).cell 1 _ rfl
                have gl4 := (Y4.out.keep B6.out).lt
                have gl5 := (Y5.out.keep B6.out).lt
                clear x5 gl
                have x5 := (Z3.out.keep B6.out).cell 5 _ rfl
                have gl := (Z3.out.keep B6.out).lt
                have OWN := Lib.hid hown
                have hs5 : Hid (w3.heap.size ≤ w6.heap.size) := t1.size
                clear hown hgrow t1
                go_wp2_with (at_builtin; refine wpList_append_lies _ rfl (.tmp 115) (.tmp 122) 62 rfl w3.heap.size 73 i0 _ 7 56 Try.underlying62 hi0 hz0 hz1 hz2 rfl (by omega) v1 0 [] rfl (own_touch (F := fun _ => False) OWN.out ((Touch.refl _ _).alloc _) (fun _ _ h => h)) ⟨_, 0, none⟩ 1 1 [.int .u32 si, .int .u16 sp, .int .u32 ki, .int .u16 kp, .int .u16 20000, .slice none 0 0, .int .u64 0] rfl rfl (World.news_of_block (cs := ([.int .u32 si, .int .u16 sp, .int .u32 ki, .int .u16 kp, .int .u16 20000, .slice none 0 0, .int .u64 0] : List Value).toArray) (t := 73) (fr := (0, 0)) (heap_alloc_new _ _)) ho1 (by omega) (by unfold maxLen; omega) (by omega) (by have := hs5.out; simp; omega) _ rfl ?_)
                intro g2 cap2 w7 hown hgrow hat hlt7
                have t2 : Touch (fun b => w3.heap.size ≤ b) w6 w7 := ((Touch.refl _ w6).alloc _).trans (Touch.of_grown hgrow (fun k hk => (World.ownsRow.lt OWN.out k hk).1)) (fun _ _ h => h)
                have B7 := Lib.hid (B6.out.trans (t2.below (B := w3.heap.size) B6.out.size (fun _ _ h => h)))
                have OWN7 := Lib.hid hown
                have hs7 : Hid (w3.heap.size ≤ w7.heap.size) := B7.out.size
                clear x5 gl hown hgrow hat t2 y40 y41 y50 y51 gl4 gl5
                have x5 := (Z3.out.keep B7.out).cell 5 _ rfl
                have gl := (Z3.out.keep B7.out).lt
                go_wp2_with (at_builtin; refine wpList_append_part _ rfl (.tmp 125) (.tmp 131) 62 rfl w3.heap.size 73 i0 _ 7 56 Try.underlying62 hi0 hz0 hz1 hz2 rfl (by omega) (.slice (some ⟨g2, 0, none⟩) 1 cap2) 1 [.int .u32 si, .int .u16 sp, .int .u32 ki, .int .u16 kp, .int .u16 20000, .slice none 0 0, .int .u64 0] rfl OWN7.out none 0 0 [] rfl rfl (fun _ h => by cases h) (by simp) (fun _ => ⟨rfl, rfl⟩) (by unfold maxLen; omega) (by omega) hs7.out ?_)
                intro v3 w8 hown hgrow
                have B8 := Lib.hid (B7.out.grown hgrow B7.out.size (fun k hk => (World.ownsRow.lt OWN7.out k hk).1))
                obtain ⟨sa, sn, sc, rfl⟩ := own_slice hown
                have FIN := Lib.hid (rat_fin (sa := sa) (sn := sn) (sc := sc) (D := []) (fin := 0) (x := (newP si sp ki kp 0, ⟨none, 0, 0⟩)) (Nat.le_refl _) hgw T3.out Z3.out B8.out (by rw [HFL.out]; simpa [insL] using hown))
                clear x5 gl hown hgrow
                have x5 := (Z3.out.keep B8.out).cell 5 _ rfl
                have xf := (Z3.out.keep B8.out).free 5 _ rfl
                have gl := (Z3.out.keep B8.out).lt
                go_wp2_with fail
                go_ret
                rw [HD.out]
                exact ⟨rfl, FIN.out⟩
              · simp only [Value.slice.injEq, true_and] at h1
                obtain ⟨rfl, rfl⟩ := h1
                obtain ⟨fin, rfl⟩ : ∃ fin, fin = k := ⟨_, rfl⟩
                obtain ⟨cap1, rfl⟩ : ∃ cap1, cap1 = c2 := ⟨_, rfl⟩
                clear RD3 hfe hlt
                have hcap1 : Hid (D.length ≤ cap1 ∧ cap1 ≤ maxLen) := by
                  obtain ⟨_, C, _, q2, _, q4, q5⟩ := rrow_open HR3.out
                  exact ⟨q4, q5⟩
                have hg1 : g1 < w3.heap.size := by
                  rcases rrow_form HR3.out with ⟨h1, _⟩ | ⟨_, _, h1, h2⟩
                  · simp at h1
                  · simp at h1; rw [h1.1]; exact h2
                have hc1 : fin ≤ cap1 := by have := hcap1.out.1; omega
                have hc2' : (fin : Int) ≤ cap1 := by omega
                have hc3 : D.length ≤ cap1 := hcap1.out.1
                have hfd : (fin : Int) ≤ D.length := by omega
                have f1 : Hid (((D.take fin).map ch).flatten.length = fin * 7) := by show _ = _; rw [chs_len, List.length_take]; congr 1; omega
                have o1 := Lib.hid (chs_one (D.take fin))
                have f2 : Hid (((D.drop fin).map ch).flatten.length = (D.length - fin) * 7) := by show _ = _; rw [chs_len, List.length_drop]
                have o2 := Lib.hid (chs_one (D.drop fin))
                have n1 : Hid (∀ k u, ((D.take fin).map ch).flatten[k]? = some u → w3.cell? ((⟨g1, 0, none⟩ : Addr).add k) = some u) := fun k u hu => by
                  have := rpart_cells (p := 0) (M := D.take fin) HR3.out (fun i x hx => take_get hx) k u hu
                  rw [Nat.zero_mul] at this; exact this
                obtain ⟨ad, hadq, hadn⟩ : ∃ ad : Addr, some ad = (if cap1 = fin then some ⟨g1, 0, none⟩ else some ⟨g1, fin * 7, none⟩) ∧ (¬ cap1 = fin → ad = ⟨g1, fin * 7, none⟩) := by
                  split
                  · rename_i h0; exact ⟨_, rfl, fun h => absurd h0 h⟩
                  · exact ⟨_, rfl, fun _ => rfl⟩
                have n2 : Hid (∀ w7, RfRow 0 w7 (.slice (some ⟨g1, 0, none⟩) D.length cap1) D → ∀ k u, ((D.drop fin).map ch).flatten[k]? = some u → w7.cell? (ad.add k) = some u) := fun w7 hr k u hu => by
                  by_cases hce : cap1 = fin
                  · have : ((D.drop fin).map ch).flatten = [] := List.eq_nil_of_length_eq_zero (by rw [f2.out]; omega)
                    rw [this] at hu; simp at hu
                  · rw [hadn hce]
                    exact rpart_cells (p := fin) (M := D.drop fin) hr (fun i x hx => by rwa [List.getElem?_drop] at hx) k u hu
                have HADQ := Lib.hid hadq
                have HFL := Lib.hid (ins_flat (L := D) (p := fin) (x := (newP si sp ki kp fin, ⟨none, 0, 0⟩)))
                have HIL := Lib.hid (ins_length (L := D) (p := fin) (x := (newP si sp ki kp fin, ⟨none, 0, 0⟩)) hfl1)
                have hw2 : IntKind.u16.wrap (20000 + (fin : Int)) = 20000 + (fin : Int) := IntWalk.u16_in _ (by omega)
                have ho : Hid (ch (newP si sp ki kp fin, ⟨none, 0, 0⟩) = [.int .u32 si, .int .u16 sp, .int .u32 ki, .int .u16 kp, .int .u16 (20000 + (fin : Int)), .slice none 0 0, .int .u64 0]) := rfl
                have ho1 := ch_one (newP si sp ki kp fin, ⟨none, 0, 0⟩)
                rw [ho.out] at ho1
                rw [ho.out] at HFL
                clear hadq hadn
                generalize ((D.take fin).map ch).flatten = N1 at *
                generalize ((D.drop fin).map ch).flatten = N2 at *
                go_wp2_with (at_builtin; refine wpList_append_own _ rfl (.tmp 107) (.tmp 113) 62 rfl w3.heap.size 73 i0 _ 7 56 Try.underlying62 hi0 hz0 hz1 hz2 rfl (by omega) (.slice none 0 0) 0 [] rfl (World.ownsRow_nil _ _ _ _) ⟨g1, 0, none⟩ fin cap1 N1 rfl f1.out n1.out o1.out (by unfold maxLen; omega) (by omega) (Nat.le_refl _) ?_)
                intro v1 w6 hown hgrow _
                have t1 : Touch (fun _ => False) w3 w6 := Touch.of_grown hgrow (fun k hk => by simp [Value.ownBlock] at hk)
                have B6 := Lib.hid (t1.below (B := w3.heap.size) (Nat.le_refl _) (fun _ _ h => h.elim))
                have R6 := Lib.hid (rrow_touch HR3.out t1 (fun _ _ h => h))
                have y40 := (Y4.out.keep B6.out).cell 0 _ rfl
                have y41 := (Y4.out.keep B6.out).cell 1 _ rfl
                have y50 := (Y5.out.keep B6.out).cell 0 _ rfl
                have y51 := (Y5.out.keep B6.out).cell 1 _ rfl
                have gl4 := (Y4.out.keep B6.out).lt
                have gl5 := (Y5.out.keep B6.out).lt
                clear x5 gl
                have x5 := (Z3.out.keep B6.out).cell 5 _ rfl
                have gl := (Z3.out.keep B6.out).lt
                have OWN := Lib.hid hown
                have hs5 : Hid (w3.heap.size ≤ w6.heap.size) := t1.size
                clear hown hgrow t1
                go_wp2_with (at_builtin; refine wpList_append_lies _ rfl (.tmp 115) (.tmp 122) 62 rfl w3.heap.size 73 i0 _ 7 56 Try.underlying62 hi0 hz0 hz1 hz2 rfl (by omega) v1 fin N1 rfl (own_touch (F := fun _ => False) OWN.out ((Touch.refl _ _).alloc _) (fun _ _ h => h)) ⟨_, 0, none⟩ 1 1 [.int .u32 si, .int .u16 sp, .int .u32 ki, .int .u16 kp, .int .u16 (20000 + (fin : Int)), .slice none 0 0, .int .u64 0] rfl rfl (World.news_of_block (cs := ([.int .u32 si, .int .u16 sp, .int .u32 ki, .int .u16 kp, .int .u16 (20000 + (fin : Int)), .slice none 0 0, .int .u64 0] : List Value).toArray) (t := 73) (fr := (0, 0)) (heap_alloc_new _ _)) ho1 (by omega) (by unfold maxLen; omega) (by omega) (by have := hs5.out; simp; omega) _ rfl ?_)
                intro g2 cap2 w7 hown hgrow hat hlt7
                have t2 : Touch (fun b => w3.heap.size ≤ b) w6 w7 := ((Touch.refl _ w6).alloc _).trans (Touch.of_grown hgrow (fun k hk => (World.ownsRow.lt OWN.out k hk).1)) (fun _ _ h => h)
                have B7 := Lib.hid (B6.out.trans (t2.below (B := w3.heap.size) B6.out.size (fun _ _ h => h)))
                have R7 := Lib.hid (n2.out w7 (rrow_touch R6.out t2 (fun k hk h => by have e : g1 = k := Option.some.inj hk; omega)))
                have OWN7 := Lib.hid hown
                have hs7 : Hid (w3.heap.size ≤ w7.heap.size) := B7.out.size
                clear x5 gl hown hgrow hat t2 y40 y41 y50 y51 gl4 gl5
                have x5 := (Z3.out.keep B7.out).cell 5 _ rfl
                have gl := (Z3.out.keep B7.out).lt
                go_wp2_with (at_builtin; refine wpList_append_own _ rfl (.tmp 125) (.tmp 131) 62 rfl w3.heap.size 73 i0 _ 7 56 Try.underlying62 hi0 hz0 hz1 hz2 rfl (by omega) (.slice (some ⟨g2, 0, none⟩) (fin + 1) cap2) (fin + 1) (N1 ++ [.int .u32 si, .int .u16 sp, .int .u32 ki, .int .u16 kp, .int .u16 (20000 + (fin : Int)), .slice none 0 0, .int .u64 0]) rfl OWN7.out ad (D.length - fin) (cap1 - fin) N2 (by simp [Act.eval]; first | exact HADQ.out.symm | (have h := HADQ.out; rw [if_neg (by omega)] at h; first | exact h.symm | exact Option.some.inj h.symm)) f2.out R7.out o2.out (by unfold maxLen; omega) (by omega) hs7.out ?_)
                all_goals (
                  intro v3 w8 hown hgrow _
                  have B8 := Lib.hid (B7.out.grown hgrow B7.out.size (fun k hk => (World.ownsRow.lt OWN7.out k hk).1))
                  obtain ⟨sa, sn, sc, rfl⟩ := own_slice hown
                  have FIN := Lib.hid (rat_fin (sa := sa) (sn := sn) (sc := sc) (x := (newP si sp ki kp fin, ⟨none, 0, 0⟩)) hfl1 hgw T3.out Z3.out B8.out (by rw [HFL.out, HIL.out]; have h := hown; rw [show fin + 1 + (D.length - fin) = D.length + 1 by omega] at h; first | exact h | simpa using h))
                  clear x5 gl hown hgrow
                  have x5 := (Z3.out.keep B8.out).cell 5 _ rfl
                  have xf := (Z3.out.keep B8.out).free 5 _ rfl
                  have gl := (Z3.out.keep B8.out).lt
                  go_wp2_with fail
                  go_ret
                  rw [HD.out, HF.out]
                  exact ⟨rfl, FIN.out⟩)
end Go.Proofs.Ytnemmnndaoaadaa
