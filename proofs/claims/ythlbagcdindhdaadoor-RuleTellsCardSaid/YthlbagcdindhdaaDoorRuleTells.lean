/- The statement RuleTells: of any two types, near to what may be or not, any list of addresses (its first 20) and any address, all is told as the chapter's reference tells it. No conditions but the row's own: the table of words lies as the program's text lays it. -/
import Derived.Test.YthlbagcdindhdaaDoorRuleFilters
import Derived.SevenTiedAt
import Derived.ChangeOld
import Derived.ChangeMaps5
import Derived.ShutString
import Derived.OpenShut
import Derived.SizedLaws
import Derived.Lib.SmallJoins
import Derived.Test.YthlbagcdindhdaaDoorRuleLoop
import Derived.Deep.DeepCutAuto
import Derived.Deep.SlicePairs
namespace Go.Proofs.YthlbagcdindhdaaDoor
open Go.Sort Go.RowKit Go.BigFrame Go.ChangeShapes Go.WideShapes Go.ChangeAt
open Go.ChangeMaps (open_string shut_string)
set_option linter.unusedVariables false
set_option linter.unusedSimpArgs false

def TellsJ (w : World) (gx gy gs gp gq B : Nat) (m f n g p q : Int) (l : List (Int × Int)) (v i : Value) (wr : World) : Prop :=
  ∃ j : Nat, j ≤ l.length ∧ i = .int .i64 j ∧ St gx gy gs gp gq B m f n g p q l v j wr ∧ Below w.heap.size w wr
set_option maxRecDepth 100000 in
set_option maxHeartbeats 16000000 in
theorem ruleTells_walk (m f n g : Int) (near : Bool) (a : Option Addr) (len cap L : Nat) (l : List (Int × Int)) (p q t : Int) (hL : L = min len 20) (hlL : l.length = L) (hlen : len ≤ 9223372036854775807) (hcap : len ≤ cap) (ht0 : 0 ≤ t ∧ t ≤ 255) (w : World) (hr : RdA w w.heap.size a l) (ht : Tab w) :
    Calls Tryd.prog 3 #[.agg #[.int .i64 m, .int .i64 f], .agg #[.int .i64 n, .int .i64 g], .bool near, .slice a len cap, .agg #[.int .u32 p, .int .u16 q], .int .u8 t] w fun e w' => e = .returned (.bool true) ∧ Below w.heap.size w w' := by
  have hL1 : L ≤ 20 := by omega
  have hL2 : L ≤ cap := by omega
  have HM := Lib.hid hL
  have HT := Lib.hid ht
  have HR := Lib.hid hr
  have HL := Lib.hid hlL
  clear hL ht hr hlL
  have X : Hid (Bx w.heap.size (w.heap.size + 1) (w.heap.size + 1 + 1) m f n g p q (((w.alloc (.cells #[.int .i64 m, .int .i64 f] 23)).alloc (.cells #[.int .i64 n, .int .i64 g] 23)).alloc (.cells #[.int .u32 p, .int .u16 q] 28))) := by
    have h1 := Cs.new (w.alloc (.cells #[.int .i64 m, .int .i64 f] 23)) [.int .i64 n, .int .i64 g] 23
    have h2 := Cs.new ((w.alloc (.cells #[.int .i64 m, .int .i64 f] 23)).alloc (.cells #[.int .i64 n, .int .i64 g] 23)) [.int .u32 p, .int .u16 q] 28
    simp only [World.size_alloc] at h1 h2
    exact ⟨((Cs.new w [.int .i64 m, .int .i64 f] 23).alloc _).alloc _, h1.alloc _, h2⟩
  have hB : Hid (Below w.heap.size w (((w.alloc (.cells #[.int .i64 m, .int .i64 f] 23)).alloc (.cells #[.int .i64 n, .int .i64 g] 23)).alloc (.cells #[.int .u32 p, .int .u16 q] 28))) := by show Below _ _ _; (repeat (first | with_reducible exact Below.refl _ _ | with_reducible refine Below.drew ?_ | with_reducible refine below_drewN ?_ _ | with_reducible refine Below.alloc ?_ (by first | omega | (simp; done) | (simp; omega)) _ | with_reducible refine Below.setCell ?_ (by first | omega | (simp; done) | (simp; omega)) _))
  go_enter Tryd.func3, Tryd.ntmps3
  go_wp2_with fail
  refine (examples_yes _ (HT.out.below hB.out)).mono ?_; rintro e w1 ⟨rfl, d⟩
  replace X := Lib.hid (X.out.keep d)
  replace hB : Hid (Below w.heap.size w _) := (hB.out).trans (d.mono (hB.out).size); clear d
  have x0 := X.out.x.cell 0 _ rfl
  have x1 := X.out.x.cell 1 _ rfl
  have y0 := X.out.y.cell 0 _ rfl
  have y1 := X.out.y.cell 1 _ rfl
  have s0 := X.out.s.cell 0 _ rfl
  have s1 := X.out.s.cell 1 _ rfl
  have xf0 := X.out.x.free 0 _ rfl
  have xf1 := X.out.x.free 1 _ rfl
  have yf0 := X.out.y.free 0 _ rfl
  have yf1 := X.out.y.free 1 _ rfl
  have sf0 := X.out.s.free 0 _ rfl
  have sf1 := X.out.s.free 1 _ rfl
  have xl := X.out.x.lt
  have yl := X.out.y.lt
  have sl := X.out.s.lt
  go_upto_if 21 with fail
  go_cut [] (fun wx => ∃ m2 f2 n2 g2, Bx w.heap.size (w.heap.size + 1) (w.heap.size + 1 + 1) m2 f2 n2 g2 p q wx ∧ Below w.heap.size w wx)
  case first =>
    cases near
    · go_wp2_with fail
      go_meet
      exact ⟨m, f, n, g, X.out, hB.out⟩
    · go_wp2_with fail
      go_meet
      refine ⟨m.tmod 4, f.tmod 4, n.tmod 4, g.tmod 4, ⟨?_, ?_, ?_⟩, ?_⟩
      · exact (((X.out.x.set 0 _ (by first | (simp; done) | (simp; omega))).set 1 _ (by first | (simp; done) | (simp; omega))).far _ _ (by first | (simp; done) | (simp; omega))).far _ _ (by first | (simp; done) | (simp; omega))
      · exact (((X.out.y.far _ _ (by first | (simp; done) | (simp; omega))).far _ _ (by first | (simp; done) | (simp; omega))).set 0 _ (by first | (simp; done) | (simp; omega))).set 1 _ (by first | (simp; done) | (simp; omega))
      · exact (((X.out.s.far _ _ (by first | (simp; done) | (simp; omega))).far _ _ (by first | (simp; done) | (simp; omega))).far _ _ (by first | (simp; done) | (simp; omega))).far _ _ (by first | (simp; done) | (simp; omega))
      · have hb := hB.out
        (have zzh := Below.size hb; repeat (first | with_reducible exact hb | with_reducible refine Below.setCell ?_ (by first | omega | (simp; done) | (simp; omega)) _ | with_reducible refine Below.alloc ?_ (by first | omega | (simp; done) | (simp; omega)) _ | with_reducible refine Below.drew ?_))
  case rest =>
    obtain ⟨m2, f2, n2, g2, hx, hb⟩ := hcut
    generalize wc = w2 at *
    replace X := Lib.hid hx
    replace hB := Lib.hid hb
    clear hx hb
    clear x0 x1 y0 y1 s0 s1 xf0 xf1 yf0 yf1 sf0 sf1 xl yl sl
    go_upto_region 7 with fail
    go_cut [3] (fun x wx => x = .slice a L cap ∧ w2 = wx)
    case first =>
      by_cases h12 : len ≤ 20
      · obtain rfl : L = len := by have := HM.out; omega
        go_wp2_with fail
        go_meet
        exact ⟨rfl, rfl⟩
      · obtain rfl : L = 20 := by have := HM.out; omega
        go_wp2_with fail
        go_meet
        exact ⟨rfl, rfl⟩
    case rest =>
      obtain ⟨rfl, rfl⟩ := hcut
      clear HM hlen hcap
      have hLi : (L : Int) ≤ 20 := by omega
      have x0 := X.out.x.cell 0 _ rfl
      have x1 := X.out.x.cell 1 _ rfl
      have y0 := X.out.y.cell 0 _ rfl
      have y1 := X.out.y.cell 1 _ rfl
      have s0 := X.out.s.cell 0 _ rfl
      have s1 := X.out.s.cell 1 _ rfl
      have xf0 := X.out.x.free 0 _ rfl
      have xf1 := X.out.x.free 1 _ rfl
      have yf0 := X.out.y.free 0 _ rfl
      have yf1 := X.out.y.free 1 _ rfl
      have sf0 := X.out.s.free 0 _ rfl
      have sf1 := X.out.s.free 1 _ rfl
      have xl := X.out.x.lt
      have yl := X.out.y.lt
      have sl := X.out.s.lt
      have h3 : t % 3 = 0 ∨ t % 3 = 1 ∨ t % 3 = 2 := by omega
      have h3' : t.tmod 3 = t % 3 := tmod_pos _ _ ht0.1
      obtain ⟨bb, hbb⟩ : ∃ bb, (decide (0 < L) && decide (0 < t % 3)) = bb := ⟨_, rfl⟩
      have Hbb := Lib.hid hbb
      clear hbb
      go_upto_region 8 with fail
      go_cut [48] (fun c wx => c = .bool bb ∧ w2 = wx)
      case first =>
        by_cases h0 : L = 0
        · subst h0
          obtain rfl : false = bb := Hbb.out
          go_wp2_with fail
          go_meet
          exact ⟨rfl, rfl⟩
        · have hLp : (0 : Int) < L := by omega
          have hLn : 0 < L := by omega
          have hd : decide (0 < L) = true := decide_eq_true hLn
          have hd2 : decide ((0 : Int) < L) = true := decide_eq_true hLp
          rw [hd, Bool.true_and] at Hbb
          rcases h3 with e3 | e3 | e3
          all_goals
            rw [e3] at h3' Hbb
            obtain rfl := Hbb.out
            clear Hbb
            go_wp2_with fail
            go_meet
            exact ⟨rfl, rfl⟩
      case rest =>
      obtain ⟨rfl, rfl⟩ := hcut
      go_upto_if 48 with fail
      go_cut [] (fun wx => ∃ p2 q2, Bx w.heap.size (w.heap.size + 1) (w.heap.size + 1 + 1) m2 f2 n2 g2 p2 q2 wx ∧ Below w.heap.size w wx)
      case first =>
        by_cases h0 : L = 0
        · subst h0
          obtain rfl : false = bb := Hbb.out
          go_wp2_with fail
          go_meet
          exact ⟨p, q, X.out, hB.out⟩
        · have hLp : (0 : Int) < L := by omega
          obtain ⟨b, off, rfl, hbl, hc⟩ := HR.out.below hB.out (by rw [HL.out]; omega)
          obtain ⟨k, hk⟩ : ∃ k : Nat, (t % (L : Int)) = (k : Int) := ⟨(t % (L : Int)).toNat, by have := Int.emod_nonneg t (show (L : Int) ≠ 0 by omega); omega⟩
          have hk2 : t.tmod (L : Int) = (k : Int) := by rw [tmod_pos _ _ ht0.1]; exact hk
          have hkm : (k : Int) < L := by rw [← hk]; exact Int.emod_lt_of_pos _ hLp
          have hk0 : (0 : Int) ≤ k := by omega
          obtain ⟨c0, c1⟩ := hc k (by rw [HL.out]; omega)
          generalize (l[k]'(by rw [HL.out]; omega)) = r at *
          obtain ⟨p1, q1⟩ := r
          simp only at c0 c1
          clear hc
          have hd : decide (0 < L) = true := decide_eq_true (by omega)
          rw [hd, Bool.true_and] at Hbb
          rcases h3 with e3 | e3 | e3
          · rw [e3] at h3' Hbb
            obtain rfl := Hbb.out
            clear Hbb
            go_wp2_with fail
            go_meet
            exact ⟨p, q, X.out, hB.out⟩
          · rw [e3] at h3' Hbb
            obtain rfl := Hbb.out
            clear Hbb
            go_wp2_with fail
            go_meet
            refine ⟨p1, q, ⟨X.out.x.far _ _ (by first | (simp; done) | (simp; omega)), X.out.y.far _ _ (by first | (simp; done) | (simp; omega)), X.out.s.set 0 _ (by first | (simp; done) | (simp; omega))⟩, ?_⟩
            have hb := hB.out
            (have zzh := Below.size hb; repeat (first | with_reducible exact hb | with_reducible refine Below.setCell ?_ (by first | omega | (simp; done) | (simp; omega)) _ | with_reducible refine Below.alloc ?_ (by first | omega | (simp; done) | (simp; omega)) _ | with_reducible refine Below.drew ?_))
          · rw [e3] at h3' Hbb
            obtain rfl := Hbb.out
            clear Hbb
            go_wp2_with fail
            go_meet
            refine ⟨p1, q1, ⟨((X.out.x.far _ _ (by first | (simp; done) | (simp; omega))).far _ _ (by first | (simp; done) | (simp; omega))).far _ _ (by first | (simp; done) | (simp; omega)), ((X.out.y.far _ _ (by first | (simp; done) | (simp; omega))).far _ _ (by first | (simp; done) | (simp; omega))).far _ _ (by first | (simp; done) | (simp; omega)), ((X.out.s.set 0 _ (by first | (simp; done) | (simp; omega))).set 0 _ (by first | (simp; done) | (simp; omega))).set 1 _ (by first | (simp; done) | (simp; omega))⟩, ?_⟩
            have hb := hB.out
            (have zzh := Below.size hb; repeat (first | with_reducible exact hb | with_reducible refine Below.setCell ?_ (by first | omega | (simp; done) | (simp; omega)) _ | with_reducible refine Below.alloc ?_ (by first | omega | (simp; done) | (simp; omega)) _ | with_reducible refine Below.drew ?_))
      case rest =>
        obtain ⟨p2, q2, hx, hb⟩ := hcut
        generalize wc = w3 at *
        replace X := Lib.hid hx
        replace hB := Lib.hid hb
        clear hx hb h3 h3' Hbb
        clear x0 x1 y0 y1 s0 s1 xf0 xf1 yf0 yf1 sf0 sf1 xl yl sl
        have x0 := X.out.x.cell 0 _ rfl
        have x1 := X.out.x.cell 1 _ rfl
        have y0 := X.out.y.cell 0 _ rfl
        have y1 := X.out.y.cell 1 _ rfl
        have xl := X.out.x.lt
        have yl := X.out.y.lt
        have S0 : Hid (St w.heap.size (w.heap.size + 1) (w.heap.size + 1 + 1) w3.heap.size (w3.heap.size + 1) (w3.heap.size + 1 + 1) m2 f2 n2 g2 p2 q2 l (.slice none 0 0) 0 ((w3.alloc (.cells #[.int .i64 m2, .int .i64 f2] 30)).alloc (.cells #[.int .i64 n2, .int .i64 g2] 30))) := st_start X.out l
        have hlo := hB.out.size
        replace hB : Hid (Below w.heap.size w ((w3.alloc (.cells #[.int .i64 m2, .int .i64 f2] 30)).alloc (.cells #[.int .i64 n2, .int .i64 g2] 30))) := by
          have hb := hB.out
          show Below _ _ _
          (have zzh := Below.size hb; repeat (first | with_reducible exact hb | with_reducible refine Below.setCell ?_ (by first | omega | (simp; done) | (simp; omega)) _ | with_reducible refine Below.alloc ?_ (by first | omega | (simp; done) | (simp; omega)) _ | with_reducible refine Below.drew ?_))
        go_wp2_with fail
        clear x0 x1 y0 y1 xl yl X
        generalize ((w3.alloc (.cells #[.int .i64 m2, .int .i64 f2] 30)).alloc (.cells #[.int .i64 n2, .int .i64 g2] 30)) = w4 at *
        generalize w3.heap.size = h3 at *
        go_loopw [16, 17] (fun v i wr => TellsJ w (w.heap.size) (w.heap.size + 1) (w.heap.size + 1 + 1) h3 (h3 + 1) (h3 + 1 + 1) m2 f2 n2 g2 p2 q2 l v i wr) (fun _ i _ => L - (intOf i).toNat)
        case atStart => exact ⟨0, Nat.zero_le _, rfl, S0.out, hB.out⟩
        case round =>
          obtain ⟨j, hj, rfl, hS, hb⟩ := hrel
          generalize u16 = v at *
          rw [HL.out] at hj
          clear S0 hB
          by_cases hlt : j < L
          · have hlt' : (j : Int) < L := by omega
            have hj0 : (0 : Int) ≤ j := by omega
            obtain ⟨b, off, rfl, hbl, hc⟩ := HR.out.below hb (by rw [HL.out]; omega)
            obtain ⟨c0, c1⟩ := hc j (by rw [HL.out]; omega)
            have HS := Lib.hid hS
            have HB := Lib.hid hb
            obtain ⟨i0, hi0, hz0, hz1, hz2⟩ := info_parts info_raddr
            have hjl : j < l.length := by rw [HL.out]; exact hlt
            have hst := fun (wa wb : World) (v' : Value) (h : St w.heap.size (w.heap.size + 1) (w.heap.size + 1 + 1) h3 (h3 + 1) (h3 + 1 + 1) m2 f2 n2 g2 p2 q2 l v j wa) hg hown => St.step (w' := wb) (v' := v') h hjl hg hown
            have hst := Lib.hid hst
            generalize (l[j]'hjl) = r at *
            obtain ⟨r1, r2⟩ := r
            simp only at c0 c1 hst
            clear hc hS hb hjl
            go_wp2_with fail
            refine (ref_any _ _ _).mono ?_; rintro e w6 ⟨rfl, d⟩
            have QS := Lib.hid ((HS.out.keep d).alloc (.cells #[.int .u32 r1, .int .u16 r2] 32))
            have QB : Hid (Below w.heap.size w (w6.alloc (.cells #[.int .u32 r1, .int .u16 r2] 32))) := (HB.out.trans (d.mono HB.out.size)).alloc (HB.out.trans (d.mono HB.out.size)).size _
            clear HS HB
            go_wp2_with (at_builtin; refine wpList_append_lies _ rfl (.tmp 86) (.tmp 92) 31 rfl (h3 + 1 + 1) 32 i0 _ 2 8 Tryd.underlying31 hi0 hz0 hz1 hz2 rfl (by omega) v j (flat (l.take j)) rfl QS.out.own ⟨_, 0, none⟩ 1 1 [.int .u32 r1, .int .u16 r2] rfl rfl (World.news_of_block (cs := #[.int .u32 r1, .int .u16 r2]) (t := 32) (fr := (0, 0)) (heap_alloc_new _ _)) ?c1 (by omega) ?c2 ?c3 ?c4 _ rfl ?_)
            case c1 => simp [Value.oneCell']
            case c2 => unfold maxLen; omega
            case c3 => omega
            case c4 => exact QS.out.sz
            intro g1 cap1 w9 hown hgrow hat hlt9
            have fin := Lib.hid (hst.out _ _ _ QS.out hgrow hown)
            have bin := Lib.hid (QB.out.grown hgrow QB.out.size (fun k hk => Nat.le_trans (by omega) (QS.out.row k hk)))
            clear hown hgrow hat hst QS QB
            go_wp2
            go_roundw
            case rel => exact ⟨j + 1, by rw [HL.out]; omega, by go_num, fin.out, bin.out⟩
            case measure => simp [intOf]; omega
          · obtain rfl : j = L := by omega
            have e : l.take j = l := List.take_of_length_le (by rw [HL.out]; exact Nat.le_refl _)
            have hown := hS.own
            rw [e] at hown
            have hl := HL.out
            subst hl
            obtain ⟨A, cap2, rfl, hA⟩ := own_RdA hown
            clear hown e
            have HTw := Lib.hid (HT.out.below hb)
            have ha := (HR.out.below hb).more hb.size
            have hB := Lib.hid hb
            go_upto_region 19 with fail
            have hx := hS.b.x
            have hy := hS.b.y
            have hs := hS.b.s
            have hp := hS.p
            have hq := hS.q
            clear hS HT HR hb hlo HL hlt hj hL2 hLi ht0
            have hlen := hL1
            have x0 := cell_regrown (hx.cell 0 _ rfl)
            have x1 := cell_regrown (hx.cell 1 _ rfl)
            have y0 := cell_regrown (hy.cell 0 _ rfl)
            have y1 := cell_regrown (hy.cell 1 _ rfl)
            have s0 := cell_regrown (hs.cell 0 _ rfl)
            have s1 := cell_regrown (hs.cell 1 _ rfl)
            have p0 := cell_regrown (hp.cell 0 _ rfl)
            have p1 := cell_regrown (hp.cell 1 _ rfl)
            have q0 := cell_regrown (hq.cell 0 _ rfl)
            have q1 := cell_regrown (hq.cell 1 _ rfl)
            have K1 := fun d os => Calls.regrown_of (right_any m2 f2 (grow (redrawn wr d) os))
            have K2 := fun d os => Calls.regrown_of (rright_any m2 f2 (grow (redrawn wr d) os))
            have K3 := fun d os => Calls.regrown_of (key_any m2 f2 p2 q2 (grow (redrawn wr d) os))
            have K4 := fun d os => Calls.regrown_of (ref_any (keyIP m2 p2) (keyPort m2 q2) (grow (redrawn wr d) os))
            have K5 := fun d os => Calls.regrown_of (ref_any p2 q2 (grow (redrawn wr d) os))
            have K6 := fun d os => Calls.regrown_of (rkey_any m2 f2 p2 q2 (grow (redrawn wr d) os))
            have K7 := fun d os => Calls.regrown_of (passes_any m2 f2 a cap l (by omega) p2 q2 (grow (redrawn wr d) os) ((ha.below (below_regrown wr d os)).more (below_regrown wr d os).size))
            have K8 := fun d os => Calls.regrown_of (rpasses_any m2 f2 A cap2 l (by omega) p2 q2 (grow (redrawn wr d) os) ((hA.below (below_regrown wr d os)).more (below_regrown wr d os).size))
            have K9 := fun d os => Calls.regrown_of (through_any m2 f2 n2 g2 (grow (redrawn wr d) os))
            have K10 := fun d os => Calls.regrown_of (rthrough_any m2 f2 n2 g2 (grow (redrawn wr d) os))
            have K11 := fun d os => Calls.regrown_of (punch_any m2 f2 n2 g2 (grow (redrawn wr d) os))
            have K12 := fun d os => Calls.regrown_of (rpunch_any m2 f2 n2 g2 (grow (redrawn wr d) os))
            have K13 := fun d os => Calls.regrown_of (word_any m2 f2 (grow (redrawn wr d) os) (HTw.out.below (below_regrown wr d os)))
            have K14 := fun d os => Calls.regrown_of (rword_any m2 f2 (grow (redrawn wr d) os))
            clear hx hy hs hp hq ha hA HTw
            generalize rightT m2 f2 = b1 at *
            generalize keyIP m2 p2 = b2 at *
            generalize keyPort m2 q2 = b3 at *
            generalize passT f2 l p2 q2 = b4 at *
            generalize thruT m2 f2 n2 g2 = b5 at *
            generalize punchT m2 f2 n2 g2 = b6 at *
            generalize wordT m2 f2 = b7 at *
            generalize l.length = LL at *
            (refine wp_region_quiet_below (by kernel_rfl) (by kernel_rfl) ?_; (repeat (go_big_quiet_step (first | with_reducible exact K1 _ _ | with_reducible exact K2 _ _ | with_reducible exact K3 _ _ | with_reducible exact K4 _ _ | with_reducible exact K5 _ _ | with_reducible exact K6 _ _ | with_reducible exact K7 _ _ | with_reducible exact K8 _ _ | with_reducible exact K9 _ _ | with_reducible exact K10 _ _ | with_reducible exact K11 _ _ | with_reducible exact K12 _ _ | with_reducible exact K13 _ _ | with_reducible exact K14 _ _))); refine wpQuiet_nil ?_; intro _ hw'; obtain ⟨⟨dq, osq⟩, hw''⟩ := hw'; subst hw'')
            go_wp2
            go_ret
            exact ⟨rfl, hB.out.trans ((below_regrown wr dq osq).mono hB.out.size)⟩

theorem ruleTells_run (m f n g : Int) (near : Bool) (a : Option Addr) (len cap : Nat) (p q t : Int) (w : World) (_ : (Lit.int .i64 m).wf = true) (_ : (Lit.int .i64 f).wf = true) (_ : (Lit.int .i64 n).wf = true) (_ : (Lit.int .i64 g).wf = true)
    (wl : PairRow (IsInt .u32) (IsInt .u16) w a len cap) (_ : (Lit.int .u32 p).wf = true) (_ : (Lit.int .u16 q).wf = true) (wt : (Lit.int .u8 t).wf = true) (ht : Tab w) :
    Calls Tryd.prog 3 #[.agg #[.int .i64 m, .int .i64 f], .agg #[.int .i64 n, .int .i64 g], .bool near, .slice a len cap, .agg #[.int .u32 p, .int .u16 q], .int .u8 t] w fun e w' => e = .returned (.bool true) ∧ Below w.heap.size w w' := by
  obtain ⟨l, hl, hr⟩ := pair_list wl (min len 20) (by omega)
  have hcap : len ≤ cap := by rcases wl with ⟨_, h, _⟩ | ⟨_, _, h, _⟩ <;> omega
  exact ruleTells_walk m f n g near a len cap (min len 20) l p q t rfl hl wl.len hcap (bounds_u8 wt) w hr ht


theorem ruleTells_own : ownKnob Tryd.prog.godebug = none := by kernel_rfl
theorem ruleTells_laid : laidOutB Tryd.prog = true := by kernel_rfl
set_option maxRecDepth 100000 in
theorem ruleTells_lifted (os : Os) (started : os.Started) (H : Type) (enc : TypeId × Value → H) :
    ReturnsInHanded {} Tryd.checked os 3 .any (fun w args => (Rows.ruleTellsSpec.pre enc Tryd.prog Tryd.f3 [] false w args ∧ laidMetH Tryd.prog seatLaid w) ∧ sizedMet enc Tryd.prog Tryd.f3 (OpenSpec.ofChange Rows.ruleTellsSpec) false w args) (Rows.ruleTellsSpec.post enc Tryd.prog Tryd.f3 false true false false) := by
  refine returnsInHanded_of_change_and (C := Tryd.checked) (X := fun w _ => laidMetH Tryd.prog seatLaid w) (fun _ _ _ hh h => h.of_heap hh) ruleTells_own started (by kernel_rfl) Tryd.func3
    (ChangeSpec.witness_shaped (enc := enc) (C := Tryd.checked) (os := os) (X := fun w _ => laidMetH Tryd.prog seatLaid w) false (World.doorLaid Tryd.prog seatSteps os) #[.agg #[.int .i64 0, .int .i64 0], .agg #[.int .i64 0, .int .i64 0], .bool false, .slice none 0 0, .agg #[.int .u32 0, .int .u16 0], .int .u8 0] 8 rfl (World.shaped_of_RefB (by kernel_rfl) (by kernel_rfl)) (by kernel_rfl) (by kernel_rfl) (by kernel_rfl) (door_met os _)) ?_
  intro W base args ds gs before hval0 hW hcnd hsz hL _
  have hval : ∀ (j : Nat) t v, Tryd.f3.params[j]? = some t → args[j]? = some v → Value.okWide Tryd.prog W .any base t v := hval0
  have hW' := hW
  obtain ⟨p, q, hA0, hV, rfl, hfz, hnd⟩ := hW
  have hA : DataW.TrodAll enc Tryd.prog W 0 (fun _ => true) true Tryd.f3.params.toList args.toList ds p := hA0
  rw [Tryd.params3] at hA hval
  obtain ⟨v0, vs0, d0, ds0, p0, q0, hargs, rfl, rfl, h0, r0⟩ := trodAll_cons hA
  obtain ⟨v1, vs1, d1, ds1, p1, q1, rfl, rfl, rfl, h1, r1⟩ := trodAll_cons r0
  obtain ⟨v2, vs2, d2, ds2, p2, q2, rfl, rfl, rfl, h2, r2⟩ := trodAll_cons r1
  obtain ⟨v3, vs3, d3, ds3, p3, q3, rfl, rfl, rfl, h3, r3⟩ := trodAll_cons r2
  obtain ⟨v4, vs4, d4, ds4, p4, q4, rfl, rfl, rfl, h4, r4⟩ := trodAll_cons r3
  obtain ⟨v5, vs5, d5, ds5, p5, q5, rfl, rfl, rfl, h5, r5⟩ := trodAll_cons r4
  obtain ⟨rfl, rfl, rfl⟩ := trodAll_nil r5
  obtain rfl : args = #[v0, v1, v2, v3, v4, v5] := by cases args; simp_all
  obtain ⟨rfl, rfl⟩ := trodVars_none hV
  have k0 := h0
  have lt0 : ∀ x ∈ p0, x.block < W.heap.size := by obtain ⟨m, hm⟩ := k0; exact DataW.trod_lt m _ _ _ hm
  obtain ⟨c0_0, c0_1, y0_0, y0_1, n0, rfl, rfl, rfl, t0_0, t0_1⟩ := Joins.open_agg2 Tryd.underlying23 (by kernel_rfl) (by kernel_rfl) (hval 0 23 v0 rfl rfl) h0
  obtain ⟨a0_0, e0_0, rfl, w0_0⟩ := DataW.trod_int Tryd.underlying3 t0_0
  obtain rfl := (List.cons.inj e0_0).1
  obtain ⟨a0_1, e0_1, rfl, w0_1⟩ := DataW.trod_int Tryd.underlying3 t0_1
  obtain rfl := (List.cons.inj e0_1).1
  have k1 := h1
  have lt1 : ∀ x ∈ p1, x.block < W.heap.size := by obtain ⟨m, hm⟩ := k1; exact DataW.trod_lt m _ _ _ hm
  obtain ⟨c1_0, c1_1, y1_0, y1_1, n1, rfl, rfl, rfl, t1_0, t1_1⟩ := Joins.open_agg2 Tryd.underlying23 (by kernel_rfl) (by kernel_rfl) (hval 1 23 v1 rfl rfl) h1
  obtain ⟨a1_0, e1_0, rfl, w1_0⟩ := DataW.trod_int Tryd.underlying3 t1_0
  obtain rfl := (List.cons.inj e1_0).1
  obtain ⟨a1_1, e1_1, rfl, w1_1⟩ := DataW.trod_int Tryd.underlying3 t1_1
  obtain rfl := (List.cons.inj e1_1).1
  obtain ⟨a2, rfl, rfl, rfl⟩ := open_bool Tryd.underlying4 (hval 2 4 v2 rfl rfl) h2
  obtain ⟨a3, len3, cap3, rfl⟩ := okWide_slice Tryd.underlying24 (hval 3 24 v3 rfl rfl)
  have k3 := h3
  have lt3 : ∀ x ∈ p3, x.block < W.heap.size := by obtain ⟨m, hm⟩ := k3; exact DataW.trod_lt m _ _ _ hm
  have w3 : PairRow (IsInt .u32) (IsInt .u16) W a3 len3 cap3 := by
    obtain ⟨fuel, hf⟩ := h3
    rcases Deep.open_slice_pairs Tryd.underlying24 Tryd.underlying28 (by kernel_rfl) rfl rfl (by kernel_rfl) (by kernel_rfl) hf with ⟨hcs, _⟩ | ⟨x, l, c, m, n, V0, V1, D0, D1, P0, P1, hcs, _, hl, hm, hmm, _, hc⟩
    · simp [Value.cells] at hcs
      obtain ⟨rfl, rfl, rfl⟩ := hcs
      exact .inl ⟨rfl, rfl, rfl⟩
    · simp [Value.cells] at hcs
      obtain ⟨rfl, rfl, rfl⟩ := hcs
      refine .inr ⟨_, rfl, hl, hm, fun i hi => ?_⟩
      obtain ⟨g0, g1, g2, g3⟩ := hc i (by rw [hmm]; simp; omega)
      obtain ⟨u0, e0, _, z0⟩ := DataW.trod_int Tryd.underlying25 g2
      obtain ⟨u1, e1, _, z1⟩ := DataW.trod_int Tryd.underlying26 g3
      exact ⟨_, _, g0, g1, ⟨u0, (List.cons.inj e0).1, z0⟩, ⟨u1, (List.cons.inj e1).1, z1⟩⟩
  have k4 := h4
  have lt4 : ∀ x ∈ p4, x.block < W.heap.size := by obtain ⟨m, hm⟩ := k4; exact DataW.trod_lt m _ _ _ hm
  obtain ⟨c4_0, c4_1, y4_0, y4_1, n4, rfl, rfl, rfl, t4_0, t4_1⟩ := Joins.open_agg2 Tryd.underlying28 (by kernel_rfl) (by kernel_rfl) (hval 4 28 v4 rfl rfl) h4
  obtain ⟨a4_0, e4_0, rfl, w4_0⟩ := DataW.trod_int Tryd.underlying25 t4_0
  obtain rfl := (List.cons.inj e4_0).1
  obtain ⟨a4_1, e4_1, rfl, w4_1⟩ := DataW.trod_int Tryd.underlying26 t4_1
  obtain rfl := (List.cons.inj e4_1).1
  obtain ⟨a5, rfl, rfl, rfl, w5⟩ := open_int Tryd.underlying5 (hval 5 5 v5 rfl rfl) h5
  clear hA0 hval0
  refine (ruleTells_run a0_0 a0_1 a1_0 a1_1 a2 a3 len3 cap3 a4_0 a4_1 a5 W w0_0 w0_1 w1_0 w1_1 w3 w4_0 w4_1 w5 (tab_of_laid hL)).mono fun e W' ⟨he, bel⟩ => ?_
  subst he
  exact ⟨_, rfl, _, _, _, [], _, [], hW', trodAll_mk1 (shut_bool Tryd.underlying4 _), (trodAll_cons_mk (Below.trod ruleTells_laid (by kernel_rfl) (of_decide_eq_true (by kernel_rfl)) k0 bel lt0) (trodAll_cons_mk (Below.trod ruleTells_laid (by kernel_rfl) (of_decide_eq_true (by kernel_rfl)) k1 bel lt1) (trodAll_cons_mk (shut_bool Tryd.underlying4 _) (trodAll_cons_mk (Below.trod ruleTells_laid (by kernel_rfl) (of_decide_eq_true (by kernel_rfl)) k3 bel lt3) (trodAll_cons_mk (Below.trod ruleTells_laid (by kernel_rfl) (of_decide_eq_true (by kernel_rfl)) k4 bel lt4) (trodAll_cons_mk (shut_int Tryd.underlying5 w5) trodAll_mk0)))))), rfl, bel.frame _, fun h => by cases h⟩
theorem ruleTells_over : Rows.ruleTellsRow.holds Tryd.pinned (OpenSpec.ofChange Rows.ruleTellsSpec) :=
  OpenClaim.holds_of_wide 3 Tryd.f3 rfl rfl rfl rfl rfl rfl rfl ⟨rfl, rfl, rfl, rfl, rfl⟩ rfl rfl rfl rfl rfl (by kernel_rfl) Tryd.func3 (by kernel_rfl)
    (of_decide_eq_true (by kernel_rfl)) (by unfold Func.isWrapper; first | (rw [if_pos (by decide +kernel)]; kernel_rfl) | (rw [if_neg (by decide +kernel)]; exact ⟨rfl, rfl⟩))
    (fun os started H enc _ => ruleTells_lifted os started H enc)
theorem ruleTells_holds : Rows.RuleTellsCardSaid :=
  Claim7.holds_tied_plain_at .later [] [.data] true Rows.ruleTellsCard.stood.harness false ruleTells_over (fun _ h => by cases h) (by kernel_rfl) (fun _ h => by cases h) ruleTells_row_tie rfl ⟨rfl, rfl⟩ (by kernel_rfl) rfl
    (fun f fn hf hfn => by
      obtain rfl : f = 3 := Option.some.inj ((show Tryd.prog.funcNamed "scuttlebutt/scuttlebuttlaw07.RuleTells" = some 3 by kernel_rfl).symm.trans hf) |>.symm
      obtain rfl : fn = Tryd.f3 := (Option.some.inj (Tryd.func3.symm.trans hfn)).symm
      exact ⟨by kernel_rfl, fun j t ht => by
        rw [Tryd.params3] at ht
        have hm : t ∈ [23, 23, 4, 24, 28, 5] := by simpa using Array.mem_of_getElem? ht
        have hall : ([23, 23, 4, 24, 28, 5].all fun u => !Tryd.prog.wantsStandIn u) = true := by kernel_rfl
        exact (show Tryd.prog.wantsStandIn t = false by simpa using List.all_eq_true.1 hall t hm)⟩)
    (by kernel_rfl)
#print axioms ruleTells_holds
end Go.Proofs.YthlbagcdindhdaaDoor
