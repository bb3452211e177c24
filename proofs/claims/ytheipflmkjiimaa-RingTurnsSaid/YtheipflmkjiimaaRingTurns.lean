/- RingTurns: while the list turns who is told is in it then; nobody stays untold for more than two rounds as long as it is in it: for every seed, every list of lists by their bits. -/
import Derived.Test.YtheipflmkjiimaaRiEx
import Derived.Deep.DeepCutAuto
import Derived.ChangeOld
import Derived.ChangeMaps5
import Derived.ShutString
import Derived.OpenShut
import Derived.SizedLaws
namespace Go.Proofs.Ytheipflmkjiimaa
open Go.Sort Go.RowKit Go.BigFrame Go.ChangeShapes Go.WideShapes Go.Deep
set_option linter.unusedVariables false
set_option linter.unusedSimpArgs false

/-- is bit k of x set? -/
def bitOn (x : Int) (k : Nat) : Bool := decide (x / 2 ^ k % 2 = 1)
/-- the numbers below n whose bit is set -/
def bitsTo (x : Int) : Nat → List Int
  | 0 => []
  | k + 1 => if bitOn x k then bitsTo x k ++ [(k : Int)] else bitsTo x k
theorem bits_mem (x : Int) : ∀ (n : Nat) (y : Int), y ∈ bitsTo x n ↔ ∃ k : Nat, k < n ∧ bitOn x k = true ∧ y = k
  | 0, y => by simp [bitsTo]
  | n + 1, y => by
    have ih := bits_mem x n y
    unfold bitsTo
    constructor
    · intro h
      split at h
      · rename_i hb
        rcases List.mem_append.1 h with h | h
        · obtain ⟨k, h1, h2⟩ := ih.1 h; exact ⟨k, by omega, h2⟩
        · exact ⟨n, by omega, hb, by simpa using h⟩
      · obtain ⟨k, h1, h2⟩ := ih.1 h; exact ⟨k, by omega, h2⟩
    · rintro ⟨k, h1, h2, rfl⟩
      by_cases hk : k = n
      · subst hk; rw [if_pos h2]; simp
      · have := ih.2 ⟨k, by omega, h2, rfl⟩
        split
        · exact List.mem_append.2 (.inl this)
        · exact this
theorem bits_nodup (x : Int) : ∀ n, (bitsTo x n).Nodup
  | 0 => by simp [bitsTo]
  | n + 1 => by
    have ih := bits_nodup x n
    unfold bitsTo
    split
    · rw [List.nodup_append]
      refine ⟨ih, by simp, fun a ha b hb => ?_⟩
      obtain ⟨k, h1, _, rfl⟩ := (bits_mem x n a).1 ha
      simp at hb
      omega
    · exact ih
theorem bits_len (x : Int) : ∀ n, (bitsTo x n).length ≤ n
  | 0 => by simp [bitsTo]
  | n + 1 => by
    have := bits_len x n
    unfold bitsTo
    split
    · simp; omega
    · omega
/-! how long one waits -/
/-- how many stand ahead of k in L (if k is in it) -/
def at_ (L : List Int) (k : Int) : Nat := L.idxOf k
/-- what holds between two rounds: those left are few, each once; who is among them waits not too long, who is not even less -/
structure Fair (L : List Int) (wt : Nat → Int) : Prop where
  few : L.length ≤ 7
  nodup : L.Nodup
  pos : ∀ k, k < 8 → 0 ≤ wt k
  inn : ∀ k : Nat, k < 8 → (k : Int) ∈ L → wt k + (L.idxOf (k : Int) : Nat) ≤ 15
  out : ∀ k : Nat, k < 8 → (k : Int) ∉ L → wt k + (L.length : Nat) ≤ 7
theorem Fair.start : Fair [] (fun _ => 0) := ⟨by simp, by simp, by simp, by simp, by simp⟩
/-- those that are not in the list wait for nothing -/
def cutW (l : List Int) (wt : Nat → Int) (k : Nat) : Int := if (k : Int) ∈ l then wt k else 0
theorem Fair.cut {L : List Int} {wt : Nat → Int} (h : Fair L wt) (l : List Int) : Fair L (cutW l wt) := by
  refine ⟨h.few, h.nodup, fun k hk => ?_, fun k hk hm => ?_, fun k hk hm => ?_⟩
  · unfold cutW; split
    · exact h.pos k hk
    · omega
  · unfold cutW; split
    · exact h.inn k hk hm
    · have h1 : L.idxOf (k : Int) < L.length := List.idxOf_lt_length_of_mem hm
      have := h.few; omega
  · unfold cutW; split
    · exact h.out k hk hm
    · have := h.few; omega
/-- behind a round -/
def nextW (l : List Int) (id : Int) (wt : Nat → Int) (k : Nat) : Int := if (k : Int) = id then 0 else if (k : Int) ∈ l then wt k + 1 else wt k
theorem idx_app {A : List Int} {x k : Int} {r : List Int} (hA : k ∉ A) (hx : k ≠ x) : (A ++ x :: r).idxOf k = A.length + 1 + r.idxOf k := by
  have hb : (x == k) = false := by rw [beq_eq_false_iff_ne]; exact fun e => hx e.symm
  rw [List.idxOf_append, if_neg hA, List.idxOf_cons, hb]
  simp
  omega
theorem Fair.next {s : Int} {L l : List Int} {wt : Nat → Int} (h : Fair L (cutW l wt)) (hl : 0 < l.length) (hl8 : l.length ≤ 8) (hnd : l.Nodup) :
    Fair (leftR s L l) (nextW l (idR s L l) (cutW l wt)) ∧ ∀ k, k < 8 → nextW l (idR s L l) (cutW l wt) k ≤ 16 := by
  obtain ⟨x, r, s', h1, hx, h2⟩ := nextL_cases s L l hl
  have e1 : idR s L l = x := by rw [next_id s L l hl, h1]; rfl
  have e2 : leftR s L l = r := by rw [next_left s L l hl, h1]; rfl
  rw [e1, e2]
  have key : Fair r (nextW l x (cutW l wt)) := by
    rcases h2 with ⟨_, A, rfl, hA⟩ | ⟨hno, hp, _⟩
    · have hn := h.nodup
      rw [List.nodup_append] at hn
      obtain ⟨n1, n2, n3⟩ := hn
      obtain ⟨n4, n5⟩ := List.nodup_cons.1 n2
      have hf := h.few
      simp at hf
      have hAk : ∀ k : Int, k ∈ l → k ∉ A := fun k hk ha => hA k ha hk
      refine ⟨by omega, n5, fun k hk => ?_, fun k hk hm => ?_, fun k hk hm => ?_⟩
      · have := h.pos k hk
        unfold nextW; split
        · omega
        · split <;> omega
      · have hi := List.idxOf_lt_length_of_mem hm
        unfold nextW
        split
        · omega
        · rename_i hne
          split
          · rename_i hkl
            have := h.inn k hk (by simp [hm])
            rw [idx_app (hAk k hkl) hne] at this
            omega
          · rename_i hkl
            have e : cutW l wt k = 0 := if_neg hkl
            rw [e]; omega
      · unfold nextW
        split
        · omega
        · rename_i hne
          split
          · rename_i hkl
            have hk2 : (k : Int) ∉ A ++ x :: r := by simp [hAk k hkl, hne, hm]
            have := h.out k hk hk2
            simp at this
            omega
          · rename_i hkl
            have e : cutW l wt k = 0 := if_neg hkl
            rw [e]; omega
    · have hlen := hp.length_eq
      simp at hlen
      have hnd2 := hp.nodup_iff.2 hnd
      obtain ⟨n4, n5⟩ := List.nodup_cons.1 hnd2
      refine ⟨by omega, n5, fun k hk => ?_, fun k hk hm => ?_, fun k hk hm => ?_⟩
      · have := h.pos k hk
        unfold nextW; split
        · omega
        · split <;> omega
      · have hi := List.idxOf_lt_length_of_mem hm
        have hkl : (k : Int) ∈ l := hp.subset (by simp [hm])
        have := h.out k hk (fun hL => hno _ hL hkl)
        unfold nextW
        split
        · omega
        · first | omega | (rw [if_pos hkl]; omega)
      · unfold nextW
        split
        · omega
        · rename_i hne
          have hkl : (k : Int) ∉ l := fun hkl => by
            have := hp.mem_iff.2 hkl
            simp [hne, hm] at this
          rw [if_neg hkl]
          have e : cutW l wt k = 0 := if_neg hkl
          rw [e]; omega
  refine ⟨key, fun k hk => ?_⟩
  by_cases hm : (k : Int) ∈ r
  · have := key.inn k hk hm; omega
  · have := key.out k hk hm; omega
theorem bit_yes {x : Int} {k : Nat} (hx : 0 ≤ x) (h : bitOn x k = true) : ((x / 2 ^ k).tmod 2 == 1) = true ∧ ((x / 2 ^ k).tmod 2 == 0) = false := by
  have h1 : 0 ≤ x / 2 ^ k := Int.ediv_nonneg hx (Int.pow_nonneg (by decide))
  have h2 : x / 2 ^ k % 2 = 1 := of_decide_eq_true h
  rw [tmod_pos _ _ h1, h2]; exact ⟨rfl, rfl⟩
theorem bit_no {x : Int} {k : Nat} (hx : 0 ≤ x) (h : bitOn x k = false) : ((x / 2 ^ k).tmod 2 == 1) = false ∧ ((x / 2 ^ k).tmod 2 == 0) = true := by
  have h1 : 0 ≤ x / 2 ^ k := Int.ediv_nonneg hx (Int.pow_nonneg (by decide))
  have h2 : ¬ x / 2 ^ k % 2 = 1 := of_decide_eq_false h
  have h3 : x / 2 ^ k % 2 = 0 := by omega
  rw [tmod_pos _ _ h1, h3]; exact ⟨rfl, rfl⟩
theorem St.setc {w0 w : World} {b : Nat} {vs : List Value} (H1 H2 : List Hl) (s : St w0 (H1 ++ hC b vs :: H2) w) (i : Nat) (v : Value) (hi : i < vs.length) : St w0 (H1 ++ hC b (vs.set i v) :: H2) (w.setCell ⟨b, i, none⟩ v) :=
  s.aft (h' := hC b (vs.set i v)) (Touch.set (F := fun k => k = b) (Touch.refl _ _) (fun _ => rfl) _) ((s.cs (by simp)).set i v hi) (fun k hk => .inl hk)
/-! the walk -/
def wC (wt : Nat → Int) : List Value := (List.range 8).map fun k => .int .i64 (wt k)
theorem wC_congr {a b : Nat → Int} (h : ∀ k, k < 8 → a k = b k) : wC a = wC b := List.map_congr_left fun k hk => by rw [h k (by simpa using hk)]
theorem wC_set (wt : Nat → Int) (p : Nat) (x : Int) : (wC wt).set p (.int .i64 x) = wC (fun k => if k = p then x else wt k) := by
  unfold wC
  refine List.ext_getElem (by simp) fun i h1 h2 => ?_
  rw [List.getElem_set]
  by_cases h : p = i
  · subst h; simp
  · rw [if_neg h]
    have : ¬ i = p := fun e => h e.symm
    simp [this]
theorem wC_at (wt : Nat → Int) (p : Nat) (hp : p < 8) : (wC wt)[p]? = some (.int .i64 (wt p)) := by
  unfold wC
  rw [List.getElem?_map, List.getElem?_range hp]; rfl
theorem wC_zero : wC (fun _ => 0) = List.replicate 8 (.int .i64 0) := rfl
/-- waits behind the first k of the list's bits -/
def cutTo (x : Int) (k : Nat) (wt : Nat → Int) (d : Nat) : Int := if d < k ∧ bitOn x d = false then 0 else wt d
theorem cut_yes {x : Int} {k : Nat} {wt : Nat → Int} (hb : bitOn x k = true) (d : Nat) : cutTo x (k + 1) wt d = cutTo x k wt d := by
  unfold cutTo
  by_cases h : d = k
  · subst h; rw [if_neg (by rw [hb]; simp), if_neg (by omega)]
  · by_cases h2 : d < k ∧ bitOn x d = false
    · rw [if_pos h2, if_pos ⟨by omega, h2.2⟩]
    · rw [if_neg h2, if_neg (fun h3 => h2 ⟨by omega, h3.2⟩)]
theorem cut_no {x : Int} {k : Nat} {wt : Nat → Int} (hb : bitOn x k = false) (d : Nat) : cutTo x (k + 1) wt d = if d = k then 0 else cutTo x k wt d := by
  unfold cutTo
  by_cases h : d = k
  · subst h; rw [if_pos ⟨by omega, hb⟩, if_pos rfl]
  · rw [if_neg h]
    by_cases h2 : d < k ∧ bitOn x d = false
    · rw [if_pos h2, if_pos ⟨by omega, h2.2⟩]
    · rw [if_neg h2, if_neg (fun h3 => h2 ⟨by omega, h3.2⟩)]
theorem cut_all (x : Int) (wt : Nat → Int) (d : Nat) (hd : d < 8) : cutTo x 8 wt d = cutW (bitsTo x 8) wt d := by
  unfold cutTo cutW
  have := bits_mem x 8 (d : Int)
  cases hb : bitOn x d with
  | true => rw [if_neg (by simp), if_pos (this.2 ⟨d, hd, hb, rfl⟩)]
  | false =>
    rw [if_pos ⟨hd, rfl⟩, if_neg (fun h => by
      obtain ⟨k, h1, h2, h3⟩ := this.1 h
      obtain rfl : d = k := by omega
      rw [hb] at h2; cases h2)]
/-- waits behind the first k of the second loop -/
def stepTo (l : List Int) (p k : Nat) (wt : Nat → Int) (d : Nat) : Int := if d < k then nextW l (p : Nat) wt d else wt d
def TwJ (l : List Int) (p : Nat) (wt : Nat → Int) (w : World) (g wb : Nat) (s : Int) (v : Sl) (L : List Int) (kv : Value) (wr : World) : Prop := ∃ k : Nat, kv = .int .i64 (k : Nat) ∧ k ≤ 8 ∧ St w [hC wb (wC (stepTo l p k wt)), hR g s v L] wr
theorem id_in (s : Int) (L l : List Int) (hl : 0 < l.length) : isIn (idR s L l) l = true := by
  obtain ⟨x, r, s', h1, h2, -⟩ := nextL_cases s L l hl
  rw [next_id s L l hl, h1]
  exact isIn_iff.2 h2
def TuJ (n : Nat) (w : World) (g wb : Nat) (iv : Value) (wr : World) : Prop := ∃ (i : Nat) (s : Int) (v : Sl) (L : List Int) (wt : Nat → Int), iv = .int .i64 (i : Nat) ∧ i ≤ n ∧ i ≤ 60 ∧ Fair L wt ∧ St w [hC wb (wC wt), hR g s v L] wr
def TbJ (x : Int) (wt : Nat → Int) (w : World) (g wb : Nat) (s : Int) (v : Sl) (L : List Int) (ov kv : Value) (wr : World) : Prop := ∃ (k : Nat) (u : Sl), kv = .int .i64 (k : Nat) ∧ k ≤ 8 ∧ ov = .slice u.a (bitsTo x k).length u.c ∧ St w [hI u (bitsTo x k), hC wb (wC (cutTo x k wt)), hR g s v L] wr
set_option maxHeartbeats 6400000 in
set_option maxRecDepth 100000 in
theorem turns_walk (s : Int) (a : Option Addr) (n cap : Nat) (zs : List Int) (w : World) (hn : Hid (zs.length = n)) (h8 : Hid (∀ z ∈ zs, 0 ≤ z ∧ z < 256)) (hr : Hid (Rd .u8 w w.heap.size a zs)) :
    Calls Try.prog 5 #[.int .u64 s, .slice a n cap] w fun e w' => e = .returned (.bool true) ∧ Below w.heap.size w w' := by
  have E := ex_any w
  go_enter Try.func5, Try.ntmps5
  go_wp2_with fail
  refine E.mono ?_; rintro e w1 ⟨rfl, b1⟩
  have K := new_l s (St.start w w1 b1)
  clear E b1
  go_wp2_with fail
  refine K.mono ?_; rintro e w2 ⟨g, rfl, s2⟩
  clear K
  have S0 : Hid (TuJ n w g w2.heap.size (.int .i64 0) (w2.alloc (.cells #[.int .i64 0, .int .i64 0, .int .i64 0, .int .i64 0, .int .i64 0, .int .i64 0, .int .i64 0, .int .i64 0] 47))) := ⟨0, s, _, _, fun _ => 0, rfl, Nat.zero_le _, by omega, Fair.start, by have := s2.box (wC (fun _ => 0)) 47; rw [wC_zero] at this ⊢; exact this⟩
  clear s2
  go_upto_region 8 with fail
  generalize (w2.alloc (.cells #[.int .i64 0, .int .i64 0, .int .i64 0, .int .i64 0, .int .i64 0, .int .i64 0, .int .i64 0, .int .i64 0] 47)) = w3 at *
  generalize w2.heap.size = wb at *
  go_wp2_with fail
  go_loopw [8] (fun iv wr => TuJ n w g wb iv wr) (fun iv _ => 61 - (intOf iv).toNat)
  case atStart => exact S0.out
  case round =>
    obtain ⟨i, s1, v, L, wt, rfl, hi, hi60, hF, hs⟩ := hrel
    clear S0
    have HF := Lib.hid hF
    have HS := Lib.hid hs
    have hI0 : (0 : Int) ≤ i := by omega
    clear hF hs
    by_cases h1 : i < n
    · have h1' : (i : Int) < n := by omega
      have h1d : decide ((i : Int) < n) = true := decide_eq_true h1'
      by_cases h2 : i < 60
      · have h2' : (i : Int) < 60 := by omega
        have h2d : decide ((i : Int) < 60) = true := decide_eq_true h2'
        have hi1 : Hid (i + 1 ≤ n) := h1
        have hi2 : Hid (i + 1 ≤ 60) := h2
        obtain ⟨ba, oa, rfl, hbl, hcc⟩ := (hr.out.keep HS.out.below) (by rw [hn.out]; omega)
        have hx8 := h8.out (zs.getD i 0) (by rw [List.getD_eq_getElem?_getD, List.getElem?_eq_getElem (by rw [hn.out]; exact h1)]; exact List.getElem_mem _)
        have HX : Hid (∀ w', Below w.heap.size w w' → w'.cell? ⟨ba, oa + i, none⟩ = some (.int .u8 (zs.getD i 0))) := fun w' hb => by
          obtain ⟨b', o', e, _, hc⟩ := (hr.out.keep hb) (by rw [hn.out]; omega)
          injection e with e
          injection e with e1 e2
          rw [e1, e2]
          exact hc i (by rw [hn.out]; exact h1)
        generalize zs.getD i 0 = x at *
        have SB : Hid (TbJ x wt w g wb s1 v L (.slice none 0 0) (.int .i64 0) wr) := ⟨0, ⟨none, 0, 0⟩, rfl, by omega, rfl, by
          have e : wC (cutTo x 0 wt) = wC wt := wC_congr fun k hk => by unfold cutTo; rw [if_neg (by omega)]
          rw [e]
          exact HS.out.emptyI⟩
        clear hcc HS h1 h2 hbl
        go_wp2_with fail
        go_loopw [9, 10] (fun ov kv wr => TbJ x wt w g wb s1 v L ov kv wr) (fun _ kv _ => 8 - (intOf kv).toNat)
        case atStart => exact SB.out
        case round =>
          obtain ⟨k, u, rfl, hk, rfl, hs⟩ := hrel
          clear SB
          have HS := Lib.hid hs
          have hK0 : (0 : Int) ≤ k := by omega
          have c0 := HX.out _ hs.below
          clear hs
          by_cases hk8 : k < 8
          · have hk8' : (k : Int) < 8 := by omega
            have hlen := bits_len x k
            have hk1 : k + 1 ≤ 8 := hk8
            obtain ⟨i1, hi1', hy0, hy1, hy2⟩ := info_parts info_int
            cases hb : bitOn x k with
            | true =>
              have hbt := bit_yes hx8.1 hb
              have EQ : Hid (bitsTo x (k + 1) = bitsTo x k ++ [(k : Int)]) := by show _ = _; rw [bitsTo, if_pos hb]
              have EW : Hid (wC (cutTo x (k + 1) wt) = wC (cutTo x k wt)) := wC_congr fun d hd => cut_yes hb d
              have OW : Hid (∀ o, (wr.alloc o).ownsRow 0 3 1 (.slice u.a (bitsTo x k).length u.c) (bitsTo x k).length ((bitsTo x k).map (Value.int .i64))) := fun o => (HS.out.alloc o).ownI (by simp) rfl
              have hbs := hbt.1
              clear hb hbt
              generalize hB : bitsTo x k = B at *
              clear hB
              go_wp2_with (at_builtin; refine wpList_append_lies _ rfl (.tmp 43) (.tmp 45) 33 rfl 0 3 i1 (.int .i64 0) 1 8 Try.underlying33 hi1' hy0 hy1 hy2 rfl (by omega) (.slice u.a B.length u.c) B.length (B.map (Value.int .i64)) rfl (OW.out _) ⟨_, 0, none⟩ 1 1 [.int .i64 (k : Nat)] rfl rfl (World.news_of_block (cs := #[.int .i64 (k : Nat)]) (t := 3) (fr := (0, 0)) (heap_alloc_new _ _)) (by simp [Value.oneCell']) (by omega) (by unfold maxLen; omega) (by omega) (by simp) _ rfl ?_)
              intro g1 cap1 w9 hown hgrow hat hlt9
              have FIN := Lib.hid ((HS.out.alloc (.cells #[.int .i64 (k : Nat)] 3)).push [] [_, _] rfl (x := (k : Nat)) (by simpa using hown) hgrow (hat.imp id (fun h => by simpa using h)))
              rw [← EW.out] at FIN
              clear hown hgrow hat OW HS EW
              go_wp2_with fail
              go_roundw
              case rel => exact ⟨k + 1, ⟨some ⟨g1, 0, none⟩, B.length + 1, cap1⟩, by go_num, hk1, by rw [EQ.out]; simp, by rw [EQ.out]; exact FIN.out⟩
              case measure => simp [intOf]; omega
            | false =>
              have hbt := bit_no hx8.1 hb
              have EQ : Hid (bitsTo x (k + 1) = bitsTo x k) := by show _ = _; rw [bitsTo, if_neg (by rw [hb]; decide)]
              have HC := HS.out.cs (b := wb) (vs := wC (cutTo x k wt)) (by simp)
              have c1 := HC.cell k _ (wC_at _ k hk8)
              have f1 := HC.free k _ (wC_at _ k hk8)
              have l1 := HC.lt
              have FIN := Lib.hid (HS.out.setc [_] [_] k (.int .i64 0) (by simp [wC]; exact hk8))
              have EW : Hid (wC (cutTo x (k + 1) wt) = (wC (cutTo x k wt)).set k (.int .i64 0)) := by show _ = _; rw [wC_set]; exact wC_congr fun d hd => cut_no hb d
              rw [← EW.out] at FIN
              have hbs := hbt.1
              clear hb hbt EW HC HS
              go_wp2_with fail
              go_roundw
              case rel => exact ⟨k + 1, u, by go_num, hk1, by rw [EQ.out], by rw [EQ.out]; exact FIN.out⟩
              case measure => simp [intOf]; omega
          · obtain rfl : k = 8 := by omega
            have hge : ¬ (((8 : Nat) : Nat) : Int) < 8 := by omega
            have E8 : Hid (wC (cutTo x 8 wt) = wC (cutW (bitsTo x 8) wt)) := wC_congr (cut_all x wt)
            rw [E8.out] at HS
            have hlen := bits_len x 8
            have hnd := Lib.hid (bits_nodup x 8)
            have HM := Lib.hid (bits_mem x 8)
            have HF2 := Lib.hid (HF.out.cut (bitsTo x 8))
            have NX := Lib.hid (fun h => Fair.next (s := s1) HF2.out h hlen hnd.out)
            have FX := Lib.hid (fun h => id_in (s := s1) (L := L) (l := bitsTo x 8) h)
            have K := next_l u (l := bitsTo x 8) (by omega) [_, _] [] (by simp) HS.out
            clear E8 HS hnd c0 HF
            by_cases hz : (bitsTo x 8).length = 0
            · have e : bitsTo x 8 = [] := List.eq_nil_of_length_eq_zero hz
              rw [e] at K HF2 ⊢
              clear hz NX FX HM hlen
              have K2 : Calls Try.prog 15 #[.pointer (some ⟨g, 0, none⟩), .slice u.a 0 u.c] wr fun e w' => e = .returned (.tuple #[.int .i64 0, .bool false]) ∧ ∃ v', St w [hI u [], hC wb (wC (cutW [] wt)), hR g s1 v' L] w' := K
              clear K e
              go_wp2_with fail
              refine K2.mono ?_; rintro e w4 ⟨rfl, v4, s4⟩
              have FIN := Lib.hid s4.drop
              clear K2 s4
              go_wp2_with fail
              go_roundw
              case rel => exact ⟨i + 1, s1, v4, L, _, by go_num, hi1.out, hi2.out, HF2.out, FIN.out⟩
              case measure => simp [intOf]; omega
            · have hp : 0 < (bitsTo x 8).length := by omega
              have hok : okR (bitsTo x 8) = true := okR_iff.2 hp
              rw [hok] at K
              obtain ⟨NF, N16⟩ := NX.out hp
              have hin := isIn_iff.1 (FX.out hp)
              obtain ⟨p, hp8, hbp, hpid⟩ := (HM.out _).1 hin
              rw [hpid] at K NF N16
              have HNF := Lib.hid NF
              have HN16 := Lib.hid N16
              have Hin : Hid (((p : Nat) : Int) ∈ bitsTo x 8) := by rw [← hpid]; exact hin
              have hbt := bit_yes hx8.1 hbp
              have hp0 : (0 : Int) ≤ (p : Int) := by omega
              have hp7 : ¬ (7 : Int) < (p : Int) := by omega
              have hp7d : decide ((7 : Int) < (p : Int)) = false := decide_eq_false hp7
              have hp7e : decide (7 < p) = false := decide_eq_false (by omega)
              have hp0d : decide ((p : Int) < 0) = false := decide_eq_false (by omega)
              have hbt2 := hbt.2
              have hlp : (0 : Int) < ((bitsTo x 8).length : Int) := by omega
              have hlpd : decide ((0 : Int) < ((bitsTo x 8).length : Int)) = true := decide_eq_true hlp
              have hlpe : decide (0 < (bitsTo x 8).length) = true := decide_eq_true hp
              obtain ⟨wt2, hwt2⟩ : ∃ wt2, cutW (bitsTo x 8) wt = wt2 := ⟨_, rfl⟩
              rw [hwt2] at K HNF HN16 HF2
              clear NX FX NF N16 hin hpid hwt2 hbt hok hbp
              generalize stR s1 L (bitsTo x 8) = s5 at *
              generalize leftR s1 L (bitsTo x 8) = L5 at *
              obtain ⟨bl, hbl⟩ : ∃ bl, bitsTo x 8 = bl := ⟨_, rfl⟩
              rw [hbl] at K HNF HN16 Hin hlp hlpd hlpe hp hlen HM ⊢
              replace hbl := Lib.hid hbl
              clear hz
              go_wp2_with fail
              refine K.mono ?_; rintro e w4 ⟨rfl, v5, s4⟩
              have SJ : Hid (TwJ bl p wt2 w g wb s5 v5 L5 (.int .i64 0) w4) := ⟨0, rfl, by omega, by
                have e : wC (stepTo bl p 0 wt2) = wC wt2 := wC_congr fun d hd => by unfold stepTo; rw [if_neg (by omega)]
                rw [e]
                exact s4.drop⟩
              have c0 := HX.out _ s4.below
              clear K s4
              go_wp2_with fail
              go_loopw [13] (fun kv wr => TwJ bl p wt2 w g wb s5 v5 L5 kv wr) (fun kv _ => 8 - (intOf kv).toNat)
              case atStart => exact SJ.out
              case round =>
                obtain ⟨k, rfl, hk, hs⟩ := hrel
                clear SJ
                have HS := Lib.hid hs
                have hK0 : (0 : Int) ≤ k := by omega
                have c0 := HX.out _ hs.below
                clear hs
                by_cases hk8 : k < 8
                · have hk8' : (k : Int) < 8 := by omega
                  have hk1 : k + 1 ≤ 8 := hk8
                  have HC := HS.out.cs (b := wb) (vs := wC (stepTo bl p k wt2)) (by simp)
                  have c1 := HC.cell k _ (wC_at _ k hk8)
                  have f1 := HC.free k _ (wC_at _ k hk8)
                  have l1 := HC.lt
                  have hv : stepTo bl p k wt2 k = wt2 k := by unfold stepTo; rw [if_neg (by omega)]
                  rw [hv] at c1
                  have hq0 := HF2.out.pos k hk8
                  have hq1 : wt2 k ≤ 15 := by
                    by_cases hm : (k : Int) ∈ L
                    · have := HF2.out.inn k hk8 hm; omega
                    · have := HF2.out.out k hk8 hm; omega
                  obtain ⟨q, hq⟩ : ∃ q, wt2 k = q := ⟨_, rfl⟩
                  rw [hq] at c1 hq0 hq1
                  have hmem : ((k : Nat) : Int) ∈ bl ↔ bitOn x k = true := by
                    rw [HM.out]
                    constructor
                    · rintro ⟨d, h3, h4, h5⟩
                      obtain rfl : k = d := by omega
                      exact h4
                    · exact fun h => ⟨k, hk8, h, rfl⟩
                  have cw := IntWalk.i64_in (q + 1) ⟨by omega, by omega⟩
                  have h16 : ¬ (16 : Int) < q := by omega
                  have h16b : ¬ (16 : Int) < q + 1 := by omega
                  by_cases hkp : k = p
                  · subst hkp
                    have hbt := (bit_yes hx8.1 (hmem.1 Hin.out)).1
                    have ST := HS.out.setc [] [_] k (.int .i64 (q + 1)) (by simp [wC]; exact hk8)
                    have FIN := Lib.hid (ST.setc [] [_] k (.int .i64 0) (by simp [wC]; exact hk8))
                    have EW : Hid (wC (stepTo bl k (k + 1) wt2) = ((wC (stepTo bl k k wt2)).set k (.int .i64 (q + 1))).set k (.int .i64 0)) := by
                      show _ = _
                      rw [wC_set, wC_set]
                      refine wC_congr fun d hd => ?_
                      by_cases h : d = k
                      · subst h; simp [stepTo, nextW]
                      · rw [if_neg h, if_neg h]; unfold stepTo
                        by_cases h2 : d < k
                        · rw [if_pos h2, if_pos (by omega)]
                        · rw [if_neg h2, if_neg (by omega)]
                    rw [← EW.out] at FIN
                    clear ST EW HC HS hmem hq hv
                    go_wp2_with fail
                    go_roundw
                    case rel => exact ⟨k + 1, by go_num, hk1, FIN.out⟩
                    case measure => simp [intOf]; omega
                  · have hkp2 : ¬ (k : Int) = (p : Int) := by omega
                    have hkp3 : ((k : Int) == (p : Int)) = false := by rw [beq_eq_false_iff_ne]; exact hkp2
                    cases hb : bitOn x k with
                    | true =>
                      have hbt := (bit_yes hx8.1 hb).1
                      have FIN := Lib.hid (HS.out.setc [] [_] k (.int .i64 (q + 1)) (by simp [wC]; exact hk8))
                      have EW : Hid (wC (stepTo bl p (k + 1) wt2) = (wC (stepTo bl p k wt2)).set k (.int .i64 (q + 1))) := by
                        show _ = _
                        rw [wC_set]
                        refine wC_congr fun d hd => ?_
                        by_cases h : d = k
                        · subst h; rw [if_pos rfl]; unfold stepTo nextW; rw [if_pos (by omega), if_neg hkp2, if_pos (hmem.2 hb), hq]
                        · rw [if_neg h]; unfold stepTo
                          by_cases h2 : d < k
                          · rw [if_pos h2, if_pos (by omega)]
                          · rw [if_neg h2, if_neg (by omega)]
                      rw [← EW.out] at FIN
                      clear EW HC HS hmem hq hv hb
                      go_wp2_with fail
                      go_roundw
                      case rel => exact ⟨k + 1, by go_num, hk1, FIN.out⟩
                      case measure => simp [intOf]; omega
                    | false =>
                      have hbt := (bit_no hx8.1 hb).1
                      have EW : Hid (wC (stepTo bl p (k + 1) wt2) = wC (stepTo bl p k wt2)) := by
                        refine wC_congr fun d hd => ?_
                        by_cases h : d = k
                        · subst h; unfold stepTo nextW; rw [if_pos (by omega), if_neg hkp2, if_neg (fun h => by have := hmem.1 h; rw [hb] at this; cases this), if_neg (by omega)]
                        · unfold stepTo
                          by_cases h2 : d < k
                          · rw [if_pos h2, if_pos (by omega)]
                          · rw [if_neg h2, if_neg (by omega)]
                      have FIN := Lib.hid HS.out
                      rw [← EW.out] at FIN
                      clear EW HC HS hmem hq hv hb
                      go_wp2_with fail
                      go_roundw
                      case rel => exact ⟨k + 1, by go_num, hk1, FIN.out⟩
                      case measure => simp [intOf]; omega
                · obtain rfl : k = 8 := by omega
                  have hge : ¬ (((8 : Nat) : Nat) : Int) < 8 := by omega
                  have EW : Hid (wC (stepTo bl p 8 wt2) = wC (nextW bl (p : Nat) wt2)) := wC_congr fun d hd => by unfold stepTo; rw [if_pos hd]
                  rw [EW.out] at HS
                  clear EW
                  go_wp2_with fail
                  go_roundw
                  case rel => exact ⟨i + 1, s5, v5, L5, _, by go_num, hi1.out, hi2.out, HNF.out, HS.out⟩
                  case measure => simp [intOf]; omega
      · obtain rfl : i = 60 := by omega
        have h2d : decide (((60 : Nat) : Int) < 60) = false := rfl
        have HB := Lib.hid HS.out.below
        clear HS HF
        go_wp2
        go_ret
        exact ⟨rfl, HB.out⟩
    · obtain rfl : i = n := by omega
      have h1d : decide ((i : Int) < i) = false := decide_eq_false (by omega)
      have HB := Lib.hid HS.out.below
      clear HS HF
      go_wp2
      go_ret
      exact ⟨rfl, HB.out⟩
theorem turns_run (s : Int) (a : Option Addr) (len cap : Nat) (zs : List Int) (w : World) (_ : (Lit.int .u64 s).wf = true) (wz : ArgRow .u8 w a len cap zs) :
    Calls Try.prog 5 #[.int .u64 s, .slice a len cap] w fun e w' => e = .returned (.bool true) ∧ Below w.heap.size w w' := by
  obtain ⟨za, h1, h2, h3, _⟩ := arg_u8 wz
  exact turns_walk s a len cap za w h1 h2 h3
theorem ringTurns_own : ownKnob Try.prog.godebug = none := by kernel_rfl
theorem ringTurns_laid : laidOutB Try.prog = true := by kernel_rfl
set_option maxRecDepth 100000 in
theorem ringTurns_lifted (os : Os) (started : os.Started) (H : Type) (enc : TypeId × Value → H) :
    ReturnsInHanded {} Try.checked os 5 .any (Rows.ringTurnsSpec.pre6 enc Try.prog Try.f5 Rows.ringTurnsRow.domain false) (Rows.ringTurnsSpec.post enc Try.prog Try.f5 false true false false) := by
  refine returnsInHanded_of_change (C := Try.checked) ringTurns_own started (by kernel_rfl) Try.func5
    (ChangeSpec.witness6 (enc := enc) (C := Try.checked) false ⟨#[], #[.int .u64 0, .slice none 0 0], []⟩ 8 (by kernel_rfl) (by kernel_rfl) (by kernel_rfl) (by kernel_rfl)) ?_
  intro W base args ds gs before hval0 hW hcnd _
  have hval : ∀ (j : Nat) t v, Try.f5.params[j]? = some t → args[j]? = some v → Value.okWide Try.prog W .any base t v := hval0
  have hW' := hW
  obtain ⟨p, q, hA0, hV, rfl, hfz, hnd⟩ := hW
  have hA : DataW.TrodAll enc Try.prog W 0 (fun _ => true) true Try.f5.params.toList args.toList ds p := hA0
  rw [Try.params5] at hA hval
  obtain ⟨v0, vs0, d0, ds0, p0, q0, hargs, rfl, rfl, h0, r0⟩ := trodAll_cons hA
  obtain ⟨v1, vs1, d1, ds1, p1, q1, rfl, rfl, rfl, h1, r1⟩ := trodAll_cons r0
  obtain ⟨rfl, rfl, rfl⟩ := trodAll_nil r1
  obtain rfl : args = #[v0, v1] := by cases args; simp_all
  obtain ⟨rfl, rfl⟩ := trodVars_none hV
  obtain ⟨a0, rfl, rfl, rfl, w0⟩ := open_int Try.underlying22 (hval 0 22 v0 rfl rfl) h0
  obtain ⟨a1, len1, cap1, rfl⟩ := okWide_slice Try.underlying29 (hval 1 29 v1 rfl rfl)
  have k1 := h1
  have lt1 : ∀ x ∈ p1, x.block < W.heap.size := by obtain ⟨m, hm⟩ := k1; exact DataW.trod_lt m _ _ _ hm
  obtain ⟨z1, w1⟩ : ∃ zs, ArgRow .u8 W a1 len1 cap1 zs := by
    obtain ⟨fuel, hf⟩ := h1
    rcases open_ints Try.underlying29 Try.underlying5 (by kernel_rfl) hf with ⟨hcs, _⟩ | ⟨x, l, c, zs, hcs, _, hl, hm, hz, _, hcell, hwz⟩
    · simp [Value.cells] at hcs
      obtain ⟨rfl, rfl, rfl⟩ := hcs
      exact ⟨[], .inl ⟨rfl, rfl, rfl, rfl⟩⟩
    · simp [Value.cells] at hcs
      obtain ⟨rfl, rfl, rfl⟩ := hcs
      exact ⟨zs, .inr ⟨_, rfl, hl, hm, by simpa using hz, hcell, hwz⟩⟩
  clear hA0 hval0
  refine (turns_run a0 a1 len1 cap1 z1 W w0 w1).mono fun e W' ⟨he, bel⟩ => ?_
  subst he
  exact ⟨_, rfl, _, _, _, [], _, [], hW', trodAll_mk1 (shut_bool Try.underlying4 _), (trodAll_cons_mk (shut_int Try.underlying22 w0) (trodAll_cons_mk (Below.trod ringTurns_laid (by kernel_rfl) (of_decide_eq_true (by kernel_rfl)) k1 bel lt1) trodAll_mk0)), rfl, bel.frame _, fun h => by cases h⟩
theorem ringTurns_over : Rows.ringTurnsRow.holds Try.pinned (OpenSpec.ofChange Rows.ringTurnsSpec) :=
  OpenClaim.holds_of_wide 5 Try.f5 rfl rfl rfl rfl rfl rfl rfl ⟨rfl, rfl, rfl, rfl, rfl⟩ rfl rfl rfl rfl rfl (by kernel_rfl) Try.func5 (by kernel_rfl)
    (of_decide_eq_true (by kernel_rfl)) (by unfold Func.isWrapper; first | (rw [if_pos (by decide +kernel)]; kernel_rfl) | (rw [if_neg (by decide +kernel)]; exact ⟨rfl, rfl⟩))
    (fun os started H enc _ => ringTurns_lifted os started H enc)
theorem ringTurns_holds : Rows.RingTurnsSaid := ringTurns_over
#print axioms ringTurns_holds
end Go.Proofs.Ytheipflmkjiimaa
