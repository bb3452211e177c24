/- New. -/
import Derived.Test.YtdpgmdkclaahdaaNeRight
namespace Go.Proofs.Ytdpgmdkclaahdaa.Ne
open Go.Sort Go.RowKit Go.BigFrame
set_option linter.unusedVariables false
set_option linter.unusedSimpArgs false

theorem info_ptr : (Try.prog.info? 60).map (fun i => (i.zero, i.size, i.bytes)) = some (some (.pointer none), 1, 8) := by kernel_rfl
section
variable {w0 w w' : World} {m : Mem} {H : List Hl} {n n' : Nt}
/-- a box more -/
theorem NN.push {b : Bb} {w1 : World} (s : NN w0 m (hX b :: H) n w) (v' : Sl) (hrow : ERow cpt 1 60 w1 v'.v (m.gs ++ [b.g])) (ht : Touch (fun k => m.bv.v.ownBlock = some k) w w1) (hn : ∀ k, v'.v.ownBlock = some k → m.bv.v.ownBlock = some k ∨ w.heap.size ≤ k) (hl : n.bs.length < 16) :
    NN w0 ⟨m.g, m.u, m.hv, v', m.gs ++ [b.g]⟩ H { n with bs := n.bs ++ [b.x] } (w1.setCell ⟨m.g, 1, none⟩ (.slice v'.a v'.n v'.c)) := by
  obtain ⟨uv, bb, h1, h2, h3, h4⟩ := s
  refine ⟨uv, bb ++ [b], by rw [List.map_append, h1]; rfl, by rw [List.map_append, h2]; rfl, ⟨h3.hl, ?_⟩, ?_⟩
  · show (n.bs ++ [b.x]).length ≤ 16
    rw [List.length_append]; simp; omega
  · have s2 := St.aft (H1 := [hC m.g (ncs m.hv m.bv m.u), hW cho 3 34 m.hv n.hs]) (H2 := hG m.u n.room uv n.l :: (bb.map hX ++ hX b :: H)) (h := hW cpt 1 60 m.bv m.gs) (h' := hW cpt 1 60 v' (m.gs ++ [b.g])) (by simpa [net] using h4) ht hrow hn
    have s3 := St.setc [] _ s2 1 (.slice v'.a v'.n v'.c) (by simp [ncs])
    have e : net ⟨m.g, m.u, m.hv, v', m.gs ++ [b.g]⟩ uv (bb ++ [b]) { n with bs := n.bs ++ [b.x] } ++ H = hC m.g ((ncs m.hv m.bv m.u).set 1 (.slice v'.a v'.n v'.c)) :: hW cho 3 34 m.hv n.hs :: hW cpt 1 60 v' (m.gs ++ [b.g]) :: hG m.u n.room uv n.l :: (bb.map hX ++ hX b :: H) := by
      simp [net, ncs]
    rw [e]; exact s3
/-- the row of the boxes -/
theorem NN.ptrs (h : NN w0 m H n w) : ERow cpt 1 60 w m.bv.v m.gs := by
  obtain ⟨uv, bb, h1, h2, h3, h4⟩ := h
  exact h4.get (h := hW cpt 1 60 m.bv m.gs) (by simp [net])
theorem NN.far {b : Bb} (s : NN w0 m (hX b :: H) n w) : ¬ b.g ∈ m.gs := by
  obtain ⟨uv, bb, h1, h2, h3, h4⟩ := s
  intro hm
  rw [← h1] at hm
  obtain ⟨c, hc, he⟩ := List.mem_map.1 hm
  have hap := (List.pairwise_append.1 h4.apart).2.2 (hX c) (by simp only [net, List.mem_cons, List.mem_map]; exact .inr (.inr (.inr (.inr ⟨c, hc, rfl⟩)))) (hX b) (by simp)
  have hb : Nb.B1 0 no b.g b.x b.S w := h4.get (h := hX b) (by simp)
  have hc' : Nb.B1 0 no c.g c.x c.S w := h4.get (h := hX c) (by simp only [net, List.cons_append, List.mem_cons, List.mem_append, List.mem_map]; exact .inr (.inr (.inr (.inr (.inl ⟨c, hc, rfl⟩)))))
  exact hap c.g (b1_g hc') (by rw [he]; exact b1_g hb)
theorem NN.gne (s : NN w0 m H n w) : m.bv.v.ownBlock ≠ some m.g := by
  obtain ⟨uv, bb, h1, h2, h3, h4⟩ := s
  intro h
  have hap := h4.apart
  unfold net at hap
  rw [List.cons_append] at hap
  exact (List.pairwise_cons.1 hap).1 (hW cpt 1 60 m.bv m.gs) (by simp) m.g rfl h
def AddPost (w0 : World) (m : Mem) (H : List Hl) (n : Nt) (sp : Sp) (e : Ending) (w' : World) : Prop :=
  (badS n.hs n.bs sp = true ∧ e = .returned (.bool false) ∧ NN w0 m H n w') ∨
  (badS n.hs n.bs sp = false ∧ e = .returned (.bool true) ∧ ∃ (v' : Sl) (q : Nat), NN w0 ⟨m.g, m.u, m.hv, v', m.gs ++ [q]⟩ H { n with bs := n.bs ++ [bxOf sp] } w')
set_option maxHeartbeats 3200000 in
set_option maxRecDepth 20000 in
theorem add_n (sm sf sip sh sr : Int) (h0 : 0 ≤ sh) (hl : n.bs.length < 16) (s : NN w0 m H n w) :
    Calls Try.prog 26 #[ptr m.g, .agg #[.int .i64 sm, .int .i64 sf, .int .u32 sip, .int .u64 sh, .int .i64 sr]] w (AddPost w0 m H n ⟨sm, sf, sip, sh, sr⟩) := by
  have s1 := s.new [.int .i64 sm, .int .i64 sf, .int .u32 sip, .int .u64 sh, .int .i64 sr] 38
  rw [show ([.int .i64 sm, .int .i64 sf, .int .u32 sip, .int .u64 sh, .int .i64 sr] : List Value).toArray = #[.int .i64 sm, .int .i64 sf, .int .u32 sip, .int .u64 sh, .int .i64 sr] from rfl] at s1
  have SA := Lib.hid s1
  have C := s1.cs (b := w.heap.size) (.head _)
  have c0 := C.cell 0 _ rfl
  have c1 := C.cell 1 _ rfl
  have c2 := C.cell 2 _ rfl
  have c3 := C.cell 3 _ rfl
  have c4 := C.cell 4 _ rfl
  have cl := C.lt
  clear s s1 C
  by_cases hb : Nb.badN sm sf sip sh sr = true
  · have P : Hid (badS n.hs n.bs ⟨sm, sf, sip, sh, sr⟩ = true) := by
      unfold badS; show _ = true; rw [show Nb.badN sm sf sip sh sr = true from hb]; rfl
    have K := fun w => Nb.new_bad sm sf sip sh sr w hb h0
    clear hb
    go_enter Try.func26, Try.ntmps26
    go_wp2_with fail
    refine (K _).mono ?_; rintro e w1 ⟨rfl, b1⟩
    have SB := Lib.hid (SA.out.keep b1)
    clear SA K c0 c1 c2 c3 c4 cl b1
    go_wp2
    go_ret
    exact .inl ⟨P.out, rfl, SB.out.drop⟩
  · have hb : Nb.badN sm sf sip sh sr = false := by simpa using hb
    have hr : 0 ≤ sr := by unfold Nb.badN at hb; simp at hb; omega
    obtain ⟨r, rfl⟩ : ∃ r : Nat, sr = r := ⟨sr.toNat, by omega⟩
    have K := fun w => Nb.new1 (B := 0) (R := no) (m := sm) (f := sf) (ip := sip) (hold := sh) (room := r) (w := w) (Nat.zero_le _) (fun k hk => hk.elim) hb h0
    have EB : Hid (badS n.hs n.bs ⟨sm, sf, sip, sh, r⟩ = (hostsP n.hs sip || boxesP n.bs sip)) := by
      unfold badS; show _ = _; rw [show Nb.badN sm sf sip sh r = false from hb]; rfl
    clear hb
    go_enter Try.func26, Try.ntmps26
    go_wp2_with fail
    refine (K _).mono ?_; rintro e w1 ⟨q, rfl, hq, hB1, b1⟩
    have sB := SA.out.more (k := hX ⟨q, fun k => k = q, ⟨sm, sf, sip, sh, r, []⟩⟩) b1 hB1 (fun b hb => by rw [show b = q from hb]; exact hq)
    have SB := Lib.hid sB
    have KT : Hid (Calls Try.prog 33 #[ptr m.g, .int .u32 sip, ptr q] w1 fun e w' => e = .returned (.bool (hostsP n.hs sip || boxesP n.bs sip)) ∧ Below w1.heap.size w1 w') := by
      obtain ⟨us, hus⟩ := b1_cs hB1
      obtain ⟨bb, hc, hr, hp, hx, he, hbb, hap⟩ := sB.open2
      have hlb := sB.ok.hl
      have far := sB.far
      have e1 : takB bb q sip = boxesP n.bs sip := by
        unfold takB boxesP
        rw [← hbb, List.any_map, Bool.eq_iff_iff, List.any_eq_true, List.any_eq_true]
        constructor
        · rintro ⟨c, hc, h⟩; exact ⟨c, hc, by simp at h; simp [h.2]⟩
        · rintro ⟨c, hc, h⟩
          refine ⟨c, hc, ?_⟩
          have : c.g ≠ q := fun e => far (by rw [← he]; exact List.mem_map.2 ⟨c, hc, e⟩)
          simp at h; simp [h, this]
      have := tak_any q sip us hus hc hr hp hx (by omega) (by rw [← hbb, List.length_map] at hl; omega)
      rw [e1] at this
      exact this
    have k1 : w1.cell? ⟨w.heap.size, 2, none⟩ = some (.int .u32 sip) := (SB.out.cs (b := w.heap.size) (vs := [.int .i64 sm, .int .i64 sf, .int .u32 sip, .int .u64 sh, .int .i64 (r : Nat)]) (.tail _ (.head _))).cell 2 _ rfl
    have k1l : w.heap.size < w1.heap.size := (SB.out.cs (b := w.heap.size) (vs := [.int .i64 sm, .int .i64 sf, .int .u32 sip, .int .u64 sh, .int .i64 (r : Nat)]) (.tail _ (.head _))).lt
    clear SA K c0 c1 c2 c3 c4 cl b1 sB hB1 hq
    generalize (hostsP n.hs sip || boxesP n.bs sip) = tk at *
    generalize w.heap.size = g1 at *
    cases tk
    · go_wp2_with fail
      refine KT.out.mono ?_; rintro e w2 ⟨rfl, b2⟩
      have SC := Lib.hid (SB.out.keep b2)
      clear KT SB k1 k1l b2
      obtain ⟨i0, hi0, hz0, hz1, hz2⟩ := info_parts info_ptr
      have pb := SC.out.pb
      have fb := SC.out.cells.1.free 1 _ rfl
      have gl := SC.out.glt
      have OW : Hid (∀ o, (w2.alloc o).ownsRow 0 60 1 (.slice m.bv.a n.bs.length m.bv.c) n.bs.length (m.gs.map cpt).flatten) := fun o => by
        have h := erow_keep SC.out.ptrs ((Below.refl _ w2).alloc (Nat.le_refl _) o)
        have e1 := erow_n h
        have e2 := SC.out.lenB
        unfold ERow at h
        rw [e2] at h e1
        have e3 : m.bv.v = .slice m.bv.a n.bs.length m.bv.c := by unfold Sl.v; rw [e1]
        rw [e3] at h
        exact h
      have e2 := SC.out.lenB
      have BV := Lib.hid (show Value.slice m.bv.a n.bs.length m.bv.c = m.bv.v by unfold Sl.v; rw [(erow_n SC.out.ptrs).trans e2])
      go_wp2_with (at_builtin; refine wpList_append_lies _ rfl (.tmp 32) (.tmp 34) 69 rfl 0 60 i0 _ 1 8 Try.underlying69 hi0 hz0 hz1 hz2 rfl (by omega) (.slice m.bv.a n.bs.length m.bv.c) n.bs.length (m.gs.map cpt).flatten rfl (OW.out _) ⟨_, 0, none⟩ 1 1 (cpt q) rfl rfl (World.news_of_block (cs := (cpt q).toArray) (t := 60) (fr := (0, 0)) (heap_alloc_new _ _)) (cpt_enc.one _) (by omega) ?c2 ?c3 ?c4 _ rfl ?_)
      case c2 => unfold maxLen; omega
      case c3 => omega
      case c4 => exact Nat.zero_le _
      intro g9 cap9 w9 hown hgrow hat hlt9
      have t9 : Touch (fun k => m.bv.v.ownBlock = some k) w2 w9 := ((Touch.refl _ w2).alloc _).trans (Touch.of_grown (F := fun k => m.bv.v.ownBlock = some k) hgrow (fun k hk => by rw [← BV.out]; exact hk)) (fun _ _ h => h)
      have pb9 := (t9.cell (p := ⟨m.g, 1, none⟩) gl SC.out.gne).trans pb
      have fb9 := (t9.frozen (p := ⟨m.g, 1, none⟩) gl SC.out.gne).trans fb
      have gl9 := Nat.lt_of_lt_of_le gl t9.size
      have SD : Hid (NN w0 ⟨m.g, m.u, m.hv, ⟨some ⟨g9, 0, none⟩, n.bs.length + 1, cap9⟩, m.gs ++ [q]⟩ H { n with bs := n.bs ++ [bxOf ⟨sm, sf, sip, sh, (r : Nat)⟩] } (w9.setCell ⟨m.g, 1, none⟩ (.slice (some ⟨g9, 0, none⟩) (n.bs.length + 1) cap9))) := by
        have hp := NN.push SC.out ⟨some ⟨g9, 0, none⟩, n.bs.length + 1, cap9⟩ (by
          unfold ERow
          rw [List.map_append, List.flatten_append, List.length_append, e2]
          simpa [Sl.v] using hown) t9 (fun k hk => by
            injection hk with hk
            subst hk
            rcases hat with h | h
            · exact .inl (by rw [← BV.out]; exact h)
            · exact .inr (by rw [h]; simp)) hl
        exact hp.drop
      clear hown hgrow hat OW SC t9 pb fb
      go_wp2
      go_ret
      exact .inr ⟨EB.out, rfl, _, q, SD.out⟩
    · go_wp2_with fail
      refine KT.out.mono ?_; rintro e w2 ⟨rfl, b2⟩
      have SC := Lib.hid (SB.out.keep b2)
      clear KT SB k1 k1l b2
      go_wp2
      go_ret
      exact .inl ⟨EB.out, rfl, SC.out.drop.drop⟩
end
def NewN (w : World) (hs : List Ho) (sp : List Sp) (room : Int) (e : Ending) (w' : World) : Prop :=
  (newN hs sp room = none ∧ e = .returned (.tuple #[.pointer none, .int .i64 1]) ∧ Below w.heap.size w w') ∨
  (∃ n m, newN hs sp room = some n ∧ e = .returned (.tuple #[ptr m.g, .int .i64 0]) ∧ NN w m [] n w')
def NewJ (w : World) (g r : Nat) (hs : List Ho) (sp : List Sp) (iv : Value) (wr : World) : Prop :=
  ∃ (j : Nat) (bs : List Nb.Bx) (m : Mem), j ≤ sp.length ∧ iv = .int .i64 (j : Nat) ∧ addS hs [] sp = addS hs bs (sp.drop j) ∧ m.g = g ∧ bs.length = j ∧ NN w m [] ⟨hs, bs, r, []⟩ wr
set_option maxHeartbeats 3200000 in
set_option maxRecDepth 20000 in
theorem new_n (a : Option Addr) (ca : Nat) (b : Option Addr) (cb : Nat) (hs : List Ho) (sp : List Sp) (room : Int) (hl : hs.length ≤ 1000) (hcap : hs.length ≤ ca) (hsl : sp.length ≤ 1000) (hsp : ∀ s ∈ sp, 0 ≤ s.hold) (w : World) (hr : RdE cho 3 w a hs) (hb : RdE csp 5 w b sp) :
    Calls Try.prog 10 #[.slice a hs.length ca, .slice b sp.length cb, .int .i64 room] w (NewN w hs sp room) := by
  by_cases h1 : room < 1 ∨ 256 < room
  · have es : newN hs sp room = none := by
      unfold newN; rw [if_pos]
      rcases h1 with h | h <;> simp [h]
    have K := Bg.new_bad room w h1
    clear hr hb h1
    go_enter Try.func10, Try.ntmps10
    go_wp2_with fail
    refine K.mono ?_; rintro e w1 ⟨rfl, rfl⟩
    clear K
    go_wp2
    refine bodyPost_ret (v := .tuple #[.pointer none, .int .i64 1]) (by simp [results, Try.results10, go_sem, *]) rfl ?_
    exact .inl ⟨es, rfl, Below.refl _ _⟩
  · obtain ⟨r, rfl⟩ : ∃ r : Nat, room = r := ⟨room.toNat, by omega⟩
    have K := Bg.new_ok r (by omega) (by omega) w
    have er : (decide ((r : Int) < 1) || decide (256 < (r : Int))) = false := by rw [decide_eq_false (by omega), decide_eq_false (by omega)]; rfl
    have er2 : (r : Int).toNat = r := by omega
    by_cases h2 : 16 < sp.length
    · have es : newN hs sp r = none := by unfold newN; rw [er, if_pos]; simp [h2]
      have h2' : decide (16 < (sp.length : Int)) = true := decide_eq_true (by omega)
      clear hr hb h1 er er2
      go_enter Try.func10, Try.ntmps10
      go_wp2_with fail
      refine K.mono ?_; rintro e w1 ⟨u, rfl, -, -, b1⟩
      clear K
      go_wp2
      refine bodyPost_ret (v := .tuple #[.pointer none, .int .i64 1]) (by simp [results, Try.results10, go_sem, *]) rfl ?_
      exact .inl ⟨es, rfl, b1⟩
    · have h2' : decide (16 < (sp.length : Int)) = false := decide_eq_false (by omega)
      have KR : Hid (∀ w1, Below w.heap.size w w1 → Calls Try.prog 24 #[.slice a hs.length ca, .int .i64 (sp.length : Nat)] w1 fun e w' => e = .returned (.bool (rightH hs sp.length)) ∧ Below w1.heap.size w1 w') := fun w1 b1 => areRight_any a ca hs sp.length hl hcap w1 (hr.keep b1)
      by_cases h3 : rightH hs sp.length = true
      · have hlen : 1 ≤ hs.length ∧ hs.length ≤ 32 := by unfold rightH at h3; simp at h3; omega
        have es : newN hs sp r = (addS hs [] sp).map fun bs => ⟨hs, bs, r, []⟩ := by
          unfold newN; rw [er, h3, if_neg (by simp; omega), er2]
        have KC : Hid (∀ w1, Below w.heap.size w w1 → Calls Try.prog 25 #[.slice a hs.length ca] w1 (NewPost cho 3 34 hs w1)) := fun w1 b1 => clone_any a ca hs (by omega) hl w1 (hr.keep b1)
        have HB := Lib.hid hb
        have HS := Lib.hid hsp
        have ES := Lib.hid es
        rw [h3] at KR
        clear hr hb h1 er er2 es hsp h3
        go_enter Try.func10, Try.ntmps10
        go_wp2_with fail
        refine K.mono ?_; rintro e w1 ⟨u, rfl, hu, hbag, b1⟩
        have s1 := (St.start w w (Below.refl _ _)).more (h := hG u r ⟨none, 0, 0⟩ []) b1 hbag (fun k hk => by
          rcases hk with rfl | hk
          · exact hu
          · simp [Sl.v, Value.ownBlock] at hk)
        clear K hbag hu
        go_wp2_with fail
        refine (KR.out _ b1).mono ?_; rintro e w2 ⟨rfl, b2⟩
        have s2 := s1.keep b2
        clear KR s1 b1 b2
        go_wp2_with fail
        refine (KC.out _ s2.below).mono ?_; rintro e w3 ⟨hv, rfl, hn, b3⟩
        have s3 := s2.more (h := hW cho 3 34 hv hs) b3 hn.1 hn.2.2
        have s4 := s3.nil (h := hW cpt 1 60 ⟨none, 0, 0⟩ []) erow_nil (fun k hk => by simp [hW, Sl.v, Value.ownBlock] at hk)
        have s5 := s4.box [.slice hv.a hv.n hv.c, .slice none 0 0, ptr u] 71
        have s6 : NN w ⟨w3.heap.size, u, hv, ⟨none, 0, 0⟩, []⟩ [] ⟨hs, [], r, []⟩ (w3.alloc (.cells #[.slice hv.a hv.n hv.c, .slice none 0 0, ptr u] 71)) :=
          ⟨⟨none, 0, 0⟩, [], rfl, rfl, ⟨hlen.2, by simp⟩, s5.perm ((List.Perm.swap _ _ _).cons _)⟩
        have SA := Lib.hid s6
        clear s2 s3 s4 s5 s6 hn b3 KC
        go_upto_region 5 with fail
        generalize (w3.alloc (.cells #[.slice hv.a hv.n hv.c, .slice none 0 0, ptr u] 71)) = w4 at *
        generalize w3.heap.size = g at *
        go_wp2_with fail
        go_loopw [39] (fun iv wr => NewJ w g r hs sp iv wr) (fun iv _ => sp.length - (intOf iv).toNat)
        case atStart => exact ⟨0, [], _, Nat.zero_le _, rfl, rfl, rfl, rfl, SA.out⟩
        case round =>
          obtain ⟨j, bs, m, hj, rfl, he, rfl, hbs, s⟩ := hrel
          clear SA
          by_cases hlt : j < sp.length
          · have hlt' : (j : Int) < sp.length := by omega
            have hj0 : (0 : Int) ≤ j := by omega
            have hx : sp[j]? = some sp[j] := List.getElem?_eq_getElem hlt
            obtain ⟨bb, off, rfl, hbl, hcc⟩ := (HB.out.keep s.below) (by omega)
            have c0 := hcc j _ hx 0 _ rfl
            have c1 := hcc j _ hx 1 _ rfl
            have c2 := hcc j _ hx 2 _ rfl
            have c3 := hcc j _ hx 3 _ rfl
            have c4 := hcc j _ hx 4 _ rfl
            simp only [Nat.add_zero] at c0
            have hh := HS.out sp[j] (List.getElem_mem hlt)
            have e2 : addS hs bs (sp.drop j) = if badS hs bs sp[j] then none else addS hs (bs ++ [bxOf sp[j]]) (sp.drop (j + 1)) := by
              rw [List.drop_eq_getElem_cons hlt]; rfl
            rw [e2] at he
            have HE := Lib.hid he
            have s1 := s.new [.int .i64 sp[j].m, .int .i64 sp[j].f, .int .u32 sp[j].ip, .int .u64 sp[j].hold, .int .i64 sp[j].room] 38
            rw [show ([.int .i64 sp[j].m, .int .i64 sp[j].f, .int .u32 sp[j].ip, .int .u64 sp[j].hold, .int .i64 sp[j].room] : List Value).toArray = #[.int .i64 sp[j].m, .int .i64 sp[j].f, .int .u32 sp[j].ip, .int .u64 sp[j].hold, .int .i64 sp[j].room] from rfl] at s1
            have SA := Lib.hid s1
            clear s s1 e2 he hcc hx
            generalize sp[j] = x at *
            obtain ⟨xm, xf, xi, xh, xr⟩ := x
            simp only at c0 c1 c2 c3 c4 hh SA
            have KA := Lib.hid (fun H' wx s => add_n (w0 := w) (m := m) (H := H') (n := ⟨hs, bs, r, []⟩) (w := wx) xm xf xi xh xr hh (by show bs.length < 16; omega) s)
            have C := SA.out.cs (.head _)
            have x0 := C.cell 0 _ rfl
            have x1 := C.cell 1 _ rfl
            have x2 := C.cell 2 _ rfl
            have x3 := C.cell 3 _ rfl
            have x4 := C.cell 4 _ rfl
            have xl := C.lt
            clear C
            go_wp2_with fail
            refine (KA.out _ _ SA.out).mono ?_; rintro e w6 (⟨hbad, rfl, s⟩ | ⟨hbad, rfl, v', q, s⟩)
            · rw [hbad, if_pos rfl] at HE
              have HN := Lib.hid (show newN hs sp r = none by rw [ES.out, HE.out]; rfl)
              have SB := Lib.hid s.below
              clear s HE hbad SA KA c0 c1 c2 c3 c4 x0 x1 x2 x3 x4 xl
              go_wp2
              refine bodyPost_ret (v := .tuple #[.pointer none, .int .i64 1]) (by simp [results, Try.results10, go_sem, *]) rfl ?_
              exact .inl ⟨HN.out, rfl, SB.out⟩
            · rw [hbad, if_neg (by simp)] at HE
              have SB := Lib.hid s.drop
              clear s hbad SA KA c0 c1 c2 c3 c4 x0 x1 x2 x3 x4 xl
              go_wp2
              go_roundw
              case rel => exact ⟨j + 1, bs ++ [bxOf ⟨xm, xf, xi, xh, xr⟩], ⟨m.g, m.u, m.hv, v', m.gs ++ [q]⟩, by omega, by go_num, HE.out, rfl, by rw [List.length_append]; simp; omega, SB.out⟩
              case measure => simp [intOf]; omega
          · obtain rfl : j = sp.length := by omega
            rw [List.drop_length] at he
            have he2 : addS hs [] sp = some bs := he
            have HE := Lib.hid (show newN hs sp r = some ⟨hs, bs, r, []⟩ by rw [ES.out, he2]; rfl)
            have SB := Lib.hid s
            clear s he he2
            go_wp2
            refine bodyPost_ret (v := .tuple #[ptr m.g, .int .i64 0]) (by simp [results, Try.results10, go_sem, *]) rfl ?_
            exact .inr ⟨_, m, HE.out, rfl, SB.out⟩
      · have h3 : rightH hs sp.length = false := by simpa using h3
        have es : newN hs sp r = none := by unfold newN; rw [er, h3, if_pos]; simp
        rw [h3] at KR
        clear hr hb h1 er er2
        go_enter Try.func10, Try.ntmps10
        go_wp2_with fail
        refine K.mono ?_; rintro e w1 ⟨u, rfl, -, -, b1⟩
        clear K
        go_wp2_with fail
        refine (KR.out _ b1).mono ?_; rintro e w2 ⟨rfl, b2⟩
        clear KR
        go_wp2
        refine bodyPost_ret (v := .tuple #[.pointer none, .int .i64 1]) (by simp [results, Try.results10, go_sem, *]) rfl ?_
        exact .inl ⟨es, rfl, b1.trans (b2.mono b1.size)⟩
end Go.Proofs.Ytdpgmdkclaahdaa.Ne
