import Derived.Test.YtblfimobiibmjaaGreatZjAh14
/- The reference's loom: a channel by its name; note once more; alone, over this seat's program. -/
namespace Go.Proofs.YtblfimobiibmjaaGreat
open Go.ChangeShapes Go.WideShapes Go.ChangeAt Go.RowKit
namespace Rlo
open Ba Lo

theorem vw_set {nm : List Int} {n : Nat} {cs : List (Option St)} {k j : Nat} {x : Option St} (h : NI nm n) (hk : k < 8) (hj : nth nm k = (j : Int)) (hl : j < cs.length) : vw nm (cs.set j x) = (vw nm cs).set k x := by
  apply List.ext_getElem?
  intro i
  by_cases i8 : i < 8
  · rw [vw_at (by rw [h.len]; exact i8)]
    by_cases e : k = i
    · subst e
      rw [List.getElem?_set_self (by rw [vw_len, h.len]; exact hk), hj, if_neg (by omega), Int.toNat_natCast, List.getElem?_set_self hl, join_some rfl]
    · rw [List.getElem?_set_ne e, vw_at (by rw [h.len]; exact i8)]
      by_cases h0 : nth nm i < 0
      · rw [if_pos h0, if_pos h0]
      · rw [if_neg h0, if_neg h0, List.getElem?_set_ne (fun e2 => e (h.inj k i hk i8 (by omega) (by omega)))]
  · rw [List.getElem?_eq_none (by rw [vw_len, h.len]; omega), List.getElem?_eq_none (by rw [List.length_set, vw_len, h.len]; omega)]
section
variable {w w2 : World} {col : Nat → Nat} {L N C B : Nat} {FB : Nat → Prop} {q : Hd} {pa : Option Addr} {pc : Nat} {oa : Option Addr} {oc : Nat} {bs : List (Option Nat)} {Fs : Nat → Nat → Prop} {cs : List (Option St)} {ta : Option Addr} {tc : Nat} {s : Lm}
/-- a name's channel -/
theorem RX.chan (h : RX w col L N C B FB q pa pc oa oc bs Fs cs ta tc s) {k : Nat} (hk : k < 8) : (Fk.nmB (vw s.nm bs) (k : Int) = none ∧ Fk.nmB s.sts (k : Int) = none) ∨ ∃ (j B1 : Nat) (st : St), nth s.nm k = (j : Int) ∧ j < cs.length ∧ bs[j]? = some (some B1) ∧ cs[j]? = some (some st) ∧ Fk.nmB (vw s.nm bs) (k : Int) = some B1 ∧ Fk.nmB s.sts (k : Int) = some st ∧ Rp.Rr w B1 (Fs j) st := by
  have a1 := vw_at (nm := s.nm) (l := bs) (i := k) (by rw [h.ni.len]; exact hk)
  have a2 := vw_at (nm := s.nm) (l := cs) (i := k) (by rw [h.ni.len]; exact hk)
  rw [← h.vs] at a2
  by_cases h0 : nth s.nm k < 0
  · rw [if_pos h0] at a1 a2
    exact .inl ⟨nm_at a1, nm_at a2⟩
  · rw [if_neg h0] at a1 a2
    obtain ⟨j, hj⟩ : ∃ j : Nat, nth s.nm k = (j : Int) := ⟨(nth s.nm k).toNat, by omega⟩
    have jl : j < bs.length := by have := h.nl hk (show 0 ≤ nth s.nm k by omega); rw [hj] at this; simpa using this
    have jc : j < cs.length := by rw [← h.qs.len]; exact jl
    rw [hj, Int.toNat_natCast] at a1 a2
    cases hb : bs[j] with
    | none =>
      have e1 : bs[j]? = some none := by rw [List.getElem?_eq_getElem jl, hb]
      rw [join_some e1] at a1
      rw [join_some (h.qs.non j e1)] at a2
      exact .inl ⟨nm_at a1, nm_at a2⟩
    | some B1 =>
      have e1 : bs[j]? = some (some B1) := by rw [List.getElem?_eq_getElem jl, hb]
      obtain ⟨st, e2, r⟩ := h.qs.one j B1 e1
      rw [join_some e1] at a1
      rw [join_some e2] at a2
      exact .inr ⟨j, B1, st, hj, jc, e1, e2, nm_at a1, nm_at a2, r⟩
/-- a channel has changed -/
theorem RX.chanSet (h : RX w col L N C B FB q pa pc oa oc bs Fs cs ta tc s) {k j B1 : Nat} {F' : Nat → Prop} {st' : St} (hk : k < 8) (hj : nth s.nm k = (j : Int)) (jl : j < cs.length) (hb : bs[j]? = some (some B1)) (kf : KF (Fs j) w w2) (nw : Nw F' (Fs j) w) (p : Rp.Rr w2 B1 F' st') :
    ∃ Fs' cs' col', RX w2 col' L N C B FB q pa pc oa oc bs Fs' cs' ta tc { s with sts := s.sts.set k (some st') } ∧ Tq col col' w w2 := by
  obtain ⟨Fs', col', h2, t2⟩ := h.all (Fk.Rz.step Fk.frR h.qs (Below.refl _ _) hb kf nw p)
  rw [vw_set h.ni hk hj jl, ← h.vs] at h2
  exact ⟨Fs', _, col', h2, t2⟩
end
set_option maxRecDepth 100000 in
set_option maxHeartbeats 1600000 in
theorem note_x {col : Nat → Nat} {L N C B : Nat} {FB : Nat → Prop} {q : Hd} {pa : Option Addr} {pc : Nat} {oa : Option Addr} {oc : Nat} {bs : List (Option Nat)} {Fs : Nat → Nat → Prop} {cs : List (Option St)} {ta : Option Addr} {tc : Nat} {s : Lm} (e : Ev) (w : World) (h : RX w col L N C B FB q pa pc oa oc bs Fs cs ta tc s) (ht : s.tr.length ≤ 1000000) :
    Calls Tryz.prog 104 #[.pointer (some ⟨L, 0, none⟩), En.evv e] w fun r w' => r = .returned (.tuple #[]) ∧ ∃ ta' tc' col', RX w' col' L N C B FB q pa pc oa oc bs Fs cs ta' tc' (tellS s e) ∧ Tq col col' w w' := by
  unfold En.evv En.evc
  obtain ⟨i0, hi, hz0, hz1, hz2⟩ : ∃ i0, Tryz.prog.info? 50 = some i0 ∧ i0.zero = some (.agg #[.int .i64 0, .int .i64 0, .int .i64 0, .int .i64 0, .int .i64 0, .int .i64 0, .bool false, .bool false]) ∧ i0.size = 8 ∧ i0.bytes = 56 := by
    cases hi : Tryz.prog.info? 50 with
    | none => have := info_ev; rw [hi] at this; cases this
    | some i0 =>
      have hx := info_ev
      rw [hi] at hx
      simp at hx
      exact ⟨i0, rfl, hx⟩
  have INF := hide (And.intro hi (And.intro hz0 (And.intro hz1 hz2)))
  have H := hide h
  have y0 : w.cell? ⟨L, 16, none⟩ = some (.slice ta s.tr.length tc) := cell_of h.hp 16
  have f0 : w.frozen? ⟨L, 16, none⟩ = false := frozen_of h.hp 16
  have hL := h.lt
  clear h hi hz0 hz1 hz2
  have BD := hide (btr (btr (below_alloc w (.cells #[.int .i64 e.k, .int .i64 e.g, .int .i64 e.c, .int .i64 e.a, .int .i64 e.v, .int .i64 e.m, .bool e.s, .bool e.o] 50)) (below_alloc _ (.cells #[.int .i64 e.k, .int .i64 e.g, .int .i64 e.c, .int .i64 e.a, .int .i64 e.v, .int .i64 e.m, .bool e.s, .bool e.o] 50))) (bdrew1 _))
  have ow1 : ((w.alloc (.cells #[.int .i64 e.k, .int .i64 e.g, .int .i64 e.c, .int .i64 e.a, .int .i64 e.v, .int .i64 e.m, .bool e.s, .bool e.o] 50)).alloc (.cells #[.int .i64 e.k, .int .i64 e.g, .int .i64 e.c, .int .i64 e.a, .int .i64 e.v, .int .i64 e.m, .bool e.s, .bool e.o] 50)).drew.ownsRow 0 50 8 (.slice ta s.tr.length tc) s.tr.length (ec s.tr) := Cr.own_keep H.out.tr fun g e => by
    obtain ⟨_, cur, hc⟩ := Cr.own_blk H.out.tr g e
    exact BD.out.block g (heap_lt hc)
  obtain ⟨v', w6, hr, hown, hgrow, _, hat⟩ := run_append_own_at (P := Tryz.prog) (((w.alloc (.cells #[.int .i64 e.k, .int .i64 e.g, .int .i64 e.c, .int .i64 e.a, .int .i64 e.v, .int .i64 e.m, .bool e.s, .bool e.o] 50)).alloc (.cells #[.int .i64 e.k, .int .i64 e.g, .int .i64 e.c, .int .i64 e.a, .int .i64 e.v, .int .i64 e.m, .bool e.s, .bool e.o] 50)).drew) 0 22 22 50 i0 _ 8 56 Tryz.underlying22 INF.out.1 INF.out.2.1 INF.out.2.2.1 INF.out.2.2.2 rfl (by decide) _ _ _ ow1 ⟨w.heap.size + 1, 0, none⟩ 1 1 (ec [e]) rfl (src8 w e _) (ec_one _) (by unfold maxLen; omega) (by omega) (Nat.zero_le _)
  rw [← ec_app] at hown
  obtain ⟨ta', tc', rfl⟩ := own_sl hown
  obtain ⟨col', hx, htr⟩ := H.out.told BD.out rfl hown hgrow hat
  have G6 : w6.heap[L]? = some (.cells (rcs q pa s.ps.length pc C B oa bs.length oc s.nm ta s.tr.length tc s.pk) 114 (0, 0)) := by
    refine (hgrow.block L (Nat.lt_of_lt_of_le hL BD.out.size) (fun e => ?_)).trans ((BD.out.block L hL).trans H.out.hp)
    have := H.out.c5 L e.symm
    rw [H.out.c0] at this
    omega
  have y6 : w6.cell? ⟨L, 16, none⟩ = some (.slice ta s.tr.length tc) := cell_of G6 16
  have f6 : w6.frozen? ⟨L, 16, none⟩ = false := frozen_of G6 16
  have HX := hide hx
  have HT := hide htr
  have HR := hide hr
  clear hown hgrow hat hr hx htr G6 ow1 BD
  go_enter Tryz.func104, Tryz.ntmps104
  go_wp2_with fail
  go_region_law (refine Rp.step_append_run _ (by rfl) _ _ _ _ (by rfl) _ _ (by rfl) (by rfl) _ _ HR.out ?_)
  all_goals
    go_wp2_with fail
    go_end0
    exact ⟨rfl, ta', tc', col', HX.out, HT.out⟩
theorem talk_any (L N : Nat) (col : Nat → Nat) (s : Lm) (K : Nat) (g at_ : Int) (sd : Bool) (k : Nat) (v : Int) (w : World) (h : RW w col L N s) (ok : Ok K s) (hK : K ≤ 99000) (hk : k < 8) :
    Calls Tryz.prog 147 #[.pointer (some ⟨L, 0, none⟩), .int .i64 g, .agg #[.bool sd, .int .i64 (k : Int), .int .i64 v], .int .i64 at_] w fun r w' => r = .returned (.tuple #[]) ∧ ∃ col', RW w' col' L N (talkF s g at_ ⟨sd, k, v⟩) ∧ Tq col col' w w' := by
  cases sd
  · exact talk_recv L N col s K g at_ false k v w h ok hK hk rfl
  · exact talk_send L N col s K g at_ true k v w h ok hK hk rfl
set_option maxRecDepth 100000 in
set_option maxHeartbeats 3200000 in
theorem alone_r (L N : Nat) (col : Nat → Nat) (s : Lm) (K : Nat) (g : Int) (sd : Bool) (k : Nat) (v : Int) (w : World) (h : RW w col L N s) (ok : Ok K s) (hK : K ≤ 99000) (hk : k < 8) :
    Calls Tryz.prog 107 #[.pointer (some ⟨L, 0, none⟩), .int .i64 g, .agg #[.bool sd, .int .i64 (k : Int), .int .i64 v]] w fun r w' => r = .returned (.tuple #[]) ∧ ∃ col', RW w' col' L N (aloneR s g ⟨sd, k, v⟩) ∧ Tq col col' w w' := by
  obtain ⟨C, B, FB, hd, pa, pc, oa, oc, bs, Fs, cs, ta, tc, h⟩ := h
  obtain ⟨col1, h1, t1, n1⟩ := h.below (below_alloc w (.cells #[.bool sd, .int .i64 (k : Int), .int .i64 v] 166))
  have T1 := hide t1
  have H1 := hide h1
  have E1 := hide (heap_new w (.cells #[.bool sd, .int .i64 (k : Int), .int .i64 v] 166))
  have N1 := hide (n1 w.heap.size (Nat.le_refl _))
  have PI := hide (fun u (hb : Below (w.alloc (.cells #[.bool sd, .int .i64 (k : Int), .int .i64 v] 166)).heap.size (w.alloc (.cells #[.bool sd, .int .i64 (k : Int), .int .i64 v] 166)) u) => pipes_q (w.alloc (.cells #[.bool sd, .int .i64 (k : Int), .int .i64 v] 166)) u H1.out hb)
  have OK := hide ok
  have CH := hide (h.chan hk)
  have NV := hide (fun u oa d (hq : Fk.PR u oa (vw s.nm bs)) => Fk.rnamed_any oa (vw s.nm bs) (k : Int) d u hq)
  obtain ⟨R, hR⟩ : ∃ R, aloneR s g ⟨sd, k, v⟩ = R := ⟨_, rfl⟩
  rw [hR]
  unfold aloneR Fk.crdy waitN at hR
  simp only at hR
  have c1 : (w.alloc (.cells #[.bool sd, .int .i64 (k : Int), .int .i64 v] 166)).cell? ⟨w.heap.size, 1, none⟩ = some (.int .i64 (k : Int)) := cell_of E1.out 1
  clear h t1 h1 n1 ok
  rcases CH.out with ⟨hb0, hs0⟩ | ⟨j, B1, st, hj, jl, hbj, hcj, hb0, hs0, rr⟩
  · rw [hb0] at NV
    rw [hs0] at hR
    simp only [Bool.false_eq_true, if_false] at hR
    unfold Pe.pt at NV
    simp only [Option.map_none] at NV
    have HR := hide hR
    clear hR CH
    go_enter Tryz.func107, Tryz.ntmps107
    go_wp2_with fail
    go_region_held3 (fun w' => w'.cell? ⟨w.heap.size, 1, none⟩ = some (.int .i64 (k : Int)))
      (first | (go_keep; done) | (exact y1))
      (first
        | (go_at_call 145; refine (PI.out _ (bdrew1 _)).mono ?_; rintro r w2 ⟨ob, d, rfl, q2, b2⟩; have hb2 := btr (bdrew1 (w.alloc (.cells #[.bool sd, .int .i64 (k : Int), .int .i64 v] 166))) b2; have Y2 := hide (heap_below E1.out hb2); have y1 : w2.cell? ⟨w.heap.size, 1, none⟩ = some (.int .i64 (k : Int)) := cell_of Y2.out 1)
        | (go_at_call 144; refine (NV.out _ ob d q2.row).mono ?_; rintro r w3 ⟨rfl, rfl⟩))
    obtain ⟨col3, h3, t3, -⟩ := H1.out.below hb2
    have H3 := hide h3
    have T3 := hide (T1.out.trans t3)
    have N3 : Hid (col3 w.heap.size = 7) := (t3.old _ (heap_lt E1.out) (by rw [N1.out]; omega)).trans N1.out
    have E3 := hide Y2.out
    rename_i hH2
    clear hH2 h3 t3 b2 hb2 q2 Y2 y1 PI NV T1 H1 E1 N1 c1
    go_wp2_with fail
    refine (bare_r 6 g _).mono ?_
    rintro r w5 ⟨rfl, b5⟩
    unfold En.evv En.evc bareE
    obtain ⟨col6, h6, t6, n6⟩ := H3.out.below (btr b5 (below_alloc w5 (.cells #[.int .i64 6, .int .i64 g, .int .i64 (-1), .int .i64 (-1), .int .i64 (-1), .int .i64 (-1), .bool false, .bool false] 50)))
    have V6 := hide (heap_new w5 (.cells #[.int .i64 6, .int .i64 g, .int .i64 (-1), .int .i64 (-1), .int .i64 (-1), .int .i64 (-1), .bool false, .bool false] 50))
    have s5 := b5.size
    have C6 := hide (n6 w5.heap.size s5)
    have E6 := hide (t6.heap E3.out N3.out)
    have N6 : Hid (col6 w.heap.size = 7) := (t6.old _ (heap_lt E3.out) (by rw [N3.out]; omega)).trans N3.out
    have T6 := hide (T3.out.trans t6)
    have H6 := hide h6
    have hE3 := heap_lt E3.out
    have hz6 : w.heap.size ≤ w5.heap.size := by omega
    have hn6 : w.heap.size ≠ w5.heap.size := by omega
    have hL6 : L ≠ w5.heap.size := fun e => by have := H6.out.c0; rw [e, C6.out] at this; omega
    clear h6 t6 n6 b5 T3 E3 N3 hE3
    have u0 : (w5.alloc (.cells #[.int .i64 6, .int .i64 g, .int .i64 (-1), .int .i64 (-1), .int .i64 (-1), .int .i64 (-1), .bool false, .bool false] 50)).cell? ⟨L, 8 + k, none⟩ = some (.int .i64 (nth s.nm k)) := H6.out.num hk
    go_wp2_with fail
    generalize w5.alloc (.cells #[.int .i64 6, .int .i64 g, .int .i64 (-1), .int .i64 (-1), .int .i64 (-1), .int .i64 (-1), .bool false, .bool false] 50) = w6 at *
    generalize w5.heap.size = Eb at *
    have c1 : w6.cell? ⟨w.heap.size, 1, none⟩ = some (.int .i64 (k : Int)) := cell_of E6.out 1
    have v2 := cell_of V6.out 2
    have e2 := frozen_of V6.out 2
    have k0 : (0 : Int) ≤ (k : Int) := by omega
    have k8 : (k : Int) < 8 := by omega
    simp at v2
    go_region_held3 (fun w' => w'.cell? ⟨w.heap.size, 1, none⟩ = some (.int .i64 (k : Int)) ∧ w'.cell? ⟨L, 8 + k, none⟩ = some (.int .i64 (nth s.nm k)))
      (first | (go_keep; done) | (go_split_ands; refine ⟨kset1 ?_ hn6, kset1 ?_ hL6⟩ <;> assumption))
      (fail)
    have V7 := hide (heap_below (Ba.heap_setCell_same V6.out (i := 2) (.int .i64 (nth s.nm k))) (bdrew1 _))
    have K6 := (KB.refl Eb w6).setCell 2 (.int .i64 (nth s.nm k))
    have H7 := hide (H6.out.kb K6 C6.out).drew
    have T7 := hide (T6.out.kb K6 hz6).drew
    have E7 := hide (heap_below (K6.heap E6.out hn6) (bdrew1 _))
    rename_i hH5
    clear hH5 K6 V6 H6 T6 E6 c1 u0 v2 e2
    generalize w6.setCell ⟨Eb, 2, none⟩ (.int .i64 (nth s.nm k)) = w7z at *
    generalize w7z.drew = w7 at *
    have c0 : w7.cell? ⟨w.heap.size, 0, none⟩ = some (.bool sd) := cell_of E7.out 0
    have c2 : w7.cell? ⟨w.heap.size, 2, none⟩ = some (.int .i64 v) := cell_of E7.out 2
    have v0 := cell_of V7.out 0
    have v1 := cell_of V7.out 1
    have v2 := cell_of V7.out 2
    have v3 := cell_of V7.out 3
    have v4 := cell_of V7.out 4
    have v5 := cell_of V7.out 5
    have v6 := cell_of V7.out 6
    have v7 := cell_of V7.out 7
    have e4 := frozen_of V7.out 4
    have e6 := frozen_of V7.out 6
    simp at v0 v1 v2 v3 v4 v5 v6 v7
    have K7 := ((KB.refl Eb w7).setCell 4 (.int .i64 v)).setCell 6 (.bool sd)
    have H8 := hide (H7.out.kb K7 C6.out)
    have T8 := hide (T7.out.kb K7 hz6)
    have E8 := hide (K7.heap E7.out hn6)
    have NO := hide (note_x (⟨6, g, nth s.nm k, -1, v, -1, sd, false⟩ : Ev) _ H8.out (by have := OK.out.tn; omega))
    unfold En.evv En.evc at NO
    clear K7
    go_wp2_with fail
    refine NO.out.mono ?_
    rintro r w9 ⟨rfl, ta9, tc9, col9, h9, t9⟩
    have H9 := hide h9
    have T9 := hide (T8.out.trans t9)
    have E9 := hide (t9.heap E8.out N6.out)
    have N9 : Hid (col9 w.heap.size = 7) := (t9.old _ (heap_lt E8.out) (by rw [N6.out]; omega)).trans N6.out
    clear h9 t9 NO V7 H7 T7 E7 H8 T8 E8 c0 c2 v0 v1 v2 v3 v4 v5 v6 v7 e4 e6
    have ya := cell_of H9.out.hp 6
    simp [rcs] at ya
    have TU := hide (Cr.rturn01 B FB s.cr K g w9 H9.out.cr OK.out.cb (by omega))
    go_wp2_with fail
    refine TU.out.mono ?_
    rintro r wb ⟨rfl, pb⟩
    obtain ⟨FBb, colb, hb, tb⟩ := H9.out.crew pb
    have Hb := hide hb
    have Tb := hide (T9.out.trans tb)
    clear hb tb pb TU
    go_wp2_with fail
    go_end0
    refine ⟨rfl, colb, ?_, Tb.out⟩
    have hR := HR.out
    simp only [num, Int.toNat_natCast] at hR
    rw [← hR]
    exact Hb.out.lw
  · rw [hb0] at NV
    rw [hs0] at hR
    simp only at hR
    unfold Pe.pt at NV
    simp only [Option.map_some] at NV
    have HR := hide hR
    have RR := hide rr
    have HBJ := hide hbj
    have HJ := hide hj
    have HCJ := hide hcj
    clear hR CH rr hbj hj hcj hb0 hs0
    go_enter Tryz.func107, Tryz.ntmps107
    go_wp2_with fail
    go_region_held3 (fun w' => w'.cell? ⟨w.heap.size, 1, none⟩ = some (.int .i64 (k : Int)))
      (first | (go_keep; done) | (exact y1))
      (first
        | (go_at_call 145; refine (PI.out _ (bdrew1 _)).mono ?_; rintro r w2 ⟨ob, d, rfl, q2, b2⟩; have hb2 := btr (bdrew1 (w.alloc (.cells #[.bool sd, .int .i64 (k : Int), .int .i64 v] 166))) b2; have Y2 := hide (heap_below E1.out hb2); have y1 : w2.cell? ⟨w.heap.size, 1, none⟩ = some (.int .i64 (k : Int)) := cell_of Y2.out 1)
        | (go_at_call 144; refine (NV.out _ ob d q2.row).mono ?_; rintro r w3 ⟨rfl, rfl⟩))
    have RD := hide (Rp.rready_any B1 (Fs j) st sd w3 ((RR.out.below (below_alloc w (.cells #[.bool sd, .int .i64 (k : Int), .int .i64 v] 166))).below hb2))
    have c0 : w3.cell? ⟨w.heap.size, 0, none⟩ = some (.bool sd) := cell_of Y2.out 0
    rename_i hH2
    clear hH2 b2 q2 y1 PI NV
    have Y3 := hide hb2
    clear hb2
    go_wp2_with fail
    refine RD.out.mono ?_
    rintro r w4 ⟨rfl, b4⟩
    obtain ⟨col3, h3, t3, -⟩ := H1.out.below (btr Y3.out b4)
    have H3 := hide h3
    have T3 := hide (T1.out.trans t3)
    have N3 : Hid (col3 w.heap.size = 7) := (t3.old _ (heap_lt E1.out) (by rw [N1.out]; omega)).trans N1.out
    have E3 := hide (heap_below Y2.out b4)
    clear h3 t3 b4 Y2 Y3 RD c0 T1 H1 E1 N1 c1
    cases hrd : _root_.Go.Proofs.YtblfimobiibmjaaGreat.Pi.rdy st sd
    · have hR := HR.out
      rw [hrd] at hR
      simp only [Bool.false_eq_true, if_false] at hR
      have HR2 := hide hR
      clear hR HR
      have HR := HR2
      clear HR2
      go_wp2_with fail
      refine (bare_r 6 g _).mono ?_
      rintro r w5 ⟨rfl, b5⟩
      unfold En.evv En.evc bareE
      obtain ⟨col6, h6, t6, n6⟩ := H3.out.below (btr b5 (below_alloc w5 (.cells #[.int .i64 6, .int .i64 g, .int .i64 (-1), .int .i64 (-1), .int .i64 (-1), .int .i64 (-1), .bool false, .bool false] 50)))
      have V6 := hide (heap_new w5 (.cells #[.int .i64 6, .int .i64 g, .int .i64 (-1), .int .i64 (-1), .int .i64 (-1), .int .i64 (-1), .bool false, .bool false] 50))
      have s5 := b5.size
      have C6 := hide (n6 w5.heap.size s5)
      have E6 := hide (t6.heap E3.out N3.out)
      have N6 : Hid (col6 w.heap.size = 7) := (t6.old _ (heap_lt E3.out) (by rw [N3.out]; omega)).trans N3.out
      have T6 := hide (T3.out.trans t6)
      have H6 := hide h6
      have hE3 := heap_lt E3.out
      have hz6 : w.heap.size ≤ w5.heap.size := by omega
      have hn6 : w.heap.size ≠ w5.heap.size := by omega
      have hL6 : L ≠ w5.heap.size := fun e => by have := H6.out.c0; rw [e, C6.out] at this; omega
      clear h6 t6 n6 b5 T3 E3 N3 hE3
      have u0 : (w5.alloc (.cells #[.int .i64 6, .int .i64 g, .int .i64 (-1), .int .i64 (-1), .int .i64 (-1), .int .i64 (-1), .bool false, .bool false] 50)).cell? ⟨L, 8 + k, none⟩ = some (.int .i64 (nth s.nm k)) := H6.out.num hk
      go_wp2_with fail
      generalize w5.alloc (.cells #[.int .i64 6, .int .i64 g, .int .i64 (-1), .int .i64 (-1), .int .i64 (-1), .int .i64 (-1), .bool false, .bool false] 50) = w6 at *
      generalize w5.heap.size = Eb at *
      have c1 : w6.cell? ⟨w.heap.size, 1, none⟩ = some (.int .i64 (k : Int)) := cell_of E6.out 1
      have v2 := cell_of V6.out 2
      have e2 := frozen_of V6.out 2
      have k0 : (0 : Int) ≤ (k : Int) := by omega
      have k8 : (k : Int) < 8 := by omega
      simp at v2
      go_region_held3 (fun w' => w'.cell? ⟨w.heap.size, 1, none⟩ = some (.int .i64 (k : Int)) ∧ w'.cell? ⟨L, 8 + k, none⟩ = some (.int .i64 (nth s.nm k)))
        (first | (go_keep; done) | (go_split_ands; refine ⟨kset1 ?_ hn6, kset1 ?_ hL6⟩ <;> assumption))
        (fail)
      have V7 := hide (heap_below (Ba.heap_setCell_same V6.out (i := 2) (.int .i64 (nth s.nm k))) (bdrew1 _))
      have K6 := (KB.refl Eb w6).setCell 2 (.int .i64 (nth s.nm k))
      have H7 := hide (H6.out.kb K6 C6.out).drew
      have T7 := hide (T6.out.kb K6 hz6).drew
      have E7 := hide (heap_below (K6.heap E6.out hn6) (bdrew1 _))
      rename_i hH5
      clear hH5 K6 V6 H6 T6 E6 c1 u0 v2 e2
      generalize w6.setCell ⟨Eb, 2, none⟩ (.int .i64 (nth s.nm k)) = w7z at *
      generalize w7z.drew = w7 at *
      have c0 : w7.cell? ⟨w.heap.size, 0, none⟩ = some (.bool sd) := cell_of E7.out 0
      have c2 : w7.cell? ⟨w.heap.size, 2, none⟩ = some (.int .i64 v) := cell_of E7.out 2
      have v0 := cell_of V7.out 0
      have v1 := cell_of V7.out 1
      have v2 := cell_of V7.out 2
      have v3 := cell_of V7.out 3
      have v4 := cell_of V7.out 4
      have v5 := cell_of V7.out 5
      have v6 := cell_of V7.out 6
      have v7 := cell_of V7.out 7
      have e4 := frozen_of V7.out 4
      have e6 := frozen_of V7.out 6
      simp at v0 v1 v2 v3 v4 v5 v6 v7
      have K7 := ((KB.refl Eb w7).setCell 4 (.int .i64 v)).setCell 6 (.bool sd)
      have H8 := hide (H7.out.kb K7 C6.out)
      have T8 := hide (T7.out.kb K7 hz6)
      have E8 := hide (K7.heap E7.out hn6)
      have NO := hide (note_x (⟨6, g, nth s.nm k, -1, v, -1, sd, false⟩ : Ev) _ H8.out (by have := OK.out.tn; omega))
      unfold En.evv En.evc at NO
      clear K7
      go_wp2_with fail
      refine NO.out.mono ?_
      rintro r w9 ⟨rfl, ta9, tc9, col9, h9, t9⟩
      have H9 := hide h9
      have T9 := hide (T8.out.trans t9)
      have E9 := hide (t9.heap E8.out N6.out)
      have N9 : Hid (col9 w.heap.size = 7) := (t9.old _ (heap_lt E8.out) (by rw [N6.out]; omega)).trans N6.out
      clear h9 t9 NO V7 H7 T7 E7 H8 T8 E8 c0 c2 v0 v1 v2 v3 v4 v5 v6 v7 e4 e6
      have c0 : w9.cell? ⟨w.heap.size, 0, none⟩ = some (.bool sd) := cell_of E9.out 0
      have c2 : w9.cell? ⟨w.heap.size, 2, none⟩ = some (.int .i64 v) := cell_of E9.out 2
      obtain ⟨st9, e9, r9⟩ := H9.out.qs.one j B1 HBJ.out
      have est : Hid (st9 = st) := by
        have h0 := HCJ.out
        show st9 = st
        rw [e9] at h0
        cases h0
        rfl
      have WT := hide (Rp.rwait_any B1 (Fs j) st9 sd ⟨g, -1, v⟩ w9 r9)
      unfold Pe.wv at WT
      clear r9 e9
      go_wp2_with fail
      refine WT.out.mono ?_
      rintro r wa ⟨rfl, kfa, Fa, nwa, pa_⟩
      obtain ⟨Fsa, csa, cola, ha, ta_⟩ := H9.out.chanSet hk (show nth s.nm k = (j : Int) from HJ.out) jl HBJ.out kfa nwa pa_
      have Ta := hide (T9.out.trans ta_)
      have ya := cell_of ha.hp 6
      simp [rcs] at ya
      have TU := hide (Cr.rturn01 B FB s.cr K g wa ha.cr OK.out.cb (by omega))
      have Ha := hide ha
      clear ha ta_ kfa nwa pa_ WT c0 c2
      go_wp2_with fail
      refine TU.out.mono ?_
      rintro r wb ⟨rfl, pb⟩
      obtain ⟨FBb, colb, hb, tb⟩ := Ha.out.crew pb
      have Hb := hide hb
      have Tb := hide (Ta.out.trans tb)
      clear hb tb pb TU
      go_wp2_with fail
      go_end0
      refine ⟨rfl, colb, ?_, Tb.out⟩
      have hR := HR.out
      simp only [num, Int.toNat_natCast] at hR
      rw [← hR, ← est.out]
      exact Hb.out.lw
    · have hR := HR.out
      rw [hrd] at hR
      simp only [if_true] at hR
      have c0 : w4.cell? ⟨w.heap.size, 0, none⟩ = some (.bool sd) := cell_of E3.out 0
      have c1 : w4.cell? ⟨w.heap.size, 1, none⟩ = some (.int .i64 (k : Int)) := cell_of E3.out 1
      have c2 : w4.cell? ⟨w.heap.size, 2, none⟩ = some (.int .i64 v) := cell_of E3.out 2
      have TA := hide (talk_any L N col3 s K g (-1) sd k v w4 H3.out.lw OK.out hK hk)
      rw [hR] at TA
      clear HR hR
      go_wp2_with fail
      refine TA.out.mono ?_
      rintro r w5 ⟨rfl, col5, h5, t5⟩
      have H5 := hide h5
      have T5 := hide (T3.out.trans t5)
      clear h5 t5 TA
      go_wp2_with fail
      exact bodyPost_ret (results_none rfl _ _ _) rfl ⟨rfl, col5, H5.out, T5.out⟩
end Rlo
end Go.Proofs.YtblfimobiibmjaaGreat
/- The reference's loom: shut, over this seat's program. -/
namespace Go.Proofs.YtblfimobiibmjaaGreat
open Go.ChangeShapes Go.WideShapes Go.ChangeAt Go.RowKit
namespace Rp
open Ba Pe _root_.Go.Proofs.YtblfimobiibmjaaGreat.Pi

theorem RO.less {w : World} {G : Nat} {F F' : Nat → Prop} {vL vS vQ : Value} {st : St} (h : RO w G F vL vS vQ st) (hg : F' G) (hl : ∀ g, vL.ownBlock = some g → F' g) (hs : ∀ g, vS.ownBlock = some g → F' g) (hq : ∀ g, vQ.ownBlock = some g → F' g) (hb : ∀ x, F' x → F x) : RO w G F' vL vS vQ st :=
  ⟨h.hp, h.rl, h.rs, h.rq, h.ap, hg, hl, hs, hq, fun x hx => h.bd x (hb x hx), h.les, h.leq, h.bl, h.sz⟩
theorem own_addr {w : World} {base : Nat} {e : TypeId} {size : Nat} {oa : Option Addr} {n c m : Nat} {xs : List Value} (h : w.ownsRow base e size (.slice oa n c) m xs) : ∀ a, oa = some a → (Value.slice oa n c).ownBlock = some a.block := by
  rcases h.2 with ⟨e0, h0⟩ | ⟨g, cap, cur, e0, _⟩
  · cases e0
    exact fun a e => by cases e
  · cases e0
    exact fun a e => by cases e; rfl
set_option maxRecDepth 100000 in
set_option maxHeartbeats 1600000 in
/-- Close: the rows that are handed back lie apart from the channel -/
theorem rclose_rows (G : Nat) (F : Nat → Prop) (st : St) (w : World) (h : Rr w G F st) (hc : st.closed = false) :
    Calls Tryz.prog 151 #[.pointer (some ⟨G, 0, none⟩)] w fun r w' => ∃ oa ca ob cb, r = .returned (.tuple #[.slice oa st.rcv.length ca, .slice ob st.snd.length cb, .int .i64 0]) ∧ (WAt w' oa st.rcv ∧ WAt w' ob st.snd) ∧ KF F w w' ∧ ∃ F' : Nat → Prop, (∀ x, F' x → F x) ∧ Rr w' G F' { st with snd := [], rcv := [], closed := true } ∧ (∀ a, oa = some a → F a.block ∧ ¬ F' a.block) ∧ ∀ a, ob = some a → F a.block ∧ ¬ F' a.block := by
  obtain ⟨vL, vS, vQ, h⟩ := h
  have H := hide h
  obtain ⟨ol, cl, os, cs, oq, cq, ⟨rfl, _, _⟩, ⟨rfl, _, _⟩, rfl, _, _⟩ := h.read
  have y4 : w.cell? ⟨G, 4, none⟩ = some (.bool false) := (cell_of h.hp 4).trans (by rw [hc]; rfl)
  have y2 : w.cell? ⟨G, 2, none⟩ = some (.slice os st.snd.length cs) := cell_of h.hp 2
  have y3 : w.cell? ⟨G, 3, none⟩ = some (.slice oq st.rcv.length cq) := cell_of h.hp 3
  have f2 := frozen_of h.hp 2
  have f3 := frozen_of h.hp 3
  have f4 := frozen_of h.hp 4
  have P1 := hide (h.setClosed true)
  have P2 := hide (P1.out.newQ (N := w.heap.size) (l := []) (World.ownsRow_nil _ _ _ _) (fun k hk => H.out.bd k hk) (Nat.zero_le _))
  have P3 := hide (P2.out.newS (N := w.heap.size) (l := []) (World.ownsRow_nil _ _ _ _) (fun k hk => hk.elim (H.out.bd k) (fun e => by simp [Value.ownBlock] at e)) (Nat.zero_le _))
  clear h hc
  go_enter Tryz.func151, Tryz.ntmps151
  go_wp2_with fail
  go_ret3
  have K := ((((KF.refl F w).set H.out.fg 4 (.bool true)).set H.out.fg 3 (.slice none 0 0)).set H.out.fg 2 (.slice none 0 0))
  have KG := ((((KB.refl G w).setCell 4 (.bool true)).setCell 3 (.slice none 0 0)).setCell 2 (.slice none 0 0))
  refine ⟨oq, cq, os, ⟨cs, rfl⟩, ⟨?_, ?_⟩, K, fun x => x = G ∨ (Value.slice ol st.buf.length cl).ownBlock = some x, ?_, (P3.out.less (.inl rfl) (fun g e => .inr e) (fun g e => by simp [Value.ownBlock] at e) (fun g e => by simp [Value.ownBlock] at e) ?_).rr, ?_, ?_⟩
  · refine own_wat' (own_keep H.out.rq fun g e => KG.block g (H.out.bd g (H.out.fq g e)) (fun e2 => ?_))
    exact own_ty H.out.rq H.out.hp (by decide) (by rw [← e2]; exact e.symm)
  · refine own_wat' (own_keep H.out.rs fun g e => KG.block g (H.out.bd g (H.out.fs g e)) (fun e2 => ?_))
    exact own_ty H.out.rs H.out.hp (by decide) (by rw [← e2]; exact e.symm)
  · rintro x (rfl | e)
    · exact H.out.fg
    · exact H.out.fl x e
  · rintro x (rfl | e)
    · exact .inl (.inl H.out.fg)
    · exact .inl (.inl (H.out.fl x e))
  · intro a e
    have e2 := own_addr H.out.rq a e
    refine ⟨H.out.fq _ e2, ?_⟩
    rintro (q | q)
    · exact own_ty H.out.rq H.out.hp (by decide) (by rw [← q]; exact e2.symm)
    · exact own_ne H.out.rq H.out.rl (by decide) _ e2 q
  · intro a e
    have e2 := own_addr H.out.rs a e
    refine ⟨H.out.fs _ e2, ?_⟩
    rintro (q | q)
    · exact own_ty H.out.rs H.out.hp (by decide) (by rw [← q]; exact e2.symm)
    · exact own_ne H.out.rs H.out.rl (by decide) _ e2 q
end Rp
namespace Rlo
open Ba Lo
section
variable {w w2 : World} {col : Nat → Nat} {L N C B : Nat} {FB : Nat → Prop} {q : Hd} {pa : Option Addr} {pc : Nat} {oa : Option Addr} {oc : Nat} {bs : List (Option Nat)} {Fs : Nat → Nat → Prop} {cs : List (Option St)} {ta : Option Addr} {tc : Nat} {s : Lm}
/-- a channel has lost blocks -/
theorem RX.closed (h : RX w col L N C B FB q pa pc oa oc bs Fs cs ta tc s) {k j B1 : Nat} {F' : Nat → Prop} {st' : St} (hk : k < 8) (hj : nth s.nm k = (j : Int)) (jl : j < cs.length) (hb : bs[j]? = some (some B1)) (kf : KF (Fs j) w w2) (sub : ∀ x, F' x → Fs j x) (p : Rp.Rr w2 B1 F' st') :
    ∃ Fs' cs' col', RX w2 col' L N C B FB q pa pc oa oc bs Fs' cs' ta tc { s with sts := s.sts.set k (some st') } ∧ Tq col col' w w2 ∧ ∀ x, Fs j x → ¬ F' x → col' x = 7 := by
  have qs := h.qs.step Fk.frR hb kf (fun x hx => .inl (sub x hx)) p (h.qs.rl hb)
  have c : Lo.Ch (fun c => c = 4) col col w w2 := ⟨kf.os, kf.tape, kf.output, kf.size, fun x hx hc => kf.block x hx (fun e => hc (h.c4 j x e)), fun _ _ => rfl⟩
  have h2 : RX w2 col L N C B FB q pa pc oa oc bs (Fk.up Fs j F') (cs.set j (some st')) ta tc { s with sts := s.sts.set k (some st') } := by
    refine ⟨h.keepHp c (by simp), h.keepPs c (by simp), h.keepCu c (by simp) (by simp), h.nc, h.keepCr c (by simp), h.keepRw c (by simp), qs, h.ni, h.md, ?_, h.keepTr c (by simp), h.k0 c, h.k1 c, h.k2 c, h.k3 c, fun i x hx => ?_, h.k5 c, h.k6 c⟩
    · show s.sts.set k (some st') = vw s.nm (cs.set j (some st'))
      rw [vw_set h.ni hk hj jl, ← h.vs]
    · by_cases e : i = j
      · subst e
        rw [Fk.up_same] at hx
        exact h.c4 i x (sub x hx)
      · rw [Fk.up_other _ _ _ _ e] at hx
        exact h.c4 i x hx
  obtain ⟨col', h3, t3, n3⟩ := h2.recol
  refine ⟨_, _, col', h3, (tq_of c (fun _ (e : _ = _) => by omega)).trans t3, fun x hx hn => n3 x (h.c4 j x hx) ?_⟩
  rintro ⟨i, hi⟩
  by_cases e : i = j
  · subst e
    rw [Fk.up_same] at hi
    exact hn hi
  · rw [Fk.up_other _ _ _ _ e] at hi
    exact h.qs.ap i j e x hi hx
theorem wa_tq {w w' : World} {col col' : Nat → Nat} {oa : Option Addr} {l : List Wt} (h : WA w col oa l) (t : Tq col col' w w') : WA w' col' oa l := by
  refine ⟨fun k x hk => ?_, fun h0 a e => (t.old _ (h.1.lt h0 a e) (by rw [h.2 h0 a e]; omega)).trans (h.2 h0 a e)⟩
  have h0 : 0 < l.length := Nat.lt_of_le_of_lt (Nat.zero_le k) (List.getElem?_eq_some_iff.1 hk).1
  obtain ⟨b, off, e, q0, q1, q2⟩ := h.1 k x hk
  have hc := h.2 h0 _ e
  exact ⟨b, off, e, t.cell q0 (by rw [hc]; omega), t.cell q1 (by rw [hc]; omega), t.cell q2 (by rw [hc]; omega)⟩
theorem wakeAll_len (g c : Int) : ∀ (l : List Wt) (s : Lm), (wakeAll g c s l).cr.length = s.cr.length
  | [], _ => rfl
  | x :: l, s => by
    show (wakeAll g c (if parked s x.g then _ else s) l).cr.length = _
    rw [wakeAll_len g c l]
    split
    · exact ch_len _ _ _ _ _
    · rfl
theorem wakeAll_md (g c : Int) : ∀ (l : List Wt) (s : Lm), (wakeAll g c s l).md = s.md
  | [], _ => rfl
  | x :: l, s => by
    show (wakeAll g c (if parked s x.g then _ else s) l).md = _
    rw [wakeAll_md g c l]
    split <;> rfl
/-- one of the crew, in memory -/
theorem RX.mate (h : RX w col L N C B FB q pa pc oa oc bs Fs cs ta tc s) {k : Nat} (hk : k < s.cr.length) : ∃ mb mc, w.cell? ⟨L, 6, none⟩ = some (.pointer (some ⟨B, 0, none⟩)) ∧ w.cell? ⟨B, 0, none⟩ = some (.slice (some ⟨mb, 0, none⟩) s.cr.length mc) ∧ w.cell? ⟨mb, k * 3 + 2, none⟩ = some (.int .i64 (Cr.one0 (Cr.gt s.cr (k : Int))).s) := by
  obtain ⟨ma, mc, hM⟩ := h.cr
  obtain ⟨x, hx⟩ : ∃ x, s.cr[k]? = some x := ⟨_, List.getElem?_eq_getElem hk⟩
  obtain ⟨mb, rfl, m0, m1, m2⟩ := hM.at.1 k _ hx
  have y6 := cell_of h.hp 6
  have x0 := cell_of hM.hp 0
  simp [rcs] at y6 x0
  refine ⟨mb, mc, y6, x0, ?_⟩
  have : Cr.one0 (Cr.gt s.cr (k : Int)) = x := by rw [Cr.gt_nat, hx]; rfl
  rw [this]
  exact m2
end
set_option maxRecDepth 100000 in
set_option maxHeartbeats 1600000 in
theorem shut_no (L N : Nat) (col : Nat → Nat) (s : Lm) (g : Int) (k : Nat) (w : World) (h : RW w col L N s) (ht : s.tr.length ≤ 1000000) (hk : k < 8) (hno : ∀ st, Fk.nmB s.sts (k : Int) = some st → st.closed = true) :
    Calls Tryz.prog 108 #[.pointer (some ⟨L, 0, none⟩), .int .i64 g, .int .i64 (k : Int)] w fun r w' => r = .returned (.tuple #[]) ∧ ∃ col', RW w' col' L N (panicS s g) ∧ Tq col col' w w' := by
  obtain ⟨C, B, FB, hd, pa, pc, oa, oc, bs, Fs, cs, ta, tc, h⟩ := h
  have PI := hide (pipes_q w w h (Below.refl _ _))
  have CH := hide (h.chan hk)
  have NV := hide (fun u oa d (hq : Fk.PR u oa (vw s.nm bs)) => Fk.rnamed_any oa (vw s.nm bs) (k : Int) d u hq)
  have H := hide h
  have PN := hide (fun u c (x : RW u c L N s) => panics_any L N c s g u x ht)
  clear h
  rcases CH.out with ⟨hb0, hs0⟩ | ⟨j, B1, st, hj, jl, hbj, hcj, hb0, hs0, rr⟩
  · rw [hb0] at NV
    unfold Pe.pt at NV
    simp only [Option.map_none] at NV
    clear CH
    go_enter Tryz.func108, Tryz.ntmps108
    go_wp2_with fail
    refine PI.out.mono ?_
    rintro r w2 ⟨ob, d, rfl, q2, b2⟩
    have NV2 := hide (NV.out w2 ob d q2.row)
    obtain ⟨col2, h2, t2, -⟩ := H.out.below b2
    have H2 := hide h2
    have T2 := hide t2
    clear q2 b2 h2 t2 PI NV
    go_wp2_with fail
    refine NV2.out.mono ?_
    rintro r w3 ⟨rfl, rfl⟩
    have PN2 := hide (PN.out _ _ H2.out.lw)
    clear NV2 PN
    go_wp2_with fail
    refine PN2.out.mono ?_
    rintro r w4 ⟨rfl, col4, h4, t4⟩
    have H4 := hide h4
    have T4 := hide (T2.out.trans t4)
    clear h4 t4 PN2
    go_wp2_with fail
    exact bodyPost_ret (results_none rfl _ _ _) rfl ⟨rfl, col4, H4.out, T4.out⟩
  · rw [hb0] at NV
    unfold Pe.pt at NV
    simp only [Option.map_some] at NV
    have hcl := hno st hs0
    obtain ⟨vL, vS, vQ, ro⟩ := rr
    have Y4 : Hid (w.cell? ⟨B1, 4, none⟩ = some (.bool true)) := (cell_of ro.hp 4).trans (by rw [hcl]; rfl)
    clear CH hno hj hbj hcj hb0 hs0 ro hcl
    go_enter Tryz.func108, Tryz.ntmps108
    go_wp2_with fail
    refine PI.out.mono ?_
    rintro r w2 ⟨ob, d, rfl, q2, b2⟩
    have NV2 := hide (NV.out w2 ob d q2.row)
    obtain ⟨col2, h2, t2, -⟩ := H.out.below b2
    have H2 := hide h2
    have T2 := hide t2
    have y4 : w2.cell? ⟨B1, 4, none⟩ = some (.bool true) := Sh.cellB Y4.out b2
    clear q2 b2 h2 t2 PI NV Y4
    go_wp2_with fail
    refine NV2.out.mono ?_
    rintro r w3 ⟨rfl, rfl⟩
    have PN2 := hide (PN.out _ _ H2.out.lw)
    clear NV2 PN
    go_wp2_with fail
    refine PN2.out.mono ?_
    rintro r w4 ⟨rfl, col4, h4, t4⟩
    have H4 := hide h4
    have T4 := hide (T2.out.trans t4)
    clear h4 t4 PN2
    go_wp2_with fail
    exact bodyPost_ret (results_none rfl _ _ _) rfl ⟨rfl, col4, H4.out, T4.out⟩
set_option maxRecDepth 100000 in
set_option maxHeartbeats 3200000 in
theorem shut_yes (L N : Nat) (col : Nat → Nat) (s : Lm) (K : Nat) (g : Int) (k : Nat) (st : St) (w : World) (h : RW w col L N s) (bw : Bw K s) (hK : K ≤ 90000) (hm : s.md ≤ 1000) (hk : k < 8) (hst : Fk.nmB s.sts (k : Int) = some st) (hc : st.closed = false) (hl1 : st.rcv.length ≤ 1000) (hl2 : st.snd.length ≤ 1000)
    (hwb : ∀ x, x ∈ st.snd ∨ x ∈ st.rcv → 0 ≤ x.g ∧ x.g < (s.cr.length : Int)) (s1 s2 R : Lm)
    (hs1 : s1 = goS { s with sts := s.sts.set k (some (_root_.Go.Proofs.YtblfimobiibmjaaGreat.Pi.closeS st)) } ⟨5, g, nth s.nm k, -1, -1, -1, false, false⟩) (hs2 : s2 = wakeAll g (nth s.nm k) s1 st.rcv) (hR : R = if first s2 st.snd = -1 then s2 else panicS s2 (first s2 st.snd)) :
    Calls Tryz.prog 108 #[.pointer (some ⟨L, 0, none⟩), .int .i64 g, .int .i64 (k : Int)] w fun r w' => r = .returned (.tuple #[]) ∧ ∃ col', RW w' col' L N R ∧ Tq col col' w w' := by
  obtain ⟨C, B, FB, hd, pa, pc, oa0, oc, bs, Fs, cs, ta, tc, h⟩ := h
  have PI := hide (pipes_q w w h (Below.refl _ _))
  have NV := hide (fun u oa d (hq : Fk.PR u oa (vw s.nm bs)) => Fk.rnamed_any oa (vw s.nm bs) (k : Int) d u hq)
  have H := hide h
  rcases h.chan hk with ⟨hb0, hs0⟩ | ⟨j0, B1, st', hj, jl, hbj, hcj, hb0, hs0, rr⟩
  · rw [hst] at hs0
    cases hs0
  have est : st' = st := by rw [hst] at hs0; cases hs0; rfl
  subst est
  rw [hb0] at NV
  unfold Pe.pt at NV
  simp only [Option.map_some] at NV
  have RR := hide rr
  obtain ⟨vL, vS, vQ, ro⟩ := rr
  have Y4 : Hid (w.cell? ⟨B1, 4, none⟩ = some (.bool false)) := (cell_of ro.hp 4).trans (by rw [hc]; rfl)
  have CS : Hid (_root_.Go.Proofs.YtblfimobiibmjaaGreat.Pi.closeS st' = { st' with snd := [], rcv := [], closed := true }) := by show _ = _; simp [_root_.Go.Proofs.YtblfimobiibmjaaGreat.Pi.closeS, hc]
  have HBJ := hide hbj
  have HJ := hide hj
  have BW := hide bw
  have HS1 := hide hs1
  have HS2 := hide hs2
  have HRR := hide hR
  have HWB := hide hwb
  have HCL := hide hc
  clear h ro hs1 hs2 hR bw hwb hj hbj hcj hb0 hs0 hst hc
  generalize st' = st at *
  have k0 : (0 : Int) ≤ (k : Int) := by omega
  have k8 : (k : Int) < 8 := by omega
  go_enter Tryz.func108, Tryz.ntmps108
  go_wp2_with fail
  refine PI.out.mono ?_
  rintro r w2 ⟨ob0, d0, rfl, q2, b2⟩
  have NV2 := hide (NV.out w2 ob0 d0 q2.row)
  obtain ⟨col2, h2, t2, -⟩ := H.out.below b2
  have H2 := hide h2
  have T2 := hide t2
  have y4 : w2.cell? ⟨B1, 4, none⟩ = some (.bool false) := Sh.cellB Y4.out b2
  have R2 := hide (RR.out.below b2)
  clear q2 b2 h2 t2 PI NV Y4 RR
  go_wp2_with fail
  refine NV2.out.mono ?_
  rintro r w3 ⟨rfl, rfl⟩
  have CL := hide (Rp.rclose_rows B1 (Fs j0) st w3 R2.out HCL.out)
  clear NV2 R2
  go_wp2_with fail
  refine CL.out.mono ?_
  rintro r w4 ⟨oa, ca, ob, cb, rfl, ⟨a1, a2⟩, kf, F', sub, p4, m1, m2⟩
  rw [← CS.out] at p4
  obtain ⟨Fs4, cs4, col4, h4, t4, n4⟩ := H2.out.closed hk HJ.out jl HBJ.out kf sub p4
  have T4 := hide (T2.out.trans t4)
  have H4 := hide h4
  have A14 : Hid (WA w4 col4 oa st.rcv) := ⟨a1, fun _ a e => n4 _ (m1 a e).1 (m1 a e).2⟩
  have A24 : Hid (WA w4 col4 ob st.snd) := ⟨a2, fun _ a e => n4 _ (m2 a e).1 (m2 a e).2⟩
  clear h4 t4 n4 a1 a2 kf sub p4 m1 m2 CL y4 H2 T2
  go_wp2_with fail
  refine (bare_r 5 g _).mono ?_
  rintro r w5 ⟨rfl, b5⟩
  unfold En.evv En.evc bareE
  obtain ⟨col6, h6, t6, n6⟩ := H4.out.below (btr b5 (below_alloc w5 (.cells #[.int .i64 5, .int .i64 g, .int .i64 (nth s.nm k), .int .i64 (-1), .int .i64 (-1), .int .i64 (-1), .bool false, .bool false] 50)))
  have V6 := hide (heap_new w5 (.cells #[.int .i64 5, .int .i64 g, .int .i64 (nth s.nm k), .int .i64 (-1), .int .i64 (-1), .int .i64 (-1), .bool false, .bool false] 50))
  have C6 := hide (n6 w5.heap.size b5.size)
  have T6 := hide (T4.out.trans t6)
  have A16 := hide (wa_tq A14.out t6)
  have A26 := hide (wa_tq A24.out t6)
  have nu : w5.cell? ⟨L, 8 + k, none⟩ = some (.int .i64 (nth s.nm k)) := Sh.cellB (H4.out.num hk) b5
  have hL5 : L < w5.heap.size := Nat.lt_of_lt_of_le H4.out.lt b5.size
  have NO := hide (note_any L N col6 _ (⟨5, g, nth s.nm k, -1, -1, -1, false, false⟩ : Ev) _ h6.lw (by have := BW.out.tn; show s.tr.length ≤ _; omega))
  unfold En.evv En.evc at NO
  clear h6 t6 n6 b5 T4 H4 A14 A24
  go_wp2_with fail
  refine NO.out.mono ?_
  rintro r w7 ⟨rfl, col7, h7, t7⟩
  obtain ⟨C7, B7, FB7, hd7, pa7, pc7, oa7, oc7, bs7, Fs7, cs7, ta7, tc7, h7⟩ := h7
  have T7 := hide (T6.out.trans t7)
  have V7 := hide (t7.heap V6.out C6.out)
  have C7' : Hid (col7 w5.heap.size = 7) := (t7.old _ (heap_lt V6.out) (by rw [C6.out]; omega)).trans C6.out
  have A17 := hide (wa_tq A16.out t7)
  have A27 := hide (wa_tq A26.out t7)
  have y6 := cell_of h7.hp 6
  simp [rcs] at y6
  have GO := hide (Cr.rturn00 B7 FB7 s.cr K g w7 h7.cr BW.out.cb (by omega))
  have H7 := hide h7
  clear NO h7 t7 nu hL5 V6 C6 T6 A16 A26
  go_wp2_with fail
  refine GO.out.mono ?_
  rintro r w8 ⟨rfl, p8⟩
  obtain ⟨FB8, col8, h8, t8⟩ := H7.out.crew p8
  have H8 : Hid (RW w8 col8 L N s1) := by rw [HS1.out]; exact h8.lw
  have T8 := hide (T7.out.trans t8)
  have V8 := hide (t8.heap V7.out C7'.out)
  have C8 : Hid (col8 w5.heap.size = 7) := (t8.old _ (heap_lt V7.out) (by rw [C7'.out]; omega)).trans C7'.out
  have A18 := hide (wa_tq A17.out t8)
  have A28 := hide (wa_tq A27.out t8)
  have B8 : Hid (Bw (K + 1) s1) := by
    show Bw _ _
    rw [HS1.out]
    exact Bw.go (s := { s with sts := s.sts.set k (some (_root_.Go.Proofs.YtblfimobiibmjaaGreat.Pi.closeS st)) }) ⟨BW.out.cb, BW.out.tn⟩ _
  have L1 : Hid (s1.cr.length = s.cr.length) := by show _ = _; rw [HS1.out]; exact ch_len _ _ _ _ _
  have M1 : Hid (s1.md = s.md) := by show _ = _; rw [HS1.out]; rfl
  clear h8 t8 p8 GO H7 T7 V7 C7' A17 A27 y6 BW HS1
  generalize w5.heap.size = Eb at *
  generalize hnu : nth s.nm k = nu at *
  go_wp2_with fail
  go_loopw [56] (fun iv wr => ∃ (j : Nat) (cj : Nat → Nat), j ≤ st.rcv.length ∧ iv = .int .i64 j ∧ RW wr cj L N (wakeAll g nu s1 (st.rcv.take j)) ∧ Tq col cj w wr ∧ (wr.heap[Eb]? = some (.cells #[.int .i64 5, .int .i64 g, .int .i64 nu, .int .i64 (-1), .int .i64 (-1), .int .i64 (-1), .bool false, .bool false] 50 (0, 0)) ∧ cj Eb = 7) ∧ WA wr cj oa st.rcv ∧ WA wr cj ob st.snd) (fun iv _ => st.rcv.length - (intOf iv).toNat)
  case atStart => exact ⟨0, col8, Nat.zero_le _, rfl, H8.out, T8.out, ⟨V8.out, C8.out⟩, A18.out, A28.out⟩
  case round =>
    clear H8 T8 V8 C8 A18 A28
    obtain ⟨j, cj, hj, rfl, hlw, htr, ⟨hv, hcE⟩, ha1, ha2⟩ := hrel
    have HL := hide hlw
    have HT := hide htr
    have HV := hide hv
    have HC := hide hcE
    have HA1 := hide ha1
    have HA2 := hide ha2
    clear hlw htr hv hcE ha1 ha2
    by_cases hlt : j < st.rcv.length
    · have hlt' : (j : Int) < (st.rcv.length : Int) := by omega
      obtain ⟨x, hx⟩ : ∃ x, st.rcv[j]? = some x := ⟨_, List.getElem?_eq_getElem hlt⟩
      obtain ⟨b, off, hoa, q0, q1, q2⟩ := HA1.out.1 j x hx
      subst hoa
      have ST := hide (wakeAll_take (g := g) (c := nu) (s := s1) hx)
      have BJ : Hid (Bw (K + 1 + j) (wakeAll g nu s1 (st.rcv.take j))) := by
        have := Bw.all (g := g) (c := nu) (l := st.rcv.take j) B8.out
        rw [List.length_take, Nat.min_eq_left hj] at this
        exact this
      have LJ : Hid ((wakeAll g nu s1 (st.rcv.take j)).cr.length = s.cr.length) := (wakeAll_len _ _ _ _).trans L1.out
      have MJ : Hid ((wakeAll g nu s1 (st.rcv.take j)).md = s.md) := (wakeAll_md _ _ _ _).trans M1.out
      generalize wakeAll g nu s1 (st.rcv.take j) = sj at *
      have hxg := HWB.out x (.inr (List.mem_of_getElem? hx))
      obtain ⟨kx, hkx⟩ : ∃ kx : Nat, x.g = (kx : Int) := ⟨x.g.toNat, by omega⟩
      obtain ⟨c5, h5, t5, n5⟩ := HL.out.below (below_alloc wr (.cells #[.int .i64 (kx : Int), .int .i64 x.c, .int .i64 x.v] 207))
      have hkl : kx < sj.cr.length := by rw [LJ.out]; omega
      obtain ⟨C5, B5, FB5, hd5, pa5, pc5, oa5, oc5, bs5, Fs5, cs5, ta5, tc5, h5⟩ := h5
      obtain ⟨mb, mc, z6, z0, zs⟩ := h5.mate hkl
      have PK : Hid (parked sj x.g = ((Cr.one0 (Cr.gt sj.cr (kx : Int))).s == 1)) := by show _ = _; unfold parked; rw [hkx]
      generalize (Cr.one0 (Cr.gt sj.cr (kx : Int))).s = ss at zs PK
      have H5 := hide h5
      have T5 := hide (HT.out.trans t5)
      have V5 := hide (t5.heap HV.out HC.out)
      have C5' : Hid (c5 Eb = 7) := (t5.old _ (heap_lt HV.out) (by rw [HC.out]; omega)).trans HC.out
      have A15 := hide (wa_tq HA1.out t5)
      have A25 := hide (wa_tq HA2.out t5)
      have hEr := heap_lt HV.out
      have vE : wr.cell? ⟨Eb, 2, none⟩ = some (.int .i64 nu) := cell_of HV.out 2
      have kx0 : (0 : Int) ≤ (kx : Int) := by omega
      have kx1 : (kx : Int) < (sj.cr.length : Int) := by omega
      rw [hkx] at q0 PK ST
      have HLT := hide hlt
      clear h5 t5 n5 HL HT HV HC HA1 HA2 hx hxg hlt hkx hkl
      cases hp : parked sj (kx : Int)
      · rw [hp] at PK ST
        have hss : (ss == 1) = false := PK.out.symm
        clear PK
        go_wp2_with fail
        go_quiet (fail)
        obtain ⟨c6, h6, t6, -⟩ := H5.out.below (bdrew _ nq)
        have H6 := hide h6
        have T6 := hide t6
        clear h6 t6 z6 z0 zs
        go_wp2_with fail
        go_roundw
        case rel => exact ⟨j + 1, c6, by have := HLT.out; omega, by go_num, by rw [ST.out]; exact H6.out.lw, T5.out.trans T6.out, ⟨T6.out.heap V5.out C5'.out, (T6.out.old _ (heap_lt V5.out) (by rw [C5'.out]; omega)).trans C5'.out⟩, wa_tq A15.out T6.out, wa_tq A25.out T6.out⟩
        case measure => have := HLT.out; simp [intOf]; omega
      · rw [hp] at PK ST
        have hss : (ss == 1) = true := PK.out.symm
        clear PK
        go_wp2_with fail
        go_quiet (fail)
        obtain ⟨c6, h6, t6, -⟩ := H5.out.below (bdrew _ nq)
        have T6 := hide t6
        have WK := hide (wake_any L N c6 sj (K + 1 + j) (⟨7, (kx : Int), nu, x.c, 0, g, false, false⟩ : Ev) _ h6.lw BJ.out.cb (by omega) (by have := BJ.out.tn; omega) (by rw [MJ.out]; exact hm))
        unfold En.evv En.evc at WK
        clear h6 t6 z6 z0 zs
        go_wp2_with fail
        refine WK.out.mono ?_
        rintro r w7 ⟨rfl, c7, h7, t7⟩
        have H7 := hide h7
        have T7 := hide (T6.out.trans t7)
        clear h7 t7 WK
        go_wp2_with fail
        go_roundw
        case rel => exact ⟨j + 1, c7, by have := HLT.out; omega, by go_num, by rw [ST.out]; exact H7.out, T5.out.trans T7.out, ⟨T7.out.heap V5.out C5'.out, (T7.out.old _ (heap_lt V5.out) (by rw [C5'.out]; omega)).trans C5'.out⟩, wa_tq A15.out T7.out, wa_tq A25.out T7.out⟩
        case measure => have := HLT.out; simp [intOf]; omega
    · have hlt' : ¬ ((j : Int) < (st.rcv.length : Int)) := by omega
      have H2 : Hid (RW wr cj L N s2) := by
        have := HL.out
        rw [List.take_of_length_le (by omega), ← HS2.out] at this
        exact this
      have L2 : Hid (s2.cr.length = s.cr.length) := by show _ = _; rw [HS2.out]; exact (wakeAll_len _ _ _ _).trans L1.out
      have N2 : Hid (s2.tr.length ≤ 1000000) := by
        have := (Bw.all (g := g) (c := nu) (l := st.rcv) B8.out).tn
        show _ ≤ _
        rw [HS2.out]
        omega
      clear HL HA1 HV HC HS2 B8
      go_wp2_with fail
      go_loopw [86] (fun iv wr => ∃ (j : Nat) (cj : Nat → Nat), j ≤ st.snd.length ∧ iv = .int .i64 j ∧ RW wr cj L N s2 ∧ Tq col cj w wr ∧ WA wr cj ob st.snd ∧ ∀ i x, i < j → st.snd[i]? = some x → parked s2 x.g = false) (fun iv _ => st.snd.length - (intOf iv).toNat)
      case atStart => exact ⟨0, cj, Nat.zero_le _, rfl, H2.out, HT.out, HA2.out, fun i x hi => by omega⟩
      case round =>
        clear H2 HT HA2
        rename World => wr2
        obtain ⟨i, ci, hi, rfl, hlw, htr, ha2, hno⟩ := hrel
        have HL := hide hlw
        have HT := hide htr
        have HA2 := hide ha2
        have NO := hide hno
        clear hlw htr ha2 hno
        by_cases hlt2 : i < st.snd.length
        · have hlt2' : (i : Int) < (st.snd.length : Int) := by omega
          obtain ⟨x, hx⟩ : ∃ x, st.snd[i]? = some x := ⟨_, List.getElem?_eq_getElem hlt2⟩
          obtain ⟨b, off, hoa, q0, q1, q2⟩ := HA2.out.1 i x hx
          subst hoa
          have hxg := HWB.out x (.inl (List.mem_of_getElem? hx))
          obtain ⟨kx, hkx⟩ : ∃ kx : Nat, x.g = (kx : Int) := ⟨x.g.toNat, by omega⟩
          obtain ⟨c5, h5, t5, n5⟩ := HL.out.below (below_alloc wr2 (.cells #[.int .i64 (kx : Int), .int .i64 x.c, .int .i64 x.v] 207))
          have hkl : kx < s2.cr.length := by rw [L2.out]; omega
          obtain ⟨C5, B5, FB5, hd5, pa5, pc5, oa5, oc5, bs5, Fs5, cs5, ta5, tc5, h5⟩ := h5
          obtain ⟨mb, mc, z6, z0, zs⟩ := h5.mate hkl
          have PK : Hid (parked s2 (kx : Int) = ((Cr.one0 (Cr.gt s2.cr (kx : Int))).s == 1)) := rfl
          generalize (Cr.one0 (Cr.gt s2.cr (kx : Int))).s = ss at zs PK
          have H5 := hide h5
          have T5 := hide (HT.out.trans t5)
          have A25 := hide (wa_tq HA2.out t5)
          have kx0 : (0 : Int) ≤ (kx : Int) := by omega
          have kx1 : (kx : Int) < (s2.cr.length : Int) := by omega
          rw [hkx] at q0
          have HX := hide hx
          have HKX := hide hkx
          have HLT := hide hlt2
          clear h5 t5 n5 HL HT HA2 hx hkx hxg hkl hlt2
          cases hp : parked s2 (kx : Int)
          · rw [hp] at PK
            have hss : (ss == 1) = false := PK.out.symm
            have NO2 : Hid (∀ i' x, i' < i + 1 → st.snd[i']? = some x → parked s2 x.g = false) := fun i' y hi' hy => by
              rcases Nat.lt_or_ge i' i with q | q
              · exact NO.out i' y q hy
              · obtain rfl : i' = i := by omega
                rw [HX.out] at hy
                cases hy
                rw [HKX.out]
                exact hp
            clear PK
            go_wp2_with fail
            go_quiet (fail)
            obtain ⟨c6, h6, t6, -⟩ := H5.out.below (bdrew _ nq)
            have H6 := hide h6
            have T6 := hide t6
            clear h6 t6 z6 z0 zs
            go_wp2_with fail
            go_roundw
            case rel => exact ⟨i + 1, c6, by have := HLT.out; omega, by go_num, H6.out.lw, T5.out.trans T6.out, wa_tq A25.out T6.out, NO2.out⟩
            case measure => have := HLT.out; simp [intOf]; omega
          · rw [hp] at PK
            have hss : (ss == 1) = true := PK.out.symm
            have FR : Hid (first s2 st.snd = (kx : Int)) := by
              show _ = _
              have hlt2 := HLT.out
              rw [first_take NO.out, List.drop_eq_getElem_cons hlt2]
              have : st.snd[i] = x := by have h1 := HX.out; rw [List.getElem?_eq_getElem hlt2] at h1; cases h1; rfl
              rw [this]
              show (if parked s2 x.g then x.g else _) = _
              rw [HKX.out, hp]
              rfl
            have RE : Hid (R = panicS s2 (kx : Int)) := by
              show _ = _
              rw [HRR.out, FR.out, if_neg (by omega)]
            clear PK
            go_wp2_with fail
            go_quiet (fail)
            obtain ⟨c6, h6, t6, -⟩ := H5.out.below (bdrew _ nq)
            have T6 := hide t6
            have PN := hide (panics_any L N c6 s2 (kx : Int) _ h6.lw N2.out)
            clear h6 t6 z6 z0 zs
            go_wp2_with fail
            refine PN.out.mono ?_
            rintro r w7 ⟨rfl, c7, h7, t7⟩
            have H7 := hide h7
            have T7 := hide (T6.out.trans t7)
            clear h7 t7 PN
            go_wp2_with fail
            exact bodyPost_ret (results_none rfl _ _ _) rfl ⟨rfl, c7, by rw [RE.out]; exact H7.out, T5.out.trans T7.out⟩
        · have hlt2' : ¬ ((i : Int) < (st.snd.length : Int)) := by omega
          have RE : Hid (R = s2) := by
            show _ = _
            rw [HRR.out, first_take NO.out, List.drop_eq_nil_of_le (by omega)]
            rfl
          go_wp2_with fail
          go_end0
          exact ⟨rfl, ci, by rw [RE.out]; exact HL.out, HT.out⟩
/-- what a close makes of a loom -/
def shutR (s : Lm) (g k : Int) : Lm := if (closesF s g k).who = -1 then (closesF s g k).s else panicS (closesF s g k).s (closesF s g k).who
theorem shut_any (L N : Nat) (col : Nat → Nat) (s : Lm) (K : Nat) (g : Int) (k : Nat) (w : World) (h : RW w col L N s) (ok : Ok K s) (hK : K ≤ 90000) (hk : k < 8) (hg : 0 ≤ g) (hwb : WB s) :
    Calls Tryz.prog 108 #[.pointer (some ⟨L, 0, none⟩), .int .i64 g, .int .i64 (k : Int)] w fun r w' => r = .returned (.tuple #[]) ∧ ∃ col', RW w' col' L N (shutR s g k) ∧ Tq col col' w w' := by
  have no : ∀ (hno : ∀ st, Fk.nmB s.sts (k : Int) = some st → st.closed = true) (_ : closesF s g k = ⟨s, g⟩), Calls Tryz.prog 108 #[.pointer (some ⟨L, 0, none⟩), .int .i64 g, .int .i64 (k : Int)] w fun r w' => r = .returned (.tuple #[]) ∧ ∃ col', RW w' col' L N (shutR s g k) ∧ Tq col col' w w' := by
    intro hno he
    have e : shutR s g k = panicS s g := by
      unfold shutR
      rw [he]
      exact if_neg (by show ¬ g = -1; omega)
    rw [e]
    exact shut_no L N col s g k w h (by have := ok.tn; omega) hk hno
  cases hst : Fk.nmB s.sts (k : Int) with
  | none => exact no (fun st e => by rw [hst] at e; cases e) (by unfold closesF; rw [hst])
  | some st =>
    cases hc : st.closed
    · have he : closesF s g k = ⟨wakeAll g (nth s.nm k) (goS { s with sts := s.sts.set k (some (_root_.Go.Proofs.YtblfimobiibmjaaGreat.Pi.closeS st)) } ⟨5, g, nth s.nm k, -1, -1, -1, false, false⟩) st.rcv, first (wakeAll g (nth s.nm k) (goS { s with sts := s.sts.set k (some (_root_.Go.Proofs.YtblfimobiibmjaaGreat.Pi.closeS st)) } ⟨5, g, nth s.nm k, -1, -1, -1, false, false⟩) st.rcv) st.snd⟩ := by
        unfold closesF
        rw [hst]
        simp [hc, num]
      have hw := ok.wl _ st (Fk.nmB_at hst)
      exact shut_yes L N col s K g k st w h ⟨ok.cb, ok.tn⟩ hK ok.md.2 hk hst hc (hw false) (hw true) (fun x hx => Kb.of hwb hst x hx) _ _ _ rfl rfl (by unfold shutR; rw [he])
    · exact no (fun st' e => by rw [hst] at e; cases e; exact hc) (by unfold closesF; rw [hst]; simp [hc])
end Rlo
end Go.Proofs.YtblfimobiibmjaaGreat
/- The reference's Park, over this seat's program. -/
namespace Go.Proofs.YtblfimobiibmjaaGreat
open Go.ChangeShapes Go.WideShapes Go.ChangeAt Go.RowKit
namespace Fk
open Ba Pe _root_.Go.Proofs.YtblfimobiibmjaaGreat.Pi Rp

set_option maxRecDepth 100000 in
theorem rpark_bad (g : Int) (oc : Option Addr) (l : List Ca) (cc : Nat) (oa : Option Addr) (n : Nat) (cp : Nat) (w : World) (h : pkBad g l = true) :
    Calls Tryz.prog 155 #[.int .i64 g, .slice oc l.length cc, .slice oa n cp] w fun r w' => r = .returned (.tuple #[.int .i64 0, .int .i64 1]) ∧ Below w.heap.size w w' := by
  unfold pkBad at h
  generalize l.length = m at h ⊢
  by_cases hg : g < 0
  · clear h
    go_enter Tryz.func155, Tryz.ntmps155
    go_wp2_with fail
    go_ret2
    exact ⟨rfl, Below.refl _ _⟩
  · have hm : (4 : Int) < (m : Int) := by simp [hg] at h; omega
    clear h
    go_enter Tryz.func155, Tryz.ntmps155
    go_wp2_with fail
    go_ret2
    exact ⟨rfl, Below.refl _ _⟩
set_option maxRecDepth 100000 in
theorem rpark_ready (g : Int) (oc : Option Addr) (l : List Ca) (cc : Nat) (oa : Option Addr) (bs : List (Option Nat)) (cp : Nat) (Fs : Nat → Nat → Prop) (sts : List (Option St)) (w : World) (hC : CaAt w oc l) (h : Qs Rr w oa bs Fs sts) (hb : pkBad g l = false) (hr : 0 < (rdyL l sts).length) :
    Calls Tryz.prog 155 #[.int .i64 g, .slice oc l.length cc, .slice oa bs.length cp] w fun r w' => r = .returned (.tuple #[.int .i64 0, .int .i64 7]) ∧ Below w.heap.size w w' := by
  unfold pkBad at hb
  simp only [Bool.or_eq_false_iff, decide_eq_false_iff_not] at hb
  have hg : ¬ g < 0 := hb.1
  have hm' : l.length ≤ 4 := by omega
  have RD := hide (rreadyL_any oc l cc oa bs cp Fs sts w hC h (by omega))
  have hm : ¬ (4 : Int) < (l.length : Int) := by omega
  have hr' : (0 : Int) < ((rdyL l sts).length : Int) := by omega
  clear hb hC h hr
  generalize hR : (rdyL l sts).length = R at RD hr'
  generalize l.length = m at RD hm hm' ⊢
  clear hR
  go_enter Tryz.func155, Tryz.ntmps155
  go_wp2_with fail
  refine RD.out.mono ?_
  rintro r w1 ⟨ob, d, rfl, -, b1⟩
  have B1 := hide b1
  clear b1
  go_wp2_with fail
  go_ret2
  exact ⟨rfl, B1.out⟩
set_option maxRecDepth 100000 in
set_option maxHeartbeats 6400000 in
theorem rpark_ok (g : Int) (oc : Option Addr) (l : List Ca) (cc : Nat) (oa : Option Addr) (bs : List (Option Nat)) (cp : Nat) (Fs : Nat → Nat → Prop) (sts : List (Option St)) (w : World) (hC : CaAt w oc l) (hCn : 0 < l.length → ∀ a, oc = some a → ¬ All Fs a.block) (h : Qs Rr w oa bs Fs sts) (hb : pkBad g l = false) (hr : rdyL l sts = []) (hle : ∀ (i : Nat) (st : St), sts[i]? = some (some st) → ∀ b, (own st b).length ≤ 1000) :
    Calls Tryz.prog 155 #[.int .i64 g, .slice oc l.length cc, .slice oa bs.length cp] w fun r w' => r = .returned (.tuple #[.int .i64 ((ps (hasC sts l) l.length).length : Int), .int .i64 0]) ∧ Rz Rr w w' oa bs Fs (pkS g l sts l.length) := by
  unfold pkBad at hb
  simp only [Bool.or_eq_false_iff, decide_eq_false_iff_not] at hb
  have hg : ¬ g < 0 := hb.1
  have hg0 : 0 ≤ g := by omega
  have hm' : l.length ≤ 4 := by omega
  have hm : ¬ (4 : Int) < (l.length : Int) := by omega
  have IV0 := hide (Iv.start (g := g) hr hle)
  have RD := hide (rreadyL_any oc l cc oa bs cp Fs sts w hC h (by omega))
  rw [hr] at RD
  simp only [List.length_nil] at RD
  have HC := hide hC
  have HQ := hide h
  have HN := hide hCn
  obtain ⟨P, hP⟩ : ∃ P, P = hasC sts l := ⟨_, rfl⟩
  rw [← hP]
  have HP := hide hP
  clear hb hC h hr hle hCn hP
  go_enter Tryz.func155, Tryz.ntmps155
  go_wp2_with fail
  refine RD.out.mono ?_
  rintro r w1 ⟨ob, d, rfl, -, b1⟩
  have R0 := hide (Rz.same frR HQ.out b1)
  clear b1 RD
  go_wp2_with fail
  go_loopw [8, 26] (fun rn i wz => ∃ (k : Nat), k ≤ l.length ∧ i = .int .i64 k ∧ rn = .int .i64 ((ps P k).length : Int) ∧ Rz Rr w wz oa bs Fs (pkS g l sts k)) (fun _ i _ => l.length - (intOf i).toNat)
  case atStart => exact ⟨0, Nat.zero_le _, rfl, rfl, R0.out⟩
  case round =>
    clear R0
    obtain ⟨k, hk, rfl, rfl, rz⟩ := hrel
    have RZ := hide rz
    clear rz
    have SU := hide (ps_succ P k)
    have hpl := ps_len P k
    by_cases hkl : k < l.length
    · have hkl' : (k : Int) < (l.length : Int) := by omega
      obtain ⟨c, hc⟩ : ∃ c, l[k]? = some c := ⟨_, List.getElem?_eq_getElem hkl⟩
      obtain ⟨Fs', nw, qs, kf⟩ := RZ.out
      obtain ⟨bc, offc, rfl, c0, c1, c2⟩ := HC.out.kf kf (HN.out (by omega)) k c hc
      have IV := IV0.out.all hg0 k (by omega)
      have SK : Hid (pkS g l sts (k + 1) = pk1 g k c (pkS g l sts k)) := by
        show _ = _
        rw [pkS, hc]
      have PK : Hid (P k = (nmB sts c.ch).isSome) := by
        show _ = _
        rw [HP.out]
        unfold hasC
        rw [hc]
      have NN := pkS_none g l sts k c.ch
      have BX := below_alloc wr (.cells #[.bool c.sd, .int .i64 c.ch, .int .i64 c.v] 166)
      have XN := hide (heap_new wr (.cells #[.bool c.sd, .int .i64 c.ch, .int .i64 c.v] 166))
      have NM := hide (rnamed_any oa bs c.ch cp _ (qs.row.below BX))
      generalize pkS g l sts k = s at RZ qs IV SK NN
      rcases qs.nm c.ch with ⟨q1, q2⟩ | ⟨B, st, q1, q2, q3, q4, q5, q6, q7⟩
      · rw [q1] at NM
        simp only [pt, Option.map_none] at NM
        have RN : Hid (Rz Rr w (wr.alloc (.cells #[.bool c.sd, .int .i64 c.ch, .int .i64 c.v] 166)) oa bs Fs (pkS g l sts (k + 1))) := by
          show Rz _ _ _ _ _ _ _
          rw [SK.out]
          unfold pk1
          rw [q2]
          exact RZ.out.below frR BX
        have LN : Hid ((ps P (k + 1)).length = (ps P k).length) := by
          show _ = _
          rw [SU.out, PK.out, NN.1 q2]
          rfl
        clear hc nw qs kf IV NN BX q1 q2 RZ
        go_wp2_with fail
        generalize wr.alloc (.cells #[.bool c.sd, .int .i64 c.ch, .int .i64 c.v] 166) = W1 at XN NM RN ⊢
        generalize wr.heap.size = A at XN ⊢
        refine NM.out.mono ?_
        rintro r z1 ⟨rfl, rfl⟩
        go_wp2_with fail
        go_roundw
        case rel => exact ⟨k + 1, by omega, by go_num, by rw [LN.out], RN.out⟩
        case measure => simp [intOf]; omega
      · rw [q1] at NM
        simp only [pt, Option.map_some] at NM
        have OK := (IV.ok hg0 (by omega) (List.mem_of_getElem? hc) q2 k).1
        have WT : Hid (Calls Tryz.prog 148 #[.pointer (some ⟨B, 0, none⟩), .bool c.sd, wv ⟨g, k, c.v⟩] (wr.alloc (.cells #[.bool c.sd, .int .i64 c.ch, .int .i64 c.v] 166)) fun r w' => r = .returned (.int .i64 0) ∧ Rz Rr w w' oa bs Fs (pkS g l sts (k + 1))) := by
          have pu : Rr (wr.alloc (.cells #[.bool c.sd, .int .i64 c.ch, .int .i64 c.v] 166)) B (Fs' c.ch.toNat) st := frR.sm q7 (Sm.below BX (qs.bd _))
          refine (rwait_any B _ st c.sd ⟨g, k, c.v⟩ _ pu).mono ?_
          rintro r w9 ⟨rfl, k9, F9, n9, p9⟩
          refine ⟨by rw [OK], ?_⟩
          have r1 := Rz.trans nw kf (Rz.step frR qs BX q5 k9 n9 p9)
          rw [SK.out]
          unfold pk1
          rw [q2]
          exact r1
        have LN : Hid ((ps P (k + 1)).length = (ps P k).length + 1) := by
          show _ = _
          have hS : (nmB sts c.ch).isSome = true := by
            cases hq : nmB sts c.ch with
            | none => rw [NN.2 hq] at q2; cases q2
            | some _ => rfl
          rw [SU.out, PK.out, hS]
          simp
        unfold wv at WT
        clear hc nw qs kf IV NN BX q1 q2 q3 q4 q5 q6 q7 OK RZ
        go_wp2_with fail
        generalize wr.alloc (.cells #[.bool c.sd, .int .i64 c.ch, .int .i64 c.v] 166) = W1 at XN NM WT ⊢
        generalize wr.heap.size = A at XN ⊢
        refine NM.out.mono ?_
        rintro r z1 ⟨rfl, rfl⟩
        have e0 : z1.cell? ⟨A, 0, none⟩ = some (.bool c.sd) := cell_of XN.out 0
        have e2 : z1.cell? ⟨A, 2, none⟩ = some (.int .i64 c.v) := cell_of XN.out 2
        go_wp2_with fail
        refine WT.out.mono ?_
        rintro r z2 ⟨rfl, r2⟩
        have R2 := hide r2
        clear r2 e0 e2
        go_wp2_with fail
        go_roundw
        case rel => exact ⟨k + 1, by omega, by go_num, by rw [LN.out]; go_num, R2.out⟩
        case measure => simp [intOf]; omega
    · have hkl' : ¬ ((k : Int) < (l.length : Int)) := by omega
      obtain rfl : k = l.length := by omega
      go_wp2_with fail
      go_ret2
      exact ⟨rfl, RZ.out⟩
/-- the reference's Park, whatever its arguments are -/
theorem rpark_any (g : Int) (oc : Option Addr) (l : List Ca) (cc : Nat) (oa : Option Addr) (bs : List (Option Nat)) (cp : Nat) (Fs : Nat → Nat → Prop) (sts : List (Option St)) (w : World) (hC : CaAt w oc l) (hCn : 0 < l.length → ∀ a, oc = some a → ¬ All Fs a.block) (h : Qs Rr w oa bs Fs sts) (hle : ∀ (i : Nat) (st : St), sts[i]? = some (some st) → ∀ b, (own st b).length ≤ 1000) :
    Calls Tryz.prog 155 #[.int .i64 g, .slice oc l.length cc, .slice oa bs.length cp] w fun r w' => r = .returned (.tuple #[.int .i64 (pkN g l sts), .int .i64 (pkE g l sts)]) ∧ Rz Rr w w' oa bs Fs (pkA g l sts) := by
  unfold pkN pkE pkA
  cases hb : pkBad g l
  · simp only [Bool.false_eq_true, if_false]
    by_cases hr : 0 < (rdyL l sts).length
    · simp only [if_pos hr]
      refine (rpark_ready g oc l cc oa bs cp Fs sts w hC h hb hr).mono ?_
      rintro r w1 ⟨e, b1⟩
      exact ⟨e, Rz.same frR h b1⟩
    · simp only [if_neg hr]
      exact rpark_ok g oc l cc oa bs cp Fs sts w hC hCn h hb (List.eq_nil_of_length_eq_zero (by omega)) hle
  · simp only [if_true]
    refine (rpark_bad g oc l cc oa bs.length cp w hb).mono ?_
    rintro r w1 ⟨e, b1⟩
    exact ⟨e, Rz.same frR h b1⟩
end Fk
end Go.Proofs.YtblfimobiibmjaaGreat
/- The reference's loom: choose, over this seat's program. -/
namespace Go.Proofs.YtblfimobiibmjaaGreat
open Go.ChangeShapes Go.WideShapes Go.ChangeAt Go.RowKit
namespace Rlo
open Ba Lo

theorem cat_tq {col col' : Nat → Nat} {w w' : World} {N : Nat} {oc : Option Addr} {cs : List De.Cs} (h : De.CAt w oc cs) (hn : 0 < cs.length → ∀ a, oc = some a → a.block < N) (h6 : ∀ x, x < N → col x = 6) (t : Tq col col' w w') : De.CAt w' oc cs := by
  intro k x hx
  obtain ⟨b, off, e, q0, q1, q2⟩ := h k x hx
  have h7 := h6 b (hn (Nat.lt_of_le_of_lt (Nat.zero_le k) (List.getElem?_eq_some_iff.1 hx).1) _ e)
  exact ⟨b, off, e, t.cell q0 (by rw [h7]; omega), t.cell q1 (by rw [h7]; omega), t.cell q2 (by rw [h7]; omega)⟩
set_option maxRecDepth 100000 in
set_option maxHeartbeats 3200000 in
theorem choose_r (L N : Nat) (col : Nat → Nat) (s : Lm) (K : Nat) (g : Int) (ok_ oa_ ob_ : Int) (cs : List De.Cs) (df : Bool) (oc : Option Addr) (cc : Nat) (w : World) (h : RW w col L N s) (ok : Ok K s) (hK : K ≤ 99000)
    (hC : De.CAt w oc cs) (hCn : 0 < cs.length → ∀ a, oc = some a → a.block < N) (h4 : cs.length ≤ 4) (hcs : ∀ c ∈ cs, 0 ≤ c.ch ∧ c.ch ≤ 7) :
    Calls Tryz.prog 109 #[.pointer (some ⟨L, 0, none⟩), .int .i64 g, .agg #[.int .i64 ok_, .int .i64 oa_, .int .i64 ob_, .slice oc cs.length cc, .bool df]] w fun r w' => r = .returned (.tuple #[]) ∧ ∃ col', RW w' col' L N (chooseR s g ⟨ok_, oa_, ob_, cs, df⟩) ∧ Tq col col' w w' := by
  obtain ⟨C, B, FB, hd, pa, pc, oa, oc1, bs, Fs, cs1, ta, tc, h⟩ := h
  obtain ⟨col1, h1, t1, n1⟩ := h.below (below_alloc w (.cells #[.int .i64 ok_, .int .i64 oa_, .int .i64 ob_, .slice oc cs.length cc, .bool df] 64))
  have T1 := hide t1
  have H1 := hide h1
  have E1 := hide (heap_new w (.cells #[.int .i64 ok_, .int .i64 oa_, .int .i64 ob_, .slice oc cs.length cc, .bool df] 64))
  have N1 := hide (n1 w.heap.size (Nat.le_refl _))
  have C1 := hide (hC.below (below_alloc w (.cells #[.int .i64 ok_, .int .i64 oa_, .int .i64 ob_, .slice oc cs.length cc, .bool df] 64)))
  have CN := hide hCn
  have PI := hide (fun u (hb : Below (w.alloc (.cells #[.int .i64 ok_, .int .i64 oa_, .int .i64 ob_, .slice oc cs.length cc, .bool df] 64)).heap.size (w.alloc (.cells #[.int .i64 ok_, .int .i64 oa_, .int .i64 ob_, .slice oc cs.length cc, .bool df] 64)) u) => pipes_q (w.alloc (.cells #[.int .i64 ok_, .int .i64 oa_, .int .i64 ob_, .slice oc cs.length cc, .bool df] 64)) u H1.out hb)
  have hm : (cs.map cav).length = cs.length := List.length_map _
  have RD := hide (fun u ob d (hc : De.CAt u oc cs) (hq : Fk.Qs Rp.Rr u ob (vw s.nm bs) (Fv s.nm Fs) s.sts) => Fk.rreadyL_any oc (cs.map cav) cc ob (vw s.nm bs) d (Fv s.nm Fs) s.sts u (ca_at hc) hq (by rw [hm]; omega))
  rw [hm] at RD
  have OK := hide ok
  have HCS := hide hcs
  have PA := hide (fun h0 => pick_at (s := s) (o := ⟨ok_, oa_, ob_, cs, df⟩) h0 h4 ok.dd)
  obtain ⟨R, hR⟩ : ∃ R, chooseR s g ⟨ok_, oa_, ob_, cs, df⟩ = R := ⟨_, rfl⟩
  rw [hR]
  unfold chooseR at hR
  unfold cas at PA hR
  simp only at hR PA
  have HR := hide hR
  have RL : Hid ((Fk.rdyL (cs.map cav) s.sts).length ≤ 4) := Nat.le_trans (rdyL_len _ _) (by rw [hm]; exact h4)
  have c3 : (w.alloc (.cells #[.int .i64 ok_, .int .i64 oa_, .int .i64 ob_, .slice oc cs.length cc, .bool df] 64)).cell? ⟨w.heap.size, 3, none⟩ = some (.slice oc cs.length cc) := cell_of E1.out 3
  clear h t1 h1 n1 ok hR hcs hC hCn
  go_enter Tryz.func109, Tryz.ntmps109
  go_wp2_with fail
  go_region_held3 (fun w' => w'.cell? ⟨w.heap.size, 3, none⟩ = some (.slice oc cs.length cc))
    (first | (go_keep; done) | (exact y3) | (exact y3b))
    (first
      | (go_at_call 145; refine (PI.out _ (bdrew1 _)).mono ?_; rintro r w2 ⟨ob, d, rfl, q2, b2⟩; have hb2 := btr (bdrew1 (w.alloc (.cells #[.int .i64 ok_, .int .i64 oa_, .int .i64 ob_, .slice oc cs.length cc, .bool df] 64))) b2; have Y2 := hide (heap_below E1.out hb2); have y3 : w2.cell? ⟨w.heap.size, 3, none⟩ = some (.slice oc cs.length cc) := cell_of Y2.out 3)
      | (go_at_call 153; refine (RD.out _ ob d (C1.out.below hb2) q2).mono ?_; rintro r w3 ⟨o3, d3, rfl, ow3, b3⟩; have hb3 := btr hb2 b3; have y3b : w3.cell? ⟨w.heap.size, 3, none⟩ = some (.slice oc cs.length cc) := cell_of (heap_below E1.out hb3) 3))
  obtain ⟨col3, h3, t3, n3⟩ := H1.out.below hb3
  have H3 := hide h3
  have T3 := hide (T1.out.trans t3)
  have N3 : Hid (col3 w.heap.size = 7) := (t3.old _ (heap_lt E1.out) (by rw [N1.out]; omega)).trans N1.out
  have E3 := hide (heap_below E1.out hb3)
  have C3 := hide (C1.out.below hb3)
  have AT : Hid (∀ k, k < (Fk.rdyL (cs.map cav) s.sts).length → ∃ b off, o3 = some ⟨b, off, none⟩ ∧ w3.cell? ⟨b, off + k, none⟩ = some (.int .i64 (nth (Fk.rdyL (cs.map cav) s.sts) k)) ∧ col3 b = 7) := fun k hk => by
    obtain ⟨oa', c', e, hA, _⟩ := Rp.own_at ow3
    cases e
    obtain ⟨b, off, e2, hc⟩ := hA k hk
    subst e2
    exact ⟨b, off, rfl, hc, n3 b (Nat.le_trans hb2.size (ow3.lt b rfl).1)⟩
  have hE3 := heap_lt E3.out
  rename_i hH2
  clear hH2 h3 t3 n3 b2 b3 hb2 hb3 q2 ow3 Y2 y3 y3b PI RD T1 H1 E1 N1 C1 c3
  rcases Nat.eq_zero_or_pos (Fk.rdyL (cs.map cav) s.sts).length with hn | hn
  · have hR := HR.out
    rw [if_neg (by omega)] at hR
    rw [hn]
    cases df
    · simp only [Bool.false_eq_true, if_false] at hR
      have HR2 := hide hR
      have e4 : w3.cell? ⟨w.heap.size, 4, none⟩ = some (.bool false) := cell_of E3.out 4
      clear HR hR AT PA RL
      go_wp2_with fail
      refine (bare_r 6 g _).mono ?_
      rintro r w5 ⟨rfl, b5⟩
      unfold En.evv En.evc bareE
      obtain ⟨col6, h6, t6, n6⟩ := H3.out.below (btr b5 (below_alloc w5 (.cells #[.int .i64 6, .int .i64 g, .int .i64 (-1), .int .i64 (cs.length : Int), .int .i64 0, .int .i64 (-1), .bool false, .bool false] 50)))
      have s5 := b5.size
      have hE5 : w.heap.size < w5.heap.size := by omega
      have T6 := hide (T3.out.trans t6)
      have E6 := hide (t6.heap E3.out N3.out)
      have N6 : Hid (col6 w.heap.size = 7) := (t6.old _ (heap_lt E3.out) (by rw [N3.out]; omega)).trans N3.out
      have C6 := hide (cat_tq C3.out CN.out H3.out.c6 t6)
      have x3 : w5.cell? ⟨w.heap.size, 3, none⟩ = some (.slice oc cs.length cc) := cell_of (heap_below E3.out b5) 3
      have NO := hide (note_x (⟨6, g, -1, (cs.length : Int), 0, -1, false, false⟩ : Ev) _ h6 (by have := OK.out.tn; omega))
      have D6 := hide h6.c6
      unfold En.evv En.evc at NO
      clear h6 t6 n6 H3 T3 E3 N3 C3 b5 e4
      go_wp2_with fail
      refine NO.out.mono ?_
      rintro r w7 ⟨rfl, ta7, tc7, col7, h7, t7⟩
      have T7 := hide (T6.out.trans t7)
      have E7 := hide (t7.heap E6.out N6.out)
      have N7 : Hid (col7 w.heap.size = 7) := (t7.old _ (heap_lt E6.out) (by rw [N6.out]; omega)).trans N6.out
      have C7 := hide (cat_tq C6.out CN.out D6.out t7)
      have H7 := hide h7
      have PI := hide (pipes_q w7 w7.drew h7 (bdrew1 _))
      have PK := hide (fun u ob d (hc : De.CAt u oc cs) (hq : Fk.Qs Rp.Rr u ob (vw s.nm bs) (Fv s.nm Fs) s.sts) => Fk.rpark_any g oc (cs.map cav) cc ob (vw s.nm bs) d (Fv s.nm Fs) s.sts u (ca_at hc) (by
        rw [hm]
        rintro h0 a e ⟨i, i8, i0, hf⟩
        have q4 := H7.out.c4 _ _ hf
        rw [H7.out.c6 a.block (CN.out h0 a e)] at q4
        omega) hq OK.out.wl)
      rw [hm] at PK
      have x3 : w7.cell? ⟨w.heap.size, 3, none⟩ = some (.slice oc cs.length cc) := cell_of E7.out 3
      clear h7 t7 NO T6 E6 N6 C6 D6
      go_wp2_with fail
      go_region_held3 (fun w' => w'.cell? ⟨w.heap.size, 3, none⟩ = some (.slice oc cs.length cc))
        (first | (go_keep; done) | (exact y3) | (exact y3b))
        (first
          | (go_at_call 145; refine PI.out.mono ?_; rintro r w8 ⟨ob, d, rfl, q8, b8⟩; have hb8 := btr (bdrew1 w7) b8; have Y8 := hide (heap_below E7.out hb8); have y3 : w8.cell? ⟨w.heap.size, 3, none⟩ = some (.slice oc cs.length cc) := cell_of Y8.out 3)
          | (go_at_call 155; refine (PK.out _ ob d (C7.out.below hb8) q8).mono ?_; rintro r w9 ⟨rfl, p9⟩; obtain ⟨Fs9, cs9, col9, h9, t9, -⟩ := H7.out.back hb8 p9; have y3b : w9.cell? ⟨w.heap.size, 3, none⟩ = some (.slice oc cs.length cc) := cell_of (t9.heap E7.out N7.out) 3))
      have H9 := hide h9
      have T9 := hide (T7.out.trans t9)
      have ya := cell_of h9.hp 6
      simp [rcs] at ya
      have TU := hide (Cr.rturn01 B FB s.cr K g w9 h9.cr OK.out.cb (by omega))
      rename_i hH9
      clear hH9 h9 t9 p9 q8 b8 hb8 Y8 y3 y3b PK PI
      go_wp2_with fail
      refine TU.out.mono ?_
      rintro r wb ⟨rfl, pb⟩
      obtain ⟨FBb, colb, hb, tb⟩ := H9.out.crew pb
      have Hb := hide hb
      have Tb := hide (T9.out.trans tb)
      clear hb tb pb TU
      go_wp2_with fail
      go_end0
      refine ⟨rfl, colb, ?_, Tb.out⟩
      rw [← HR2.out]
      exact Hb.out.lw
    · simp only [if_true] at hR
      have HR2 := hide hR
      have e4 : w3.cell? ⟨w.heap.size, 4, none⟩ = some (.bool true) := cell_of E3.out 4
      clear HR hR AT PA RL C3
      go_wp2_with fail
      refine (bare_r 8 g _).mono ?_
      rintro r w5 ⟨rfl, b5⟩
      unfold En.evv En.evc bareE
      obtain ⟨col6, h6, t6, -⟩ := H3.out.below b5
      have T6 := hide (T3.out.trans t6)
      have NO := hide (note_x (bareE 8 g) _ h6 (by have := OK.out.tn; omega))
      unfold En.evv En.evc bareE at NO
      clear h6 t6 b5
      go_wp2_with fail
      refine NO.out.mono ?_
      rintro r w7 ⟨rfl, ta7, tc7, col7, h7, t7⟩
      have H7 := hide h7
      have T7 := hide (T6.out.trans t7)
      have ya := cell_of h7.hp 6
      simp [rcs] at ya
      have TU := hide (Cr.rturn00 B FB s.cr K g w7 h7.cr OK.out.cb (by omega))
      clear h7 t7 NO
      go_wp2_with fail
      refine TU.out.mono ?_
      rintro r wb ⟨rfl, pb⟩
      obtain ⟨FBb, colb, hb, tb⟩ := H7.out.crew pb
      have Hb := hide hb
      have Tb := hide (T7.out.trans tb)
      clear hb tb pb TU
      go_wp2_with fail
      refine bodyPost_ret (results_none rfl _ _ _) rfl ⟨rfl, colb, ?_, Tb.out⟩
      rw [← HR2.out]
      exact Hb.out.lw
  · have hR := HR.out
    rw [if_pos hn] at hR
    obtain ⟨i, p, c, hi, hin, hnp, hpp, hcx, hca, hrd⟩ := PA.out hn
    rw [hca, hpp] at hR
    have hcm : c ∈ cs := List.mem_of_getElem? hcx
    obtain ⟨hc0, hc7⟩ := HCS.out c hcm
    obtain ⟨kc, hkc⟩ : ∃ kc : Nat, c.ch = (kc : Int) := ⟨c.ch.toNat, by omega⟩
    have hk8 : kc < 8 := by omega
    have hcv : cav c = ⟨c.send, (kc : Int), c.val⟩ := by unfold cav; rw [hkc]
    rw [hcv] at hR
    have hpl : p < cs.length := (List.getElem?_eq_some_iff.1 hcx).1
    obtain ⟨rb, ro, hob, hrc, hrb⟩ := AT.out i hin
    subst hob
    rw [hnp] at hrc
    obtain ⟨cb, co, hoc, k0, k1, k2⟩ := C3.out p c hcx
    subst hoc
    rw [hkc] at k1
    have hcb : col3 cb = 6 := H3.out.c6 cb (CN.out (by omega) _ rfl)
    obtain ⟨n, hnn⟩ : ∃ n, (Fk.rdyL (cs.map cav) s.sts).length = n := ⟨_, rfl⟩
    rw [hnn] at hR hn hin hi ⊢
    have DW := hide (Pk.rdraw_any C N s.p s.d (n : Int) w3 H3.out.cu H3.out.nc OK.out.dd)
    rw [hi] at DW
    have y1 := cell_of H3.out.hp 5
    simp [rcs] at y1
    have HR2 := hide hR
    clear HR hR AT PA RL hca hpp hnp HCS hi hrd hcx hcv hkc hcm
    have hnI : (0 : Int) < (n : Int) := by omega
    go_wp2_with fail
    refine DW.out.mono ?_
    rintro r w4 ⟨rfl, cu4, kb4⟩
    obtain ⟨col4, h4', t4⟩ := H3.out.cursor cu4 kb4
    have T4 := hide (T3.out.trans t4)
    have m0 : w4.cell? ⟨rb, ro + i, none⟩ = some (.int .i64 (p : Int)) := t4.cell hrc (by rw [hrb]; omega)
    have m1 : w4.cell? ⟨cb, co + p * 3, none⟩ = some (.bool c.send) := t4.cell k0 (by rw [hcb]; omega)
    have m2 : w4.cell? ⟨cb, co + p * 3 + 1, none⟩ = some (.int .i64 (kc : Int)) := t4.cell k1 (by rw [hcb]; omega)
    have m3 : w4.cell? ⟨cb, co + p * 3 + 2, none⟩ = some (.int .i64 c.val) := t4.cell k2 (by rw [hcb]; omega)
    have m4 : w4.cell? ⟨w.heap.size, 3, none⟩ = some (.slice (some ⟨cb, co, none⟩) cs.length cc) := t4.cell (cell_of E3.out 3) (by rw [N3.out]; omega)
    have TY := hide (talk_any L N col4 _ K g (p : Int) c.send kc c.val w4 h4'.lw (OK.out.draw n) hK hk8)
    clear cu4 kb4 h4' t4 H3 T3 hrc k0 k1 k2 E3 N3 C3 DW y1
    have i0 : (0 : Int) ≤ (i : Int) := by omega
    have i1 : (i : Int) < (n : Int) := by omega
    have p0 : (0 : Int) ≤ (p : Int) := by omega
    have p1 : (p : Int) < (cs.length : Int) := by omega
    go_wp2_with fail
    refine TY.out.mono ?_
    rintro r w5 ⟨rfl, col5, h5, t5⟩
    have H5 := hide h5
    have T5 := hide (T4.out.trans t5)
    clear h5 t5 TY
    go_wp2_with fail
    refine bodyPost_ret (results_none rfl _ _ _) rfl ⟨rfl, col5, ?_, T5.out⟩
    rw [← HR2.out]
    exact H5.out
end Rlo
end Go.Proofs.YtblfimobiibmjaaGreat
/- The reference's loom: a channel more; other, over this seat's program. -/
namespace Go.Proofs.YtblfimobiibmjaaGreat
open Go.ChangeShapes Go.WideShapes Go.ChangeAt Go.RowKit
namespace Rlo
open Ba Lo

theorem rcs_num (q : Hd) (pa : Option Addr) (n pc C B : Nat) (oa : Option Addr) (cn oc : Nat) (nm : List Int) (ta : Option Addr) (tn tc : Nat) (pk : Bool) (k : Nat) (v : Int) (hl : nm.length = 8) (hk : k < 8) :
    (rcs q pa n pc C B oa cn oc nm ta tn tc pk).setIfInBounds (8 + k) (.int .i64 v) = rcs q pa n pc C B oa cn oc (nm.set k v) ta tn tc pk := by
  obtain ⟨a0, a1, a2, a3, a4, a5, a6, a7, rfl⟩ := eight hl
  rcases (show k = 0 ∨ k = 1 ∨ k = 2 ∨ k = 3 ∨ k = 4 ∨ k = 5 ∨ k = 6 ∨ k = 7 by omega) with rfl | rfl | rfl | rfl | rfl | rfl | rfl | rfl <;> rfl
theorem nth_set8 (m : List Int) (k j : Nat) (x : Int) (hk : k < m.length) : nth (m.set k x) j = if j = k then x else nth m j := by
  unfold nth
  by_cases h : j = k
  · subst h
    simp [hk]
  · rw [if_neg h, List.getD_eq_getElem?_getD, List.getD_eq_getElem?_getD, List.getElem?_set_ne (fun e => h e.symm)]
theorem NI.more {nm : List Int} {n k : Nat} (h : NI nm n) (hk : k < 8) : NI (nm.set k (n : Int)) (n + 1) := by
  have hl := h.len
  refine ⟨by rw [List.length_set]; exact hl, fun i hi => ?_, fun i hi => ?_, fun i j hi hj h0 e => ?_⟩
  · rw [nth_set8 _ _ _ _ (by omega)]
    have := h.lt i hi
    split <;> omega
  · rw [nth_set8 _ _ _ _ (by omega)]
    have := h.ge i hi
    split <;> omega
  · rw [nth_set8 _ _ _ _ (by omega)] at h0 e
    rw [nth_set8 _ _ _ _ (by omega)] at e
    have l1 := h.lt i hi
    have l2 := h.lt j hj
    by_cases e1 : i = k
    · by_cases e2 : j = k
      · omega
      · rw [if_pos e1, if_neg e2] at e
        omega
    · by_cases e2 : j = k
      · rw [if_neg e1, if_pos e2] at e
        omega
      · rw [if_neg e1] at h0
        rw [if_neg e1, if_neg e2] at e
        exact h.inj i j hi hj h0 e
theorem vw_more {nm : List Int} {k : Nat} {cs : List (Option St)} {x : Option St} (h : NI nm cs.length) (hk : k < 8) : (vw nm cs).set k x = vw (nm.set k (cs.length : Int)) (cs ++ [x]) := by
  have hl := h.len
  apply List.ext_getElem?
  intro i
  by_cases i8 : i < 8
  · rw [vw_at (by rw [List.length_set]; omega), nth_set8 _ _ _ _ (by omega)]
    by_cases e : i = k
    · subst e
      rw [List.getElem?_set_self (by rw [vw_len, hl]; exact hk), if_pos rfl, if_neg (by omega), Int.toNat_natCast, List.getElem?_append_right (Nat.le_refl _)]
      simp
    · rw [List.getElem?_set_ne (fun e2 => e e2.symm), vw_at (by omega), if_neg e]
      by_cases h0 : nth nm i < 0
      · rw [if_pos h0, if_pos h0]
      · have := h.lt i i8
        rw [if_neg h0, if_neg h0, List.getElem?_append_left (by omega)]
  · rw [List.getElem?_eq_none (by rw [List.length_set, vw_len, hl]; omega), List.getElem?_eq_none (by rw [vw_len, List.length_set]; omega)]
section
variable {w0 w u u2 w6 : World} {col0 col : Nat → Nat} {L N C B : Nat} {FB : Nat → Prop} {q : Hd} {pa : Option Addr} {pc : Nat} {oa : Option Addr} {oc : Nat} {bs : List (Option Nat)} {Fs : Nat → Nat → Prop} {cs : List (Option St)} {ta : Option Addr} {tc : Nat} {s : Lm}
/-- a channel more -/
theorem RX.made {k z Eb G n' oc' : Nat} {oa' : Option Addr} {F : Nat → Prop} (h : RX w col L N C B FB q pa pc oa oc bs Fs cs ta tc s) (T : Tq col0 col w0 w) (hz : w0.heap.size ≤ Eb) (hE : col Eb = 7) (hk : k < 8) (kb : KB Eb w u) (p : Rp.Rr u G F (_root_.Go.Proofs.YtblfimobiibmjaaGreat.Pi.st0 z)) (nF : ∀ x, F x → w.heap.size ≤ x)
    (k2 : KB L u u2) (hp2 : u2.heap[L]? = some (.cells (rcs q pa s.ps.length pc C B oa bs.length oc (s.nm.set k s.md) ta s.tr.length tc s.pk) 114 (0, 0))) (hn : n' = bs.length + 1)
    (ho : w6.ownsRow 0 200 1 (.slice oa' n' oc') n' ((bs ++ [some G]).map Pe.pt)) (hg : u2.grownBy w6 (Value.slice oa bs.length oc).ownBlock)
    (hat : (Value.slice oa' n' oc').ownBlock = (Value.slice oa bs.length oc).ownBlock ∨ (Value.slice oa' n' oc').ownBlock = some u2.heap.size) :
    ∃ col', RX (w6.setCell ⟨L, 7, none⟩ (.slice oa' n' oc')) col' L N C B FB q pa pc oa' oc' (bs ++ [some G]) (Fk.up Fs bs.length F) (cs ++ [some (_root_.Go.Proofs.YtblfimobiibmjaaGreat.Pi.st0 z)]) ta tc { s with sts := s.sts.set k (some (_root_.Go.Proofs.YtblfimobiibmjaaGreat.Pi.st0 z)), nm := s.nm.set k s.md, md := s.md + 1 } ∧ Tq col0 col' w0 (w6.setCell ⟨L, 7, none⟩ (.slice oa' n' oc')) ∧ ∀ x o, x < w.heap.size → u.heap[x]? = some o → col x = 7 → (w6.setCell ⟨L, 7, none⟩ (.slice oa' n' oc')).heap[x]? = some o ∧ col' x = 7 := by
  classical
  obtain ⟨col', hc'⟩ : ∃ col' : Nat → Nat, col' = fun x => if x < w.heap.size then col x else if F x then 4 else if (Value.slice oa' n' oc').ownBlock = some x then 3 else 7 := ⟨_, rfl⟩
  have hL := h.lt
  have s1 := kb.size
  have s2 := k2.size
  have s3 := hg.size
  have old : ∀ x, x < w.heap.size → col' x = col x := fun x hx => by rw [hc']; simp [hx]
  have c4F : ∀ x, F x → col' x = 4 := fun x hx => by
    have := nF x hx
    rw [hc']
    simp [hx, Nat.not_lt.2 this]
  have rowlt : ∀ g, (Value.slice oa bs.length oc).ownBlock = some g → g < w.heap.size := fun g e => h.blk e
  have sz : (w6.setCell ⟨L, 7, none⟩ (.slice oa' n' oc')).heap.size = w6.heap.size := by simp [World.setCell]
  have K6 := (KB.refl L w6).setCell 7 (.slice oa' n' oc')
  have up : ∀ x, x < u.heap.size → x ≠ L → (Value.slice oa bs.length oc).ownBlock ≠ some x → (w6.setCell ⟨L, 7, none⟩ (.slice oa' n' oc')).heap[x]? = u.heap[x]? := fun x hx h1 h2 =>
    (K6.block x (by omega) h1).trans ((hg.block x (by omega) (fun e => h2 e.symm)).trans (k2.block x hx h1))
  have c : Lo.Ch (fun c => c = 0 ∨ c = 3 ∨ c = 7) col col' w (w6.setCell ⟨L, 7, none⟩ (.slice oa' n' oc')) := by
    refine ⟨hg.os.trans (k2.os.trans kb.os), hg.tape.trans (k2.tape.trans kb.tape), hg.output.trans (k2.output.trans kb.output), by omega, fun x hx hc => ?_, old⟩
    refine (up x (by omega) (fun e => hc (by rw [e]; exact .inl h.c0)) (fun e => hc (.inr (.inl (h.c3 x e))))).trans (kb.block x hx (fun e => hc (by rw [e]; exact .inr (.inr hE))))
  have md := h.md
  have cl : cs.length = bs.length := h.qs.len.symm
  have mdc : s.md = (cs.length : Int) := by rw [md, cl]
  have hL6 : w6.heap[L]? = some (.cells (rcs q pa s.ps.length pc C B oa bs.length oc (s.nm.set k s.md) ta s.tr.length tc s.pk) 114 (0, 0)) :=
    (hg.block L (by omega) (fun e => by have := h.c3 L e.symm; rw [h.c0] at this; omega)).trans hp2
  have hlen : (bs ++ [some G]).length = n' := by rw [hn]; simp
  have own' : (w6.setCell ⟨L, 7, none⟩ (.slice oa' n' oc')).ownsRow 0 200 1 (.slice oa' (bs ++ [some G]).length oc') (bs ++ [some G]).length ((bs ++ [some G]).map Pe.pt) := by
    rw [hlen]
    refine Cr.own_keep ho fun g e => K6.block g (by obtain ⟨_, cur, hc⟩ := Cr.own_blk ho g e; exact heap_lt hc) (fun e2 => ?_)
    obtain ⟨_, cur, hc⟩ := Cr.own_blk ho g e
    rw [e2, hL6] at hc
    cases hc
  have rowF : ∀ g, (Value.slice oa' n' oc').ownBlock = some g → ∀ i, ¬ Fk.up Fs bs.length F i g := by
    intro g e i hi
    by_cases ei : i = bs.length
    · subst ei
      rw [Fk.up_same] at hi
      have b1 := p.bd g hi
      have b2 := nF g hi
      rcases hat with q | q
      · have := rowlt g (q ▸ e)
        omega
      · rw [q] at e
        cases e
        omega
    · rw [Fk.up_other _ _ _ _ ei] at hi
      have b1 := h.qs.bd i g hi
      rcases hat with q | q
      · have h3 := h.c3 g (q ▸ e)
        rw [h.c4 i g hi] at h3
        omega
      · rw [q] at e
        cases e
        omega
  have qs : Fk.Qs Rp.Rr (w6.setCell ⟨L, 7, none⟩ (.slice oa' n' oc')) oa' (bs ++ [some G]) (Fk.up Fs bs.length F) (cs ++ [some (_root_.Go.Proofs.YtblfimobiibmjaaGreat.Pi.st0 z)]) := by
    refine ⟨(own_row own').1, by simp [cl], fun i B1 hi => ?_, fun i hi => ?_, fun i j hij x h1 h2 => ?_, fun a e i h1 => ?_, fun i x hx => ?_⟩
    · by_cases il : i < bs.length
      · rw [List.getElem?_append_left il] at hi
        obtain ⟨st, e1, e2⟩ := h.qs.one i B1 hi
        refine ⟨st, by rw [List.getElem?_append_left (by omega)]; exact e1, ?_⟩
        rw [Fk.up_other _ _ _ _ (by omega)]
        exact e2.sm fun x hx => c.block x (h.qs.bd i x hx) (by rw [h.c4 i x hx]; omega)
      · have ib : i = bs.length := by
          have := (List.getElem?_eq_some_iff.1 hi).1
          rw [hlen] at this
          omega
        subst ib
        rw [List.getElem?_append_right (Nat.le_refl _)] at hi
        simp at hi
        subst hi
        refine ⟨_root_.Go.Proofs.YtblfimobiibmjaaGreat.Pi.st0 z, by rw [List.getElem?_append_right (by omega)]; simp [cl], ?_⟩
        rw [Fk.up_same]
        refine p.sm fun x hx => up x (p.bd x hx) (fun e => ?_) (fun e => ?_)
        · have := nF x hx
          omega
        · have := nF x hx
          have := rowlt x e
          omega
    · by_cases il : i < bs.length
      · rw [List.getElem?_append_left il] at hi
        rw [List.getElem?_append_left (by omega)]
        exact h.qs.non i hi
      · have ib : i = bs.length := by
          have := (List.getElem?_eq_some_iff.1 hi).1
          rw [hlen] at this
          omega
        subst ib
        rw [List.getElem?_append_right (Nat.le_refl _)] at hi
        simp at hi
    · by_cases e1 : i = bs.length
      · by_cases e2 : j = bs.length
        · omega
        · subst e1
          rw [Fk.up_same] at h1
          rw [Fk.up_other _ _ _ _ e2] at h2
          have := nF x h1
          have := h.qs.bd j x h2
          omega
      · by_cases e2 : j = bs.length
        · subst e2
          rw [Fk.up_same] at h2
          rw [Fk.up_other _ _ _ _ e1] at h1
          have := nF x h2
          have := h.qs.bd i x h1
          omega
        · rw [Fk.up_other _ _ _ _ e1] at h1
          rw [Fk.up_other _ _ _ _ e2] at h2
          exact h.qs.ap i j hij x h1 h2
    · have := (own_row own').2 a e
      rw [hlen] at this
      exact rowF _ this i h1
    · by_cases ei : i = bs.length
      · subst ei
        rw [Fk.up_same] at hx
        have := p.bd x hx
        rw [sz]
        omega
      · rw [Fk.up_other _ _ _ _ ei] at hx
        have := h.qs.bd i x hx
        rw [sz]
        omega
  refine ⟨col', ⟨?_, h.keepPs c (by simp), h.keepCu c (by simp) (by simp), h.nc, h.keepCr c (by simp), own', qs, ?_, ?_, ?_, h.keepTr c (by simp), h.k0 c, h.k1 c, h.k2 c, fun g e => ?_, fun i x hx => ?_, h.k5 c, h.k6 c⟩, ?_, fun x o hx ho7 h7 => ⟨?_, (old x hx).trans h7⟩⟩
  · rw [Ba.heap_setCell_same hL6]
    rw [hlen]
    rfl
  · show NI (s.nm.set k s.md) (bs ++ [some G]).length
    rw [hlen, hn, md]
    exact h.ni.more hk
  · show s.md + 1 = ((bs ++ [some G]).length : Int)
    rw [hlen, hn, md]
    omega
  · show s.sts.set k _ = vw (s.nm.set k s.md) (cs ++ [_])
    rw [mdc, h.vs]
    exact vw_more (by rw [cl]; exact h.ni) hk
  · rw [hlen] at e
    rcases Nat.lt_or_ge g w.heap.size with q1 | q1
    · rcases hat with z1 | z1
      · rw [z1] at e
        exact h.k3 c g e
      · rw [z1] at e
        cases e
        omega
    · have hnF : ¬ F g := fun hf => rowF g e bs.length (by rw [Fk.up_same]; exact hf)
      rw [hc']
      simp [Nat.not_lt.2 q1, hnF, e]
  · by_cases ei : i = bs.length
    · subst ei
      rw [Fk.up_same] at hx
      exact c4F x hx
    · rw [Fk.up_other _ _ _ _ ei] at hx
      exact h.k4 c i x hx
  · refine ⟨c.os.trans T.os, c.tape.trans T.tape, c.output.trans T.output, Nat.le_trans T.size c.size, fun x hx h6 => ?_, fun x hx h6 => (old x (Nat.lt_of_lt_of_le hx T.size)).trans (T.old x hx h6)⟩
    have hx2 := Nat.lt_of_lt_of_le hx T.size
    have e6 := T.old x hx h6
    refine ((up x (by omega) (fun e => ?_) (fun e => ?_)).trans (kb.block x hx2 (by omega))).trans (T.block x hx h6)
    · rw [e, h.c0] at e6
      rw [e] at h6
      omega
    · have := h.c3 x e
      omega
  · refine (up x (by omega) (fun e => ?_) (fun e => ?_)).trans ho7
    · rw [e, h.c0] at h7
      omega
    · have := h.c3 x e
      omega
end
set_option maxRecDepth 100000 in
set_option maxHeartbeats 3200000 in
theorem other_read (L N : Nat) (col : Nat → Nat) (s : Lm) (K : Nat) (g : Int) (a_ b_ : Int) (oc0 : Option Addr) (cn cc : Nat) (df : Bool) (w : World) (h : RW w col L N s) (ok : Ok K s) (hK : K ≤ 99000) :
    Calls Tryz.prog 110 #[.pointer (some ⟨L, 0, none⟩), .int .i64 g, .agg #[.int .i64 7, .int .i64 a_, .int .i64 b_, .slice oc0 cn cc, .bool df]] w fun r w' => r = .returned (.tuple #[]) ∧ ∃ col', RW w' col' L N (goS s ⟨9, g, -1, -1, a_, -1, false, false⟩) ∧ Tq col col' w w' := by
  obtain ⟨C, B, FB, hd, pa, pc, oa, oc, bs, Fs, cs, ta, tc, h⟩ := h
  obtain ⟨col1, h1, t1, n1⟩ := h.below (below_alloc w (.cells #[.int .i64 7, .int .i64 a_, .int .i64 b_, .slice oc0 cn cc, .bool df] 64))
  have T1 := hide t1
  have H1 := hide h1
  have E1 := hide (heap_new w (.cells #[.int .i64 7, .int .i64 a_, .int .i64 b_, .slice oc0 cn cc, .bool df] 64))
  have N1 := hide (n1 w.heap.size (Nat.le_refl _))
  have OK := hide ok
  clear h t1 h1 n1 ok
  go_enter Tryz.func110, Tryz.ntmps110
  go_wp2_with fail
  refine (bare_r 0 g _).mono ?_
  rintro r w5 ⟨rfl, b5⟩
  unfold En.evv En.evc bareE
  obtain ⟨col6, h6, t6, n6⟩ := H1.out.below (btr b5 (below_alloc w5 (.cells #[.int .i64 9, .int .i64 g, .int .i64 (-1), .int .i64 (-1), .int .i64 a_, .int .i64 (-1), .bool false, .bool false] 50)))
  have s5 := b5.size
  have V6 := hide (heap_new w5 (.cells #[.int .i64 9, .int .i64 g, .int .i64 (-1), .int .i64 (-1), .int .i64 a_, .int .i64 (-1), .bool false, .bool false] 50))
  have c0 := cell_of (heap_below E1.out b5) 0
  have c1 := cell_of (heap_below E1.out b5) 1
  have c2 := cell_of (heap_below E1.out b5) 2
  have y6 := cell_of (heap_below H1.out.hp b5) 6
  simp [rcs] at c0 c1 c2 y6
  have hL5 : L < w5.heap.size := Nat.lt_of_lt_of_le H1.out.lt s5
  have C6 := hide (n6 w5.heap.size s5)
  have T6 := hide (T1.out.trans t6)
  have E6 := hide (t6.heap E1.out N1.out)
  have N6 : Hid (col6 w.heap.size = 7) := (t6.old _ (heap_lt E1.out) (by rw [N1.out]; omega)).trans N1.out
  have H6 := hide h6
  have hE1 := heap_lt E1.out
  have hz6 : w.heap.size ≤ w5.heap.size := by omega
  have hz7 : w.heap.size < w5.heap.size := by omega
  have hn6 : w.heap.size ≠ w5.heap.size := by omega
  have hL6 : L ≠ w5.heap.size := fun e => by have := H6.out.c0; rw [e, C6.out] at this; omega
  clear h6 t6 n6 b5 T1 H1 E1 N1 hE1 s5
  have H8 := H6
  have T8 := T6
  have E8 := E6
  have N8 := N6
  have NO := hide (note_x (⟨9, g, -1, -1, a_, -1, false, false⟩ : Ev) _ H8.out (by have := OK.out.tn; show s.tr.length ≤ _; omega))
  unfold En.evv En.evc at NO
  go_wp2_with fail
  refine NO.out.mono ?_
  rintro r w9 ⟨rfl, ta9, tc9, col9, h9, t9⟩
  have T9 := hide (T8.out.trans t9)
  have H9 := hide h9
  have k9 := cell_of (t9.heap E8.out N8.out) 0
  have ya := cell_of h9.hp 6
  simp [rcs] at ya k9
  have TU := hide (Cr.rturn00 B _ s.cr K g w9 h9.cr OK.out.cb (by omega))
  clear h9 t9 NO
  go_wp2_with fail
  refine TU.out.mono ?_
  rintro r wb ⟨rfl, pb⟩
  obtain ⟨FBb, colb, hb, tb⟩ := H9.out.crew pb
  have Hb := hide hb
  have Tb := hide (T9.out.trans tb)
  clear hb tb pb TU
  go_wp2_with fail
  go_end0
  refine ⟨rfl, colb, ?_, Tb.out⟩
  exact Hb.out.lw
set_option maxRecDepth 100000 in
set_option maxHeartbeats 3200000 in
theorem other_write (L N : Nat) (col : Nat → Nat) (s : Lm) (K : Nat) (g : Int) (a_ b_ : Int) (oc0 : Option Addr) (cn cc : Nat) (df : Bool) (w : World) (h : RW w col L N s) (ok : Ok K s) (hK : K ≤ 99000) :
    Calls Tryz.prog 110 #[.pointer (some ⟨L, 0, none⟩), .int .i64 g, .agg #[.int .i64 8, .int .i64 a_, .int .i64 b_, .slice oc0 cn cc, .bool df]] w fun r w' => r = .returned (.tuple #[]) ∧ ∃ col', RW w' col' L N (goS s ⟨10, g, -1, -1, a_, -1, false, false⟩) ∧ Tq col col' w w' := by
  obtain ⟨C, B, FB, hd, pa, pc, oa, oc, bs, Fs, cs, ta, tc, h⟩ := h
  obtain ⟨col1, h1, t1, n1⟩ := h.below (below_alloc w (.cells #[.int .i64 8, .int .i64 a_, .int .i64 b_, .slice oc0 cn cc, .bool df] 64))
  have T1 := hide t1
  have H1 := hide h1
  have E1 := hide (heap_new w (.cells #[.int .i64 8, .int .i64 a_, .int .i64 b_, .slice oc0 cn cc, .bool df] 64))
  have N1 := hide (n1 w.heap.size (Nat.le_refl _))
  have OK := hide ok
  clear h t1 h1 n1 ok
  go_enter Tryz.func110, Tryz.ntmps110
  go_wp2_with fail
  refine (bare_r 0 g _).mono ?_
  rintro r w5 ⟨rfl, b5⟩
  unfold En.evv En.evc bareE
  obtain ⟨col6, h6, t6, n6⟩ := H1.out.below (btr b5 (below_alloc w5 (.cells #[.int .i64 10, .int .i64 g, .int .i64 (-1), .int .i64 (-1), .int .i64 a_, .int .i64 (-1), .bool false, .bool false] 50)))
  have s5 := b5.size
  have V6 := hide (heap_new w5 (.cells #[.int .i64 10, .int .i64 g, .int .i64 (-1), .int .i64 (-1), .int .i64 a_, .int .i64 (-1), .bool false, .bool false] 50))
  have c0 := cell_of (heap_below E1.out b5) 0
  have c1 := cell_of (heap_below E1.out b5) 1
  have c2 := cell_of (heap_below E1.out b5) 2
  have y6 := cell_of (heap_below H1.out.hp b5) 6
  simp [rcs] at c0 c1 c2 y6
  have hL5 : L < w5.heap.size := Nat.lt_of_lt_of_le H1.out.lt s5
  have C6 := hide (n6 w5.heap.size s5)
  have T6 := hide (T1.out.trans t6)
  have E6 := hide (t6.heap E1.out N1.out)
  have N6 : Hid (col6 w.heap.size = 7) := (t6.old _ (heap_lt E1.out) (by rw [N1.out]; omega)).trans N1.out
  have H6 := hide h6
  have hE1 := heap_lt E1.out
  have hz6 : w.heap.size ≤ w5.heap.size := by omega
  have hz7 : w.heap.size < w5.heap.size := by omega
  have hn6 : w.heap.size ≠ w5.heap.size := by omega
  have hL6 : L ≠ w5.heap.size := fun e => by have := H6.out.c0; rw [e, C6.out] at this; omega
  clear h6 t6 n6 b5 T1 H1 E1 N1 hE1 s5
  have H8 := H6
  have T8 := T6
  have E8 := E6
  have N8 := N6
  have NO := hide (note_x (⟨10, g, -1, -1, a_, -1, false, false⟩ : Ev) _ H8.out (by have := OK.out.tn; show s.tr.length ≤ _; omega))
  unfold En.evv En.evc at NO
  go_wp2_with fail
  refine NO.out.mono ?_
  rintro r w9 ⟨rfl, ta9, tc9, col9, h9, t9⟩
  have T9 := hide (T8.out.trans t9)
  have H9 := hide h9
  have k9 := cell_of (t9.heap E8.out N8.out) 0
  have ya := cell_of h9.hp 6
  simp [rcs] at ya k9
  have TU := hide (Cr.rturn00 B _ s.cr K g w9 h9.cr OK.out.cb (by omega))
  clear h9 t9 NO
  go_wp2_with fail
  refine TU.out.mono ?_
  rintro r wb ⟨rfl, pb⟩
  obtain ⟨FBb, colb, hb, tb⟩ := H9.out.crew pb
  have Hb := hide hb
  have Tb := hide (T9.out.trans tb)
  clear hb tb pb TU
  go_wp2_with fail
  go_end0
  refine ⟨rfl, colb, ?_, Tb.out⟩
  exact Hb.out.lw
set_option maxRecDepth 100000 in
set_option maxHeartbeats 3200000 in
theorem other_spawn (L N : Nat) (col : Nat → Nat) (s : Lm) (K : Nat) (g : Int) (a_ b_ : Int) (oc0 : Option Addr) (cn cc : Nat) (df : Bool) (w : World) (h : RW w col L N s) (ok : Ok K s) (hK : K ≤ 99000) :
    Calls Tryz.prog 110 #[.pointer (some ⟨L, 0, none⟩), .int .i64 g, .agg #[.int .i64 1, .int .i64 a_, .int .i64 b_, .slice oc0 cn cc, .bool df]] w fun r w' => r = .returned (.tuple #[]) ∧ ∃ col', RW w' col' L N (goS { s with cr := Cr.spL s.cr a_ } ⟨1, g, -1, -1, a_, Cr.spV s.cr a_, false, false⟩) ∧ Tq col col' w w' := by
  obtain ⟨C, B, FB, hd, pa, pc, oa, oc, bs, Fs, cs, ta, tc, h⟩ := h
  obtain ⟨col1, h1, t1, n1⟩ := h.below (below_alloc w (.cells #[.int .i64 1, .int .i64 a_, .int .i64 b_, .slice oc0 cn cc, .bool df] 64))
  have T1 := hide t1
  have H1 := hide h1
  have E1 := hide (heap_new w (.cells #[.int .i64 1, .int .i64 a_, .int .i64 b_, .slice oc0 cn cc, .bool df] 64))
  have N1 := hide (n1 w.heap.size (Nat.le_refl _))
  have OK := hide ok
  clear h t1 h1 n1 ok
  go_enter Tryz.func110, Tryz.ntmps110
  go_wp2_with fail
  refine (bare_r 0 g _).mono ?_
  rintro r w5 ⟨rfl, b5⟩
  unfold En.evv En.evc bareE
  obtain ⟨col6, h6, t6, n6⟩ := H1.out.below (btr b5 (below_alloc w5 (.cells #[.int .i64 0, .int .i64 g, .int .i64 (-1), .int .i64 (-1), .int .i64 (-1), .int .i64 (-1), .bool false, .bool false] 50)))
  have s5 := b5.size
  have V6 := hide (heap_new w5 (.cells #[.int .i64 0, .int .i64 g, .int .i64 (-1), .int .i64 (-1), .int .i64 (-1), .int .i64 (-1), .bool false, .bool false] 50))
  have c0 := cell_of (heap_below E1.out b5) 0
  have c1 := cell_of (heap_below E1.out b5) 1
  have c2 := cell_of (heap_below E1.out b5) 2
  have y6 := cell_of (heap_below H1.out.hp b5) 6
  simp [rcs] at c0 c1 c2 y6
  have hL5 : L < w5.heap.size := Nat.lt_of_lt_of_le H1.out.lt s5
  have C6 := hide (n6 w5.heap.size s5)
  have T6 := hide (T1.out.trans t6)
  have E6 := hide (t6.heap E1.out N1.out)
  have N6 : Hid (col6 w.heap.size = 7) := (t6.old _ (heap_lt E1.out) (by rw [N1.out]; omega)).trans N1.out
  have H6 := hide h6
  have hE1 := heap_lt E1.out
  have hz6 : w.heap.size ≤ w5.heap.size := by omega
  have hz7 : w.heap.size < w5.heap.size := by omega
  have hn6 : w.heap.size ≠ w5.heap.size := by omega
  have hL6 : L ≠ w5.heap.size := fun e => by have := H6.out.c0; rw [e, C6.out] at this; omega
  clear h6 t6 n6 b5 T1 H1 E1 N1 hE1 s5
  go_wp2_with fail
  generalize w5.alloc (.cells #[.int .i64 0, .int .i64 g, .int .i64 (-1), .int .i64 (-1), .int .i64 (-1), .int .i64 (-1), .bool false, .bool false] 50) = w6 at *
  clear hL5 hz7 c0 c1 c2 y6
  generalize w5.heap.size = Eb at *
  have SP := hide (Cr.rspawn_any B FB s.cr a_ w6.drew H6.out.drew.cr)
  have c1 : w6.cell? ⟨w.heap.size, 1, none⟩ = some (.int .i64 a_) := cell_of E6.out 1
  have y6 : w6.cell? ⟨L, 6, none⟩ = some (.pointer (some ⟨B, 0, none⟩)) := cell_of H6.out.hp 6
  go_region_held3 (fun w' => w'.cell? ⟨L, 6, none⟩ = some (.pointer (some ⟨B, 0, none⟩)) ∧ w'.cell? ⟨w.heap.size, 1, none⟩ = some (.int .i64 a_))
    (first | (with_reducible exact ⟨z6, z1⟩) | (go_keep; done) | (exact ⟨z6, z1⟩))
    (first | (go_at_call 101; refine SP.out.mono ?_; rintro r w7 ⟨rfl, p7⟩; obtain ⟨FB7, col7, h7, t7⟩ := H6.out.drew.crew p7; have z6 : w7.cell? ⟨L, 6, none⟩ = some (.pointer (some ⟨B, 0, none⟩)) := cell_of h7.hp 6; have E7 := hide (t7.heap (heap_below E6.out (bdrew1 _)) N6.out); have z1 : w7.cell? ⟨w.heap.size, 1, none⟩ = some (.int .i64 a_) := cell_of E7.out 1))
  have V7 := hide (t7.heap (heap_below V6.out (bdrew1 _)) C6.out)
  have C7 : Hid (col7 Eb = 7) := (t7.old _ (heap_lt (heap_below V6.out (bdrew1 _))) (by rw [C6.out]; omega)).trans C6.out
  have N7 : Hid (col7 w.heap.size = 7) := (t7.old _ (heap_lt (heap_below E6.out (bdrew1 _))) (by rw [N6.out]; omega)).trans N6.out
  have T7 := hide (T6.out.drew.trans t7)
  have H7 := hide h7
  rename_i hH7
  clear hH7 h7 t7 p7 SP V6 C6 E6 N6 T6 H6 c1 y6 z6
  have v0 := cell_of V7.out 0
  have v1 := cell_of V7.out 1
  have v2 := cell_of V7.out 2
  have v3 := cell_of V7.out 3
  have v4 := cell_of V7.out 4
  have v5 := cell_of V7.out 5
  have v6 := cell_of V7.out 6
  have v7 := cell_of V7.out 7
  have f0 := frozen_of V7.out 0
  have f4 := frozen_of V7.out 4
  have f5 := frozen_of V7.out 5
  simp at v0 v1 v2 v3 v4 v5 v6 v7
  have K7 := (((KB.refl Eb w7).setCell 0 (.int .i64 1)).setCell 4 (.int .i64 a_)).setCell 5 (.int .i64 (Cr.spV s.cr a_))
  have H8 := hide (H7.out.kb K7 C7.out)
  have T8 := hide (T7.out.kb K7 hz6)
  have E8 := hide (K7.heap E7.out hn6)
  have N8 := N7
  clear K7
  have NO := hide (note_x (⟨1, g, -1, -1, a_, Cr.spV s.cr a_, false, false⟩ : Ev) _ H8.out (by have := OK.out.tn; show s.tr.length ≤ _; omega))
  unfold En.evv En.evc at NO
  go_wp2_with fail
  refine NO.out.mono ?_
  rintro r w9 ⟨rfl, ta9, tc9, col9, h9, t9⟩
  have T9 := hide (T8.out.trans t9)
  have H9 := hide h9
  have k9 := cell_of (t9.heap E8.out N8.out) 0
  have ya := cell_of h9.hp 6
  simp [rcs] at ya k9
  have TU := hide (Cr.rturn00 B _ (Cr.spL s.cr a_) K g w9 h9.cr (Cr.Bn.sp OK.out.cb a_) (by omega))
  clear h9 t9 NO
  go_wp2_with fail
  refine TU.out.mono ?_
  rintro r wb ⟨rfl, pb⟩
  obtain ⟨FBb, colb, hb, tb⟩ := H9.out.crew pb
  have Hb := hide hb
  have Tb := hide (T9.out.trans tb)
  clear hb tb pb TU
  go_wp2_with fail
  go_end0
  refine ⟨rfl, colb, ?_, Tb.out⟩
  exact Hb.out.lw
set_option maxRecDepth 100000 in
set_option maxHeartbeats 3200000 in
theorem other_exit (L N : Nat) (col : Nat → Nat) (s : Lm) (K : Nat) (g : Int) (a_ b_ : Int) (oc0 : Option Addr) (cn cc : Nat) (df : Bool) (w : World) (h : RW w col L N s) (ok : Ok K s) (hK : K ≤ 99000) :
    Calls Tryz.prog 110 #[.pointer (some ⟨L, 0, none⟩), .int .i64 g, .agg #[.int .i64 9, .int .i64 a_, .int .i64 b_, .slice oc0 cn cc, .bool df]] w fun r w' => r = .returned (.tuple #[]) ∧ ∃ col', RW w' col' L N (tellS { s with cr := Cr.chL s.cr g 0 2 0 } (bareE 11 g)) ∧ Tq col col' w w' := by
  obtain ⟨C, B, FB, hd, pa, pc, oa, oc, bs, Fs, cs, ta, tc, h⟩ := h
  obtain ⟨col1, h1, t1, n1⟩ := h.below (below_alloc w (.cells #[.int .i64 9, .int .i64 a_, .int .i64 b_, .slice oc0 cn cc, .bool df] 64))
  have T1 := hide t1
  have H1 := hide h1
  have E1 := hide (heap_new w (.cells #[.int .i64 9, .int .i64 a_, .int .i64 b_, .slice oc0 cn cc, .bool df] 64))
  have N1 := hide (n1 w.heap.size (Nat.le_refl _))
  have OK := hide ok
  clear h t1 h1 n1 ok
  go_enter Tryz.func110, Tryz.ntmps110
  go_wp2_with fail
  refine (bare_r 0 g _).mono ?_
  rintro r w5 ⟨rfl, b5⟩
  unfold En.evv En.evc bareE
  obtain ⟨col6, h6, t6, n6⟩ := H1.out.below (btr b5 (below_alloc w5 (.cells #[.int .i64 11, .int .i64 g, .int .i64 (-1), .int .i64 (-1), .int .i64 (-1), .int .i64 (-1), .bool false, .bool false] 50)))
  have s5 := b5.size
  have V6 := hide (heap_new w5 (.cells #[.int .i64 11, .int .i64 g, .int .i64 (-1), .int .i64 (-1), .int .i64 (-1), .int .i64 (-1), .bool false, .bool false] 50))
  have c0 := cell_of (heap_below E1.out b5) 0
  have c1 := cell_of (heap_below E1.out b5) 1
  have c2 := cell_of (heap_below E1.out b5) 2
  have y6 := cell_of (heap_below H1.out.hp b5) 6
  simp [rcs] at c0 c1 c2 y6
  have hL5 : L < w5.heap.size := Nat.lt_of_lt_of_le H1.out.lt s5
  have C6 := hide (n6 w5.heap.size s5)
  have T6 := hide (T1.out.trans t6)
  have E6 := hide (t6.heap E1.out N1.out)
  have N6 : Hid (col6 w.heap.size = 7) := (t6.old _ (heap_lt E1.out) (by rw [N1.out]; omega)).trans N1.out
  have H6 := hide h6
  have hE1 := heap_lt E1.out
  have hz6 : w.heap.size ≤ w5.heap.size := by omega
  have hz7 : w.heap.size < w5.heap.size := by omega
  have hn6 : w.heap.size ≠ w5.heap.size := by omega
  have hL6 : L ≠ w5.heap.size := fun e => by have := H6.out.c0; rw [e, C6.out] at this; omega
  clear h6 t6 n6 b5 T1 H1 E1 N1 hE1 s5
  have TU := hide (Cr.rturn02 B FB s.cr K g _ H6.out.cr OK.out.cb (by omega))
  go_wp2_with fail
  refine TU.out.mono ?_
  rintro r w8 ⟨rfl, p8⟩
  obtain ⟨FB8, col8, h8, t8⟩ := H6.out.crew p8
  have T8 := hide (T6.out.trans t8)
  have E8 := hide (t8.heap E6.out N6.out)
  have N8 : Hid (col8 w.heap.size = 7) := (t8.old _ (heap_lt E6.out) (by rw [N6.out]; omega)).trans N6.out
  have V8 := hide (t8.heap V6.out C6.out)
  have NO := hide (note_x (bareE 11 g) _ h8 (by have := OK.out.tn; show s.tr.length ≤ _; omega))
  unfold En.evv En.evc bareE at NO
  clear h8 t8 p8 TU c0 c1 c2 y6 V6 H6 T6 E6
  have v0 := cell_of V8.out 0
  have v1 := cell_of V8.out 1
  have v2 := cell_of V8.out 2
  have v3 := cell_of V8.out 3
  have v4 := cell_of V8.out 4
  have v5 := cell_of V8.out 5
  have v6 := cell_of V8.out 6
  have v7 := cell_of V8.out 7
  simp at v0 v1 v2 v3 v4 v5 v6 v7
  go_wp2_with fail
  refine NO.out.mono ?_
  rintro r w9 ⟨rfl, ta9, tc9, col9, h9, t9⟩
  have T9 := hide (T8.out.trans t9)
  have H9 := hide h9
  have k9 := cell_of (t9.heap E8.out N8.out) 0
  simp at k9
  clear h9 t9 NO
  go_wp2_with fail
  go_end0
  exact ⟨rfl, col9, H9.out.lw, T9.out⟩
set_option maxRecDepth 100000 in
set_option maxHeartbeats 3200000 in
theorem other_make (L N : Nat) (col : Nat → Nat) (s : Lm) (K : Nat) (g : Int) (a_ b_ : Nat) (ha : a_ < 8) (hb4 : b_ ≤ 4) (oc0 : Option Addr) (cn cc : Nat) (df : Bool) (w : World) (h : RW w col L N s) (ok : Ok K s) (hK : K ≤ 99000) :
    Calls Tryz.prog 110 #[.pointer (some ⟨L, 0, none⟩), .int .i64 g, .agg #[.int .i64 2, .int .i64 (a_ : Int), .int .i64 (b_ : Int), .slice oc0 cn cc, .bool df]] w fun r w' => r = .returned (.tuple #[]) ∧ ∃ col', RW w' col' L N (goS (opensS s a_ b_) ⟨2, g, s.md, -1, b_, -1, false, false⟩) ∧ Tq col col' w w' := by
  obtain ⟨C, B, FB, hd, pa, pc, oa, oc, bs, Fs, cs, ta, tc, h⟩ := h
  obtain ⟨col1, h1, t1, n1⟩ := h.below (below_alloc w (.cells #[.int .i64 2, .int .i64 (a_ : Int), .int .i64 (b_ : Int), .slice oc0 cn cc, .bool df] 64))
  have T1 := hide t1
  have H1 := hide h1
  have E1 := hide (heap_new w (.cells #[.int .i64 2, .int .i64 (a_ : Int), .int .i64 (b_ : Int), .slice oc0 cn cc, .bool df] 64))
  have N1 := hide (n1 w.heap.size (Nat.le_refl _))
  have OK := hide ok
  clear h t1 h1 n1 ok
  go_enter Tryz.func110, Tryz.ntmps110
  go_wp2_with fail
  refine (bare_r 0 g _).mono ?_
  rintro r w5 ⟨rfl, b5⟩
  unfold En.evv En.evc bareE
  obtain ⟨col6, h6, t6, n6⟩ := H1.out.below (btr b5 (below_alloc w5 (.cells #[.int .i64 0, .int .i64 g, .int .i64 (-1), .int .i64 (-1), .int .i64 (-1), .int .i64 (-1), .bool false, .bool false] 50)))
  have s5 := b5.size
  have V6 := hide (heap_new w5 (.cells #[.int .i64 0, .int .i64 g, .int .i64 (-1), .int .i64 (-1), .int .i64 (-1), .int .i64 (-1), .bool false, .bool false] 50))
  have c0 := cell_of (heap_below E1.out b5) 0
  have c1 := cell_of (heap_below E1.out b5) 1
  have c2 := cell_of (heap_below E1.out b5) 2
  have y6 := cell_of (heap_below H1.out.hp b5) 6
  simp [rcs] at c0 c1 c2 y6
  have hL5 : L < w5.heap.size := Nat.lt_of_lt_of_le H1.out.lt s5
  have C6 := hide (n6 w5.heap.size s5)
  have T6 := hide (T1.out.trans t6)
  have E6 := hide (t6.heap E1.out N1.out)
  have N6 : Hid (col6 w.heap.size = 7) := (t6.old _ (heap_lt E1.out) (by rw [N1.out]; omega)).trans N1.out
  have H6 := hide h6
  have hE1 := heap_lt E1.out
  have hz6 : w.heap.size ≤ w5.heap.size := by omega
  have hz7 : w.heap.size < w5.heap.size := by omega
  have hn6 : w.heap.size ≠ w5.heap.size := by omega
  have hL6 : L ≠ w5.heap.size := fun e => by have := H6.out.c0; rw [e, C6.out] at this; omega
  clear h6 t6 n6 b5 T1 H1 E1 N1 hE1 s5
  go_wp2_with fail
  generalize w5.alloc (.cells #[.int .i64 0, .int .i64 g, .int .i64 (-1), .int .i64 (-1), .int .i64 (-1), .int .i64 (-1), .bool false, .bool false] 50) = w6 at *
  clear hL5 hz7 c0 c1 c2 y6
  generalize w5.heap.size = Eb at *
  refine (Rp.rnew_ok b_ w6 hb4).mono ?_
  rintro r w7 ⟨G, F, rfl, p7, nF, b7⟩
  have P7 := hide p7
  have NFa := hide nF
  have V7 := hide (heap_below V6.out b7)
  have E7 := hide (heap_below E6.out b7)
  have L7 := hide (heap_below H6.out.hp b7)
  have B7 := hide b7
  clear p7 nF b7
  have hEb := heap_lt V6.out
  have hL := H6.out.lt
  have c2 : w7.cell? ⟨w.heap.size, 2, none⟩ = some (.int .i64 (b_ : Int)) := cell_of E7.out 2
  have y7 : w7.cell? ⟨L, 7, none⟩ = some (.slice oa bs.length oc) := cell_of L7.out 7
  have v0 := cell_of V7.out 0
  have v2 := cell_of V7.out 2
  have v4 := cell_of V7.out 4
  have f0 := frozen_of V7.out 0
  have f2 := frozen_of V7.out 2
  have f4 := frozen_of V7.out 4
  simp at v0 v2 v4
  have K7 := (((KB.refl Eb w7).setCell 0 (.int .i64 2)).setCell 4 (.int .i64 (b_ : Int))).setCell 2 (.int .i64 (bs.length : Int))
  have V8 := hide (Ba.heap_setCell_same (Ba.heap_setCell_same (Ba.heap_setCell_same V7.out (i := 0) (.int .i64 2)) (i := 4) (.int .i64 (b_ : Int))) (i := 2) (.int .i64 (bs.length : Int)))
  have E8 := hide (K7.heap E7.out hn6)
  have L8 := hide (K7.heap L7.out hL6)
  have KB8 : Hid (KB Eb w6 ((((w7.setCell ⟨Eb, 0, none⟩ (.int .i64 2)).setCell ⟨Eb, 4, none⟩ (.int .i64 (b_ : Int))).setCell ⟨Eb, 2, none⟩ (.int .i64 (bs.length : Int))))) := ⟨K7.os.trans B7.out.os, K7.tape.trans B7.out.tape, K7.output.trans B7.out.output, Nat.le_trans B7.out.size K7.size, fun x hx hr => (K7.block x (Nat.lt_of_lt_of_le hx B7.out.size) hr).trans (B7.out.block x hx)⟩
  have P8 : Hid (Rp.Rr ((((w7.setCell ⟨Eb, 0, none⟩ (.int .i64 2)).setCell ⟨Eb, 4, none⟩ (.int .i64 (b_ : Int))).setCell ⟨Eb, 2, none⟩ (.int .i64 (bs.length : Int)))) G F (_root_.Go.Proofs.YtblfimobiibmjaaGreat.Pi.st0 b_)) := P7.out.sm fun x hx => K7.block x (P7.out.bd x hx) (fun e => by have := NFa.out x hx; omega)
  clear K7
  go_wp2_with fail
  clear V7 E7 L7 B7 P7 c2 y7 v0 v2 v4 f0 f2 f4
  generalize ((w7.setCell ⟨Eb, 0, none⟩ (.int .i64 2)).setCell ⟨Eb, 4, none⟩ (.int .i64 (b_ : Int))).setCell ⟨Eb, 2, none⟩ (.int .i64 (bs.length : Int)) = w8 at *
  have c1d : w8.drew.cell? ⟨w.heap.size, 1, none⟩ = some (.int .i64 (a_ : Int)) := cell_of E8.out 1
  have y7d : w8.drew.cell? ⟨L, 7, none⟩ = some (.slice oa bs.length oc) := cell_of L8.out 7
  have c1 : w8.cell? ⟨w.heap.size, 1, none⟩ = some (.int .i64 (a_ : Int)) := cell_of E8.out 1
  have y7 : w8.cell? ⟨L, 7, none⟩ = some (.slice oa bs.length oc) := cell_of L8.out 7
  have u0 : w8.cell? ⟨L, 8 + a_, none⟩ = some (.int .i64 (nth s.nm a_)) := (cell_of L8.out (8 + a_)).trans ((cell_of H6.out.hp (8 + a_)).symm.trans (H6.out.num ha))
  have uf : w8.frozen? ⟨L, 8 + a_, none⟩ = false := frozen_of L8.out (8 + a_)
  have k0 : (0 : Int) ≤ (a_ : Int) := by omega
  have k8 : (a_ : Int) < 8 := by omega
  have hwL : w.heap.size ≠ L := fun e => by have h1 := H6.out.c0; rw [← e, N6.out] at h1; omega
  have MD := hide H6.out.md
  have K9 := (KB.refl L w8).setCell (8 + a_) (.int .i64 (bs.length : Int))
  have L9 : Hid ((w8.setCell ⟨L, 8 + a_, none⟩ (.int .i64 (bs.length : Int))).drew.heap[L]? = some (.cells (rcs hd pa s.ps.length pc C B oa bs.length oc (s.nm.set a_ s.md) ta s.tr.length tc s.pk) 114 (0, 0))) := by
    show (w8.setCell ⟨L, 8 + a_, none⟩ (.int .i64 (bs.length : Int))).heap[L]? = _
    rw [Ba.heap_setCell_same L8.out, MD.out, rcs_num _ _ _ _ _ _ _ _ _ _ _ _ _ _ _ _ H6.out.ni.len ha]
  have c1e : (w8.setCell ⟨L, 8 + a_, none⟩ (.int .i64 (bs.length : Int))).drew.cell? ⟨w.heap.size, 1, none⟩ = some (.int .i64 (a_ : Int)) := kset1 c1 hwL
  have y7e : (w8.setCell ⟨L, 8 + a_, none⟩ (.int .i64 (bs.length : Int))).drew.cell? ⟨L, 7, none⟩ = some (.slice oa bs.length oc) := cell_of L9.out 7
  go_region_held3 (fun w' => w'.cell? ⟨w.heap.size, 1, none⟩ = some (.int .i64 (a_ : Int)) ∧ w'.cell? ⟨L, 7, none⟩ = some (.slice oa bs.length oc))
    (first | (with_reducible exact ⟨c1d, y7d⟩) | (with_reducible exact ⟨c1e, y7e⟩) | (go_keep; done))
    (fail)
  have V9 := hide (heap_below (K9.heap V8.out (fun e => hL6 e.symm)) (bdrew1 _))
  have E9 := hide (heap_below (K9.heap E8.out hwL) (bdrew1 _))
  have K89 : Hid (KB L w8 (w8.setCell ⟨L, 8 + a_, none⟩ (.int .i64 (bs.length : Int))).drew) := ⟨K9.os, K9.tape, K9.output, K9.size, fun x hx hr => K9.block x hx hr⟩
  rename_i hH9
  clear hH9 K9 c1d y7d c1 y7 u0 uf c1e y7e
  generalize w8.setCell ⟨L, 8 + a_, none⟩ (.int .i64 (bs.length : Int)) = w9z at *
  generalize w9z.drew = w9 at *
  have y9 : w9.cell? ⟨L, 7, none⟩ = some (.slice oa bs.length oc) := cell_of L9.out 7
  have f9 : w9.frozen? ⟨L, 7, none⟩ = false := frozen_of L9.out 7
  obtain ⟨i0, hi, hz0, hz1, hz2⟩ : ∃ i0, Tryz.prog.info? 200 = some i0 ∧ i0.zero = some (.pointer none) ∧ i0.size = 1 ∧ i0.bytes = 8 := by
    cases hi : Tryz.prog.info? 200 with
    | none => have := info_rp; rw [hi] at this; cases this
    | some i0 =>
      have hx := info_rp
      rw [hi] at hx
      simp at hx
      exact ⟨i0, rfl, hx⟩
  have INF := hide (And.intro hi (And.intro hz0 (And.intro hz1 hz2)))
  clear hi hz0 hz1 hz2
  have s6 := KB8.out.size
  have s8 := K89.out.size
  have BY := below_alloc w9 (.cells #[Value.pointer (some ⟨G, 0, none⟩)] 200)
  have OW : Hid ((w9.alloc (.cells #[Value.pointer (some ⟨G, 0, none⟩)] 200)).ownsRow 0 200 1 (.slice oa bs.length oc) bs.length (bs.map Pe.pt)) := Cr.own_keep H6.out.rw fun x e => by
    have hx := H6.out.blk e
    have h3 := H6.out.c3 x e
    refine (BY.block x (by omega)).trans ((K89.out.block x (by omega) (fun e2 => ?_)).trans (KB8.out.block x hx (fun e2 => ?_)))
    · rw [e2, H6.out.c0] at h3
      omega
    · rw [e2, C6.out] at h3
      omega
  have SRC := hide (cell_one_new w9 (.pointer (some ⟨G, 0, none⟩)) 200)
  have KA : Hid (KB L w8 (w9.alloc (.cells #[Value.pointer (some ⟨G, 0, none⟩)] 200))) := ⟨BY.os.trans K89.out.os, BY.tape.trans K89.out.tape, BY.output.trans K89.out.output, Nat.le_trans K89.out.size BY.size, fun x hx hr => (BY.block x (by omega)).trans (K89.out.block x hx hr)⟩
  have LA := hide (heap_below L9.out BY)
  have VB := hide (heap_below V9.out BY)
  have mdl := OK.out.md.2
  have hbl : bs.length ≤ 1000 := by have := MD.out; omega
  clear BY mdl
  go_wp2_with (at_builtin; refine wpList_append_own_at _ rfl _ _ 111 rfl 0 200 i0 (.pointer none) 1 8 Tryz.underlying111 INF.out.1 INF.out.2.1 INF.out.2.2.1 INF.out.2.2.2 rfl (by decide) _ _ _ rfl OW.out ⟨w9.heap.size, 0, none⟩ 1 1 [.pointer (some ⟨G, 0, none⟩)] rfl rfl ?c1 ?c2 ?c3 ?c4 ?c5 ?_)
  case c1 => exact SRC.out
  case c2 => exact pt_one [some G]
  case c3 => unfold maxLen; omega
  case c4 => omega
  case c5 => exact Nat.zero_le _
  intro v' wA ho hg hnil hat
  obtain ⟨oa', oc', rfl⟩ := own_sl1 ho
  have LW9 : wA.heap[L]? = some (.cells (rcs hd pa s.ps.length pc C B oa bs.length oc (s.nm.set a_ s.md) ta s.tr.length tc s.pk) 114 (0, 0)) := (hg.block L (heap_lt LA.out) (fun e => by have := H6.out.c3 L e.symm; rw [H6.out.c0] at this; omega)).trans LA.out
  have y9' : wA.cell? ⟨L, 7, none⟩ = some (.slice oa bs.length oc) := cell_of LW9 7
  have f9' : wA.frozen? ⟨L, 7, none⟩ = false := frozen_of LW9 7
  have ho2 : wA.ownsRow 0 200 1 (.slice oa' (bs.length + 1) oc') (bs.length + 1) ((bs ++ [some G]).map Pe.pt) := by rw [List.map_append]; exact ho
  obtain ⟨colM, hM, tM, oM⟩ := H6.out.made T6.out hz6 C6.out ha KB8.out P8.out NFa.out KA.out LA.out rfl ho2 hg (by rw [World.size_alloc]; exact hat)
  have HM := hide hM
  have TM := hide tM
  have EM := hide (oM w.heap.size _ (heap_lt E6.out) E8.out N6.out)
  have V10 : Hid (wA.heap[Eb]? = some (.cells #[.int .i64 2, .int .i64 g, .int .i64 (bs.length : Int), .int .i64 (-1), .int .i64 (b_ : Int), .int .i64 (-1), .bool false, .bool false] 50 (0, 0))) := (hg.block Eb (heap_lt VB.out) (fun e => by have := H6.out.c3 Eb e.symm; rw [C6.out] at this; omega)).trans (VB.out.trans rfl)
  clear ho hg hnil hat ho2 hM tM oM OW SRC KA LA LW9 y9 f9 E9 V9 L9 KB8 K89 P8 NFa VB
  have v0 := cell_of V10.out 0
  have v1 := cell_of V10.out 1
  have v2 := cell_of V10.out 2
  have v3 := cell_of V10.out 3
  have v4 := cell_of V10.out 4
  have v5 := cell_of V10.out 5
  have v6 := cell_of V10.out 6
  have v7 := cell_of V10.out 7
  simp at v0 v1 v2 v3 v4 v5 v6 v7
  have H8 := HM
  have T8 := TM
  have E8 := hide EM.out.1
  have N8 := hide EM.out.2
  have NO := hide (note_x (⟨2, g, (bs.length : Int), -1, (b_ : Int), -1, false, false⟩ : Ev) _ H8.out (by have := OK.out.tn; show s.tr.length ≤ _; omega))
  unfold En.evv En.evc at NO
  go_wp2_with fail
  refine NO.out.mono ?_
  rintro r w9 ⟨rfl, ta9, tc9, col9, h9, t9⟩
  have T9 := hide (T8.out.trans t9)
  have H9 := hide h9
  have k9 := cell_of (t9.heap E8.out N8.out) 0
  have ya := cell_of h9.hp 6
  simp [rcs] at ya k9
  have TU := hide (Cr.rturn00 B _ s.cr K g w9 h9.cr OK.out.cb (by omega))
  clear h9 t9 NO
  go_wp2_with fail
  refine TU.out.mono ?_
  rintro r wb ⟨rfl, pb⟩
  obtain ⟨FBb, colb, hb, tb⟩ := H9.out.crew pb
  have Hb := hide hb
  have Tb := hide (T9.out.trans tb)
  clear hb tb pb TU
  go_wp2_with fail
  go_end0
  refine ⟨rfl, colb, ?_, Tb.out⟩
  have e : opensS s (a_ : Int) (b_ : Int) = { s with sts := s.sts.set a_ (some (_root_.Go.Proofs.YtblfimobiibmjaaGreat.Pi.st0 b_)), nm := s.nm.set a_ s.md, md := s.md + 1 } := by unfold opensS; simp
  rw [e, MD.out]
  have := Hb.out.lw
  rw [MD.out] at this
  exact this
end Rlo
end Go.Proofs.YtblfimobiibmjaaGreat
