/- Package fork: rehearse, over this seat's program. -/
import Derived.Test.YtdcmlimglajpkaaJg
import Derived.LaidEqlPtr
namespace Go.Proofs.Ytdcmlimglajpkaa
open Go.ChangeShapes Go.WideShapes Go.ChangeAt Go.RowKit
namespace Fk
open Ba Pe _root_.Go.Proofs.Ytdcmlimglajpkaa.Pi Rp

theorem ps_mem {P : Nat → Bool} {n : Nat} {k : Nat} (hk : k < (ps P n).length) : ∃ p : Nat, nth (ps P n) k = (p : Int) ∧ p < n ∧ P p = true := by
  rw [nth_lt _ _ hk]
  have hm := List.getElem_mem hk
  unfold ps at hm
  obtain ⟨p, hp, e⟩ := List.mem_map.1 hm
  rw [List.mem_filter, List.mem_range] at hp
  exact ⟨p, e.symm, hp.1, hp.2⟩
/-- do two cases stand in one pew? -/
def smP (bs : List (Option Nat)) (c : Ca) (l : List Ca) : Nat → Bool := fun i => match l[i]? with | none => false | some o => decide (nmB bs o.ch = nmB bs c.ch) && (o.sd == c.sd)
theorem size_pipe : (Try.prog.info? 97).map (·.size) = some 6 := by kernel_rfl
theorem eql_none (a : Addr) (w : World) : (binOp .eql 55 (.pointer none) (.pointer (some a))).run Try.prog w = .ok (.bool false) w := by
  have h : ∀ d : Nat, (Op.equalIn (d + 1) 55 (.pointer none) (.pointer (some a))).run Try.prog w = .ok false w := fun d => by
    simp [Op.equalIn, run_underlying Try.underlying55]
  simp only [binOp]
  simp [Op.equal, Op.maxDepth, h 9999]
theorem eql_pipes (D B : Nat) (w : World) (hB : ∃ c t, w.heap[B]? = some (.cells c t (0, 0))) (hD : ∃ c t, w.heap[D]? = some (.cells c t (0, 0))) : (binOp .eql 55 (.pointer (some ⟨D, 0, none⟩)) (.pointer (some ⟨B, 0, none⟩))).run Try.prog w = .ok (.bool (decide (D = B))) w := by
  cases hi : Try.prog.info? 97 with
  | none => have := size_pipe; rw [hi] at this; cases this
  | some j =>
  have hs := size_pipe
  rw [hi] at hs
  simp at hs
  by_cases e : D = B
  · subst e
    rw [decide_eq_true rfl]
    exact run_eql_ptr_same w _ Try.underlying55 hi
  · rw [decide_eq_false e]
    obtain ⟨c1, t1, h1⟩ := hB
    obtain ⟨c2, t2, h2⟩ := hD
    exact run_eql_ptr_other w Try.underlying55 hi (by omega) (fun q => e (by simp at q)) h2 h1
set_option maxRecDepth 100000 in
theorem rehearse1_any (o c : Ca) (q : Option Nat) (B X Y : Nat) (w : World) (hX : w.cell? ⟨X, 0, none⟩ = some (.pointer (some ⟨B, 0, none⟩))) (hY : w.cell? ⟨Y, 0, none⟩ = some (.bool c.sd)) (hB : ∃ c t, w.heap[B]? = some (.cells c t (0, 0))) (hD : ∀ D, q = some D → ∃ c t, w.heap[D]? = some (.cells c t (0, 0))) :
    Calls Try.prog 61 #[cv o, pt q, .pointer (some ⟨X, 0, none⟩), .pointer (some ⟨Y, 0, none⟩)] w fun r w' => r = .returned (.bool (decide (q = some B) && (o.sd == c.sd))) ∧ Below w.heap.size w w' := by
  have hXl := World.block_lt_of_cell? w _ hX
  have hYl := World.block_lt_of_cell? w _ hY
  simp only at hXl hYl
  have lift : ∀ {D : Nat}, (∃ c t, w.heap[D]? = some (.cells c t (0, 0))) → ∃ c t, (w.alloc (.cells #[.bool o.sd, .int .i64 o.ch, .int .i64 o.v] 32)).heap[D]? = some (.cells c t (0, 0)) := fun ⟨c, t, h⟩ => ⟨c, t, heap_below h (below_alloc _ _)⟩
  unfold cv
  cases q with
  | none =>
    have he := eql_none ⟨B, 0, none⟩ (w.alloc (.cells #[.bool o.sd, .int .i64 o.ch, .int .i64 o.v] 32))
    simp only [pt, Option.map_none]
    clear lift hB hD
    go_enter Try.func61, Try.ntmps61
    go_wp2_with fail
    go_ret
    exact ⟨ret_bool (by simp), below_alloc _ _⟩
  | some D =>
    have he := eql_pipes D B (w.alloc (.cells #[.bool o.sd, .int .i64 o.ch, .int .i64 o.v] 32)) (lift hB) (lift (hD D rfl))
    simp only [pt, Option.map_some]
    clear lift hB hD
    by_cases e : D = B
    · subst e
      rw [decide_eq_true rfl] at he
      go_enter Try.func61, Try.ntmps61
      go_wp2_with fail
      go_ret
      exact ⟨ret_bool (by simp), below_alloc _ _⟩
    · rw [decide_eq_false e] at he
      go_enter Try.func61, Try.ntmps61
      go_wp2_with fail
      go_ret
      exact ⟨ret_bool (by simp [e]), below_alloc _ _⟩
theorem waiting_new (B : Nat) (F : Nat → Prop) (st : St) (b : Bool) (w : World) (h : Pp w B F st) :
    Calls Try.prog 29 #[.pointer (some ⟨B, 0, none⟩), .bool b] w fun r w' => ∃ oa c, r = .returned (.slice oa (own st b).length c) ∧ WAt w' oa (own st b) ∧ Below w.heap.size w w' ∧ ∀ a, oa = some a → w.heap.size ≤ a.block := by
  obtain ⟨R, S, Q, FS, FQ, h⟩ := h
  have SD := hide (h.side b)
  have LS := hide (list_new (sd S Q b) _ w (h.pew b))
  clear h
  generalize sd S Q b = X at SD LS
  generalize own st b = L at LS ⊢
  go_enter Try.func29, Try.ntmps29
  go_wp2_with fail
  refine SD.out.mono ?_
  rintro r w1 ⟨rfl, rfl⟩
  go_wp2_with fail
  refine LS.out.mono ?_
  rintro r w2 ⟨oa, c, rfl, hA, b2, n2⟩
  have B2 := hide b2
  have HA := hide hA
  have N2 := hide n2
  clear b2 hA n2
  go_wp2_with fail
  go_ret
  exact ⟨oa, c, rfl, HA.out, B2.out, N2.out⟩
/-- a pew of one's own, newer than w -/
structure Tr (w wr : World) (T : Nat) (F : Nat → Prop) (t : List Wt) : Prop where
  p : PF wr T F t
  b : Below w.heap.size w wr
  lo : ∀ k, F k → w.heap.size ≤ k
theorem Tr.below {w a c : World} {T : Nat} {F : Nat → Prop} {t : List Wt} (h : Tr w a T F t) (hb : Below a.heap.size a c) : Tr w c T F t := ⟨h.p.below hb, btr h.b hb, h.lo⟩
theorem Tr.step {w a c : World} {T : Nat} {F F' : Nat → Prop} {t t' : List Wt} (h : Tr w a T F t) (k : KF F a c) (i : Nw F' F a) (p : PF c T F' t') : Tr w c T F' t' :=
  ⟨p, k.below h.b h.lo, fun x hx => by
    rcases i x hx with q | q
    · exact h.lo x q
    · exact Nat.le_trans h.b.size q⟩
theorem al_len (l : List Wt) (x : Wt) : (al l x).length ≤ l.length + 1 := by
  unfold al
  split
  · split <;> simp
  · omega
theorem ae_ok {l : List Wt} {x : Wt} (h : okb x = true) (hl : l.length ≠ 1024) : ae l x = 0 := by simp [ae, h, hl]
theorem pp_blk {w : World} {B : Nat} {F : Nat → Prop} {st : St} (h : Pp w B F st) : ∃ c t, w.heap[B]? = some (.cells c t (0, 0)) := by
  obtain ⟨R, S, Q, FS, FQ, h⟩ := h
  exact ⟨_, _, h.hp⟩
theorem own_at2 {w : World} {base : Nat} {v : Value} {l : List Int} (h : w.ownsRow base 3 1 v l.length (ic l)) : ∃ oa c, v = .slice oa l.length c ∧ At w oa l ∧ ∀ a, oa = some a → base ≤ a.block := by
  obtain ⟨oa, c, e, h1, h2⟩ := own_at h
  refine ⟨oa, c, e, h1, fun a ea => ?_⟩
  rcases h.2 with ⟨e2, h0⟩ | ⟨g, cap, cur, e2, hbase, _⟩
  · rw [e, ea] at e2
    cases e2
  · rw [e, ea] at e2
    simp only [Value.slice.injEq, Option.some.injEq] at e2
    rw [e2.1]
    exact hbase
theorem at_kf {w w' : World} {F : Nat → Prop} {oa : Option Addr} {l : List Int} (h : At w oa l) (k : KF F w w') (hn : ∀ a, oa = some a → ¬ F a.block) : At w' oa l := by
  intro j hj
  obtain ⟨b, off, e, h0⟩ := h j hj
  exact ⟨b, off, e, k.cell h0 (hn _ e)⟩
set_option maxRecDepth 100000 in
set_option maxHeartbeats 6400000 in
theorem rehearse_ok (g : Int) (c : Ca) (oc : Option Addr) (l : List Ca) (cc : Nat) (oa : Option Addr) (bs : List (Option Nat)) (cp : Nat) (Fs : Nat → Nat → Prop) (sts : List (Option St)) (B : Nat) (st : St) (w : World) (hC : CaAt w oc l) (h : Qs Pp w oa bs Fs sts) (hl : l.length ≤ 4) (hg : 0 ≤ g) (hB : nmB bs c.ch = some B) (hP : ∀ u, Below w.heap.size w u → ∃ F, Pp u B F st) (hle : (own st c.sd).length ≤ 1000) :
    Calls Try.prog 39 #[.int .i64 g, cv c, .slice oc l.length cc, .slice oa bs.length cp] w fun r w' => r = .returned (.int .i64 0) ∧ Below w.heap.size w w' := by
  have b1 := below_alloc w (.cells #[.bool c.sd, .int .i64 c.ch, .int .i64 c.v] 32)
  have b2 := below_alloc (w.alloc (.cells #[.bool c.sd, .int .i64 c.ch, .int .i64 c.v] 32)) (.cells #[.pointer (some ⟨B, 0, none⟩)] 55)
  have BB := hide (btr b1 b2)
  have X1 := hide (heap_new w (.cells #[.bool c.sd, .int .i64 c.ch, .int .i64 c.v] 32))
  have X2 := hide (heap_below (heap_new w (.cells #[.bool c.sd, .int .i64 c.ch, .int .i64 c.v] 32)) b2)
  have hy := heap_new (w.alloc (.cells #[.bool c.sd, .int .i64 c.ch, .int .i64 c.v] 32)) (.cells #[.pointer (some ⟨B, 0, none⟩)] 55)
  rw [World.size_alloc] at hy
  have Y2 := hide hy
  have NM := hide (named_any oa bs c.ch cp _ (h.row.below b1))
  rw [hB] at NM
  simp only [pt, Option.map_some] at NM
  have HC := hide hC
  have HQ := hide h
  have HB := hide hB
  have HP := hide hP
  clear hC h hB hP b1 b2 hy
  unfold cv
  go_enter Try.func39, Try.ntmps39
  go_wp2_with fail
  refine NM.out.mono ?_
  rintro r w1 ⟨rfl, hw1⟩
  subst hw1
  go_wp2_with fail
  generalize (w.alloc (.cells #[.bool c.sd, .int .i64 c.ch, .int .i64 c.v] 32)).alloc (.cells #[.pointer (some ⟨B, 0, none⟩)] 55) = W2 at BB X2 Y2 ⊢
  refine (Pe.new_any _).mono ?_
  rintro r w3 ⟨rfl, p3, b3⟩
  have T3 : Hid (Tr w w3 W2.heap.size (fun k => k = W2.heap.size) []) := ⟨p3, btr BB.out b3, fun k e => by have e' : k = W2.heap.size := e; rw [e']; exact BB.out.size⟩
  have X3 := hide (heap_below X2.out b3)
  have Y3 := hide (heap_below Y2.out b3)
  have x0 : w3.cell? ⟨w.heap.size, 0, none⟩ = some (.bool c.sd) := cell_of X3.out 0
  have y0 : w3.cell? ⟨w.heap.size + 1, 0, none⟩ = some (.pointer (some ⟨B, 0, none⟩)) := cell_of Y3.out 0
  have hTn : w.heap.size + 1 < W2.heap.size := heap_lt Y2.out
  clear p3 b3 X2 Y2 NM
  generalize W2.heap.size = T at T3 hTn ⊢
  obtain ⟨F0, pp⟩ := HP.out _ T3.out.b
  have WT := hide (waiting_new B F0 st c.sd _ pp)
  clear pp
  obtain ⟨n1, hn1⟩ : ∃ n1, (own st c.sd).length = n1 := ⟨_, rfl⟩
  rw [hn1] at WT hle
  have HN1 := hide hn1
  clear hn1
  go_wp2_with fail
  refine WT.out.mono ?_
  rintro r w4 ⟨o4, c4, rfl, at4, b4, n4⟩
  have N4 := hide n4
  have hw34 := b4.size
  have hTw3 := T3.out.p.lt
  have F4 : Hid (∀ x, x = T → x = T ∨ w4.heap.size ≤ x) := fun _ e => .inl e
  have T4 := hide (T3.out.below b4)
  have A4 := hide at4
  have L4 := hide fun (q : 0 < (own st c.sd).length) => at4.lt q
  have X4 := hide (heap_below X3.out b4)
  have Y4 := hide (heap_below Y3.out b4)
  clear b4 at4 n4 T3 X3 Y3 x0 y0 WT
  go_wp2_with fail
  go_loopw [27] (fun i wr => ∃ (k : Nat) (F : Nat → Prop) (t : List Wt), k ≤ n1 ∧ i = .int .i64 k ∧ t.length ≤ k ∧ Tr w wr T F t ∧ (∀ x, F x → x = T ∨ w4.heap.size ≤ x) ∧ WAt wr o4 (own st c.sd) ∧ wr.heap[w.heap.size]? = some (.cells #[.bool c.sd, .int .i64 c.ch, .int .i64 c.v] 32) ∧ wr.heap[w.heap.size + 1]? = some (.cells #[.pointer (some ⟨B, 0, none⟩)] 55) ∧ w4.heap.size ≤ wr.heap.size) (fun i _ => n1 - (intOf i).toNat)
  case atStart => exact ⟨0, fun k => k = T, [], Nat.zero_le _, rfl, Nat.le_refl _, T4.out, F4.out, A4.out, X4.out, Y4.out, Nat.le_refl _⟩
  case round =>
    clear T4 A4 X4 Y4 F4
    obtain ⟨k, F, t, hk, rfl, ht, t5, f5, a5, x5, y5, hsz⟩ := hrel
    have T5 := hide t5
    have F5 := hide f5
    have A5 := hide a5
    have X5 := hide x5
    have Y5 := hide y5
    clear t5 f5 a5 x5 y5
    by_cases hlt : k < n1
    · have hlt' : (k : Int) < (n1 : Int) := by omega
      have hkl : k < (own st c.sd).length := by have := HN1.out; omega
      obtain ⟨y, hy⟩ : ∃ y, (own st c.sd)[k]? = some y := ⟨_, List.getElem?_eq_getElem hkl⟩
      obtain ⟨by', oy, eo, q0, q1, q2⟩ := A5.out k y hy
      have hbl4 : by' < wr.heap.size := World.block_lt_of_cell? wr _ q0
      have NL : Hid (∀ a, o4 = some a → ¬ F a.block) := by
        intro a e hf
        have h1 := N4.out a e
        rcases F5.out _ hf with z | z
        · omega
        · have := L4.out (by omega) a e
          omega
      subst eo
      have bx := below_alloc wr (.cells #[.int .i64 y.g, .int .i64 y.c, .int .i64 y.v] 49)
      have T6 := hide (T5.out.below bx)
      have AD := hide (add_any T F t y _ T6.out.p)
      have A6 := hide (A5.out.below bx)
      have X6 := hide (heap_below X5.out bx)
      have Y6 := hide (heap_below Y5.out bx)
      have sz6 : wr.heap.size ≤ (wr.alloc (.cells #[.int .i64 y.g, .int .i64 y.c, .int .i64 y.v] 49)).heap.size := bx.size
      have hal := al_len t y
      unfold wv at AD
      clear hy bx
      go_wp2_with fail
      refine AD.out.mono ?_
      rintro r w7 ⟨rfl, k7, F7, n7, p7⟩
      have T7 := hide (T6.out.step k7 n7 p7)
      have A7 := hide (A6.out.kf k7 NL.out)
      have X7 := hide (k7.heap X6.out (fun hf => by rcases F5.out _ hf with z | z <;> omega))
      have Y7 := hide (k7.heap Y6.out (fun hf => by rcases F5.out _ hf with z | z <;> omega))
      have F7' : Hid (∀ x, F7 x → x = T ∨ w4.heap.size ≤ x) := fun x hx => by
        rcases n7 x hx with z | z
        · exact F5.out x z
        · exact .inr (by omega)
      have sz7 := k7.size
      clear k7 n7 p7
      go_wp2_with fail
      go_roundw
      case rel => exact ⟨k + 1, F7, al t y, by omega, by go_num, by omega, T7.out, F7'.out, A7.out, X7.out, Y7.out, by omega⟩
      case measure => simp [intOf]; omega
    · have hlt' : ¬ ((k : Int) < (n1 : Int)) := by omega
      have szw : w.heap.size + 1 < wr.heap.size := heap_lt Y5.out
      have BD5 := hide T5.out.p.bd
      have GS : Hid (∀ u, Below wr.heap.size wr u → Calls Try.prog 32 #[.slice oc l.length cc, .slice oa bs.length cp, .func (.func 61) #[] #[.pointer (some ⟨w.heap.size + 1, 0, none⟩), .pointer (some ⟨w.heap.size, 0, none⟩)]] u fun r w' => ∃ ob d, r = .returned (.slice ob (ps (smP bs c l) l.length).length d) ∧ w'.ownsRow u.heap.size 3 1 (.slice ob (ps (smP bs c l) l.length).length d) (ps (smP bs c l) l.length).length (ic (ps (smP bs c l) l.length)) ∧ Below u.heap.size u w') := by
        intro u hu
        have bu := btr T5.out.b hu
        refine gather_s (w.heap.size + 1) w.heap.size (smP bs c l) oc l cc oa bs cp u (HC.out.below bu) (HQ.out.row.below bu) (by omega) ?_
        intro i o v hi hv
        have bv := btr bu hv
        have hX := heap_below (heap_below X5.out hu) hv
        have hY := heap_below (heap_below Y5.out hu) hv
        have e : smP bs c l i = (decide (nmB bs o.ch = some B) && (o.sd == c.sd)) := by
          unfold smP
          rw [hi]
          simp only [HB.out]
        rw [e]
        refine rehearse1_any o c (nmB bs o.ch) B _ _ v (cell_of hY 0) (cell_of hX 0) ?_ ?_
        · obtain ⟨F1, p1⟩ := HP.out v bv
          exact pp_blk p1
        · intro D hD
          rcases (HQ.out.below frP bv).nm o.ch with ⟨q, _⟩ | ⟨B1, s1, q, _, _, _, _, _, p1⟩
          · rw [q] at hD
            cases hD
          · rw [q] at hD
            cases hD
            exact pp_blk p1
      obtain ⟨l2, hl2⟩ : ∃ l2, l2 = ps (smP bs c l) l.length := ⟨_, rfl⟩
      have hpl := ps_len (smP bs c l) l.length
      rw [← hl2] at GS hpl
      have MB : Hid (∀ k, k < l2.length → ∃ p : Nat, nth l2 k = (p : Int) ∧ p < l.length) := by
        intro k hk
        rw [hl2] at hk ⊢
        obtain ⟨p, e, hp, _⟩ := ps_mem hk
        exact ⟨p, e, hp⟩
      clear hl2 A5 HN1 N4 L4 X5 Y5
      go_wp2_with fail
      refine (GS.out _ (by first | exact Below.refl _ _ | exact bdrew1 _)).mono ?_
      rintro r w6 ⟨o6, d6, rfl, ow6, b6⟩
      obtain ⟨o6', c6', e6, at6, nb6⟩ := own_at2 ow6
      simp only [Value.slice.injEq] at e6
      obtain ⟨rfl, -, rfl⟩ := e6
      have A6 := hide at6
      have N6 := hide nb6
      have L6 := hide fun (q : 0 < l2.length) => at6.lt q
      have T6 := hide (T5.out.below (by first | exact b6 | exact btr (bdrew1 _) b6))
      have sz6 : wr.heap.size ≤ w6.heap.size := by first | exact b6.size | exact (btr (bdrew1 _) b6).size
      clear at6 nb6 ow6 b6 GS T5
      obtain ⟨n2, hn2⟩ : ∃ n2, l2.length = n2 := ⟨_, rfl⟩
      rw [hn2] at MB hpl L6
      have HN2 := hide hn2
      rw [hn2]
      clear hn2
      go_wp2_with fail
      go_loopw [41] (fun i wz => ∃ (j : Nat) (F' : Nat → Prop) (t' : List Wt), j ≤ n2 ∧ i = .int .i64 j ∧ t'.length ≤ n1 + j ∧ Tr w wz T F' t' ∧ (∀ x, F' x → F x ∨ w6.heap.size ≤ x) ∧ At wz o6 l2 ∧ w6.heap.size ≤ wz.heap.size) (fun i _ => n2 - (intOf i).toNat)
      case atStart => exact ⟨0, F, t, Nat.zero_le _, rfl, by omega, T6.out, fun _ e => .inl e, A6.out, Nat.le_refl _⟩
      case round =>
        clear T6 A6
        obtain ⟨j, F7, t7, hj, rfl, ht7, t8, f8, a8, hs8⟩ := hrel
        have T8 := hide t8
        have F8 := hide f8
        have A8 := hide a8
        clear t8 f8 a8
        by_cases hjl : j < n2
        · have hjl' : (j : Int) < (n2 : Int) := by omega
          have hjn : j < l2.length := by have := HN2.out; omega
          obtain ⟨p, ep, hp⟩ := MB.out j hjl
          obtain ⟨b9, off9, e9, q9⟩ := A8.out j hjn
          rw [ep] at q9
          have NL : Hid (∀ a, o6 = some a → ¬ F7 a.block) := by
            intro a e hf
            have h1 := N6.out a e
            have h2 := L6.out (by omega) a e
            rcases F8.out _ hf with z | z
            · have := BD5.out _ z
              omega
            · omega
          subst e9
          have hp' : (p : Int) < (l.length : Int) := by omega
          obtain ⟨o, ho⟩ : ∃ o, l[p]? = some o := ⟨_, List.getElem?_eq_getElem hp⟩
          obtain ⟨bc, offc, rfl, c0, c1, c2⟩ := HC.out.below T8.out.b p o ho
          have WA := hide (waiter_any g p o wr)
          unfold cv wv at WA
          have ALL : Hid (∀ u, Below wr.heap.size wr u → Calls Try.prog 49 #[.pointer (some ⟨T, 0, none⟩), wv ⟨g, p, o.v⟩] u fun r w' => r = .returned (.int .i64 0) ∧ ∃ F', Tr w w' T F' (al t7 ⟨g, p, o.v⟩) ∧ (∀ x, F' x → F x ∨ w6.heap.size ≤ x) ∧ At w' (some ⟨b9, off9, none⟩) l2 ∧ w6.heap.size ≤ w'.heap.size) := by
            intro u hu
            have TU := T8.out.below hu
            refine (add_any T F7 t7 ⟨g, p, o.v⟩ u TU.p).mono ?_
            rintro r w9 ⟨rfl, k9, F9, n9, p9⟩
            refine ⟨by rw [ae_ok ((okb_iff _).2 ⟨hg, by simp only; omega⟩) (by omega)], F9, TU.step k9 n9 p9, ?_, at_kf (A8.out.below hu) k9 NL.out, ?_⟩
            · intro x hx
              rcases n9 x hx with z | z
              · exact F8.out x z
              · exact .inr (by have := hu.size; omega)
            · have := hu.size
              have := k9.size
              omega
          unfold wv at ALL
          have hal := al_len t7 ⟨g, p, o.v⟩
          clear MB ho NL
          go_wp2_with fail
          refine WA.out.mono ?_
          rintro r w9 ⟨rfl, b9'⟩
          have B9 := hide b9'
          clear b9' c0 c1 c2 q9
          go_wp2_with fail
          refine (ALL.out _ B9.out).mono ?_
          rintro r w10 ⟨rfl, F10, t10, f10, a10, s10⟩
          have T10 := hide t10
          have G10 := hide f10
          have A10 := hide a10
          clear t10 f10 a10 ALL WA
          go_wp2_with fail
          go_roundw
          case rel => exact ⟨j + 1, F10, _, by omega, by go_num, by omega, T10.out, G10.out, A10.out, s10⟩
          case measure => simp [intOf]; omega
        · have hjl' : ¬ ((j : Int) < (n2 : Int)) := by omega
          have B9 := hide T8.out.b
          go_wp2_with fail
          go_ret
          exact ⟨rfl, B9.out⟩
end Fk
end Go.Proofs.Ytdcmlimglajpkaa
