import Derived.Test.YtipimagajnocjaaZjFork5
import Derived.LaidEqlPtr
import Derived.Deep.Slices
import Derived.ShutString
import Derived.ChangeOld
/- Package fork: rehearse, over this seat's program. -/
namespace Go.Proofs.Ytipimagajnocjaa
open Go.ChangeShapes Go.WideShapes Go.ChangeAt Go.RowKit
namespace Fk
open Ba Pe _root_.Go.Proofs.Ytipimagajnocjaa.Pi Rp

theorem ps_mem {P : Nat → Bool} {n : Nat} {k : Nat} (hk : k < (ps P n).length) : ∃ p : Nat, nth (ps P n) k = (p : Int) ∧ p < n ∧ P p = true := by
  rw [nth_lt _ _ hk]
  have hm := List.getElem_mem hk
  unfold ps at hm
  obtain ⟨p, hp, e⟩ := List.mem_map.1 hm
  rw [List.mem_filter, List.mem_range] at hp
  exact ⟨p, e.symm, hp.1, hp.2⟩
/-- do two cases stand in one pew? -/
def smP (bs : List (Option Nat)) (c : Ca) (l : List Ca) : Nat → Bool := fun i => match l[i]? with | none => false | some o => decide (nmB bs o.ch = nmB bs c.ch) && (o.sd == c.sd)
theorem size_pipe : (Try.prog.info? 97).map (·.size) = some 6 := by kernel_rfl
theorem eql_none (a : Addr) (w : World) : (binOp .eql 55 (.pointer none) (.pointer (some a))).run Try.prog w = .ok (.bool false) w := by
  have h : ∀ d : Nat, (Op.equalIn (d + 1) 55 (.pointer none) (.pointer (some a))).run Try.prog w = .ok false w := fun d => by
    simp [Op.equalIn, run_underlying Try.underlying55]
  simp only [binOp]
  simp [Op.equal, Op.maxDepth, h 9999]
theorem eql_pipes (D B : Nat) (w : World) (hB : ∃ c t, w.heap[B]? = some (.cells c t (0, 0))) (hD : ∃ c t, w.heap[D]? = some (.cells c t (0, 0))) : (binOp .eql 55 (.pointer (some ⟨D, 0, none⟩)) (.pointer (some ⟨B, 0, none⟩))).run Try.prog w = .ok (.bool (decide (D = B))) w := by
  cases hi : Try.prog.info? 97 with
  | none => have := size_pipe; rw [hi] at this; cases this
  | some j =>
  have hs := size_pipe
  rw [hi] at hs
  simp at hs
  by_cases e : D = B
  · subst e
    rw [decide_eq_true rfl]
    exact run_eql_ptr_same w _ Try.underlying55 hi
  · rw [decide_eq_false e]
    obtain ⟨c1, t1, h1⟩ := hB
    obtain ⟨c2, t2, h2⟩ := hD
    exact run_eql_ptr_other w Try.underlying55 hi (by omega) (fun q => e (by simp at q)) h2 h1
set_option maxRecDepth 100000 in
theorem rehearse1_any (o c : Ca) (q : Option Nat) (B X Y : Nat) (w : World) (hX : w.cell? ⟨X, 0, none⟩ = some (.pointer (some ⟨B, 0, none⟩))) (hY : w.cell? ⟨Y, 0, none⟩ = some (.bool c.sd)) (hB : ∃ c t, w.heap[B]? = some (.cells c t (0, 0))) (hD : ∀ D, q = some D → ∃ c t, w.heap[D]? = some (.cells c t (0, 0))) :
    Calls Try.prog 61 #[cv o, pt q, .pointer (some ⟨X, 0, none⟩), .pointer (some ⟨Y, 0, none⟩)] w fun r w' => r = .returned (.bool (decide (q = some B) && (o.sd == c.sd))) ∧ Below w.heap.size w w' := by
  have hXl := World.block_lt_of_cell? w _ hX
  have hYl := World.block_lt_of_cell? w _ hY
  simp only at hXl hYl
  have lift : ∀ {D : Nat}, (∃ c t, w.heap[D]? = some (.cells c t (0, 0))) → ∃ c t, (w.alloc (.cells #[.bool o.sd, .int .i64 o.ch, .int .i64 o.v] 32)).heap[D]? = some (.cells c t (0, 0)) := fun ⟨c, t, h⟩ => ⟨c, t, heap_below h (below_alloc _ _)⟩
  unfold cv
  cases q with
  | none =>
    have he := eql_none ⟨B, 0, none⟩ (w.alloc (.cells #[.bool o.sd, .int .i64 o.ch, .int .i64 o.v] 32))
    simp only [pt, Option.map_none]
    clear lift hB hD
    go_enter Try.func61, Try.ntmps61
    go_wp2_with fail
    go_ret
    exact ⟨ret_bool (by simp), below_alloc _ _⟩
  | some D =>
    have he := eql_pipes D B (w.alloc (.cells #[.bool o.sd, .int .i64 o.ch, .int .i64 o.v] 32)) (lift hB) (lift (hD D rfl))
    simp only [pt, Option.map_some]
    clear lift hB hD
    by_cases e : D = B
    · subst e
      rw [decide_eq_true rfl] at he
      go_enter Try.func61, Try.ntmps61
      go_wp2_with fail
      go_ret
      exact ⟨ret_bool (by simp), below_alloc _ _⟩
    · rw [decide_eq_false e] at he
      go_enter Try.func61, Try.ntmps61
      go_wp2_with fail
      go_ret
      exact ⟨ret_bool (by simp [e]), below_alloc _ _⟩
theorem waiting_new (B : Nat) (F : Nat → Prop) (st : St) (b : Bool) (w : World) (h : Pp w B F st) :
    Calls Try.prog 29 #[.pointer (some ⟨B, 0, none⟩), .bool b] w fun r w' => ∃ oa c, r = .returned (.slice oa (own st b).length c) ∧ WAt w' oa (own st b) ∧ Below w.heap.size w w' ∧ ∀ a, oa = some a → w.heap.size ≤ a.block := by
  obtain ⟨R, S, Q, FS, FQ, h⟩ := h
  have SD := hide (h.side b)
  have LS := hide (list_new (sd S Q b) _ w (h.pew b))
  clear h
  generalize sd S Q b = X at SD LS
  generalize own st b = L at LS ⊢
  go_enter Try.func29, Try.ntmps29
  go_wp2_with fail
  refine SD.out.mono ?_
  rintro r w1 ⟨rfl, rfl⟩
  go_wp2_with fail
  refine LS.out.mono ?_
  rintro r w2 ⟨oa, c, rfl, hA, b2, n2⟩
  have B2 := hide b2
  have HA := hide hA
  have N2 := hide n2
  clear b2 hA n2
  go_wp2_with fail
  go_ret
  exact ⟨oa, c, rfl, HA.out, B2.out, N2.out⟩
/-- a pew of one's own, newer than w -/
structure Tr (w wr : World) (T : Nat) (F : Nat → Prop) (t : List Wt) : Prop where
  p : PF wr T F t
  b : Below w.heap.size w wr
  lo : ∀ k, F k → w.heap.size ≤ k
theorem Tr.below {w a c : World} {T : Nat} {F : Nat → Prop} {t : List Wt} (h : Tr w a T F t) (hb : Below a.heap.size a c) : Tr w c T F t := ⟨h.p.below hb, btr h.b hb, h.lo⟩
theorem Tr.step {w a c : World} {T : Nat} {F F' : Nat → Prop} {t t' : List Wt} (h : Tr w a T F t) (k : KF F a c) (i : Nw F' F a) (p : PF c T F' t') : Tr w c T F' t' :=
  ⟨p, k.below h.b h.lo, fun x hx => by
    rcases i x hx with q | q
    · exact h.lo x q
    · exact Nat.le_trans h.b.size q⟩
theorem al_len (l : List Wt) (x : Wt) : (al l x).length ≤ l.length + 1 := by
  unfold al
  split
  · split <;> simp
  · omega
theorem ae_ok {l : List Wt} {x : Wt} (h : okb x = true) (hl : l.length ≠ 1024) : ae l x = 0 := by simp [ae, h, hl]
theorem pp_blk {w : World} {B : Nat} {F : Nat → Prop} {st : St} (h : Pp w B F st) : ∃ c t, w.heap[B]? = some (.cells c t (0, 0)) := by
  obtain ⟨R, S, Q, FS, FQ, h⟩ := h
  exact ⟨_, _, h.hp⟩
theorem own_at2 {w : World} {base : Nat} {v : Value} {l : List Int} (h : w.ownsRow base 3 1 v l.length (ic l)) : ∃ oa c, v = .slice oa l.length c ∧ At w oa l ∧ ∀ a, oa = some a → base ≤ a.block := by
  obtain ⟨oa, c, e, h1, h2⟩ := own_at h
  refine ⟨oa, c, e, h1, fun a ea => ?_⟩
  rcases h.2 with ⟨e2, h0⟩ | ⟨g, cap, cur, e2, hbase, _⟩
  · rw [e, ea] at e2
    cases e2
  · rw [e, ea] at e2
    simp only [Value.slice.injEq, Option.some.injEq] at e2
    rw [e2.1]
    exact hbase
theorem at_kf {w w' : World} {F : Nat → Prop} {oa : Option Addr} {l : List Int} (h : At w oa l) (k : KF F w w') (hn : ∀ a, oa = some a → ¬ F a.block) : At w' oa l := by
  intro j hj
  obtain ⟨b, off, e, h0⟩ := h j hj
  exact ⟨b, off, e, k.cell h0 (hn _ e)⟩
set_option maxRecDepth 100000 in
set_option maxHeartbeats 6400000 in
theorem rehearse_ok (g : Int) (c : Ca) (oc : Option Addr) (l : List Ca) (cc : Nat) (oa : Option Addr) (bs : List (Option Nat)) (cp : Nat) (Fs : Nat → Nat → Prop) (sts : List (Option St)) (B : Nat) (st : St) (w : World) (hC : CaAt w oc l) (h : Qs Pp w oa bs Fs sts) (hl : l.length ≤ 4) (hg : 0 ≤ g) (hB : nmB bs c.ch = some B) (hP : ∀ u, Below w.heap.size w u → ∃ F, Pp u B F st) (hle : (own st c.sd).length ≤ 1000) :
    Calls Try.prog 39 #[.int .i64 g, cv c, .slice oc l.length cc, .slice oa bs.length cp] w fun r w' => r = .returned (.int .i64 0) ∧ Below w.heap.size w w' := by
  have b1 := below_alloc w (.cells #[.bool c.sd, .int .i64 c.ch, .int .i64 c.v] 32)
  have b2 := below_alloc (w.alloc (.cells #[.bool c.sd, .int .i64 c.ch, .int .i64 c.v] 32)) (.cells #[.pointer (some ⟨B, 0, none⟩)] 55)
  have BB := hide (btr b1 b2)
  have X1 := hide (heap_new w (.cells #[.bool c.sd, .int .i64 c.ch, .int .i64 c.v] 32))
  have X2 := hide (heap_below (heap_new w (.cells #[.bool c.sd, .int .i64 c.ch, .int .i64 c.v] 32)) b2)
  have hy := heap_new (w.alloc (.cells #[.bool c.sd, .int .i64 c.ch, .int .i64 c.v] 32)) (.cells #[.pointer (some ⟨B, 0, none⟩)] 55)
  rw [World.size_alloc] at hy
  have Y2 := hide hy
  have NM := hide (named_any oa bs c.ch cp _ (h.row.below b1))
  rw [hB] at NM
  simp only [pt, Option.map_some] at NM
  have HC := hide hC
  have HQ := hide h
  have HB := hide hB
  have HP := hide hP
  clear hC h hB hP b1 b2 hy
  unfold cv
  go_enter Try.func39, Try.ntmps39
  go_wp2_with fail
  refine NM.out.mono ?_
  rintro r w1 ⟨rfl, hw1⟩
  subst hw1
  go_wp2_with fail
  generalize (w.alloc (.cells #[.bool c.sd, .int .i64 c.ch, .int .i64 c.v] 32)).alloc (.cells #[.pointer (some ⟨B, 0, none⟩)] 55) = W2 at BB X2 Y2 ⊢
  refine (Pe.new_any _).mono ?_
  rintro r w3 ⟨rfl, p3, b3⟩
  have T3 : Hid (Tr w w3 W2.heap.size (fun k => k = W2.heap.size) []) := ⟨p3, btr BB.out b3, fun k e => by have e' : k = W2.heap.size := e; rw [e']; exact BB.out.size⟩
  have X3 := hide (heap_below X2.out b3)
  have Y3 := hide (heap_below Y2.out b3)
  have x0 : w3.cell? ⟨w.heap.size, 0, none⟩ = some (.bool c.sd) := cell_of X3.out 0
  have y0 : w3.cell? ⟨w.heap.size + 1, 0, none⟩ = some (.pointer (some ⟨B, 0, none⟩)) := cell_of Y3.out 0
  have hTn : w.heap.size + 1 < W2.heap.size := heap_lt Y2.out
  clear p3 b3 X2 Y2 NM
  generalize W2.heap.size = T at T3 hTn ⊢
  obtain ⟨F0, pp⟩ := HP.out _ T3.out.b
  have WT := hide (waiting_new B F0 st c.sd _ pp)
  clear pp
  obtain ⟨n1, hn1⟩ : ∃ n1, (own st c.sd).length = n1 := ⟨_, rfl⟩
  rw [hn1] at WT hle
  have HN1 := hide hn1
  clear hn1
  go_wp2_with fail
  refine WT.out.mono ?_
  rintro r w4 ⟨o4, c4, rfl, at4, b4, n4⟩
  have N4 := hide n4
  have hw34 := b4.size
  have hTw3 := T3.out.p.lt
  have F4 : Hid (∀ x, x = T → x = T ∨ w4.heap.size ≤ x) := fun _ e => .inl e
  have T4 := hide (T3.out.below b4)
  have A4 := hide at4
  have L4 := hide fun (q : 0 < (own st c.sd).length) => at4.lt q
  have X4 := hide (heap_below X3.out b4)
  have Y4 := hide (heap_below Y3.out b4)
  clear b4 at4 n4 T3 X3 Y3 x0 y0 WT
  go_wp2_with fail
  go_loopw [27] (fun i wr => ∃ (k : Nat) (F : Nat → Prop) (t : List Wt), k ≤ n1 ∧ i = .int .i64 k ∧ t.length ≤ k ∧ Tr w wr T F t ∧ (∀ x, F x → x = T ∨ w4.heap.size ≤ x) ∧ WAt wr o4 (own st c.sd) ∧ wr.heap[w.heap.size]? = some (.cells #[.bool c.sd, .int .i64 c.ch, .int .i64 c.v] 32) ∧ wr.heap[w.heap.size + 1]? = some (.cells #[.pointer (some ⟨B, 0, none⟩)] 55) ∧ w4.heap.size ≤ wr.heap.size) (fun i _ => n1 - (intOf i).toNat)
  case atStart => exact ⟨0, fun k => k = T, [], Nat.zero_le _, rfl, Nat.le_refl _, T4.out, F4.out, A4.out, X4.out, Y4.out, Nat.le_refl _⟩
  case round =>
    clear T4 A4 X4 Y4 F4
    obtain ⟨k, F, t, hk, rfl, ht, t5, f5, a5, x5, y5, hsz⟩ := hrel
    have T5 := hide t5
    have F5 := hide f5
    have A5 := hide a5
    have X5 := hide x5
    have Y5 := hide y5
    clear t5 f5 a5 x5 y5
    by_cases hlt : k < n1
    · have hlt' : (k : Int) < (n1 : Int) := by omega
      have hkl : k < (own st c.sd).length := by have := HN1.out; omega
      obtain ⟨y, hy⟩ : ∃ y, (own st c.sd)[k]? = some y := ⟨_, List.getElem?_eq_getElem hkl⟩
      obtain ⟨by', oy, eo, q0, q1, q2⟩ := A5.out k y hy
      have hbl4 : by' < wr.heap.size := World.block_lt_of_cell? wr _ q0
      have NL : Hid (∀ a, o4 = some a → ¬ F a.block) := by
        intro a e hf
        have h1 := N4.out a e
        rcases F5.out _ hf with z | z
        · omega
        · have := L4.out (by omega) a e
          omega
      subst eo
      have bx := below_alloc wr (.cells #[.int .i64 y.g, .int .i64 y.c, .int .i64 y.v] 49)
      have T6 := hide (T5.out.below bx)
      have AD := hide (add_any T F t y _ T6.out.p)
      have A6 := hide (A5.out.below bx)
      have X6 := hide (heap_below X5.out bx)
      have Y6 := hide (heap_below Y5.out bx)
      have sz6 : wr.heap.size ≤ (wr.alloc (.cells #[.int .i64 y.g, .int .i64 y.c, .int .i64 y.v] 49)).heap.size := bx.size
      have hal := al_len t y
      unfold wv at AD
      clear hy bx
      go_wp2_with fail
      refine AD.out.mono ?_
      rintro r w7 ⟨rfl, k7, F7, n7, p7⟩
      have T7 := hide (T6.out.step k7 n7 p7)
      have A7 := hide (A6.out.kf k7 NL.out)
      have X7 := hide (k7.heap X6.out (fun hf => by rcases F5.out _ hf with z | z <;> omega))
      have Y7 := hide (k7.heap Y6.out (fun hf => by rcases F5.out _ hf with z | z <;> omega))
      have F7' : Hid (∀ x, F7 x → x = T ∨ w4.heap.size ≤ x) := fun x hx => by
        rcases n7 x hx with z | z
        · exact F5.out x z
        · exact .inr (by omega)
      have sz7 := k7.size
      clear k7 n7 p7
      go_wp2_with fail
      go_roundw
      case rel => exact ⟨k + 1, F7, al t y, by omega, by go_num, by omega, T7.out, F7'.out, A7.out, X7.out, Y7.out, by omega⟩
      case measure => simp [intOf]; omega
    · have hlt' : ¬ ((k : Int) < (n1 : Int)) := by omega
      have szw : w.heap.size + 1 < wr.heap.size := heap_lt Y5.out
      have BD5 := hide T5.out.p.bd
      have GS : Hid (∀ u, Below wr.heap.size wr u → Calls Try.prog 32 #[.slice oc l.length cc, .slice oa bs.length cp, .func (.func 61) #[] #[.pointer (some ⟨w.heap.size + 1, 0, none⟩), .pointer (some ⟨w.heap.size, 0, none⟩)]] u fun r w' => ∃ ob d, r = .returned (.slice ob (ps (smP bs c l) l.length).length d) ∧ w'.ownsRow u.heap.size 3 1 (.slice ob (ps (smP bs c l) l.length).length d) (ps (smP bs c l) l.length).length (ic (ps (smP bs c l) l.length)) ∧ Below u.heap.size u w') := by
        intro u hu
        have bu := btr T5.out.b hu
        refine gather_s (w.heap.size + 1) w.heap.size (smP bs c l) oc l cc oa bs cp u (HC.out.below bu) (HQ.out.row.below bu) (by omega) ?_
        intro i o v hi hv
        have bv := btr bu hv
        have hX := heap_below (heap_below X5.out hu) hv
        have hY := heap_below (heap_below Y5.out hu) hv
        have e : smP bs c l i = (decide (nmB bs o.ch = some B) && (o.sd == c.sd)) := by
          unfold smP
          rw [hi]
          simp only [HB.out]
        rw [e]
        refine rehearse1_any o c (nmB bs o.ch) B _ _ v (cell_of hY 0) (cell_of hX 0) ?_ ?_
        · obtain ⟨F1, p1⟩ := HP.out v bv
          exact pp_blk p1
        · intro D hD
          rcases (HQ.out.below frP bv).nm o.ch with ⟨q, _⟩ | ⟨B1, s1, q, _, _, _, _, _, p1⟩
          · rw [q] at hD
            cases hD
          · rw [q] at hD
            cases hD
            exact pp_blk p1
      obtain ⟨l2, hl2⟩ : ∃ l2, l2 = ps (smP bs c l) l.length := ⟨_, rfl⟩
      have hpl := ps_len (smP bs c l) l.length
      rw [← hl2] at GS hpl
      have MB : Hid (∀ k, k < l2.length → ∃ p : Nat, nth l2 k = (p : Int) ∧ p < l.length) := by
        intro k hk
        rw [hl2] at hk ⊢
        obtain ⟨p, e, hp, _⟩ := ps_mem hk
        exact ⟨p, e, hp⟩
      clear hl2 A5 HN1 N4 L4 X5 Y5
      go_wp2_with fail
      refine (GS.out _ (by first | exact Below.refl _ _ | exact bdrew1 _)).mono ?_
      rintro r w6 ⟨o6, d6, rfl, ow6, b6⟩
      obtain ⟨o6', c6', e6, at6, nb6⟩ := own_at2 ow6
      simp only [Value.slice.injEq] at e6
      obtain ⟨rfl, -, rfl⟩ := e6
      have A6 := hide at6
      have N6 := hide nb6
      have L6 := hide fun (q : 0 < l2.length) => at6.lt q
      have T6 := hide (T5.out.below (by first | exact b6 | exact btr (bdrew1 _) b6))
      have sz6 : wr.heap.size ≤ w6.heap.size := by first | exact b6.size | exact (btr (bdrew1 _) b6).size
      clear at6 nb6 ow6 b6 GS T5
      obtain ⟨n2, hn2⟩ : ∃ n2, l2.length = n2 := ⟨_, rfl⟩
      rw [hn2] at MB hpl L6
      have HN2 := hide hn2
      rw [hn2]
      clear hn2
      go_wp2_with fail
      go_loopw [41] (fun i wz => ∃ (j : Nat) (F' : Nat → Prop) (t' : List Wt), j ≤ n2 ∧ i = .int .i64 j ∧ t'.length ≤ n1 + j ∧ Tr w wz T F' t' ∧ (∀ x, F' x → F x ∨ w6.heap.size ≤ x) ∧ At wz o6 l2 ∧ w6.heap.size ≤ wz.heap.size) (fun i _ => n2 - (intOf i).toNat)
      case atStart => exact ⟨0, F, t, Nat.zero_le _, rfl, by omega, T6.out, fun _ e => .inl e, A6.out, Nat.le_refl _⟩
      case round =>
        clear T6 A6
        obtain ⟨j, F7, t7, hj, rfl, ht7, t8, f8, a8, hs8⟩ := hrel
        have T8 := hide t8
        have F8 := hide f8
        have A8 := hide a8
        clear t8 f8 a8
        by_cases hjl : j < n2
        · have hjl' : (j : Int) < (n2 : Int) := by omega
          have hjn : j < l2.length := by have := HN2.out; omega
          obtain ⟨p, ep, hp⟩ := MB.out j hjl
          obtain ⟨b9, off9, e9, q9⟩ := A8.out j hjn
          rw [ep] at q9
          have NL : Hid (∀ a, o6 = some a → ¬ F7 a.block) := by
            intro a e hf
            have h1 := N6.out a e
            have h2 := L6.out (by omega) a e
            rcases F8.out _ hf with z | z
            · have := BD5.out _ z
              omega
            · omega
          subst e9
          have hp' : (p : Int) < (l.length : Int) := by omega
          obtain ⟨o, ho⟩ : ∃ o, l[p]? = some o := ⟨_, List.getElem?_eq_getElem hp⟩
          obtain ⟨bc, offc, rfl, c0, c1, c2⟩ := HC.out.below T8.out.b p o ho
          have WA := hide (waiter_any g p o wr)
          unfold cv wv at WA
          have ALL : Hid (∀ u, Below wr.heap.size wr u → Calls Try.prog 49 #[.pointer (some ⟨T, 0, none⟩), wv ⟨g, p, o.v⟩] u fun r w' => r = .returned (.int .i64 0) ∧ ∃ F', Tr w w' T F' (al t7 ⟨g, p, o.v⟩) ∧ (∀ x, F' x → F x ∨ w6.heap.size ≤ x) ∧ At w' (some ⟨b9, off9, none⟩) l2 ∧ w6.heap.size ≤ w'.heap.size) := by
            intro u hu
            have TU := T8.out.below hu
            refine (add_any T F7 t7 ⟨g, p, o.v⟩ u TU.p).mono ?_
            rintro r w9 ⟨rfl, k9, F9, n9, p9⟩
            refine ⟨by rw [ae_ok ((okb_iff _).2 ⟨hg, by simp only; omega⟩) (by omega)], F9, TU.step k9 n9 p9, ?_, at_kf (A8.out.below hu) k9 NL.out, ?_⟩
            · intro x hx
              rcases n9 x hx with z | z
              · exact F8.out x z
              · exact .inr (by have := hu.size; omega)
            · have := hu.size
              have := k9.size
              omega
          unfold wv at ALL
          have hal := al_len t7 ⟨g, p, o.v⟩
          clear MB ho NL
          go_wp2_with fail
          refine WA.out.mono ?_
          rintro r w9 ⟨rfl, b9'⟩
          have B9 := hide b9'
          clear b9' c0 c1 c2 q9
          go_wp2_with fail
          refine (ALL.out _ B9.out).mono ?_
          rintro r w10 ⟨rfl, F10, t10, f10, a10, s10⟩
          have T10 := hide t10
          have G10 := hide f10
          have A10 := hide a10
          clear t10 f10 a10 ALL WA
          go_wp2_with fail
          go_roundw
          case rel => exact ⟨j + 1, F10, _, by omega, by go_num, by omega, T10.out, G10.out, A10.out, s10⟩
          case measure => simp [intOf]; omega
        · have hjl' : ¬ ((j : Int) < (n2 : Int)) := by omega
          have B9 := hide T8.out.b
          go_wp2_with fail
          go_ret
          exact ⟨rfl, B9.out⟩
end Fk
end Go.Proofs.Ytipimagajnocjaa
/- Package fork: Park's own facts. -/
namespace Go.Proofs.Ytipimagajnocjaa
open Go.ChangeShapes Go.WideShapes Go.ChangeAt Go.RowKit
namespace Fk
open Ba Pe _root_.Go.Proofs.Ytipimagajnocjaa.Pi Rp

/-- one case waits -/
def pk1 (g : Int) (p : Nat) (c : Ca) (s : List (Option St)) : List (Option St) := match nmB s c.ch with | none => s | some st => s.set c.ch.toNat (some (waitS st c.sd ⟨g, p, c.v⟩))
/-- the cases below k wait -/
def pkS (g : Int) (l : List Ca) (s : List (Option St)) : Nat → List (Option St)
  | 0 => s
  | k + 1 => match l[k]? with | none => pkS g l s k | some c => pk1 g k c (pkS g l s k)
/-- the cases at places wait -/
def pkL (g : Int) (l : List Ca) (s : List (Option St)) (L : List Int) : List (Option St) := L.foldl (fun s p => match l[p.toNat]? with | none => s | some c => pk1 g p.toNat c s) s
theorem pkL_app (g : Int) (l : List Ca) (s : List (Option St)) (L : List Int) (p : Nat) (c : Ca) (h : l[p]? = some c) : pkL g l s (L ++ [(p : Int)]) = pk1 g p c (pkL g l s L) := by
  unfold pkL
  rw [List.foldl_append]
  simp only [List.foldl_cons, List.foldl_nil, Int.toNat_natCast, h]
/-- has the case a channel? -/
def hasC (s : List (Option St)) (l : List Ca) : Nat → Bool := fun i => match l[i]? with | none => false | some c => (nmB s c.ch).isSome
theorem nmB_set {s : List (Option St)} {c d : Int} {st : St} (v : St) (h : nmB s c = some st) : nmB (s.set c.toNat (some v)) d = if d = c then some v else nmB s d := by
  unfold nmB at h ⊢
  split at h
  · cases h
  · rename_i e
    rw [List.length_set]
    by_cases ed : d = c
    · subst ed
      rw [if_neg e, if_pos rfl, List.getElem?_set_self (by omega)]
      rfl
    · rw [if_neg ed]
      split
      · rfl
      · rw [List.getElem?_set_ne (by omega)]
theorem nmB_at {s : List (Option St)} {c : Int} {st : St} (h : nmB s c = some st) : s[c.toNat]? = some (some st) := by
  unfold nmB at h
  split at h
  · cases h
  · cases e : s[c.toNat]? with
    | none => rw [e] at h; cases h
    | some o => rw [e] at h; exact congrArg some h
theorem pk1_none (g : Int) (p : Nat) (c : Ca) (s : List (Option St)) (d : Int) : nmB (pk1 g p c s) d = none ↔ nmB s d = none := by
  unfold pk1
  cases h : nmB s c.ch with
  | none => rfl
  | some st =>
    simp only
    rw [nmB_set _ h]
    by_cases e : d = c.ch
    · subst e
      rw [if_pos rfl, h]
      simp
    · rw [if_neg e]
theorem pkS_none (g : Int) (l : List Ca) (s : List (Option St)) (k : Nat) (d : Int) : nmB (pkS g l s k) d = none ↔ nmB s d = none := by
  induction k with
  | zero => rfl
  | succ k ih =>
    unfold pkS
    cases h : l[k]? with
    | none => exact ih
    | some c => exact (pk1_none g k c _ d).trans ih
theorem pk_ps (g : Int) (l : List Ca) (s : List (Option St)) (k : Nat) : pkL g l s (ps (hasC s l) k) = pkS g l s k := by
  induction k with
  | zero => rfl
  | succ k ih =>
    rw [ps_succ]
    unfold pkS
    cases h : l[k]? with
    | none =>
      have e : hasC s l k = false := by unfold hasC; rw [h]
      rw [e]
      simp only [Bool.false_eq_true, if_false]
      exact ih
    | some c =>
      cases hn : nmB s c.ch with
      | none =>
        have e : hasC s l k = false := by unfold hasC; rw [h]; simp only [hn]; rfl
        rw [e]
        simp only [Bool.false_eq_true, if_false]
        rw [ih]
        unfold pk1
        rw [(pkS_none g l s k c.ch).2 hn]
      | some st =>
        have e : hasC s l k = true := by unfold hasC; rw [h]; simp only [hn]; rfl
        rw [e]
        simp only [if_true]
        rw [pkL_app g l s _ k c h, ih]
/-- no case is ready for g, but for its own waiters -/
structure Iv (g : Int) (l : List Ca) (m : Nat) (s : List (Option St)) : Prop where
  no : ∀ c ∈ l, ∀ st, nmB s c.ch = some st → st.closed = false ∧ room st c.sd = false ∧ ∀ x ∈ own st (!c.sd), x.g = g
  le : ∀ (i : Nat) (st : St), s[i]? = some (some st) → ∀ b, (own st b).length ≤ m
theorem dr_nil {g : Int} {L : List Wt} (h : ∀ x ∈ L, x.g = g) : dr g L = [] := by
  unfold dr
  rw [List.filter_eq_nil_iff]
  intro x hx
  simp [h x hx]
theorem Iv.ok {g : Int} {l : List Ca} {m : Nat} {s : List (Option St)} (h : Iv g l m s) (hg : 0 ≤ g) (hm : m < 1024) {c : Ca} (hc : c ∈ l) {st : St} (hn : nmB s c.ch = some st) (p : Nat) : waitE st c.sd ⟨g, p, c.v⟩ = 0 ∧ waitS st c.sd ⟨g, p, c.v⟩ = if c.sd then { st with snd := st.snd ++ [⟨g, p, c.v⟩] } else { st with rcv := st.rcv ++ [⟨g, p, c.v⟩] } := by
  obtain ⟨h1, h2, h3⟩ := h.no c hc st hn
  have hl := h.le _ _ (nmB_at hn)
  have hr : rdyBut st c.sd g = false := by
    unfold rdyBut
    rw [h1, h2, dr_nil h3]
    rfl
  have ho : okb ⟨g, (p : Int), c.v⟩ = true := (okb_iff _).2 ⟨hg, by simp only; omega⟩
  unfold waitE waitS
  simp only [hr, Bool.false_eq_true, if_false]
  refine ⟨ae_ok ho (by have := hl c.sd; omega), ?_⟩
  have ht := hl true
  have hf := hl false
  unfold own at ht hf
  simp only [if_true, Bool.false_eq_true, if_false] at ht hf
  have e1 : al st.snd ⟨g, (p : Int), c.v⟩ = st.snd ++ [⟨g, (p : Int), c.v⟩] := by
    unfold al
    rw [if_pos ho, if_neg (by omega)]
  have e2 : al st.rcv ⟨g, (p : Int), c.v⟩ = st.rcv ++ [⟨g, (p : Int), c.v⟩] := by
    unfold al
    rw [if_pos ho, if_neg (by omega)]
  rw [e1, e2]
theorem Iv.step {g : Int} {l : List Ca} {m : Nat} {s : List (Option St)} (h : Iv g l m s) (hg : 0 ≤ g) (hm : m < 1024) {c : Ca} (hc : c ∈ l) (p : Nat) : Iv g l (m + 1) (pk1 g p c s) := by
  unfold pk1
  cases hn : nmB s c.ch with
  | none => exact ⟨h.no, fun i st hi b => Nat.le_succ_of_le (h.le i st hi b)⟩
  | some st =>
    simp only
    rw [(h.ok hg hm hc hn p).2]
    constructor
    · intro d hd st' hs
      rw [nmB_set _ hn] at hs
      by_cases e : d.ch = c.ch
      · rw [if_pos e] at hs
        rw [← e] at hn
        obtain ⟨h1, h2, h3⟩ := h.no d hd st hn
        cases hs
        cases hcs : c.sd
        · simp only [Bool.false_eq_true, if_false]
          refine ⟨h1, h2, ?_⟩
          cases hds : d.sd
          · rw [hds] at h3; exact h3
          · rw [hds] at h3
            intro x hx
            rcases List.mem_append.1 hx with q | q
            · exact h3 x q
            · rw [List.mem_singleton] at q; rw [q]
        · simp only [if_true]
          refine ⟨h1, h2, ?_⟩
          cases hds : d.sd
          · rw [hds] at h3
            intro x hx
            rcases List.mem_append.1 hx with q | q
            · exact h3 x q
            · rw [List.mem_singleton] at q; rw [q]
          · rw [hds] at h3; exact h3
      · rw [if_neg e] at hs
        exact h.no d hd st' hs
    · intro i st' hi b
      have hl := h.le _ _ (nmB_at hn)
      by_cases e : i = c.ch.toNat
      · subst e
        have hlt := (List.getElem?_eq_some_iff.1 (nmB_at hn)).1
        rw [List.getElem?_set_self hlt] at hi
        cases hi
        have ht := hl true
        have hf := hl false
        unfold own at ht hf ⊢
        simp only [if_true, Bool.false_eq_true, if_false] at ht hf
        cases c.sd <;> cases b <;> simp <;> omega
      · rw [List.getElem?_set_ne (fun q => e q.symm)] at hi
        exact Nat.le_succ_of_le (h.le i st' hi b)
theorem Iv.all {g : Int} {l : List Ca} {m : Nat} {s : List (Option St)} (h : Iv g l m s) (hg : 0 ≤ g) (k : Nat) (hm : m + k < 1024) : Iv g l (m + k) (pkS g l s k) := by
  induction k with
  | zero => exact h
  | succ k ih =>
    have i1 := ih (by omega)
    unfold pkS
    cases hk : l[k]? with
    | none => exact ⟨i1.no, fun i st hi b => by have := i1.le i st hi b; omega⟩
    | some c => exact i1.step hg (by omega) (List.mem_of_getElem? hk) k
theorem ps_nil {P : Nat → Bool} {n : Nat} (h : ps P n = []) (k : Nat) (hk : k < n) : P k = false := by
  unfold ps at h
  rw [List.map_eq_nil_iff, List.filter_eq_nil_iff] at h
  have := h k (List.mem_range.2 hk)
  simpa using this
theorem Iv.start {g : Int} {l : List Ca} {m : Nat} {s : List (Option St)} (h : rdyL l s = []) (hl : ∀ (i : Nat) (st : St), s[i]? = some (some st) → ∀ b, (own st b).length ≤ m) : Iv g l m s := by
  refine ⟨fun c hc st hn => ?_, hl⟩
  obtain ⟨k, hk⟩ := List.getElem?_of_mem hc
  have hkl := (List.getElem?_eq_some_iff.1 hk).1
  have q := ps_nil h k hkl
  simp only [hk] at q
  unfold crdy at q
  rw [hn] at q
  simp only at q
  unfold rdy at q
  simp only [Bool.or_eq_false_iff, decide_eq_false_iff_not, Nat.not_lt, Nat.le_zero] at q
  refine ⟨q.1.1, q.1.2, fun x hx => ?_⟩
  rw [List.eq_nil_of_length_eq_zero q.2] at hx
  cases hx
/-- what Park answers, and what it leaves -/
def pkBad (g : Int) (l : List Ca) : Bool := decide (g < 0) || decide (4 < l.length)
def pkE (g : Int) (l : List Ca) (s : List (Option St)) : Int := if pkBad g l = true then 1 else if 0 < (rdyL l s).length then 7 else 0
def pkN (g : Int) (l : List Ca) (s : List (Option St)) : Int := if pkBad g l = true then 0 else if 0 < (rdyL l s).length then 0 else ((ps (hasC s l) l.length).length : Int)
def pkA (g : Int) (l : List Ca) (s : List (Option St)) : List (Option St) := if pkBad g l = true then s else if 0 < (rdyL l s).length then s else pkS g l s l.length
end Fk
end Go.Proofs.Ytipimagajnocjaa
/- Package fork: Park, over this seat's program. -/
namespace Go.Proofs.Ytipimagajnocjaa
open Go.ChangeShapes Go.WideShapes Go.ChangeAt Go.RowKit
namespace Fk
open Ba Pe _root_.Go.Proofs.Ytipimagajnocjaa.Pi Rp

theorem park1_any (c : Ca) (q : Option Nat) (w : World) :
    Calls Try.prog 38 #[cv c, pt q] w fun r w' => r = .returned (.bool q.isSome) ∧ Below w.heap.size w w' := by
  unfold cv
  cases q with
  | none =>
    simp only [pt, Option.map_none]
    go_enter Try.func38, Try.ntmps38
    go_wp2_with fail
    go_ret
    exact ⟨ret_bool (by simp), below_alloc _ _⟩
  | some D =>
    simp only [pt, Option.map_some]
    go_enter Try.func38, Try.ntmps38
    go_wp2_with fail
    go_ret
    exact ⟨ret_bool (by simp), below_alloc _ _⟩
theorem CaAt.kf {w w' : World} {F : Nat → Prop} {oa : Option Addr} {l : List Ca} (h : CaAt w oa l) (k : KF F w w') (hn : ∀ a, oa = some a → ¬ F a.block) : CaAt w' oa l := by
  intro j x hx
  obtain ⟨b, off, e, h0, h1, h2⟩ := h j x hx
  exact ⟨b, off, e, k.cell h0 (hn _ e), k.cell h1 (hn _ e), k.cell h2 (hn _ e)⟩
set_option maxRecDepth 100000 in
theorem park_bad (g : Int) (oc : Option Addr) (l : List Ca) (cc : Nat) (oa : Option Addr) (n : Nat) (cp : Nat) (w : World) (h : pkBad g l = true) :
    Calls Try.prog 16 #[.int .i64 g, .slice oc l.length cc, .slice oa n cp] w fun r w' => r = .returned (.tuple #[.int .i64 0, .int .i64 1]) ∧ Below w.heap.size w w' := by
  unfold pkBad at h
  generalize l.length = m at h ⊢
  by_cases hg : g < 0
  · clear h
    go_enter Try.func16, Try.ntmps16
    go_wp2_with fail
    go_ret2
    exact ⟨rfl, Below.refl _ _⟩
  · have hm : (4 : Int) < (m : Int) := by simp [hg] at h; omega
    clear h
    go_enter Try.func16, Try.ntmps16
    go_wp2_with fail
    go_ret2
    exact ⟨rfl, Below.refl _ _⟩
set_option maxRecDepth 100000 in
theorem park_ready (g : Int) (oc : Option Addr) (l : List Ca) (cc : Nat) (oa : Option Addr) (bs : List (Option Nat)) (cp : Nat) (Fs : Nat → Nat → Prop) (sts : List (Option St)) (w : World) (hC : CaAt w oc l) (h : Qs Pp w oa bs Fs sts) (hb : pkBad g l = false) (hr : 0 < (rdyL l sts).length) :
    Calls Try.prog 16 #[.int .i64 g, .slice oc l.length cc, .slice oa bs.length cp] w fun r w' => r = .returned (.tuple #[.int .i64 0, .int .i64 7]) ∧ Below w.heap.size w w' := by
  unfold pkBad at hb
  simp only [Bool.or_eq_false_iff, decide_eq_false_iff_not] at hb
  have hg : ¬ g < 0 := hb.1
  have hm' : l.length ≤ 4 := by omega
  have RD := hide (fready_any oc l cc oa bs cp Fs sts w hC h (by omega))
  have hm : ¬ (4 : Int) < (l.length : Int) := by omega
  have hr' : (0 : Int) < ((rdyL l sts).length : Int) := by omega
  clear hb hC h hr
  generalize hR : (rdyL l sts).length = R at RD hr'
  generalize l.length = m at RD hm hm' ⊢
  clear hR
  go_enter Try.func16, Try.ntmps16
  go_wp2_with fail
  refine RD.out.mono ?_
  rintro r w1 ⟨ob, d, rfl, -, b1⟩
  have B1 := hide b1
  clear b1
  go_wp2_with fail
  go_ret2
  exact ⟨rfl, B1.out⟩
set_option maxRecDepth 100000 in
set_option maxHeartbeats 6400000 in
theorem park_ok (g : Int) (oc : Option Addr) (l : List Ca) (cc : Nat) (oa : Option Addr) (bs : List (Option Nat)) (cp : Nat) (Fs : Nat → Nat → Prop) (sts : List (Option St)) (w : World) (hC : CaAt w oc l) (hCn : 0 < l.length → ∀ a, oc = some a → ¬ All Fs a.block) (h : Qs Pp w oa bs Fs sts) (hb : pkBad g l = false) (hr : rdyL l sts = []) (hle : ∀ (i : Nat) (st : St), sts[i]? = some (some st) → ∀ b, (own st b).length ≤ 1000) :
    Calls Try.prog 16 #[.int .i64 g, .slice oc l.length cc, .slice oa bs.length cp] w fun r w' => r = .returned (.tuple #[.int .i64 ((ps (hasC sts l) l.length).length : Int), .int .i64 0]) ∧ Rz Pp w w' oa bs Fs (pkS g l sts l.length) := by
  unfold pkBad at hb
  simp only [Bool.or_eq_false_iff, decide_eq_false_iff_not] at hb
  have hg : ¬ g < 0 := hb.1
  have hg0 : 0 ≤ g := by omega
  have hm' : l.length ≤ 4 := by omega
  have hm : ¬ (4 : Int) < (l.length : Int) := by omega
  have IV0 := hide (Iv.start (g := g) hr hle)
  have RD := hide (fready_any oc l cc oa bs cp Fs sts w hC h (by omega))
  rw [hr] at RD
  simp only [List.length_nil] at RD
  have HC := hide hC
  have HQ := hide h
  have HN := hide hCn
  have HLE := hide hle
  have GA : Hid (∀ u, Below w.heap.size w u → Calls Try.prog 32 #[.slice oc l.length cc, .slice oa bs.length cp, .func (.func 38) #[] #[]] u fun r w' => ∃ ob d, r = .returned (.slice ob (ps (hasC sts l) l.length).length d) ∧ w'.ownsRow u.heap.size 3 1 (.slice ob (ps (hasC sts l) l.length).length d) (ps (hasC sts l) l.length).length (ic (ps (hasC sts l) l.length)) ∧ Below u.heap.size u w') := by
    intro u hu
    refine gather_p (hasC sts l) oc l cc oa bs cp u (hC.below hu) (h.row.below hu) (by omega) ?_
    intro i c v hi hv
    have e : hasC sts l i = (nmB bs c.ch).isSome := by
      unfold hasC
      rw [hi]
      simp only
      rcases h.nm c.ch with ⟨q1, q2⟩ | ⟨B, st, q1, q2, _⟩
      · rw [q1, q2]; rfl
      · rw [q1, q2]; rfl
    rw [e]
    exact park1_any c _ v
  have FIN := hide (pk_ps g l sts l.length)
  obtain ⟨L, hL⟩ : ∃ L, L = ps (hasC sts l) l.length := ⟨_, rfl⟩
  have MB : Hid (∀ k, k < L.length → ∃ (p : Nat) (c : Ca) (st : St), nth L k = (p : Int) ∧ p < l.length ∧ l[p]? = some c ∧ nmB sts c.ch = some st) := by
    intro k hk
    rw [hL] at hk ⊢
    obtain ⟨p, e, hp, hh⟩ := ps_mem hk
    unfold hasC at hh
    rw [List.getElem?_eq_getElem hp] at hh
    simp only at hh
    obtain ⟨st, hst⟩ := Option.isSome_iff_exists.1 hh
    exact ⟨p, _, st, e, hp, List.getElem?_eq_getElem hp, hst⟩
  have hLl : L.length ≤ 4 := by rw [hL]; exact Nat.le_trans (ps_len _ _) hm'
  rw [← hL] at GA FIN ⊢
  rw [← FIN.out]
  clear hL FIN hb hC h hr hle hCn
  go_enter Try.func16, Try.ntmps16
  go_wp2_with fail
  refine RD.out.mono ?_
  rintro r w1 ⟨ob, d, rfl, -, b1⟩
  have B1 := hide b1
  clear b1 RD
  go_wp2_with fail
  refine (GA.out _ B1.out).mono ?_
  rintro r w6 ⟨o6, d6, rfl, ow6, b6⟩
  obtain ⟨o6', c6', e6, at6, nb6⟩ := own_at2 ow6
  simp only [Value.slice.injEq] at e6
  obtain ⟨rfl, -, rfl⟩ := e6
  have A6 := hide at6
  have B6 := hide (btr B1.out b6)
  have N6 : Hid (∀ a, o6 = some a → ¬ All Fs a.block) := by
    intro a e hf
    have h1 := nb6 a e
    have h2 := B1.out.size
    obtain ⟨i, hi⟩ := hf
    have := HQ.out.bd i _ hi
    omega
  have Q6 := hide (HQ.out.below frP B6.out)
  have C6 := hide (HC.out.below B6.out)
  have RS : Hid (∀ (p : Nat) (c : Ca) (st : St) (u : World), l[p]? = some c → nmB sts c.ch = some st → Below w6.heap.size w6 u → Calls Try.prog 39 #[.int .i64 g, cv c, .slice oc l.length cc, .slice oa bs.length cp] u fun r w' => r = .returned (.int .i64 0) ∧ Below u.heap.size u w') := by
    intro p c st u hp hst hu
    have qu := Q6.out.below frP hu
    rcases qu.nm c.ch with ⟨q1, q2⟩ | ⟨B, st', q1, q2, q3, q4, q5, q6, q7⟩
    · rw [q2] at hst; cases hst
    · rw [q2] at hst
      cases hst
      refine rehearse_ok g c oc l cc oa bs cp Fs sts B st u (C6.out.below hu) qu hm' hg0 q1 ?_ (HLE.out _ _ q6 _)
      intro v hv
      exact ⟨_, frP.sm q7 (Sm.below hv (qu.bd _))⟩
  clear at6 nb6 ow6 b6 GA HC HQ
  obtain ⟨n2, hn2⟩ : ∃ n2, L.length = n2 := ⟨_, rfl⟩
  rw [hn2] at MB hLl
  have HN2 := hide hn2
  rw [hn2]
  clear hn2
  go_wp2_with fail
  go_loopw [33] (fun i wz => ∃ (j : Nat), j ≤ n2 ∧ i = .int .i64 j ∧ Below w6.heap.size w6 wz) (fun i _ => n2 - (intOf i).toNat)
  case atStart => exact ⟨0, Nat.zero_le _, rfl, Below.refl _ _⟩
  case round =>
    obtain ⟨j, hj, rfl, b7⟩ := hrel
    have B7 := hide b7
    clear b7
    by_cases hjl : j < n2
    · have hjl' : (j : Int) < (n2 : Int) := by omega
      have hjn : j < L.length := by have := HN2.out; omega
      obtain ⟨p, c, st, ep, hp, hpc, hst⟩ := MB.out j hjl
      obtain ⟨b9, off9, e9, q9⟩ := A6.out.below B7.out j hjn
      rw [ep] at q9
      subst e9
      have hp' : (p : Int) < (l.length : Int) := by omega
      obtain ⟨bc, offc, rfl, c0, c1, c2⟩ := C6.out.below B7.out p c hpc
      have RSU := hide (RS.out p c st wr hpc hst B7.out)
      unfold cv at RSU
      clear hpc hst
      go_wp2_with fail
      refine RSU.out.mono ?_
      rintro r w9 ⟨rfl, b9'⟩
      have B9 := hide (btr B7.out b9')
      clear b9' c0 c1 c2 q9 RSU
      go_wp2_with fail
      go_roundw
      case rel => exact ⟨j + 1, by omega, by go_num, B9.out⟩
      case measure => simp [intOf]; omega
    · have hjl' : ¬ ((j : Int) < (n2 : Int)) := by omega
      clear RS
      have R0 := hide (Rz.same frP Q6.out B7.out)
      go_wp2_with fail
      go_loopw [51] (fun i wz => ∃ (j : Nat) (s : List (Option St)), j ≤ n2 ∧ i = .int .i64 j ∧ s = pkL g l sts (L.take j) ∧ Iv g l (1000 + j) s ∧ (∀ d, nmB s d = none ↔ nmB sts d = none) ∧ Rz Pp w6 wz oa bs Fs s) (fun i _ => n2 - (intOf i).toNat)
      case atStart => exact ⟨0, sts, Nat.zero_le _, rfl, rfl, IV0.out, fun _ => Iff.rfl, R0.out⟩
      case round =>
        clear R0 B7
        obtain ⟨j, s, hj, rfl, es, iv, hno, rz⟩ := hrel
        have ES := hide es
        have IV := hide iv
        have NO := hide hno
        have RZ := hide rz
        clear es iv hno rz
        by_cases hjl : j < n2
        · have hjl' : (j : Int) < (n2 : Int) := by omega
          have hjn : j < L.length := by have := HN2.out; omega
          obtain ⟨p, c, st0, ep, hp, hpc, hst⟩ := MB.out j hjl
          obtain ⟨Fs', nw, qs, kf⟩ := RZ.out
          obtain ⟨b9, off9, e9, q9⟩ := at_kf A6.out kf N6.out j hjn
          rw [ep] at q9
          subst e9
          have hp' : (p : Int) < (l.length : Int) := by omega
          obtain ⟨bc, offc, rfl, c0, c1, c2⟩ := C6.out.kf kf (HN.out (by omega)) p c hpc
          have TK : Hid (pk1 g p c s = pkL g l sts (L.take (j + 1))) := by
            show _ = _
            have e2 : L[j] = (p : Int) := by rw [← ep, nth_lt _ _ hjn]
            rw [List.take_succ_eq_append_getElem hjn, e2, pkL_app g l sts _ p c hpc, ES.out]
          have IVN := hide (IV.out.step hg0 (by omega) (List.mem_of_getElem? hpc) p)
          have NON : Hid (∀ d, nmB (pk1 g p c s) d = none ↔ nmB sts d = none) := fun d => (pk1_none g p c s d).trans (NO.out d)
          rcases qs.nm c.ch with ⟨q1, q2⟩ | ⟨B, st, q1, q2, q3, q4, q5, q6, q7⟩
          · have := (NO.out c.ch).1 q2
            rw [hst] at this
            cases this
          have OK := (IV.out.ok hg0 (by omega) (List.mem_of_getElem? hpc) q2 p).1
          have BX := below_alloc wr (.cells #[.bool c.sd, .int .i64 c.ch, .int .i64 c.v] 32)
          have XN := hide (heap_new wr (.cells #[.bool c.sd, .int .i64 c.ch, .int .i64 c.v] 32))
          have szx : (wr.alloc (.cells #[.bool c.sd, .int .i64 c.ch, .int .i64 c.v] 32)).heap.size = wr.heap.size + 1 := World.size_alloc _ _
          have NM : Hid (∀ u, Below (wr.alloc (.cells #[.bool c.sd, .int .i64 c.ch, .int .i64 c.v] 32)).heap.size (wr.alloc (.cells #[.bool c.sd, .int .i64 c.ch, .int .i64 c.v] 32)) u → Calls Try.prog 40 #[.int .i64 c.ch, .slice oa bs.length cp] u fun r w' => r = .returned (.pointer (some ⟨B, 0, none⟩)) ∧ w' = u) := by
            intro u hu
            have := named_any oa bs c.ch cp u (qs.row.below (btr BX hu))
            rw [q1] at this
            exact this
          have WT : Hid (∀ u, Below (wr.alloc (.cells #[.bool c.sd, .int .i64 c.ch, .int .i64 c.v] 32)).heap.size (wr.alloc (.cells #[.bool c.sd, .int .i64 c.ch, .int .i64 c.v] 32)) u → Calls Try.prog 24 #[.pointer (some ⟨B, 0, none⟩), .bool c.sd, wv ⟨g, p, c.v⟩] u fun r w' => r = .returned (.int .i64 0) ∧ Rz Pp w6 w' oa bs Fs (pk1 g p c s) ∧ (w'.cell? ⟨wr.heap.size, 0, none⟩ = some (.bool c.sd) ∧ w'.cell? ⟨wr.heap.size, 1, none⟩ = some (.int .i64 c.ch) ∧ w'.cell? ⟨wr.heap.size, 2, none⟩ = some (.int .i64 c.v))) := by
            intro u hu
            have bu := btr BX hu
            have pu : Pp u B (Fs' c.ch.toNat) st := frP.sm q7 (Sm.below bu (qs.bd _))
            refine (wait_any B _ st c.sd ⟨g, p, c.v⟩ u pu).mono ?_
            rintro r w9 ⟨rfl, k9, F9, n9, p9⟩
            have hX := k9.heap (heap_below XN.out hu) (fun hf => by have := qs.bd _ _ hf; omega)
            refine ⟨by rw [OK], ?_, cell_of hX 0, cell_of hX 1, cell_of hX 2⟩
            have r1 := Rz.trans nw kf (Rz.step frP qs bu q5 k9 n9 p9)
            unfold pk1
            rw [q2]
            exact r1
          unfold wv at WT
          simp only at WT
          clear hpc hst kf nw qs q1 q2 q3 q4 q5 q6 q7 OK BX szx IV NO RZ ES
          go_wp2_with fail
          have e0 : (wr.alloc (.cells #[.bool c.sd, .int .i64 c.ch, .int .i64 c.v] 32)).cell? ⟨wr.heap.size, 0, none⟩ = some (.bool c.sd) := cell_of XN.out 0
          have e1 : (wr.alloc (.cells #[.bool c.sd, .int .i64 c.ch, .int .i64 c.v] 32)).cell? ⟨wr.heap.size, 1, none⟩ = some (.int .i64 c.ch) := cell_of XN.out 1
          have e2 : (wr.alloc (.cells #[.bool c.sd, .int .i64 c.ch, .int .i64 c.v] 32)).cell? ⟨wr.heap.size, 2, none⟩ = some (.int .i64 c.v) := cell_of XN.out 2
          generalize wr.alloc (.cells #[.bool c.sd, .int .i64 c.ch, .int .i64 c.v] 32) = W1 at XN NM WT e0 e1 e2 ⊢
          generalize wr.heap.size = A at XN WT e0 e1 e2 ⊢
          have WA : Hid (∀ u, Calls Try.prog 41 #[.int .i64 g, .int .i64 (p : Int), .agg #[.bool c.sd, .int .i64 c.ch, .int .i64 c.v]] u fun r w' => r = .returned (.agg #[.int .i64 g, .int .i64 (p : Int), .int .i64 c.v]) ∧ Below u.heap.size u w') := fun u => waiter_any g p c u
          clear c0 c1 c2 q9
          go_region_held3 (fun w' => w'.cell? ⟨A, 0, none⟩ = some (.bool c.sd) ∧ w'.cell? ⟨A, 1, none⟩ = some (.int .i64 c.ch) ∧ w'.cell? ⟨A, 2, none⟩ = some (.int .i64 c.v))
            (first
              | go_keep
              | assumption
              | (go_split_ands
                 refine ⟨?_, ?_, ?_⟩ <;> (refine cellB ?_ k2; assumption)))
            (first
              | (go_at_call 40; refine (NM.out _ (by first | exact bdrew1 _ | exact btr (bdrew1 _) k2)).mono ?_; rintro r z1 ⟨rfl, rfl⟩)
              | (go_at_call 41; refine (WA.out _).mono ?_; rintro r z2 ⟨rfl, k2⟩)
              | (go_at_call 24; refine (WT.out _ (btr (bdrew1 _) k2)).mono ?_; rintro r z3 ⟨rfl, r3, h3⟩))
          all_goals (
            have R3 := hide r3
            clear h3 r3 k2 NM WT WA e0 e1 e2 XN
            go_wp2_with fail
            go_roundw
            case rel => exact ⟨j + 1, _, by omega, by go_num, TK.out, IVN.out, NON.out, R3.out⟩
            case measure => simp [intOf]; omega)
        · have hjl' : ¬ ((j : Int) < (n2 : Int)) := by omega
          have EE : Hid (s = pkL g l sts L) := by
            show _ = _
            rw [ES.out, List.take_of_length_le (by have := HN2.out; omega)]
          have RF : Hid (Rz Pp w wr oa bs Fs (pkL g l sts L)) := by
            show Rz _ _ _ _ _ _ _
            rw [← EE.out]
            exact Rz.trans (NwA.refl _ _) (KF.of B6.out) RZ.out
          go_wp2_with fail
          go_ret2
          exact ⟨by rw [HN2.out]; rfl, RF.out⟩
/-- Park, whatever its arguments are -/
theorem park_any (g : Int) (oc : Option Addr) (l : List Ca) (cc : Nat) (oa : Option Addr) (bs : List (Option Nat)) (cp : Nat) (Fs : Nat → Nat → Prop) (sts : List (Option St)) (w : World) (hC : CaAt w oc l) (hCn : 0 < l.length → ∀ a, oc = some a → ¬ All Fs a.block) (h : Qs Pp w oa bs Fs sts) (hle : ∀ (i : Nat) (st : St), sts[i]? = some (some st) → ∀ b, (own st b).length ≤ 1000) :
    Calls Try.prog 16 #[.int .i64 g, .slice oc l.length cc, .slice oa bs.length cp] w fun r w' => r = .returned (.tuple #[.int .i64 (pkN g l sts), .int .i64 (pkE g l sts)]) ∧ Rz Pp w w' oa bs Fs (pkA g l sts) := by
  unfold pkN pkE pkA
  cases hb : pkBad g l
  · simp only [Bool.false_eq_true, if_false]
    by_cases hr : 0 < (rdyL l sts).length
    · simp only [if_pos hr]
      refine (park_ready g oc l cc oa bs cp Fs sts w hC h hb hr).mono ?_
      rintro r w1 ⟨e, b1⟩
      exact ⟨e, Rz.same frP h b1⟩
    · simp only [if_neg hr]
      exact park_ok g oc l cc oa bs cp Fs sts w hC hCn h hb (List.eq_nil_of_length_eq_zero (by omega)) hle
  · simp only [if_true]
    refine (park_bad g oc l cc oa bs.length cp w hb).mono ?_
    rintro r w1 ⟨e, b1⟩
    exact ⟨e, Rz.same frP h b1⟩
end Fk
end Go.Proofs.Ytipimagajnocjaa
/- The reference's Park, over this seat's program. -/
namespace Go.Proofs.Ytipimagajnocjaa
open Go.ChangeShapes Go.WideShapes Go.ChangeAt Go.RowKit
namespace Fk
open Ba Pe _root_.Go.Proofs.Ytipimagajnocjaa.Pi Rp

set_option maxRecDepth 100000 in
theorem rpark_bad (g : Int) (oc : Option Addr) (l : List Ca) (cc : Nat) (oa : Option Addr) (n : Nat) (cp : Nat) (w : World) (h : pkBad g l = true) :
    Calls Try.prog 26 #[.int .i64 g, .slice oc l.length cc, .slice oa n cp] w fun r w' => r = .returned (.tuple #[.int .i64 0, .int .i64 1]) ∧ Below w.heap.size w w' := by
  unfold pkBad at h
  generalize l.length = m at h ⊢
  by_cases hg : g < 0
  · clear h
    go_enter Try.func26, Try.ntmps26
    go_wp2_with fail
    go_ret2
    exact ⟨rfl, Below.refl _ _⟩
  · have hm : (4 : Int) < (m : Int) := by simp [hg] at h; omega
    clear h
    go_enter Try.func26, Try.ntmps26
    go_wp2_with fail
    go_ret2
    exact ⟨rfl, Below.refl _ _⟩
set_option maxRecDepth 100000 in
theorem rpark_ready (g : Int) (oc : Option Addr) (l : List Ca) (cc : Nat) (oa : Option Addr) (bs : List (Option Nat)) (cp : Nat) (Fs : Nat → Nat → Prop) (sts : List (Option St)) (w : World) (hC : CaAt w oc l) (h : Qs Rr w oa bs Fs sts) (hb : pkBad g l = false) (hr : 0 < (rdyL l sts).length) :
    Calls Try.prog 26 #[.int .i64 g, .slice oc l.length cc, .slice oa bs.length cp] w fun r w' => r = .returned (.tuple #[.int .i64 0, .int .i64 7]) ∧ Below w.heap.size w w' := by
  unfold pkBad at hb
  simp only [Bool.or_eq_false_iff, decide_eq_false_iff_not] at hb
  have hg : ¬ g < 0 := hb.1
  have hm' : l.length ≤ 4 := by omega
  have RD := hide (rreadyL_any oc l cc oa bs cp Fs sts w hC h (by omega))
  have hm : ¬ (4 : Int) < (l.length : Int) := by omega
  have hr' : (0 : Int) < ((rdyL l sts).length : Int) := by omega
  clear hb hC h hr
  generalize hR : (rdyL l sts).length = R at RD hr'
  generalize l.length = m at RD hm hm' ⊢
  clear hR
  go_enter Try.func26, Try.ntmps26
  go_wp2_with fail
  refine RD.out.mono ?_
  rintro r w1 ⟨ob, d, rfl, -, b1⟩
  have B1 := hide b1
  clear b1
  go_wp2_with fail
  go_ret2
  exact ⟨rfl, B1.out⟩
set_option maxRecDepth 100000 in
set_option maxHeartbeats 6400000 in
theorem rpark_ok (g : Int) (oc : Option Addr) (l : List Ca) (cc : Nat) (oa : Option Addr) (bs : List (Option Nat)) (cp : Nat) (Fs : Nat → Nat → Prop) (sts : List (Option St)) (w : World) (hC : CaAt w oc l) (hCn : 0 < l.length → ∀ a, oc = some a → ¬ All Fs a.block) (h : Qs Rr w oa bs Fs sts) (hb : pkBad g l = false) (hr : rdyL l sts = []) (hle : ∀ (i : Nat) (st : St), sts[i]? = some (some st) → ∀ b, (own st b).length ≤ 1000) :
    Calls Try.prog 26 #[.int .i64 g, .slice oc l.length cc, .slice oa bs.length cp] w fun r w' => r = .returned (.tuple #[.int .i64 ((ps (hasC sts l) l.length).length : Int), .int .i64 0]) ∧ Rz Rr w w' oa bs Fs (pkS g l sts l.length) := by
  unfold pkBad at hb
  simp only [Bool.or_eq_false_iff, decide_eq_false_iff_not] at hb
  have hg : ¬ g < 0 := hb.1
  have hg0 : 0 ≤ g := by omega
  have hm' : l.length ≤ 4 := by omega
  have hm : ¬ (4 : Int) < (l.length : Int) := by omega
  have IV0 := hide (Iv.start (g := g) hr hle)
  have RD := hide (rreadyL_any oc l cc oa bs cp Fs sts w hC h (by omega))
  rw [hr] at RD
  simp only [List.length_nil] at RD
  have HC := hide hC
  have HQ := hide h
  have HN := hide hCn
  obtain ⟨P, hP⟩ : ∃ P, P = hasC sts l := ⟨_, rfl⟩
  rw [← hP]
  have HP := hide hP
  clear hb hC h hr hle hCn hP
  go_enter Try.func26, Try.ntmps26
  go_wp2_with fail
  refine RD.out.mono ?_
  rintro r w1 ⟨ob, d, rfl, -, b1⟩
  have R0 := hide (Rz.same frR HQ.out b1)
  clear b1 RD
  go_wp2_with fail
  go_loopw [8, 26] (fun rn i wz => ∃ (k : Nat), k ≤ l.length ∧ i = .int .i64 k ∧ rn = .int .i64 ((ps P k).length : Int) ∧ Rz Rr w wz oa bs Fs (pkS g l sts k)) (fun _ i _ => l.length - (intOf i).toNat)
  case atStart => exact ⟨0, Nat.zero_le _, rfl, rfl, R0.out⟩
  case round =>
    clear R0
    obtain ⟨k, hk, rfl, rfl, rz⟩ := hrel
    have RZ := hide rz
    clear rz
    have SU := hide (ps_succ P k)
    have hpl := ps_len P k
    by_cases hkl : k < l.length
    · have hkl' : (k : Int) < (l.length : Int) := by omega
      obtain ⟨c, hc⟩ : ∃ c, l[k]? = some c := ⟨_, List.getElem?_eq_getElem hkl⟩
      obtain ⟨Fs', nw, qs, kf⟩ := RZ.out
      obtain ⟨bc, offc, rfl, c0, c1, c2⟩ := HC.out.kf kf (HN.out (by omega)) k c hc
      have IV := IV0.out.all hg0 k (by omega)
      have SK : Hid (pkS g l sts (k + 1) = pk1 g k c (pkS g l sts k)) := by
        show _ = _
        rw [pkS, hc]
      have PK : Hid (P k = (nmB sts c.ch).isSome) := by
        show _ = _
        rw [HP.out]
        unfold hasC
        rw [hc]
      have NN := pkS_none g l sts k c.ch
      have BX := below_alloc wr (.cells #[.bool c.sd, .int .i64 c.ch, .int .i64 c.v] 32)
      have XN := hide (heap_new wr (.cells #[.bool c.sd, .int .i64 c.ch, .int .i64 c.v] 32))
      have NM := hide (rnamed_any oa bs c.ch cp _ (qs.row.below BX))
      generalize pkS g l sts k = s at RZ qs IV SK NN
      rcases qs.nm c.ch with ⟨q1, q2⟩ | ⟨B, st, q1, q2, q3, q4, q5, q6, q7⟩
      · rw [q1] at NM
        simp only [pt, Option.map_none] at NM
        have RN : Hid (Rz Rr w (wr.alloc (.cells #[.bool c.sd, .int .i64 c.ch, .int .i64 c.v] 32)) oa bs Fs (pkS g l sts (k + 1))) := by
          show Rz _ _ _ _ _ _ _
          rw [SK.out]
          unfold pk1
          rw [q2]
          exact RZ.out.below frR BX
        have LN : Hid ((ps P (k + 1)).length = (ps P k).length) := by
          show _ = _
          rw [SU.out, PK.out, NN.1 q2]
          rfl
        clear hc nw qs kf IV NN BX q1 q2 RZ
        go_wp2_with fail
        generalize wr.alloc (.cells #[.bool c.sd, .int .i64 c.ch, .int .i64 c.v] 32) = W1 at XN NM RN ⊢
        generalize wr.heap.size = A at XN ⊢
        refine NM.out.mono ?_
        rintro r z1 ⟨rfl, rfl⟩
        go_wp2_with fail
        go_roundw
        case rel => exact ⟨k + 1, by omega, by go_num, by rw [LN.out], RN.out⟩
        case measure => simp [intOf]; omega
      · rw [q1] at NM
        simp only [pt, Option.map_some] at NM
        have OK := (IV.ok hg0 (by omega) (List.mem_of_getElem? hc) q2 k).1
        have WT : Hid (Calls Try.prog 25 #[.pointer (some ⟨B, 0, none⟩), .bool c.sd, wv ⟨g, k, c.v⟩] (wr.alloc (.cells #[.bool c.sd, .int .i64 c.ch, .int .i64 c.v] 32)) fun r w' => r = .returned (.int .i64 0) ∧ Rz Rr w w' oa bs Fs (pkS g l sts (k + 1))) := by
          have pu : Rr (wr.alloc (.cells #[.bool c.sd, .int .i64 c.ch, .int .i64 c.v] 32)) B (Fs' c.ch.toNat) st := frR.sm q7 (Sm.below BX (qs.bd _))
          refine (rwait_any B _ st c.sd ⟨g, k, c.v⟩ _ pu).mono ?_
          rintro r w9 ⟨rfl, k9, F9, n9, p9⟩
          refine ⟨by rw [OK], ?_⟩
          have r1 := Rz.trans nw kf (Rz.step frR qs BX q5 k9 n9 p9)
          rw [SK.out]
          unfold pk1
          rw [q2]
          exact r1
        have LN : Hid ((ps P (k + 1)).length = (ps P k).length + 1) := by
          show _ = _
          have hS : (nmB sts c.ch).isSome = true := by
            cases hq : nmB sts c.ch with
            | none => rw [NN.2 hq] at q2; cases q2
            | some _ => rfl
          rw [SU.out, PK.out, hS]
          simp
        unfold wv at WT
        clear hc nw qs kf IV NN BX q1 q2 q3 q4 q5 q6 q7 OK RZ
        go_wp2_with fail
        generalize wr.alloc (.cells #[.bool c.sd, .int .i64 c.ch, .int .i64 c.v] 32) = W1 at XN NM WT ⊢
        generalize wr.heap.size = A at XN ⊢
        refine NM.out.mono ?_
        rintro r z1 ⟨rfl, rfl⟩
        have e0 : z1.cell? ⟨A, 0, none⟩ = some (.bool c.sd) := cell_of XN.out 0
        have e2 : z1.cell? ⟨A, 2, none⟩ = some (.int .i64 c.v) := cell_of XN.out 2
        go_wp2_with fail
        refine WT.out.mono ?_
        rintro r z2 ⟨rfl, r2⟩
        have R2 := hide r2
        clear r2 e0 e2
        go_wp2_with fail
        go_roundw
        case rel => exact ⟨k + 1, by omega, by go_num, by rw [LN.out]; go_num, R2.out⟩
        case measure => simp [intOf]; omega
    · have hkl' : ¬ ((k : Int) < (l.length : Int)) := by omega
      obtain rfl : k = l.length := by omega
      go_wp2_with fail
      go_ret2
      exact ⟨rfl, RZ.out⟩
/-- the reference's Park, whatever its arguments are -/
theorem rpark_any (g : Int) (oc : Option Addr) (l : List Ca) (cc : Nat) (oa : Option Addr) (bs : List (Option Nat)) (cp : Nat) (Fs : Nat → Nat → Prop) (sts : List (Option St)) (w : World) (hC : CaAt w oc l) (hCn : 0 < l.length → ∀ a, oc = some a → ¬ All Fs a.block) (h : Qs Rr w oa bs Fs sts) (hle : ∀ (i : Nat) (st : St), sts[i]? = some (some st) → ∀ b, (own st b).length ≤ 1000) :
    Calls Try.prog 26 #[.int .i64 g, .slice oc l.length cc, .slice oa bs.length cp] w fun r w' => r = .returned (.tuple #[.int .i64 (pkN g l sts), .int .i64 (pkE g l sts)]) ∧ Rz Rr w w' oa bs Fs (pkA g l sts) := by
  unfold pkN pkE pkA
  cases hb : pkBad g l
  · simp only [Bool.false_eq_true, if_false]
    by_cases hr : 0 < (rdyL l sts).length
    · simp only [if_pos hr]
      refine (rpark_ready g oc l cc oa bs cp Fs sts w hC h hb hr).mono ?_
      rintro r w1 ⟨e, b1⟩
      exact ⟨e, Rz.same frR h b1⟩
    · simp only [if_neg hr]
      exact rpark_ok g oc l cc oa bs cp Fs sts w hC hCn h hb (List.eq_nil_of_length_eq_zero (by omega)) hle
  · simp only [if_true]
    refine (rpark_bad g oc l cc oa bs.length cp w hb).mono ?_
    rintro r w1 ⟨e, b1⟩
    exact ⟨e, Rz.same frR h b1⟩
end Fk
end Go.Proofs.Ytipimagajnocjaa
/- The acts of a law, opened; the laws' own ref, large. -/
namespace Go.Proofs.Ytipimagajnocjaa
open Go.ChangeShapes Go.WideShapes Go.ChangeAt Go.RowKit
namespace Fk
open Ba Pe _root_.Go.Proofs.Ytipimagajnocjaa.Pi Rp

theorem cells_case : Try.prog.cellsOf 32 = 3 := by kernel_rfl
theorem cells_act : Try.prog.cellsOf 35 = 6 := by kernel_rfl
theorem cells_bool : Try.prog.cellsOf 4 = 1 := by kernel_rfl
theorem cells_cases : Try.prog.cellsOf 33 = 1 := by kernel_rfl
theorem fieldsC : ∃ fs : Array Field, Try.prog.underlying 32 = some (.struct fs) ∧ fs.size = 3 ∧ (∃ f, fs[0]? = some f ∧ f.offset = 0 ∧ f.type = 4) ∧ (∃ f, fs[1]? = some f ∧ f.offset = 1 ∧ f.type = 3) ∧ (∃ f, fs[2]? = some f ∧ f.offset = 2 ∧ f.type = 3) :=
  ⟨_, Try.underlying32, rfl, ⟨_, rfl, rfl, rfl⟩, ⟨_, rfl, rfl, rfl⟩, ⟨_, rfl, rfl, rfl⟩⟩
theorem fieldsA : ∃ fs : Array Field, Try.prog.underlying 35 = some (.struct fs) ∧ fs.size = 4 ∧ (∃ f, fs[0]? = some f ∧ f.offset = 0 ∧ f.type = 3) ∧ (∃ f, fs[1]? = some f ∧ f.offset = 1 ∧ f.type = 3) ∧ (∃ f, fs[2]? = some f ∧ f.offset = 2 ∧ f.type = 32) ∧ (∃ f, fs[3]? = some f ∧ f.offset = 5 ∧ f.type = 33) :=
  ⟨_, Try.underlying35, rfl, ⟨_, rfl, rfl, rfl⟩, ⟨_, rfl, rfl, rfl⟩, ⟨_, rfl, rfl, rfl⟩, ⟨_, rfl, rfl, rfl⟩⟩
/-- an act -/
structure Ac where
  what : Int
  g : Int
  c : Ca
  l : List Ca
/-- the acts L lie at oa -/
def AAt (w : World) (oa : Option Addr) (L : List Ac) : Prop :=
  ∀ k x, L[k]? = some x → ∃ b off la lc, oa = some ⟨b, off, none⟩ ∧ w.cell? ⟨b, off + k * 6, none⟩ = some (.int .i64 x.what) ∧ w.cell? ⟨b, off + k * 6 + 1, none⟩ = some (.int .i64 x.g) ∧ w.cell? ⟨b, off + k * 6 + 2, none⟩ = some (.bool x.c.sd) ∧ w.cell? ⟨b, off + k * 6 + 3, none⟩ = some (.int .i64 x.c.ch) ∧ w.cell? ⟨b, off + k * 6 + 4, none⟩ = some (.int .i64 x.c.v) ∧ w.cell? ⟨b, off + k * 6 + 5, none⟩ = some (.slice la x.l.length lc) ∧ CaAt w la x.l ∧ x.l.length ≤ maxLen
theorem AAt.nil (w : World) (oa : Option Addr) : AAt w oa [] := fun _ _ h => by simp at h
theorem AAt.below {w w' : World} {oa : Option Addr} {l : List Ac} (h : AAt w oa l) (hb : Below w.heap.size w w') : AAt w' oa l := by
  intro k x hk
  obtain ⟨b, off, la, lc, e, h0, h1, h2, h3, h4, h5, h6, h7⟩ := h k x hk
  have up : ∀ {i : Nat} {v : Value}, w.cell? ⟨b, i, none⟩ = some v → w'.cell? ⟨b, i, none⟩ = some v := fun q => (hb.cell (World.block_lt_of_cell? w _ q)).trans q
  exact ⟨b, off, la, lc, e, up h0, up h1, up h2, up h3, up h4, up h5, h6.below hb, h7⟩
theorem CaAt.lt {w : World} {oa : Option Addr} {l : List Ca} (h : CaAt w oa l) (hl : 0 < l.length) (a : Addr) (e : oa = some a) : a.block < w.heap.size := by
  obtain ⟨b, off, e2, h0, h1, h2⟩ := h 0 _ (List.getElem?_eq_getElem hl)
  rw [e] at e2
  cases e2
  exact World.block_lt_of_cell? w _ h0
section
variable {H : Type} {enc : TypeId × Value → H} {w : World}
theorem case_open {n : Nat} {cs : List Value} {x : DataW H × List MemPlace} (h : DataW.trod enc Try.prog w 0 (fun _ => true) true n 32 cs = some x) : ∃ c : Ca, cs[0]? = some (.bool c.sd) ∧ cs[1]? = some (.int .i64 c.ch) ∧ cs[2]? = some (.int .i64 c.v) := by
  obtain ⟨fs, hu, hsz, field3_0, field3_1, field3_2⟩ := fieldsC
  obtain ⟨xs, k, _, _, _, hxl, hff⟩ := DataW.trod_struct hu h
  rw [hsz] at hxl
  obtain ⟨f0, g0, o0, t0⟩ := field3_0
  have h0 := hff 0 f0 g0
  rw [o0, t0, cells_bool] at h0
  obtain ⟨f1, g1, o1, t1⟩ := field3_1
  have h1 := hff 1 f1 g1
  rw [o1, t1, cells_int] at h1
  obtain ⟨f2, g2, o2, t2⟩ := field3_2
  have h2 := hff 2 f2 g2
  rw [o2, t2, cells_int] at h2
  rw [List.getElem?_eq_getElem (by omega)] at h0 h1 h2
  obtain ⟨b, hb, _⟩ := DataW.trod_bool Try.underlying4 h0
  obtain ⟨c, hc, _⟩ := DataW.trod_int Try.underlying3 h1
  obtain ⟨v, hv, _⟩ := DataW.trod_int Try.underlying3 h2
  exact ⟨⟨b, c, v⟩, one_of hb, one_of hc, one_of hv⟩
theorem cases_open {n : Nat} {v : Value} {x : DataW H × List MemPlace} (h : DataW.trod enc Try.prog w 0 (fun _ => true) true n 33 [v] = some x) : ∃ (l : List Ca) (oa : Option Addr) (c : Nat), v = .slice oa l.length c ∧ CaAt w oa l ∧ l.length ≤ maxLen := by
  rcases Go.Deep.open_slice Try.underlying33 h with ⟨hcs, _⟩ | ⟨a, len, cap, m, n', D, Pl, hcs, _, hl, hm, hmm, _, hel⟩
  · simp at hcs
    subst hcs
    exact ⟨[], none, 0, rfl, CaAt.nil _ _, Nat.zero_le _⟩
  · simp at hcs
    subst hcs
    have hmc : m = cap := by simpa using hmm
    subst hmc
    have key : ∀ i, i < len → ∃ c : Ca, w.cell? ((a.add (i * 3)).add 0) = some (.bool c.sd) ∧ w.cell? ((a.add (i * 3)).add 1) = some (.int .i64 c.ch) ∧ w.cell? ((a.add (i * 3)).add 2) = some (.int .i64 c.v) := by
      intro i hi
      obtain ⟨cs', h1, h2⟩ := hel i (by omega)
      rw [cells_case] at h1
      obtain ⟨_, _, hcell⟩ := World.cells?_some h1
      obtain ⟨c, q0, q1, q2⟩ := case_open h2
      exact ⟨c, (hcell 0 (by decide)).trans q0, (hcell 1 (by decide)).trans q1, (hcell 2 (by decide)).trans q2⟩
    have fam : ∃ f : Nat → Ca, ∀ i, i < len → w.cell? ((a.add (i * 3)).add 0) = some (.bool (f i).sd) ∧ w.cell? ((a.add (i * 3)).add 1) = some (.int .i64 (f i).ch) ∧ w.cell? ((a.add (i * 3)).add 2) = some (.int .i64 (f i).v) := by
      refine ⟨fun i => if hi : i < len then Classical.choose (key i hi) else ⟨false, 0, 0⟩, fun i hi => ?_⟩
      simp only [dif_pos hi]
      exact Classical.choose_spec (key i hi)
    obtain ⟨f, hf⟩ := fam
    have hlen : ((List.range len).map f).length = len := by simp
    refine ⟨(List.range len).map f, some a, m, by rw [hlen], ?_, by rw [hlen]; omega⟩
    intro k c hk
    have hk2 : k < len := by
      have := (List.getElem?_eq_some_iff.1 hk).1
      simpa using this
    have hc : c = f k := by
      simp [hk2] at hk
      exact hk.symm
    subst hc
    have hspot : a.spot = none := by
      have := World.cell?_spot (hf 0 (by omega)).1
      simpa [Addr.add] using this
    obtain ⟨b, off, spot⟩ := a
    simp at hspot
    subst hspot
    obtain ⟨q0, q1, q2⟩ := hf k hk2
    rw [Addr.add_lit, Addr.add_lit] at q0 q1 q2
    exact ⟨b, off, rfl, q0, q1, q2⟩
set_option maxRecDepth 100000 in
/-- a case among a law's arguments -/
theorem caseV_open {n : Nat} {v : Value} {x : DataW H × List MemPlace} (h : DataW.trod enc Try.prog w 0 (fun _ => true) true n 32 v.cells.toList = some x) : ∃ c : Ca, v = cv c := by
  obtain ⟨fs, hu, hsz, _⟩ := fieldsC
  obtain ⟨_, _, _, _, hcl, _⟩ := DataW.trod_struct hu h
  rw [cells_case] at hcl
  obtain ⟨c, q0, q1, q2⟩ := case_open h
  refine ⟨c, ?_⟩
  have hc : v.cells = #[.bool c.sd, .int .i64 c.ch, .int .i64 c.v] := by
    apply Array.toList_inj.1
    generalize v.cells.toList = L at *
    match L, hcl with
    | [y0, y1, y2], _ =>
      simp at q0 q1 q2
      simp [q0, q1, q2]
  cases v with
  | agg cs => unfold cv; rw [← hc]; rfl
  | _ => have := congrArg Array.size hc; simp [Value.cells] at this
theorem act_open {n : Nat} {cs : List Value} {x : DataW H × List MemPlace} (h : DataW.trod enc Try.prog w 0 (fun _ => true) true n 35 cs = some x) : ∃ (a : Ac) (la : Option Addr) (lc : Nat), cs[0]? = some (.int .i64 a.what) ∧ cs[1]? = some (.int .i64 a.g) ∧ cs[2]? = some (.bool a.c.sd) ∧ cs[3]? = some (.int .i64 a.c.ch) ∧ cs[4]? = some (.int .i64 a.c.v) ∧ cs[5]? = some (.slice la a.l.length lc) ∧ CaAt w la a.l ∧ a.l.length ≤ maxLen := by
  obtain ⟨fs, hu, hsz, fA0, fA1, fA2, fA3⟩ := fieldsA
  obtain ⟨xs, k, _, _, hcl, hxl, hff⟩ := DataW.trod_struct hu h
  rw [hsz] at hxl
  rw [cells_act] at hcl
  obtain ⟨f0, g0, o0, t0⟩ := fA0
  have h0 := hff 0 f0 g0
  rw [o0, t0, cells_int] at h0
  obtain ⟨f1, g1, o1, t1⟩ := fA1
  have h1 := hff 1 f1 g1
  rw [o1, t1, cells_int] at h1
  obtain ⟨f2, g2, o2, t2⟩ := fA2
  have h2 := hff 2 f2 g2
  rw [o2, t2, cells_case] at h2
  obtain ⟨f3, g3, o3, t3⟩ := fA3
  have h3 := hff 3 f3 g3
  rw [o3, t3, cells_cases] at h3
  rw [List.getElem?_eq_getElem (by omega)] at h0 h1 h2 h3
  obtain ⟨i0, e0, _⟩ := DataW.trod_int Try.underlying3 h0
  obtain ⟨i1, e1, _⟩ := DataW.trod_int Try.underlying3 h1
  obtain ⟨c, q0, q1, q2⟩ := case_open h2
  have hz : ∃ z, (cs.drop 5).take 1 = [z] := by
    have hl : ((cs.drop 5).take 1).length = 1 := by simp; omega
    match hq : (cs.drop 5).take 1, hl with
    | [z], _ => exact ⟨z, rfl⟩
  obtain ⟨z, e3⟩ := hz
  rw [e3] at h3
  obtain ⟨l, la, lc, rfl, hA, hm⟩ := cases_open h3
  have dr : ∀ {j : Nat} {v : Value}, ((cs.drop 2).take 3)[j]? = some v → cs[2 + j]? = some v := by
    intro j v hj
    rw [List.getElem?_take] at hj
    split at hj
    · rwa [List.getElem?_drop] at hj
    · cases hj
  exact ⟨⟨i0, i1, c, l⟩, la, lc, one_of e0, one_of e1, dr q0, dr q1, dr q2, one_of e3, hA, hm⟩
theorem acts_open {n : Nat} {oa : Option Addr} {len cap : Nat} {x : DataW H × List MemPlace} (h : DataW.trod enc Try.prog w 0 (fun _ => true) true n 23 [.slice oa len cap] = some x) : ∃ L : List Ac, L.length = len ∧ AAt w oa L ∧ len ≤ cap ∧ cap ≤ maxLen := by
  rcases Go.Deep.open_slice Try.underlying23 h with ⟨hcs, _⟩ | ⟨a, len', cap', m, n', D, Pl, hcs, _, hl, hm, hmm, _, hel⟩
  · simp at hcs
    obtain ⟨rfl, rfl, rfl⟩ := hcs
    exact ⟨[], rfl, AAt.nil _ _, Nat.le_refl _, Nat.zero_le _⟩
  · simp at hcs
    obtain ⟨rfl, rfl, rfl⟩ := hcs
    have hmc : m = cap := by simpa using hmm
    subst hmc
    have key : ∀ i, i < len → ∃ x : Ac, ∃ la lc, w.cell? ((a.add (i * 6)).add 0) = some (.int .i64 x.what) ∧ w.cell? ((a.add (i * 6)).add 1) = some (.int .i64 x.g) ∧ w.cell? ((a.add (i * 6)).add 2) = some (.bool x.c.sd) ∧ w.cell? ((a.add (i * 6)).add 3) = some (.int .i64 x.c.ch) ∧ w.cell? ((a.add (i * 6)).add 4) = some (.int .i64 x.c.v) ∧ w.cell? ((a.add (i * 6)).add 5) = some (.slice la x.l.length lc) ∧ CaAt w la x.l ∧ x.l.length ≤ maxLen := by
      intro i hi
      obtain ⟨cs', h1, h2⟩ := hel i (by omega)
      rw [cells_act] at h1
      obtain ⟨_, _, hcell⟩ := World.cells?_some h1
      obtain ⟨x, la, lc, q0, q1, q2, q3, q4, q5, q6, q7⟩ := act_open h2
      exact ⟨x, la, lc, (hcell 0 (by decide)).trans q0, (hcell 1 (by decide)).trans q1, (hcell 2 (by decide)).trans q2, (hcell 3 (by decide)).trans q3, (hcell 4 (by decide)).trans q4, (hcell 5 (by decide)).trans q5, q6, q7⟩
    have fam : ∃ f : Nat → Ac, ∀ i, i < len → ∃ la lc, w.cell? ((a.add (i * 6)).add 0) = some (.int .i64 (f i).what) ∧ w.cell? ((a.add (i * 6)).add 1) = some (.int .i64 (f i).g) ∧ w.cell? ((a.add (i * 6)).add 2) = some (.bool (f i).c.sd) ∧ w.cell? ((a.add (i * 6)).add 3) = some (.int .i64 (f i).c.ch) ∧ w.cell? ((a.add (i * 6)).add 4) = some (.int .i64 (f i).c.v) ∧ w.cell? ((a.add (i * 6)).add 5) = some (.slice la (f i).l.length lc) ∧ CaAt w la (f i).l ∧ (f i).l.length ≤ maxLen := by
      refine ⟨fun i => if hi : i < len then Classical.choose (key i hi) else ⟨0, 0, ⟨false, 0, 0⟩, []⟩, fun i hi => ?_⟩
      simp only [dif_pos hi]
      exact Classical.choose_spec (key i hi)
    obtain ⟨f, hf⟩ := fam
    refine ⟨(List.range len).map f, by simp, ?_, hl, hm⟩
    intro k c hk
    have hk2 : k < len := by
      have := (List.getElem?_eq_some_iff.1 hk).1
      simpa using this
    have hc : c = f k := by
      simp [hk2] at hk
      exact hk.symm
    subst hc
    have hspot : a.spot = none := by
      obtain ⟨_, _, q, _⟩ := hf 0 (by omega)
      have := World.cell?_spot q
      simpa [Addr.add] using this
    obtain ⟨b, off, spot⟩ := a
    simp at hspot
    subst hspot
    obtain ⟨la, lc, q0, q1, q2, q3, q4, q5, q6, q7⟩ := hf k hk2
    rw [Addr.add_lit, Addr.add_lit] at q0 q1 q2 q3 q4 q5
    exact ⟨b, off, la, lc, rfl, q0, q1, q2, q3, q4, q5, q6, q7⟩
end
theorem size_rw : (Try.prog.info? 62).map (·.size) = some 3 := by kernel_rfl
theorem loadVar_rw {w : World} {b : Nat} {c : Array Value} {t : TypeId} (h : w.heap[b]? = some (.cells c t (0, 0))) (hc : c.size = 3) : (loadVar 62 ⟨b, 0, none⟩).run Try.prog w = .ok (.agg c) w :=
  run_loadVar_row w b t _ _ _ _ h Try.underlying62 rfl (by rw [size_rw, hc])
theorem heap_new2 (w : World) (a b : Obj) : ((w.alloc a).alloc b).heap[w.heap.size + 1]? = some b := by
  have := heap_new (w.alloc a) b
  rw [World.size_alloc] at this
  exact this
theorem ref_any (x : Wt) (w : World) :
    Calls Try.prog 22 #[wv x] w fun r w' => r = .returned (wv x) ∧ Below w.heap.size w w' := by
  unfold wv
  go_enter Try.func22, Try.ntmps22
  go_wp2_with fail
  refine bodyPost_ret (results_row1 Try.results22 _ _ _ _ rfl (loadVar_rw (heap_new2 _ _ _) rfl)) rfl ⟨rfl, btr (below_alloc _ _) (below_alloc _ _)⟩
/-- few acts, of few cases -/
def Few (L : List Ac) : Prop := L.length ≤ 150 ∧ ∀ x ∈ L, x.l.length ≤ 50
def LgP (L : List Ac) (w : World) (r : Ending) (w' : World) : Prop := ∃ b, r = .returned (.bool b) ∧ (b = false → Few L) ∧ Below w.heap.size w w'
set_option maxRecDepth 100000 in
set_option maxHeartbeats 3200000 in
theorem large_any (oa : Option Addr) (L : List Ac) (c : Nat) (w : World) (hA : AAt w oa L) (hl : L.length ≤ maxLen) :
    Calls Try.prog 6 #[.slice oa L.length c] w fun r w' => LgP L w r w' := by
  have HA := hide hA
  unfold maxLen at hl
  clear hA
  go_enter Try.func6, Try.ntmps6
  go_wp2_with fail
  go_loopw [7] (fun i wr => ∃ k : Nat, k ≤ L.length ∧ i = .int .i64 k ∧ (∀ j x, j < k → L[j]? = some x → x.l.length ≤ 50) ∧ Below w.heap.size w wr) (fun i _ => L.length - (intOf i).toNat)
  case atStart => exact ⟨0, Nat.zero_le _, rfl, fun j _ hj => absurd hj (Nat.not_lt_zero _), Below.refl _ _⟩
  case round =>
    obtain ⟨k, hk, rfl, hf, hb⟩ := hrel
    have HF := hide hf
    have HB := hide hb
    clear hf hb
    by_cases hlt : k < L.length
    · have hlt' : (k : Int) < (L.length : Int) := by omega
      obtain ⟨x, hx⟩ : ∃ x, L[k]? = some x := ⟨_, List.getElem?_eq_getElem hlt⟩
      obtain ⟨b, off, la, lc, rfl, q0, q1, q2, q3, q4, q5, _, _⟩ := HA.out.below HB.out k x hx
      have HB2 := hide (btr HB.out (below_alloc wr (.cells #[.int .i64 x.what, .int .i64 x.g, .bool x.c.sd, .int .i64 x.c.ch, .int .i64 x.c.v, .slice la x.l.length lc] 35)))
      by_cases h5 : 50 < x.l.length
      · have h5' : (50 : Int) < (x.l.length : Int) := by omega
        clear hx
        go_wp2_with fail
        go_ret
        exact ⟨true, rfl, (fun h => by cases h), HB2.out⟩
      · have h5' : ¬ (50 : Int) < (x.l.length : Int) := by omega
        have HF2 : Hid (∀ j y, j < k + 1 → L[j]? = some y → y.l.length ≤ 50) := by
          intro j y hj hy
          by_cases e : j = k
          · subst e
            rw [hx] at hy
            cases hy
            omega
          · exact HF.out j y (by omega) hy
        clear hx
        go_wp2_with fail
        go_roundw
        case rel => exact ⟨k + 1, by omega, by go_num, HF2.out, HB2.out⟩
        case measure => simp [intOf]; omega
    · have hlt' : ¬ ((k : Int) < (L.length : Int)) := by omega
      obtain rfl : k = L.length := by omega
      by_cases h3 : 150 < L.length
      · have h3' : decide ((150 : Int) < (L.length : Int)) = true := decide_eq_true (by omega)
        go_wp2_with fail
        go_ret
        exact ⟨true, ret_bool rfl, (fun h => by cases h), HB.out⟩
      · have h3' : decide ((150 : Int) < (L.length : Int)) = false := decide_eq_false (by omega)
        go_wp2_with fail
        go_ret
        refine ⟨false, ret_bool rfl, fun _ => ⟨by omega, fun x hx => ?_⟩, HB.out⟩
        obtain ⟨j, hj⟩ := List.getElem?_of_mem hx
        exact HF.out j x (List.getElem?_eq_some_iff.1 hj).1 hj
end Fk
end Go.Proofs.Ytipimagajnocjaa
/- The laws' own Ints, over this seat's program. -/
namespace Go.Proofs.Ytipimagajnocjaa
open Go.ChangeShapes Go.WideShapes Go.ChangeAt Go.RowKit
namespace Ba

set_option maxHeartbeats 1600000 in
theorem ints_any (oa ob : Option Addr) (l m : List Int) (c d : Nat) (w : World) (hA : At w oa l) (hB : At w ob m) (hl : l.length ≤ 1000000) (hm : m.length ≤ 1000000) :
    Calls Try.prog 11 #[.slice oa l.length c, .slice ob m.length d] w fun r w' => r = .returned (.bool (decide (l = m))) ∧ ∃ q, w' = w.drewN q := by
  have HA : Hid (At w oa l) := hA
  have HB : Hid (At w ob m) := hB
  clear hA hB
  go_enter Try.func11, Try.ntmps11
  go_wp2_with fail
  go_loopw [8] (fun i wr => ∃ k : Nat, k ≤ l.length ∧ i = .int .i64 k ∧ (k ≤ m.length ∧ ∀ j, j < k → nth l j = nth m j) ∧ ∃ q, wr = w.drewN q) (fun i _ => l.length - (intOf i).toNat)
  case atStart => exact ⟨0, Nat.zero_le _, rfl, ⟨Nat.zero_le _, fun j hj => absurd hj (Nat.not_lt_zero _)⟩, 0, rfl⟩
  case round =>
    obtain ⟨k, hk, rfl, ⟨hkm, hall⟩, q, rfl⟩ := hrel
    have HE : Hid (∀ j, j < k → nth l j = nth m j) := hall
    clear hall
    by_cases hlt : k < l.length
    · obtain ⟨b1, o1, rfl, hc1⟩ := HA.out k hlt
      have hlt' : (k : Int) < (l.length : Int) := by omega
      by_cases hlm : k < m.length
      · obtain ⟨b2, o2, rfl, hc2⟩ := HB.out k hlm
        have hlm' : (k : Int) < (m.length : Int) := by omega
        have hg : decide ((m.length : Int) ≤ (k : Int)) = false := by simp; omega
        by_cases he : nth l k = nth m k
        · have he' : (nth l k != nth m k) = false := by simpa using he
          have HX : Hid (nth l k = nth m k) := he
          clear he
          go_wp2_with fail
          go_quiet (fail)
          go_wp2
          go_roundw
          case rel => exact ⟨k + 1, by omega, by go_num, ⟨by omega, fun j hj => by
            by_cases e : j = k
            · subst e; exact HX.out
            · exact HE.out j (by omega)⟩, _, rfl⟩
          case measure => simp [intOf]; omega
        · have he' : (nth l k != nth m k) = true := by simpa using he
          have HX : Hid (l ≠ m) := fun e => he (by rw [e])
          clear he
          go_wp2_with fail
          go_quiet (fail)
          go_wp2
          go_ret
          exact ⟨ret_bool (by simpa using HX.out), by first | exact ⟨_, rfl⟩ | (rw [World.drewN_drewN]; exact ⟨_, rfl⟩)⟩
      · have HX : Hid (l ≠ m) := fun e => by subst e; exact hlm hlt
        have hg : decide ((m.length : Int) ≤ (k : Int)) = true := by simp; omega
        go_wp2_with fail
        go_quiet (fail)
        go_wp2
        go_ret
        exact ⟨ret_bool (by simpa using HX.out), by first | exact ⟨_, rfl⟩ | (rw [World.drewN_drewN]; exact ⟨_, rfl⟩)⟩
    · by_cases he : l.length = m.length
      · have he' : ((l.length : Int) == (m.length : Int)) = true := by simp; omega
        have HX : Hid (l = m) := eq_of_nth he fun j hj => HE.out j (by omega)
        clear he
        go_wp2
        go_ret
        exact ⟨ret_bool (by simpa using HX.out), by first | exact ⟨_, rfl⟩ | (rw [World.drewN_drewN]; exact ⟨_, rfl⟩)⟩
      · have he' : ((l.length : Int) == (m.length : Int)) = false := by simp; omega
        have HX : Hid (l ≠ m) := fun e => he (by rw [e])
        clear he
        go_wp2
        go_ret
        exact ⟨ret_bool (by simpa using HX.out), by first | exact ⟨_, rfl⟩ | (rw [World.drewN_drewN]; exact ⟨_, rfl⟩)⟩
theorem ints_is (oa ob : Option Addr) (l m : List Int) (n k c d : Nat) (x : Bool) (hx : decide (l = m) = x) (hn : l.length = n) (hk : m.length = k) (w : World) (hA : At w oa l) (hB : At w ob m) (hl : n ≤ 1000000) (hm : k ≤ 1000000) :
    Calls Try.prog 11 #[.slice oa n c, .slice ob k d] w fun r w' => r = .returned (.bool x) ∧ Below w.heap.size w w' := by
  subst hn hk hx
  refine (ints_any oa ob l m c d w hA hB hl hm).mono ?_
  rintro r w' ⟨rfl, q, rfl⟩
  exact ⟨rfl, bdrew _ _⟩
theorem owns_below {w w' : World} {base : Nat} {e : TypeId} {size : Nat} {v : Value} {n : Nat} {xs : List Value} (h : w.ownsRow base e size v n xs) (hb : Below w.heap.size w w') : w'.ownsRow base e size v n xs := by
  refine ⟨h.1, ?_⟩
  rcases h.2 with q | ⟨g, cap, cur, q1, q2, q3, q4⟩
  · exact .inl q
  · exact .inr ⟨g, cap, cur, q1, q2, heap_below q3 hb, q4⟩
theorem owns_at {w : World} {base : Nat} {e : TypeId} {v : Value} {l : List Int} (h : w.ownsRow base e 1 v l.length (l.map (Value.int .i64))) : ∃ oa c, v = .slice oa l.length c ∧ At w oa l := by
  rcases h.2 with ⟨rfl, h0⟩ | ⟨g, cap, cur, rfl, _, hg, _, _, hcs, htk⟩
  · refine ⟨none, 0, by rw [h0], fun k hk => by omega⟩
  · refine ⟨_, cap, rfl, fun k hk => ⟨g, 0, rfl, ?_⟩⟩
    rw [Nat.zero_add, cell_of hg k]
    have : (cur.toList.take (l.length * 1))[k]? = (l.map (Value.int .i64))[k]? := by rw [htk]
    rw [List.getElem?_take] at this
    simp [hk] at this
    rw [nth_lt l k hk]
    rw [← this]
theorem info_int : (Try.prog.info? 3).map (fun i => (i.zero, i.size, i.bytes)) = some (some (.int .i64 0), 1, 8) := by kernel_rfl
end Ba
end Go.Proofs.Ytipimagajnocjaa
/- The laws' own one(), over this seat's program. -/
namespace Go.Proofs.Ytipimagajnocjaa
open Go.ChangeShapes Go.WideShapes Go.ChangeAt Go.RowKit
namespace Fk
open Ba Pe _root_.Go.Proofs.Ytipimagajnocjaa.Pi Rp

/-- channels of one's own, newer than w -/
structure On (w u : World) (oa : Option Addr) (bs : List (Option Nat)) (Fs : Nat → Nat → Prop) (sts : List (Option St)) : Prop where
  q : Qs Pp u oa bs Fs sts
  b : Below w.heap.size w u
  lo : ∀ x, All Fs x → w.heap.size ≤ x
theorem On.below {w u v : World} {oa : Option Addr} {bs : List (Option Nat)} {Fs : Nat → Nat → Prop} {sts : List (Option St)} (h : On w u oa bs Fs sts) (hb : Below u.heap.size u v) : On w v oa bs Fs sts := ⟨h.q.below frP hb, btr h.b hb, h.lo⟩
/-- what is not the channels' stays -/
def Stays (u v : World) (Fs Fs' : Nat → Nat → Prop) : Prop := ∀ x, x < u.heap.size → ¬ All Fs x → v.heap[x]? = u.heap[x]? ∧ ¬ All Fs' x
theorem On.step {w u v : World} {oa : Option Addr} {bs : List (Option Nat)} {Fs : Nat → Nat → Prop} {sts sts' : List (Option St)} (h : On w u oa bs Fs sts) (r : Rz Pp u v oa bs Fs sts') : ∃ Fs', On w v oa bs Fs' sts' ∧ Stays u v Fs Fs' := by
  obtain ⟨Fs', n, q, k⟩ := r
  refine ⟨Fs', ⟨q, k.below h.b h.lo, ?_⟩, ?_⟩
  · rintro x ⟨i, hi⟩
    rcases n i x hi with z | z
    · exact h.lo x z
    · exact Nat.le_trans h.b.size z
  · intro x hx hn
    refine ⟨k.block x hx hn, ?_⟩
    rintro ⟨i, hi⟩
    rcases n i x hi with z | z
    · exact hn z
    · omega
def two (F G : Nat → Prop) : Nat → Nat → Prop := fun i => if i = 0 then F else if i = 1 then G else fun _ => False
theorem qs_two {w : World} {B C : Nat} {F G : Nat → Prop} {s t : St} (p : Pp w B F s) (q : Pp w C G t) (d : ∀ x, F x → ¬ G x) {R : Nat} {ty : TypeId} (hR : w.heap[R]? = some (.cells #[.pointer (some ⟨B, 0, none⟩), .pointer (some ⟨C, 0, none⟩)] ty (0, 0))) (hF : ¬ F R) (hG : ¬ G R) : Qs Pp w (some ⟨R, 0, none⟩) [some B, some C] (two F G) [some s, some t] := by
  refine ⟨?_, rfl, ?_, ?_, ?_, ?_, ?_⟩
  · intro i o hi
    match i, hi with
    | 0, hi => simp at hi; subst hi; exact ⟨R, 0, rfl, cell_of hR 0⟩
    | 1, hi => simp at hi; subst hi; exact ⟨R, 0, rfl, cell_of hR 1⟩
    | i + 2, hi => simp at hi
  · intro i D hi
    match i, hi with
    | 0, hi => simp at hi; subst hi; exact ⟨s, rfl, p⟩
    | 1, hi => simp at hi; subst hi; exact ⟨t, rfl, q⟩
    | i + 2, hi => simp at hi
  · intro i hi
    match i, hi with
    | 0, hi => simp at hi
    | 1, hi => simp at hi
    | i + 2, hi => simp at hi
  · intro i j hij x hx hy
    match i, j, hij, hx, hy with
    | 0, 0, hij, _, _ => exact hij rfl
    | 0, 1, _, hx, hy => exact d x hx hy
    | 0, j + 2, _, _, hy => exact hy
    | 1, 0, _, hx, hy => exact d x hy hx
    | 1, 1, hij, _, _ => exact hij rfl
    | 1, j + 2, _, _, hy => exact hy
    | i + 2, _, _, hx, _ => exact hx
  · intro a e i hi
    cases e
    match i, hi with
    | 0, hi => exact hF hi
    | 1, hi => exact hG hi
    | i + 2, hi => exact hi
  · intro i x hx
    match i, hx with
    | 0, hx => exact p.bd x hx
    | 1, hx => exact q.bd x hx
    | i + 2, hx => exact hx.elim
def l1 : List Ca := [⟨false, 0, 0⟩, ⟨true, 1, 5⟩]
def s1 : List (Option St) := [some ⟨1, [7], [], [], 1, 0, false⟩, some ⟨0, [], [], [], 0, 0, false⟩]
def s2 : List (Option St) := [some ⟨1, [], [], [], 1, 1, false⟩, some ⟨0, [], [], [], 0, 0, false⟩]
def s3 : List (Option St) := [some ⟨1, [], [], [⟨3, 0, 0⟩], 1, 1, false⟩, some ⟨0, [], [⟨3, 1, 5⟩], [], 0, 0, false⟩]
theorem l1_at {w : World} {K : Nat} {ty : TypeId} (h : w.heap[K]? = some (.cells #[.bool false, .int .i64 0, .int .i64 0, .bool true, .int .i64 1, .int .i64 5] ty (0, 0))) : CaAt w (some ⟨K, 0, none⟩) l1 := by
  intro k x hk
  match k, hk with
  | 0, hk => simp [l1] at hk; subst hk; exact ⟨K, 0, rfl, cell_of h 0, cell_of h 1, cell_of h 2⟩
  | 1, hk => simp [l1] at hk; subst hk; exact ⟨K, 0, rfl, cell_of h 3, cell_of h 4, cell_of h 5⟩
  | k + 2, hk => simp [l1] at hk
theorem r1 : rdyL l1 s1 = [0] := by decide
theorem t1 : tryG s1 ⟨false, 0, 0⟩ = ⟨true, true, false, 7, ⟨0, 0, 0⟩⟩ := by rfl
theorem t1e : tryE s1 ⟨false, 0, 0⟩ = 0 := by rfl
theorem t1s : tryS s1 ⟨false, 0, 0⟩ = s2 := by rfl
theorem p1e : pkE 3 l1 s2 = 0 := by decide
theorem p1n : pkN 3 l1 s2 = 2 := by decide
theorem p1s : pkA 3 l1 s2 = s3 := by rfl
theorem v1n : leaveN 3 s3 = 2 := by decide
end Fk
end Go.Proofs.Ytipimagajnocjaa
