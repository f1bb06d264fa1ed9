/- Package slots, over this seat's program: kept, Held, Drop. -/
import Derived.Test.YtekdcfdjohlfcaaTd
import Derived.Deep.AppendSrc
namespace Go.Proofs.Ytekdcfdjohlfcaa
open Go.ChangeShapes Go.WideShapes Go.ChangeAt Go.RowKit
namespace Sl
open Ck
open Ba (KF Bd Nw)

def keptL (st : Sst) : List Nat := st.gv ++ st.bk ++ st.cl.toList
theorem pcs_app (a b : List Nat) : pcs (a ++ b) = pcs a ++ pcs b := by simp [pcs]
theorem pcs_at (l : List Nat) (j : Nat) : (pcs l)[j]? = l[j]?.map ptr := by simp [pcs]
/-- append of one row to another one -/
theorem app_own {w : World} {v x : Value} {xs ys : List Nat} (hv : w.ownsRow 0 34 1 v xs.length (pcs xs)) (hx : w.ownsRow 0 34 1 x ys.length (pcs ys)) (h1 : xs.length ≤ 100000) (h2 : ys.length ≤ 100000) :
    ∃ v' w', (Builtin.append_ #[89, 89] 89 #[v, x]).run Try.prog w = .ok v' w' ∧ w'.ownsRow 0 34 1 v' (xs ++ ys).length (pcs (xs ++ ys)) ∧ w.grownBy w' v.ownBlock ∧ (v'.ownBlock = v.ownBlock ∨ v'.ownBlock = some w.heap.size) := by
  cases hi : Try.prog.info? 34 with
  | none => have := info_pc; rw [hi] at this; cases this
  | some i0 =>
  have hq := info_pc
  rw [hi] at hq
  simp at hq
  rcases hx.2 with ⟨rfl, h0⟩ | ⟨g, cap, cur, rfl, -, hg, hle, hmx, hsz, htk⟩
  · have hys : ys = [] := List.eq_nil_of_length_eq_zero h0
    subst hys
    obtain ⟨oa, c, rfl⟩ := own_sl hv
    have hlc : xs.length ≤ c := by
      rcases hv.2 with ⟨e, e2⟩ | ⟨g, cap, cur, e, -, -, hle, -⟩
      · omega
      · cases e; exact hle
    refine ⟨_, w, ?_, by rw [List.append_nil]; exact hv, ⟨rfl, rfl, rfl, Nat.le_refl _, fun _ _ _ => rfl⟩, .inl rfl⟩
    have hs : Src Try.prog i0.size 89 (.slice none 0 0) 0 [] w := Src.ofNil w Try.underlying89 0
    rcases hs.kind with ⟨e', hk⟩ | hk <;> cases oa <;> simp [Builtin.append_, run_underlying Try.underlying89, sizeOf, typeInfo, hi, hs.len, hlc, hs.cells, storeCells]
  · obtain ⟨v', w', hr, ho, hgr, -, hat⟩ := run_append_own_at (P := Try.prog) w 0 89 89 34 i0 (.pointer none) 1 8 Try.underlying89 hi hq.1 hq.2.1 hq.2.2 rfl (by decide) v xs.length (pcs xs) hv ⟨g, 0, none⟩ ys.length cap (pcs ys) (pcs_len ys) (hx.cells rfl) (pcs_one ys) (by unfold maxLen; omega) (by omega) (Nat.zero_le _)
    exact ⟨v', w', hr, by rw [List.length_append, pcs_app]; exact ho, hgr, hat⟩
theorem grown_below {w w' : World} {v : Value} (h : w.grownBy w' v.ownBlock) {B : Nat} (hB : B ≤ w.heap.size) (hv : ∀ k, v.ownBlock = some k → B ≤ k) : Below B w w' :=
  ⟨h.os, h.tape, h.output, h.size, fun k hk => h.block k (by omega) (fun e => by have := hv k e.symm; omega)⟩
theorem kept_nil (w : World) : Calls Try.prog 42 #[.pointer none] w fun r w' => r = .returned (.slice none 0 0) ∧ w' = w := by
  go_enter Try.func42, Try.ntmps42
  go_wp2_with fail
  go_ret
  exact ⟨rfl, rfl⟩
set_option maxRecDepth 100000 in
set_option maxHeartbeats 3200000 in
theorem kept_any {Y : Nat → Prop} {S : Nat} {w : World} {st : Sst} {h : Nat → Option (List Int)} {vg vb : Value} (s : SX Y S w st h vg vb) (hg : st.gv.length ≤ 1000) (hb : st.bk.length ≤ 1000) :
    Calls Try.prog 42 #[.pointer (some ⟨S, 0, none⟩)] w fun r w' => ∃ v, r = .returned v ∧ w'.ownsRow 0 34 1 v (keptL st).length (pcs (keptL st)) ∧ (∀ k, v.ownBlock = some k → w.heap.size ≤ k) ∧ Below w.heap.size w w' := by
  obtain ⟨v1, w1, r1, o1, g1, a1⟩ := app_own (World.ownsRow_nil w 0 34 1) s.gv (by simp) (by omega) (xs := [])
  have n1 : ∀ k, v1.ownBlock = some k → w.heap.size ≤ k := fun k e => by
    rcases a1 with q | q
    · rw [q] at e; cases e
    · rw [q] at e; cases e; exact Nat.le_refl _
  have b1 : Below w.heap.size w w1 := grown_below g1 (Nat.le_refl _) (fun k e => nomatch e)
  have s1 := s.below b1
  obtain ⟨v2, w2, r2, o2, g2, a2⟩ := app_own o1 s1.bk (by simp; omega) (by omega)
  have n2 : ∀ k, v2.ownBlock = some k → w.heap.size ≤ k := fun k e => by
    rcases a2 with q | q
    · exact n1 k (q ▸ e)
    · rw [q] at e; cases e; exact b1.size
  have b2 : Below w.heap.size w w2 := b1.trans (grown_below g2 b1.size n1)
  have y3 := s.cells.2.2.2.1
  have y4 := s1.cells.2.2.2.2.1
  obtain ⟨y5w, y5⟩ : ∃ u, u = clv st.cl ∧ w2.cell? ⟨S, 5, none⟩ = some u := ⟨_, rfl, by
    have := (b2.block S s.lt).trans s.hp
    rw [cell_of this]
    rfl⟩
  obtain ⟨e5, y5⟩ := y5
  have R1 := hide r1
  have R2 := hide r2
  have O2 := hide o2
  have N2 := hide n2
  have B2 := hide b2
  cases hcl : st.cl with
  | none =>
    rw [hcl] at e5
    unfold clv at e5
    subst e5
    have ek : keptL st = [] ++ st.gv ++ st.bk := by unfold keptL; rw [hcl]; simp
    rw [ek]
    clear s s1 r1 r2 o1 o2 n1 n2 b1 b2 g1 g2 a1 a2
    go_enter Try.func42, Try.ntmps42
    go_wp2_with (at_builtin; first | refine Lib.wpList_append_run _ rfl _ _ 89 89 rfl _ _ rfl rfl _ _ R1.out ?_ | refine Lib.wpList_append_run _ rfl _ _ 89 89 rfl _ _ rfl rfl _ _ R2.out ?_)
    go_wp2_with (at_builtin; first | refine Lib.wpList_append_run _ rfl _ _ 89 89 rfl _ _ rfl rfl _ _ R1.out ?_ | refine Lib.wpList_append_run _ rfl _ _ 89 89 rfl _ _ rfl rfl _ _ R2.out ?_)
    go_ret
    exact ⟨v2, rfl, by simpa using O2.out, N2.out, B2.out⟩
  | some x =>
    rw [hcl] at e5
    unfold clv ptr at e5
    subst e5
    have ek : keptL st = [] ++ st.gv ++ st.bk ++ [x] := by unfold keptL; rw [hcl]; simp
    rw [ek]
    have ox : (w2.alloc (.cells #[.pointer (some ⟨x, 0, none⟩)] 34)).ownsRow 0 34 1 (.slice (some ⟨w2.heap.size, 0, none⟩) 1 1) [x].length (pcs [x]) :=
      ⟨rfl, .inr ⟨w2.heap.size, 1, _, rfl, Nat.zero_le _, heap_new _ _, Nat.le_refl _, by decide, rfl, rfl⟩⟩
    obtain ⟨v3, w3, r3, o3, g3, a3⟩ := app_own (o2.alloc (.cells #[.pointer (some ⟨x, 0, none⟩)] 34)) ox (by simp; omega) (by simp)
    have b3 : Below w.heap.size w w3 := b2.trans ((below_alloc w2 _).mono b2.size |>.trans (grown_below g3 (by rw [World.size_alloc]; have := b2.size; omega) n2))
    have n3 : ∀ k, v3.ownBlock = some k → w.heap.size ≤ k := fun k e => by
      rcases a3 with q | q
      · exact n2 k (q ▸ e)
      · rw [q] at e; cases e; rw [World.size_alloc]; have := b2.size; omega
    have R3 := hide r3
    have O3 := hide o3
    have N3 := hide n3
    have B3 := hide b3
    clear s s1 r1 r2 r3 o1 o2 o3 n1 n2 n3 b1 b2 b3 g1 g2 g3 a1 a2 a3 ox
    go_enter Try.func42, Try.ntmps42
    go_wp2_with (at_builtin; first | refine Lib.wpList_append_run _ rfl _ _ 89 89 rfl _ _ rfl rfl _ _ R1.out ?_ | refine Lib.wpList_append_run _ rfl _ _ 89 89 rfl _ _ rfl rfl _ _ R2.out ?_ | refine Lib.wpList_append_run _ rfl _ _ 89 89 rfl _ _ rfl rfl _ _ R3.out ?_)
    go_wp2_with (at_builtin; first | refine Lib.wpList_append_run _ rfl _ _ 89 89 rfl _ _ rfl rfl _ _ R1.out ?_ | refine Lib.wpList_append_run _ rfl _ _ 89 89 rfl _ _ rfl rfl _ _ R2.out ?_ | refine Lib.wpList_append_run _ rfl _ _ 89 89 rfl _ _ rfl rfl _ _ R3.out ?_)
    go_wp2_with (at_builtin; first | refine Lib.wpList_append_run _ rfl _ _ 89 89 rfl _ _ rfl rfl _ _ R1.out ?_ | refine Lib.wpList_append_run _ rfl _ _ 89 89 rfl _ _ rfl rfl _ _ R2.out ?_ | refine Lib.wpList_append_run _ rfl _ _ 89 89 rfl _ _ rfl rfl _ _ R3.out ?_)
    go_ret
    exact ⟨v3, rfl, by simpa using O3.out, N3.out, B3.out⟩
/-- more foreign blocks -/
theorem SX.more {Y Y' : Nat → Prop} {S : Nat} {w w1 : World} {st : Sst} {h : Nat → Option (List Int)} {vg vb : Value} (s : SX Y S w st h vg vb) (b : Below w.heap.size w w1) (hi : ∀ k, Y' k → Y k ∨ w.heap.size ≤ k) (hd : ∀ k, Y' k → k < w1.heap.size) : SX Y' S w1 st h vg vb := by
  have s1 := s.below b
  have hlt := s.lt
  refine ⟨s1.hp, s1.gv, s1.bk, s.ap, fun q => ?_, fun k e q => ?_, fun k e q => ?_, s.sg, s.sb, cx_ext s.cx (fun k hk _ => b.block k hk) ?_ ?_, s.dom⟩
  · rcases hi _ q with z | z
    · exact s.ys z
    · omega
  · have := (s.gv.lt k e).2
    rcases hi _ q with z | z
    · exact s.yg k e z
    · omega
  · have := (s.bk.lt k e).2
    rcases hi _ q with z | z
    · exact s.yb k e z
    · omega
  · rintro k (q | q)
    · rcases hi k q with z | z
      · exact .inl (.inl z)
      · exact .inr z
    · exact .inl (.inr q)
  · rintro k (q | q)
    · exact hd k q
    · exact Nat.lt_of_lt_of_le (s.cx.base k (.inr q)) b.size
/-- fewer foreign blocks -/
theorem SX.less {Y Y' : Nat → Prop} {S : Nat} {w : World} {st : Sst} {h : Nat → Option (List Int)} {vg vb : Value} (s : SX Y S w st h vg vb) (hi : ∀ k, Y' k → Y k) : SX Y' S w st h vg vb :=
  ⟨s.hp, s.gv, s.bk, s.ap, fun q => s.ys (hi _ q), fun k e q => s.yg k e (hi _ q), fun k e q => s.yb k e (hi _ q), s.sg, s.sb, by
    obtain ⟨f, t, hf⟩ := s.cx
    exact ⟨f, ⟨t.rep, fun i c hc => ⟨(t.ok i c hc).1, (t.ok i c hc).2.1, fun q => (t.ok i c hc).2.2.1 (by rcases q with q | q; exact .inl (hi _ q); exact .inr q), fun x hx q => (t.ok i c hc).2.2.2 x hx (by rcases q with q | q; exact .inl (hi _ q); exact .inr q)⟩, t.apart, fun k q => t.base k (by rcases q with q | q; exact .inl (hi _ q); exact .inr q)⟩, hf⟩, s.dom⟩
/-- a foreign block has changed -/
theorem SX.foreign {Y : Nat → Prop} {S : Nat} {w w' : World} {st : Sst} {h : Nat → Option (List Int)} {vg vb : Value} (s : SX Y S w st h vg vb) (hsz : w.heap.size ≤ w'.heap.size) (hb : ∀ k, k < w.heap.size → ¬ Y k → w'.heap[k]? = w.heap[k]?) : SX Y S w' st h vg vb := by
  refine ⟨(hb S s.lt s.ys).trans s.hp, ?_, ?_, s.ap, s.ys, s.yg, s.yb, s.sg, s.sb, Cx.other s.cx hsz fun k hk hn => hb k hk (fun q => hn (.inl q)), s.dom⟩
  · refine ⟨s.gv.1, ?_⟩
    rcases s.gv.2 with q | ⟨g, cap, cr, e, h0, hg, q⟩
    · exact .inl q
    · exact .inr ⟨g, cap, cr, e, h0, (hb g (Array.getElem?_eq_some_iff.1 hg).1 (s.yg g (by rw [e]; rfl))).trans hg, q⟩
  · refine ⟨s.bk.1, ?_⟩
    rcases s.bk.2 with q | ⟨g, cap, cr, e, h0, hg, q⟩
    · exact .inl q
    · exact .inr ⟨g, cap, cr, e, h0, (hb g (Array.getElem?_eq_some_iff.1 hg).1 (s.yb g (by rw [e]; rfl))).trans hg, q⟩
def YV (Y : Nat → Prop) (v : Value) : Nat → Prop := fun k => Y k ∨ v.ownBlock = some k
theorem held_nil (w : World) : Calls Try.prog 32 #[.pointer none] w fun r w' => r = .returned (.slice none 0 0) ∧ w' = w := by
  have KN := hide (kept_nil w)
  go_enter Try.func32, Try.ntmps32
  go_wp2_with fail
  refine KN.out.mono ?_
  rintro r w1 ⟨rfl, e1⟩
  obtain rfl := e1.symm
  go_wp2_with fail
  go_loopw [10] (fun i wr => i = .int .i64 0 ∧ wr = w) (fun _ _ => 0)
  case atStart => exact ⟨rfl, rfl⟩
  case round =>
    obtain ⟨rfl, rfl⟩ := hrel
    go_wp2_with fail
    go_ret
    exact ⟨rfl, rfl⟩
theorem row_set (g : Nat) (l : List Nat) (k A n cap : Nat) (w : World) (hn : l.length = n) (ho : w.ownsRow 0 34 1 (.slice (some ⟨g, 0, none⟩) n cap) n (pcs l)) : (w.setCell ⟨g, k, none⟩ (ptr A)).ownsRow 0 34 1 (.slice (some ⟨g, 0, none⟩) n cap) n (pcs (l.set k A)) := by
  rcases ho.2 with ⟨e, -⟩ | ⟨g', cap', cur, e, h0, hg, hle, hmx, hsz, htk⟩
  · cases e
  · cases e
    refine ⟨by rw [pcs_len, List.length_set, hn], .inr ⟨g, cap, _, rfl, h0, Ba.heap_setCell_same hg _, hle, hmx, by rw [Array.size_setIfInBounds]; exact hsz, ?_⟩⟩
    rw [Array.toList_setIfInBounds, List.take_set, htk]
    simp [pcs, List.map_set]
/-- what Held hands out: copies of all that are kept -/
structure HeldIs (Y : Nat → Prop) (S : Nat) (w w' : World) (st : Sst) (h h' : Nat → Option (List Int)) (v : Value) (As : List Nat) : Prop where
  len : As.length = (keptL st).length
  own : w'.ownsRow 0 34 1 v (keptL st).length (pcs As)
  new : ∀ k, v.ownBlock = some k → w.heap.size ≤ k
  val : ∀ (j : Nat) b l, (keptL st)[j]? = some b → h b = some l → ∃ A, As[j]? = some A ∧ h' A = some l
  frs : ∀ A ∈ As, h A = none
  ext : Ext h h'
  sw : SW (YV Y v) S w' st h'
  kp : Kp Y w w'
set_option maxHeartbeats 3200000 in
theorem held_any {Y : Nat → Prop} {S : Nat} {w : World} {st : Sst} {h : Nat → Option (List Int)} (s : SW Y S w st h) (hg : st.gv.length ≤ 1000) (hb : st.bk.length ≤ 1000) :
    Calls Try.prog 32 #[.pointer (some ⟨S, 0, none⟩)] w fun r w' => ∃ v As h', r = .returned v ∧ HeldIs Y S w w' st h h' v As := by
  obtain ⟨vg, vb, s⟩ := s
  have KA := hide (kept_any s hg hb)
  have HS := hide s
  have hlk : (keptL st).length ≤ 2001 := by
    unfold keptL
    cases st.cl <;> simp <;> omega
  have HD : Hid (∀ b ∈ keptL st, ∃ l, h b = some l) := fun b hb => s.dom b (by
    unfold keptL at hb
    rcases List.mem_append.1 hb with q | q
    · rcases List.mem_append.1 q with q | q
      · exact .inl q
      · exact .inr (.inl q)
    · exact .inr (.inr (by simpa using q)))
  clear s
  generalize hkl : keptL st = ks at *
  generalize hnk : ks.length = n at *
  go_enter Try.func32, Try.ntmps32
  go_wp2_with fail
  refine KA.out.mono ?_
  rintro r w1 ⟨v, rfl, o1, n1, b1⟩
  obtain ⟨oa, cp, rfl⟩ := own_sl o1
  have O1 := hide o1
  have N1 := hide n1
  have B1 := hide b1
  have S1 : Hid (SX (YV Y (.slice oa n cp)) S w1 st h vg vb) := HS.out.more b1 (fun k q => by rcases q with q | q; exact .inl q; exact .inr (n1 k q)) (fun k q => by
    rcases q with q | q
    · exact Nat.lt_of_lt_of_le (HS.out.ylt k q) b1.size
    · exact (o1.lt k q).2)
  clear o1 n1 b1
  go_wp2_with fail
  go_loopw [10] (fun i wr => ∃ (k : Nat) (hk : Nat → Option (List Int)) (As : List Nat), k ≤ n ∧ i = .int .i64 k ∧ (As.length = k ∧ (Ext h hk ∧ ∀ A ∈ As, h A = none) ∧ ∀ (j : Nat) b l, j < k → ks[j]? = some b → h b = some l → ∃ A, As[j]? = some A ∧ hk A = some l) ∧ wr.ownsRow 0 34 1 (.slice oa n cp) n (pcs (As ++ ks.drop k)) ∧ SX (YV Y (.slice oa n cp)) S wr st hk vg vb ∧ Kp Y w1 wr) (fun i _ => n - (intOf i).toNat)
  case atStart => exact ⟨0, h, [], Nat.zero_le _, rfl, ⟨rfl, ⟨Ext.refl _, fun A q => by cases q⟩, fun j _ _ hj => absurd hj (Nat.not_lt_zero _)⟩, O1.out, S1.out, Kp.refl _ _⟩
  case round =>
    obtain ⟨k, hk, As, hkn, rfl, ⟨hal, ⟨hex, hfr⟩, hval⟩, ho, hs, hkp⟩ := hrel
    have FR := hide hfr
    have AL := hide hal
    have EX := hide hex
    have VL := hide hval
    have OW := hide ho
    have SS := hide hs
    have KP := hide hkp
    clear hal hex hval ho hs hkp hfr
    by_cases hlt : k < n
    · have hlt' : (k : Int) < (n : Int) := by omega
      obtain ⟨b, hbk⟩ : ∃ b, ks[k]? = some b := ⟨_, List.getElem?_eq_getElem (by omega)⟩
      obtain ⟨l, hl⟩ := HD.out b (List.mem_of_getElem? hbk)
      have hlk2 := EX.out b l hl
      have hrow : (As ++ ks.drop k)[k]? = some b := by
        rw [List.getElem?_append_right (by rw [AL.out]; omega), AL.out, List.getElem?_drop]
        simpa using hbk
      obtain ⟨g, rfl⟩ : ∃ g, oa = some ⟨g, 0, none⟩ := by
        rcases OW.out.2 with ⟨e, e2⟩ | ⟨g, c2, cur, e, -⟩
        · omega
        · cases e; exact ⟨g, rfl⟩
      have c0 : wr.cell? ⟨g, k, none⟩ = some (.pointer (some ⟨b, 0, none⟩)) := by
        have := OW.out.cells (g := g) rfl k (ptr b) (by rw [pcs_at, hrow]; rfl)
        rwa [Addr.add_lit, Nat.zero_add] at this
      have CP := hide (copy_sx SS.out hlk2)
      unfold ptr at CP
      have HL := hide hl
      have HBK := hide hbk
      have HROW := hide hrow
      clear hl hbk hrow hlk2
      go_wp2_with fail
      refine CP.out.mono ?_
      rintro r w2 ⟨A, rfl, hA, s2, k2⟩
      have o2 := own_kp OW.out k2 fun x e => .inl (.inr e)
      have hgc : ∃ cur, w2.heap[g]? = some (.cells cur 34 (0, 0)) ∧ n ≤ cur.size := by
        rcases o2.2 with ⟨e, -⟩ | ⟨g', c2, cur, e, -, hg', hle, -, hsz, -⟩
        · cases e
        · cases e; exact ⟨cur, hg', by omega⟩
      obtain ⟨cur, hg2, hcs⟩ := hgc
      obtain ⟨u, hu⟩ : ∃ u, w2.cell? ⟨g, k, none⟩ = some u := ⟨_, by rw [cell_of hg2]; exact Array.getElem?_eq_getElem (by omega)⟩
      have f2 : w2.frozen? ⟨g, k, none⟩ = false := frozen_of hg2 k
      have S3 : Hid (SX (YV Y (.slice (some ⟨g, 0, none⟩) n cp)) S (w2.setCell ⟨g, k, none⟩ (.pointer (some ⟨A, 0, none⟩))) st (upd hk A l) vg vb) := s2.foreign (by rw [size_set]; exact Nat.le_refl _) fun x _ hn => heap_set_other _ _ _ _ _ (fun e => hn (.inr (by rw [e]; rfl)))
      have O3 : Hid ((w2.setCell ⟨g, k, none⟩ (.pointer (some ⟨A, 0, none⟩))).ownsRow 0 34 1 (.slice (some ⟨g, 0, none⟩) n cp) n (pcs ((As ++ ks.drop k).set k A))) := row_set g _ k A n cp w2 (by rw [List.length_append, AL.out, List.length_drop]; omega) o2
      have K3 : Hid (Kp Y w1 (w2.setCell ⟨g, k, none⟩ (.pointer (some ⟨A, 0, none⟩)))) := KP.out.trans ⟨k2.os, k2.tape, k2.output, by rw [size_set]; exact k2.size, fun x hx => by
        rw [heap_set_other _ _ _ _ _ (fun e => by have h1 := N1.out g rfl; have h2 := HS.out.ylt x hx; omega)]
        exact k2.block x (.inl (.inl hx))⟩
      have HA := hide hA
      clear s2 k2 o2 hg2 hcs hA CP
      go_wp2_with fail
      go_roundw
      case rel =>
        have e1 : (As ++ ks.drop k).set k A = (As ++ [A]) ++ ks.drop (k + 1) := by
          rw [List.set_append_right _ _ (by rw [AL.out]; omega), AL.out, Nat.sub_self]
          have : ks.drop k = b :: ks.drop (k + 1) := by
            have hkl' : k < ks.length := by omega
            rw [List.drop_eq_getElem_cons hkl']
            have := HBK.out
            rw [List.getElem?_eq_getElem hkl'] at this
            cases this
            rfl
          rw [this]
          simp
        refine ⟨k + 1, upd hk A l, As ++ [A], by omega, by go_num, ⟨by rw [List.length_append, AL.out]; rfl, ⟨EX.out.trans (Ext.upd HA.out), fun B q => ?_⟩, ?_⟩, by rw [← e1]; exact O3.out, S3.out, K3.out⟩
        · rcases List.mem_append.1 q with q | q
          · exact FR.out B q
          · rw [List.mem_singleton] at q
            rw [q]
            cases e : h A with
            | none => rfl
            | some l0 => have := EX.out A l0 e; rw [HA.out] at this; cases this
        intro j b' l' hj hb' hl'
        by_cases hjk : j = k
        · subst hjk
          rw [HBK.out] at hb'
          cases hb'
          rw [HL.out] at hl'
          cases hl'
          exact ⟨A, by rw [List.getElem?_append_right (by rw [AL.out]; omega), AL.out]; simp, upd_same _ _ _⟩
        · obtain ⟨A', h1, h2⟩ := VL.out j b' l' (by omega) hb' hl'
          exact ⟨A', by rw [List.getElem?_append_left (by rw [AL.out]; omega)]; exact h1, Ext.upd HA.out _ _ h2⟩
      case measure => simp [intOf]; omega
    · have hlt' : ¬ ((k : Int) < (n : Int)) := by omega
      go_wp2_with fail
      go_ret
      have hkn' : k = n := by omega
      have ed : ks.drop k = [] := List.drop_eq_nil_of_le (by omega)
      have ow := OW.out
      rw [ed, List.append_nil] at ow
      refine ⟨_, rfl, As, hk, ⟨by rw [hkl, AL.out, hkn', hnk], by rw [hkl, hnk]; exact ow, N1.out, fun j b l hj hl => ?_, FR.out, EX.out, ⟨_, _, SS.out⟩, ?_⟩⟩
      · rw [hkl] at hj
        exact VL.out j b l (by have := (List.getElem?_eq_some_iff.1 hj).1; omega) hj hl
      · exact (Kp.of B1.out HS.out.ylt).trans KP.out
/-- 0 at a tid -/
def z0 (t : Int) (l : List Int) : List Int := if okT t then trm (l.set t.toNat 0) else l
theorem nth_z0 {t : Int} {l : List Int} (h : okT t = true) (j : Nat) : nth (z0 t l) j = if j = t.toNat then 0 else nth l j := by
  unfold z0
  rw [if_pos h, nth_trm]
  unfold nth
  simp only [List.getD_eq_getElem?_getD, List.getElem?_set]
  by_cases e : t.toNat = j
  · subst e
    rw [if_pos rfl, if_pos rfl]
    split <;> rfl
  · rw [if_neg e, if_neg (fun q => e q.symm)]
theorem z0_idem (t : Int) (l : List Int) : z0 t (z0 t l) = z0 t l := by
  by_cases h : okT t = true
  · have c1 : Canon (z0 t (z0 t l)) := by rw [z0, if_pos h]; exact canon_trm _
    have c2 : Canon (z0 t l) := by rw [z0, if_pos h]; exact canon_trm _
    refine canon_eq c1 c2 fun j => ?_
    rw [nth_z0 h, nth_z0 h]
    split <;> rfl
  · unfold z0
    rw [if_neg h, if_neg h]
theorem drop_nil (t : Int) (w : World) : Calls Try.prog 17 #[.pointer none, .int .i64 t] w fun r w' => r = .returned (.tuple #[]) ∧ w' = w := by
  have KN := hide (kept_nil w)
  go_enter Try.func17, Try.ntmps17
  go_wp2_with fail
  refine KN.out.mono ?_
  rintro r w1 ⟨rfl, e1⟩
  obtain rfl := e1.symm
  go_wp2_with fail
  go_loopw [9] (fun i wr => i = .int .i64 0 ∧ wr = w) (fun _ _ => 0)
  case atStart => exact ⟨rfl, rfl⟩
  case round =>
    obtain ⟨rfl, rfl⟩ := hrel
    go_wp2_with fail
    go_end0
    exact ⟨rfl, rfl⟩
/-- Set of 0, of any tid -/
theorem zero_sx {Y : Nat → Prop} {S : Nat} {w : World} {st : Sst} {h : Nat → Option (List Int)} {vg vb : Value} (s : SX Y S w st h vg vb) {b : Nat} {l : List Int} (e : h b = some l) (t : Int) :
    Calls Try.prog 43 #[.pointer (some ⟨b, 0, none⟩), .int .i64 t, .int .i64 0] w fun r w' => (∃ x, r = .returned (.int .i64 x)) ∧ SX Y S w' st (upd h b (z0 t l)) vg vb ∧ Kp (Xs Y S vg vb) w w' := by
  by_cases ht : okT t = true
  · obtain ⟨t1, t2⟩ := (okT_iff t).1 ht
    have e0 : t = ((t.toNat : Nat) : Int) := by omega
    have := cx_set s.cx (hx_at e) t.toNat 0 (by omega) (by decide)
    rw [← e0] at this
    refine this.mono ?_
    rintro r w' ⟨rfl, l', hc, hv, hn, hcx, kp⟩
    have el : l' = z0 t l := canon_eq hc (by rw [z0, if_pos ht]; exact canon_trm _) fun j => by rw [hn, nth_z0 ht]
    subst el
    refine ⟨⟨_, rfl⟩, s.clk (by rw [← hx_upd]; exact hcx) kp fun b' l' e' => ?_, kp⟩
    by_cases q : b' = b
    · exact ⟨_, by rw [q]; exact upd_same _ _ _⟩
    · exact ⟨l', by rw [upd_other _ _ _ _ q]; exact e'⟩
  · refine (set_arg (some ⟨b, 0, none⟩) t 0 w (.inl (by simpa using ht))).mono ?_
    rintro r w' ⟨rfl, e'⟩
    have ez : z0 t l = l := by unfold z0; rw [if_neg ht]
    have eu : upd h b l = h := by
      funext j
      by_cases q : j = b
      · rw [q, upd_same, e]
      · rw [upd_other _ _ _ _ q]
    subst e'
    refine ⟨⟨_, rfl⟩, ?_, Kp.refl _ _⟩
    rw [ez, eu]
    exact s
set_option maxHeartbeats 3200000 in
theorem drop_any {Y : Nat → Prop} {S : Nat} {w : World} {st : Sst} {h : Nat → Option (List Int)} (s : SW Y S w st h) (t : Int) (hg : st.gv.length ≤ 1000) (hb : st.bk.length ≤ 1000) :
    Calls Try.prog 17 #[.pointer (some ⟨S, 0, none⟩), .int .i64 t] w fun r w' => r = .returned (.tuple #[]) ∧ ∃ h', (∀ b l, h b = some l → h' b = some (if b ∈ keptL st then z0 t l else l)) ∧ SW Y S w' st h' ∧ Kp Y w w' := by
  obtain ⟨vg, vb, s⟩ := s
  have KA := hide (kept_any s hg hb)
  have HS := hide s
  have hlk : (keptL st).length ≤ 2001 := by
    unfold keptL
    cases st.cl <;> simp <;> omega
  have HD : Hid (∀ b ∈ keptL st, ∃ l, h b = some l) := fun b hb => s.dom b (by
    unfold keptL at hb
    rcases List.mem_append.1 hb with q | q
    · rcases List.mem_append.1 q with q | q
      · exact .inl q
      · exact .inr (.inl q)
    · exact .inr (.inr (by simpa using q)))
  clear s
  generalize hkl : keptL st = ks at *
  generalize hnk : ks.length = n at *
  go_enter Try.func17, Try.ntmps17
  go_wp2_with fail
  refine KA.out.mono ?_
  rintro r w1 ⟨v, rfl, o1, n1, b1⟩
  obtain ⟨oa, cp, rfl⟩ := own_sl o1
  have O1 := hide o1
  have N1 := hide n1
  have B1 := hide b1
  have S1 : Hid (SX (YV Y (.slice oa n cp)) S w1 st h vg vb) := HS.out.more b1 (fun k q => by rcases q with q | q; exact .inl q; exact .inr (n1 k q)) (fun k q => by
    rcases q with q | q
    · exact Nat.lt_of_lt_of_le (HS.out.ylt k q) b1.size
    · exact (o1.lt k q).2)
  clear o1 n1 b1
  go_wp2_with fail
  go_loopw [9] (fun i wr => ∃ (k : Nat) (hk : Nat → Option (List Int)), k ≤ n ∧ i = .int .i64 k ∧ (∀ b l, h b = some l → hk b = some (if b ∈ ks.take k then z0 t l else l)) ∧ SX (YV Y (.slice oa n cp)) S wr st hk vg vb ∧ Kp (YV Y (.slice oa n cp)) w1 wr) (fun i _ => n - (intOf i).toNat)
  case atStart => exact ⟨0, h, Nat.zero_le _, rfl, fun b l e => by simpa using e, S1.out, Kp.refl _ _⟩
  case round =>
    obtain ⟨k, hk, hkn, rfl, hval, hs, hkp⟩ := hrel
    have VL := hide hval
    have SS := hide hs
    have KP := hide hkp
    clear hval hs hkp
    by_cases hlt : k < n
    · have hlt' : (k : Int) < (n : Int) := by omega
      obtain ⟨b, hbk⟩ : ∃ b, ks[k]? = some b := ⟨_, List.getElem?_eq_getElem (by omega)⟩
      obtain ⟨l, hl⟩ := HD.out b (List.mem_of_getElem? hbk)
      have hlk2 := VL.out b l hl
      obtain ⟨g, rfl⟩ : ∃ g, oa = some ⟨g, 0, none⟩ := by
        rcases O1.out.2 with ⟨e, e2⟩ | ⟨g, c2, cur, e, -⟩
        · omega
        · cases e; exact ⟨g, rfl⟩
      have OW := hide (own_kp O1.out KP.out fun x e => .inr e)
      have c0 : wr.cell? ⟨g, k, none⟩ = some (.pointer (some ⟨b, 0, none⟩)) := by
        have := OW.out.cells (g := g) rfl k (ptr b) (by rw [pcs_at, hbk]; rfl)
        rwa [Addr.add_lit, Nat.zero_add] at this
      have CP := hide (zero_sx SS.out hlk2 t)
      have HL := hide hl
      have HBK := hide hbk
      clear hl hbk hlk2
      go_wp2_with fail
      refine CP.out.mono ?_
      rintro r w2 ⟨⟨x, rfl⟩, s2, k2⟩
      have S2 := hide s2
      have K2 := hide (KP.out.trans (Kp.mono (Y := YV Y (.slice (some ⟨g, 0, none⟩) n cp)) k2 fun x q => .inl q))
      clear s2 k2 CP
      go_wp2_with fail
      go_roundw
      case rel =>
        refine ⟨k + 1, _, by omega, by go_num, ?_, S2.out, K2.out⟩
        intro b' l' e'
        have htk : ks.take (k + 1) = ks.take k ++ [b] := by
          rw [List.take_add_one, HBK.out]; rfl
        by_cases q : b' = b
        · subst q
          rw [HL.out] at e'
          cases e'
          rw [upd_same, show (if b' ∈ ks.take (k + 1) then z0 t l else l) = z0 t l from if_pos (by rw [htk]; simp)]
          split
          · rw [z0_idem]
          · rfl
        · rw [upd_other _ _ _ _ q, VL.out b' l' e', htk]
          simp [q]
      case measure => simp [intOf]; omega
    · have hlt' : ¬ ((k : Int) < (n : Int)) := by omega
      go_wp2_with fail
      go_end0
      have ed : ks.take k = ks := List.take_of_length_le (by omega)
      refine ⟨rfl, hk, fun b l e => ?_, ⟨_, _, SS.out.less fun _ q => .inl q⟩, (Kp.of B1.out HS.out.ylt).trans (Kp.mono KP.out fun _ q => .inl q)⟩
      have := VL.out b l e
      rw [ed] at this
      first | exact this | (rw [hkl]; exact this)
end Sl
end Go.Proofs.Ytekdcfdjohlfcaa
