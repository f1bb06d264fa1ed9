/- Layer 16's reference, over this seat's program: Retire. -/
import Derived.Test.YtfimfgffbfjkeaaWr7
namespace Go.Proofs.Ytfimfgffbfjkeaa
open Go.ChangeShapes Go.WideShapes Go.ChangeAt Go.RowKit
namespace Wq
open Ck
open Ba (KF Bd Nw)

def rt1 (g : Int) (t : Nat) (o : On) : List On := if (o.g == g) = true then [] else [⟨o.g, o.t, upF o.F t 0⟩]
def rtL (l : List On) (g : Int) (t : Nat) : List On := l.flatMap (rt1 g t)
theorem rt_take {l : List On} {m : Nat} {o : On} (h : l[m]? = some o) (g : Int) (t : Nat) : rtL (l.take (m + 1)) g t = rtL (l.take m) g t ++ rt1 g t o := by
  unfold rtL
  rw [List.take_add_one, h, List.flatMap_append]
  simp
theorem rt_len (g : Int) (t : Nat) : ∀ l : List On, (rtL l g t).length ≤ l.length
  | [] => Nat.le_refl _
  | o :: l => by
    show (rt1 g t o ++ rtL l g t).length ≤ _
    have := rt_len g t l
    have q : (rt1 g t o).length ≤ 1 := by unfold rt1; split <;> simp
    rw [List.length_append, List.length_cons]
    omega
section
variable {w w' : World} {G : Nat} {st : Qst} {v : Value}
set_option maxRecDepth 100000 in
set_option maxHeartbeats 800000 in
theorem rt_no (s : QX w G st v) (g : Int) (hl : st.L.length ≤ 100000) (h : at_ st.L g = -1) :
    Calls Try.prog 33 #[.pointer (some ⟨G, 0, none⟩), .int .i64 g] w fun r w' => r = .returned (.int .i64 6) ∧ Below w.heap.size w w' := by
  have A := hide (at_any s g hl)
  rw [h] at A
  clear s h
  go_enter Try.func33, Try.ntmps33
  go_wp2_with fail
  refine A.out.mono ?_
  rintro r w1 ⟨rfl, b1⟩
  have B1 := hide b1
  clear b1
  go_wp2_with fail
  go_ret
  exact ⟨rfl, B1.out⟩
set_option maxRecDepth 100000 in
set_option maxHeartbeats 3200000 in
theorem rt_yes (s : QX w G st v) (g : Int) (hl : st.L.length ≤ 100000) (k : Nat) (o0 : On) (h : at_ st.L g = (k : Int)) (hk : st.L[k]? = some o0) (ht : o0.t < 256) :
    Calls Try.prog 33 #[.pointer (some ⟨G, 0, none⟩), .int .i64 g] w fun r w' => r = .returned (.int .i64 0) ∧ ∃ v', QX w' G { st with L := rtL st.L g o0.t } v' ∧ (∀ x, v'.ownBlock = some x → w.heap.size ≤ x) ∧ KF (fun x => x = G) w w' := by
  obtain ⟨oa, c, rfl⟩ := own_sl s.ow
  have hkl : k < st.L.length := (List.getElem?_eq_some_iff.1 hk).1
  obtain ⟨b, rfl, ro⟩ := row_ro s.ow hk
  have A := hide (at_any s g hl)
  rw [h] at A
  have HS := hide s
  have RO0 := hide ro
  obtain ⟨n, hn⟩ : ∃ n, st.L.length = n := ⟨_, rfl⟩
  have HN := hide hn
  have CE := hide (fun u (b : Below w.heap.size w u) => (s.below b).cells)
  have OW := hide s.ow
  rw [hn] at CE hkl hl OW
  have hkl' : (k : Int) < (n : Int) := by omega
  have hn2 : n ≤ 9223372036854775807 := by omega
  have hlt := s.lt
  have zo := zero_on
  have zos := on_size on0
  have zr := zero_ref
  have zs := ra_size nf
  have HT := hide ht
  obtain ⟨t, htt⟩ : ∃ t, o0.t = t := ⟨_, rfl⟩
  rw [htt] at HT ⊢
  have t1 : ∀ u, Below w.heap.size w u → u.cell? ⟨b, k * 258 + 1, none⟩ = some (.int .i64 (t : Int)) := fun u bu => by rw [← htt]; exact (RO0.out.below bu).t
  have T1 := hide t1
  clear s h hk ro hn ht htt t1 RO0
  go_enter Try.func33, Try.ntmps33
  go_wp2_with fail
  refine A.out.mono ?_
  rintro r w1 ⟨rfl, b1⟩
  have B1 := hide b1
  obtain ⟨-, -, y2⟩ := CE.out w1 b1
  have hG1 : G < w1.heap.size := Nat.lt_of_lt_of_le hlt b1.size
  have tt := T1.out w1 b1
  clear b1 A
  go_wp2_with fail
  clear y2 tt
  go_loopw [7, 29] (fun vz i wr => ∃ (m : Nat) (vo : Value), vo = vz ∧ m ≤ n ∧ i = .int .i64 (m : Int) ∧ wr.ownsRow 0 62 258 vo (rtL (st.L.take m) g t).length (ons (rtL (st.L.take m) g t)) ∧ (∀ x, vo.ownBlock = some x → w.heap.size ≤ x) ∧ Below w.heap.size w wr) (fun _ i _ => n - (intOf i).toNat)
  case atStart => exact ⟨0, _, rfl, Nat.zero_le _, rfl, World.ownsRow_nil _ _ _ _, fun x e => by simp [Value.ownBlock] at e, B1.out⟩
  case round =>
    obtain ⟨m, vo, rfl, hm, rfl, ow, on, bl⟩ := hrel
    have OUT := hide ow
    have ONW := hide on
    have BL := hide bl
    clear ow on bl
    by_cases hml : m < n
    · have hml' : (m : Int) < (n : Int) := by omega
      obtain ⟨o, ho⟩ : ∃ o, st.L[m]? = some o := ⟨_, List.getElem?_eq_getElem (by have := HN.out; omega)⟩
      have OW2 := own_blk OW.out (fun g e => BL.out.block g (OW.out.lt g e).2)
      rw [← HN.out] at OW2
      obtain ⟨b', eb, ro⟩ := row_ro OW2 ho
      cases eb
      have LD := hide (ldv_on ro)
      have st1 := st_on o (heap_new wr (.cells (onA on0) 62)) (on_size on0)
      rw [setRow_new] at st1
      have X9 := hide (heap_new wr (.cells (onA o) 62))
      have g0 : (wr.alloc (.cells (onA o) 62)).cell? ⟨wr.heap.size, 0, none⟩ = some (.int .i64 o.g) := (cell_of (heap_new wr _) 0).trans (on_0 o)
      have os_ := on_size o
      have TK := hide (rt_take ho g t)
      have HO := hide ho
      clear OW2 ro ho
      have bA9 := below_alloc wr (.cells (onA o) 62)
      have B9 := hide (btr BL.out bA9)
      have OUT9 := hide (own_blk OUT.out (fun x e => bA9.block x (OUT.out.lt x e).2))
      have RA9 : Hid (RA (wr.alloc (.cells (onA o) 62)) wr.heap.size 2 o.F) := fun j hj => ⟨(cell_of X9.out (2 + j)).trans (on_2 o j hj), frozen_of X9.out _⟩
      have g1 : (wr.alloc (.cells (onA o) 62)).cell? ⟨wr.heap.size, 1, none⟩ = some (.int .i64 (o.t : Int)) := (cell_of (heap_new wr _) 1).trans (on_1 o)
      clear bA9
      obtain ⟨A, hA⟩ : ∃ A, onA o = A := ⟨_, rfl⟩
      obtain ⟨Z, hZ⟩ : ∃ Z, onA on0 = Z := ⟨_, rfl⟩
      rw [hA] at LD st1 g0 os_ X9 B9 OUT9 RA9 g1
      rw [hZ] at st1 zo zos
      have HA := hide hA
      clear hA hZ
      cases hq : (o.g == g)
      · have hne : o.g ≠ g := by simpa using hq
        have e1 : rt1 g t o = [⟨o.g, o.t, upF o.F t 0⟩] := by unfold rt1; rw [if_neg (by rw [hq]; decide)]
        rw [e1] at TK
        clear e1
        -- the record's clock, set
        have LD2 := hide (ldv_ref RA9.out)
        have st2 := st_ref o.F (heap_new (wr.alloc (.cells A 62)) (.cells (ra nf) 59)) (ra_size nf)
        rw [setRow_new, World.size_alloc] at st2
        have SE := hide (rset_ok (wr.heap.size + 1) 0 o.F t 0 ((wr.alloc (.cells A 62)).alloc (.cells (ra o.F) 59)) (RA.of (by have := heap_new (wr.alloc (.cells A 62)) (.cells (ra o.F) 59); rw [World.size_alloc] at this; exact this)) HT.out (by decide))
        have Y10 : Hid (((wr.alloc (.cells A 62)).alloc (.cells (ra o.F) 59)).heap[wr.heap.size + 1]? = some (.cells (ra o.F) 59 (0, 0))) := by have := heap_new (wr.alloc (.cells A 62)) (.cells (ra o.F) 59); rw [World.size_alloc] at this; exact this
        have B10 := hide (btr B9.out (below_alloc (wr.alloc (.cells A 62)) (.cells (ra o.F) 59)))
        have bA10 := below_alloc (wr.alloc (.cells A 62)) (.cells (ra o.F) 59)
        have OUT10 := hide (own_blk OUT9.out (fun x e => bA10.block x (OUT9.out.lt x e).2))
        have X10 := hide (Ba.heap_below X9.out bA10)
        have hs10 := World.size_alloc wr (.cells A 62)
        have vs_ := ra_size o.F
        clear bA10
        obtain ⟨V, hV⟩ : ∃ V, ra o.F = V := ⟨_, rfl⟩
        obtain ⟨Z2, hZ2⟩ : ∃ Z2, ra nf = Z2 := ⟨_, rfl⟩
        rw [hV] at LD2 st2 SE Y10 B10 OUT10 X10 vs_
        rw [hZ2] at st2 zr zs
        have HV := hide hV
        clear hV hZ2
        go_wp2_with (first | refine wpL_load rfl 62 _ rfl _ _ rfl LD.out ?_ | refine wpL_load rfl 59 _ rfl _ _ rfl LD2.out ?_)
        refine SE.out.mono ?_
        rintro r w5 ⟨rfl, e5⟩
        clear st1 st2 zr zs zo zos LD LD2 SE g0 hs10
        have hBw : w.heap.size ≤ wr.heap.size := BL.out.size
        have X5 : Hid (w5.heap[wr.heap.size + 1]? = some (.cells (ra (upF o.F t 0)) 59 (0, 0))) := by
          show _ = _
          rw [e5, Ba.heap_setCell_same Y10.out, ← HV.out, ra_set o.F (upF o.F t 0) (0 + t) _ (by have := HT.out; omega) (fun j => by rw [Nat.zero_add]; rfl)]
        have BK5 : ∀ x, x ≠ wr.heap.size + 1 → w5.heap[x]? = ((wr.alloc (.cells A 62)).alloc (.cells V 59)).heap[x]? := fun x hx => by rw [e5]; exact Below.heap_setCell _ _ _ _ hx
        have B5 : Hid (Below w.heap.size w w5) := by
          show Below _ _ _
          rw [e5]
          exact B10.out.setCell (show w.heap.size ≤ wr.heap.size + 1 by omega) _
        have X9b : Hid (w5.heap[wr.heap.size]? = some (.cells A 62 (0, 0))) := (BK5 _ (by omega)).trans X10.out
        have OUT5 : Hid (w5.ownsRow 0 62 258 vo (rtL (st.L.take m) g t).length (ons (rtL (st.L.take m) g t))) := own_blk OUT10.out (fun x e => BK5 x (by have := (OUT.out.lt x e).2; omega))
        clear e5 Y10 BK5 OUT10 OUT9 X10 B10 B9 X9
        have c0 : w5.cell? ⟨wr.heap.size, 0, none⟩ = some (.int .i64 o.g) := (cell_of X9b.out 0).trans (by rw [← HA.out]; exact on_0 o)
        have c1 : w5.cell? ⟨wr.heap.size, 1, none⟩ = some (.int .i64 (o.t : Int)) := (cell_of X9b.out 1).trans (by rw [← HA.out]; exact on_1 o)
        have LD3 := hide (ldv_ref (RA.of X5.out))
        obtain ⟨o2, ho2⟩ : ∃ o2 : On, o2 = ⟨o.g, o.t, upF o.F t 0⟩ := ⟨_, rfl⟩
        have BO : Try.prog.built 62 [(0, .int .i64 o.g), (1, .int .i64 (o.t : Int)), (2, .agg (ra (upF o.F t 0)))] = some (onA o2) := by rw [ho2]; exact built_on3 o.g (o.t : Int) (upF o.F t 0)
        have BS := hide (bs_on o2 w5)
        have bN : Below w5.heap.size w5 (w5.alloc (.cells (onA o2) 62)) := below_alloc _ _
        have hs6 := World.size_alloc w5 (.cells (onA o2) 62)
        have hrl : (rtL (st.L.take m) g t).length ≤ 100000 := by have := rt_len g t (st.L.take m); rw [List.length_take] at this; omega
        obtain ⟨v', w7, hr7, ho7, hg7, hat7⟩ := rapp o2 w5.heap.size (own_blk OUT5.out (fun x e => bN.block x (OUT5.out.lt x e).2)) (heap_new w5 _) (by omega)
        have HR := hide hr7
        have hs5 := B5.out.size
        have N7 : Hid (∀ x, v'.ownBlock = some x → w.heap.size ≤ x) := fun x e => by
          rcases hat7 with q7 | q7
          · rw [q7] at e; exact ONW.out x e
          · rw [q7, hs6] at e
            simp only [Option.some.injEq] at e
            omega
        have B7 : Hid (Below w.heap.size w w7) := by
          refine ⟨hg7.os.trans (bN.os.trans B5.out.os), hg7.tape.trans (bN.tape.trans B5.out.tape), hg7.output.trans (bN.output.trans B5.out.output), ?_, fun x hx => ?_⟩
          · have := hg7.size; rw [hs6] at this; omega
          · refine (hg7.block x (by rw [hs6]; omega) (fun e => ?_)).trans ((bN.block x (by omega)).trans (B5.out.block x hx))
            have := ONW.out x e.symm
            omega
        have OF : Hid (w7.ownsRow 0 62 258 v' (rtL (st.L.take (m + 1)) g t).length (ons (rtL (st.L.take (m + 1)) g t))) := by
          rw [TK.out, ← ho2]
          exact ho7
        obtain ⟨V2, hV2⟩ : ∃ V2, ra (upF o.F t 0) = V2 := ⟨_, rfl⟩
        rw [hV2] at LD3 BO
        have BOH := hide BO
        have hgB : wr.heap.size < w5.heap.size := Ba.heap_lt X9b.out
        clear hV2 hr7 ho7 hg7 hat7 bN hs6 ho2 X5 X9b OUT5 BO TK hrl
        generalize onA o2 = A2 at *
        obtain ⟨ov, cv, hv'⟩ := own_sl OF.out
        go_wp2_with (first
          | refine wpL_load rfl 59 _ rfl _ _ rfl LD3.out ?_
          | refine wpL_build rfl 62 _ rfl [(0, .int .i64 o.g), (1, .int .i64 (o.t : Int)), (2, .agg V2)] (by first | kernel_rfl | simp [Act.eval]) A2 BOH.out ?_
          | refine wpL_bs rfl 37 1 _ rfl #[(0, .agg A2)] (by first | kernel_rfl | simp [Act.eval]) _ _ BS.out ?_
          | (at_builtin; refine Lib.wpList_append_run _ rfl _ _ 37 37 rfl _ _ rfl rfl _ _ HR.out ?_))
        go_roundw
        case rel => exact ⟨m + 1, v', hv', by omega, by go_num, OF.out, N7.out, B7.out⟩
        case measure => simp [intOf]; omega
      · have he : o.g = g := by simpa using hq
        have e1 : rt1 g t o = [] := by unfold rt1; rw [if_pos hq]
        rw [e1, List.append_nil] at TK
        subst he
        clear e1
        go_wp2_with (refine wpL_load rfl 62 _ rfl _ _ rfl LD.out ?_)
        go_roundw
        case rel => exact ⟨m + 1, vo, rfl, by omega, by go_num, by rw [TK.out]; exact OUT9.out, ONW.out, B9.out⟩
        case measure => simp [intOf]; omega
    · have hml' : ¬ ((m : Int) < (n : Int)) := by omega
      have em : st.L.take m = st.L := List.take_of_length_le (by have := HN.out; omega)
      rw [em] at OUT
      clear em
      obtain ⟨oo, co, hvo⟩ := own_sl OUT.out
      subst hvo
      have QR : Hid (QX wr G st (.slice (some ⟨b, 0, none⟩) n c)) := by
        have hh := HS.out
        rw [HN.out] at hh
        exact hh.below BL.out
      have hGr : G < wr.heap.size := QR.out.lt
      have y2 : wr.cell? ⟨G, 2, none⟩ = some (.slice (some ⟨b, 0, none⟩) n c) := QR.out.cells.2.2
      have f2 : wr.frozen? ⟨G, 2, none⟩ = false := frozen_of QR.out.hp 2
      obtain ⟨nl, hnl⟩ : ∃ nl, (rtL st.L g t).length = nl := ⟨_, rfl⟩
      rw [hnl] at OUT ONW ⊢
      have HNL := hide hnl
      clear hnl
      have QF : Hid (QX (wr.setCell ⟨G, 2, none⟩ (.slice oo nl co)) G { st with L := rtL st.L g t } (.slice oo nl co)) := by
        refine ⟨?_, ?_, fun e => ?_⟩
        · rw [Ba.heap_setCell_same QR.out.hp]
          rfl
        · show World.ownsRow _ 0 _ 258 _ (rtL st.L g t).length _
          rw [HNL.out]
          exact own_blk OUT.out fun x e => Below.heap_setCell _ _ _ _ (show x ≠ G by have := ONW.out x e; omega)
        · have := ONW.out G e; omega
      have KFF : Hid (KF (fun x => x = G) w (wr.setCell ⟨G, 2, none⟩ (.slice oo nl co))) := by
        refine ⟨BL.out.os, BL.out.tape, BL.out.output, ?_, fun x hx hr => (Below.heap_setCell _ _ _ _ hr).trans (BL.out.block x hx)⟩
        have : (wr.setCell ⟨G, 2, none⟩ (.slice oo nl co)).heap.size = wr.heap.size := by simp [World.setCell]
        rw [this]
        exact BL.out.size
      go_wp2_with fail
      go_ret
      exact ⟨rfl, _, QF.out, ONW.out, KFF.out⟩
end
end Wq
end Go.Proofs.Ytfimfgffbfjkeaa
