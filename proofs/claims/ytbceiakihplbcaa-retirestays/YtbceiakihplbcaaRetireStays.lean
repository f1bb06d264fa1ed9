/- Nobody learns more: where a tid is settled, the living join one another, and what is held, in any order, and still have the same number there. -/
import Derived.Test.YtbceiakihplbcaaTb2
import Derived.Deep.Cut
import Derived.Deep.RegionHeld3
import Derived.ShutString
import Derived.ChangeOld
import Derived.Below
namespace Go.Proofs.Ytbceiakihplbcaa.retireStays
open Go.ChangeShapes Go.WideShapes Go.ChangeAt Go.RowKit
open Go.ChangeMaps (open_string shut_string)
open Rt Ck

theorem own : ownKnob Try.prog.godebug = none := by kernel_rfl
theorem laidOut : laidOutB Try.prog = true := by kernel_rfl

set_option maxRecDepth 100000 in
set_option maxHeartbeats 12800000 in
theorem core {w : World} (tid : Int) (oa : Option Addr) (a : List (List Int)) (c : Nat) (hA : Ba.GAt w oa 1 (LE w) a) (hca : a.length ≤ c) (hcm : c ≤ maxLen) (oj : Option Addr) (l : List Jq) (d : Nat) (hJ : Ba.GAt w oj 2 JE l) (hM2 : l.length ≤ maxLen) :
    Calls Try.prog 5 #[.int .i64 tid, .slice oa a.length c, .slice oj l.length d] w fun r w' => r = .returned (.bool true) ∧ Below w.heap.size w w' := by
  have LG := hide (large_any oa none a [] a.length 0 c 0 rfl rfl w hA (Ba.GAt.nil _ _ _ _) (Nat.le_trans hca hcm) (Nat.zero_le _))
  have SE := hide settled_any
  have HA := hide hA
  have HJ := hide hJ
  clear hA hJ
  unfold LgR at LG
  obtain ⟨n, hn⟩ : ∃ n, a.length = n := ⟨_, rfl⟩
  obtain ⟨nj, hnj⟩ : ∃ nj, l.length = nj := ⟨_, rfl⟩
  rw [hn] at LG hca ⊢
  rw [hnj] at hM2 ⊢
  have hj2 : nj ≤ 9223372036854775807 := by simp only [maxLen] at hM2; omega
  have hc2 : c ≤ 9223372036854775807 := by simp only [maxLen] at hcm; omega
  clear hM2 hcm
  have zr := zero_ref
  go_enter Try.func5, Try.ntmps5
  go_wp2_with fail
  refine LG.out.mono ?_
  rintro r w0 ⟨z, rfl, hz, e0⟩
  obtain rfl := e0.symm
  clear LG
  by_cases hgo : z = false ∧ nj ≤ 100 ∧ 2 ≤ n
  · obtain ⟨rfl, hj100, hn2⟩ := hgo
    have hn60 := (hz rfl).1
    have hj100' : ¬ ((100 : Int) < (nj : Int)) := by omega
    have hn2' : ¬ ((n : Int) < 2) := by omega
    obtain ⟨x0, hx0⟩ : ∃ x0, a[0]? = some x0 := ⟨_, List.getElem?_eq_getElem (by omega)⟩
    obtain ⟨ga, offa, -, rfl, -⟩ := HA.out 0 x0 hx0
    obtain ⟨N2, hN2⟩ : ∃ N2 : Nat, N2 = n / 2 := ⟨_, rfl⟩
    have hN2a : N2 ≤ n := by omega
    have hN2b : N2 < n := by omega
    have hN2c : N2 ≤ c := by omega
    have hN2d : ¬ (c = N2) := by omega
    have hq : (n : Int) / 2 = (N2 : Int) := by omega
    have hq2 : Int.tdiv (n : Int) 2 = (N2 : Int) := by rw [Int.tdiv_eq_ediv_of_nonneg (by omega)]; exact hq
    clear hx0 hz hN2
    have C0 : Cx (fun k => k < w.heap.size) w (hx fun _ => none) := Cx.empty _ w fun _ h => h
    have A1 := hide (all_any C0 (some ⟨ga, offa, none⟩) (a.take N2) N2 c (by rw [List.length_take]; omega) (by omega) (GAt.take HA.out N2))
    have A2 := hide (fun (Y : Nat → Prop) u (h0 : Nat → Option (List Int)) (cx : Cx Y u (hx h0)) (bu : Below w.heap.size w u) => all_any cx (some ⟨ga, offa + N2, none⟩) (a.drop N2) (n - N2) (c - N2) (by rw [List.length_drop]; omega) (by omega) (GAt.drop (GAt.keep HA.out bu) N2))
    have LT1 := lsF_len (a.take N2)
    have LT2 := lsF_len (a.drop N2)
    rw [List.length_take] at LT1
    rw [List.length_drop] at LT2
    clear C0
    go_wp2_with fail
    refine A1.out.mono ?_
    rintro r w1 ⟨vC1, vW1, ks, h1, rfl, R1⟩
    obtain ⟨oC, nC, cC, rfl⟩ := own_sl3 R1.oc
    obtain ⟨oW, nW, cW, rfl⟩ := own_sl3 R1.ow
    have b1 := Ba.below_alloc w1 (.cells #[.slice oC nC cC, .slice oW nW cW] 28)
    have B1 := hide (Rt.btr R1.bl b1)
    have CX1 : Hid (Cx (fun k => (k < w.heap.size ∨ (Value.slice oC nC cC).ownBlock = some k ∨ (Value.slice oW nW cW).ownBlock = some k) ∨ k = w1.heap.size) (w1.alloc (.cells #[.slice oC nC cC, .slice oW nW cW] 28)) (hx h1)) := by
      refine cx_ext R1.cx (fun k hk _ => b1.block k hk) (fun k q => ?_) (fun k q => ?_)
      · rcases q with q | q
        · exact .inl q
        · exact .inr (by omega)
      · rw [World.size_alloc]
        rcases q with q | q
        · exact Nat.lt_succ_of_lt (R1.cx.base k q)
        · omega
    have H8 : Hid ((w1.alloc (.cells #[.slice oC nC cC, .slice oW nW cW] 28)).heap[w1.heap.size]? = some (.cells #[.slice oC nC cC, .slice oW nW cW] 28 (0, 0))) := heap_new _ _
    have R1H := hide R1
    have A2b := hide (A2.out _ _ _ CX1.out B1.out)
    clear R1 A1 A2 b1
    go_wp2_with fail
    refine A2b.out.mono ?_
    rintro r w2 ⟨vC2, vW2, hs, h2, rfl, R2⟩
    obtain ⟨oD, nD, cD, rfl⟩ := own_sl3 R2.oc
    obtain ⟨oX, nX, cX, rfl⟩ := own_sl3 R2.ow
    have b2 := Ba.below_alloc w2 (.cells #[.slice oD nD cD, .slice oX nX cX] 28)
    have B2 := hide (Rt.btr (Rt.btr B1.out R2.bl) b2)
    obtain ⟨X4, hX4⟩ : ∃ X4 : Nat → Prop, X4 = fun k => ((((k < w.heap.size ∨ (Value.slice oC nC cC).ownBlock = some k ∨ (Value.slice oW nW cW).ownBlock = some k) ∨ k = w1.heap.size) ∨ (Value.slice oD nD cD).ownBlock = some k ∨ (Value.slice oX nX cX).ownBlock = some k) ∨ k = w2.heap.size) := ⟨_, rfl⟩
    have XL : Hid (∀ k, k < w.heap.size → X4 k) := fun k q => by rw [hX4]; exact .inl (.inl (.inl (.inl q)))
    have XC : Hid (∀ g, (Value.slice oC nC cC).ownBlock = some g → X4 g) := fun k q => by rw [hX4]; exact .inl (.inl (.inl (.inr (.inl q))))
    have XD : Hid (∀ g, (Value.slice oD nD cD).ownBlock = some g → X4 g) := fun k q => by rw [hX4]; exact .inl (.inr (.inl q))
    have X8 : Hid (X4 w1.heap.size) := by rw [hX4]; exact .inl (.inl (.inr rfl))
    have X9 : Hid (X4 w2.heap.size) := by rw [hX4]; exact .inr rfl
    have CX4 : Hid (Cx X4 (w2.alloc (.cells #[.slice oD nD cD, .slice oX nX cX] 28)) (hx h2)) := by
      rw [hX4]
      refine cx_ext R2.cx (fun k hk _ => b2.block k hk) (fun k q => ?_) (fun k q => ?_)
      · rcases q with q | q
        · exact .inl q
        · exact .inr (by omega)
      · rw [World.size_alloc]
        rcases q with q | q
        · exact Nat.lt_succ_of_lt (R2.cx.base k q)
        · omega
    have H9 : Hid ((w2.alloc (.cells #[.slice oD nD cD, .slice oX nX cX] 28)).heap[w2.heap.size]? = some (.cells #[.slice oD nD cD, .slice oX nX cX] 28 (0, 0))) := heap_new _ _
    have bb := Rt.btr R2.bl b2
    have H82 := hide ((bb.block w1.heap.size (Ba.heap_lt H8.out)).trans H8.out)
    have D2 : Hid (∀ z ∈ ks ++ hs, h2 z.1 = some z.2) := fun z hz => by
      rcases List.mem_append.1 hz with q | q
      · exact R2.ex _ _ (R1H.out.dom z q)
      · exact R2.dom z q
    have hkl : ks.length ≤ 60 := by
      have := congrArg List.length R1H.out.hk
      rw [List.length_map] at this; omega
    have hsl : hs.length ≤ 60 := by
      have := congrArg List.length R2.hk
      rw [List.length_map] at this; omega
    have OC : Hid ((w2.alloc (.cells #[.slice oD nD cD, .slice oX nX cX] 28)).ownsRow (w.heap.size + 2) 48 1 (.slice oC nC cC) ks.length (pts ks)) := own_sm R1H.out.oc (fun g e => by
      have hg := (R1H.out.oc.lt g e).2
      rw [bb.block g (by rw [World.size_alloc]; omega), Below.heap_alloc _ _ _ hg])
    have OD : Hid ((w2.alloc (.cells #[.slice oD nD cD, .slice oX nX cX] 28)).ownsRow ((w1.alloc (.cells #[.slice oC nC cC, .slice oW nW cW] 28)).heap.size + 2) 48 1 (.slice oD nD cD) hs.length (pts hs)) := own_sm R2.oc (fun g e => b2.block g (R2.oc.lt g e).2)
    clear R2 R1H A2b b2 bb hX4 CX1 H8 B1 LT1 LT2
    go_upto_region 6 with fail
    generalize w2.alloc (.cells #[.slice oD nD cD, .slice oX nX cX] 28) = w3 at *
    generalize w2.heap.size = T9 at *
    generalize w1.heap.size = T8 at *
    generalize (w1.alloc (.cells #[.slice oC nC cC, .slice oW nW cW] 28)).heap.size + 2 = bD at *
    generalize w.heap.size + 2 = bC at *
    obtain ⟨ka, hnC⟩ := row_kat OC.out (fun z hz => (CX4.out.get (hx_at (D2.out z (List.mem_append_left _ hz)))).1)
    obtain ⟨kb, hnD⟩ := row_kat OD.out (fun z hz => (CX4.out.get (hx_at (D2.out z (List.mem_append_right _ hz)))).1)
    have OF1 := hide (Rt.of_any tid oC oD cC cD nC nD ks hs hnC.symm hnD.symm w3 ka kb (by omega) (by omega))
    have HNC := hide hnC
    have HND := hide hnD
    clear hnC hnD
    unfold ofV at OF1
    obtain ⟨o, ho⟩ : ∃ o, cutOf tid (ks.map Prod.snd) (hs.map Prod.snd) = o := ⟨_, rfl⟩
    rw [ho] at OF1
    have q0 := cell_of H82.out 0
    have q1 := cell_of H9.out 0
    simp at q0 q1
    clear ka kb
    cases o with
    | none =>
      simp only [Option.getD_none, Option.isSome_none] at OF1
      go_wp2_with fail
      refine OF1.out.mono ?_
      rintro r w4 ⟨rfl, b4⟩
      have B4 := hide (Rt.btr B2.out b4)
      clear b4
      go_wp2_with fail
      refine (SE.out _).mono ?_
      rintro r w7 ⟨rfl, b7⟩
      have B7 := hide (Rt.btr B4.out b7)
      clear b7
      go_wp2_with fail
      go_ret
      exact ⟨rfl, B7.out⟩
    | some cut =>
      simp only [Option.getD_some, Option.isSome_some] at OF1
      obtain ⟨z1, ks', hks⟩ : ∃ z1 ks', ks = z1 :: ks' := by
        cases ks with
        | nil => simp [cutOf] at ho
        | cons z1 ks' => exact ⟨z1, ks', rfl⟩
      have CS : Hid ((0 ≤ tid ∧ tid < 256) ∧ (∀ z ∈ ks, gt z.2 tid = cut) ∧ ∀ z ∈ hs, gt z.2 tid ≤ cut) := by
        rw [hks] at ho ⊢
        obtain ⟨e1, e2, e3, e4⟩ := cut_some ho
        refine ⟨e1, fun z hz => ?_, fun z hz => e4 _ (List.mem_map.2 ⟨z, hz, rfl⟩)⟩
        rcases List.mem_cons.1 hz with rfl | q
        · exact e2.symm
        · exact e3 _ (List.mem_map.2 ⟨z, q, rfl⟩)
      clear ho
      go_wp2_with fail
      refine OF1.out.mono ?_
      rintro r w4 ⟨rfl, b4⟩
      have B4 := hide b4
      clear b4 OF1 q0 q1
      have OC4 := hide (own_sm OC.out (w' := w4) (fun g e => B4.out.block g (OC.out.lt g e).2))
      have OD4 := hide (own_sm OD.out (w' := w4) (fun g e => B4.out.block g (OD.out.lt g e).2))
      obtain ⟨gC, rfl⟩ : ∃ gC, oC = some ⟨gC, 0, none⟩ := by
        rcases OC4.out.2 with ⟨e, q⟩ | ⟨g, cap, cr, e, -⟩
        · rw [hks] at q; simp at q
        · cases e; exact ⟨g, rfl⟩
      obtain ⟨i1, hi1, hy1, hy2, hy3⟩ := info_parts info_pc
      have INP := hide (And.intro hi1 (And.intro hy1 (And.intro hy2 hy3)))
      have hks1 : 0 < ks.length := by rw [hks]; simp
      clear hi1 hy1 hy2 hy3 hks
      have q0 := cell_of ((B4.out.block T8 (Ba.heap_lt H82.out)).trans H82.out) 0
      have q1 := cell_of ((B4.out.block T9 (Ba.heap_lt H9.out)).trans H9.out) 0
      simp at q0 q1
      have NW1 : Hid (∀ j u, (pts ks)[j]? = some u → w4.cell? ((⟨gC, 0, none⟩ : Addr).add j) = some u) := by
        intro j u hj
        have hj2 : j < (pts ks).length := (List.getElem?_eq_some_iff.1 hj).1
        have : (pts ks).length = ks.length := by simp [pts]
        have oc := OC4.out
        rw [HNC.out] at oc
        rw [Addr.add_lit, Nat.zero_add, oc.cellAt j (show j < ks.length * 1 by omega)]
        exact hj
      have ONp : Hid (∀ (ks : List (Nat × List Int)), ∀ u ∈ pts ks, u.oneCell' = true) := by
        intro ks u hu
        obtain ⟨z, -, rfl⟩ := List.mem_map.1 hu
        rfl
      have LP : Hid (∀ (ks : List (Nat × List Int)), (pts ks).length = ks.length * 1) := by intro ks; simp [pts]
      have PN := hide (show (pts ks).length = nC * 1 from by rw [LP.out, HNC.out])
      have hm1 : 0 + nC ≤ maxLen := by have := HNC.out; simp only [maxLen]; omega
      have hm2 : (0 + nC) * 8 ≤ 140737488355328 := by have := HNC.out; omega
      have O0 := hide (World.ownsRow_nil w4 w4.heap.size 48 1)
      have ON1 := hide (ONp.out ks)
      go_wp2_with (at_builtin; refine wpList_append_own_at _ rfl _ _ 25 rfl w4.heap.size 48 i1 _ 1 8 Try.underlying25 INP.out.1 INP.out.2.1 INP.out.2.2.1 INP.out.2.2.2 rfl (by decide) _ _ _ rfl O0.out ⟨gC, 0, none⟩ nC cC (pts ks) rfl PN.out NW1.out ON1.out hm1 hm2 (Nat.le_refl _) ?_)
      intro v5 w5 o5 g5 x5 e5
      obtain ⟨g5a, c5, rfl, hc5⟩ : ∃ g5a c5, v5 = .slice (some ⟨g5a, 0, none⟩) nC c5 ∧ nC ≤ c5 := by
        have cp := HNC.out
        rcases o5.2 with ⟨e, q⟩ | ⟨g, cap, cr, e, -, -, h1, -⟩
        · exfalso; omega
        · exact ⟨g, cap, e, h1⟩
      have b5 : Below w4.heap.size w4 w5 := ⟨g5.os, g5.tape, g5.output, g5.size, fun k hk => g5.block k hk (by simp [Value.ownBlock])⟩
      have OD5 := hide (own_sm OD4.out (w' := w5) (fun g e => b5.block g (OD4.out.lt g e).2))
      have q1 := cell_of ((b5.block T9 (Ba.heap_lt ((B4.out.block T9 (Ba.heap_lt H9.out)).trans H9.out))).trans ((B4.out.block T9 (Ba.heap_lt H9.out)).trans H9.out)) 0
      simp at q1
      have O5 := hide o5
      have B5 := hide b5
      clear o5 g5 x5 e5 b5 NW1 ON1 PN q0
      by_cases hD : oD = none
      · subst hD
        obtain ⟨rfl, rfl, rfl⟩ : nD = 0 ∧ cD = 0 ∧ hs = [] := by
          rcases OD5.out.2 with ⟨e, q⟩ | ⟨g, cap, cr, e, -⟩
          · cases e; exact ⟨rfl, rfl, List.length_eq_zero_iff.1 q⟩
          · cases e
        go_upto_region 12 with fail
        have NB : Hid (nC = nC + 0) := rfl
        have B46 := hide B5.out
        have O6 : Hid (w5.ownsRow w4.heap.size 48 1 (.slice (some ⟨g5a, 0, none⟩) nC c5) (ks.length + ([] : List (Nat × List Int)).length) (pts ks ++ pts [])) := by
          have := O5.out
          show w5.ownsRow w4.heap.size 48 1 (.slice (some ⟨g5a, 0, none⟩) nC c5) (ks.length + 0) (pts ks ++ [])
          rw [Nat.add_zero, List.append_nil, ← HNC.out]
          exact this
        have G6 : Hid (w4.heap.size ≤ g5a ∧ g5a < w5.heap.size) := O5.out.lt g5a (by simp [Value.ownBlock])
        clear O5 B5 OD5
        obtain ⟨bA, hbA⟩ : ∃ bA : List Nat, bA = ks.map Prod.fst := ⟨_, rfl⟩
        obtain ⟨bB, hbB⟩ : ∃ bB : List Nat, bB = ([] : List (Nat × List Int)).map Prod.fst := ⟨_, rfl⟩
        have hnA : bA.length = nC := by rw [hbA, List.length_map]; exact HNC.out.symm
        have hnBB : bB.length = 0 := by rw [hbB, List.length_map]; exact HND.out.symm
        have hA0 : bA ≠ [] := by intro e; rw [e] at hnA; have := HNC.out; simp at hnA; omega
        obtain ⟨X6, hX6⟩ : ∃ X6 : Nat → Prop, X6 = fun k => X4 k ∨ k = g5a := ⟨_, rfl⟩
        have B36 := hide (Rt.btr B4.out B46.out)
        have P6A : Hid (PAt w5 (some ⟨gC, 0, none⟩) bA) := by
          rw [hbA]
          have := own_sm OC4.out (w' := w5) (fun g e => B46.out.block g (OC4.out.lt g e).2)
          have e : pts ks = (ks.map Prod.fst).map pt := by first | rfl | simp [pts, Function.comp_def]
          rw [e, show ks.length = (ks.map Prod.fst).length by simp] at this
          exact (row_pat this).1
        have P6B : Hid (PAt w5 (none : Option Addr) bB) := by
          rw [hbB]
          have := own_sm OD4.out (w' := w5) (fun g e => B46.out.block g (OD4.out.lt g e).2)
          have e : pts ([] : List (Nat × List Int)) = (([] : List (Nat × List Int)).map Prod.fst).map pt := by first | rfl | simp [pts, Function.comp_def]
          rw [e, show ([] : List (Nat × List Int)).length = (([] : List (Nat × List Int)).map Prod.fst).length by simp] at this
          exact (row_pat this).1
        have P6 : Hid (PAt w5 (some ⟨g5a, 0, none⟩) (bA ++ bB)) := by
          have e : pts ks ++ pts ([] : List (Nat × List Int)) = (bA ++ bB).map pt := by rw [hbA, hbB]; simp [pts, Function.comp_def]
          have o := O6.out
          rw [e, show ks.length + ([] : List (Nat × List Int)).length = (bA ++ bB).length by rw [hbA, hbB]; simp] at o
          exact (row_pat o).1
        have S6 : Hid (SI X6 w5 bA bB tid cut h2) := by
          rw [hX6]
          have dom : ∀ z ∈ ks ++ ([] : List (Nat × List Int)), lh h2 z.1 = z.2 := fun z hz => by unfold lh; rw [D2.out z hz]; rfl
          refine ⟨cx_ext CX4.out (fun k hk _ => B36.out.block k hk) (fun k q => ?_) (fun k q => ?_), fun b hb => ?_, fun b hb => ?_, fun b hb => ?_⟩
          · rcases q with q | q
            · exact .inl q
            · exact .inr (by rw [q]; exact Nat.le_trans B4.out.size G6.out.1)
          · rcases q with q | q
            · exact Nat.lt_of_lt_of_le (CX4.out.base k q) B36.out.size
            · rw [q]; exact G6.out.2
          · rw [hbA, hbB, ← List.map_append] at hb
            obtain ⟨z, hz, rfl⟩ := List.mem_map.1 hb
            exact ⟨z.2, D2.out z hz⟩
          · rw [hbA] at hb
            obtain ⟨z, hz, rfl⟩ := List.mem_map.1 hb
            rw [dom z (List.mem_append_left _ hz)]
            exact CS.out.2.1 z hz
          · rw [hbB] at hb
            obtain ⟨z, hz, rfl⟩ := List.mem_map.1 hb
            rw [dom z (List.mem_append_right _ hz)]
            exact CS.out.2.2 z hz
        have M6 : Hid ((∀ k, k < w.heap.size → X6 k) ∧ X6 T8 ∧ X6 T9 ∧ X6 gC ∧ X6 g5a ∧ ∀ g off, (none : Option Addr) = some ⟨g, off, none⟩ → X6 g) := by
          rw [hX6]
          have eC : (Value.slice (some ⟨gC, 0, none⟩) nC cC).ownBlock = some gC := by simp [Value.ownBlock]
          refine ⟨fun k q => .inl (XL.out k q), .inl X8.out, .inl X9.out, .inl (XC.out gC eC), .inr rfl, fun g off e => ?_⟩
          have := own_sm OD4.out (w' := w5) (fun g e => B46.out.block g (OD4.out.lt g e).2)
          have e' : pts ([] : List (Nat × List Int)) = (([] : List (Nat × List Int)).map Prod.fst).map pt := by first | rfl | simp [pts, Function.comp_def]
          rw [e', show ([] : List (Nat × List Int)).length = (([] : List (Nat × List Int)).map Prod.fst).length by simp] at this
          exact .inl (XD.out g ((row_pat this).2.2 g off e))
        have H86 := hide ((B36.out.block T8 (Ba.heap_lt H82.out)).trans H82.out)
        have H96 := hide ((B36.out.block T9 (Ba.heap_lt H9.out)).trans H9.out)
        have BW6 := hide (Rt.btr B2.out B36.out)
        have HNB : Hid (nC = nC + 0) := NB.out
        clear hX6 hbA hbB CX4 D2 OC OD OC4 OD4 O6 XL XC XD X8 X9 H82 H9 B36 B46 B4 B2 G6 NB ONp LP INP
        go_wp2_with fail
        go_loopw [65] (fun iv wr => ∃ (k : Nat) (h : Nat → Option (List Int)), k ≤ nj ∧ iv = .int .i64 (k : Int) ∧ SI X6 wr bA bB tid cut h ∧ Kp X6 w5 wr) (fun iv _ => nj - (intOf iv).toNat)
        case atStart => exact ⟨0, h2, Nat.zero_le _, rfl, S6.out, Kp.refl _ _⟩
        case round =>
          clear S6
          obtain ⟨k, h, hk, rfl, si, kp⟩ := hrel
          have SH := hide si
          have KH := hide kp
          clear si kp
          by_cases hlt : k < nj
          · have hlt' : (k : Int) < (nj : Int) := by omega
            obtain ⟨z, hz⟩ : ∃ z, l[k]? = some z := ⟨_, List.getElem?_eq_getElem (by omega)⟩
            obtain ⟨gj, offj, cs, rfl, hcl, hcell, hcs⟩ := HJ.out k z hz
            unfold JE at hcs
            subst hcs
            have BWr := Rt.Kp.lw BW6.out KH.out M6.out.1
            have p0 := Rt.cellB (hcell 0 (by decide)) BWr
            have p1 := Rt.cellB (hcell 1 (by decide)) BWr
            obtain ⟨zi, zk⟩ := z
            simp only [Nat.add_zero] at p0
            simp at p0 p1
            have S7 := hide (SH.out.box (.cells #[.int .i64 zi, .int .i64 zk] 47))
            have K7 := hide (KH.out.trans (Rt.Kp.of (Ba.below_alloc wr (.cells #[.int .i64 zi, .int .i64 zk] 47)) SH.out.cx.base))
            have H14 : Hid ((wr.alloc (.cells #[.int .i64 zi, .int .i64 zk] 47)).heap[wr.heap.size]? = some (.cells #[.int .i64 zi, .int .i64 zk] 47 (0, 0))) := heap_new _ _
            clear hz hcell hcl BWr SH KH
            go_upto_region 15 with fail
            generalize wr.alloc (.cells #[.int .i64 zi, .int .i64 zk] 47) = w7 at *
            generalize wr.heap.size = T14 at *
            have t8 := cell_of ((K7.out.block T8 M6.out.2.1).trans H86.out) 0
            have j0 := cell_of H14.out 0
            have j1 := cell_of H14.out 1
            simp at t8 j0 j1
            clear p0 p1
            have FINB : Hid (SI X6 w7 bA bB tid cut h) := S7.out.less fun _ q => .inl q
            by_cases c1 : zi < 0
            · go_wp2_with fail
              go_roundw
              case rel => exact ⟨k + 1, h, by omega, by go_num, FINB.out, K7.out⟩
              case measure => simp [intOf]; omega
            by_cases c2 : (nC : Int) ≤ zi
            · go_wp2_with fail
              go_roundw
              case rel => exact ⟨k + 1, h, by omega, by go_num, FINB.out, K7.out⟩
              case measure => simp [intOf]; omega
            by_cases c3 : zk < 0
            · go_wp2_with fail
              go_roundw
              case rel => exact ⟨k + 1, h, by omega, by go_num, FINB.out, K7.out⟩
              case measure => simp [intOf]; omega
            by_cases c4 : (nC : Int) ≤ zk
            · go_wp2_with fail
              go_roundw
              case rel => exact ⟨k + 1, h, by omega, by go_num, FINB.out, K7.out⟩
              case measure => simp [intOf]; omega
            obtain ⟨I, rfl⟩ : ∃ I : Nat, zi = (I : Int) := ⟨zi.toNat, by omega⟩
            obtain ⟨K, rfl⟩ : ∃ K : Nat, zk = (K : Int) := ⟨zk.toNat, by omega⟩
            have hI : (I : Int) < (nC : Int) := by omega
            have hK : (K : Int) < (nC : Int) := by omega
            obtain ⟨bi, hbi⟩ : ∃ bi, bA[I]? = some bi := ⟨_, List.getElem?_eq_getElem (by omega)⟩
            obtain ⟨bk, hbk⟩ : ∃ bk, (bA ++ bB)[K]? = some bk := ⟨_, List.getElem?_eq_getElem (by rw [List.length_append]; have := HNB.out; omega)⟩
            have JN := hide ((S7.out.below (Ba.bdrew1 w7)).join (List.mem_of_getElem? hbi) (List.mem_of_getElem? hbk))
            have KEEP : Hid (∀ u, Kp (fun k => X6 k ∨ k = T14) w7 u → u.cell? ⟨T8, 0, none⟩ = some (.slice (some ⟨gC, 0, none⟩) nC cC) ∧ u.cell? ⟨T14, 0, none⟩ = some (.int .i64 (I : Int)) ∧ u.cell? ⟨T14, 1, none⟩ = some (.int .i64 (K : Int)) ∧ u.cell? ⟨gC, I, none⟩ = some (.pointer (some ⟨bi, 0, none⟩)) ∧ u.cell? ⟨g5a, K, none⟩ = some (.pointer (some ⟨bk, 0, none⟩))) := by
              intro u ku
              have k6 := K7.out.trans (Rt.Kp.mono ku fun _ q => .inl q)
              have e8 := (k6.block T8 M6.out.2.1).trans H86.out
              have e14 := (ku.block T14 (.inr rfl)).trans H14.out
              obtain ⟨g1, o1, f1, d1⟩ := (P6A.out.kp k6 (fun g off e => by cases e; exact M6.out.2.2.2.1)) I bi hbi
              obtain ⟨g2, o2, f2, d2⟩ := (P6.out.kp k6 (fun g off e => by cases e; exact M6.out.2.2.2.2.1)) K bk hbk
              cases f1
              cases f2
              rw [Nat.zero_add] at d1 d2
              exact ⟨cell_of e8 0, cell_of e14 0, cell_of e14 1, d1, d2⟩
            obtain ⟨t8', j0', j1', d1, d2⟩ := KEEP.out w7 (Kp.refl _ _)
            have hgA : gC < w7.heap.size := World.block_lt_of_cell? w7 _ d1
            clear c1 c2 c3 c4 hbi hbk FINB t8 j0 j1
            go_upto_region 16 with fail
            go_region_held3 (fun w' => w'.cell? ⟨T8, 0, none⟩ = some (.slice (some ⟨gC, 0, none⟩) nC cC) ∧ w'.cell? ⟨T14, 0, none⟩ = some (.int .i64 (I : Int)) ∧ w'.cell? ⟨T14, 1, none⟩ = some (.int .i64 (K : Int)) ∧ w'.cell? ⟨gC, I, none⟩ = some (.pointer (some ⟨bi, 0, none⟩)) ∧ w'.cell? ⟨g5a, K, none⟩ = some (.pointer (some ⟨bk, 0, none⟩)))
              (first | (go_keep; done) | exact KEEP.out _ ((Rt.Kp.of (Ba.bdrew1 w7) S7.out.cx.base).trans k8))
              ((go_at_call 15; refine JN.out.mono ?_; rintro r w8 ⟨x8, rfl, ⟨h8, s8⟩, k8⟩))
            have S8 := hide (s8.less (Z := X6) fun _ q => .inl q)
            have K8 := hide (K7.out.trans (Rt.Kp.mono (Y := X6) ((Rt.Kp.of (Ba.bdrew1 w7) S7.out.cx.base).trans k8) fun _ q => .inl q))
            have t8 := cell_of ((K8.out.block T8 M6.out.2.1).trans H86.out) 0
            simp at t8
            have GA : Hid (∀ m b, bA[m]? = some b → w8.cell? ⟨gC, m, none⟩ = some (.pointer (some ⟨b, 0, none⟩)) ∧ Calls Try.prog 16 #[.pointer (some ⟨b, 0, none⟩), .int .i64 tid] w8 fun r w' => r = .returned (.int .i64 cut) ∧ w' = w8) := by
              intro m b hb
              obtain ⟨g1, o1, f1, d1⟩ := (P6A.out.kp K8.out (fun g off e => by cases e; exact M6.out.2.2.2.1)) m b hb
              cases f1
              rw [Nat.zero_add] at d1
              have hm := List.mem_of_getElem? hb
              have := get_any b (lh h8 b) tid w8 (S8.out.ck (List.mem_append_left _ hm))
              rw [S8.out.pA b hm] at this
              exact ⟨d1, this⟩
            clear s8 k8 KEEP JN S7 K7 H14 t8' j0' j1' d1 d2 hgA
            go_wp2_with fail
            go_loop [107] (fun iv => ∃ m : Nat, m ≤ nC ∧ iv = .int .i64 (m : Int)) (fun iv => nC - (intOf iv).toNat)
            case atStart => exact ⟨0, Nat.zero_le _, rfl⟩
            case round =>
              obtain ⟨m, hm, rfl⟩ := hrel
              by_cases hml : m < nC
              · have hml' : (m : Int) < (nC : Int) := by omega
                obtain ⟨b, hb⟩ : ∃ b, bA[m]? = some b := ⟨_, List.getElem?_eq_getElem (by omega)⟩
                obtain ⟨d1, gt1⟩ := GA.out m b hb
                have GT := hide gt1
                clear gt1 hb
                go_wp2_with fail
                refine GT.out.mono ?_
                rintro r w9 ⟨rfl, e9⟩
                obtain rfl := e9.symm
                go_wp2_with fail
                go_round
                case rel => exact ⟨m + 1, by omega, by go_num⟩
                case measure => simp [intOf]; omega
              · have hml' : ¬ ((m : Int) < (nC : Int)) := by omega
                go_wp2_with fail
                go_roundw
                case rel => exact ⟨k + 1, h8, by omega, by go_num, S8.out, K8.out⟩
                case measure => simp [intOf]; omega
          · have hlt' : ¬ ((k : Int) < (nj : Int)) := by omega
            have t8 := cell_of ((KH.out.block T8 M6.out.2.1).trans H86.out) 0
            have t9 := cell_of ((KH.out.block T9 M6.out.2.2.1).trans H96.out) 0
            simp at t8 t9
            have OF9 := hide (Rt.of_any tid (some ⟨gC, 0, none⟩) (none : Option Addr) cC 0 nC 0 (bA.map fun b => (b, lh h b)) (bB.map fun b => (b, lh h b)) (by rw [List.length_map]; exact hnA) (by rw [List.length_map]; exact hnBB) wr (SH.out.kat (P6A.out.kp KH.out (fun g off e => by cases e; exact M6.out.2.2.2.1)) (fun b hb => List.mem_append_left _ hb)) (SH.out.kat (P6B.out.kp KH.out M6.out.2.2.2.2.2) (fun b hb => List.mem_append_right _ hb)) (by rw [List.length_map]; have := HNC.out; omega) (by rw [List.length_map]; have := HND.out; omega))
            rw [SH.out.cut CS.out.1 hA0] at OF9
            unfold ofV at OF9
            simp only [Option.getD_some, Option.isSome_some] at OF9
            have BWr := hide (Rt.Kp.lw BW6.out KH.out M6.out.1)
            go_wp2_with fail
            refine OF9.out.mono ?_
            rintro r w9 ⟨rfl, b9⟩
            have B9 := hide (Rt.btr BWr.out b9)
            clear b9
            go_wp2_with fail
            refine (SE.out _).mono ?_
            rintro r w10 ⟨rfl, b10⟩
            have B10 := hide (Rt.btr B9.out b10)
            clear b10
            go_wp2_with fail
            go_ret
            exact ⟨rfl, B10.out⟩
      · obtain ⟨gD, rfl⟩ : ∃ gD, oD = some ⟨gD, 0, none⟩ := by
          rcases OD5.out.2 with ⟨e, q⟩ | ⟨g, cap, cr, e, -⟩
          · cases e; exact absurd rfl hD
          · cases e; exact ⟨g, rfl⟩
        have NW2 : Hid (∀ j u, (pts hs)[j]? = some u → w5.cell? ((⟨gD, 0, none⟩ : Addr).add j) = some u) := by
          intro j u hj
          have hj2 : j < (pts hs).length := (List.getElem?_eq_some_iff.1 hj).1
          have : (pts hs).length = hs.length := by simp [pts]
          have od := OD5.out
          rw [HND.out] at od
          rw [Addr.add_lit, Nat.zero_add, od.cellAt j (show j < hs.length * 1 by omega)]
          exact hj
        have PN := hide (show (pts hs).length = nD * 1 from by rw [LP.out, HND.out])
        have hm3 : nC + nD ≤ maxLen := by have := HNC.out; have := HND.out; simp only [maxLen]; omega
        have hm4 : (nC + nD) * 8 ≤ 140737488355328 := by have := HNC.out; have := HND.out; omega
        have ON2 := hide (ONp.out hs)
        have L5 := hide (show w4.heap.size ≤ w5.heap.size from B5.out.size)
        go_wp2_with (at_builtin; refine wpList_append_own_at _ rfl _ _ 25 rfl w4.heap.size 48 i1 _ 1 8 Try.underlying25 INP.out.1 INP.out.2.1 INP.out.2.2.1 INP.out.2.2.2 rfl (by decide) _ _ _ rfl O5.out ⟨gD, 0, none⟩ nD cD (pts hs) rfl PN.out NW2.out ON2.out hm3 hm4 L5.out ?_)
        intro v6 w6 o6 g6g x6 e6
        have hC0 := HNC.out
        obtain ⟨g6, nB, c6, rfl, hnB, hc6⟩ : ∃ g6 nB c6, v6 = .slice (some ⟨g6, 0, none⟩) nB c6 ∧ nB = nC + nD ∧ nB ≤ c6 := by
          rcases o6.2 with ⟨e, q⟩ | ⟨g, cap, cr, e, -, -, h1, -⟩
          · exfalso; omega
          · exact ⟨g, _, cap, e, by omega, h1⟩
        have B46 : Hid (Below w4.heap.size w4 w6) := by
          refine ⟨g6g.os.trans B5.out.os, g6g.tape.trans B5.out.tape, g6g.output.trans B5.out.output, Nat.le_trans B5.out.size g6g.size, fun x hx => (g6g.block x (Nat.lt_of_lt_of_le hx B5.out.size) (fun q => ?_)).trans (B5.out.block x hx)⟩
          have := (O5.out.lt x q.symm).1
          omega
        have NB := hide hnB
        have O6 : Hid (w6.ownsRow w4.heap.size 48 1 (.slice (some ⟨g6, 0, none⟩) nB c6) (ks.length + hs.length) (pts ks ++ pts hs)) := by
          have := o6
          rw [← HNC.out, ← HND.out]
          exact this
        have G6 : Hid (w4.heap.size ≤ g6 ∧ g6 < w6.heap.size) := o6.lt g6 (by simp [Value.ownBlock])
        clear o6 g6g x6 e6 hC0 hnB NW2 PN ON2 L5 hm3 hm4 O5 B5 OD5 hD
        go_upto_region 12 with fail
        obtain ⟨bA, hbA⟩ : ∃ bA : List Nat, bA = ks.map Prod.fst := ⟨_, rfl⟩
        obtain ⟨bB, hbB⟩ : ∃ bB : List Nat, bB = hs.map Prod.fst := ⟨_, rfl⟩
        have hnA : bA.length = nC := by rw [hbA, List.length_map]; exact HNC.out.symm
        have hnBB : bB.length = nD := by rw [hbB, List.length_map]; exact HND.out.symm
        have hA0 : bA ≠ [] := by intro e; rw [e] at hnA; have := HNC.out; simp at hnA; omega
        obtain ⟨X6, hX6⟩ : ∃ X6 : Nat → Prop, X6 = fun k => X4 k ∨ k = g6 := ⟨_, rfl⟩
        have B36 := hide (Rt.btr B4.out B46.out)
        have P6A : Hid (PAt w6 (some ⟨gC, 0, none⟩) bA) := by
          rw [hbA]
          have := own_sm OC4.out (w' := w6) (fun g e => B46.out.block g (OC4.out.lt g e).2)
          have e : pts ks = (ks.map Prod.fst).map pt := by first | rfl | simp [pts, Function.comp_def]
          rw [e, show ks.length = (ks.map Prod.fst).length by simp] at this
          exact (row_pat this).1
        have P6B : Hid (PAt w6 (some ⟨gD, 0, none⟩ : Option Addr) bB) := by
          rw [hbB]
          have := own_sm OD4.out (w' := w6) (fun g e => B46.out.block g (OD4.out.lt g e).2)
          have e : pts hs = (hs.map Prod.fst).map pt := by first | rfl | simp [pts, Function.comp_def]
          rw [e, show hs.length = (hs.map Prod.fst).length by simp] at this
          exact (row_pat this).1
        have P6 : Hid (PAt w6 (some ⟨g6, 0, none⟩) (bA ++ bB)) := by
          have e : pts ks ++ pts hs = (bA ++ bB).map pt := by rw [hbA, hbB]; simp [pts, Function.comp_def]
          have o := O6.out
          rw [e, show ks.length + hs.length = (bA ++ bB).length by rw [hbA, hbB]; simp] at o
          exact (row_pat o).1
        have S6 : Hid (SI X6 w6 bA bB tid cut h2) := by
          rw [hX6]
          have dom : ∀ z ∈ ks ++ hs, lh h2 z.1 = z.2 := fun z hz => by unfold lh; rw [D2.out z hz]; rfl
          refine ⟨cx_ext CX4.out (fun k hk _ => B36.out.block k hk) (fun k q => ?_) (fun k q => ?_), fun b hb => ?_, fun b hb => ?_, fun b hb => ?_⟩
          · rcases q with q | q
            · exact .inl q
            · exact .inr (by rw [q]; exact Nat.le_trans B4.out.size G6.out.1)
          · rcases q with q | q
            · exact Nat.lt_of_lt_of_le (CX4.out.base k q) B36.out.size
            · rw [q]; exact G6.out.2
          · rw [hbA, hbB, ← List.map_append] at hb
            obtain ⟨z, hz, rfl⟩ := List.mem_map.1 hb
            exact ⟨z.2, D2.out z hz⟩
          · rw [hbA] at hb
            obtain ⟨z, hz, rfl⟩ := List.mem_map.1 hb
            rw [dom z (List.mem_append_left _ hz)]
            exact CS.out.2.1 z hz
          · rw [hbB] at hb
            obtain ⟨z, hz, rfl⟩ := List.mem_map.1 hb
            rw [dom z (List.mem_append_right _ hz)]
            exact CS.out.2.2 z hz
        have M6 : Hid ((∀ k, k < w.heap.size → X6 k) ∧ X6 T8 ∧ X6 T9 ∧ X6 gC ∧ X6 g6 ∧ ∀ g off, (some ⟨gD, 0, none⟩ : Option Addr) = some ⟨g, off, none⟩ → X6 g) := by
          rw [hX6]
          have eC : (Value.slice (some ⟨gC, 0, none⟩) nC cC).ownBlock = some gC := by simp [Value.ownBlock]
          refine ⟨fun k q => .inl (XL.out k q), .inl X8.out, .inl X9.out, .inl (XC.out gC eC), .inr rfl, fun g off e => ?_⟩
          have := own_sm OD4.out (w' := w6) (fun g e => B46.out.block g (OD4.out.lt g e).2)
          have e' : pts hs = (hs.map Prod.fst).map pt := by first | rfl | simp [pts, Function.comp_def]
          rw [e', show hs.length = (hs.map Prod.fst).length by simp] at this
          exact .inl (XD.out g ((row_pat this).2.2 g off e))
        have H86 := hide ((B36.out.block T8 (Ba.heap_lt H82.out)).trans H82.out)
        have H96 := hide ((B36.out.block T9 (Ba.heap_lt H9.out)).trans H9.out)
        have BW6 := hide (Rt.btr B2.out B36.out)
        have HNB : Hid (nB = nC + nD) := NB.out
        clear hX6 hbA hbB CX4 D2 OC OD OC4 OD4 O6 XL XC XD X8 X9 H82 H9 B36 B46 B4 B2 G6 NB ONp LP INP
        go_wp2_with fail
        go_loopw [65] (fun iv wr => ∃ (k : Nat) (h : Nat → Option (List Int)), k ≤ nj ∧ iv = .int .i64 (k : Int) ∧ SI X6 wr bA bB tid cut h ∧ Kp X6 w6 wr) (fun iv _ => nj - (intOf iv).toNat)
        case atStart => exact ⟨0, h2, Nat.zero_le _, rfl, S6.out, Kp.refl _ _⟩
        case round =>
          clear S6
          obtain ⟨k, h, hk, rfl, si, kp⟩ := hrel
          have SH := hide si
          have KH := hide kp
          clear si kp
          by_cases hlt : k < nj
          · have hlt' : (k : Int) < (nj : Int) := by omega
            obtain ⟨z, hz⟩ : ∃ z, l[k]? = some z := ⟨_, List.getElem?_eq_getElem (by omega)⟩
            obtain ⟨gj, offj, cs, rfl, hcl, hcell, hcs⟩ := HJ.out k z hz
            unfold JE at hcs
            subst hcs
            have BWr := Rt.Kp.lw BW6.out KH.out M6.out.1
            have p0 := Rt.cellB (hcell 0 (by decide)) BWr
            have p1 := Rt.cellB (hcell 1 (by decide)) BWr
            obtain ⟨zi, zk⟩ := z
            simp only [Nat.add_zero] at p0
            simp at p0 p1
            have S7 := hide (SH.out.box (.cells #[.int .i64 zi, .int .i64 zk] 47))
            have K7 := hide (KH.out.trans (Rt.Kp.of (Ba.below_alloc wr (.cells #[.int .i64 zi, .int .i64 zk] 47)) SH.out.cx.base))
            have H14 : Hid ((wr.alloc (.cells #[.int .i64 zi, .int .i64 zk] 47)).heap[wr.heap.size]? = some (.cells #[.int .i64 zi, .int .i64 zk] 47 (0, 0))) := heap_new _ _
            clear hz hcell hcl BWr SH KH
            go_upto_region 15 with fail
            generalize wr.alloc (.cells #[.int .i64 zi, .int .i64 zk] 47) = w7 at *
            generalize wr.heap.size = T14 at *
            have t8 := cell_of ((K7.out.block T8 M6.out.2.1).trans H86.out) 0
            have j0 := cell_of H14.out 0
            have j1 := cell_of H14.out 1
            simp at t8 j0 j1
            clear p0 p1
            have FINB : Hid (SI X6 w7 bA bB tid cut h) := S7.out.less fun _ q => .inl q
            by_cases c1 : zi < 0
            · go_wp2_with fail
              go_roundw
              case rel => exact ⟨k + 1, h, by omega, by go_num, FINB.out, K7.out⟩
              case measure => simp [intOf]; omega
            by_cases c2 : (nC : Int) ≤ zi
            · go_wp2_with fail
              go_roundw
              case rel => exact ⟨k + 1, h, by omega, by go_num, FINB.out, K7.out⟩
              case measure => simp [intOf]; omega
            by_cases c3 : zk < 0
            · go_wp2_with fail
              go_roundw
              case rel => exact ⟨k + 1, h, by omega, by go_num, FINB.out, K7.out⟩
              case measure => simp [intOf]; omega
            by_cases c4 : (nB : Int) ≤ zk
            · go_wp2_with fail
              go_roundw
              case rel => exact ⟨k + 1, h, by omega, by go_num, FINB.out, K7.out⟩
              case measure => simp [intOf]; omega
            obtain ⟨I, rfl⟩ : ∃ I : Nat, zi = (I : Int) := ⟨zi.toNat, by omega⟩
            obtain ⟨K, rfl⟩ : ∃ K : Nat, zk = (K : Int) := ⟨zk.toNat, by omega⟩
            have hI : (I : Int) < (nC : Int) := by omega
            have hK : (K : Int) < (nB : Int) := by omega
            obtain ⟨bi, hbi⟩ : ∃ bi, bA[I]? = some bi := ⟨_, List.getElem?_eq_getElem (by omega)⟩
            obtain ⟨bk, hbk⟩ : ∃ bk, (bA ++ bB)[K]? = some bk := ⟨_, List.getElem?_eq_getElem (by rw [List.length_append]; have := HNB.out; omega)⟩
            have JN := hide ((S7.out.below (Ba.bdrew1 w7)).join (List.mem_of_getElem? hbi) (List.mem_of_getElem? hbk))
            have KEEP : Hid (∀ u, Kp (fun k => X6 k ∨ k = T14) w7 u → u.cell? ⟨T8, 0, none⟩ = some (.slice (some ⟨gC, 0, none⟩) nC cC) ∧ u.cell? ⟨T14, 0, none⟩ = some (.int .i64 (I : Int)) ∧ u.cell? ⟨T14, 1, none⟩ = some (.int .i64 (K : Int)) ∧ u.cell? ⟨gC, I, none⟩ = some (.pointer (some ⟨bi, 0, none⟩)) ∧ u.cell? ⟨g6, K, none⟩ = some (.pointer (some ⟨bk, 0, none⟩))) := by
              intro u ku
              have k6 := K7.out.trans (Rt.Kp.mono ku fun _ q => .inl q)
              have e8 := (k6.block T8 M6.out.2.1).trans H86.out
              have e14 := (ku.block T14 (.inr rfl)).trans H14.out
              obtain ⟨g1, o1, f1, d1⟩ := (P6A.out.kp k6 (fun g off e => by cases e; exact M6.out.2.2.2.1)) I bi hbi
              obtain ⟨g2, o2, f2, d2⟩ := (P6.out.kp k6 (fun g off e => by cases e; exact M6.out.2.2.2.2.1)) K bk hbk
              cases f1
              cases f2
              rw [Nat.zero_add] at d1 d2
              exact ⟨cell_of e8 0, cell_of e14 0, cell_of e14 1, d1, d2⟩
            obtain ⟨t8', j0', j1', d1, d2⟩ := KEEP.out w7 (Kp.refl _ _)
            have hgA : gC < w7.heap.size := World.block_lt_of_cell? w7 _ d1
            clear c1 c2 c3 c4 hbi hbk FINB t8 j0 j1
            go_upto_region 16 with fail
            go_region_held3 (fun w' => w'.cell? ⟨T8, 0, none⟩ = some (.slice (some ⟨gC, 0, none⟩) nC cC) ∧ w'.cell? ⟨T14, 0, none⟩ = some (.int .i64 (I : Int)) ∧ w'.cell? ⟨T14, 1, none⟩ = some (.int .i64 (K : Int)) ∧ w'.cell? ⟨gC, I, none⟩ = some (.pointer (some ⟨bi, 0, none⟩)) ∧ w'.cell? ⟨g6, K, none⟩ = some (.pointer (some ⟨bk, 0, none⟩)))
              (first | (go_keep; done) | exact KEEP.out _ ((Rt.Kp.of (Ba.bdrew1 w7) S7.out.cx.base).trans k8))
              ((go_at_call 15; refine JN.out.mono ?_; rintro r w8 ⟨x8, rfl, ⟨h8, s8⟩, k8⟩))
            have S8 := hide (s8.less (Z := X6) fun _ q => .inl q)
            have K8 := hide (K7.out.trans (Rt.Kp.mono (Y := X6) ((Rt.Kp.of (Ba.bdrew1 w7) S7.out.cx.base).trans k8) fun _ q => .inl q))
            have t8 := cell_of ((K8.out.block T8 M6.out.2.1).trans H86.out) 0
            simp at t8
            have GA : Hid (∀ m b, bA[m]? = some b → w8.cell? ⟨gC, m, none⟩ = some (.pointer (some ⟨b, 0, none⟩)) ∧ Calls Try.prog 16 #[.pointer (some ⟨b, 0, none⟩), .int .i64 tid] w8 fun r w' => r = .returned (.int .i64 cut) ∧ w' = w8) := by
              intro m b hb
              obtain ⟨g1, o1, f1, d1⟩ := (P6A.out.kp K8.out (fun g off e => by cases e; exact M6.out.2.2.2.1)) m b hb
              cases f1
              rw [Nat.zero_add] at d1
              have hm := List.mem_of_getElem? hb
              have := get_any b (lh h8 b) tid w8 (S8.out.ck (List.mem_append_left _ hm))
              rw [S8.out.pA b hm] at this
              exact ⟨d1, this⟩
            clear s8 k8 KEEP JN S7 K7 H14 t8' j0' j1' d1 d2 hgA
            go_wp2_with fail
            go_loop [107] (fun iv => ∃ m : Nat, m ≤ nC ∧ iv = .int .i64 (m : Int)) (fun iv => nC - (intOf iv).toNat)
            case atStart => exact ⟨0, Nat.zero_le _, rfl⟩
            case round =>
              obtain ⟨m, hm, rfl⟩ := hrel
              by_cases hml : m < nC
              · have hml' : (m : Int) < (nC : Int) := by omega
                obtain ⟨b, hb⟩ : ∃ b, bA[m]? = some b := ⟨_, List.getElem?_eq_getElem (by omega)⟩
                obtain ⟨d1, gt1⟩ := GA.out m b hb
                have GT := hide gt1
                clear gt1 hb
                go_wp2_with fail
                refine GT.out.mono ?_
                rintro r w9 ⟨rfl, e9⟩
                obtain rfl := e9.symm
                go_wp2_with fail
                go_round
                case rel => exact ⟨m + 1, by omega, by go_num⟩
                case measure => simp [intOf]; omega
              · have hml' : ¬ ((m : Int) < (nC : Int)) := by omega
                go_wp2_with fail
                go_roundw
                case rel => exact ⟨k + 1, h8, by omega, by go_num, S8.out, K8.out⟩
                case measure => simp [intOf]; omega
          · have hlt' : ¬ ((k : Int) < (nj : Int)) := by omega
            have t8 := cell_of ((KH.out.block T8 M6.out.2.1).trans H86.out) 0
            have t9 := cell_of ((KH.out.block T9 M6.out.2.2.1).trans H96.out) 0
            simp at t8 t9
            have OF9 := hide (Rt.of_any tid (some ⟨gC, 0, none⟩) (some ⟨gD, 0, none⟩ : Option Addr) cC cD nC nD (bA.map fun b => (b, lh h b)) (bB.map fun b => (b, lh h b)) (by rw [List.length_map]; exact hnA) (by rw [List.length_map]; exact hnBB) wr (SH.out.kat (P6A.out.kp KH.out (fun g off e => by cases e; exact M6.out.2.2.2.1)) (fun b hb => List.mem_append_left _ hb)) (SH.out.kat (P6B.out.kp KH.out M6.out.2.2.2.2.2) (fun b hb => List.mem_append_right _ hb)) (by rw [List.length_map]; have := HNC.out; omega) (by rw [List.length_map]; have := HND.out; omega))
            rw [SH.out.cut CS.out.1 hA0] at OF9
            unfold ofV at OF9
            simp only [Option.getD_some, Option.isSome_some] at OF9
            have BWr := hide (Rt.Kp.lw BW6.out KH.out M6.out.1)
            go_wp2_with fail
            refine OF9.out.mono ?_
            rintro r w9 ⟨rfl, b9⟩
            have B9 := hide (Rt.btr BWr.out b9)
            clear b9
            go_wp2_with fail
            refine (SE.out _).mono ?_
            rintro r w10 ⟨rfl, b10⟩
            have B10 := hide (Rt.btr B9.out b10)
            clear b10
            go_wp2_with fail
            go_ret
            exact ⟨rfl, B10.out⟩
  · have hz' : z = true ∨ 100 < nj ∨ n < 2 := by
      cases z
      · right; simp at hgo; omega
      · exact .inl rfl
    clear hgo hz
    cases z
    · simp only [Bool.false_eq_true, false_or] at hz'
      by_cases c1 : 100 < nj
      · have c1' : (100 : Int) < (nj : Int) := by omega
        go_wp2_with fail
        refine (SE.out _).mono ?_
        rintro r w1 ⟨rfl, b1⟩
        have B1 := hide b1
        clear b1
        go_wp2_with fail
        go_ret
        exact ⟨rfl, B1.out⟩
      · have c1' : ¬ ((100 : Int) < (nj : Int)) := by omega
        have c2' : (n : Int) < 2 := by omega
        go_wp2_with fail
        refine (SE.out _).mono ?_
        rintro r w1 ⟨rfl, b1⟩
        have B1 := hide b1
        clear b1
        go_wp2_with fail
        go_ret
        exact ⟨rfl, B1.out⟩
    · go_wp2_with fail
      refine (SE.out _).mono ?_
      rintro r w1 ⟨rfl, b1⟩
      have B1 := hide b1
      clear b1
      go_wp2_with fail
      go_ret
      exact ⟨rfl, B1.out⟩

/-! ### the row -/
set_option maxRecDepth 100000 in
theorem lifted (os : Os) (started : os.Started) (H : Type) (enc : TypeId × Value → H) :
    ReturnsInHanded {} Try.checked os 5 .any (Rows.retireStaysSpec.pre6 enc Try.prog Try.f5 Rows.retireStaysRow.domain false) (Rows.retireStaysSpec.post enc Try.prog Try.f5 false true false false) := by
  refine returnsInHanded_of_change (C := Try.checked) own started (by kernel_rfl) Try.func5
    (ChangeSpec.witness6 (enc := enc) (C := Try.checked) false ⟨#[], #[.int .i64 0, .slice none 0 0, .slice none 0 0], []⟩ 8 (by kernel_rfl) (by kernel_rfl) (by kernel_rfl) (by kernel_rfl)) ?_
  intro W base args ds gs before hval0 hW hcnd _
  have hval : ∀ (j : Nat) t v, Try.f5.params[j]? = some t → args[j]? = some v → Value.okWide Try.prog W .any base t v := hval0
  have hW' := hW
  obtain ⟨p, q, hA0, hV, rfl, hfz, hnd⟩ := hW
  have hA : DataW.TrodAll enc Try.prog W 0 (fun _ => true) true Try.f5.params.toList args.toList ds p := hA0
  rw [Try.params5] at hA hval
  obtain ⟨v0, vs0, d0, ds0, p0, q0, hargs, rfl, rfl, h0, r0⟩ := trodAll_cons hA
  obtain ⟨v1, vs1, d1, ds1, p1, q1, rfl, rfl, rfl, h1, r1⟩ := trodAll_cons r0
  obtain ⟨v2, vs2, d2, ds2, p2, q2, rfl, rfl, rfl, h2, r2⟩ := trodAll_cons r1
  obtain ⟨rfl, rfl, rfl⟩ := trodAll_nil r2
  obtain rfl : args = #[v0, v1, v2] := by cases args; simp_all
  obtain ⟨rfl, rfl⟩ := trodVars_none hV
  obtain ⟨a0, rfl, rfl, rfl, w0⟩ := open_int Try.underlying3 (hval 0 3 v0 rfl rfl) h0
  obtain ⟨oa1, n1, c1, rfl⟩ := okWide_slice Try.underlying22 (hval 1 22 v1 rfl rfl)
  have k1 := h1
  have lt1 : ∀ x ∈ p1, x.block < W.heap.size := by obtain ⟨m, hm⟩ := k1; exact DataW.trod_lt m _ _ _ hm
  obtain ⟨l1, rfl, A1, C1, M1⟩ := h1.elim fun _ hf => lists_open hf
  obtain ⟨oa2, n2, c2, rfl⟩ := okWide_slice Try.underlying45 (hval 2 45 v2 rfl rfl)
  have k2 := h2
  have lt2 : ∀ x ∈ p2, x.block < W.heap.size := by obtain ⟨m, hm⟩ := k2; exact DataW.trod_lt m _ _ _ hm
  obtain ⟨l2, rfl, A2, C2, M2⟩ := h2.elim fun _ hf => joins_open hf
  clear hA0 hval0
  refine (core (w := W) a0 oa1 l1 c1 A1 C1 M1 oa2 l2 c2 A2 (Nat.le_trans C2 M2)).mono fun e W' ⟨he, bel⟩ => ?_
  subst he
  exact ⟨_, rfl, _, _, _, [], _, [], hW', trodAll_mk1 (shut_bool Try.underlying4 _), (trodAll_cons_mk (shut_int Try.underlying3 w0) (trodAll_cons_mk (Below.trod laidOut (by kernel_rfl) (of_decide_eq_true (by kernel_rfl)) k1 bel lt1) (trodAll_cons_mk (Below.trod laidOut (by kernel_rfl) (of_decide_eq_true (by kernel_rfl)) k2 bel lt2) trodAll_mk0))), rfl, bel.frame _, fun h => by cases h⟩

theorem over : Rows.retireStaysRow.holds Try.pinned (OpenSpec.ofChange Rows.retireStaysSpec) :=
  OpenClaim.holds_of_wide 5 Try.f5 rfl rfl rfl rfl rfl rfl rfl ⟨rfl, rfl, rfl, rfl, rfl⟩ rfl rfl rfl rfl rfl (by kernel_rfl) Try.func5 (by kernel_rfl)
    (of_decide_eq_true (by kernel_rfl)) (by unfold Func.isWrapper; first | (rw [if_pos (by decide +kernel)]; kernel_rfl) | (rw [if_neg (by decide +kernel)]; exact ⟨rfl, rfl⟩))
    (fun os started H enc _ => lifted os started H enc)

/-- the statement -/
theorem proved : Rows.RetireStaysSaid := over
#print axioms proved
end Go.Proofs.Ytbceiakihplbcaa.retireStays
