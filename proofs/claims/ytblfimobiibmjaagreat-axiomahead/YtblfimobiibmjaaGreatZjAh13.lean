import Derived.Test.YtblfimobiibmjaaGreatZjAh12
import Derived.Deep.RegionHeld3
import Derived.Deep.RegionWith
/- The reference's crew, over this seat's program: Has, Spawn, Turn, Able, Over. -/
namespace Go.Proofs.YtblfimobiibmjaaGreat
open Go.ChangeShapes Go.WideShapes Go.ChangeAt Go.RowKit
namespace Cr
open Ba

abbrev RC (w : World) (B : Nat) (F : Nat → Prop) (l : List Mb) : Prop := Cq 158 199 w B F l
theorem info_one : (Tryz.prog.info? 199).map (fun i => (i.zero, i.size, i.bytes)) = some (some (tv 0 0 0), 3, 24) := by kernel_rfl
theorem rhas_any (B : Nat) (F : Nat → Prop) (l : List Mb) (g : Int) (w : World) (h : RC w B F l) :
    Calls Tryz.prog 171 #[.pointer (some ⟨B, 0, none⟩), .int .i64 g] w fun r w' => r = .returned (.bool (thr l g)) ∧ w' = w := by
  unfold thr
  have hle := h.le
  obtain ⟨oa, c, h⟩ := h
  have y0 : w.cell? ⟨B, 0, none⟩ = some (.slice oa l.length c) := cell_of h.hp 0
  clear h
  cases hg : gt l g with
  | none =>
    have hg' := gt_none hg
    clear hg
    cases h1 : decide (0 ≤ g)
    · clear hg'
      go_enter Tryz.func171, Tryz.ntmps171
      go_wp2_with fail
      go_ret
      exact ⟨rfl, rfl⟩
    · have d2 : decide (g < (l.length : Int)) = false := by simp at h1 ⊢; omega
      clear hg'
      go_enter Tryz.func171, Tryz.ntmps171
      go_wp2_with fail
      go_ret
      exact ⟨rfl, rfl⟩
  | some x =>
    obtain ⟨k, rfl, hk, hx⟩ := gt_some hg
    have d1 : decide (0 ≤ (k : Int)) = true := decide_eq_true (by omega)
    have d2 : decide ((k : Int) < (l.length : Int)) = true := decide_eq_true (by omega)
    clear hx hg
    go_enter Tryz.func171, Tryz.ntmps171
    go_wp2_with fail
    go_ret
    exact ⟨rfl, rfl⟩
set_option maxHeartbeats 1600000 in
theorem rturn00 (B : Nat) (F : Nat → Prop) (l : List Mb) (K : Nat) (g : Int) (w : World) (h : RC w B F l) (hn : Bn K l) (hK : K ≤ 100000) :
    Calls Tryz.prog 149 #[.pointer (some ⟨B, 0, none⟩), .int .i64 g, .int .i64 0, .int .i64 0] w fun r w' => r = .returned (.int .i64 (chE l g 0)) ∧ Po 158 199 w w' B F (chL l g 0 0 1) := by
  unfold chE chL
  have HS := hide (rhas_any B F l g w h)
  have HH := hide h
  cases hg : gt l g with
  | none =>
    simp only
    unfold thr at HS
    rw [hg] at HS
    simp only [Option.isSome_none] at HS
    clear h hg hn
    go_enter Tryz.func149, Tryz.ntmps149
    go_wp2_with fail
    refine HS.out.mono ?_
    rintro r w1 ⟨rfl, rfl⟩
    go_wp2_with fail
    go_ret
    exact ⟨rfl, Po.of HH.out (Below.refl _ _)⟩
  | some x =>
    simp only
    unfold thr at HS
    rw [hg] at HS
    simp only [Option.isSome_some] at HS
    obtain ⟨k, rfl, hk, hx⟩ := gt_some hg
    rw [Int.toNat_natCast]
    have hle := h.le
    obtain ⟨oa, c, h⟩ := h
    have hb1 := hn.at hx
    have H := hide h
    obtain ⟨m, rfl, q0, q1, q2⟩ := h.at.1 k x hx
    obtain ⟨_, cur, hm⟩ := own_blk h.ow m rfl
    have hmB : m ≠ B := by
      intro e
      rw [e, h.hp] at hm
      cases hm
    have y0 : w.cell? ⟨B, 0, none⟩ = some (.slice (some ⟨m, 0, none⟩) l.length c) := cell_of h.hp 0
    have z1 := frozen_of hm (k * 3 + 1)
    have z2 := frozen_of hm (k * 3 + 2)
    have hFm := hide (h.fr m rfl)
    have HX := hide hx
    have d3 : (k : Int) < (l.length : Int) := by omega
    clear h hg hx hm hn
    by_cases hs : x.s = 0
    · rw [if_pos hs, if_pos hs]
      have e1 : (x.s != 0) = false := by simp [hs]
      clear hs
      go_enter Tryz.func149, Tryz.ntmps149
      go_wp2_with fail
      refine HS.out.mono ?_
      rintro r w1 ⟨rfl, rfl⟩
      go_wp2_with fail
      go_region
      all_goals
        go_wp2_with fail
        go_ret
        exact ⟨rfl, F, ⟨some ⟨m, 0, none⟩, c, (H.out.both (by decide) HX.out _ _).below (bdrew1 _)⟩, ((((KF.refl _ _).set hFm.out _ _).set hFm.out _ _).then (bdrew1 _)), Nw.refl _ _⟩
    · rw [if_neg hs, if_neg hs]
      have e1 : (x.s != 0) = true := by simp [hs]
      clear hs
      go_enter Tryz.func149, Tryz.ntmps149
      go_wp2_with fail
      refine HS.out.mono ?_
      rintro r w1 ⟨rfl, rfl⟩
      go_wp2_with fail
      go_ret
      exact ⟨rfl, Po.of HH.out (Below.refl _ _)⟩
set_option maxHeartbeats 1600000 in
theorem rturn01 (B : Nat) (F : Nat → Prop) (l : List Mb) (K : Nat) (g : Int) (w : World) (h : RC w B F l) (hn : Bn K l) (_hK : K ≤ 100000) :
    Calls Tryz.prog 149 #[.pointer (some ⟨B, 0, none⟩), .int .i64 g, .int .i64 0, .int .i64 1] w fun r w' => r = .returned (.int .i64 (chE l g 0)) ∧ Po 158 199 w w' B F (chL l g 0 1 0) := by
  unfold chE chL
  have HS := hide (rhas_any B F l g w h)
  have HH := hide h
  cases hg : gt l g with
  | none =>
    simp only
    unfold thr at HS
    rw [hg] at HS
    simp only [Option.isSome_none] at HS
    clear h hg hn
    go_enter Tryz.func149, Tryz.ntmps149
    go_wp2_with fail
    refine HS.out.mono ?_
    rintro r w1 ⟨rfl, rfl⟩
    go_wp2_with fail
    go_ret
    exact ⟨rfl, Po.of HH.out (Below.refl _ _)⟩
  | some x =>
    simp only
    unfold thr at HS
    rw [hg] at HS
    simp only [Option.isSome_some] at HS
    obtain ⟨k, rfl, hk, hx⟩ := gt_some hg
    rw [Int.toNat_natCast]
    have hle := h.le
    obtain ⟨oa, c, h⟩ := h
    have hb1 := hn.at hx
    have H := hide h
    obtain ⟨m, rfl, q0, q1, q2⟩ := h.at.1 k x hx
    obtain ⟨_, cur, hm⟩ := own_blk h.ow m rfl
    have hmB : m ≠ B := by
      intro e
      rw [e, h.hp] at hm
      cases hm
    have y0 : w.cell? ⟨B, 0, none⟩ = some (.slice (some ⟨m, 0, none⟩) l.length c) := cell_of h.hp 0
    have z1 := frozen_of hm (k * 3 + 1)
    have z2 := frozen_of hm (k * 3 + 2)
    have hFm := hide (h.fr m rfl)
    have HX := hide hx
    have d3 : (k : Int) < (l.length : Int) := by omega
    clear h hg hx hm hn
    by_cases hs : x.s = 0
    · rw [if_pos hs, if_pos hs]
      have e1 : (x.s != 0) = false := by simp [hs]
      clear hs
      go_enter Tryz.func149, Tryz.ntmps149
      go_wp2_with fail
      refine HS.out.mono ?_
      rintro r w1 ⟨rfl, rfl⟩
      go_wp2_with fail
      go_ret
      exact ⟨rfl, F, ⟨some ⟨m, 0, none⟩, c, by have q := H.out.set2 (by decide) HX.out 1; rw [Int.add_zero]; exact q⟩, (KF.refl _ _).set hFm.out _ _, Nw.refl _ _⟩
    · rw [if_neg hs, if_neg hs]
      have e1 : (x.s != 0) = true := by simp [hs]
      clear hs
      go_enter Tryz.func149, Tryz.ntmps149
      go_wp2_with fail
      refine HS.out.mono ?_
      rintro r w1 ⟨rfl, rfl⟩
      go_wp2_with fail
      go_ret
      exact ⟨rfl, Po.of HH.out (Below.refl _ _)⟩
set_option maxHeartbeats 1600000 in
theorem rturn10 (B : Nat) (F : Nat → Prop) (l : List Mb) (K : Nat) (g : Int) (w : World) (h : RC w B F l) (hn : Bn K l) (hK : K ≤ 100000) :
    Calls Tryz.prog 149 #[.pointer (some ⟨B, 0, none⟩), .int .i64 g, .int .i64 1, .int .i64 0] w fun r w' => r = .returned (.int .i64 (chE l g 1)) ∧ Po 158 199 w w' B F (chL l g 1 0 1) := by
  unfold chE chL
  have HS := hide (rhas_any B F l g w h)
  have HH := hide h
  cases hg : gt l g with
  | none =>
    simp only
    unfold thr at HS
    rw [hg] at HS
    simp only [Option.isSome_none] at HS
    clear h hg hn
    go_enter Tryz.func149, Tryz.ntmps149
    go_wp2_with fail
    refine HS.out.mono ?_
    rintro r w1 ⟨rfl, rfl⟩
    go_wp2_with fail
    go_ret
    exact ⟨rfl, Po.of HH.out (Below.refl _ _)⟩
  | some x =>
    simp only
    unfold thr at HS
    rw [hg] at HS
    simp only [Option.isSome_some] at HS
    obtain ⟨k, rfl, hk, hx⟩ := gt_some hg
    rw [Int.toNat_natCast]
    have hle := h.le
    obtain ⟨oa, c, h⟩ := h
    have hb1 := hn.at hx
    have H := hide h
    obtain ⟨m, rfl, q0, q1, q2⟩ := h.at.1 k x hx
    obtain ⟨_, cur, hm⟩ := own_blk h.ow m rfl
    have hmB : m ≠ B := by
      intro e
      rw [e, h.hp] at hm
      cases hm
    have y0 : w.cell? ⟨B, 0, none⟩ = some (.slice (some ⟨m, 0, none⟩) l.length c) := cell_of h.hp 0
    have z1 := frozen_of hm (k * 3 + 1)
    have z2 := frozen_of hm (k * 3 + 2)
    have hFm := hide (h.fr m rfl)
    have HX := hide hx
    have d3 : (k : Int) < (l.length : Int) := by omega
    clear h hg hx hm hn
    by_cases hs : x.s = 1
    · rw [if_pos hs, if_pos hs]
      have e1 : (x.s != 1) = false := by simp [hs]
      clear hs
      go_enter Tryz.func149, Tryz.ntmps149
      go_wp2_with fail
      refine HS.out.mono ?_
      rintro r w1 ⟨rfl, rfl⟩
      go_wp2_with fail
      go_region
      all_goals
        go_wp2_with fail
        go_ret
        exact ⟨rfl, F, ⟨some ⟨m, 0, none⟩, c, (H.out.both (by decide) HX.out _ _).below (bdrew1 _)⟩, ((((KF.refl _ _).set hFm.out _ _).set hFm.out _ _).then (bdrew1 _)), Nw.refl _ _⟩
    · rw [if_neg hs, if_neg hs]
      have e1 : (x.s != 1) = true := by simp [hs]
      clear hs
      go_enter Tryz.func149, Tryz.ntmps149
      go_wp2_with fail
      refine HS.out.mono ?_
      rintro r w1 ⟨rfl, rfl⟩
      go_wp2_with fail
      go_ret
      exact ⟨rfl, Po.of HH.out (Below.refl _ _)⟩
set_option maxHeartbeats 1600000 in
theorem rturn02 (B : Nat) (F : Nat → Prop) (l : List Mb) (K : Nat) (g : Int) (w : World) (h : RC w B F l) (hn : Bn K l) (_hK : K ≤ 100000) :
    Calls Tryz.prog 149 #[.pointer (some ⟨B, 0, none⟩), .int .i64 g, .int .i64 0, .int .i64 2] w fun r w' => r = .returned (.int .i64 (chE l g 0)) ∧ Po 158 199 w w' B F (chL l g 0 2 0) := by
  unfold chE chL
  have HS := hide (rhas_any B F l g w h)
  have HH := hide h
  cases hg : gt l g with
  | none =>
    simp only
    unfold thr at HS
    rw [hg] at HS
    simp only [Option.isSome_none] at HS
    clear h hg hn
    go_enter Tryz.func149, Tryz.ntmps149
    go_wp2_with fail
    refine HS.out.mono ?_
    rintro r w1 ⟨rfl, rfl⟩
    go_wp2_with fail
    go_ret
    exact ⟨rfl, Po.of HH.out (Below.refl _ _)⟩
  | some x =>
    simp only
    unfold thr at HS
    rw [hg] at HS
    simp only [Option.isSome_some] at HS
    obtain ⟨k, rfl, hk, hx⟩ := gt_some hg
    rw [Int.toNat_natCast]
    have hle := h.le
    obtain ⟨oa, c, h⟩ := h
    have hb1 := hn.at hx
    have H := hide h
    obtain ⟨m, rfl, q0, q1, q2⟩ := h.at.1 k x hx
    obtain ⟨_, cur, hm⟩ := own_blk h.ow m rfl
    have hmB : m ≠ B := by
      intro e
      rw [e, h.hp] at hm
      cases hm
    have y0 : w.cell? ⟨B, 0, none⟩ = some (.slice (some ⟨m, 0, none⟩) l.length c) := cell_of h.hp 0
    have z1 := frozen_of hm (k * 3 + 1)
    have z2 := frozen_of hm (k * 3 + 2)
    have hFm := hide (h.fr m rfl)
    have HX := hide hx
    have d3 : (k : Int) < (l.length : Int) := by omega
    clear h hg hx hm hn
    by_cases hs : x.s = 0
    · rw [if_pos hs, if_pos hs]
      have e1 : (x.s != 0) = false := by simp [hs]
      clear hs
      go_enter Tryz.func149, Tryz.ntmps149
      go_wp2_with fail
      refine HS.out.mono ?_
      rintro r w1 ⟨rfl, rfl⟩
      go_wp2_with fail
      go_ret
      exact ⟨rfl, F, ⟨some ⟨m, 0, none⟩, c, by have q := H.out.set2 (by decide) HX.out 2; rw [Int.add_zero]; exact q⟩, (KF.refl _ _).set hFm.out _ _, Nw.refl _ _⟩
    · rw [if_neg hs, if_neg hs]
      have e1 : (x.s != 0) = true := by simp [hs]
      clear hs
      go_enter Tryz.func149, Tryz.ntmps149
      go_wp2_with fail
      refine HS.out.mono ?_
      rintro r w1 ⟨rfl, rfl⟩
      go_wp2_with fail
      go_ret
      exact ⟨rfl, Po.of HH.out (Below.refl _ _)⟩
set_option maxRecDepth 100000 in
set_option maxHeartbeats 1600000 in
theorem rable_any (B : Nat) (F : Nat → Prop) (l : List Mb) (w : World) (h : Cq 158 199 w B F l) :
    Calls Tryz.prog 143 #[.pointer (some ⟨B, 0, none⟩)] w fun r w' => ∃ ob d, r = .returned (.slice ob (abl l).length d) ∧ At w' ob (abl l) ∧ Below w.heap.size w w' := by
  cases hi : Tryz.prog.info? 3 with
  | none => have := info_i; rw [hi] at this; cases this
  | some i0 =>
  have hx2 := info_i
  rw [hi] at hx2
  simp at hx2
  have INF := hide (And.intro hi hx2)
  clear hx2 hi
  have hle := h.le
  obtain ⟨oa, c, h⟩ := h
  have hB := h.lt
  have y0 : w.cell? ⟨B, 0, none⟩ = some (.slice oa l.length c) := cell_of h.hp 0
  have HA := hide h.at.1
  have AL := hide y0
  clear h
  go_enter Tryz.func143, Tryz.ntmps143
  go_wp2_with fail
  go_loopw [3, 11] (fun rv i wr => ∃ (v : Value) (k : Nat), k ≤ l.length ∧ i = .int .i64 k ∧ rv = v ∧ wr.ownsRow w.heap.size 3 1 v (abl (l.take k)).length (ic (abl (l.take k))) ∧ Below w.heap.size w wr) (fun _ i _ => l.length - (intOf i).toNat)
  case atStart => exact ⟨_, 0, Nat.zero_le _, rfl, rfl, World.ownsRow_nil _ _ _ _, Below.refl _ _⟩
  case round =>
    obtain ⟨v, k, hk, rfl, rfl, ho, hb⟩ := hrel
    by_cases hlt : k < l.length
    · have hlt' : (k : Int) < (l.length : Int) := by omega
      obtain ⟨x, hx⟩ : ∃ x, l[k]? = some x := ⟨_, List.getElem?_eq_getElem hlt⟩
      obtain ⟨b, rfl, q0, q1, q2⟩ := HA.out.below hb k x hx
      have DT := hide (abl_take hx)
      have hdl : (abl (l.take k)).length ≤ k := by
        have h1 := abl_len (l.take k)
        have h2 := List.length_take_le k l
        omega
      clear hx
      obtain ⟨X, hX⟩ : ∃ X, X = abl (l.take k) := ⟨_, rfl⟩
      rw [← hX] at DT hdl ho
      clear hX
      have BX := below_alloc wr (.cells #[.int .i64 x.p, .int .i64 x.q, .int .i64 x.s] 199)
      by_cases hs : x.s = 0
      · have EX : Hid (abl (l.take (k + 1)) = X ++ [(k : Int)]) := by
          show _ = _
          rw [DT.out, if_pos hs]
        rw [hs] at q2 BX
        have OW1 := own_below ho BX
        have HB1 := btr hb BX
        have BY := below_alloc (wr.alloc (.cells #[.int .i64 x.p, .int .i64 x.q, .int .i64 0] 199)) (.cells #[.int .i64 (k : Int)] 3)
        have OW := hide (own_below OW1 BY)
        have HB := hide (btr HB1 BY)
        have SR := cell_one_new (wr.alloc (.cells #[.int .i64 x.p, .int .i64 x.q, .int .i64 0] 199)) (.int .i64 (k : Int)) 3
        rw [World.size_alloc] at SR
        have SRC := hide SR
        clear OW1 HB1 BY SR ho hb BX DT hs
        go_wp2_with (at_builtin; refine wpList_append_own _ rfl _ _ 67 rfl w.heap.size 3 i0 (.int .i64 0) 1 8 Tryz.underlying67 INF.out.1 INF.out.2.1 INF.out.2.2.1 INF.out.2.2.2 rfl (by decide) _ _ _ rfl OW.out ⟨wr.heap.size + 1, 0, none⟩ 1 1 [.int .i64 (k : Int)] rfl rfl ?c1 ?c2 ?c3 ?c4 ?c5 ?_)
        case c1 => first | exact SRC.out | exact fun j u hj => hj
        case c2 => intro u hu; simp at hu; subst hu; rfl
        case c3 => unfold maxLen; omega
        case c4 => omega
        case c5 => first | exact HB.out.size | (have := HB.out.size; rw [World.size_alloc, World.size_alloc] at this; exact this)
        intro v' w3 ho hg3 _
        have B3 : Hid (Below w.heap.size w w3) := HB.out.grown hg3 HB.out.size (fun x hx => (OW.out.lt x hx).1)
        have O3 : Hid (w3.ownsRow w.heap.size 3 1 v' (abl (l.take (k + 1))).length (ic (abl (l.take (k + 1))))) := by
          show World.ownsRow _ _ _ _ _ _ _
          rw [EX.out, ic_app, List.length_append]
          exact ho
        clear ho hg3
        go_wp2_with fail
        go_roundw
        case rel =>
          first
            | exact ⟨v', k + 1, by omega, by go_num, rfl, O3.out, B3.out⟩
            | ((repeat apply Exists.intro); exact ⟨⟨v', k + 1, by omega, by go_num, rfl, O3.out, B3.out⟩, rfl⟩)
        case measure => simp [intOf]; omega
      · have hs' : (x.s == 0) = false := by simpa using hs
        have EX : Hid (abl (l.take (k + 1)) = X) := by
          show _ = _
          rw [DT.out, if_neg hs, List.append_nil]
        have O3 : Hid ((wr.alloc (.cells #[.int .i64 x.p, .int .i64 x.q, .int .i64 x.s] 199)).ownsRow w.heap.size 3 1 u3 (abl (l.take (k + 1))).length (ic (abl (l.take (k + 1))))) := by
          show World.ownsRow _ _ _ _ _ _ _
          rw [EX.out]
          exact own_below ho BX
        have B3 := hide (btr hb BX)
        clear ho hb BX DT hs
        go_wp2_with fail
        go_roundw
        case rel =>
          first
            | exact ⟨_, k + 1, by omega, by go_num, rfl, O3.out, B3.out⟩
            | exact ⟨k + 1, by omega, by go_num, O3.out, B3.out⟩
        case measure => simp [intOf]; omega
    · have hlt' : ¬ ((k : Int) < (l.length : Int)) := by omega
      rw [List.take_of_length_le (by omega)] at ho
      obtain ⟨oa', c', hv', hA', _⟩ := own_at ho
      subst hv'
      have HA' := hide hA'
      have HB := hide hb
      clear ho hb hA'
      go_wp2_with fail
      go_ret
      first
        | exact ⟨oa', c', rfl, HA'.out, HB.out⟩
        | exact ⟨oa', ⟨c', rfl⟩, HA'.out, HB.out⟩

set_option maxRecDepth 100000 in
set_option maxHeartbeats 1600000 in
theorem rover_any (B : Nat) (F : Nat → Prop) (l : List Mb) (w : World) (h : RC w B F l) :
    Calls Tryz.prog 111 #[.pointer (some ⟨B, 0, none⟩)] w fun r w' => r = .returned (.int .i64 (ovr l)) ∧ Below w.heap.size w w' := by
  have hle := h.le
  obtain ⟨oa, c, h⟩ := h
  have hB := h.lt
  have y0 : w.cell? ⟨B, 0, none⟩ = some (.slice oa l.length c) := cell_of h.hp 0
  have HA := hide h.at.1
  clear h
  go_enter Tryz.func111, Tryz.ntmps111
  go_wp2_with fail
  go_loopw [3, 11] (fun o i wr => ∃ (k : Nat) (n : Int), k ≤ l.length ∧ i = .int .i64 k ∧ o = .int .i64 n ∧ (hasS (l.take k) 0 = false ∧ n = if hasS (l.take k) 1 = true then 2 else 1) ∧ Below w.heap.size w wr) (fun _ i _ => l.length - (intOf i).toNat)
  case atStart => exact ⟨0, 1, Nat.zero_le _, rfl, rfl, ⟨rfl, rfl⟩, Below.refl _ _⟩
  case round =>
    obtain ⟨k, n, hk, rfl, rfl, ⟨h0, h1⟩, hb⟩ := hrel
    have H0 := hide h0
    have H1 := hide h1
    have HB := hide hb
    clear h0 h1 hb
    by_cases hlt : k < l.length
    · have hlt' : (k : Int) < (l.length : Int) := by omega
      obtain ⟨x, hx⟩ : ∃ x, l[k]? = some x := ⟨_, List.getElem?_eq_getElem hlt⟩
      obtain ⟨b, rfl, q0, q1, q2⟩ := HA.out.below HB.out k x hx
      have T0 := hide (hasS_take hx 0)
      have T1 := hide (hasS_take hx 1)
      have HX := hide hx
      clear hx
      by_cases hs : x.s = 0
      · rw [hs] at q2
        have EO : Hid (ovr l = 0) := by
          show _ = _
          unfold ovr
          rw [if_pos]
          unfold hasS
          rw [List.any_eq_true]
          exact ⟨x, List.mem_of_getElem? HX.out, by rw [hs]; rfl⟩
        clear hs
        go_wp2_with fail
        go_ret
        exact ⟨ret_int EO.out.symm, btr HB.out (below_alloc _ _)⟩
      · have d0 : (x.s == 0) = false := by simpa using hs
        have N0 : Hid (hasS (l.take (k + 1)) 0 = false) := by show _ = _; rw [T0.out, H0.out, d0]; rfl
        cases d1 : x.s == 1
        · have N1 : Hid (n = if hasS (l.take (k + 1)) 1 = true then 2 else 1) := by show _ = _; rw [T1.out, d1, Bool.or_false]; exact H1.out
          clear hs
          go_wp2_with fail
          go_roundw
          case rel => exact ⟨k + 1, n, by omega, by go_num, rfl, ⟨N0.out, N1.out⟩, btr HB.out (below_alloc _ _)⟩
          case measure => simp [intOf]; omega
        · have N1 : Hid ((2 : Int) = if hasS (l.take (k + 1)) 1 = true then 2 else 1) := by show _ = _; rw [T1.out, d1, Bool.or_true]; rfl
          clear hs
          go_wp2_with fail
          go_roundw
          case rel => exact ⟨k + 1, 2, by omega, by go_num, rfl, ⟨N0.out, N1.out⟩, btr HB.out (below_alloc _ _)⟩
          case measure => simp [intOf]; omega
    · have hlt' : ¬ ((k : Int) < (l.length : Int)) := by omega
      rw [List.take_of_length_le (by omega)] at H0 H1
      have EO : Hid (ovr l = n) := by
        show _ = _
        unfold ovr
        rw [H1.out, H0.out, if_neg (by simp)]
      go_wp2_with fail
      go_ret
      exact ⟨ret_int EO.out.symm, HB.out⟩
set_option maxRecDepth 100000 in
set_option maxHeartbeats 1600000 in
theorem rspawn_any (B : Nat) (F : Nat → Prop) (l : List Mb) (p : Int) (w : World) (h : RC w B F l) :
    Calls Tryz.prog 101 #[.pointer (some ⟨B, 0, none⟩), .int .i64 p] w fun r w' => r = .returned (.tuple #[.int .i64 (spV l p), .int .i64 (spE l p)]) ∧ Po 158 199 w w' B F (spL l p) := by
  unfold spV spE spL
  by_cases h1 : p < 0
  · simp only [if_pos h1]
    have H := hide h
    clear h
    go_enter Tryz.func101, Tryz.ntmps101
    go_wp2_with fail
    go_ret2
    exact ⟨rfl, Po.of H.out (Below.refl _ _)⟩
  simp only [if_neg h1]
  have d1 : decide (p < 0) = false := decide_eq_false h1
  have hle := h.le
  obtain ⟨oa, c, h⟩ := h
  have hB := h.lt
  have y0 : w.cell? ⟨B, 0, none⟩ = some (.slice oa l.length c) := cell_of h.hp 0
  by_cases h2 : 512 ≤ l.length
  · simp only [if_pos h2]
    have hl : l.length = 512 := by omega
    have H := hide h
    rw [hl] at y0
    clear h hl h2 hle
    go_enter Tryz.func101, Tryz.ntmps101
    go_wp2_with fail
    go_ret2
    exact ⟨rfl, Po.of ⟨_, _, H.out⟩ (Below.refl _ _)⟩
  simp only [if_neg h2]
  have e1 : decide ((512 : Int) ≤ ((l.length : Nat) : Int)) = false := decide_eq_false (by omega)
  have hl : l.length < 512 := by omega
  have BD := hide h.bd
  have b1 := below_alloc w (.cells #[.int .i64 p, .int .i64 0, .int .i64 0] 199)
  have B1 := hide b1
  have H1 := hide (h.below b1)
  have f0 : w.frozen? ⟨B, 0, none⟩ = false := frozen_of h.hp 0
  cases hi : Tryz.prog.info? 199 with
  | none => have := info_one; rw [hi] at this; cases this
  | some i0 =>
  have hx := info_one
  rw [hi] at hx
  simp at hx
  have INF := hide (And.intro hi hx)
  clear hx hi h2 hle h b1
  go_enter Tryz.func101, Tryz.ntmps101
  go_wp2_with (at_builtin; refine wpList_append_own_at _ rfl _ _ 156 rfl 0 199 i0 (tv 0 0 0) 3 24 Tryz.underlying156 INF.out.1 INF.out.2.1 INF.out.2.2.1 INF.out.2.2.2 rfl (by decide) _ _ _ rfl H1.out.ow ⟨w.heap.size, 0, none⟩ 1 1 (mc [⟨p, 0, 0⟩]) rfl rfl ?c1 ?c2 ?c3 ?c4 (Nat.zero_le _) ?_)
  case c1 => first | exact src3 w ⟨p, 0, 0⟩ _ | exact fun j u hj => hj
  case c2 => exact mc_one _
  case c3 => unfold maxLen; omega
  case c4 => omega
  intro v' w2 ho hg _ hat
  rw [← mc_app] at ho
  have ho2 : w2.ownsRow 0 199 3 v' (l ++ [Mb.mk p 0 0]).length (mc (l ++ [Mb.mk p 0 0])) := by rw [List.length_append]; exact ho
  obtain ⟨oa', c', rfl, _, _⟩ := owns_mat ho2
  have hB1 : some B ≠ (Value.slice oa l.length c).ownBlock := own_ty H1.out.ow H1.out.hp (by decide)
  have hB2 : w2.heap[B]? = some (.cells #[.slice oa l.length c] 158 (0, 0)) := (hg.block B H1.out.lt hB1).trans H1.out.hp
  have y2 : w2.cell? ⟨B, 0, none⟩ = some (.slice oa l.length c) := cell_of hB2 0
  have f2 : w2.frozen? ⟨B, 0, none⟩ = false := frozen_of hB2 0
  have PO := hide (H1.out.grow B1.out BD.out (by decide) ho2 hg (by rw [World.size_alloc]; exact hat) hl)
  clear ho ho2 hg hat hB1 hB2
  have hn2 : (l ++ [Mb.mk p 0 0]).length = l.length + 1 := by simp
  generalize (l ++ [Mb.mk p 0 0]).length = n2 at PO hn2 ⊢
  subst hn2
  go_wp2_with fail
  go_ret2
  exact ⟨by first | rfl | (simp; done) | (congr 3; omega), PO.out⟩
end Cr
end Go.Proofs.YtblfimobiibmjaaGreat
/- The reference's New, over this seat's program. -/
namespace Go.Proofs.YtblfimobiibmjaaGreat
open Go.ChangeShapes Go.WideShapes Go.ChangeAt Go.RowKit
namespace Pk
open Ba

theorem ab_no {lo hi : Int} {l : List Int} {k : Nat} (hk : k < l.length) (h : nth l k < lo ∨ hi < nth l k) : ab lo hi l = false := by
  rw [← Bool.not_eq_true]
  intro e
  have := ab_nth.1 e k hk
  omega
theorem ne_long {p d : List Int} (h : 200 < p.length ∨ 64 < d.length) : ne p d = 2 := by
  unfold ne
  have : (decide (200 < p.length) || decide (64 < d.length)) = true := by simp; omega
  rw [this]
  rfl
theorem ne_4 {p d : List Int} (h1 : p.length ≤ 200) (h2 : d.length ≤ 64) (h : ab (-1) 1000 p = false ∨ ab 0 1000 d = false) : ne p d = 4 := by
  unfold ne
  have : (decide (200 < p.length) || decide (64 < d.length)) = false := by simp; omega
  rw [this]
  rcases h with h | h <;> rw [h] <;> simp
theorem ne_0 {p d : List Int} (h1 : p.length ≤ 200) (h2 : d.length ≤ 64) (h3 : ab (-1) 1000 p = true) (h4 : ab 0 1000 d = true) : ne p d = 0 := by
  unfold ne
  have : (decide (200 < p.length) || decide (64 < d.length)) = false := by simp; omega
  rw [this, h3, h4]
  rfl

/-- what the reference's New answers -/
def RN (w : World) (N : Nat) (p d : List Int) (r : Ending) (w' : World) : Prop :=
  (ne p d ≠ 0 ∧ r = .returned (.tuple #[.pointer none, .int .i64 (ne p d)]) ∧ w' = w) ∨ (ne p d = 0 ∧ r = .returned (.tuple #[.pointer (some ⟨w.heap.size, 0, none⟩), .int .i64 0]) ∧ RCur w' w.heap.size N p d ∧ Below w.heap.size w w')

set_option maxHeartbeats 3200000 in
theorem rnew_any (oa ob : Option Addr) (p d : List Int) (c e N : Nat) (w : World) (nA : 0 < p.length → ∀ a, oa = some a → a.block < N) (nB : 0 < d.length → ∀ a, ob = some a → a.block < N) (hA : At w oa p) (hB : At w ob d) (hp : p.length ≤ maxLen) (hd : d.length ≤ maxLen) :
    Calls Tryz.prog 100 #[.slice oa p.length c, .slice ob d.length e] w fun r w' => RN w N p d r w' := by
  have HA := hide hA
  have HB := hide hB
  have NA := hide nA
  have NB := hide nB
  unfold maxLen at hp hd
  clear hA hB nA nB
  by_cases h1 : 200 < p.length
  · have g1 : decide (200 < (p.length : Int)) = true := by simp; omega
    have E := hide (ne_long (p := p) (d := d) (.inl h1))
    go_enter Tryz.func100, Tryz.ntmps100
    go_wp2_with fail
    go_ret2
    exact .inl ⟨by rw [E.out]; decide, by rw [E.out]; rfl, rfl⟩
  have g1 : decide (200 < (p.length : Int)) = false := by simp; omega
  by_cases h2 : 64 < d.length
  · have g2 : decide (64 < (d.length : Int)) = true := by simp; omega
    have E := hide (ne_long (p := p) (d := d) (.inr h2))
    go_enter Tryz.func100, Tryz.ntmps100
    go_wp2_with fail
    go_ret2
    exact .inl ⟨by rw [E.out]; decide, by rw [E.out]; rfl, rfl⟩
  have g2 : decide (64 < (d.length : Int)) = false := by simp; omega
  go_enter Tryz.func100, Tryz.ntmps100
  go_wp2_with fail
  go_loop [20] (fun i => ∃ k : Nat, k ≤ p.length ∧ i = .int .i64 k ∧ ∀ j, j < k → -1 ≤ nth p j ∧ nth p j ≤ 1000) (fun i => p.length - (intOf i).toNat)
  case atStart => exact ⟨0, Nat.zero_le _, rfl, fun j hj => absurd hj (Nat.not_lt_zero _)⟩
  case round =>
    obtain ⟨k, hk, rfl, hall⟩ := hrel
    have HE := hide hall
    clear hall
    by_cases hlt : k < p.length
    · obtain ⟨b1, o1, rfl, hc1⟩ := HA.out k hlt
      have hlt' : (k : Int) < (p.length : Int) := by omega
      cases e1 : decide (nth p k < -1)
      · cases e2 : decide (1000 < nth p k)
        · have HX : Hid (-1 ≤ nth p k ∧ nth p k ≤ 1000) := by show _ ∧ _; simp at e1 e2; omega
          go_wp2_with fail
          go_round
          case rel => exact ⟨k + 1, by omega, by go_num, fun j hj => by
            by_cases e : j = k
            · subst e; exact HX.out
            · exact HE.out j (by omega)⟩
          case measure => simp [intOf]; omega
        · have E : Hid (ne p d = 4) := ne_4 (by omega) (by omega) (.inl (ab_no hlt (.inr (by simpa using e2))))
          go_wp2_with fail
          go_ret2
          exact .inl ⟨by rw [E.out]; decide, by rw [E.out]; rfl, rfl⟩
      · have E : Hid (ne p d = 4) := ne_4 (by omega) (by omega) (.inl (ab_no hlt (.inl (by simpa using e1))))
        go_wp2_with fail
        go_ret2
        exact .inl ⟨by rw [E.out]; decide, by rw [E.out]; rfl, rfl⟩
    · have hlt' : ¬ ((k : Int) < (p.length : Int)) := by omega
      have AP : Hid (ab (-1) 1000 p = true) := ab_nth.2 fun j hj => HE.out j (by omega)
      clear HE
      go_wp2_with fail
      go_loop [33] (fun i => ∃ k : Nat, k ≤ d.length ∧ i = .int .i64 k ∧ ∀ j, j < k → 0 ≤ nth d j ∧ nth d j ≤ 1000) (fun i => d.length - (intOf i).toNat)
      case atStart => exact ⟨0, Nat.zero_le _, rfl, fun j hj => absurd hj (Nat.not_lt_zero _)⟩
      case round =>
        obtain ⟨i, hi, rfl, hall⟩ := hrel
        have HE := hide hall
        clear hall
        by_cases hil : i < d.length
        · obtain ⟨b1, o1, rfl, hc1⟩ := HB.out i hil
          have hil' : (i : Int) < (d.length : Int) := by omega
          cases e1 : decide (nth d i < 0)
          · cases e2 : decide (1000 < nth d i)
            · have HX : Hid (0 ≤ nth d i ∧ nth d i ≤ 1000) := by show _ ∧ _; simp at e1 e2; omega
              go_wp2_with fail
              go_round
              case rel => exact ⟨i + 1, by omega, by go_num, fun j hj => by
                by_cases e : j = i
                · subst e; exact HX.out
                · exact HE.out j (by omega)⟩
              case measure => simp [intOf]; omega
            · have E : Hid (ne p d = 4) := ne_4 (by omega) (by omega) (.inr (ab_no hil (.inr (by simpa using e2))))
              go_wp2_with fail
              go_ret2
              exact .inl ⟨by rw [E.out]; decide, by rw [E.out]; rfl, rfl⟩
          · have E : Hid (ne p d = 4) := ne_4 (by omega) (by omega) (.inr (ab_no hil (.inl (by simpa using e1))))
            go_wp2_with fail
            go_ret2
            exact .inl ⟨by rw [E.out]; decide, by rw [E.out]; rfl, rfl⟩
        · have hil' : ¬ ((i : Int) < (d.length : Int)) := by omega
          have AD : Hid (ab 0 1000 d = true) := ab_nth.2 fun j hj => HE.out j (by omega)
          clear HE
          go_wp2_with fail
          go_ret2
          refine .inr ⟨ne_0 (by omega) (by omega) AP.out AD.out, rfl, ?_, below_alloc _ _⟩
          exact ⟨oa, c, ob, e, 0, 0, p, d, heap_new _ _, ⟨HA.out.below (below_alloc _ _), Nat.zero_le _, rfl, by omega, NA.out⟩, HB.out.below (below_alloc _ _), Nat.zero_le _, rfl, by omega, NB.out⟩
end Pk
end Go.Proofs.YtblfimobiibmjaaGreat
/- The reference's loom in memory: its parts, each of a colour of its own; the channels' names. -/
namespace Go.Proofs.YtblfimobiibmjaaGreat
open Go.ChangeShapes Go.WideShapes Go.ChangeAt Go.RowKit
namespace Rlo
open Ba Lo

/-- what is of a colour from 6 on has not changed, and has its colour still -/
structure Tq (col col' : Nat → Nat) (w w' : World) : Prop where
  os : w'.os = w.os
  tape : w'.tape = w.tape
  output : w'.output = w.output
  size : w.heap.size ≤ w'.heap.size
  block : ∀ x, x < w.heap.size → 6 ≤ col x → w'.heap[x]? = w.heap[x]?
  old : ∀ x, x < w.heap.size → 6 ≤ col x → col' x = col x
theorem tq_of {K : Nat → Prop} {col col' : Nat → Nat} {w w' : World} (h : Ch K col col' w w') (hk : ∀ c, K c → c < 6) : Tq col col' w w' :=
  ⟨h.os, h.tape, h.output, h.size, fun x hx hc => h.block x hx (fun e => by have := hk _ e; omega), fun x hx _ => h.old x hx⟩
theorem Tq.refl (col : Nat → Nat) (w : World) : Tq col col w w := ⟨rfl, rfl, rfl, Nat.le_refl _, fun _ _ _ => rfl, fun _ _ _ => rfl⟩
theorem Tq.trans {c1 c2 c3 : Nat → Nat} {a b c : World} (h : Tq c1 c2 a b) (k : Tq c2 c3 b c) : Tq c1 c3 a c :=
  ⟨k.os.trans h.os, k.tape.trans h.tape, k.output.trans h.output, Nat.le_trans h.size k.size,
    fun x hx hc => (k.block x (Nat.lt_of_lt_of_le hx h.size) (by rw [h.old x hx hc]; exact hc)).trans (h.block x hx hc),
    fun x hx hc => (k.old x (Nat.lt_of_lt_of_le hx h.size) (by rw [h.old x hx hc]; exact hc)).trans (h.old x hx hc)⟩
theorem Tq.heap {col col' : Nat → Nat} {w w' : World} (h : Tq col col' w w') {x : Nat} {o : Obj} (hx : w.heap[x]? = some o) (hc : col x = 7) : w'.heap[x]? = some o := (h.block x (heap_lt hx) (by omega)).trans hx
theorem Tq.cell {col col' : Nat → Nat} {w w' : World} (h : Tq col col' w w') {b k : Nat} {v : Value} (hx : w.cell? ⟨b, k, none⟩ = some v) (hc : 6 ≤ col b) : w'.cell? ⟨b, k, none⟩ = some v := by
  have := h.block b (World.block_lt_of_cell? w _ hx) hc
  rw [← hx]
  simp only [World.cell?, this]
/-- what a loom keeps of its script beside the programs -/
structure Hd where
  t : Int
  m : Int
  la : Option Addr
  ln : Nat
  lc : Nat
  da : Option Addr
  dn : Nat
  dc : Nat
/-- the cells of a loom -/
def rcs (q : Hd) (pa : Option Addr) (n pc C B : Nat) (oa : Option Addr) (cn oc : Nat) (nm : List Int) (ta : Option Addr) (tn tc : Nat) (pk : Bool) : Array Value :=
  #[.int .i64 q.t, .int .i64 q.m, .slice pa n pc, .slice q.la q.ln q.lc, .slice q.da q.dn q.dc, .pointer (some ⟨C, 0, none⟩), .pointer (some ⟨B, 0, none⟩), .slice oa cn oc, .int .i64 (nth nm 0), .int .i64 (nth nm 1), .int .i64 (nth nm 2), .int .i64 (nth nm 3), .int .i64 (nth nm 4), .int .i64 (nth nm 5), .int .i64 (nth nm 6), .int .i64 (nth nm 7), .slice ta tn tc, .bool pk]
/-- all channels, by the names -/
def vw {α : Type} (nm : List Int) (l : List (Option α)) : List (Option α) := nm.map fun n => if n < 0 then none else (l[n.toNat]?).join
theorem vw_len {α : Type} (nm : List Int) (l : List (Option α)) : (vw nm l).length = nm.length := by simp [vw]
theorem nth_get {l : List Int} {i : Nat} (h : i < l.length) : l[i]? = some (nth l i) := by
  rw [List.getElem?_eq_getElem h]
  simp [nth, List.getElem?_eq_getElem h]
theorem vw_at {α : Type} {nm : List Int} {l : List (Option α)} {i : Nat} (h : i < nm.length) : (vw nm l)[i]? = some (if nth nm i < 0 then none else (l[(nth nm i).toNat]?).join) := by
  simp [vw, nth_get h]
/-- names: each of at most one channel of k, each channel has at most one name -/
structure NI (nm : List Int) (k : Nat) : Prop where
  len : nm.length = 8
  lt : ∀ i, i < 8 → nth nm i < (k : Int)
  ge : ∀ i, i < 8 → -1 ≤ nth nm i
  inj : ∀ i j, i < 8 → j < 8 → 0 ≤ nth nm i → nth nm i = nth nm j → i = j
structure RX (w : World) (col : Nat → Nat) (L N C B : Nat) (FB : Nat → Prop) (q : Hd) (pa : Option Addr) (pc : Nat) (oa : Option Addr) (oc : Nat) (bs : List (Option Nat)) (Fs : Nat → Nat → Prop) (cs : List (Option St)) (ta : Option Addr) (tc : Nat) (s : Lm) : Prop where
  hp : w.heap[L]? = some (.cells (rcs q pa s.ps.length pc C B oa bs.length oc s.nm ta s.tr.length tc s.pk) 114 (0, 0))
  ps : ∃ w0, w0.heap.size ≤ N ∧ Below w0.heap.size w0 w ∧ Sh.PAt w0 pa s.ps
  cu : Pk.RCur w C N s.p s.d
  nc : N ≤ C
  cr : Cr.RC w B FB s.cr
  rw : w.ownsRow 0 200 1 (.slice oa bs.length oc) bs.length (bs.map Pe.pt)
  qs : Fk.Qs Rp.Rr w oa bs Fs cs
  ni : NI s.nm bs.length
  md : s.md = (bs.length : Int)
  vs : s.sts = vw s.nm cs
  tr : w.ownsRow 0 50 8 (.slice ta s.tr.length tc) s.tr.length (ec s.tr)
  c0 : col L = 0
  c1 : col C = 1
  c2 : ∀ x, FB x → col x = 2
  c3 : ∀ g, (Value.slice oa bs.length oc).ownBlock = some g → col g = 3
  c4 : ∀ i x, Fs i x → col x = 4
  c5 : ∀ g, (Value.slice ta s.tr.length tc).ownBlock = some g → col g = 5
  c6 : ∀ x, x < N → col x = 6
/-- the reference's loom in block L -/
def RW (w : World) (col : Nat → Nat) (L N : Nat) (s : Lm) : Prop := ∃ C B FB q pa pc oa oc bs Fs cs ta tc, RX w col L N C B FB q pa pc oa oc bs Fs cs ta tc s
theorem rcur_keep {w w' : World} {R N : Nat} {p d : List Int} (h : Pk.RCur w R N p d) (h1 : w'.heap[R]? = w.heap[R]?) (h2 : ∀ x, x < N → x < w.heap.size → w'.heap[x]? = w.heap[x]?) : Pk.RCur w' R N p d := by
  have ak : ∀ {oa : Option Addr} {l : List Int}, At w oa l → (0 < l.length → ∀ a, oa = some a → a.block < N) → At w' oa l := by
    intro oa l h hn j hj
    obtain ⟨b, off, rfl, hc⟩ := h j hj
    refine ⟨b, off, rfl, ?_⟩
    have := h2 b (hn (by omega) _ rfl) (World.block_lt_of_cell? w _ hc)
    rw [← hc]
    simp only [World.cell?, this]
  obtain ⟨oa, ca, ob, cb, P, D, p0, d0, q0, ⟨q1, q2, q3, q4, q5⟩, q6, q7, q8, q9, q10⟩ := h
  exact ⟨oa, ca, ob, cb, P, D, p0, d0, h1.trans q0, ⟨ak q1 q5, q2, q3, q4, q5⟩, ak q6 q10, q7, q8, q9, q10⟩
theorem rcur_lt {w : World} {R N : Nat} {p d : List Int} (h : Pk.RCur w R N p d) : R < w.heap.size := by
  obtain ⟨oa, ca, ob, cb, P, D, p0, d0, q0, _⟩ := h
  exact heap_lt q0
section
variable {w w' : World} {col col' : Nat → Nat} {L N C B : Nat} {FB : Nat → Prop} {q : Hd} {pa : Option Addr} {pc : Nat} {oa : Option Addr} {oc : Nat} {bs : List (Option Nat)} {Fs : Nat → Nat → Prop} {cs : List (Option St)} {ta : Option Addr} {tc : Nat} {s : Lm} {K : Nat → Prop}
theorem RX.lw (h : RX w col L N C B FB q pa pc oa oc bs Fs cs ta tc s) : RW w col L N s := ⟨C, B, FB, q, pa, pc, oa, oc, bs, Fs, cs, ta, tc, h⟩
theorem RX.lt (h : RX w col L N C B FB q pa pc oa oc bs Fs cs ta tc s) : L < w.heap.size := heap_lt h.hp
theorem RX.blk {g : Nat} (h : RX w col L N C B FB q pa pc oa oc bs Fs cs ta tc s) (e : (Value.slice oa bs.length oc).ownBlock = some g) : g < w.heap.size := by
  obtain ⟨_, cur, hc⟩ := Cr.own_blk h.rw g e
  exact heap_lt hc
theorem RX.blt {g : Nat} (h : RX w col L N C B FB q pa pc oa oc bs Fs cs ta tc s) (e : (Value.slice ta s.tr.length tc).ownBlock = some g) : g < w.heap.size := by
  obtain ⟨_, cur, hc⟩ := Cr.own_blk h.tr g e
  exact heap_lt hc
theorem RX.keepHp (h : RX w col L N C B FB q pa pc oa oc bs Fs cs ta tc s) (c : Ch K col col' w w') (hk : ¬ K 0) : w'.heap[L]? = some (.cells (rcs q pa s.ps.length pc C B oa bs.length oc s.nm ta s.tr.length tc s.pk) 114 (0, 0)) :=
  (c.block L h.lt (by rw [h.c0]; exact hk)).trans h.hp
theorem RX.keepPs (h : RX w col L N C B FB q pa pc oa oc bs Fs cs ta tc s) (c : Ch K col col' w w') (hk : ¬ K 6) : ∃ w0, w0.heap.size ≤ N ∧ Below w0.heap.size w0 w' ∧ Sh.PAt w0 pa s.ps := by
  obtain ⟨w0, h0, b0, p0⟩ := h.ps
  refine ⟨w0, h0, ⟨c.os.trans b0.os, c.tape.trans b0.tape, c.output.trans b0.output, Nat.le_trans b0.size c.size, fun x hx => ?_⟩, p0⟩
  exact (c.block x (Nat.lt_of_lt_of_le hx b0.size) (by rw [h.c6 x (Nat.lt_of_lt_of_le hx h0)]; exact hk)).trans (b0.block x hx)
theorem RX.keepCu (h : RX w col L N C B FB q pa pc oa oc bs Fs cs ta tc s) (c : Ch K col col' w w') (hk : ¬ K 1) (h6 : ¬ K 6) : Pk.RCur w' C N s.p s.d :=
  rcur_keep h.cu (c.block C (rcur_lt h.cu) (by rw [h.c1]; exact hk)) (fun x hx hl => c.block x hl (by rw [h.c6 x hx]; exact h6))
theorem RX.keepCr (h : RX w col L N C B FB q pa pc oa oc bs Fs cs ta tc s) (c : Ch K col col' w w') (hk : ¬ K 2) : Cr.RC w' B FB s.cr := by
  obtain ⟨oa, cc, hw⟩ := h.cr
  exact ⟨oa, cc, hw.sm fun x hx => c.block x (hw.bd x hx) (by rw [h.c2 x hx]; exact hk)⟩
theorem RX.keepRw (h : RX w col L N C B FB q pa pc oa oc bs Fs cs ta tc s) (c : Ch K col col' w w') (hk : ¬ K 3) : w'.ownsRow 0 200 1 (.slice oa bs.length oc) bs.length (bs.map Pe.pt) :=
  Cr.own_keep h.rw fun g e => c.block g (h.blk e) (by rw [h.c3 g e]; exact hk)
theorem own_row {e : TypeId} {base : Nat} (h : w.ownsRow base e 1 (.slice oa bs.length oc) bs.length (bs.map Pe.pt)) : Fk.PR w oa bs ∧ ∀ a, oa = some a → (Value.slice oa bs.length oc).ownBlock = some a.block := by
  rcases h.2 with ⟨e0, h0⟩ | ⟨g, cap, cur, e0, hbase, hg, hc, _, hcs, htk⟩
  · obtain rfl := List.eq_nil_of_length_eq_zero h0
    cases e0
    exact ⟨fun i o hi => by simp at hi, fun a e => by cases e⟩
  · cases e0
    refine ⟨fun k o hk => ?_, fun a e => by cases e; rfl⟩
    have hkl := (List.getElem?_eq_some_iff.1 hk).1
    refine ⟨g, 0, rfl, ?_⟩
    have q : (bs.map Pe.pt)[k]? = some (Pe.pt o) := by simp [hk]
    rw [← htk, List.getElem?_take_of_lt (by omega)] at q
    rw [Nat.zero_add, cell_of hg]
    simpa using q
theorem RX.keepQs (h : RX w col L N C B FB q pa pc oa oc bs Fs cs ta tc s) (c : Ch K col col' w w') (hk : ¬ K 4) (h3 : ¬ K 3) : Fk.Qs Rp.Rr w' oa bs Fs cs :=
  h.qs.keep Fk.frR (fun i x hx => c.block x (h.qs.bd i x hx) (by rw [h.c4 i x hx]; exact hk)) (fun a e hl => c.block _ hl (by rw [h.c3 _ ((own_row h.rw).2 a e)]; exact h3))
theorem RX.keepTr (h : RX w col L N C B FB q pa pc oa oc bs Fs cs ta tc s) (c : Ch K col col' w w') (hk : ¬ K 5) : w'.ownsRow 0 50 8 (.slice ta s.tr.length tc) s.tr.length (ec s.tr) :=
  Cr.own_keep h.tr fun g e => c.block g (h.blt e) (by rw [h.c5 g e]; exact hk)
theorem RX.k0 (h : RX w col L N C B FB q pa pc oa oc bs Fs cs ta tc s) (c : Ch K col col' w w') : col' L = 0 := (c.old L h.lt).trans h.c0
theorem RX.k1 (h : RX w col L N C B FB q pa pc oa oc bs Fs cs ta tc s) (c : Ch K col col' w w') : col' C = 1 := (c.old C (rcur_lt h.cu)).trans h.c1
theorem RX.k2 (h : RX w col L N C B FB q pa pc oa oc bs Fs cs ta tc s) (c : Ch K col col' w w') : ∀ x, FB x → col' x = 2 := fun x hx => (c.old x (h.cr.bd x hx)).trans (h.c2 x hx)
theorem RX.k3 (h : RX w col L N C B FB q pa pc oa oc bs Fs cs ta tc s) (c : Ch K col col' w w') : ∀ g, (Value.slice oa bs.length oc).ownBlock = some g → col' g = 3 := fun g e => (c.old g (h.blk e)).trans (h.c3 g e)
theorem RX.k4 (h : RX w col L N C B FB q pa pc oa oc bs Fs cs ta tc s) (c : Ch K col col' w w') : ∀ i x, Fs i x → col' x = 4 := fun i x hx => (c.old x (h.qs.bd i x hx)).trans (h.c4 i x hx)
theorem RX.k5 (h : RX w col L N C B FB q pa pc oa oc bs Fs cs ta tc s) (c : Ch K col col' w w') : ∀ g, (Value.slice ta s.tr.length tc).ownBlock = some g → col' g = 5 := fun g e => (c.old g (h.blt e)).trans (h.c5 g e)
theorem RX.k6 (h : RX w col L N C B FB q pa pc oa oc bs Fs cs ta tc s) (c : Ch K col col' w w') : ∀ x, x < N → col' x = 6 := fun x hx => (c.old x (by have := rcur_lt h.cu; have := h.nc; omega)).trans (h.c6 x hx)
/-- what is foreign has changed -/
theorem RX.keep (h : RX w col L N C B FB q pa pc oa oc bs Fs cs ta tc s) (c : Ch (fun c => c = 7) col col' w w') : RX w' col' L N C B FB q pa pc oa oc bs Fs cs ta tc s :=
  ⟨h.keepHp c (by simp), h.keepPs c (by simp), h.keepCu c (by simp) (by simp), h.nc, h.keepCr c (by simp), h.keepRw c (by simp), h.keepQs c (by simp) (by simp), h.ni, h.md, h.vs, h.keepTr c (by simp), h.k0 c, h.k1 c, h.k2 c, h.k3 c, h.k4 c, h.k5 c, h.k6 c⟩
theorem RX.below (h : RX w col L N C B FB q pa pc oa oc bs Fs cs ta tc s) (hb : Below w.heap.size w w') : ∃ col', RX w' col' L N C B FB q pa pc oa oc bs Fs cs ta tc s ∧ Tq col col' w w' ∧ ∀ x, w.heap.size ≤ x → col' x = 7 := by
  obtain ⟨col', o, _, n⟩ := ext_ex w col (fun _ => False) 7
  exact ⟨col', h.keep (ch_below _ hb o), tq_of (ch_below (fun _ => False) hb o) (fun _ e => e.elim), fun x hx => n x hx (fun h => h)⟩
theorem RX.drew (h : RX w col L N C B FB q pa pc oa oc bs Fs cs ta tc s) : RX w.drew col L N C B FB q pa pc oa oc bs Fs cs ta tc s := h.keep (ch_below _ (bdrew1 w) (fun _ _ => rfl))
/-- the crew has changed -/
theorem RX.crew {l : List Mb} (h : RX w col L N C B FB q pa pc oa oc bs Fs cs ta tc s) (p : Cr.Po 158 199 w w' B FB l) : ∃ FB' col', RX w' col' L N C B FB' q pa pc oa oc bs Fs cs ta tc { s with cr := l } ∧ Tq col col' w w' := by
  obtain ⟨F', p, kf, nw⟩ := p
  obtain ⟨col', o, n, _⟩ := ext_ex w col F' 2
  have c : Ch (fun c => c = 2) col col' w w' := ⟨kf.os, kf.tape, kf.output, kf.size, fun x hx hc => kf.block x hx (fun e => hc (h.c2 x e)), o⟩
  refine ⟨F', col', ⟨h.keepHp c (by simp), h.keepPs c (by simp), h.keepCu c (by simp) (by simp), h.nc, p, h.keepRw c (by simp), h.keepQs c (by simp) (by simp), h.ni, h.md, h.vs, h.keepTr c (by simp), h.k0 c, h.k1 c, fun x hx => ?_, h.k3 c, h.k4 c, h.k5 c, h.k6 c⟩, tq_of c (fun _ (e : _ = _) => by omega)⟩
  rcases Nat.lt_or_ge x w.heap.size with e | e
  · rcases nw x hx with z | z
    · exact h.k2 c x z
    · omega
  · exact n x e hx
/-- the cursor has changed -/
theorem RX.cursor {p d : List Int} (h : RX w col L N C B FB q pa pc oa oc bs Fs cs ta tc s) (r : Pk.RCur w' C N p d) (kb : KB C w w') : ∃ col', RX w' col' L N C B FB q pa pc oa oc bs Fs cs ta tc { s with p := p, d := d } ∧ Tq col col' w w' := by
  obtain ⟨col', o, _, _⟩ := ext_ex w col (fun _ => False) 7
  have c : Ch (fun c => c = 1) col col' w w' := ⟨kb.os, kb.tape, kb.output, kb.size, fun x hx hc => kb.block x hx (fun e => hc (by rw [e]; exact h.c1)), o⟩
  exact ⟨col', ⟨h.keepHp c (by simp), h.keepPs c (by simp), r, h.nc, h.keepCr c (by simp), h.keepRw c (by simp), h.keepQs c (by simp) (by simp), h.ni, h.md, h.vs, h.keepTr c (by simp), h.k0 c, h.k1 c, h.k2 c, h.k3 c, h.k4 c, h.k5 c, h.k6 c⟩, tq_of c (fun _ (e : _ = _) => by omega)⟩
/-- it has panicked -/
theorem RX.panic (h : RX w col L N C B FB q pa pc oa oc bs Fs cs ta tc s) : RX (w.setCell ⟨L, 17, none⟩ (.bool true)) col L N C B FB q pa pc oa oc bs Fs cs ta tc { s with pk := true } ∧ Tq col col w (w.setCell ⟨L, 17, none⟩ (.bool true)) := by
  have kb := (KB.refl L w).setCell 17 (.bool true)
  have c : Ch (fun c => c = 0) col col w (w.setCell ⟨L, 17, none⟩ (.bool true)) := ⟨kb.os, kb.tape, kb.output, kb.size, fun x hx hc => kb.block x hx (fun e => hc (by rw [e]; exact h.c0)), fun _ _ => rfl⟩
  refine ⟨⟨?_, h.keepPs c (by simp), h.keepCu c (by simp) (by simp), h.nc, h.keepCr c (by simp), h.keepRw c (by simp), h.keepQs c (by simp) (by simp), h.ni, h.md, h.vs, h.keepTr c (by simp), h.k0 c, h.k1 c, h.k2 c, h.k3 c, h.k4 c, h.k5 c, h.k6 c⟩, tq_of c (fun _ (e : _ = _) => by omega)⟩
  rw [Ba.heap_setCell_same h.hp]
  rfl
/-- a cell of a block that is no part of the loom is laid -/
theorem RX.temp {z i : Nat} {v : Value} (h : RX w col L N C B FB q pa pc oa oc bs Fs cs ta tc s) (hz : col z = 7) : RX (w.setCell ⟨z, i, none⟩ v) col L N C B FB q pa pc oa oc bs Fs cs ta tc s := by
  have kb := (KB.refl z w).setCell i v
  exact h.keep ⟨kb.os, kb.tape, kb.output, kb.size, fun x hx hc => kb.block x hx (fun e => hc (by rw [e]; exact hz)), fun _ _ => rfl⟩
end
end Rlo
end Go.Proofs.YtblfimobiibmjaaGreat
/- The reference's loom: its channels by the names, there and back; an event more. -/
namespace Go.Proofs.YtblfimobiibmjaaGreat
open Go.ChangeShapes Go.WideShapes Go.ChangeAt Go.RowKit
namespace Rlo
open Ba Lo

/-- the footprint of what a name is -/
def Fv (nm : List Int) (Fs : Nat → Nat → Prop) : Nat → Nat → Prop := fun i x => i < 8 ∧ 0 ≤ nth nm i ∧ Fs (nth nm i).toNat x
theorem fv_at {nm : List Int} {Fs : Nat → Nat → Prop} {i : Nat} (h : i < 8) (h0 : 0 ≤ nth nm i) : Fv nm Fs i = Fs (nth nm i).toNat := by
  funext x
  simp [Fv, h, h0]
/-- back: a channel with a name has what the name has, any other has what it had -/
def Fb (nm : List Int) (Gs Fs : Nat → Nat → Prop) : Nat → Nat → Prop := fun j x => (∃ i, i < 8 ∧ 0 ≤ nth nm i ∧ (nth nm i).toNat = j ∧ Gs i x) ∨ ((∀ i, i < 8 → 0 ≤ nth nm i → (nth nm i).toNat ≠ j) ∧ Fs j x)
theorem NI.same {nm : List Int} {k i j : Nat} (h : NI nm k) (hi : i < 8) (hj : j < 8) (h0 : 0 ≤ nth nm i) (h1 : 0 ≤ nth nm j) (e : (nth nm i).toNat = (nth nm j).toNat) : i = j := h.inj i j hi hj h0 (by omega)
theorem fb_at {nm : List Int} {k i : Nat} {Gs Fs : Nat → Nat → Prop} (h : NI nm k) (hi : i < 8) (h0 : 0 ≤ nth nm i) : Fb nm Gs Fs (nth nm i).toNat = Gs i := by
  funext x
  apply propext
  constructor
  · rintro (⟨j, hj, h1, e, g⟩ | ⟨n, _⟩)
    · obtain rfl := h.same hj hi h1 h0 e
      exact g
    · exact absurd rfl (n i hi h0)
  · intro g
    exact .inl ⟨i, hi, h0, rfl, g⟩
theorem fb_no {nm : List Int} {j : Nat} {Gs Fs : Nat → Nat → Prop} (h : ∀ i, i < 8 → 0 ≤ nth nm i → (nth nm i).toNat ≠ j) : Fb nm Gs Fs j = Fs j := by
  funext x
  apply propext
  constructor
  · rintro (⟨i, hi, h1, e, g⟩ | ⟨_, g⟩)
    · exact absurd e (h i hi h1)
    · exact g
  · intro g
    exact .inr ⟨h, g⟩
/-- who is called that? -/
def fi (nm : List Int) (j : Nat) : Option Nat := (List.range 8).find? fun i => nth nm i == (j : Int)
theorem fi_at {nm : List Int} {k i : Nat} (h : NI nm k) (hi : i < 8) (h0 : 0 ≤ nth nm i) : fi nm (nth nm i).toNat = some i := by
  have e : (((nth nm i).toNat : Nat) : Int) = nth nm i := by omega
  unfold fi
  rw [e]
  cases hf : (List.range 8).find? fun j => nth nm j == nth nm i with
  | none =>
    rw [List.find?_eq_none] at hf
    have := hf i (List.mem_range.2 hi)
    simp at this
  | some j =>
    have h1 := List.find?_some hf
    have h2 := List.mem_of_find?_eq_some hf
    rw [List.mem_range] at h2
    simp at h1
    rw [h.inj i j hi h2 h0 h1.symm]
theorem fi_no {nm : List Int} {j : Nat} (h : ∀ i, i < 8 → 0 ≤ nth nm i → (nth nm i).toNat ≠ j) : fi nm j = none := by
  unfold fi
  rw [List.find?_eq_none]
  intro i hi e
  rw [List.mem_range] at hi
  simp at e
  exact h i hi (by omega) (by omega)
/-- back: the channels' states -/
def cb (nm : List Int) (sts cs : List (Option St)) : List (Option St) := (List.range cs.length).map fun j => match fi nm j with
  | some i => (sts[i]?).join
  | none => (cs[j]?).join
theorem cb_len (nm : List Int) (sts cs : List (Option St)) : (cb nm sts cs).length = cs.length := by simp [cb]
theorem cb_at {nm : List Int} {sts cs : List (Option St)} {k i : Nat} (h : NI nm k) (hi : i < 8) (h0 : 0 ≤ nth nm i) (hl : (nth nm i).toNat < cs.length) : (cb nm sts cs)[(nth nm i).toNat]? = some (sts[i]?).join := by
  simp [cb, hl, fi_at h hi h0]
theorem cb_no {nm : List Int} {sts cs : List (Option St)} {j : Nat} (h : ∀ i, i < 8 → 0 ≤ nth nm i → (nth nm i).toNat ≠ j) (hl : j < cs.length) : (cb nm sts cs)[j]? = some (cs[j]?).join := by
  simp [cb, hl, fi_no h]
theorem join_some {α : Type} {o : Option α} {x : Option (Option α)} (h : x = some o) : x.join = o := by rw [h]; cases o <;> rfl
section
variable {w w' u : World} {col col' : Nat → Nat} {L N C B : Nat} {FB : Nat → Prop} {q : Hd} {pa : Option Addr} {pc : Nat} {oa : Option Addr} {oc : Nat} {bs : List (Option Nat)} {Fs : Nat → Nat → Prop} {cs : List (Option St)} {ta : Option Addr} {tc : Nat} {s : Lm} {K : Nat → Prop}
theorem RX.nl (h : RX w col L N C B FB q pa pc oa oc bs Fs cs ta tc s) {i : Nat} (hi : i < 8) (h0 : 0 ≤ nth s.nm i) : (nth s.nm i).toNat < bs.length := by
  have := h.ni.lt i hi
  omega
/-- a new row of pointers, by the names -/
theorem RX.view {ob : Option Addr} {d : Nat} (h : RX w col L N C B FB q pa pc oa oc bs Fs cs ta tc s) (hb : Below w.heap.size w u) (ho : u.ownsRow w.heap.size 200 1 (.slice ob (vw s.nm bs).length d) (vw s.nm bs).length ((vw s.nm bs).map Pe.pt)) :
    Fk.Qs Rp.Rr u ob (vw s.nm bs) (Fv s.nm Fs) s.sts := by
  have l8 : (vw s.nm bs).length = 8 := (vw_len _ _).trans h.ni.len
  have hq := h.qs.below Fk.frR hb
  refine ⟨(own_row ho).1, by rw [h.vs, vw_len, vw_len], fun i B1 hi => ?_, fun i hi => ?_, fun i j hij x h1 h2 => ?_, fun a e i h1 => ?_, fun i x hx => ?_⟩
  · have i8 : i < 8 := by have := (List.getElem?_eq_some_iff.1 hi).1; omega
    rw [vw_at (by rw [h.ni.len]; exact i8)] at hi
    by_cases h0 : nth s.nm i < 0
    · rw [if_pos h0] at hi
      cases hi
    · rw [if_neg h0] at hi
      have hg : bs[(nth s.nm i).toNat]? = some (some B1) := by
        have := List.getElem?_eq_getElem (h.nl i8 (by omega))
        rw [this] at hi ⊢
        rw [join_some rfl] at hi
        exact hi
      obtain ⟨st, e1, e2⟩ := hq.one _ B1 hg
      refine ⟨st, ?_, by rw [fv_at i8 (by omega)]; exact e2⟩
      rw [h.vs, vw_at (by rw [h.ni.len]; exact i8), if_neg h0, join_some e1]
  · have i8 : i < 8 := by have := (List.getElem?_eq_some_iff.1 hi).1; omega
    rw [vw_at (by rw [h.ni.len]; exact i8)] at hi
    rw [h.vs, vw_at (by rw [h.ni.len]; exact i8)]
    by_cases h0 : nth s.nm i < 0
    · rw [if_pos h0]
    · rw [if_neg h0] at hi ⊢
      have hg : bs[(nth s.nm i).toNat]? = some none := by
        have := List.getElem?_eq_getElem (h.nl i8 (by omega))
        rw [this] at hi ⊢
        rw [join_some rfl] at hi
        exact hi
      rw [join_some (hq.non _ hg)]
  · obtain ⟨i8, i0, f1⟩ := h1
    obtain ⟨j8, j0, f2⟩ := h2
    exact h.qs.ap _ _ (fun e => hij (h.ni.same i8 j8 i0 j0 e)) x f1 f2
  · obtain ⟨i8, i0, f1⟩ := h1
    have := h.qs.bd _ _ f1
    have := (Cr.own_blk ho a.block ((own_row ho).2 a e)).1
    omega
  · obtain ⟨i8, i0, f1⟩ := hx
    exact Nat.lt_of_lt_of_le (h.qs.bd _ _ f1) hb.size
/-- what the named channels do is what all do -/
theorem RX.back3 {ob : Option Addr} {Gs : Nat → Nat → Prop} {sts : List (Option St)} (h : RX w col L N C B FB q pa pc oa oc bs Fs cs ta tc s) (hb : Below w.heap.size w u) (nw : Fk.NwA Gs (Fv s.nm Fs) u) (r : Fk.Qs Rp.Rr w' ob (vw s.nm bs) Gs sts) (kf : KF (Fk.All (Fv s.nm Fs)) u w') :
    ∃ col', RX w' col' L N C B FB q pa pc oa oc bs (Fb s.nm Gs Fs) (cb s.nm sts cs) ta tc { s with sts := sts } ∧ Tq col col' w w' ∧ ∀ x, w.heap.size ≤ x → x < u.heap.size → col' x = 7 ∧ w'.heap[x]? = u.heap[x]? := by
  have sz : w.heap.size ≤ u.heap.size := hb.size
  have l8 : (vw s.nm bs).length = 8 := (vw_len _ _).trans h.ni.len
  have s8 : sts.length = 8 := r.len.symm.trans l8
  have cl : cs.length = bs.length := h.qs.len.symm
  have fvw : ∀ {x}, Fk.All (Fv s.nm Fs) x → ∃ j, Fs j x ∧ ∃ i, i < 8 ∧ 0 ≤ nth s.nm i ∧ (nth s.nm i).toNat = j := fun ⟨i, i8, i0, f⟩ => ⟨_, f, i, i8, i0, rfl⟩
  have fold : ∀ {i x}, Gs i x → x < u.heap.size → Fk.All (Fv s.nm Fs) x := fun {i x} g hx => by
    rcases nw i x g with z | z
    · exact z
    · omega
  obtain ⟨col', o, n, n7⟩ := ext_ex w col (Fk.All (Fb s.nm Gs Fs)) 4
  have c : Ch (fun c => c = 4) col col' w w' := ⟨kf.os.trans hb.os, kf.tape.trans hb.tape, kf.output.trans hb.output, Nat.le_trans sz kf.size, fun x hx hc => (kf.block x (by omega) (fun e => by
    obtain ⟨j, f, _⟩ := fvw e
    exact hc (h.c4 j x f))).trans (hb.block x hx), o⟩
  have qs : Fk.Qs Rp.Rr w' oa bs (Fb s.nm Gs Fs) (cb s.nm sts cs) := by
    refine ⟨(own_row (h.keepRw c (by simp))).1, by rw [cb_len]; exact h.qs.len, fun j B1 hj => ?_, fun j hj => ?_, fun i j hij x h1 h2 => ?_, fun a e i h1 => ?_, fun j x hx => ?_⟩
    · have jl := (List.getElem?_eq_some_iff.1 hj).1
      by_cases hn : ∃ i, i < 8 ∧ 0 ≤ nth s.nm i ∧ (nth s.nm i).toNat = j
      · obtain ⟨i, i8, i0, rfl⟩ := hn
        have hv : (vw s.nm bs)[i]? = some (some B1) := by rw [vw_at (by rw [h.ni.len]; exact i8), if_neg (by omega), join_some hj]
        obtain ⟨st, e1, e2⟩ := r.one i B1 hv
        exact ⟨st, by rw [cb_at h.ni i8 i0 (by omega), join_some e1], by rw [fb_at h.ni i8 i0]; exact e2⟩
      · have hn' : ∀ i, i < 8 → 0 ≤ nth s.nm i → (nth s.nm i).toNat ≠ j := fun i i8 i0 e => hn ⟨i, i8, i0, e⟩
        obtain ⟨st, e1, e2⟩ := h.qs.one j B1 hj
        refine ⟨st, by rw [cb_no hn' (by omega), join_some e1], ?_⟩
        rw [fb_no hn']
        refine Fk.frR.sm e2 fun x hx => ?_
        refine (kf.block x (Nat.lt_of_lt_of_le (h.qs.bd j x hx) sz) (fun e => ?_)).trans (hb.block x (h.qs.bd j x hx))
        obtain ⟨k, f, i, i8, i0, e⟩ := fvw e
        exact h.qs.ap k j (fun e2 => hn' i i8 i0 (e.trans e2)) x f hx
    · have jl := (List.getElem?_eq_some_iff.1 hj).1
      by_cases hn : ∃ i, i < 8 ∧ 0 ≤ nth s.nm i ∧ (nth s.nm i).toNat = j
      · obtain ⟨i, i8, i0, rfl⟩ := hn
        have hv : (vw s.nm bs)[i]? = some none := by rw [vw_at (by rw [h.ni.len]; exact i8), if_neg (by omega), join_some hj]
        rw [cb_at h.ni i8 i0 (by omega), join_some (r.non i hv)]
      · have hn' : ∀ i, i < 8 → 0 ≤ nth s.nm i → (nth s.nm i).toNat ≠ j := fun i i8 i0 e => hn ⟨i, i8, i0, e⟩
        rw [cb_no hn' (by omega), join_some (h.qs.non j hj)]
    · rcases h1 with ⟨a, a8, a0, rfl, g1⟩ | ⟨n1, f1⟩
      · rcases h2 with ⟨b, b8, b0, rfl, g2⟩ | ⟨n2, f2⟩
        · exact r.ap a b (fun e => hij (by rw [e])) x g1 g2
        · obtain ⟨k, f, i, i8, i0, e⟩ := fvw (fold g1 (Nat.lt_of_lt_of_le (h.qs.bd j x f2) sz))
          exact h.qs.ap k j (fun e2 => n2 i i8 i0 (e.trans e2)) x f f2
      · rcases h2 with ⟨b, b8, b0, rfl, g2⟩ | ⟨n2, f2⟩
        · obtain ⟨k, f, j, j8, j0, e⟩ := fvw (fold g2 (Nat.lt_of_lt_of_le (h.qs.bd i x f1) sz))
          exact h.qs.ap k i (fun e2 => n1 j j8 j0 (e.trans e2)) x f f1
        · exact h.qs.ap i j hij x f1 f2
    · have al := h.blk ((own_row h.rw).2 a e)
      rcases h1 with ⟨b, b8, b0, rfl, g2⟩ | ⟨n2, f2⟩
      · obtain ⟨k, f, _⟩ := fvw (fold g2 (Nat.lt_of_lt_of_le al sz))
        exact h.qs.nr a e k f
      · exact h.qs.nr a e i f2
    · rcases hx with ⟨b, b8, b0, rfl, g2⟩ | ⟨n2, f2⟩
      · exact r.bd b x g2
      · exact Nat.lt_of_lt_of_le (h.qs.bd j x f2) c.size
  have nal : ∀ x, w.heap.size ≤ x → x < u.heap.size → ¬ Fk.All (Fb s.nm Gs Fs) x := by
    rintro x h1 h2 ⟨j, ⟨b, b8, b0, rfl, g2⟩ | ⟨n2, f2⟩⟩
    · obtain ⟨k, f, _⟩ := fvw (fold g2 h2)
      have := h.qs.bd k x f
      omega
    · have := h.qs.bd j x f2
      omega
  refine ⟨col', ⟨h.keepHp c (by simp), h.keepPs c (by simp), h.keepCu c (by simp) (by simp), h.nc, h.keepCr c (by simp), h.keepRw c (by simp), qs, h.ni, h.md, ?_, h.keepTr c (by simp), h.k0 c, h.k1 c, h.k2 c, h.k3 c, fun i x hx => ?_, h.k5 c, h.k6 c⟩, tq_of c (fun _ (e : _ = _) => by omega), fun x h1 h2 => ⟨n7 x h1 (nal x h1 h2), kf.block x h2 (fun e => ?_)⟩⟩
  · show sts = vw s.nm (cb s.nm sts cs)
    apply List.ext_getElem?
    intro i
    by_cases i8 : i < 8
    · rw [vw_at (by rw [h.ni.len]; exact i8)]
      by_cases h0 : nth s.nm i < 0
      · rw [if_pos h0]
        exact r.non i (by rw [vw_at (by rw [h.ni.len]; exact i8), if_pos h0])
      · rw [if_neg h0, cb_at h.ni i8 (by omega) (by have := h.nl i8 (show 0 ≤ nth s.nm i by omega); omega), List.getElem?_eq_getElem (by omega), join_some rfl, join_some rfl]
    · rw [List.getElem?_eq_none (by omega), List.getElem?_eq_none (by rw [vw_len, h.ni.len]; omega)]
  · rcases Nat.lt_or_ge x w.heap.size with e | e
    · rcases hx with ⟨b, b8, b0, rfl, g2⟩ | ⟨n2, f2⟩
      · obtain ⟨k, f, _⟩ := fvw (fold g2 (Nat.lt_of_lt_of_le e sz))
        exact h.k4 c k x f
      · exact h.k4 c i x f2
    · exact n x e ⟨i, hx⟩
  · obtain ⟨k, f, _⟩ := fvw e
    have := h.qs.bd k x f
    omega
theorem RX.back {ob : Option Addr} {sts : List (Option St)} (h : RX w col L N C B FB q pa pc oa oc bs Fs cs ta tc s) (hb : Below w.heap.size w u) (r : Fk.Rz Rp.Rr u w' ob (vw s.nm bs) (Fv s.nm Fs) sts) :
    ∃ Fs' cs' col', RX w' col' L N C B FB q pa pc oa oc bs Fs' cs' ta tc { s with sts := sts } ∧ Tq col col' w w' ∧ ∀ x, w.heap.size ≤ x → x < u.heap.size → col' x = 7 ∧ w'.heap[x]? = u.heap[x]? := by
  obtain ⟨Gs, nw, r, kf⟩ := r
  obtain ⟨col', x⟩ := h.back3 hb nw r kf
  exact ⟨_, _, col', x⟩
/-- all channels have changed -/
theorem RX.all {cs' : List (Option St)} (h : RX w col L N C B FB q pa pc oa oc bs Fs cs ta tc s) (p : Fk.Rz Rp.Rr w w' oa bs Fs cs') : ∃ Fs' col', RX w' col' L N C B FB q pa pc oa oc bs Fs' cs' ta tc { s with sts := vw s.nm cs' } ∧ Tq col col' w w' := by
  obtain ⟨Fs', nw, r, kf⟩ := p
  obtain ⟨col', o, n, _⟩ := ext_ex w col (Fk.All Fs') 4
  have c : Ch (fun c => c = 4) col col' w w' := ⟨kf.os, kf.tape, kf.output, kf.size, fun x hx hc => kf.block x hx (fun e => by
    obtain ⟨i, e⟩ := e
    exact hc (h.c4 i x e)), o⟩
  refine ⟨Fs', col', ⟨h.keepHp c (by simp), h.keepPs c (by simp), h.keepCu c (by simp) (by simp), h.nc, h.keepCr c (by simp), h.keepRw c (by simp), r, h.ni, h.md, rfl, h.keepTr c (by simp), h.k0 c, h.k1 c, h.k2 c, h.k3 c, fun i x hx => ?_, h.k5 c, h.k6 c⟩, tq_of c (fun _ (e : _ = _) => by omega)⟩
  rcases Nat.lt_or_ge x w.heap.size with e | e
  · rcases nw i x hx with z | z
    · obtain ⟨j, z⟩ := z
      exact h.k4 c j x z
    · omega
  · exact n x e ⟨i, hx⟩
theorem vw_leave (g : Int) (nm : List Int) (cs : List (Option St)) : vw nm (Fk.leaveS g cs) = Fk.leaveS g (vw nm cs) := by
  simp only [vw, Fk.leaveS, List.map_map]
  apply List.map_congr_left
  intro n _
  simp only [Function.comp]
  split
  · rfl
  · rw [List.getElem?_map]
    cases cs[n.toNat]? with
    | none => rfl
    | some o => cases o <;> rfl
/-- colour 4 is only what the channels have -/
theorem RX.recol (h : RX w col L N C B FB q pa pc oa oc bs Fs cs ta tc s) : ∃ col', RX w col' L N C B FB q pa pc oa oc bs Fs cs ta tc s ∧ Tq col col' w w ∧ ∀ x, col x = 4 → ¬ Fk.All Fs x → col' x = 7 := by
  classical
  refine ⟨fun x => if col x = 4 ∧ ¬ Fk.All Fs x then 7 else col x, ⟨h.hp, h.ps, h.cu, h.nc, h.cr, h.rw, h.qs, h.ni, h.md, h.vs, h.tr, ?_, ?_, fun x hx => ?_, fun g e => ?_, fun i x hx => ?_, fun g e => ?_, fun x hx => ?_⟩, ⟨rfl, rfl, rfl, Nat.le_refl _, fun _ _ _ => rfl, fun x hx hc => if_neg (by omega)⟩, fun x h1 h2 => if_pos ⟨h1, h2⟩⟩
  · simp [h.c0]
  · simp [h.c1]
  · simp [h.c2 x hx]
  · simp [h.c3 g e]
  · have : Fk.All Fs x := ⟨i, hx⟩
    simp [this, h.c4 i x hx]
  · simp [h.c5 g e]
  · simp [h.c6 x hx]
/-- an event more -/
theorem RX.told {w2 : World} {ta' : Option Addr} {n' tc' : Nat} {e : Ev} (h : RX w col L N C B FB q pa pc oa oc bs Fs cs ta tc s) (b1 : Below w.heap.size w u) (hn : n' = s.tr.length + 1)
    (ho : w2.ownsRow 0 50 8 (.slice ta' n' tc') n' (ec (s.tr ++ [e]))) (hg : u.grownBy w2 (Value.slice ta s.tr.length tc).ownBlock)
    (hat : (Value.slice ta' n' tc').ownBlock = (Value.slice ta s.tr.length tc).ownBlock ∨ (Value.slice ta' n' tc').ownBlock = some u.heap.size) :
    ∃ col', RX (w2.setCell ⟨L, 16, none⟩ (.slice ta' n' tc')) col' L N C B FB q pa pc oa oc bs Fs cs ta' tc' (tellS s e) ∧ Tq col col' w (w2.setCell ⟨L, 16, none⟩ (.slice ta' n' tc')) := by
  obtain ⟨col', o, nn, _⟩ := ext_ex w col (fun x => (Value.slice ta' n' tc').ownBlock = some x) 5
  have sz : (w2.setCell ⟨L, 16, none⟩ (.slice ta' n' tc')).heap.size = w2.heap.size := by simp [World.setCell]
  have c : Ch (fun c => c = 0 ∨ c = 5) col col' w (w2.setCell ⟨L, 16, none⟩ (.slice ta' n' tc')) := by
    refine ⟨hg.os.trans b1.os, hg.tape.trans b1.tape, hg.output.trans b1.output, by rw [sz]; exact Nat.le_trans b1.size hg.size, fun x hx hc => ?_, o⟩
    refine ((KB.refl L w2).setCell 16 _).block x (Nat.lt_of_lt_of_le hx (Nat.le_trans b1.size hg.size)) (fun e => hc (by rw [e, h.c0]; exact .inl rfl)) |>.trans ?_
    exact (hg.block x (Nat.lt_of_lt_of_le hx b1.size) (fun e => hc (.inr (h.c5 x e.symm)))).trans (b1.block x hx)
  have hL : w2.heap[L]? = some (.cells (rcs q pa s.ps.length pc C B oa bs.length oc s.nm ta s.tr.length tc s.pk) 114 (0, 0)) :=
    (hg.block L (Nat.lt_of_lt_of_le h.lt b1.size) (fun e => by have := h.c5 L e.symm; rw [h.c0] at this; omega)).trans ((b1.block L h.lt).trans h.hp)
  have hl : (tellS s e).tr.length = n' := by rw [hn]; simp [tellS]
  have own' : (w2.setCell ⟨L, 16, none⟩ (.slice ta' n' tc')).ownsRow 0 50 8 (.slice ta' (tellS s e).tr.length tc') (tellS s e).tr.length (ec (tellS s e).tr) := by
    rw [hl]
    refine Cr.own_keep ho fun g e => ((KB.refl L w2).setCell 16 _).block g (by obtain ⟨_, cur, hc⟩ := Cr.own_blk ho g e; exact heap_lt hc) (fun e2 => ?_)
    obtain ⟨_, cur, hc⟩ := Cr.own_blk ho g e
    rw [e2, hL] at hc
    cases hc
  refine ⟨col', ⟨?_, h.keepPs c (by simp), h.keepCu c (by simp) (by simp), h.nc, h.keepCr c (by simp), h.keepRw c (by simp), h.keepQs c (by simp) (by simp), h.ni, h.md, h.vs, own', h.k0 c, h.k1 c, h.k2 c, h.k3 c, h.k4 c, fun g e => ?_, h.k6 c⟩, tq_of c (fun c e => by rcases e with e | e <;> omega)⟩
  · rw [Ba.heap_setCell_same hL]
    rw [hl]
    rfl
  · rw [hl] at e
    rcases Nat.lt_or_ge g w.heap.size with q | q
    · rcases hat with z | z
      · rw [z] at e
        exact h.k5 c g e
      · rw [z] at e
        cases e
        have := b1.size
        omega
    · exact nn g q e
end
end Rlo
end Go.Proofs.YtblfimobiibmjaaGreat
/- The reference's loom: note, bare, panics, pipes, wake, over this seat's program. -/
namespace Go.Proofs.YtblfimobiibmjaaGreat
open Go.ChangeShapes Go.WideShapes Go.ChangeAt Go.RowKit
namespace Rlo
open Ba Lo

theorem info_rp : (Tryz.prog.info? 200).map (fun i => (i.zero, i.size, i.bytes)) = some (some (.pointer none), 1, 8) := by kernel_rfl
set_option maxRecDepth 100000 in
set_option maxHeartbeats 1600000 in
theorem note_any (L N : Nat) (col : Nat → Nat) (s : Lm) (e : Ev) (w : World) (h : RW w col L N s) (ht : s.tr.length ≤ 1000000) :
    Calls Tryz.prog 104 #[.pointer (some ⟨L, 0, none⟩), En.evv e] w fun r w' => r = .returned (.tuple #[]) ∧ ∃ col', RW w' col' L N (tellS s e) ∧ Tq col col' w w' := by
  obtain ⟨C, B, FB, q, pa, pc, oa, oc, bs, Fs, cs, ta, tc, h⟩ := h
  unfold En.evv En.evc
  obtain ⟨i0, hi, hz0, hz1, hz2⟩ : ∃ i0, Tryz.prog.info? 50 = some i0 ∧ i0.zero = some (.agg #[.int .i64 0, .int .i64 0, .int .i64 0, .int .i64 0, .int .i64 0, .int .i64 0, .bool false, .bool false]) ∧ i0.size = 8 ∧ i0.bytes = 56 := by
    cases hi : Tryz.prog.info? 50 with
    | none => have := info_ev; rw [hi] at this; cases this
    | some i0 =>
      have hx := info_ev
      rw [hi] at hx
      simp at hx
      exact ⟨i0, rfl, hx⟩
  have INF := hide (And.intro hi (And.intro hz0 (And.intro hz1 hz2)))
  have H := hide h
  have y0 : w.cell? ⟨L, 16, none⟩ = some (.slice ta s.tr.length tc) := cell_of h.hp 16
  have f0 : w.frozen? ⟨L, 16, none⟩ = false := frozen_of h.hp 16
  have hL := h.lt
  clear h hi hz0 hz1 hz2
  have BD := hide (btr (btr (below_alloc w (.cells #[.int .i64 e.k, .int .i64 e.g, .int .i64 e.c, .int .i64 e.a, .int .i64 e.v, .int .i64 e.m, .bool e.s, .bool e.o] 50)) (below_alloc _ (.cells #[.int .i64 e.k, .int .i64 e.g, .int .i64 e.c, .int .i64 e.a, .int .i64 e.v, .int .i64 e.m, .bool e.s, .bool e.o] 50))) (bdrew1 _))
  have ow1 : ((w.alloc (.cells #[.int .i64 e.k, .int .i64 e.g, .int .i64 e.c, .int .i64 e.a, .int .i64 e.v, .int .i64 e.m, .bool e.s, .bool e.o] 50)).alloc (.cells #[.int .i64 e.k, .int .i64 e.g, .int .i64 e.c, .int .i64 e.a, .int .i64 e.v, .int .i64 e.m, .bool e.s, .bool e.o] 50)).drew.ownsRow 0 50 8 (.slice ta s.tr.length tc) s.tr.length (ec s.tr) := Cr.own_keep H.out.tr fun g e => by
    obtain ⟨_, cur, hc⟩ := Cr.own_blk H.out.tr g e
    exact BD.out.block g (heap_lt hc)
  obtain ⟨v', w6, hr, hown, hgrow, _, hat⟩ := run_append_own_at (P := Tryz.prog) (((w.alloc (.cells #[.int .i64 e.k, .int .i64 e.g, .int .i64 e.c, .int .i64 e.a, .int .i64 e.v, .int .i64 e.m, .bool e.s, .bool e.o] 50)).alloc (.cells #[.int .i64 e.k, .int .i64 e.g, .int .i64 e.c, .int .i64 e.a, .int .i64 e.v, .int .i64 e.m, .bool e.s, .bool e.o] 50)).drew) 0 22 22 50 i0 _ 8 56 Tryz.underlying22 INF.out.1 INF.out.2.1 INF.out.2.2.1 INF.out.2.2.2 rfl (by decide) _ _ _ ow1 ⟨w.heap.size + 1, 0, none⟩ 1 1 (ec [e]) rfl (src8 w e _) (ec_one _) (by unfold maxLen; omega) (by omega) (Nat.zero_le _)
  rw [← ec_app] at hown
  obtain ⟨ta', tc', rfl⟩ := own_sl hown
  have hs2 : ((w.alloc (.cells #[.int .i64 e.k, .int .i64 e.g, .int .i64 e.c, .int .i64 e.a, .int .i64 e.v, .int .i64 e.m, .bool e.s, .bool e.o] 50)).alloc (.cells #[.int .i64 e.k, .int .i64 e.g, .int .i64 e.c, .int .i64 e.a, .int .i64 e.v, .int .i64 e.m, .bool e.s, .bool e.o] 50)).drew.heap.size = w.heap.size + 1 + 1 := by rw [show ((w.alloc (.cells #[.int .i64 e.k, .int .i64 e.g, .int .i64 e.c, .int .i64 e.a, .int .i64 e.v, .int .i64 e.m, .bool e.s, .bool e.o] 50)).alloc (.cells #[.int .i64 e.k, .int .i64 e.g, .int .i64 e.c, .int .i64 e.a, .int .i64 e.v, .int .i64 e.m, .bool e.s, .bool e.o] 50)).drew.heap.size = ((w.alloc (.cells #[.int .i64 e.k, .int .i64 e.g, .int .i64 e.c, .int .i64 e.a, .int .i64 e.v, .int .i64 e.m, .bool e.s, .bool e.o] 50)).alloc (.cells #[.int .i64 e.k, .int .i64 e.g, .int .i64 e.c, .int .i64 e.a, .int .i64 e.v, .int .i64 e.m, .bool e.s, .bool e.o] 50)).heap.size from rfl, World.size_alloc, World.size_alloc]
  obtain ⟨col', hx, htr⟩ := H.out.told BD.out rfl hown hgrow hat
  have G6 : w6.heap[L]? = some (.cells (rcs q pa s.ps.length pc C B oa bs.length oc s.nm ta s.tr.length tc s.pk) 114 (0, 0)) := by
    refine (hgrow.block L (Nat.lt_of_lt_of_le hL BD.out.size) (fun e => ?_)).trans ((BD.out.block L hL).trans H.out.hp)
    have := H.out.c5 L e.symm
    rw [H.out.c0] at this
    omega
  have y6 : w6.cell? ⟨L, 16, none⟩ = some (.slice ta s.tr.length tc) := cell_of G6 16
  have f6 : w6.frozen? ⟨L, 16, none⟩ = false := frozen_of G6 16
  have HX := hide hx
  have HT := hide htr
  have HR := hide hr
  clear hown hgrow hat hr hx htr G6 ow1 BD
  go_enter Tryz.func104, Tryz.ntmps104
  go_wp2_with fail
  go_region_law (refine Rp.step_append_run _ (by rfl) _ _ _ _ (by rfl) _ _ (by rfl) (by rfl) _ _ HR.out ?_)
  all_goals
    go_wp2_with fail
    go_end0
    exact ⟨rfl, col', HX.out.lw, HT.out⟩
theorem RW.below {w w' : World} {col : Nat → Nat} {L N : Nat} {s : Lm} (h : RW w col L N s) (hb : Below w.heap.size w w') : ∃ col', RW w' col' L N s ∧ Tq col col' w w' ∧ ∀ x, w.heap.size ≤ x → col' x = 7 := by
  obtain ⟨C, B, FB, q, pa, pc, oa, oc, bs, Fs, cs, ta, tc, h⟩ := h
  obtain ⟨col', hx, ht, hn⟩ := h.below hb
  exact ⟨col', hx.lw, ht, hn⟩
theorem Tq.drew {col col' : Nat → Nat} {w w' : World} (h : Tq col col' w w') : Tq col col' w w'.drew := h.trans (tq_of (ch_below (fun _ => False) (bdrew1 w') (fun _ _ => rfl)) (fun _ e => e.elim))
theorem RW.lt {w : World} {col : Nat → Nat} {L N : Nat} {s : Lm} (h : RW w col L N s) : L < w.heap.size := by
  obtain ⟨C, B, FB, q, pa, pc, oa, oc, bs, Fs, cs, ta, tc, h⟩ := h
  exact h.lt
theorem bare_r (k g : Int) (w : World) : Calls Tryz.prog 105 #[.int .i64 k, .int .i64 g] w fun r w' => r = .returned (En.evv (bareE k g)) ∧ Below w.heap.size w w' := by
  unfold En.evv En.evc bareE
  go_enter Tryz.func105, Tryz.ntmps105
  go_wp2_with fail
  exact bodyPost_ret (En.results_row1 Tryz.results105 _ _ _ _ rfl (En.loadVar_ev (heap_new _ _) rfl)) rfl ⟨rfl, below_alloc _ _⟩
set_option maxRecDepth 100000 in
set_option maxHeartbeats 1600000 in
theorem panics_any (L N : Nat) (col : Nat → Nat) (s : Lm) (g : Int) (w : World) (h : RW w col L N s) (ht : s.tr.length ≤ 1000000) :
    Calls Tryz.prog 150 #[.pointer (some ⟨L, 0, none⟩), .int .i64 g] w fun r w' => r = .returned (.tuple #[]) ∧ ∃ col', RW w' col' L N (panicS s g) ∧ Tq col col' w w' := by
  have H := hide h
  clear h
  go_enter Tryz.func150, Tryz.ntmps150
  go_wp2_with fail
  refine (bare_r 12 g _).mono ?_
  rintro r w1 ⟨rfl, b1⟩
  obtain ⟨col1, h1, t1, -⟩ := H.out.below b1
  have T1 := hide t1
  have NO := hide (note_any L N col1 s (bareE 12 g) w1 h1 ht)
  unfold En.evv En.evc bareE at NO
  unfold En.evv En.evc bareE
  clear b1 h1 t1
  go_wp2_with fail
  refine NO.out.mono ?_
  rintro r w2 ⟨rfl, col2, h2, t2⟩
  obtain ⟨C, B, FB, q, pa, pc, oa, oc, bs, Fs, cs, ta, tc, h2⟩ := h2
  have y17 := cell_of h2.hp 17
  have f17 := frozen_of h2.hp 17
  simp [rcs] at y17
  have P := hide h2.panic
  have T2 := hide (T1.out.trans t2)
  clear h2 t2 NO
  go_wp2_with fail
  go_end0
  exact ⟨rfl, col2, P.out.1.lw, T2.out.trans P.out.2⟩
theorem RX.num {w : World} {col : Nat → Nat} {L N C B : Nat} {FB : Nat → Prop} {q : Hd} {pa : Option Addr} {pc : Nat} {oa : Option Addr} {oc : Nat} {bs : List (Option Nat)} {Fs : Nat → Nat → Prop} {cs : List (Option St)} {ta : Option Addr} {tc : Nat} {s : Lm} (h : RX w col L N C B FB q pa pc oa oc bs Fs cs ta tc s) {k : Nat} (hk : k < 8) : w.cell? ⟨L, 8 + k, none⟩ = some (.int .i64 (nth s.nm k)) := by
  rw [cell_of h.hp]
  rcases (show k = 0 ∨ k = 1 ∨ k = 2 ∨ k = 3 ∨ k = 4 ∨ k = 5 ∨ k = 6 ∨ k = 7 by omega) with rfl | rfl | rfl | rfl | rfl | rfl | rfl | rfl <;> rfl
theorem vw_take {α : Type} {nm : List Int} {l : List (Option α)} {k : Nat} (h : k < nm.length) : (vw nm l).take (k + 1) = (vw nm l).take k ++ [if nth nm k < 0 then none else (l[(nth nm k).toNat]?).join] := by
  rw [List.take_add_one, vw_at h]
  rfl
theorem own_sl1 {w : World} {base : Nat} {e : TypeId} {v : Value} {n : Nat} {xs : List Value} (h : w.ownsRow base e 1 v n xs) : ∃ oa c, v = .slice oa n c := by
  rcases h.2 with ⟨rfl, rfl⟩ | ⟨b, cap, cur, rfl, _⟩
  · exact ⟨none, 0, rfl⟩
  · exact ⟨_, _, rfl⟩
theorem pt_one (l : List (Option Nat)) : ∀ u ∈ l.map Pe.pt, u.oneCell' = true := by
  intro u hu
  rw [List.mem_map] at hu
  obtain ⟨o, _, rfl⟩ := hu
  rfl
set_option maxRecDepth 100000 in
set_option maxHeartbeats 1600000 in
theorem pipes_r {L N C B : Nat} {col : Nat → Nat} {FB : Nat → Prop} {q : Hd} {pa : Option Addr} {pc : Nat} {oa : Option Addr} {oc : Nat} {bs : List (Option Nat)} {Fs : Nat → Nat → Prop} {cs : List (Option St)} {ta : Option Addr} {tc : Nat} {s : Lm} (w : World) (h : RX w col L N C B FB q pa pc oa oc bs Fs cs ta tc s) :
    Calls Tryz.prog 145 #[.pointer (some ⟨L, 0, none⟩)] w fun r w' => ∃ ob d, r = .returned (.slice ob (vw s.nm bs).length d) ∧ w'.ownsRow w.heap.size 200 1 (.slice ob (vw s.nm bs).length d) (vw s.nm bs).length ((vw s.nm bs).map Pe.pt) ∧ Below w.heap.size w w' := by
  obtain ⟨i0, hi, hz0, hz1, hz2⟩ : ∃ i0, Tryz.prog.info? 200 = some i0 ∧ i0.zero = some (.pointer none) ∧ i0.size = 1 ∧ i0.bytes = 8 := by
    cases hi : Tryz.prog.info? 200 with
    | none => have := info_rp; rw [hi] at this; cases this
    | some i0 =>
      have hx := info_rp
      rw [hi] at hx
      simp at hx
      exact ⟨i0, rfl, hx⟩
  have INF := hide (And.intro hi (And.intro hz0 (And.intro hz1 hz2)))
  have H := hide h
  have hL := h.lt
  have L8 : Hid ((vw s.nm bs).length = 8) := (vw_len _ _).trans h.ni.len
  clear h hi hz0 hz1 hz2
  go_enter Tryz.func145, Tryz.ntmps145
  go_wp2_with fail
  go_loopw [3, 4] (fun v iv wr => ∃ (k : Nat), k ≤ 8 ∧ iv = .int .i64 k ∧ wr.ownsRow w.heap.size 200 1 v k (((vw s.nm bs).take k).map Pe.pt) ∧ Below w.heap.size w wr) (fun v iv _ => 8 - (intOf iv).toNat)
  case atStart => exact ⟨0, by omega, rfl, by simpa using World.ownsRow_nil _ _ _ _, Below.refl _ _⟩
  case round =>
    obtain ⟨k, hk, rfl, ho, hb⟩ := hrel
    have HO := hide ho
    have HB := hide hb
    clear ho hb
    by_cases hlt : k < 8
    · have nu : wr.cell? ⟨L, 8 + k, none⟩ = some (.int .i64 (nth s.nm k)) := Sh.cellB (H.out.num hlt) HB.out
      have hlt' : (k : Int) < 8 := by omega
      have k0 : (0 : Int) ≤ (k : Int) := by omega
      have TK := hide (vw_take (nm := s.nm) (l := bs) (k := k) (by rw [H.out.ni.len]; exact hlt))
      by_cases h0 : nth s.nm k < 0
      · have TK2 : Hid ((vw s.nm bs).take (k + 1) = (vw s.nm bs).take k ++ [none]) := by
          have := TK.out
          rw [if_pos h0] at this
          exact this
        have BY := below_alloc wr (.cells #[Value.pointer none] 200)
        have OW3 := hide (own_below HO.out BY)
        have HB3 := hide (btr HB.out BY)
        have SRC := hide (cell_one_new wr (.pointer none) 200)
        clear BY
        go_wp2_with (at_builtin; refine wpList_append_own _ rfl _ _ 111 rfl w.heap.size 200 i0 (.pointer none) 1 8 Tryz.underlying111 INF.out.1 INF.out.2.1 INF.out.2.2.1 INF.out.2.2.2 rfl (by decide) _ _ _ rfl OW3.out ⟨wr.heap.size, 0, none⟩ 1 1 [.pointer none] rfl rfl ?c1 ?c2 ?c3 ?c4 ?c5 ?_)
        case c1 => exact SRC.out
        case c2 => exact pt_one [none]
        case c3 => unfold maxLen; omega
        case c4 => omega
        case c5 => exact HB3.out.size
        intro v' w3 ho hg3 _
        have B3 : Hid (Below w.heap.size w w3) := HB3.out.grown hg3 HB3.out.size (fun x hx => (OW3.out.lt x hx).1)
        have O3 : Hid (w3.ownsRow w.heap.size 200 1 v' (k + 1) (((vw s.nm bs).take (k + 1)).map Pe.pt)) := by
          show World.ownsRow _ _ _ _ _ _ _
          rw [TK2.out, List.map_append, List.map_take]
          exact ho
        clear ho hg3
        go_wp2_with fail
        go_roundw
        case rel => exact ⟨k + 1, by omega, by go_num, O3.out, B3.out⟩
        case measure => simp [intOf]; omega
      · obtain ⟨n, hn⟩ : ∃ n : Nat, nth s.nm k = (n : Int) := ⟨(nth s.nm k).toNat, by omega⟩
        have nl : n < bs.length := by have := H.out.ni.lt k hlt; omega
        obtain ⟨o, hbo⟩ : ∃ o, bs[n]? = some o := ⟨_, List.getElem?_eq_getElem nl⟩
        have TK2 : Hid ((vw s.nm bs).take (k + 1) = (vw s.nm bs).take k ++ [o]) := by
          have := TK.out
          rw [if_neg h0, hn, Int.toNat_natCast, join_some hbo] at this
          exact this
        obtain ⟨b, off, hoa, hc⟩ := (own_row H.out.rw).1 n o hbo
        have z7 : wr.cell? ⟨L, 7, none⟩ = some (.slice oa bs.length oc) := Sh.cellB (cell_of H.out.hp 7) HB.out
        have zc : wr.cell? ⟨b, off + n, none⟩ = some (Pe.pt o) := Sh.cellB hc HB.out
        rw [hn] at nu
        subst hoa
        have n0 : (0 : Int) ≤ (n : Int) := by omega
        have n1 : (n : Int) < (bs.length : Int) := by omega
        have hn0 : ¬ ((n : Int) < 0) := by omega
        unfold Pe.pt at zc
        have BY := hide (btr (below_alloc wr (.cells #[Pe.pt o] 200)) (bdrew1 _))
        have OW3 := hide (own_below HO.out BY.out)
        have HB3 := hide (btr HB.out BY.out)
        obtain ⟨v', w6, hr, hown, hgrow, _, _⟩ := run_append_own_at (P := Tryz.prog) ((wr.alloc (.cells #[Pe.pt o] 200)).drew) w.heap.size 111 111 200 i0 _ 1 8 Tryz.underlying111 INF.out.1 INF.out.2.1 INF.out.2.2.1 INF.out.2.2.2 rfl (by decide) _ _ _ OW3.out ⟨wr.heap.size, 0, none⟩ 1 1 [Pe.pt o] rfl (cell_one_new wr (Pe.pt o) 200) (pt_one [o]) (by unfold maxLen; omega) (by omega) HB3.out.size
        have B3 : Hid (Below w.heap.size w w6) := HB3.out.grown hgrow HB3.out.size (fun x hx => (OW3.out.lt x hx).1)
        have O3 : Hid (w6.ownsRow w.heap.size 200 1 v' (k + 1) (((vw s.nm bs).take (k + 1)).map Pe.pt)) := by
          show World.ownsRow _ _ _ _ _ _ _
          rw [TK2.out, List.map_append]
          exact hown
        have HR := hide hr
        unfold Pe.pt at HR
        generalize o.map (fun b => (⟨b, 0, none⟩ : Addr)) = po at zc HR
        clear hr hown hgrow OW3 HB3 BY TK TK2 hbo hc HO HB
        go_wp2_with fail
        go_region_law (refine Rp.step_append_run _ (by rfl) _ _ _ _ (by rfl) _ _ (by rfl) (by rfl) _ _ HR.out ?_)
        all_goals
          go_wp2_with fail
          go_roundw
          case rel => exact ⟨k + 1, by omega, by go_num, O3.out, B3.out⟩
          case measure => simp [intOf]; omega
    · have hlt' : decide ((k : Int) < 8) = false := decide_eq_false (by omega)
      have hk8 : Hid (k = (vw s.nm bs).length) := by show _ = _; rw [L8.out]; omega
      have e8 : (vw s.nm bs).take k = vw s.nm bs := List.take_of_length_le (by rw [L8.out]; omega)
      have O8 := HO.out
      rw [e8] at O8
      obtain ⟨ob, d, rfl⟩ := own_sl1 O8
      have O9 := hide O8
      clear O8 e8 HO
      go_wp2_with fail
      go_ret
      refine ⟨ob, d, by rw [hk8.out]; rfl, ?_, HB.out⟩
      rw [← hk8.out]
      exact O9.out
set_option maxRecDepth 100000 in
set_option maxHeartbeats 1600000 in
theorem wake_any (L N : Nat) (col : Nat → Nat) (s : Lm) (K : Nat) (e : Ev) (w : World) (h : RW w col L N s) (hn : Cr.Bn K s.cr) (hK : K ≤ 100000) (ht : s.tr.length ≤ 1000000) (hm : s.md ≤ 1000) :
    Calls Tryz.prog 152 #[.pointer (some ⟨L, 0, none⟩), En.evv e] w fun r w' => r = .returned (.tuple #[]) ∧ ∃ col', RW w' col' L N (wakesS s e) ∧ Tq col col' w w' := by
  obtain ⟨col1, h1, t1, n1⟩ := h.below (below_alloc w (.cells #[.int .i64 e.k, .int .i64 e.g, .int .i64 e.c, .int .i64 e.a, .int .i64 e.v, .int .i64 e.m, .bool e.s, .bool e.o] 50))
  have T1 := hide t1
  have E1 := hide (heap_new w (.cells #[.int .i64 e.k, .int .i64 e.g, .int .i64 e.c, .int .i64 e.a, .int .i64 e.v, .int .i64 e.m, .bool e.s, .bool e.o] 50))
  have hL := h.lt
  have N1 := hide (n1 w.heap.size (Nat.le_refl _))
  have NO := hide (note_any L N col1 s e (w.alloc (.cells #[.int .i64 e.k, .int .i64 e.g, .int .i64 e.c, .int .i64 e.a, .int .i64 e.v, .int .i64 e.m, .bool e.s, .bool e.o] 50)) h1 ht)
  have HN := hide hn
  unfold En.evv En.evc at NO
  unfold En.evv En.evc
  clear h t1 h1 n1 hn
  go_enter Tryz.func152, Tryz.ntmps152
  go_wp2_with fail
  refine NO.out.mono ?_
  rintro r w2 ⟨rfl, col2, h2, t2⟩
  obtain ⟨C, B, FB, q, pa, pc, oa, oc, bs, Fs, cs, ta, tc, h2⟩ := h2
  have T2 := hide (T1.out.trans t2).drew
  have E2 := hide (t2.heap E1.out N1.out)
  have C2 : Hid (col2 w.heap.size = 7) := (t2.old _ (heap_lt E1.out) (by rw [N1.out]; omega)).trans N1.out
  have y7 := cell_of h2.hp 7
  have a1 := cell_of E2.out 1
  simp [rcs] at y7 a1
  have LE := hide (Fk.rleave_any e.g oa bs oc Fs cs w2.drew h2.drew.qs (by have := h2.md; have : (tellS s e).md = s.md := rfl; omega))
  have H2 := hide h2.drew
  clear h2 t2 NO T1 E1 N1
  go_wp2_with fail
  go_region_with (go_at_call 172; refine LE.out.mono ?_; rintro r w3 ⟨rfl, p3⟩)
  all_goals
    obtain ⟨Fs3, col3, h3, t3⟩ := H2.out.all p3
    have T3 := hide (T2.out.trans t3).drew
    have E3 := hide (t3.heap (heap_below E2.out (bdrew1 _)) C2.out)
    have y6 := cell_of h3.hp 6
    have b1 := cell_of E3.out 1
    simp [rcs] at y6 b1
    have GO := hide (Cr.rturn10 B FB s.cr K e.g w3.drew h3.drew.cr HN.out hK)
    have H3 := hide h3.drew
    have V2 := hide H2.out.vs
    clear h3 t3 p3 LE H2 E2 C2 T2 y7 a1
    go_wp2_with fail
    first
      | refine GO.out.mono ?_
        rintro r w4 ⟨rfl, p4⟩
      | go_region_with (go_at_call 149; refine GO.out.mono ?_; rintro r w4 ⟨rfl, p4⟩)
    all_goals
      obtain ⟨FB4, col4, h4, t4⟩ := H3.out.crew p4
      have H4 := hide h4
      have T4 := hide (T3.out.trans t4)
      clear h4 t4 p4 GO H3 T3
      go_wp2_with fail
      go_end0
      refine ⟨rfl, col4, ?_, T4.out⟩
      have es : wakesS s e = { (tellS s e) with sts := vw s.nm (Fk.leaveS e.g cs), cr := Cr.chL s.cr e.g 1 0 1 } := by
        have : s.sts = vw s.nm cs := V2.out
        simp [wakesS, tellS, vw_leave, ← this]
      rw [es]
      exact H4.out.lw
end Rlo
end Go.Proofs.YtblfimobiibmjaaGreat
/- The reference's Try, over this seat's program. -/
namespace Go.Proofs.YtblfimobiibmjaaGreat
open Go.ChangeShapes Go.WideShapes Go.ChangeAt Go.RowKit
namespace Fk
open Ba Pe _root_.Go.Proofs.YtblfimobiibmjaaGreat.Pi Rp

set_option maxRecDepth 100000 in
set_option maxHeartbeats 6400000 in
theorem rtry_false (ch val : Int) (oa : Option Addr) (bs : List (Option Nat)) (cp : Nat) (Fs : Nat → Nat → Prop) (sts : List (Option St)) (w : World) (h : Qs Rr w oa bs Fs sts) (hs : Sml sts) :
    Calls Tryz.prog 169 #[cv ⟨false, ch, val⟩, .slice oa bs.length cp] w fun r w' => r = .returned (.tuple #[gv (tryG sts ⟨false, ch, val⟩), .int .i64 (tryE sts ⟨false, ch, val⟩)]) ∧ Rz Rr w w' oa bs Fs (tryS sts ⟨false, ch, val⟩) := by
  have b1 := below_alloc w (.cells #[.bool false, .int .i64 ch, .int .i64 val] 166)
  have b2 := below_alloc (w.alloc (.cells #[.bool false, .int .i64 ch, .int .i64 val] 166)) (.cells #[.bool false, .bool false, .bool false, .int .i64 0, .int .i64 0, .int .i64 0, .int .i64 0] 237)
  have BB := hide (btr b1 b2)
  have X2 := hide (heap_below (heap_new w (.cells #[.bool false, .int .i64 ch, .int .i64 val] 166)) b2)
  have hz := heap_new (w.alloc (.cells #[.bool false, .int .i64 ch, .int .i64 val] 166)) (.cells #[.bool false, .bool false, .bool false, .int .i64 0, .int .i64 0, .int .i64 0, .int .i64 0] 237)
  rw [World.size_alloc] at hz
  have Z2 := hide hz
  have NM := hide (rnamed_any oa bs ch cp _ (h.row.below BB.out))
  have H := hide h
  have hS2 : ((w.alloc (.cells #[.bool false, .int .i64 ch, .int .i64 val] 166)).alloc (.cells #[.bool false, .bool false, .bool false, .int .i64 0, .int .i64 0, .int .i64 0, .int .i64 0] 237)).heap.size = w.heap.size + 2 := by rw [World.size_alloc, World.size_alloc]
  have NZ : Hid (∀ i, ¬ Fs i (w.heap.size + 1)) := fun i e => by have := h.bd i _ e; omega
  have RR : Hid (∀ a, oa = some a → a.block < w.heap.size ∨ bs = []) := fun a e => by
    cases hb : bs with
    | nil => exact .inr rfl
    | cons o t => exact .inl (h.rl (i := 0) (o := o) (by rw [hb]; rfl) a e)
  clear b1 b2 hz
  unfold tryG tryE tryS cv
  rcases h.nm ch with ⟨e1, e2⟩ | ⟨B, st, e1, e2, h0, hl, hi, hi2, q⟩
  · rw [e2]
    simp only
    rw [e1] at NM
    simp only [pt, Option.map_none] at NM
    clear h e1 e2
    go_enter Tryz.func169, Tryz.ntmps169
    go_wp2_with fail
    generalize (w.alloc (.cells #[.bool false, .int .i64 ch, .int .i64 val] 166)).alloc (.cells #[.bool false, .bool false, .bool false, .int .i64 0, .int .i64 0, .int .i64 0, .int .i64 0] 237) = W2 at BB X2 Z2 NM hS2 ⊢
    refine NM.out.mono ?_
    rintro r w2 ⟨rfl, rfl⟩
    have x0 : w2.cell? ⟨w.heap.size, 0, none⟩ = some (.bool false) := cell_of X2.out 0
    have x2 : w2.cell? ⟨w.heap.size, 2, none⟩ = some (.int .i64 val) := cell_of X2.out 2
    have z0 : w2.cell? ⟨w.heap.size + 1, 0, none⟩ = some (.bool false) := cell_of Z2.out 0
    have zf0 := frozen_of Z2.out 0
    have z1 : w2.cell? ⟨w.heap.size + 1, 1, none⟩ = some (.bool false) := cell_of Z2.out 1
    have zf1 := frozen_of Z2.out 1
    have z2 : w2.cell? ⟨w.heap.size + 1, 2, none⟩ = some (.bool false) := cell_of Z2.out 2
    have zf2 := frozen_of Z2.out 2
    have z3 : w2.cell? ⟨w.heap.size + 1, 3, none⟩ = some (.int .i64 0) := cell_of Z2.out 3
    have zf3 := frozen_of Z2.out 3
    have z4 : w2.cell? ⟨w.heap.size + 1, 4, none⟩ = some (.int .i64 0) := cell_of Z2.out 4
    have zf4 := frozen_of Z2.out 4
    have z5 : w2.cell? ⟨w.heap.size + 1, 5, none⟩ = some (.int .i64 0) := cell_of Z2.out 5
    have zf5 := frozen_of Z2.out 5
    have z6 : w2.cell? ⟨w.heap.size + 1, 6, none⟩ = some (.int .i64 0) := cell_of Z2.out 6
    have zf6 := frozen_of Z2.out 6
    go_wp2_with fail
    exact bodyPost_ret (results_row2 Tryz.results169 _ _ _ _ _ rfl rfl (loadVar_rgot (got_set Z2.out _ _ _ _ _ _ _) rfl)) rfl ⟨rfl, Rz.set7 frR ⟨Fs, NwA.refl _ _, H.out.below frR BB.out, KF.of BB.out, NZ.out⟩ (Nat.le_succ _) RR.out _ _ _ _ _ _ _⟩
  · rw [e2]
    simp only [Bool.false_eq_true, if_false]
    rw [e1] at NM
    simp only [pt, Option.map_some] at NM
    have hb1 := (hs _ _ hi2).1
    have hb2 := (hs _ _ hi2).2
    have HI := hide hi
    have P2 := hide (q.below BB.out)
    clear h e1 e2 q hi hi2 h0 hl
    have CL := hide (rrecv_any B _ st _ P2.out hb1 hb2)
    generalize recvG st = gg at CL ⊢
    skip
    obtain ⟨rd, ok, wk, v, ⟨mg, mc, mv⟩⟩ := gg
    unfold gv at CL ⊢
    go_enter Tryz.func169, Tryz.ntmps169
    go_wp2_with fail
    generalize (w.alloc (.cells #[.bool false, .int .i64 ch, .int .i64 val] 166)).alloc (.cells #[.bool false, .bool false, .bool false, .int .i64 0, .int .i64 0, .int .i64 0, .int .i64 0] 237) = W2 at BB X2 Z2 NM hS2 P2 CL ⊢
    refine NM.out.mono ?_
    rintro r w2 ⟨rfl, rfl⟩
    have x0 : w2.cell? ⟨w.heap.size, 0, none⟩ = some (.bool false) := cell_of X2.out 0
    have x2 : w2.cell? ⟨w.heap.size, 2, none⟩ = some (.int .i64 val) := cell_of X2.out 2
    go_wp2_with fail
    refine CL.out.mono ?_
    rintro r w3 ⟨rfl, k3, F3, n3, p3⟩
    have Z3 := hide (k3.heap Z2.out (NZ.out _))
    have R3 := hide (Rz.step frR H.out BB.out HI.out k3 n3 p3)
    have NZ3 : Hid (∃ Fs', NwA Fs' Fs w ∧ Qs Rr w3 oa bs Fs' (sts.set ch.toNat (some (recvS st))) ∧ KF (All Fs) w w3 ∧ ∀ i, ¬ Fs' i (w.heap.size + 1)) := by
      have ha := H.out.below frR BB.out
      refine ⟨up Fs ch.toNat F3, ?_, ha.step frR HI.out k3 n3 p3 (ha.rl HI.out), (KF.of (F := All Fs) BB.out).trans k3 (fun x hx => .inl ⟨_, hx⟩), ?_⟩
      · intro j x hx
        by_cases e : j = ch.toNat
        · subst e
          rw [up_same] at hx
          rcases n3 x hx with z | z
          · exact .inl ⟨_, z⟩
          · exact .inr (by omega)
        · rw [up_other _ _ _ _ e] at hx
          exact .inl ⟨j, hx⟩
      · intro j hx
        by_cases e : j = ch.toNat
        · subst e
          rw [up_same] at hx
          rcases n3 _ hx with z | z
          · exact NZ.out _ z
          · omega
        · rw [up_other _ _ _ _ e] at hx
          exact NZ.out _ hx
    clear k3 n3 p3 R3
    have z0 : w3.cell? ⟨w.heap.size + 1, 0, none⟩ = some (.bool false) := cell_of Z3.out 0
    have zf0 := frozen_of Z3.out 0
    have z1 : w3.cell? ⟨w.heap.size + 1, 1, none⟩ = some (.bool false) := cell_of Z3.out 1
    have zf1 := frozen_of Z3.out 1
    have z2 : w3.cell? ⟨w.heap.size + 1, 2, none⟩ = some (.bool false) := cell_of Z3.out 2
    have zf2 := frozen_of Z3.out 2
    have z3 : w3.cell? ⟨w.heap.size + 1, 3, none⟩ = some (.int .i64 0) := cell_of Z3.out 3
    have zf3 := frozen_of Z3.out 3
    have z4 : w3.cell? ⟨w.heap.size + 1, 4, none⟩ = some (.int .i64 0) := cell_of Z3.out 4
    have zf4 := frozen_of Z3.out 4
    have z5 : w3.cell? ⟨w.heap.size + 1, 5, none⟩ = some (.int .i64 0) := cell_of Z3.out 5
    have zf5 := frozen_of Z3.out 5
    have z6 : w3.cell? ⟨w.heap.size + 1, 6, none⟩ = some (.int .i64 0) := cell_of Z3.out 6
    have zf6 := frozen_of Z3.out 6
    go_wp2_with fail
    exact bodyPost_ret (results_row2 Tryz.results169 _ _ _ _ _ rfl rfl (loadVar_rgot (got_set Z3.out _ _ _ _ _ _ _) rfl)) rfl ⟨rfl, Rz.set7 frR NZ3.out (Nat.le_succ _) RR.out _ _ _ _ _ _ _⟩
set_option maxRecDepth 100000 in
set_option maxHeartbeats 6400000 in
theorem rtry_true (ch val : Int) (oa : Option Addr) (bs : List (Option Nat)) (cp : Nat) (Fs : Nat → Nat → Prop) (sts : List (Option St)) (w : World) (h : Qs Rr w oa bs Fs sts) (hs : Sml sts) :
    Calls Tryz.prog 169 #[cv ⟨true, ch, val⟩, .slice oa bs.length cp] w fun r w' => r = .returned (.tuple #[gv (tryG sts ⟨true, ch, val⟩), .int .i64 (tryE sts ⟨true, ch, val⟩)]) ∧ Rz Rr w w' oa bs Fs (tryS sts ⟨true, ch, val⟩) := by
  have b1 := below_alloc w (.cells #[.bool true, .int .i64 ch, .int .i64 val] 166)
  have b2 := below_alloc (w.alloc (.cells #[.bool true, .int .i64 ch, .int .i64 val] 166)) (.cells #[.bool false, .bool false, .bool false, .int .i64 0, .int .i64 0, .int .i64 0, .int .i64 0] 237)
  have BB := hide (btr b1 b2)
  have X2 := hide (heap_below (heap_new w (.cells #[.bool true, .int .i64 ch, .int .i64 val] 166)) b2)
  have hz := heap_new (w.alloc (.cells #[.bool true, .int .i64 ch, .int .i64 val] 166)) (.cells #[.bool false, .bool false, .bool false, .int .i64 0, .int .i64 0, .int .i64 0, .int .i64 0] 237)
  rw [World.size_alloc] at hz
  have Z2 := hide hz
  have NM := hide (rnamed_any oa bs ch cp _ (h.row.below BB.out))
  have H := hide h
  have hS2 : ((w.alloc (.cells #[.bool true, .int .i64 ch, .int .i64 val] 166)).alloc (.cells #[.bool false, .bool false, .bool false, .int .i64 0, .int .i64 0, .int .i64 0, .int .i64 0] 237)).heap.size = w.heap.size + 2 := by rw [World.size_alloc, World.size_alloc]
  have NZ : Hid (∀ i, ¬ Fs i (w.heap.size + 1)) := fun i e => by have := h.bd i _ e; omega
  have RR : Hid (∀ a, oa = some a → a.block < w.heap.size ∨ bs = []) := fun a e => by
    cases hb : bs with
    | nil => exact .inr rfl
    | cons o t => exact .inl (h.rl (i := 0) (o := o) (by rw [hb]; rfl) a e)
  clear b1 b2 hz
  unfold tryG tryE tryS cv
  rcases h.nm ch with ⟨e1, e2⟩ | ⟨B, st, e1, e2, h0, hl, hi, hi2, q⟩
  · rw [e2]
    simp only
    rw [e1] at NM
    simp only [pt, Option.map_none] at NM
    clear h e1 e2
    go_enter Tryz.func169, Tryz.ntmps169
    go_wp2_with fail
    generalize (w.alloc (.cells #[.bool true, .int .i64 ch, .int .i64 val] 166)).alloc (.cells #[.bool false, .bool false, .bool false, .int .i64 0, .int .i64 0, .int .i64 0, .int .i64 0] 237) = W2 at BB X2 Z2 NM hS2 ⊢
    refine NM.out.mono ?_
    rintro r w2 ⟨rfl, rfl⟩
    have x0 : w2.cell? ⟨w.heap.size, 0, none⟩ = some (.bool true) := cell_of X2.out 0
    have x2 : w2.cell? ⟨w.heap.size, 2, none⟩ = some (.int .i64 val) := cell_of X2.out 2
    have z0 : w2.cell? ⟨w.heap.size + 1, 0, none⟩ = some (.bool false) := cell_of Z2.out 0
    have zf0 := frozen_of Z2.out 0
    have z1 : w2.cell? ⟨w.heap.size + 1, 1, none⟩ = some (.bool false) := cell_of Z2.out 1
    have zf1 := frozen_of Z2.out 1
    have z2 : w2.cell? ⟨w.heap.size + 1, 2, none⟩ = some (.bool false) := cell_of Z2.out 2
    have zf2 := frozen_of Z2.out 2
    have z3 : w2.cell? ⟨w.heap.size + 1, 3, none⟩ = some (.int .i64 0) := cell_of Z2.out 3
    have zf3 := frozen_of Z2.out 3
    have z4 : w2.cell? ⟨w.heap.size + 1, 4, none⟩ = some (.int .i64 0) := cell_of Z2.out 4
    have zf4 := frozen_of Z2.out 4
    have z5 : w2.cell? ⟨w.heap.size + 1, 5, none⟩ = some (.int .i64 0) := cell_of Z2.out 5
    have zf5 := frozen_of Z2.out 5
    have z6 : w2.cell? ⟨w.heap.size + 1, 6, none⟩ = some (.int .i64 0) := cell_of Z2.out 6
    have zf6 := frozen_of Z2.out 6
    go_wp2_with fail
    exact bodyPost_ret (results_row2 Tryz.results169 _ _ _ _ _ rfl rfl (loadVar_rgot (got_set Z2.out _ _ _ _ _ _ _) rfl)) rfl ⟨rfl, Rz.set7 frR ⟨Fs, NwA.refl _ _, H.out.below frR BB.out, KF.of BB.out, NZ.out⟩ (Nat.le_succ _) RR.out _ _ _ _ _ _ _⟩
  · rw [e2]
    simp only [if_true]
    rw [e1] at NM
    simp only [pt, Option.map_some] at NM
    have hb1 := (hs _ _ hi2).1
    have hb2 := (hs _ _ hi2).2
    have HI := hide hi
    have P2 := hide (q.below BB.out)
    clear h e1 e2 q hi hi2 h0 hl
    have CL := hide (rsend_any B _ st val _ P2.out hb1 hb2)
    generalize sendG st = gg at CL ⊢
    generalize sendE st = ee at CL ⊢
    obtain ⟨rd, ok, wk, v, ⟨mg, mc, mv⟩⟩ := gg
    unfold gv at CL ⊢
    go_enter Tryz.func169, Tryz.ntmps169
    go_wp2_with fail
    generalize (w.alloc (.cells #[.bool true, .int .i64 ch, .int .i64 val] 166)).alloc (.cells #[.bool false, .bool false, .bool false, .int .i64 0, .int .i64 0, .int .i64 0, .int .i64 0] 237) = W2 at BB X2 Z2 NM hS2 P2 CL ⊢
    refine NM.out.mono ?_
    rintro r w2 ⟨rfl, rfl⟩
    have x0 : w2.cell? ⟨w.heap.size, 0, none⟩ = some (.bool true) := cell_of X2.out 0
    have x2 : w2.cell? ⟨w.heap.size, 2, none⟩ = some (.int .i64 val) := cell_of X2.out 2
    go_wp2_with fail
    refine CL.out.mono ?_
    rintro r w3 ⟨rfl, k3, F3, n3, p3⟩
    have Z3 := hide (k3.heap Z2.out (NZ.out _))
    have R3 := hide (Rz.step frR H.out BB.out HI.out k3 n3 p3)
    have NZ3 : Hid (∃ Fs', NwA Fs' Fs w ∧ Qs Rr w3 oa bs Fs' (sts.set ch.toNat (some (sendS st val))) ∧ KF (All Fs) w w3 ∧ ∀ i, ¬ Fs' i (w.heap.size + 1)) := by
      have ha := H.out.below frR BB.out
      refine ⟨up Fs ch.toNat F3, ?_, ha.step frR HI.out k3 n3 p3 (ha.rl HI.out), (KF.of (F := All Fs) BB.out).trans k3 (fun x hx => .inl ⟨_, hx⟩), ?_⟩
      · intro j x hx
        by_cases e : j = ch.toNat
        · subst e
          rw [up_same] at hx
          rcases n3 x hx with z | z
          · exact .inl ⟨_, z⟩
          · exact .inr (by omega)
        · rw [up_other _ _ _ _ e] at hx
          exact .inl ⟨j, hx⟩
      · intro j hx
        by_cases e : j = ch.toNat
        · subst e
          rw [up_same] at hx
          rcases n3 _ hx with z | z
          · exact NZ.out _ z
          · omega
        · rw [up_other _ _ _ _ e] at hx
          exact NZ.out _ hx
    clear k3 n3 p3 R3
    have z0 : w3.cell? ⟨w.heap.size + 1, 0, none⟩ = some (.bool false) := cell_of Z3.out 0
    have zf0 := frozen_of Z3.out 0
    have z1 : w3.cell? ⟨w.heap.size + 1, 1, none⟩ = some (.bool false) := cell_of Z3.out 1
    have zf1 := frozen_of Z3.out 1
    have z2 : w3.cell? ⟨w.heap.size + 1, 2, none⟩ = some (.bool false) := cell_of Z3.out 2
    have zf2 := frozen_of Z3.out 2
    have z3 : w3.cell? ⟨w.heap.size + 1, 3, none⟩ = some (.int .i64 0) := cell_of Z3.out 3
    have zf3 := frozen_of Z3.out 3
    have z4 : w3.cell? ⟨w.heap.size + 1, 4, none⟩ = some (.int .i64 0) := cell_of Z3.out 4
    have zf4 := frozen_of Z3.out 4
    have z5 : w3.cell? ⟨w.heap.size + 1, 5, none⟩ = some (.int .i64 0) := cell_of Z3.out 5
    have zf5 := frozen_of Z3.out 5
    have z6 : w3.cell? ⟨w.heap.size + 1, 6, none⟩ = some (.int .i64 0) := cell_of Z3.out 6
    have zf6 := frozen_of Z3.out 6
    go_wp2_with fail
    exact bodyPost_ret (results_row2 Tryz.results169 _ _ _ _ _ rfl rfl (loadVar_rgot (got_set Z3.out _ _ _ _ _ _ _) rfl)) rfl ⟨rfl, Rz.set7 frR NZ3.out (Nat.le_succ _) RR.out _ _ _ _ _ _ _⟩
theorem rtry_any (c : Ca) (oa : Option Addr) (bs : List (Option Nat)) (cp : Nat) (Fs : Nat → Nat → Prop) (sts : List (Option St)) (w : World) (h : Qs Rr w oa bs Fs sts) (hs : Sml sts) :
    Calls Tryz.prog 169 #[cv c, .slice oa bs.length cp] w fun r w' => r = .returned (.tuple #[gv (tryG sts c), .int .i64 (tryE sts c)]) ∧ Rz Rr w w' oa bs Fs (tryS sts c) := by
  obtain ⟨sd, ch, val⟩ := c
  cases sd
  · exact rtry_false ch val oa bs cp Fs sts w h hs
  · exact rtry_true ch val oa bs cp Fs sts w h hs
end Fk
end Go.Proofs.YtblfimobiibmjaaGreat
/- A loom's isParked, service and opens, over this seat's program. -/
namespace Go.Proofs.YtblfimobiibmjaaGreat
open Go.ChangeShapes Go.WideShapes Go.ChangeAt Go.RowKit
namespace Lo
open Ba

section
variable {w : World} {col : Nat → Nat} {L N C B X : Nat} {FB : Nat → Prop} {pa : Option Addr} {pc : Nat} {bs : List (Option Nat)} {Fs : Nat → Nat → Prop} {ta : Option Addr} {tc : Nat} {s : Lm}
end
section
variable {w w1 : World} {col : Nat → Nat} {L N C B X : Nat} {FB : Nat → Prop} {pa : Option Addr} {pc : Nat} {bs : List (Option Nat)} {Fs : Nat → Nat → Prop} {ta : Option Addr} {tc : Nat} {s : Lm}
theorem pr_row {w : World} {X : Nat} {bs : List (Option Nat)} {t : TypeId} {f : Nat × Nat} (h : w.heap[X]? = some (.cells (bs.map Pe.pt).toArray t f)) : Fk.PR w (some ⟨X, 0, none⟩) bs := by
  intro i o hi
  refine ⟨X, 0, rfl, ?_⟩
  rw [Nat.zero_add, cell_of h]
  simp [hi]
theorem eight {l : List Int} (h : l.length = 8) : ∃ a0 a1 a2 a3 a4 a5 a6 a7, l = [a0, a1, a2, a3, a4, a5, a6, a7] := by
  match l, h with
  | [a0, a1, a2, a3, a4, a5, a6, a7], _ => exact ⟨a0, a1, a2, a3, a4, a5, a6, a7, rfl⟩
theorem lcs_num (pa : Option Addr) (n pc C B X : Nat) (nm : List Int) (md : Int) (ta : Option Addr) (tn tc : Nat) (pk : Bool) (k : Nat) (v : Int) (hl : nm.length = 8) (hk : k < 8) :
    (lcs pa n pc C B X nm md ta tn tc pk).setIfInBounds (4 + k) (.int .i64 v) = lcs pa n pc C B X (nm.set k v) md ta tn tc pk := by
  obtain ⟨a0, a1, a2, a3, a4, a5, a6, a7, rfl⟩ := eight hl
  rcases (show k = 0 ∨ k = 1 ∨ k = 2 ∨ k = 3 ∨ k = 4 ∨ k = 5 ∨ k = 6 ∨ k = 7 by omega) with rfl | rfl | rfl | rfl | rfl | rfl | rfl | rfl <;> rfl
end
theorem heap_new3 (w : World) (a b c : Obj) : (((w.alloc a).alloc b).alloc c).heap[w.heap.size + 1 + 1]? = some c := by
  have := heap_new ((w.alloc a).alloc b) c
  rw [World.size_alloc, World.size_alloc] at this
  exact this
end Lo
end Go.Proofs.YtblfimobiibmjaaGreat
/- A loom wakes one that waited; a name has a new channel, over this seat's program. -/
namespace Go.Proofs.YtblfimobiibmjaaGreat
open Go.ChangeShapes Go.WideShapes Go.ChangeAt Go.RowKit
namespace Lo
open Ba

end Lo
end Go.Proofs.YtblfimobiibmjaaGreat
/- A loom tries a send or receive, over this seat's program. -/
namespace Go.Proofs.YtblfimobiibmjaaGreat
open Go.ChangeShapes Go.WideShapes Go.ChangeAt Go.RowKit
namespace Lo
open Ba

theorem set7 {w : World} {b i z : Nat} {v u0 u1 u2 u3 u4 u5 u6 : Value} (h : w.cell? ⟨b, i, none⟩ = some v) (hn : b ≠ z) : (((((((w.setCell ⟨z, 0, none⟩ u0).setCell ⟨z, 1, none⟩ u1).setCell ⟨z, 2, none⟩ u2).setCell ⟨z, 3, none⟩ u3).setCell ⟨z, 4, none⟩ u4).setCell ⟨z, 5, none⟩ u5).setCell ⟨z, 6, none⟩ u6).cell? ⟨b, i, none⟩ = some v := by
  have K := (((((((KB.refl z w).setCell 0 u0).setCell 1 u1).setCell 2 u2).setCell 3 u3).setCell 4 u4).setCell 5 u5).setCell 6 u6
  rw [← h]
  have := K.block b (World.block_lt_of_cell? w _ h) hn
  simp only [World.cell?, this]
theorem kset1 {w : World} {b i z : Nat} {v : Value} (h : w.cell? ⟨b, i, none⟩ = some v) (hn : b ≠ z) {i1 : Nat} {u1 : Value} : (w.setCell ⟨z, i1, none⟩ u1).cell? ⟨b, i, none⟩ = some v := by
  have K := (KB.refl z w).setCell i1 u1
  rw [← h]
  have := K.block b (World.block_lt_of_cell? w _ h) hn
  simp only [World.cell?, this]
/-- what the walks ask of a state -/
structure Ok (K : Nat) (s : Lm) : Prop where
  cb : Cr.Bn K s.cr
  tn : s.tr.length ≤ K
  sm : Fk.Sml s.sts
  wl : ∀ (i : Nat) (st : St), s.sts[i]? = some (some st) → ∀ b, (_root_.Go.Proofs.YtblfimobiibmjaaGreat.Pi.own st b).length ≤ 1000
  md : 0 ≤ s.md ∧ s.md ≤ 1000
  dd : ∀ x ∈ s.d, 0 ≤ x

end Lo
end Go.Proofs.YtblfimobiibmjaaGreat
