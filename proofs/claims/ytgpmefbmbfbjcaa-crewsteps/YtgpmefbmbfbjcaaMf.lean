/- The reference's crew, over this seat's program: Has, Spawn, Turn, Able, Over. -/
import Derived.Test.YtgpmefbmbfbjcaaMe
namespace Go.Proofs.Ytgpmefbmbfbjcaa
open Go.ChangeShapes Go.WideShapes Go.ChangeAt Go.RowKit
namespace Cr
open Ba

abbrev RC (w : World) (B : Nat) (F : Nat → Prop) (l : List Mb) : Prop := Cq 29 38 w B F l
theorem info_one : (Try.prog.info? 38).map (fun i => (i.zero, i.size, i.bytes)) = some (some (tv 0 0 0), 3, 24) := by kernel_rfl
theorem rhas_any (B : Nat) (F : Nat → Prop) (l : List Mb) (g : Int) (w : World) (h : RC w B F l) :
    Calls Try.prog 13 #[.pointer (some ⟨B, 0, none⟩), .int .i64 g] w fun r w' => r = .returned (.bool (thr l g)) ∧ w' = w := by
  unfold thr
  have hle := h.le
  obtain ⟨oa, c, h⟩ := h
  have y0 : w.cell? ⟨B, 0, none⟩ = some (.slice oa l.length c) := cell_of h.hp 0
  clear h
  cases hg : gt l g with
  | none =>
    have hg' := gt_none hg
    clear hg
    cases h1 : decide (0 ≤ g)
    · clear hg'
      go_enter Try.func13, Try.ntmps13
      go_wp2_with fail
      go_ret
      exact ⟨rfl, rfl⟩
    · have d2 : decide (g < (l.length : Int)) = false := by simp at h1 ⊢; omega
      clear hg'
      go_enter Try.func13, Try.ntmps13
      go_wp2_with fail
      go_ret
      exact ⟨rfl, rfl⟩
  | some x =>
    obtain ⟨k, rfl, hk, hx⟩ := gt_some hg
    have d1 : decide (0 ≤ (k : Int)) = true := decide_eq_true (by omega)
    have d2 : decide ((k : Int) < (l.length : Int)) = true := decide_eq_true (by omega)
    clear hx hg
    go_enter Try.func13, Try.ntmps13
    go_wp2_with fail
    go_ret
    exact ⟨rfl, rfl⟩
set_option maxHeartbeats 1600000 in
theorem rturn00 (B : Nat) (F : Nat → Prop) (l : List Mb) (K : Nat) (g : Int) (w : World) (h : RC w B F l) (hn : Bn K l) (hK : K ≤ 100000) :
    Calls Try.prog 26 #[.pointer (some ⟨B, 0, none⟩), .int .i64 g, .int .i64 0, .int .i64 0] w fun r w' => r = .returned (.int .i64 (chE l g 0)) ∧ Po 29 38 w w' B F (chL l g 0 0 1) := by
  unfold chE chL
  have HS := hide (rhas_any B F l g w h)
  have HH := hide h
  cases hg : gt l g with
  | none =>
    simp only
    unfold thr at HS
    rw [hg] at HS
    simp only [Option.isSome_none] at HS
    clear h hg hn
    go_enter Try.func26, Try.ntmps26
    go_wp2_with fail
    refine HS.out.mono ?_
    rintro r w1 ⟨rfl, rfl⟩
    go_wp2_with fail
    go_ret
    exact ⟨rfl, Po.of HH.out (Below.refl _ _)⟩
  | some x =>
    simp only
    unfold thr at HS
    rw [hg] at HS
    simp only [Option.isSome_some] at HS
    obtain ⟨k, rfl, hk, hx⟩ := gt_some hg
    rw [Int.toNat_natCast]
    have hle := h.le
    obtain ⟨oa, c, h⟩ := h
    have hb1 := hn.at hx
    have H := hide h
    obtain ⟨m, rfl, q0, q1, q2⟩ := h.at.1 k x hx
    obtain ⟨_, cur, hm⟩ := own_blk h.ow m rfl
    have hmB : m ≠ B := by
      intro e
      rw [e, h.hp] at hm
      cases hm
    have y0 : w.cell? ⟨B, 0, none⟩ = some (.slice (some ⟨m, 0, none⟩) l.length c) := cell_of h.hp 0
    have z1 := frozen_of hm (k * 3 + 1)
    have z2 := frozen_of hm (k * 3 + 2)
    have hFm := hide (h.fr m rfl)
    have HX := hide hx
    have d3 : (k : Int) < (l.length : Int) := by omega
    clear h hg hx hm hn
    by_cases hs : x.s = 0
    · rw [if_pos hs, if_pos hs]
      have e1 : (x.s != 0) = false := by simp [hs]
      clear hs
      go_enter Try.func26, Try.ntmps26
      go_wp2_with fail
      refine HS.out.mono ?_
      rintro r w1 ⟨rfl, rfl⟩
      go_wp2_with fail
      go_region
      all_goals
        go_wp2_with fail
        go_ret
        exact ⟨rfl, F, ⟨some ⟨m, 0, none⟩, c, (H.out.both (by decide) HX.out _ _).below (bdrew1 _)⟩, ((((KF.refl _ _).set hFm.out _ _).set hFm.out _ _).then (bdrew1 _)), Nw.refl _ _⟩
    · rw [if_neg hs, if_neg hs]
      have e1 : (x.s != 0) = true := by simp [hs]
      clear hs
      go_enter Try.func26, Try.ntmps26
      go_wp2_with fail
      refine HS.out.mono ?_
      rintro r w1 ⟨rfl, rfl⟩
      go_wp2_with fail
      go_ret
      exact ⟨rfl, Po.of HH.out (Below.refl _ _)⟩
set_option maxHeartbeats 1600000 in
theorem rturn01 (B : Nat) (F : Nat → Prop) (l : List Mb) (K : Nat) (g : Int) (w : World) (h : RC w B F l) (hn : Bn K l) (_hK : K ≤ 100000) :
    Calls Try.prog 26 #[.pointer (some ⟨B, 0, none⟩), .int .i64 g, .int .i64 0, .int .i64 1] w fun r w' => r = .returned (.int .i64 (chE l g 0)) ∧ Po 29 38 w w' B F (chL l g 0 1 0) := by
  unfold chE chL
  have HS := hide (rhas_any B F l g w h)
  have HH := hide h
  cases hg : gt l g with
  | none =>
    simp only
    unfold thr at HS
    rw [hg] at HS
    simp only [Option.isSome_none] at HS
    clear h hg hn
    go_enter Try.func26, Try.ntmps26
    go_wp2_with fail
    refine HS.out.mono ?_
    rintro r w1 ⟨rfl, rfl⟩
    go_wp2_with fail
    go_ret
    exact ⟨rfl, Po.of HH.out (Below.refl _ _)⟩
  | some x =>
    simp only
    unfold thr at HS
    rw [hg] at HS
    simp only [Option.isSome_some] at HS
    obtain ⟨k, rfl, hk, hx⟩ := gt_some hg
    rw [Int.toNat_natCast]
    have hle := h.le
    obtain ⟨oa, c, h⟩ := h
    have hb1 := hn.at hx
    have H := hide h
    obtain ⟨m, rfl, q0, q1, q2⟩ := h.at.1 k x hx
    obtain ⟨_, cur, hm⟩ := own_blk h.ow m rfl
    have hmB : m ≠ B := by
      intro e
      rw [e, h.hp] at hm
      cases hm
    have y0 : w.cell? ⟨B, 0, none⟩ = some (.slice (some ⟨m, 0, none⟩) l.length c) := cell_of h.hp 0
    have z1 := frozen_of hm (k * 3 + 1)
    have z2 := frozen_of hm (k * 3 + 2)
    have hFm := hide (h.fr m rfl)
    have HX := hide hx
    have d3 : (k : Int) < (l.length : Int) := by omega
    clear h hg hx hm hn
    by_cases hs : x.s = 0
    · rw [if_pos hs, if_pos hs]
      have e1 : (x.s != 0) = false := by simp [hs]
      clear hs
      go_enter Try.func26, Try.ntmps26
      go_wp2_with fail
      refine HS.out.mono ?_
      rintro r w1 ⟨rfl, rfl⟩
      go_wp2_with fail
      go_ret
      exact ⟨rfl, F, ⟨some ⟨m, 0, none⟩, c, by have q := H.out.set2 (by decide) HX.out 1; rw [Int.add_zero]; exact q⟩, (KF.refl _ _).set hFm.out _ _, Nw.refl _ _⟩
    · rw [if_neg hs, if_neg hs]
      have e1 : (x.s != 0) = true := by simp [hs]
      clear hs
      go_enter Try.func26, Try.ntmps26
      go_wp2_with fail
      refine HS.out.mono ?_
      rintro r w1 ⟨rfl, rfl⟩
      go_wp2_with fail
      go_ret
      exact ⟨rfl, Po.of HH.out (Below.refl _ _)⟩
set_option maxHeartbeats 1600000 in
theorem rturn10 (B : Nat) (F : Nat → Prop) (l : List Mb) (K : Nat) (g : Int) (w : World) (h : RC w B F l) (hn : Bn K l) (hK : K ≤ 100000) :
    Calls Try.prog 26 #[.pointer (some ⟨B, 0, none⟩), .int .i64 g, .int .i64 1, .int .i64 0] w fun r w' => r = .returned (.int .i64 (chE l g 1)) ∧ Po 29 38 w w' B F (chL l g 1 0 1) := by
  unfold chE chL
  have HS := hide (rhas_any B F l g w h)
  have HH := hide h
  cases hg : gt l g with
  | none =>
    simp only
    unfold thr at HS
    rw [hg] at HS
    simp only [Option.isSome_none] at HS
    clear h hg hn
    go_enter Try.func26, Try.ntmps26
    go_wp2_with fail
    refine HS.out.mono ?_
    rintro r w1 ⟨rfl, rfl⟩
    go_wp2_with fail
    go_ret
    exact ⟨rfl, Po.of HH.out (Below.refl _ _)⟩
  | some x =>
    simp only
    unfold thr at HS
    rw [hg] at HS
    simp only [Option.isSome_some] at HS
    obtain ⟨k, rfl, hk, hx⟩ := gt_some hg
    rw [Int.toNat_natCast]
    have hle := h.le
    obtain ⟨oa, c, h⟩ := h
    have hb1 := hn.at hx
    have H := hide h
    obtain ⟨m, rfl, q0, q1, q2⟩ := h.at.1 k x hx
    obtain ⟨_, cur, hm⟩ := own_blk h.ow m rfl
    have hmB : m ≠ B := by
      intro e
      rw [e, h.hp] at hm
      cases hm
    have y0 : w.cell? ⟨B, 0, none⟩ = some (.slice (some ⟨m, 0, none⟩) l.length c) := cell_of h.hp 0
    have z1 := frozen_of hm (k * 3 + 1)
    have z2 := frozen_of hm (k * 3 + 2)
    have hFm := hide (h.fr m rfl)
    have HX := hide hx
    have d3 : (k : Int) < (l.length : Int) := by omega
    clear h hg hx hm hn
    by_cases hs : x.s = 1
    · rw [if_pos hs, if_pos hs]
      have e1 : (x.s != 1) = false := by simp [hs]
      clear hs
      go_enter Try.func26, Try.ntmps26
      go_wp2_with fail
      refine HS.out.mono ?_
      rintro r w1 ⟨rfl, rfl⟩
      go_wp2_with fail
      go_region
      all_goals
        go_wp2_with fail
        go_ret
        exact ⟨rfl, F, ⟨some ⟨m, 0, none⟩, c, (H.out.both (by decide) HX.out _ _).below (bdrew1 _)⟩, ((((KF.refl _ _).set hFm.out _ _).set hFm.out _ _).then (bdrew1 _)), Nw.refl _ _⟩
    · rw [if_neg hs, if_neg hs]
      have e1 : (x.s != 1) = true := by simp [hs]
      clear hs
      go_enter Try.func26, Try.ntmps26
      go_wp2_with fail
      refine HS.out.mono ?_
      rintro r w1 ⟨rfl, rfl⟩
      go_wp2_with fail
      go_ret
      exact ⟨rfl, Po.of HH.out (Below.refl _ _)⟩
set_option maxHeartbeats 1600000 in
theorem rturn02 (B : Nat) (F : Nat → Prop) (l : List Mb) (K : Nat) (g : Int) (w : World) (h : RC w B F l) (hn : Bn K l) (_hK : K ≤ 100000) :
    Calls Try.prog 26 #[.pointer (some ⟨B, 0, none⟩), .int .i64 g, .int .i64 0, .int .i64 2] w fun r w' => r = .returned (.int .i64 (chE l g 0)) ∧ Po 29 38 w w' B F (chL l g 0 2 0) := by
  unfold chE chL
  have HS := hide (rhas_any B F l g w h)
  have HH := hide h
  cases hg : gt l g with
  | none =>
    simp only
    unfold thr at HS
    rw [hg] at HS
    simp only [Option.isSome_none] at HS
    clear h hg hn
    go_enter Try.func26, Try.ntmps26
    go_wp2_with fail
    refine HS.out.mono ?_
    rintro r w1 ⟨rfl, rfl⟩
    go_wp2_with fail
    go_ret
    exact ⟨rfl, Po.of HH.out (Below.refl _ _)⟩
  | some x =>
    simp only
    unfold thr at HS
    rw [hg] at HS
    simp only [Option.isSome_some] at HS
    obtain ⟨k, rfl, hk, hx⟩ := gt_some hg
    rw [Int.toNat_natCast]
    have hle := h.le
    obtain ⟨oa, c, h⟩ := h
    have hb1 := hn.at hx
    have H := hide h
    obtain ⟨m, rfl, q0, q1, q2⟩ := h.at.1 k x hx
    obtain ⟨_, cur, hm⟩ := own_blk h.ow m rfl
    have hmB : m ≠ B := by
      intro e
      rw [e, h.hp] at hm
      cases hm
    have y0 : w.cell? ⟨B, 0, none⟩ = some (.slice (some ⟨m, 0, none⟩) l.length c) := cell_of h.hp 0
    have z1 := frozen_of hm (k * 3 + 1)
    have z2 := frozen_of hm (k * 3 + 2)
    have hFm := hide (h.fr m rfl)
    have HX := hide hx
    have d3 : (k : Int) < (l.length : Int) := by omega
    clear h hg hx hm hn
    by_cases hs : x.s = 0
    · rw [if_pos hs, if_pos hs]
      have e1 : (x.s != 0) = false := by simp [hs]
      clear hs
      go_enter Try.func26, Try.ntmps26
      go_wp2_with fail
      refine HS.out.mono ?_
      rintro r w1 ⟨rfl, rfl⟩
      go_wp2_with fail
      go_ret
      exact ⟨rfl, F, ⟨some ⟨m, 0, none⟩, c, by have q := H.out.set2 (by decide) HX.out 2; rw [Int.add_zero]; exact q⟩, (KF.refl _ _).set hFm.out _ _, Nw.refl _ _⟩
    · rw [if_neg hs, if_neg hs]
      have e1 : (x.s != 0) = true := by simp [hs]
      clear hs
      go_enter Try.func26, Try.ntmps26
      go_wp2_with fail
      refine HS.out.mono ?_
      rintro r w1 ⟨rfl, rfl⟩
      go_wp2_with fail
      go_ret
      exact ⟨rfl, Po.of HH.out (Below.refl _ _)⟩
set_option maxRecDepth 100000 in
set_option maxHeartbeats 1600000 in
theorem rable_any (B : Nat) (F : Nat → Prop) (l : List Mb) (w : World) (h : Cq 29 38 w B F l) :
    Calls Try.prog 19 #[.pointer (some ⟨B, 0, none⟩)] w fun r w' => ∃ ob d, r = .returned (.slice ob (abl l).length d) ∧ At w' ob (abl l) ∧ Below w.heap.size w w' := by
  cases hi : Try.prog.info? 3 with
  | none => have := info_i; rw [hi] at this; cases this
  | some i0 =>
  have hx2 := info_i
  rw [hi] at hx2
  simp at hx2
  have INF := hide (And.intro hi hx2)
  clear hx2 hi
  have hle := h.le
  obtain ⟨oa, c, h⟩ := h
  have hB := h.lt
  have y0 : w.cell? ⟨B, 0, none⟩ = some (.slice oa l.length c) := cell_of h.hp 0
  have HA := hide h.at.1
  have AL := hide y0
  clear h
  go_enter Try.func19, Try.ntmps19
  go_wp2_with fail
  go_loopw [3, 11] (fun rv i wr => ∃ (v : Value) (k : Nat), k ≤ l.length ∧ i = .int .i64 k ∧ rv = v ∧ wr.ownsRow w.heap.size 3 1 v (abl (l.take k)).length (ic (abl (l.take k))) ∧ Below w.heap.size w wr) (fun _ i _ => l.length - (intOf i).toNat)
  case atStart => exact ⟨_, 0, Nat.zero_le _, rfl, rfl, World.ownsRow_nil _ _ _ _, Below.refl _ _⟩
  case round =>
    obtain ⟨v, k, hk, rfl, rfl, ho, hb⟩ := hrel
    by_cases hlt : k < l.length
    · have hlt' : (k : Int) < (l.length : Int) := by omega
      obtain ⟨x, hx⟩ : ∃ x, l[k]? = some x := ⟨_, List.getElem?_eq_getElem hlt⟩
      obtain ⟨b, rfl, q0, q1, q2⟩ := HA.out.below hb k x hx
      have DT := hide (abl_take hx)
      have hdl : (abl (l.take k)).length ≤ k := by
        have h1 := abl_len (l.take k)
        have h2 := List.length_take_le k l
        omega
      clear hx
      obtain ⟨X, hX⟩ : ∃ X, X = abl (l.take k) := ⟨_, rfl⟩
      rw [← hX] at DT hdl ho
      clear hX
      have BX := below_alloc wr (.cells #[.int .i64 x.p, .int .i64 x.q, .int .i64 x.s] 38)
      by_cases hs : x.s = 0
      · have EX : Hid (abl (l.take (k + 1)) = X ++ [(k : Int)]) := by
          show _ = _
          rw [DT.out, if_pos hs]
        rw [hs] at q2 BX
        have OW1 := own_below ho BX
        have HB1 := btr hb BX
        have BY := below_alloc (wr.alloc (.cells #[.int .i64 x.p, .int .i64 x.q, .int .i64 0] 38)) (.cells #[.int .i64 (k : Int)] 3)
        have OW := hide (own_below OW1 BY)
        have HB := hide (btr HB1 BY)
        have SR := cell_one_new (wr.alloc (.cells #[.int .i64 x.p, .int .i64 x.q, .int .i64 0] 38)) (.int .i64 (k : Int)) 3
        rw [World.size_alloc] at SR
        have SRC := hide SR
        clear OW1 HB1 BY SR ho hb BX DT hs
        go_wp2_with (at_builtin; refine wpList_append_own _ rfl _ _ 42 rfl w.heap.size 3 i0 (.int .i64 0) 1 8 Try.underlying42 INF.out.1 INF.out.2.1 INF.out.2.2.1 INF.out.2.2.2 rfl (by decide) _ _ _ rfl OW.out ⟨wr.heap.size + 1, 0, none⟩ 1 1 [.int .i64 (k : Int)] rfl rfl ?c1 ?c2 ?c3 ?c4 ?c5 ?_)
        case c1 => first | exact SRC.out | exact fun j u hj => hj
        case c2 => intro u hu; simp at hu; subst hu; rfl
        case c3 => unfold maxLen; omega
        case c4 => omega
        case c5 => first | exact HB.out.size | (have := HB.out.size; rw [World.size_alloc, World.size_alloc] at this; exact this)
        intro v' w3 ho hg3 _
        have B3 : Hid (Below w.heap.size w w3) := HB.out.grown hg3 HB.out.size (fun x hx => (OW.out.lt x hx).1)
        have O3 : Hid (w3.ownsRow w.heap.size 3 1 v' (abl (l.take (k + 1))).length (ic (abl (l.take (k + 1))))) := by
          show World.ownsRow _ _ _ _ _ _ _
          rw [EX.out, ic_app, List.length_append]
          exact ho
        clear ho hg3
        go_wp2_with fail
        go_roundw
        case rel =>
          first
            | exact ⟨v', k + 1, by omega, by go_num, rfl, O3.out, B3.out⟩
            | ((repeat apply Exists.intro); exact ⟨⟨v', k + 1, by omega, by go_num, rfl, O3.out, B3.out⟩, rfl⟩)
        case measure => simp [intOf]; omega
      · have hs' : (x.s == 0) = false := by simpa using hs
        have EX : Hid (abl (l.take (k + 1)) = X) := by
          show _ = _
          rw [DT.out, if_neg hs, List.append_nil]
        have O3 : Hid ((wr.alloc (.cells #[.int .i64 x.p, .int .i64 x.q, .int .i64 x.s] 38)).ownsRow w.heap.size 3 1 u3 (abl (l.take (k + 1))).length (ic (abl (l.take (k + 1))))) := by
          show World.ownsRow _ _ _ _ _ _ _
          rw [EX.out]
          exact own_below ho BX
        have B3 := hide (btr hb BX)
        clear ho hb BX DT hs
        go_wp2_with fail
        go_roundw
        case rel =>
          first
            | exact ⟨_, k + 1, by omega, by go_num, rfl, O3.out, B3.out⟩
            | exact ⟨k + 1, by omega, by go_num, O3.out, B3.out⟩
        case measure => simp [intOf]; omega
    · have hlt' : ¬ ((k : Int) < (l.length : Int)) := by omega
      rw [List.take_of_length_le (by omega)] at ho
      obtain ⟨oa', c', hv', hA', _⟩ := own_at ho
      subst hv'
      have HA' := hide hA'
      have HB := hide hb
      clear ho hb hA'
      go_wp2_with fail
      go_ret
      first
        | exact ⟨oa', c', rfl, HA'.out, HB.out⟩
        | exact ⟨oa', ⟨c', rfl⟩, HA'.out, HB.out⟩

set_option maxRecDepth 100000 in
set_option maxHeartbeats 1600000 in
theorem rover_any (B : Nat) (F : Nat → Prop) (l : List Mb) (w : World) (h : RC w B F l) :
    Calls Try.prog 16 #[.pointer (some ⟨B, 0, none⟩)] w fun r w' => r = .returned (.int .i64 (ovr l)) ∧ Below w.heap.size w w' := by
  have hle := h.le
  obtain ⟨oa, c, h⟩ := h
  have hB := h.lt
  have y0 : w.cell? ⟨B, 0, none⟩ = some (.slice oa l.length c) := cell_of h.hp 0
  have HA := hide h.at.1
  clear h
  go_enter Try.func16, Try.ntmps16
  go_wp2_with fail
  go_loopw [3, 11] (fun o i wr => ∃ (k : Nat) (n : Int), k ≤ l.length ∧ i = .int .i64 k ∧ o = .int .i64 n ∧ (hasS (l.take k) 0 = false ∧ n = if hasS (l.take k) 1 = true then 2 else 1) ∧ Below w.heap.size w wr) (fun _ i _ => l.length - (intOf i).toNat)
  case atStart => exact ⟨0, 1, Nat.zero_le _, rfl, rfl, ⟨rfl, rfl⟩, Below.refl _ _⟩
  case round =>
    obtain ⟨k, n, hk, rfl, rfl, ⟨h0, h1⟩, hb⟩ := hrel
    have H0 := hide h0
    have H1 := hide h1
    have HB := hide hb
    clear h0 h1 hb
    by_cases hlt : k < l.length
    · have hlt' : (k : Int) < (l.length : Int) := by omega
      obtain ⟨x, hx⟩ : ∃ x, l[k]? = some x := ⟨_, List.getElem?_eq_getElem hlt⟩
      obtain ⟨b, rfl, q0, q1, q2⟩ := HA.out.below HB.out k x hx
      have T0 := hide (hasS_take hx 0)
      have T1 := hide (hasS_take hx 1)
      have HX := hide hx
      clear hx
      by_cases hs : x.s = 0
      · rw [hs] at q2
        have EO : Hid (ovr l = 0) := by
          show _ = _
          unfold ovr
          rw [if_pos]
          unfold hasS
          rw [List.any_eq_true]
          exact ⟨x, List.mem_of_getElem? HX.out, by rw [hs]; rfl⟩
        clear hs
        go_wp2_with fail
        go_ret
        exact ⟨ret_int EO.out.symm, btr HB.out (below_alloc _ _)⟩
      · have d0 : (x.s == 0) = false := by simpa using hs
        have N0 : Hid (hasS (l.take (k + 1)) 0 = false) := by show _ = _; rw [T0.out, H0.out, d0]; rfl
        cases d1 : x.s == 1
        · have N1 : Hid (n = if hasS (l.take (k + 1)) 1 = true then 2 else 1) := by show _ = _; rw [T1.out, d1, Bool.or_false]; exact H1.out
          clear hs
          go_wp2_with fail
          go_roundw
          case rel => exact ⟨k + 1, n, by omega, by go_num, rfl, ⟨N0.out, N1.out⟩, btr HB.out (below_alloc _ _)⟩
          case measure => simp [intOf]; omega
        · have N1 : Hid ((2 : Int) = if hasS (l.take (k + 1)) 1 = true then 2 else 1) := by show _ = _; rw [T1.out, d1, Bool.or_true]; rfl
          clear hs
          go_wp2_with fail
          go_roundw
          case rel => exact ⟨k + 1, 2, by omega, by go_num, rfl, ⟨N0.out, N1.out⟩, btr HB.out (below_alloc _ _)⟩
          case measure => simp [intOf]; omega
    · have hlt' : ¬ ((k : Int) < (l.length : Int)) := by omega
      rw [List.take_of_length_le (by omega)] at H0 H1
      have EO : Hid (ovr l = n) := by
        show _ = _
        unfold ovr
        rw [H1.out, H0.out, if_neg (by simp)]
      go_wp2_with fail
      go_ret
      exact ⟨ret_int EO.out.symm, HB.out⟩
set_option maxRecDepth 100000 in
set_option maxHeartbeats 1600000 in
theorem rspawn_any (B : Nat) (F : Nat → Prop) (l : List Mb) (p : Int) (w : World) (h : RC w B F l) :
    Calls Try.prog 25 #[.pointer (some ⟨B, 0, none⟩), .int .i64 p] w fun r w' => r = .returned (.tuple #[.int .i64 (spV l p), .int .i64 (spE l p)]) ∧ Po 29 38 w w' B F (spL l p) := by
  unfold spV spE spL
  by_cases h1 : p < 0
  · simp only [if_pos h1]
    have H := hide h
    clear h
    go_enter Try.func25, Try.ntmps25
    go_wp2_with fail
    go_ret2
    exact ⟨rfl, Po.of H.out (Below.refl _ _)⟩
  simp only [if_neg h1]
  have d1 : decide (p < 0) = false := decide_eq_false h1
  have hle := h.le
  obtain ⟨oa, c, h⟩ := h
  have hB := h.lt
  have y0 : w.cell? ⟨B, 0, none⟩ = some (.slice oa l.length c) := cell_of h.hp 0
  by_cases h2 : 512 ≤ l.length
  · simp only [if_pos h2]
    have hl : l.length = 512 := by omega
    have H := hide h
    rw [hl] at y0
    clear h hl h2 hle
    go_enter Try.func25, Try.ntmps25
    go_wp2_with fail
    go_ret2
    exact ⟨rfl, Po.of ⟨_, _, H.out⟩ (Below.refl _ _)⟩
  simp only [if_neg h2]
  have e1 : decide ((512 : Int) ≤ ((l.length : Nat) : Int)) = false := decide_eq_false (by omega)
  have hl : l.length < 512 := by omega
  have BD := hide h.bd
  have b1 := below_alloc w (.cells #[.int .i64 p, .int .i64 0, .int .i64 0] 38)
  have B1 := hide b1
  have H1 := hide (h.below b1)
  have f0 : w.frozen? ⟨B, 0, none⟩ = false := frozen_of h.hp 0
  cases hi : Try.prog.info? 38 with
  | none => have := info_one; rw [hi] at this; cases this
  | some i0 =>
  have hx := info_one
  rw [hi] at hx
  simp at hx
  have INF := hide (And.intro hi hx)
  clear hx hi h2 hle h b1
  go_enter Try.func25, Try.ntmps25
  go_wp2_with (at_builtin; refine wpList_append_own_at _ rfl _ _ 27 rfl 0 38 i0 (tv 0 0 0) 3 24 Try.underlying27 INF.out.1 INF.out.2.1 INF.out.2.2.1 INF.out.2.2.2 rfl (by decide) _ _ _ rfl H1.out.ow ⟨w.heap.size, 0, none⟩ 1 1 (mc [⟨p, 0, 0⟩]) rfl rfl ?c1 ?c2 ?c3 ?c4 (Nat.zero_le _) ?_)
  case c1 => first | exact src3 w ⟨p, 0, 0⟩ _ | exact fun j u hj => hj
  case c2 => exact mc_one _
  case c3 => unfold maxLen; omega
  case c4 => omega
  intro v' w2 ho hg _ hat
  rw [← mc_app] at ho
  have ho2 : w2.ownsRow 0 38 3 v' (l ++ [Mb.mk p 0 0]).length (mc (l ++ [Mb.mk p 0 0])) := by rw [List.length_append]; exact ho
  obtain ⟨oa', c', rfl, _, _⟩ := owns_mat ho2
  have hB1 : some B ≠ (Value.slice oa l.length c).ownBlock := own_ty H1.out.ow H1.out.hp (by decide)
  have hB2 : w2.heap[B]? = some (.cells #[.slice oa l.length c] 29 (0, 0)) := (hg.block B H1.out.lt hB1).trans H1.out.hp
  have y2 : w2.cell? ⟨B, 0, none⟩ = some (.slice oa l.length c) := cell_of hB2 0
  have f2 : w2.frozen? ⟨B, 0, none⟩ = false := frozen_of hB2 0
  have PO := hide (H1.out.grow B1.out BD.out (by decide) ho2 hg (by rw [World.size_alloc]; exact hat) hl)
  clear ho ho2 hg hat hB1 hB2
  have hn2 : (l ++ [Mb.mk p 0 0]).length = l.length + 1 := by simp
  generalize (l ++ [Mb.mk p 0 0]).length = n2 at PO hn2 ⊢
  subst hn2
  go_wp2_with fail
  go_ret2
  exact ⟨by first | rfl | (simp; done) | (congr 3; omega), PO.out⟩
end Cr
end Go.Proofs.Ytgpmefbmbfbjcaa
