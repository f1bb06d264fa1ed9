/- Package crew, over this seat's program: change, Go, Park, Wake, Exit. -/
import Derived.Test.YtgpmefbmbfbjcaaMb
namespace Go.Proofs.Ytgpmefbmbfbjcaa
open Go.ChangeShapes Go.WideShapes Go.ChangeAt Go.RowKit
namespace Cr
open Ba

/-- behind a call the crew is l', and nothing else has changed -/
def Po (T E : TypeId) (w w' : World) (B : Nat) (F : Nat → Prop) (l : List Mb) : Prop := ∃ F', Cq T E w' B F' l ∧ KF F w w' ∧ Nw F' F w
theorem Po.of {T E : TypeId} {w w' : World} {B : Nat} {F : Nat → Prop} {l : List Mb} (h : Cq T E w B F l) (b : Below w.heap.size w w') : Po T E w w' B F l := ⟨F, h.below b, KF.of b, Nw.refl _ _⟩
theorem Cw.both {T E : TypeId} {w : World} {B : Nat} {F : Nat → Prop} {c : Nat} {l : List Mb} {m k : Nat} {x : Mb} (h : Cw T E w B F (some ⟨m, 0, none⟩) c l) (hT : T ≠ E) (hx : l[k]? = some x) (y b : Int) : Cw T E ((w.setCell ⟨m, k * 3 + 2, none⟩ (.int .i64 b)).setCell ⟨m, k * 3 + 1, none⟩ (.int .i64 y)) B F (some ⟨m, 0, none⟩) c (l.set k ⟨x.p, y, b⟩) := by
  have h2 := (h.set2 hT hx b).set1 hT (k := k) (x := ⟨x.p, x.q, b⟩) (by rw [List.getElem?_set_self (List.getElem?_eq_some_iff.1 hx).1]) y
  rw [List.set_set] at h2
  exact h2
def tv (a b d : Int) : Value := .agg #[.int .i64 a, .int .i64 b, .int .i64 d]
theorem change_nil (g a b d : Int) (w : World) :
    Calls Try.prog 29 #[.pointer none, .int .i64 g, tv a b d] w fun r w' => r = .returned (.int .i64 6) ∧ Below w.heap.size w w' := by
  unfold tv
  go_enter Try.func29, Try.ntmps29
  go_wp2_with fail
  refine (find_nil g _).mono ?_
  rintro r w1 ⟨rfl, rfl⟩
  go_wp2_with fail
  go_ret
  exact ⟨rfl, below_alloc _ _⟩
set_option maxHeartbeats 1600000 in
theorem change_any (B : Nat) (F : Nat → Prop) (l : List Mb) (K : Nat) (g a b d : Int) (w : World) (h : PC w B F l) (hn : Bn K l) (hK : K ≤ 100000) (hd : 0 ≤ d ∧ d ≤ 1) :
    Calls Try.prog 29 #[.pointer (some ⟨B, 0, none⟩), .int .i64 g, tv a b d] w fun r w' => r = .returned (.int .i64 (chE l g a)) ∧ Po 52 59 w w' B F (chL l g a b d) := by
  unfold chE chL
  cases hg : gt l g with
  | none =>
    simp only
    have FO := hide (find_out B F l g _ (h.below (below_alloc w (.cells #[.int .i64 a, .int .i64 b, .int .i64 d] 64))) hg)
    have H := hide h
    clear h hg
    unfold tv
    go_enter Try.func29, Try.ntmps29
    go_wp2_with fail
    refine FO.out.mono ?_
    rintro r w1 ⟨rfl, rfl⟩
    go_wp2_with fail
    go_ret
    exact ⟨rfl, Po.of H.out (below_alloc _ _)⟩
  | some x =>
    simp only
    obtain ⟨k, rfl, hk, hx⟩ := gt_some hg
    rw [Int.toNat_natCast]
    obtain ⟨oa, c, h⟩ := h
    have hb1 := hn.at hx
    have H := hide h
    have H1 := hide (h.below (below_alloc w (.cells #[.int .i64 a, .int .i64 b, .int .i64 d] 64)))
    obtain ⟨m, rfl, q0, q1, q2⟩ := H1.out.got hx
    have FI := hide (find_in B F m c l k x _ H1.out hx)
    have Q := hide (heap_new w (.cells #[.int .i64 a, .int .i64 b, .int .i64 d] 64))
    have t0 : (w.alloc (.cells #[.int .i64 a, .int .i64 b, .int .i64 d] 64)).cell? ⟨w.heap.size, 0, none⟩ = some (.int .i64 a) := cell_of Q.out 0
    have t1 : (w.alloc (.cells #[.int .i64 a, .int .i64 b, .int .i64 d] 64)).cell? ⟨w.heap.size, 1, none⟩ = some (.int .i64 b) := cell_of Q.out 1
    have t2 : (w.alloc (.cells #[.int .i64 a, .int .i64 b, .int .i64 d] 64)).cell? ⟨w.heap.size, 2, none⟩ = some (.int .i64 d) := cell_of Q.out 2
    have BA := hide (below_alloc w (.cells #[.int .i64 a, .int .i64 b, .int .i64 d] 64))
    obtain ⟨_, cur, hm⟩ := own_blk h.ow m rfl
    have hm1 := heap_lt hm
    have hmr := heap_below hm BA.out
    have z1 := frozen_of hmr (k * 3 + 1)
    have z2 := frozen_of hmr (k * 3 + 2)
    have hFm := hide (h.fr m rfl)
    have HX := hide hx
    have hne : m ≠ w.heap.size := by omega
    clear h hg hx hm hmr hn
    by_cases hs : x.s = a
    · rw [if_pos hs, if_pos hs]
      have e1 : (x.s != a) = false := by simp [hs]
      have HS := hide hs
      clear hs
      unfold tv
      go_enter Try.func29, Try.ntmps29
      go_wp2_with fail
      generalize w.alloc (.cells #[.int .i64 a, .int .i64 b, .int .i64 d] 64) = W at FI Q t0 t1 t2 BA q0 q1 q2 z1 z2 H1 ⊢
      refine FI.out.mono ?_
      rintro r w1 ⟨rfl, rfl⟩
      go_wp2_with fail
      go_quiet (fail)
      go_wp2_with fail
      go_region
      all_goals
        go_wp2_with fail
        go_ret
        exact ⟨rfl, F, ⟨some ⟨m, 0, none⟩, c, ((H1.out.below (bdrew _ _)).both (by decide) HX.out _ _).below (bdrew1 _)⟩, ((((KF.of (btr BA.out (bdrew _ _))).set hFm.out _ _).set hFm.out _ _).then (bdrew1 _)), Nw.refl _ _⟩
    · rw [if_neg hs, if_neg hs]
      have e1 : (x.s != a) = true := by simp [hs]
      clear hs
      unfold tv
      go_enter Try.func29, Try.ntmps29
      go_wp2_with fail
      generalize w.alloc (.cells #[.int .i64 a, .int .i64 b, .int .i64 d] 64) = W at FI Q t0 t1 t2 BA q0 q1 q2 z1 z2 H1 ⊢
      refine FI.out.mono ?_
      rintro r w1 ⟨rfl, rfl⟩
      go_wp2_with fail
      go_quiet (fail)
      go_wp2_with fail
      go_ret
      exact ⟨rfl, Po.of ⟨_, _, H.out⟩ (btr BA.out (bdrew _ _))⟩
theorem go_nil (g : Int) (w : World) :
    Calls Try.prog 21 #[.pointer none, .int .i64 g] w fun r w' => r = .returned (.int .i64 6) ∧ Below w.heap.size w w' := by
  go_enter Try.func21, Try.ntmps21
  go_wp2_with fail
  refine (change_nil g 0 0 1 _).mono ?_
  rintro r w1 ⟨rfl, b1⟩
  have B1 := hide b1
  clear b1
  go_wp2_with fail
  go_ret
  exact ⟨rfl, B1.out⟩
theorem park_nil (g : Int) (w : World) :
    Calls Try.prog 22 #[.pointer none, .int .i64 g] w fun r w' => r = .returned (.int .i64 6) ∧ Below w.heap.size w w' := by
  go_enter Try.func22, Try.ntmps22
  go_wp2_with fail
  refine (change_nil g 0 1 0 _).mono ?_
  rintro r w1 ⟨rfl, b1⟩
  have B1 := hide b1
  clear b1
  go_wp2_with fail
  go_ret
  exact ⟨rfl, B1.out⟩
theorem wake_nil (g : Int) (w : World) :
    Calls Try.prog 23 #[.pointer none, .int .i64 g] w fun r w' => r = .returned (.int .i64 6) ∧ Below w.heap.size w w' := by
  go_enter Try.func23, Try.ntmps23
  go_wp2_with fail
  refine (change_nil g 1 0 1 _).mono ?_
  rintro r w1 ⟨rfl, b1⟩
  have B1 := hide b1
  clear b1
  go_wp2_with fail
  go_ret
  exact ⟨rfl, B1.out⟩
theorem exit_nil (g : Int) (w : World) :
    Calls Try.prog 24 #[.pointer none, .int .i64 g] w fun r w' => r = .returned (.int .i64 6) ∧ Below w.heap.size w w' := by
  go_enter Try.func24, Try.ntmps24
  go_wp2_with fail
  refine (change_nil g 0 2 0 _).mono ?_
  rintro r w1 ⟨rfl, b1⟩
  have B1 := hide b1
  clear b1
  go_wp2_with fail
  go_ret
  exact ⟨rfl, B1.out⟩
theorem go_any (B : Nat) (F : Nat → Prop) (l : List Mb) (K : Nat) (g : Int) (w : World) (h : PC w B F l) (hn : Bn K l) (hK : K ≤ 100000) :
    Calls Try.prog 21 #[.pointer (some ⟨B, 0, none⟩), .int .i64 g] w fun r w' => r = .returned (.int .i64 (chE l g 0)) ∧ Po 52 59 w w' B F (chL l g 0 0 1) := by
  have CH := hide (change_any B F l K g 0 0 1 w h hn hK (by decide))
  clear h hn
  unfold tv at CH
  generalize chE l g 0 = e at CH ⊢
  generalize chL l g 0 0 1 = l' at CH ⊢
  go_enter Try.func21, Try.ntmps21
  go_wp2_with fail
  refine CH.out.mono ?_
  rintro r w1 ⟨rfl, p1⟩
  have P1 := hide p1
  clear p1
  go_wp2_with fail
  go_ret
  exact ⟨rfl, P1.out⟩
theorem park_any (B : Nat) (F : Nat → Prop) (l : List Mb) (K : Nat) (g : Int) (w : World) (h : PC w B F l) (hn : Bn K l) (hK : K ≤ 100000) :
    Calls Try.prog 22 #[.pointer (some ⟨B, 0, none⟩), .int .i64 g] w fun r w' => r = .returned (.int .i64 (chE l g 0)) ∧ Po 52 59 w w' B F (chL l g 0 1 0) := by
  have CH := hide (change_any B F l K g 0 1 0 w h hn hK (by decide))
  clear h hn
  unfold tv at CH
  generalize chE l g 0 = e at CH ⊢
  generalize chL l g 0 1 0 = l' at CH ⊢
  go_enter Try.func22, Try.ntmps22
  go_wp2_with fail
  refine CH.out.mono ?_
  rintro r w1 ⟨rfl, p1⟩
  have P1 := hide p1
  clear p1
  go_wp2_with fail
  go_ret
  exact ⟨rfl, P1.out⟩
theorem wake_any (B : Nat) (F : Nat → Prop) (l : List Mb) (K : Nat) (g : Int) (w : World) (h : PC w B F l) (hn : Bn K l) (hK : K ≤ 100000) :
    Calls Try.prog 23 #[.pointer (some ⟨B, 0, none⟩), .int .i64 g] w fun r w' => r = .returned (.int .i64 (chE l g 1)) ∧ Po 52 59 w w' B F (chL l g 1 0 1) := by
  have CH := hide (change_any B F l K g 1 0 1 w h hn hK (by decide))
  clear h hn
  unfold tv at CH
  generalize chE l g 1 = e at CH ⊢
  generalize chL l g 1 0 1 = l' at CH ⊢
  go_enter Try.func23, Try.ntmps23
  go_wp2_with fail
  refine CH.out.mono ?_
  rintro r w1 ⟨rfl, p1⟩
  have P1 := hide p1
  clear p1
  go_wp2_with fail
  go_ret
  exact ⟨rfl, P1.out⟩
theorem exit_any (B : Nat) (F : Nat → Prop) (l : List Mb) (K : Nat) (g : Int) (w : World) (h : PC w B F l) (hn : Bn K l) (hK : K ≤ 100000) :
    Calls Try.prog 24 #[.pointer (some ⟨B, 0, none⟩), .int .i64 g] w fun r w' => r = .returned (.int .i64 (chE l g 0)) ∧ Po 52 59 w w' B F (chL l g 0 2 0) := by
  have CH := hide (change_any B F l K g 0 2 0 w h hn hK (by decide))
  clear h hn
  unfold tv at CH
  generalize chE l g 0 = e at CH ⊢
  generalize chL l g 0 2 0 = l' at CH ⊢
  go_enter Try.func24, Try.ntmps24
  go_wp2_with fail
  refine CH.out.mono ?_
  rintro r w1 ⟨rfl, p1⟩
  have P1 := hide p1
  clear p1
  go_wp2_with fail
  go_ret
  exact ⟨rfl, P1.out⟩
end Cr
end Go.Proofs.Ytgpmefbmbfbjcaa
