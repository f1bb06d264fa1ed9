/- Package pew: New, front, Len, First, link, Add, Take, over this seat's program. -/
import Derived.Test.YtdcmlimglajpkaaWa
namespace Go.Proofs.Ytdcmlimglajpkaa
open Go.ChangeShapes Go.WideShapes Go.ChangeAt Go.RowKit
namespace Pe
open Ba

def wv (x : Wt) : Value := .agg #[.int .i64 x.g, .int .i64 x.c, .int .i64 x.v]
theorem size_wt : (Try.prog.info? 49).map (·.size) = some 3 := by kernel_rfl
theorem loadVar_wt {w : World} {b : Nat} {c : Array Value} {t : TypeId} (h : w.heap[b]? = some (.cells c t (0, 0))) (hc : c.size = 3) : (loadVar 49 ⟨b, 0, none⟩).run Try.prog w = .ok (.agg c) w :=
  run_loadVar_row w b t _ _ _ _ h Try.underlying49 rfl (by rw [size_wt, hc])
theorem three_set {w : World} {b : Nat} {x0 x1 x2 : Value} {t : TypeId} (h : w.heap[b]? = some (.cells #[x0, x1, x2] t (0, 0))) (u0 u1 u2 : Value) : (((w.setCell ⟨b, 0, none⟩ u0).setCell ⟨b, 1, none⟩ u1).setCell ⟨b, 2, none⟩ u2).heap[b]? = some (.cells #[u0, u1, u2] t (0, 0)) := by
  rw [Ba.heap_setCell_same (Ba.heap_setCell_same (Ba.heap_setCell_same h u0) u1) u2]
  rfl

theorem new_any (w : World) :
    Calls Try.prog 44 #[] w fun r w' => r = .returned (.pointer (some ⟨w.heap.size, 0, none⟩)) ∧ PF w' w.heap.size (fun k => k = w.heap.size) [] ∧ Below w.heap.size w w' := by
  go_enter Try.func44, Try.ntmps44
  go_wp2_with fail
  go_ret
  exact ⟨rfl, ⟨[], rfl, ⟨none, heap_new _ _, rfl, List.nodup_nil, fun _ h => by simp at h, Nat.zero_le _⟩, fun _ h => by simp at h, rfl, fun k e => by show k < _; rw [World.size_alloc]; have e' : k = w.heap.size := e; omega⟩, below_alloc _ _⟩
theorem front_nil (w : World) :
    Calls Try.prog 70 #[.pointer none] w fun r w' => r = .returned (.pointer none) ∧ w' = w := by
  go_enter Try.func70, Try.ntmps70
  go_wp2_with fail
  go_ret
  exact ⟨rfl, rfl⟩
theorem front_c (P : Nat) (o : Option Addr) (w : World) (h : w.cell? ⟨P, 0, none⟩ = some (.pointer o)) :
    Calls Try.prog 70 #[.pointer (some ⟨P, 0, none⟩)] w fun r w' => r = .returned (.pointer o) ∧ w' = w := by
  go_enter Try.func70, Try.ntmps70
  go_wp2_with fail
  go_ret
  exact ⟨rfl, rfl⟩
theorem len_nil (w : World) :
    Calls Try.prog 59 #[.pointer none] w fun r w' => r = .returned (.int .i64 0) ∧ w' = w := by
  go_enter Try.func59, Try.ntmps59
  go_wp2_with fail
  go_ret
  exact ⟨rfl, rfl⟩
theorem len_c (P : Nat) (n : Int) (w : World) (h : w.cell? ⟨P, 2, none⟩ = some (.int .i64 n)) :
    Calls Try.prog 59 #[.pointer (some ⟨P, 0, none⟩)] w fun r w' => r = .returned (.int .i64 n) ∧ w' = w := by
  go_enter Try.func59, Try.ntmps59
  go_wp2_with fail
  go_ret
  exact ⟨rfl, rfl⟩
theorem len_any (P : Nat) (l : List Wt) (w : World) (h : Pw w P l) :
    Calls Try.prog 59 #[.pointer (some ⟨P, 0, none⟩)] w fun r w' => r = .returned (.int .i64 (l.length : Int)) ∧ w' = w := by
  obtain ⟨m, rfl, f, h1, h2⟩ := h
  rw [List.length_map]
  exact len_c P _ w (cell_of h1 2)
theorem link_none (P : Nat) (f l : Option Nat) (n : Nat) (o : Option Addr) (w : World) (h : Hd w P f l n) :
    Calls Try.prog 67 #[.pointer (some ⟨P, 0, none⟩), .pointer none, .pointer o] w fun r w' => r = .returned (.tuple #[]) ∧ w' = w.setCell ⟨P, 0, none⟩ (.pointer o) := by
  have y0 := cell_of h 0
  have z0 := frozen_of h 0
  simp at y0
  clear h
  go_enter Try.func67, Try.ntmps67
  go_wp2_with fail
  exact bodyPost_ret (results_none rfl _ _ _) rfl ⟨rfl, rfl⟩
theorem link_some (p : Value) (b : Nat) (x : Wt) (nx : Option Nat) (o : Option Addr) (w : World) (h : Sc w b x nx) :
    Calls Try.prog 67 #[p, .pointer (some ⟨b, 0, none⟩), .pointer o] w fun r w' => r = .returned (.tuple #[]) ∧ w' = w.setCell ⟨b, 3, none⟩ (.pointer o) := by
  have y0 := cell_of h 3
  have z0 := frozen_of h 3
  simp at y0
  clear h
  go_enter Try.func67, Try.ntmps67
  go_wp2_with fail
  exact bodyPost_end (results_none rfl _ _ _) rfl ⟨rfl, rfl⟩

theorem first_nil (w : World) :
    Calls Try.prog 63 #[.pointer none] w fun r w' => r = .returned (.tuple #[wv ⟨0, 0, 0⟩, .bool false]) ∧ Below w.heap.size w w' := by
  go_enter Try.func63, Try.ntmps63
  go_wp2_with fail
  refine (front_nil _).mono ?_
  rintro r w1 ⟨rfl, rfl⟩
  go_wp2_with fail
  exact bodyPost_ret (results_row2 Try.results63 _ _ _ _ _ rfl rfl (loadVar_wt (heap_new _ _) rfl)) rfl ⟨rfl, below_alloc _ _⟩
theorem first_none (P : Nat) (w : World) (h : Pw w P []) :
    Calls Try.prog 63 #[.pointer (some ⟨P, 0, none⟩)] w fun r w' => r = .returned (.tuple #[wv ⟨0, 0, 0⟩, .bool false]) ∧ Below w.heap.size w w' := by
  obtain ⟨m, em, f, h1, h2, h3⟩ := h
  obtain rfl : m = [] := by simpa using em
  cases h2
  have HD := hide h1
  clear h1 h3
  go_enter Try.func63, Try.ntmps63
  go_wp2_with fail
  refine (front_c P none _ ((cell_of (heap_below HD.out (below_alloc _ _)) 0).trans rfl)).mono ?_
  rintro r w1 ⟨rfl, rfl⟩
  go_wp2_with fail
  exact bodyPost_ret (results_row2 Try.results63 _ _ _ _ _ rfl rfl (loadVar_wt (heap_new _ _) rfl)) rfl ⟨rfl, below_alloc _ _⟩
theorem first_some (P : Nat) (x : Wt) (l : List Wt) (w : World) (h : Pw w P (x :: l)) :
    Calls Try.prog 63 #[.pointer (some ⟨P, 0, none⟩)] w fun r w' => r = .returned (.tuple #[wv x, .bool true]) ∧ Below w.heap.size w w' := by
  obtain ⟨m, em, f, h1, h2, h3⟩ := h
  match m, em with
  | (b, y) :: m, em =>
  simp at em
  obtain ⟨rfl, rfl⟩ := em
  obtain ⟨rfl, nx, h4, h5⟩ := h2
  have HD := hide h1
  have HS := hide h4
  clear h1 h3 h4 h5
  go_enter Try.func63, Try.ntmps63
  go_wp2_with fail
  refine (front_c P (some ⟨b, 0, none⟩) _ ((cell_of (heap_below HD.out (below_alloc _ _)) 0).trans rfl)).mono ?_
  rintro r w1 ⟨rfl, rfl⟩
  have HS1 := heap_below HS.out (below_alloc w (.cells #[.int .i64 0, .int .i64 0, .int .i64 0] 49))
  have Z := hide (heap_new w (.cells #[.int .i64 0, .int .i64 0, .int .i64 0] 49))
  have BW := hide (below_alloc w (.cells #[.int .i64 0, .int .i64 0, .int .i64 0] 49))
  generalize (w.alloc (.cells #[.int .i64 0, .int .i64 0, .int .i64 0] 49)) = w2 at HS1 Z BW ⊢
  have y0 := cell_of HS1 0
  have y1 := cell_of HS1 1
  have y2 := cell_of HS1 2
  have q0 := cell_of Z.out 0
  have q1 := cell_of Z.out 1
  have q2 := cell_of Z.out 2
  have f0 := frozen_of Z.out 0
  have f1 := frozen_of Z.out 1
  have f2 := frozen_of Z.out 2
  simp at y0 y1 y2 q0 q1 q2
  clear HS1
  go_wp2_with fail
  exact bodyPost_ret (results_row2 Try.results63 _ _ _ _ _ rfl rfl (loadVar_wt (three_set Z.out _ _ _) rfl)) rfl ⟨rfl, (((BW.out.setCell (Nat.le_refl _) _).setCell (Nat.le_refl _) _).setCell (Nat.le_refl _) _)⟩
/-- the first of them, and whether there is one -/
def fw : List Wt → Wt
  | [] => ⟨0, 0, 0⟩
  | x :: _ => x
def fo (l : List Wt) : Bool := !l.isEmpty
theorem first_any (P : Nat) (l : List Wt) (w : World) (h : Pw w P l) :
    Calls Try.prog 63 #[.pointer (some ⟨P, 0, none⟩)] w fun r w' => r = .returned (.tuple #[wv (fw l), .bool (fo l)]) ∧ Below w.heap.size w w' := by
  cases l with
  | nil => exact first_none P w h
  | cons x l => exact first_some P x l w h

theorem add_arg (p : Option Addr) (x : Wt) (w : World) (h : x.g < 0 ∨ x.c < -1) :
    Calls Try.prog 49 #[.pointer p, wv x] w fun r w' => r = .returned (.int .i64 1) ∧ Below w.heap.size w w' := by
  unfold wv
  obtain ⟨g, c, v⟩ := x
  simp only at h ⊢
  by_cases h1 : g < 0
  · have d1 : decide (g < 0) = true := decide_eq_true h1
    clear h
    go_enter Try.func49, Try.ntmps49
    go_wp2_with fail
    go_ret
    exact ⟨rfl, below_alloc _ _⟩
  · have d1 : decide (g < 0) = false := decide_eq_false h1
    have d2 : decide (c < -1) = true := decide_eq_true (by omega)
    clear h
    go_enter Try.func49, Try.ntmps49
    go_wp2_with fail
    go_ret
    exact ⟨rfl, below_alloc _ _⟩
theorem add_nil (x : Wt) (w : World) (h : 0 ≤ x.g ∧ -1 ≤ x.c) :
    Calls Try.prog 49 #[.pointer none, wv x] w fun r w' => r = .returned (.int .i64 7) ∧ Below w.heap.size w w' := by
  unfold wv
  obtain ⟨g, c, v⟩ := x
  simp only at h ⊢
  have d1 : decide (g < 0) = false := decide_eq_false (by omega)
  have d2 : decide (c < -1) = false := decide_eq_false (by omega)
  clear h
  go_enter Try.func49, Try.ntmps49
  go_wp2_with fail
  go_ret
  exact ⟨rfl, below_alloc _ _⟩
theorem add_full (P : Nat) (l : List Wt) (x : Wt) (w : World) (h : 0 ≤ x.g ∧ -1 ≤ x.c) (hP : Pw w P l) (hl : l.length = 1024) :
    Calls Try.prog 49 #[.pointer (some ⟨P, 0, none⟩), wv x] w fun r w' => r = .returned (.int .i64 5) ∧ Below w.heap.size w w' := by
  unfold wv
  obtain ⟨g, c, v⟩ := x
  simp only at h ⊢
  have d1 : decide (g < 0) = false := decide_eq_false (by omega)
  have d2 : decide (c < -1) = false := decide_eq_false (by omega)
  clear h
  obtain ⟨m, em, f, h1, h2⟩ := hP
  have hm : m.length = 1024 := by rw [← em, List.length_map] at hl; exact hl
  have y2 : w.cell? ⟨P, 2, none⟩ = some (.int .i64 1024) := by
    have := cell_of h1 2
    rw [hm] at this
    exact this
  have HP := heap_lt h1
  clear h1 h2 hm hl em
  go_enter Try.func49, Try.ntmps49
  go_wp2_with fail
  go_ret
  exact ⟨rfl, below_alloc _ _⟩
set_option maxHeartbeats 1600000 in
theorem add_ok (P : Nat) (F : Nat → Prop) (l : List Wt) (x : Wt) (w : World) (h : 0 ≤ x.g ∧ -1 ≤ x.c) (hP : PF w P F l) (hl : l.length < 1024) :
    Calls Try.prog 49 #[.pointer (some ⟨P, 0, none⟩), wv x] w fun r w' => r = .returned (.int .i64 0) ∧ KF F w w' ∧ ∃ F', Nw F' F w ∧ PF w' P F' (l ++ [x]) := by
  unfold wv
  obtain ⟨m, em, ⟨f, h1, h2, h3, h4, h5⟩, hF1, hF2, hF3⟩ := hP
  have FA := hide hF1
  have FP := hide hF2
  have FB := hide hF3
  clear hF1 hF2 hF3
  subst em
  rw [List.length_map] at hl
  have d1 : decide (x.g < 0) = false := decide_eq_false (by omega)
  have d2 : decide (x.c < -1) = false := decide_eq_false (by omega)
  clear h
  obtain ⟨k, hk⟩ : ∃ k, k = m.length := ⟨_, rfl⟩
  rw [← hk] at h1
  have HK := hide hk
  have d3 : ((k : Int) == 1024) = false := by rw [beq_eq_false_iff_ne]; omega
  have hk2 : k < 1024 := by omega
  clear hk
  have HD := hide h1
  have HP := heap_lt h1
  have HC := hide h2
  have BB := hide (btr (below_alloc w (.cells #[.int .i64 x.g, .int .i64 x.c, .int .i64 x.v] 49)) (below_alloc _ (.cells #[.int .i64 x.g, .int .i64 x.c, .int .i64 x.v, .pointer none] 118)))
  have NW : Hid (Sc ((w.alloc (.cells #[.int .i64 x.g, .int .i64 x.c, .int .i64 x.v] 49)).alloc (.cells #[.int .i64 x.g, .int .i64 x.c, .int .i64 x.v, .pointer none] 118)) (w.heap.size + 1) x none) := by
    have := heap_new (w.alloc (.cells #[.int .i64 x.g, .int .i64 x.c, .int .i64 x.v] 49)) (.cells #[.int .i64 x.g, .int .i64 x.c, .int .i64 x.v, .pointer none] 118)
    rw [World.size_alloc] at this
    exact this
  have ND := hide h3
  have GT := hide h4
  have LT : Hid (∀ n ∈ m, n.1 < w.heap.size) := by
    intro n hn
    obtain ⟨l1, l2, rfl⟩ := List.append_of_mem hn
    obtain ⟨mid, _, _, nx, h6, _⟩ := Ch.app.1 h2
    exact heap_lt h6
  have y1 : w.cell? ⟨P, 1, none⟩ = some (pt (lst m)) := cell_of h1 1
  have y2 : w.cell? ⟨P, 2, none⟩ = some (.int .i64 (k : Int)) := cell_of h1 2
  clear h1 h2 h3 h4
  rcases List.eq_nil_or_concat m with rfl | ⟨m0, n0, rfl⟩
  · have e0 : f = none := HC.out
    subst e0
    have y1' : w.cell? ⟨P, 1, none⟩ = some (.pointer none) := y1
    clear y1
    go_enter Try.func49, Try.ntmps49
    go_wp2_with fail
    generalize ((w.alloc (.cells #[.int .i64 x.g, .int .i64 x.c, .int .i64 x.v] 49)).alloc (.cells #[.int .i64 x.g, .int .i64 x.c, .int .i64 x.v, .pointer none] 118)) = W2 at BB NW ⊢
    refine (link_none P none none k (some ⟨w.heap.size + 1, 0, none⟩) _ (heap_below HD.out BB.out)).mono ?_
    rintro r w3 ⟨rfl, hw3⟩
    have HD3 : Hid (Hd w3 P (some (w.heap.size + 1)) none k) := by rw [hw3]; exact Hd.setF (heap_below HD.out BB.out) (some (w.heap.size + 1))
    have CH3 : Hid (Ch w3 (some (w.heap.size + 1)) [] (some (w.heap.size + 1))) := rfl
    have NW3 : Hid (Sc w3 (w.heap.size + 1) x none) := by rw [hw3]; exact NW.out.other _ (by omega)
    have FT3 : Hid (KF F w w3) := by rw [hw3]; exact (KF.of (F := F) BB.out).set FP.out 0 _
    clear hw3 BB NW HD y2 y1'
    have y1 := cell_of HD3.out 1
    have y2 := cell_of HD3.out 2
    have HPP := hide (heap_lt HD3.out)
    have f1 := frozen_of HD3.out 1
    have f2 := frozen_of HD3.out 2
    simp at y1 y2
    go_wp2_with fail
    go_ret
    refine ⟨rfl, (FT3.out.set FP.out 1 _).set FP.out 2 _, fun k => F k ∨ k = w.heap.size + 1, fun k hk => hk.imp id (fun e => by omega), ⟨_, ?_, Pn.added (f := some (w.heap.size + 1)) (b := w.heap.size + 1) (x := x) ((HD3.out.setL (some (w.heap.size + 1))).setN _ _ (by rw [HK.out]; simp)) ((CH3.out.set _ (fun n hn => by have := GT.out n hn; omega)).set _ (fun n hn => by have := GT.out n hn; omega)) ((NW3.out.other _ (by omega)).other _ (by omega)) ND.out GT.out hl (fun n hn => by have := LT.out n hn; omega) (by omega), ?_, .inl FP.out, ?_⟩⟩
    · simp
    · intro n hn
      rcases List.mem_append.1 hn with q | q
      · exact .inl (FA.out n q)
      · simp at q; subst q; exact .inr rfl
    · intro k hk
      have hz := ((FT3.out.set FP.out 1 (.pointer (some ⟨w.heap.size + 1, 0, none⟩))).set FP.out 2 (.int .i64 0)).size
      rcases hk with q | q
      · exact Nat.lt_of_lt_of_le (FB.out k q) (by first | exact hz | (simp [World.setCell] at hz ⊢; omega))
      · subst q
        have hs := heap_lt NW3.out
        simp [World.setCell]
        exact hs
  · rw [List.concat_eq_append] at *
    have y1' : w.cell? ⟨P, 1, none⟩ = some (.pointer (some ⟨n0.1, 0, none⟩)) := by rw [lst_app] at y1; exact y1
    clear y1
    go_enter Try.func49, Try.ntmps49
    go_wp2_with fail
    generalize ((w.alloc (.cells #[.int .i64 x.g, .int .i64 x.c, .int .i64 x.v] 49)).alloc (.cells #[.int .i64 x.g, .int .i64 x.c, .int .i64 x.v, .pointer none] 118)) = W2 at BB NW ⊢
    have C2 := hide (HC.out.below BB.out)
    have hn0 := GT.out n0 (by simp)
    have hn1 := LT.out n0 (by simp)
    have DJ : Hid (∀ n ∈ m0, n.1 ≠ n0.1) := by
      intro n hn e
      have := ND.out
      rw [List.map_append, List.nodup_append] at this
      exact this.2.2 n.1 (List.mem_map.2 ⟨n, hn, rfl⟩) n0.1 (by simp) e
    refine (link_some _ n0.1 n0.2 none (some ⟨w.heap.size + 1, 0, none⟩) _ C2.out.sc).mono ?_
    rintro r w3 ⟨rfl, hw3⟩
    have HD3 : Hid (Hd w3 P f (lst (m0 ++ [n0])) k) := by rw [hw3]; exact Hd.other (heap_below HD.out BB.out) _ (by omega)
    have CH3 : Hid (Ch w3 f (m0 ++ [n0]) (some (w.heap.size + 1))) := by rw [hw3]; exact C2.out.relast DJ.out (some (w.heap.size + 1))
    have NW3 : Hid (Sc w3 (w.heap.size + 1) x none) := by rw [hw3]; exact NW.out.other _ (by omega)
    have FT3 : Hid (KF F w w3) := by rw [hw3]; exact (KF.of (F := F) BB.out).set (FA.out n0 (by simp)) 3 _
    clear hw3 BB NW HD y2 y1' C2 DJ
    have y1 := cell_of HD3.out 1
    have y2 := cell_of HD3.out 2
    have HPP := hide (heap_lt HD3.out)
    have f1 := frozen_of HD3.out 1
    have f2 := frozen_of HD3.out 2
    simp at y1 y2
    go_wp2_with fail
    go_ret
    refine ⟨rfl, (FT3.out.set FP.out 1 _).set FP.out 2 _, fun k => F k ∨ k = w.heap.size + 1, fun k hk => hk.imp id (fun e => by omega), ⟨_, ?_, Pn.added (f := f) (b := w.heap.size + 1) (x := x) ((HD3.out.setL (some (w.heap.size + 1))).setN _ _ (by rw [HK.out]; simp)) ((CH3.out.set _ (fun n hn => by have := GT.out n hn; omega)).set _ (fun n hn => by have := GT.out n hn; omega)) ((NW3.out.other _ (by omega)).other _ (by omega)) ND.out GT.out hl (fun n hn => by have := LT.out n hn; omega) (by omega), ?_, .inl FP.out, ?_⟩⟩
    · simp
    · intro n hn
      rcases List.mem_append.1 hn with q | q
      · exact .inl (FA.out n q)
      · simp at q; subst q; exact .inr rfl
    · intro k hk
      have hz := ((FT3.out.set FP.out 1 (.pointer (some ⟨w.heap.size + 1, 0, none⟩))).set FP.out 2 (.int .i64 0)).size
      rcases hk with q | q
      · exact Nat.lt_of_lt_of_le (FB.out k q) (by first | exact hz | (simp [World.setCell] at hz ⊢; omega))
      · subst q
        have hs := heap_lt NW3.out
        simp [World.setCell]
        exact hs

set_option maxHeartbeats 1600000 in
theorem take_nil (w : World) :
    Calls Try.prog 45 #[.pointer none] w fun r w' => r = .returned (.tuple #[wv ⟨0, 0, 0⟩, .bool false]) ∧ Below w.heap.size w w' := by
  go_enter Try.func45, Try.ntmps45
  go_wp2_with fail
  refine (first_nil _).mono ?_
  rintro r w1 ⟨rfl, b1⟩
  have Z1 := hide (heap_below (heap_new w (.cells #[.int .i64 0, .int .i64 0, .int .i64 0] 49)) b1)
  have B1 := hide (btr (below_alloc w (.cells #[.int .i64 0, .int .i64 0, .int .i64 0] 49)) b1)
  have q0 := cell_of Z1.out 0
  have q1 := cell_of Z1.out 1
  have q2 := cell_of Z1.out 2
  have f0 := frozen_of Z1.out 0
  have f1 := frozen_of Z1.out 1
  have f2 := frozen_of Z1.out 2
  have hlt := heap_lt Z1.out
  simp at q0 q1 q2
  clear b1
  unfold wv
  go_wp2_with fail
  exact bodyPost_ret (results_row2 Try.results45 _ _ _ _ _ rfl rfl (loadVar_wt (heap_below (three_set Z1.out _ _ _) (below_alloc _ _)) rfl)) rfl ⟨rfl, btr (((B1.out.setCell (Nat.le_refl _) _).setCell (Nat.le_refl _) _).setCell (Nat.le_refl _) _) (below_alloc _ _)⟩
set_option maxHeartbeats 1600000 in
theorem take_none (P : Nat) (w : World) (h : Pw w P []) :
    Calls Try.prog 45 #[.pointer (some ⟨P, 0, none⟩)] w fun r w' => r = .returned (.tuple #[wv ⟨0, 0, 0⟩, .bool false]) ∧ Below w.heap.size w w' := by
  have H := hide h
  clear h
  go_enter Try.func45, Try.ntmps45
  go_wp2_with fail
  refine (first_none P _ (H.out.below (below_alloc _ _))).mono ?_
  rintro r w1 ⟨rfl, b1⟩
  have Z1 := hide (heap_below (heap_new w (.cells #[.int .i64 0, .int .i64 0, .int .i64 0] 49)) b1)
  have B1 := hide (btr (below_alloc w (.cells #[.int .i64 0, .int .i64 0, .int .i64 0] 49)) b1)
  have q0 := cell_of Z1.out 0
  have q1 := cell_of Z1.out 1
  have q2 := cell_of Z1.out 2
  have f0 := frozen_of Z1.out 0
  have f1 := frozen_of Z1.out 1
  have f2 := frozen_of Z1.out 2
  have hlt := heap_lt Z1.out
  simp at q0 q1 q2
  clear b1
  unfold wv
  go_wp2_with fail
  exact bodyPost_ret (results_row2 Try.results45 _ _ _ _ _ rfl rfl (loadVar_wt (heap_below (three_set Z1.out _ _ _) (below_alloc _ _)) rfl)) rfl ⟨rfl, btr (((B1.out.setCell (Nat.le_refl _) _).setCell (Nat.le_refl _) _).setCell (Nat.le_refl _) _) (below_alloc _ _)⟩
theorem take_fin {w A : World} {P : Nat} {F : Nat → Prop} {l : List Wt} {c : Array Value} (hA : PF A P F l) (hF : KF F w A) (hd : Bd F w) (hz : A.heap[w.heap.size]? = some (.cells c 49 (0, 0))) (u0 u1 u2 : Value) (o : Obj) :
    KF F w ((((A.setCell ⟨w.heap.size, 0, none⟩ u0).setCell ⟨w.heap.size, 1, none⟩ u1).setCell ⟨w.heap.size, 2, none⟩ u2).alloc o) ∧ PF ((((A.setCell ⟨w.heap.size, 0, none⟩ u0).setCell ⟨w.heap.size, 1, none⟩ u1).setCell ⟨w.heap.size, 2, none⟩ u2).alloc o) P F l := by
  have hAl := heap_lt hz
  have K := (((KB.refl w.heap.size A).setCell 0 u0).setCell 1 u1).setCell 2 u2
  exact ⟨(((hF.setNew (Nat.le_refl _) _ _).setNew (Nat.le_refl _) _ _).setNew (Nat.le_refl _) _ _).alloc _, (hA.sm (fun x hx => K.block x (hA.bd x hx) (by have := hd x hx; omega))).below (below_alloc _ _)⟩
set_option maxHeartbeats 1600000 in
theorem take_some (P : Nat) (F : Nat → Prop) (x : Wt) (l : List Wt) (w : World) (h : PF w P F (x :: l)) :
    Calls Try.prog 45 #[.pointer (some ⟨P, 0, none⟩)] w fun r w' => r = .returned (.tuple #[wv x, .bool true]) ∧ KF F w w' ∧ PF w' P F l := by
  have PW := hide h.pw
  obtain ⟨m', em, ⟨f, h1, h2, h3, h4, h5⟩, hF1, hF2, hF3⟩ := h
  have FP := hide hF2
  have FB := hide hF3
  clear hF2 hF3
  match m', em, h1, h2, h3, h4, h5, hF1 with
  | (b, y) :: m, em, h1, h2, h3, h4, h5, hF1 =>
  have FA : Hid (∀ n ∈ m, F n.1) := fun n hn => hF1 n (List.mem_cons_of_mem _ hn)
  clear hF1
  simp at em
  obtain ⟨rfl, rfl⟩ := em
  obtain ⟨rfl, nx, h6, h7⟩ := h2
  have HP := heap_lt h1
  obtain ⟨k, hk⟩ : ∃ k, k = m.length := ⟨_, rfl⟩
  rw [List.length_cons] at h1 h5
  rw [← hk] at h1 h5
  have HK := hide hk
  clear hk
  have HD := hide h1
  have HS := hide h6
  have CH := hide h7
  have ND : Hid ((m.map (·.1)).Nodup) := by
    have : (List.map (·.1) ((b, y) :: m)).Nodup := h3
    rw [List.map_cons, List.nodup_cons] at this
    exact this.2
  have GT : Hid (∀ n ∈ m, P < n.1) := fun n hn => h4 n (List.mem_cons_of_mem _ hn)
  have hPb : P < b := h4 (b, y) (List.mem_cons_self ..)
  clear h1 h3 h4 h6 h7
  cases m with
  | nil =>
    have e0 : nx = none := CH.out
    subst e0
    skip
    go_enter Try.func45, Try.ntmps45
    go_wp2_with fail
    refine (first_some P y ([]) _ (PW.out.below (below_alloc _ _))).mono ?_
    rintro r w1 ⟨rfl, b1⟩
    have Z1 := hide (heap_below (heap_new w (.cells #[.int .i64 0, .int .i64 0, .int .i64 0] 49)) b1)
    have B1 := hide (btr (below_alloc w (.cells #[.int .i64 0, .int .i64 0, .int .i64 0] 49)) b1)
    have q0 := cell_of Z1.out 0
    have q1 := cell_of Z1.out 1
    have q2 := cell_of Z1.out 2
    have f0 := frozen_of Z1.out 0
    have f1 := frozen_of Z1.out 1
    have f2 := frozen_of Z1.out 2
    have hlt := heap_lt Z1.out
    simp at q0 q1 q2
    clear b1
    have HD1 := hide (heap_below HD.out B1.out)
    have HS1 := hide (heap_below HS.out B1.out)
    have CH1 := hide (CH.out.below B1.out)
    have FT1 := hide (KF.of (F := F) B1.out)
    have hPw1 := heap_lt HD1.out
    have hbw1 := heap_lt HS1.out
    have y0 : w1.cell? ⟨P, 0, none⟩ = some (.pointer (some ⟨b, 0, none⟩)) := cell_of HD1.out 0
    have y1 := cell_of HD1.out 1
    have y2 := cell_of HD1.out 2
    have g0 := frozen_of HD1.out 0
    have g1 := frozen_of HD1.out 1
    have g2 := frozen_of HD1.out 2
    have y3 : w1.cell? ⟨b, 3, none⟩ = some (.pointer (none)) := cell_of HS1.out 3
    simp at y1 y2
    unfold wv
    go_wp2_with fail
    have hd := ((Hd.setF HD1.out none).setL none).setN k (k : Int) rfl
    have KK := ((FT1.out.set FP.out 0 (.pointer none)).set FP.out 1 (.pointer none)).set FP.out 2 (.int .i64 (k : Int))
    have hA : PF (((w1.setCell ⟨P, 0, none⟩ (.pointer none)).setCell ⟨P, 1, none⟩ (.pointer none)).setCell ⟨P, 2, none⟩ (.int .i64 (k : Int))) P F [] := ⟨[], rfl, ⟨none, (by
      have e := HK.out
      subst e
      exact hd), rfl, List.nodup_nil, fun _ h => by simp at h, Nat.zero_le _⟩, fun _ h => by simp at h, FP.out, FB.out.mono KK.size⟩
    have hz : (((w1.setCell ⟨P, 0, none⟩ (.pointer none)).setCell ⟨P, 1, none⟩ (.pointer none)).setCell ⟨P, 2, none⟩ (.int .i64 (k : Int))).heap[w.heap.size]? = _ := ((((KB.refl P w1).setCell 0 _).setCell 1 _).setCell 2 _).heap Z1.out (by omega)
    exact bodyPost_ret (results_row2 Try.results45 _ _ _ _ _ rfl rfl (loadVar_wt (heap_below (three_set hz _ _ _) (below_alloc _ _)) rfl)) rfl ⟨rfl, take_fin hA KK FB.out hz _ _ _ _⟩
  | cons n2 m2 =>
    have e0 : nx = some n2.1 := CH.out.1
    subst e0
    skip
    go_enter Try.func45, Try.ntmps45
    go_wp2_with fail
    refine (first_some P y ((n2 :: m2).map (·.2)) _ (PW.out.below (below_alloc _ _))).mono ?_
    rintro r w1 ⟨rfl, b1⟩
    have Z1 := hide (heap_below (heap_new w (.cells #[.int .i64 0, .int .i64 0, .int .i64 0] 49)) b1)
    have B1 := hide (btr (below_alloc w (.cells #[.int .i64 0, .int .i64 0, .int .i64 0] 49)) b1)
    have q0 := cell_of Z1.out 0
    have q1 := cell_of Z1.out 1
    have q2 := cell_of Z1.out 2
    have f0 := frozen_of Z1.out 0
    have f1 := frozen_of Z1.out 1
    have f2 := frozen_of Z1.out 2
    have hlt := heap_lt Z1.out
    simp at q0 q1 q2
    clear b1
    have HD1 := hide (heap_below HD.out B1.out)
    have HS1 := hide (heap_below HS.out B1.out)
    have CH1 := hide (CH.out.below B1.out)
    have FT1 := hide (KF.of (F := F) B1.out)
    have hPw1 := heap_lt HD1.out
    have hbw1 := heap_lt HS1.out
    have y0 : w1.cell? ⟨P, 0, none⟩ = some (.pointer (some ⟨b, 0, none⟩)) := cell_of HD1.out 0
    have y1 := cell_of HD1.out 1
    have y2 := cell_of HD1.out 2
    have g0 := frozen_of HD1.out 0
    have g1 := frozen_of HD1.out 1
    have g2 := frozen_of HD1.out 2
    have y3 : w1.cell? ⟨b, 3, none⟩ = some (.pointer (some ⟨n2.1, 0, none⟩)) := cell_of HS1.out 3
    simp at y1 y2
    unfold wv
    go_wp2_with fail
    have hd := (Hd.setF HD1.out (some n2.1)).setN k (k : Int) rfl
    have hl : lst ((b, y) :: n2 :: m2) = lst (n2 :: m2) := by simp [lst, List.getLast?_cons_cons]
    rw [hl] at hd
    have KK := (FT1.out.set FP.out 0 (.pointer (some ⟨n2.1, 0, none⟩))).set FP.out 2 (.int .i64 (k : Int))
    have hA : PF ((w1.setCell ⟨P, 0, none⟩ (.pointer (some ⟨n2.1, 0, none⟩))).setCell ⟨P, 2, none⟩ (.int .i64 (k : Int))) P F ((n2 :: m2).map (·.2)) := by
      have hk := HK.out
      refine ⟨n2 :: m2, rfl, ⟨some n2.1, by rw [← hk]; exact hd, (CH1.out.set _ (fun n hn => by have := GT.out n hn; omega)).set _ (fun n hn => by have := GT.out n hn; omega), ND.out, GT.out, by omega⟩, FA.out, FP.out, FB.out.mono KK.size⟩
    have hz : ((w1.setCell ⟨P, 0, none⟩ (.pointer (some ⟨n2.1, 0, none⟩))).setCell ⟨P, 2, none⟩ (.int .i64 (k : Int))).heap[w.heap.size]? = _ := (((KB.refl P w1).setCell 0 _).setCell 2 _).heap Z1.out (by omega)
    exact bodyPost_ret (results_row2 Try.results45 _ _ _ _ _ rfl rfl (loadVar_wt (heap_below (three_set hz _ _ _) (below_alloc _ _)) rfl)) rfl ⟨rfl, take_fin hA KK FB.out hz _ _ _ _⟩
end Pe
end Go.Proofs.Ytdcmlimglajpkaa
