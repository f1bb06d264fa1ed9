/- Package remap, over this seat's program: newborn, lives, stays, isTid, isPlace, find's and taken's functions. -/
import Derived.Test.YtledfepeoajgoaaUa2
import Derived.Deep.RegionHeld3
namespace Go.Proofs.Ytledfepeoajgoaa
open Go.ChangeShapes Go.WideShapes Go.ChangeAt Go.RowKit
namespace Rk
open Ba

def rdb (a b : Rd) : Bool := a.g == b.g && (a.t == b.t && (a.f == b.f && (a.b == b.b && (a.l == b.l && a.c == b.c))))
theorem rdb_iff (a b : Rd) : rdb a b = true ↔ a = b := by
  obtain ⟨a0, a1, a2, a3, a4, a5⟩ := a
  obtain ⟨b0, b1, b2, b3, b4, b5⟩ := b
  simp [rdb]
theorem rdb_self (a : Rd) : rdb a a = true := (rdb_iff a a).2 rfl
theorem rdb_lv (x : Rd) : rdb x (nb x.g x.t x.f) = lv x := by
  unfold rdb nb lv
  cases x.b <;> simp
set_option maxHeartbeats 1600000 in
theorem eqR (a b : Rd) (w : World) : (Op.equalIn 10000 32 (rv a) (rv b)).run Try.prog w = .ok (rdb a b) w := by
  obtain ⟨k, g, c, x, v, m⟩ := a
  obtain ⟨k', g', c', x', v', m'⟩ := b
  unfold rv rdb
  simp only
  cases h0 : (k == k')
  · simp [go_sem, h0]
  cases h1 : (g == g')
  · simp [go_sem, h0, h1]
  cases h2 : (c == c')
  · simp [go_sem, h0, h1, h2]
  cases h3 : (x == x')
  · simp [go_sem, h0, h1, h2, h3]
  cases h4 : (v == v')
  · simp [go_sem, h0, h1, h2, h3, h4]
  cases h5 : (m == m')
  · simp [go_sem, h0, h1, h2, h3, h4, h5]
  · simp [go_sem, h0, h1, h2, h3, h4, h5]
theorem info_r : (Try.prog.info? 32).map (fun i => (i.zero, i.size, i.bytes)) = some (some (rv zr), 6, 48) := by kernel_rfl
theorem size_r : (Try.prog.info? 32).map (·.size) = some 6 := by kernel_rfl
theorem loadVar_r {w : World} {b : Nat} {c : Array Value} {t : TypeId} (h : w.heap[b]? = some (.cells c t (0, 0))) (hc : c.size = 6) : (loadVar 32 ⟨b, 0, none⟩).run Try.prog w = .ok (.agg c) w :=
  run_loadVar_row w b t _ _ _ _ h Try.underlying32 rfl (by rw [size_r, hc])
theorem results_r1 {fn : Func} {p : Tmp} {ty : TypeId} (h : fn.results = #[.cell p ty]) (tmps : Array Value) (w : World) (g : Nat) (cs : Array Value)
    (hp : tmps.getD p undef = .pointer (some ⟨g, 0, none⟩)) (hl : (loadVar ty ⟨g, 0, none⟩).run Try.prog w = .ok (.agg cs) w) :
    (results fn tmps).run Try.prog w = .ok (.agg cs) w := by
  have hp' : tmps[p]?.getD undef = .pointer (some ⟨g, 0, none⟩) := by simpa using hp
  simp [results, h, hp', asAddr, hl]
theorem newborn_any (g t f : Int) (w : World) :
    Calls Try.prog 19 #[.int .i64 g, .int .i64 t, .int .i64 f] w fun r w' => r = .returned (rv (nb g t f)) ∧ Below w.heap.size w w' := by
  unfold rv nb
  go_enter Try.func19, Try.ntmps19
  go_wp2_with fail
  exact bodyPost_ret (results_r1 Try.results19 _ _ _ _ rfl (loadVar_r (heap_new _ _) rfl)) rfl ⟨rfl, below_alloc _ _⟩
theorem ist_any (n : Int) (w : World) : Calls Try.prog 25 #[.int .i64 n] w fun r w' => r = .returned (.bool (isT n)) ∧ w' = w := by
  unfold isT
  cases h1 : decide (0 ≤ n) <;> cases h2 : decide (n < 256) <;>
  · go_enter Try.func25, Try.ntmps25
    go_wp2_with fail
    go_ret
    exact ⟨rfl, rfl⟩
theorem isp_any (n : Int) (w : World) : Calls Try.prog 26 #[.int .i64 n] w fun r w' => r = .returned (.bool (!decide (n < -1))) ∧ w' = w := by
  have e : (!decide (n < -1)) = decide (-1 ≤ n) := by
    by_cases h : n < -1
    · simp [h]
    · rw [decide_eq_false h, decide_eq_true (show -1 ≤ n by omega)]; rfl
  rw [e]
  go_enter Try.func26, Try.ntmps26
  go_wp2_with fail
  go_ret
  exact ⟨rfl, rfl⟩
theorem nan_any (x : Int) (w : World) : Calls Try.prog 37 #[.int .i64 x] w fun r w' => r = .returned (.bool false) ∧ w' = w := by
  go_enter Try.func37, Try.ntmps37
  go_wp2_with fail
  go_ret
  exact ⟨by simp, rfl⟩
/-- less, equal, more -/
def cmpI (x y : Int) : Int := if x < y then -1 else if y < x then 1 else 0
theorem cmp_any (x y : Int) (w : World) : Calls Try.prog 32 #[.int .i64 x, .int .i64 y] w fun r w' => r = .returned (.int .i64 (cmpI x y)) ∧ w' = w := by
  by_cases h1 : x < y
  · have e : Hid (cmpI x y = -1) := by show cmpI x y = -1; simp [cmpI, h1]
    go_enter Try.func32, Try.ntmps32
    go_wp2_with (go_at_call 37; refine (nan_any _ _).mono ?_; rintro r w' ⟨rfl, rfl⟩)
    go_ret
    exact ⟨ret_int e.out.symm, rfl⟩
  by_cases h2 : y < x
  · have e : Hid (cmpI x y = 1) := by show cmpI x y = 1; simp [cmpI, h1, h2]
    go_enter Try.func32, Try.ntmps32
    go_wp2_with (go_at_call 37; refine (nan_any _ _).mono ?_; rintro r w' ⟨rfl, rfl⟩)
    go_ret
    exact ⟨ret_int e.out.symm, rfl⟩
  · have e : Hid (cmpI x y = 0) := by show cmpI x y = 0; simp [cmpI, h1, h2]
    go_enter Try.func32, Try.ntmps32
    go_wp2_with (go_at_call 37; refine (nan_any _ _).mono ?_; rintro r w' ⟨rfl, rfl⟩)
    go_ret
    exact ⟨ret_int e.out.symm, rfl⟩
theorem cmp_lt {x y : Int} : cmpI x y < 0 ↔ x < y := by unfold cmpI; split <;> (try split) <;> omega
theorem cmp_eq {x y : Int} : cmpI x y = 0 ↔ x = y := by unfold cmpI; split <;> (try split) <;> omega
theorem fd1_any (x : Rd) (g : Int) (w : World) :
    Calls Try.prog 31 #[rv x, .int .i64 g] w fun r w' => r = .returned (.int .i64 (cmpI x.g g)) ∧ Below w.heap.size w w' := by
  obtain ⟨a, b, c, d, e, f⟩ := x
  unfold rv
  simp only
  go_enter Try.func31, Try.ntmps31
  go_wp2_with fail
  refine (cmp_any _ _ _).mono ?_
  rintro r w1 ⟨rfl, e1⟩
  obtain rfl := e1.symm
  go_wp2_with fail
  go_ret
  exact ⟨rfl, below_alloc _ _⟩
set_option maxHeartbeats 1600000 in
theorem lives_any (x : Rd) (w : World) :
    Calls Try.prog 29 #[rv x] w fun r w' => r = .returned (.bool (lv x)) ∧ Below w.heap.size w w' := by
  have EQ := fun u => eqR x (nb x.g x.t x.f) u
  rw [rdb_lv] at EQ
  generalize lv x = z at EQ ⊢
  have NW := hide fun u => newborn_any x.g x.t x.f u
  generalize nb x.g x.t x.f = y at EQ NW
  obtain ⟨a, b, c, d, e, f⟩ := x
  obtain ⟨a', b', c', d', e', f'⟩ := y
  unfold rv at EQ NW ⊢
  simp only at EQ NW ⊢
  have BL := hide (below_alloc w (.cells #[.int .i64 a, .int .i64 b, .int .i64 c, .bool d, .int .i64 e, .int .i64 f] 32))
  have BZ := hide BL.out.size
  have HN := hide (heap_new w (.cells #[.int .i64 a, .int .i64 b, .int .i64 c, .bool d, .int .i64 e, .int .i64 f] 32))
  go_enter Try.func29, Try.ntmps29
  go_wp2_with fail
  generalize w.alloc (.cells #[.int .i64 a, .int .i64 b, .int .i64 c, .bool d, .int .i64 e, .int .i64 f] 32) = W at *
  generalize hX : w.heap.size = X at *
  have HX := hide hX
  clear hX
  have q0 : W.cell? ⟨X, 0, none⟩ = some (.int .i64 a) := cell_of HN.out 0
  have q1 : W.cell? ⟨X, 1, none⟩ = some (.int .i64 b) := cell_of HN.out 1
  have q2 : W.cell? ⟨X, 2, none⟩ = some (.int .i64 c) := cell_of HN.out 2
  have q3 : W.cell? ⟨X, 3, none⟩ = some (.bool d) := cell_of HN.out 3
  have q4 : W.cell? ⟨X, 4, none⟩ = some (.int .i64 e) := cell_of HN.out 4
  have q5 : W.cell? ⟨X, 5, none⟩ = some (.int .i64 f) := cell_of HN.out 5
  go_region_held3 (fun w' => w'.cell? ⟨X, 0, none⟩ = some (.int .i64 a) ∧ w'.cell? ⟨X, 1, none⟩ = some (.int .i64 b) ∧ w'.cell? ⟨X, 2, none⟩ = some (.int .i64 c) ∧ w'.cell? ⟨X, 3, none⟩ = some (.bool d) ∧ w'.cell? ⟨X, 4, none⟩ = some (.int .i64 e) ∧ w'.cell? ⟨X, 5, none⟩ = some (.int .i64 f))
    (first | go_keep | (go_split_ands; refine ⟨?_, ?_, ?_, ?_, ?_, ?_⟩ <;> (refine cellB ?_ c1; assumption)))
    ((go_at_call 19; refine (NW.out _).mono ?_; rintro r v1 ⟨rfl, c1⟩))
  go_wp2_with fail
  go_ret
  exact ⟨rfl, by rw [HX.out]; exact BL.out.trans (((bdrew1 _).mono BZ.out).trans (c1.mono BZ.out))⟩
set_option maxHeartbeats 1600000 in
theorem stays_any (x : Rd) (n : Int) (w : World) :
    Calls Try.prog 24 #[rv x, .int .i64 n] w fun r w' => r = .returned (.bool (st x n)) ∧ Below w.heap.size w w' := by
  unfold st
  have LI := hide fun u => lives_any x u
  generalize lv x = z at LI ⊢
  obtain ⟨a, b, c, d, e, f⟩ := x
  unfold rv at LI ⊢
  simp only at LI ⊢
  have BL := hide (below_alloc w (.cells #[.int .i64 a, .int .i64 b, .int .i64 c, .bool d, .int .i64 e, .int .i64 f] 32))
  have HN := hide (heap_new w (.cells #[.int .i64 a, .int .i64 b, .int .i64 c, .bool d, .int .i64 e, .int .i64 f] 32))
  cases z <;>
  · go_enter Try.func24, Try.ntmps24
    go_wp2_with fail
    refine (LI.out _).mono ?_
    rintro r w1 ⟨rfl, b1⟩
    have q4 : w1.cell? ⟨w.heap.size, 4, none⟩ = some (.int .i64 e) := cell_of (heap_below HN.out b1) 4
    have B1 := hide (btr BL.out b1)
    clear b1
    go_wp2_with fail
    go_ret
    exact ⟨rfl, B1.out⟩
set_option maxHeartbeats 1600000 in
theorem tk1_any (x : Rd) (t n : Int) (p q : Nat) (w : World) (hp : w.cell? ⟨p, 0, none⟩ = some (.int .i64 t)) (hq : w.cell? ⟨q, 0, none⟩ = some (.int .i64 n)) :
    Calls Try.prog 34 #[rv x, .pointer (some ⟨p, 0, none⟩), .pointer (some ⟨q, 0, none⟩)] w fun r w' => r = .returned (.bool (x.t == t && st x n)) ∧ Below w.heap.size w w' := by
  have SI := hide fun u => stays_any x n u
  generalize st x n = z at SI ⊢
  obtain ⟨a, b, c, d, e, f⟩ := x
  unfold rv at SI ⊢
  simp only at SI ⊢
  have BL := hide (below_alloc w (.cells #[.int .i64 a, .int .i64 b, .int .i64 c, .bool d, .int .i64 e, .int .i64 f] 32))
  have hp1 := cellB hp BL.out
  have hq1 := cellB hq BL.out
  cases hb : (b == t)
  · go_enter Try.func34, Try.ntmps34
    go_wp2_with fail
    go_ret
    exact ⟨rfl, BL.out⟩
  · go_enter Try.func34, Try.ntmps34
    go_wp2_with fail
    refine (SI.out _).mono ?_
    rintro r w1 ⟨rfl, b1⟩
    have B1 := hide (btr BL.out b1)
    clear b1
    go_wp2_with fail
    go_ret
    exact ⟨rfl, B1.out⟩
end Rk
end Go.Proofs.Ytledfepeoajgoaa
