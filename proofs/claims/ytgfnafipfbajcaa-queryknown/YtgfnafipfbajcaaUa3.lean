/- Package remap, over this seat's program: newborn, lives, stays, isTid, isPlace, find's and taken's functions. -/
import Derived.Test.YtgfnafipfbajcaaUa2
import Derived.Deep.RegionHeld3
namespace Go.Proofs.Ytgfnafipfbajcaa
open Go.ChangeShapes Go.WideShapes Go.ChangeAt Go.RowKit
namespace Rk
open Ba

def rdb (a b : Rd) : Bool := a.g == b.g && (a.t == b.t && (a.f == b.f && (a.b == b.b && (a.l == b.l && a.c == b.c))))
theorem rdb_iff (a b : Rd) : rdb a b = true ↔ a = b := by
  obtain ⟨a0, a1, a2, a3, a4, a5⟩ := a
  obtain ⟨b0, b1, b2, b3, b4, b5⟩ := b
  simp [rdb]
theorem rdb_self (a : Rd) : rdb a a = true := (rdb_iff a a).2 rfl
theorem rdb_lv (x : Rd) : rdb x (nb x.g x.t x.f) = lv x := by
  unfold rdb nb lv
  cases x.b <;> simp
set_option maxHeartbeats 1600000 in
theorem eqR (a b : Rd) (w : World) : (Op.equalIn 10000 45 (rv a) (rv b)).run Try.prog w = .ok (rdb a b) w := by
  obtain ⟨k, g, c, x, v, m⟩ := a
  obtain ⟨k', g', c', x', v', m'⟩ := b
  unfold rv rdb
  simp only
  cases h0 : (k == k')
  · simp [go_sem, h0]
  cases h1 : (g == g')
  · simp [go_sem, h0, h1]
  cases h2 : (c == c')
  · simp [go_sem, h0, h1, h2]
  cases h3 : (x == x')
  · simp [go_sem, h0, h1, h2, h3]
  cases h4 : (v == v')
  · simp [go_sem, h0, h1, h2, h3, h4]
  cases h5 : (m == m')
  · simp [go_sem, h0, h1, h2, h3, h4, h5]
  · simp [go_sem, h0, h1, h2, h3, h4, h5]
theorem info_r : (Try.prog.info? 45).map (fun i => (i.zero, i.size, i.bytes)) = some (some (rv zr), 6, 48) := by kernel_rfl
theorem size_r : (Try.prog.info? 45).map (·.size) = some 6 := by kernel_rfl
theorem loadVar_r {w : World} {b : Nat} {c : Array Value} {t : TypeId} (h : w.heap[b]? = some (.cells c t (0, 0))) (hc : c.size = 6) : (loadVar 45 ⟨b, 0, none⟩).run Try.prog w = .ok (.agg c) w :=
  run_loadVar_row w b t _ _ _ _ h Try.underlying45 rfl (by rw [size_r, hc])
theorem results_r1 {fn : Func} {p : Tmp} {ty : TypeId} (h : fn.results = #[.cell p ty]) (tmps : Array Value) (w : World) (g : Nat) (cs : Array Value)
    (hp : tmps.getD p undef = .pointer (some ⟨g, 0, none⟩)) (hl : (loadVar ty ⟨g, 0, none⟩).run Try.prog w = .ok (.agg cs) w) :
    (results fn tmps).run Try.prog w = .ok (.agg cs) w := by
  have hp' : tmps[p]?.getD undef = .pointer (some ⟨g, 0, none⟩) := by simpa using hp
  simp [results, h, hp', asAddr, hl]
/-- less, equal, more -/
def cmpI (x y : Int) : Int := if x < y then -1 else if y < x then 1 else 0
theorem cmp_lt {x y : Int} : cmpI x y < 0 ↔ x < y := by unfold cmpI; split <;> (try split) <;> omega
theorem cmp_eq {x y : Int} : cmpI x y = 0 ↔ x = y := by unfold cmpI; split <;> (try split) <;> omega
end Rk
end Go.Proofs.Ytgfnafipfbajcaa
