/- Events, compared, over this seat's program. -/
import Derived.Test.YtkcbokhkmcmpdaaGreatZjLoom10
import Derived.Test.YtkcbokhkmcmpdaaGreatLv
import Derived.Laws.StructEq
import Derived.ChangeKeysEq
namespace Go.Proofs.YtkcbokhkmcmpdaaGreat
open Go.ChangeShapes Go.WideShapes Go.ChangeAt Go.RowKit
namespace Lo
open Ba En

def evb (a b : En.Ev) : Bool := a.k == b.k && (a.g == b.g && (a.c == b.c && (a.a == b.a && (a.v == b.v && (a.m == b.m && (a.s == b.s && a.o == b.o))))))
theorem evb_iff (a b : En.Ev) : evb a b = true ↔ a = b := by
  obtain ⟨k, g, c, x, v, m, s, o⟩ := a
  obtain ⟨k', g', c', x', v', m', s', o'⟩ := b
  simp [evb]
theorem evb_self (a : En.Ev) : evb a a = true := (evb_iff a a).2 rfl
set_option maxHeartbeats 1600000 in
theorem eqE (a b : En.Ev) (w : World) : (Op.equalIn 10000 66 (evv a) (evv b)).run Tryz.prog w = .ok (evb a b) w := by
  obtain ⟨k, g, c, x, v, m, s, o⟩ := a
  obtain ⟨k', g', c', x', v', m', s', o'⟩ := b
  unfold evv evc evb
  simp only
  cases h0 : (k == k')
  · simp [go_sem, h0]
  cases h1 : (g == g')
  · simp [go_sem, h0, h1]
  cases h2 : (c == c')
  · simp [go_sem, h0, h1, h2]
  cases h3 : (x == x')
  · simp [go_sem, h0, h1, h2, h3]
  cases h4 : (v == v')
  · simp [go_sem, h0, h1, h2, h3, h4]
  cases h5 : (m == m')
  · simp [go_sem, h0, h1, h2, h3, h4, h5]
  cases h6 : (s == s')
  · simp [go_sem, h0, h1, h2, h3, h4, h5, h6]
  cases h7 : (o == o')
  · simp [go_sem, h0, h1, h2, h3, h4, h5, h6, h7]
  · simp [go_sem, h0, h1, h2, h3, h4, h5, h6, h7]
set_option maxRecDepth 100000 in
set_option maxHeartbeats 3200000 in
theorem events_same (oa ob : Option Addr) (l : List En.Ev) (c d : Nat) (w : World) (hA : Lo.EsAt w oa l) (hB : Lo.EsAt w ob l) (hl : l.length ≤ 1000000) :
    Calls Tryz.prog 13 #[.slice oa l.length c, .slice ob l.length d] w fun r w' => r = .returned (.bool true) ∧ Below w.heap.size w w' := by
  have HA := hide hA
  have HB := hide hB
  clear hA hB
  go_enter Tryz.func13, Tryz.ntmps13
  go_wp2_with fail
  go_loopw [8] (fun i wr => ∃ k : Nat, k ≤ l.length ∧ i = .int .i64 k ∧ Below w.heap.size w wr) (fun i _ => l.length - (intOf i).toNat)
  case atStart => exact ⟨0, Nat.zero_le _, rfl, Below.refl _ _⟩
  case round =>
    obtain ⟨k, hk, rfl, hb⟩ := hrel
    have HBB := hide hb
    clear hb
    by_cases hlt : k < l.length
    · have hlt' : (k : Int) < (l.length : Int) := by omega
      have hg : decide ((l.length : Int) ≤ (k : Int)) = false := by simp; omega
      have hgn : decide (l.length ≤ k) = false := by simp; omega
      obtain ⟨x, hx⟩ : ∃ x, l[k]? = some x := ⟨_, List.getElem?_eq_getElem hlt⟩
      obtain ⟨b1, o1, rfl, _⟩ := HA.out k x hx
      obtain ⟨b2, o2, rfl, _⟩ := HB.out k x hx
      obtain ⟨p0, p1, p2, p3, p4, p5, p6, p7⟩ := (HA.out.below HBB.out).read hx
      obtain ⟨q0, q1, q2, q3, q4, q5, q6, q7⟩ := (HB.out.below HBB.out).read hx
      have ee := fun u => eqE x x u
      rw [evb_self] at ee
      unfold evv evc at ee
      clear hx
      go_wp2_with fail
      go_region_held3 (fun w' => w'.cell? ⟨b1, o1 + k * 8, none⟩ = some (.int .i64 x.k) ∧ w'.cell? ⟨b1, o1 + k * 8 + 1, none⟩ = some (.int .i64 x.g) ∧ w'.cell? ⟨b1, o1 + k * 8 + 2, none⟩ = some (.int .i64 x.c) ∧ w'.cell? ⟨b1, o1 + k * 8 + 3, none⟩ = some (.int .i64 x.a) ∧ w'.cell? ⟨b1, o1 + k * 8 + 4, none⟩ = some (.int .i64 x.v) ∧ w'.cell? ⟨b1, o1 + k * 8 + 5, none⟩ = some (.int .i64 x.m) ∧ w'.cell? ⟨b1, o1 + k * 8 + 6, none⟩ = some (.bool x.s) ∧ w'.cell? ⟨b1, o1 + k * 8 + 7, none⟩ = some (.bool x.o) ∧ w'.cell? ⟨b2, o2 + k * 8, none⟩ = some (.int .i64 x.k) ∧ w'.cell? ⟨b2, o2 + k * 8 + 1, none⟩ = some (.int .i64 x.g) ∧ w'.cell? ⟨b2, o2 + k * 8 + 2, none⟩ = some (.int .i64 x.c) ∧ w'.cell? ⟨b2, o2 + k * 8 + 3, none⟩ = some (.int .i64 x.a) ∧ w'.cell? ⟨b2, o2 + k * 8 + 4, none⟩ = some (.int .i64 x.v) ∧ w'.cell? ⟨b2, o2 + k * 8 + 5, none⟩ = some (.int .i64 x.m) ∧ w'.cell? ⟨b2, o2 + k * 8 + 6, none⟩ = some (.bool x.s) ∧ w'.cell? ⟨b2, o2 + k * 8 + 7, none⟩ = some (.bool x.o))
        (first
          | with_reducible assumption
          | go_keep)
        (fail)
      go_wp2_with fail
      go_roundw
      case rel => exact ⟨k + 1, by omega, by go_num, btr HBB.out (bdrew1 _)⟩
      case measure => simp [intOf]; omega
    · have hlt' : ¬ ((k : Int) < (l.length : Int)) := by omega
      go_wp2_with fail
      go_ret
      exact ⟨ret_bool (by simp), HBB.out⟩
end Lo
end Go.Proofs.YtkcbokhkmcmpdaaGreat
