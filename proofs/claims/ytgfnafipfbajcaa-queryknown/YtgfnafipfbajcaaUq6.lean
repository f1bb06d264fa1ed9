/- Of one goroutine's events the earlier are known, if the later are (plain); Before, whatever places. -/
import Derived.Test.YtgfnafipfbajcaaUq5
namespace Go.Proofs.Ytgfnafipfbajcaa
open Go.ChangeShapes Go.WideShapes Go.ChangeAt Go.RowKit
namespace Qu
open Ba Rk
open Ep (tidOf clkOf ownB)

theorem ask_some {rs : List Rd} {x : Ex} {y : Sx} (h : (ask rs x y).isSome = true) : ask rs x y = fd rs x.g ∧ ownB y.e = true := by
  unfold ask at h ⊢
  split at h
  · cases h
  · rename_i q
    split at h
    · rename_i p
      exact ⟨by rw [if_neg q, if_pos p], p⟩
    · cases h
theorem earlier {rs : List Rd} {a b c : Nat} {xa xc z : Ex} {ya yc u : Sx} (h1 : befE rs xa z ya u = 0) (h2 : befB rs a b xa z ya u = true) (hc : c < a) (hg : xc.g = xa.g) (hk : clkOf yc.e ≤ clkOf ya.e) (h3 : befE rs xc z yc u = 0) : befB rs c b xc z yc u = true := by
  unfold befE at h1 h3
  have s1 : (ask rs xa ya).isSome = true ∧ (ask rs z u).isSome = true := by
    split at h1
    · rename_i q; simpa using q
    · cases h1
  have s3 : (ask rs xc yc).isSome = true := by
    split at h3
    · rename_i q; rw [Bool.and_eq_true] at q; exact q.1
    · cases h3
  obtain ⟨e1, -⟩ := ask_some s1.1
  obtain ⟨e3, o3⟩ := ask_some s3
  have e : ask rs xc yc = ask rs xa ya := by rw [e1, e3, hg]
  unfold befB at h2 ⊢
  rw [e]
  cases hr : ask rs xa ya with
  | none => rw [hr] at s1; cases s1.1
  | some r =>
    rw [hr] at h2
    simp only [s1.2, if_true] at h2 ⊢
    rw [hg]
    split
    · rename_i q
      rw [if_pos q] at h2
      simp at h2 ⊢
      omega
    · rename_i q
      rw [if_neg q] at h2
      have o := Ep.own_bd _ o3
      rw [Ep.clk_own _ o3] at hk ⊢
      simp at h2 ⊢
      omega
/-- Before's answer, whatever the places -/
def bfB (x : Lx) (a b : Int) : Bool := if hsE x.es.length x.ss.length a && hsE x.es.length x.ss.length b then
    (match x.es[a.toNat]?, x.es[b.toNat]?, x.ss[a.toNat]?, x.ss[b.toNat]? with
      | some p, some q, some y, some u => befB x.rs a.toNat b.toNat p q y u
      | _, _, _, _ => false)
  else false
def bfE (x : Lx) (a b : Int) : Int := if hsE x.es.length x.ss.length a && hsE x.es.length x.ss.length b then
    (match x.es[a.toNat]?, x.es[b.toNat]?, x.ss[a.toNat]?, x.ss[b.toNat]? with
      | some p, some q, some y, some u => befE x.rs p q y u
      | _, _, _, _ => 0)
  else 1
theorem hs_yes {le ls : Nat} {a : Int} (h : hsE le ls a = true) : ls = le ∧ ∃ k : Nat, a = (k : Int) ∧ k < le := by
  unfold hsE at h
  simp at h
  exact ⟨by omega, a.toNat, by omega, by omega⟩
theorem before_any (x : Lx) (a b : Int) (w : World) (h : LG w x.oe x.os x.od x.es x.ss x.rs) (hl : x.rs.length ≤ 500) :
    Calls Try.prog 8 #[lv_ x, .int .i64 a, .int .i64 b] w fun r w' => r = .returned (.tuple #[.bool (bfB x a b), .int .i64 (bfE x a b)]) ∧ Below w.heap.size w w' := by
  unfold bfB bfE lv_
  cases hq : (hsE x.es.length x.ss.length a && hsE x.es.length x.ss.length b) with
  | false =>
    simp only [Bool.false_eq_true, if_false]
    exact before_arg x.oe x.os x.od _ _ _ _ _ _ a b w hq
  | true =>
    rw [Bool.and_eq_true] at hq
    obtain ⟨e, ka, rfl, ha⟩ := hs_yes hq.1
    obtain ⟨-, kb, rfl, hb⟩ := hs_yes hq.2
    simp only [if_true, Int.toNat_natCast]
    have p1 : x.es[ka]? = some x.es[ka] := List.getElem?_eq_getElem ha
    have p2 : x.es[kb]? = some x.es[kb] := List.getElem?_eq_getElem hb
    have p3 : x.ss[ka]? = some (x.ss[ka]'(by omega)) := List.getElem?_eq_getElem (by omega)
    have p4 : x.ss[kb]? = some (x.ss[kb]'(by omega)) := List.getElem?_eq_getElem (by omega)
    rw [p1, p2, p3, p4]
    exact before_in x.oe x.os x.od x.ce x.cs x.cd x.es x.ss x.rs ka kb _ _ _ _ w h e p1 p3 p2 p4 (by omega)
theorem earlier_x (x : Lx) {a c : Nat} {b : Int} {xa xc : Ex} {ya yc : Sx} (ha : x.es[a]? = some xa) (hc : x.es[c]? = some xc) (hya : x.ss[a]? = some ya) (hyc : x.ss[c]? = some yc) (h1 : bfE x a b = 0) (h2 : bfB x a b = true) (hlt : c < a) (hg : xc.g = xa.g) (hk : clkOf yc.e ≤ clkOf ya.e) : bfE x c b = 0 → bfB x c b = true := by
  unfold bfB bfE at *
  intro h3
  split at h1
  · rename_i q
    rw [if_pos q] at h2
    rw [Bool.and_eq_true] at q
    obtain ⟨e, ka, e1, h5⟩ := hs_yes q.1
    obtain ⟨-, kb, rfl, hb⟩ := hs_yes q.2
    have hcs : hsE x.es.length x.ss.length (c : Int) = true := by rw [e]; exact hs_in (by omega)
    rw [hcs, q.2] at h3 ⊢
    have p2 : x.es[kb]? = some x.es[kb] := List.getElem?_eq_getElem hb
    have p4 : x.ss[kb]? = some (x.ss[kb]'(by omega)) := List.getElem?_eq_getElem (by omega)
    simp only [Int.toNat_natCast, ha, hc, hya, hyc, p2, p4, Bool.and_self, if_true] at h1 h2 h3 ⊢
    exact earlier h1 h2 hlt hg hk h3
  · cases h1
theorem bf_len (x : Lx) {a b : Int} (h : bfE x a b = 0) : x.ss.length = x.es.length := by
  unfold bfE at h
  split at h
  · rename_i q
    rw [Bool.and_eq_true] at q
    exact (hs_yes q.1).1
  · cases h
end Qu
end Go.Proofs.Ytgfnafipfbajcaa
