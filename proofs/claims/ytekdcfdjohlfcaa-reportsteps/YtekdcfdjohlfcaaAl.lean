/- Layer 18's laws, over this seat's program: two bools as an argument; what becomes of an access whose tid is retired (plain). -/
import Derived.Test.YtekdcfdjohlfcaaAk
import Derived.Test.YtekdcfdjohlfcaaAj
namespace Go.Proofs.Ytekdcfdjohlfcaa
open Go.ChangeShapes Go.WideShapes Go.ChangeAt Go.RowKit
namespace Ce
open Ck
open Ba (KF Bd Nw hide)
open Ep (tidOf clkOf ownB)

theorem cells_bo : Try.prog.cellsOf 4 = 1 := by kernel_rfl
/-- an epoch of a tid and a clock -/
theorem pk_own {t c : Int} (h0 : 0 ≤ t) (h1 : t < 256) (h2 : 1 ≤ c) (h3 : c ≤ 1048576) : ownB ((t + 1) * 4294967296 + c) = true ∧ tidOf ((t + 1) * 4294967296 + c) = t ∧ clkOf ((t + 1) * 4294967296 + c) = c := by
  have e1 : ((t + 1) * 4294967296 + c) / 4294967296 = t + 1 := by omega
  have e2 : ((t + 1) * 4294967296 + c) % 4294967296 = c := by omega
  have ho : ownB ((t + 1) * 4294967296 + c) = true := by
    unfold Ep.ownB
    rw [e1, e2]
    simp; omega
  refine ⟨ho, ?_, ?_⟩
  · rw [Ep.tid_own _ ho, e1]; omega
  · rw [Ep.clk_own _ ho, e2]
theorem own_ne0 {e : Int} (h : ownB e = true) : (e == 0) = false := by
  have := Ep.own_bd e h
  rw [beq_eq_false_iff_ne]
  omega
theorem own_neT {e : Int} (h : ownB e = true) : (e == 18446744073709551615) = false := by
  have := Ep.own_bd e h
  rw [beq_eq_false_iff_ne]
  omega
theorem seen_own {e c : Int} (h : ownB e = true) : seenB e c = decide (clkOf e ≤ c) := by
  have h1 : 1 ≤ clkOf e := by rw [Ep.clk_own e h]; exact (Ep.own_bd e h).2.2.1
  simp [seenB, own_ne0 h, h1]
theorem tid0 : tidOf 0 = -1 := by decide
theorem tidT : tidOf 18446744073709551615 = -1 := by decide
theorem rd_first (e : Int) : rdS ⟨0, [], false⟩ e [] = ⟨0, [e], false⟩ := by simp [rdS, kept, pos, insL]
theorem rem_own {e cut : Int} (h : ownB e = true) : remE e cut = if clkOf e ≤ cut then 0 else 18446744073709551615 := by
  unfold remE
  rw [seen_own h]
  by_cases q : clkOf e ≤ cut <;> simp [q]
theorem ret_w {e cut : Int} (h : ownB e = true) (ht : tidOf e = 2) : retS (wrS e) 2 cut = ⟨if clkOf e ≤ cut then 0 else 18446744073709551615, [], false⟩ := by
  unfold retS
  have g1 : retL (wrS e) 2 cut = if clkOf e ≤ cut then 0 else 18446744073709551615 := by simp only [retL, wrS, ht]; simpa using rem_own h
  have g2 : retD (wrS e) 2 = [] := by simp [retD, wrS, has]
  have g3 : retT (wrS e) 2 cut = false := by simp [retT, wrS, has]
  rw [g1, g2, g3]
theorem ret_r {e cut : Int} (h : ownB e = true) (ht : tidOf e = 2) : retS ⟨0, [e], false⟩ 2 cut = ⟨0, [], !decide (clkOf e ≤ cut)⟩ := by
  unfold retS
  have g1 : retL ⟨0, [e], false⟩ 2 cut = 0 := by simp [retL, tid0]
  have gh : has [e] 2 = true := by simp [has, ht]
  have gp : pos [e] 2 = 0 := by simp [pos, ht]
  have g2 : retD ⟨0, [e], false⟩ 2 = [] := by simp [retD, gh, gp, outL]
  have g3 : retT ⟨0, [e], false⟩ 2 cut = !decide (clkOf e ≤ cut) := by
    simp only [retT, gh, gp, nth_cons_zero, rem_own h]
    by_cases q : clkOf e ≤ cut <;> simp [q]
  rw [g1, g2, g3]
theorem kn_0 (t : Int) (l : List Int) : kn t l 0 = true := by simp [kn, seenB]
theorem kn_T (t : Int) (l : List Int) (h : 0 ≤ t) : kn t l 18446744073709551615 = false := by
  have hc : clkOf 18446744073709551615 = 0 := by decide
  simp [kn, seenB, tidT, hc]; omega
theorem last_w (q : Bool) (t : Bool) (l : List Int) (hl : q = false → t = false) : wrR ⟨if q = true then 0 else 18446744073709551615, [], t⟩ 8589934597 l = if q = true then (if t = true then 2 else 0) else 1 := by
  have ht : tidOf 8589934597 = 1 := by decide
  cases q
  · simp [wrR, ht, kn_T]
  · simp [wrR, kn_0]
theorem last_r (q : Bool) (t : Bool) (l : List Int) : rdR ⟨if q = true then 0 else 18446744073709551615, [], t⟩ 8589934597 l = if q = true then 0 else 1 := by
  have ht : tidOf 8589934597 = 1 := by decide
  cases q
  · simp [rdR, ht, kn_T]
  · simp [rdR, kn_0]
end Ce
end Go.Proofs.Ytekdcfdjohlfcaa
