/- Layer 18, plain: a cell and the reference's cell tell the same. -/
import Derived.Test.YtekdcfdjohlfcaaAk
import Derived.Test.YtekdcfdjohlfcaaAl
import Derived.Test.YtekdcfdjohlfcaaAp
namespace Go.Proofs.Ytekdcfdjohlfcaa
open Go.ChangeShapes Go.WideShapes Go.ChangeAt Go.RowKit
namespace Ce
open Ck
open Ep (tidOf clkOf ownB)

/-- an epoch and an access are the same -/
def AcOf (e : Int) (a : Ac) : Prop := (e = 0 ∧ a.no = true ∧ a.tl = false) ∨ (e = 18446744073709551615 ∧ a.no = false ∧ a.tl = true) ∨ (ownB e = true ∧ a.no = false ∧ a.tl = false ∧ a.tid = tidOf e ∧ a.n = clkOf e)
structure Eqc (st : Cst) (a : Ac) (F : Nat → Int) (tl : Bool) : Prop where
  la : AcOf st.last a
  rd : ∀ e ∈ st.rd, F (tidOf e).toNat = clkOf e
  dr : ∀ k, k < 256 → F k ≠ 0 → ∃ e ∈ st.rd, tidOf e = (k : Int)
  tl : tl = st.tl
theorem own_tid {e : Int} (h : ownB e = true) : 0 ≤ tidOf e ∧ tidOf e < 256 := by
  rw [Ep.tid_own e h]
  have := Ep.own_bd e h
  omega
theorem own_clk {e : Int} (h : ownB e = true) : 1 ≤ clkOf e ∧ clkOf e ≤ 1048576 := by
  rw [Ep.clk_own e h]
  have := Ep.own_bd e h
  omega
/-- the clocks say the same -/
def Cl (l : List Int) (G : Nat → Int) : Prop := ∀ k, k < 256 → G k = nth l k
theorem gt_rg {l : List Int} {G : Nat → Int} (h : Cl l G) {t : Int} (h0 : 0 ≤ t) (h1 : t < 256) : gt l t = rg G t := by
  obtain ⟨k, rfl⟩ := Int.eq_ofNat_of_zero_le h0
  rw [gt_nat, rg_nat G k (by omega), h k (by omega)]
theorem kn_rkn {l : List Int} {G : Nat → Int} (h : Cl l G) {e : Int} {a : Ac} (ha : AcOf e a) {own : Int} (ho : 0 ≤ own) : kn own l e = rkn a own G := by
  obtain ⟨t, n, no, tl⟩ := a
  rcases ha with ⟨rfl, h1, h2⟩ | ⟨rfl, h1, h2⟩ | ⟨h0, h1, h2, h3, h4⟩
  · rw [kn_0]; simp only at h1; subst h1; rfl
  · rw [kn_T own l ho]; simp only at h1 h2; subst h1 h2; rfl
  · simp only at h1 h2 h3 h4
    subst h1 h2 h3 h4
    unfold kn rkn
    rw [seen_own h0, gt_rg h (own_tid h0).1 (own_tid h0).2]
    rfl
/-- an epoch of a read -/
def acR (e : Int) : Ac := ⟨tidOf e, clkOf e, false, false⟩
theorem acR_of {e : Int} (h : ownB e = true) : AcOf e (acR e) := .inr (.inr ⟨h, rfl, rfl, rfl, rfl⟩)
theorem acR_k {st : Cst} {a : Ac} {F : Nat → Int} {tl : Bool} (q : Eqc st a F tl) (g : Gd st) {e : Int} (he : e ∈ st.rd) : (⟨((tidOf e).toNat : Int), F (tidOf e).toNat, false, false⟩ : Ac) = acR e := by
  have ho := g.ro e he
  have ht := own_tid ho
  unfold acR
  rw [q.rd e he]
  congr 1
  omega
theorem read_same {st : Cst} {a : Ac} {F : Nat → Int} {tl : Bool} (q : Eqc st a F tl) {l : List Int} {G : Nat → Int} (hc : Cl l G) {e : Int} (ho : ownB e = true) : rdR st e l = rrR a (tidOf e) G := by
  unfold rdR rrR
  rw [kn_rkn hc q.la (own_tid ho).1]
theorem Eqc.read {st : Cst} {a : Ac} {F : Nat → Int} {tl : Bool} (q : Eqc st a F tl) (g : Gd st) {l : List Int} {G : Nat → Int} (hc : Cl l G) {e : Int} (ho : ownB e = true) : Eqc (rdS st e l) a (upF (ff F (tidOf e) G 256) (tidOf e).toNat (clkOf e)) tl := by
  have hte := own_tid ho
  refine ⟨q.la, fun x hx => ?_, fun k hk hF => ?_, q.tl⟩
  · rcases mem_ins.1 hx with r | r
    · rw [r]; simp [upF]
    · have hm := (List.mem_filter.1 r)
      have hox := g.ro x hm.1
      have htx := own_tid hox
      have hne : tidOf x ≠ tidOf e := kept_ne r
      have hnk : kn (tidOf e) l x = false := by simpa using hm.2
      unfold upF
      rw [if_neg (by omega)]
      unfold ff
      rw [acR_k q g hm.1, if_neg, q.rd x hm.1]
      rintro ⟨-, -, hr⟩
      rw [← kn_rkn hc (acR_of hox) hte.1, hnk] at hr
      cases hr
  · by_cases hk2 : k = (tidOf e).toNat
    · exact ⟨e, mem_ins.2 (.inl rfl), by omega⟩
    · have hF2 : ff F (tidOf e) G 256 k ≠ 0 := by simpa [upF, hk2] using hF
      have hF3 : F k ≠ 0 := fun e0 => hF2 (by unfold ff; split <;> first | rfl | exact e0)
      obtain ⟨x, hx, hxt⟩ := q.dr k hk hF3
      refine ⟨x, mem_ins.2 (.inr ?_), hxt⟩
      refine List.mem_filter.2 ⟨hx, ?_⟩
      have hox := g.ro x hx
      have hkx : (tidOf x).toNat = k := by omega
      have hpos : 0 < F k := by
        have := q.rd x hx
        rw [hkx] at this
        have := own_clk hox
        omega
      have hr : rkn ⟨(k : Int), F k, false, false⟩ (tidOf e) G = false := by
        cases hh : rkn ⟨(k : Int), F k, false, false⟩ (tidOf e) G with
        | false => rfl
        | true => exact absurd (by unfold ff; rw [if_pos ⟨hk, hpos, hh⟩]) hF2
      have ea := acR_k q g hx
      rw [hkx] at ea
      rw [ea, ← kn_rkn hc (acR_of hox) hte.1] at hr
      simp [hr]
theorem unk_any {st : Cst} {a : Ac} {F : Nat → Int} {tl : Bool} (q : Eqc st a F tl) (g : Gd st) {l : List Int} {G : Nat → Int} (hc : Cl l G) {own : Int} (ho : 0 ≤ own) : (st.rd.any fun x => !kn own l x) = unk F own G 256 := by
  apply Bool.eq_iff_iff.2
  rw [List.any_eq_true]
  unfold unk
  rw [List.any_eq_true]
  constructor
  · rintro ⟨x, hx, hk⟩
    have hox := g.ro x hx
    have htx := own_tid hox
    refine ⟨(tidOf x).toNat, by simp; omega, ?_⟩
    rw [acR_k q g hx, q.rd x hx, ← kn_rkn hc (acR_of hox) ho]
    have := own_clk hox
    simp only [Bool.and_eq_true, decide_eq_true_eq]
    exact ⟨by omega, hk⟩
  · rintro ⟨k, hk, hh⟩
    simp only [Bool.and_eq_true, decide_eq_true_eq] at hh
    have hk' : k < 256 := by simpa using hk
    obtain ⟨x, hx, hxt⟩ := q.dr k hk' (by omega)
    have hox := g.ro x hx
    have hkx : (tidOf x).toNat = k := by omega
    have ea := acR_k q g hx
    rw [hkx] at ea
    refine ⟨x, hx, ?_⟩
    have := hh.2
    rw [ea, ← kn_rkn hc (acR_of hox) ho] at this
    exact this
theorem write_same {st : Cst} {a : Ac} {F : Nat → Int} {tl : Bool} (q : Eqc st a F tl) (g : Gd st) {l : List Int} {G : Nat → Int} (hc : Cl l G) {e : Int} (ho : ownB e = true) : wrR st e l = rpR a F tl (tidOf e) G := by
  unfold wrR rpR wi
  rw [kn_rkn hc q.la (own_tid ho).1, unk_any q g hc (own_tid ho).1, q.tl]
  cases rkn a (tidOf e) G <;> cases (st.tl || unk F (tidOf e) G 256) <;> rfl
theorem Eqc.write {e : Int} (ho : ownB e = true) : Eqc (wrS e) ⟨tidOf e, clkOf e, false, false⟩ nf false :=
  ⟨.inr (.inr ⟨ho, rfl, rfl, rfl, rfl⟩), by simp [wrS], fun k _ h => absurd rfl h, rfl⟩
theorem Eqc.zero : Eqc ⟨0, [], false⟩ ⟨0, 0, true, false⟩ nf false := ⟨.inl ⟨rfl, rfl, rfl⟩, by simp, fun k _ h => absurd rfl h, rfl⟩
theorem Eqc.retire {st : Cst} {a : Ac} {F : Nat → Int} {tl : Bool} (q : Eqc st a F tl) (g : Gd st) (t : Nat) (ht : t < 256) (cut : Int) (h0 : 0 ≤ cut) : Eqc (retS st (t : Int) cut) (rtA a (t : Int) cut) (upF F t 0) (tl || decide (cut < F t)) := by
  have hout : ∀ x ∈ retD st (t : Int), x ∈ st.rd ∧ tidOf x ≠ (t : Int) := by
    intro x hx
    unfold retD at hx
    split at hx
    · rename_i hh
      obtain ⟨hp, hpt⟩ := has_pos g.so hh
      refine ⟨mem_outL hx, fun e => ?_⟩
      obtain ⟨k, hk, hkx⟩ := mem_nth hx
      rw [out_len _ _ hp] at hk
      by_cases h : k < pos st.rd (t : Int)
      · rw [nth_out_lt _ _ _ hp h] at hkx
        have := g.so k _ h hp
        rw [hkx, hpt] at this; omega
      · rw [nth_out_ge _ _ _ hp (by omega)] at hkx
        have := g.so (pos st.rd (t : Int)) (k + 1) (by omega) (by omega)
        rw [hkx, hpt] at this; omega
    · rename_i hh
      refine ⟨hx, fun e => hh ?_⟩
      obtain ⟨k, hk, hkx⟩ := mem_nth hx
      exact has_yes hk (by rw [hkx]; exact e)
  have hin : ∀ x ∈ st.rd, tidOf x ≠ (t : Int) → x ∈ retD st (t : Int) := by
    intro x hx hne
    unfold retD
    split
    · rename_i hh
      obtain ⟨hp, hpt⟩ := has_pos g.so hh
      obtain ⟨k, hk, hkx⟩ := mem_nth hx
      have hkp : k ≠ pos st.rd (t : Int) := fun e => hne (by rw [← hkx, e]; exact hpt)
      rw [← hkx]
      by_cases h : k < pos st.rd (t : Int)
      · rw [← nth_out_lt _ _ _ hp h]; exact nth_mem (by rw [out_len _ _ hp]; omega)
      · have e2 : nth (outL st.rd (pos st.rd (t : Int))) (k - 1) = nth st.rd k := by
          rw [nth_out_ge _ _ _ hp (by omega)]
          congr 1
          omega
        rw [← e2]; exact nth_mem (by rw [out_len _ _ hp]; omega)
    · exact hx
  refine ⟨?_, fun x hx => ?_, fun k hk hF => ?_, ?_⟩
  · show AcOf (retL st (t : Int) cut) _
    unfold retL rtA
    obtain ⟨at_, an, ano, atl⟩ := a
    rcases q.la with ⟨e0, e1, e2⟩ | ⟨e0, e1, e2⟩ | ⟨e0, e1, e2, e3, e4⟩
    · simp only at e1 e2; subst e1 e2
      rw [e0, tid0]
      have : ((-1 : Int) == (t : Int)) = false := by rw [beq_eq_false_iff_ne]; omega
      simp only [this]
      exact .inl ⟨by simp, rfl, rfl⟩
    · simp only at e1 e2; subst e1 e2
      rw [e0, tidT]
      have : ((-1 : Int) == (t : Int)) = false := by rw [beq_eq_false_iff_ne]; omega
      simp only [this]
      exact .inr (.inl ⟨by simp, rfl, rfl⟩)
    · simp only at e1 e2 e3 e4; subst e1 e2 e3 e4
      cases hq : (tidOf st.last == (t : Int))
      · exact .inr (.inr ⟨by simpa using e0, rfl, rfl, by simp, by simp⟩)
      · simp only [rem_own e0]
        by_cases hc : clkOf st.last ≤ cut
        · exact .inl ⟨by simp [hc], by simp [hc], by simp [hc]⟩
        · exact .inr (.inl ⟨by simp [hc], by simp [hc], by simp [hc]⟩)
  · obtain ⟨h1, h2⟩ := hout x hx
    have := own_tid (g.ro x h1)
    unfold upF
    rw [if_neg (by omega)]
    exact q.rd x h1
  · have hkt : k ≠ t := fun e => hF (by simp [upF, e])
    have hF2 : F k ≠ 0 := by simpa [upF, hkt] using hF
    obtain ⟨x, hx, hxt⟩ := q.dr k hk hF2
    exact ⟨x, hin x hx (by omega), hxt⟩
  · show _ = retT st (t : Int) cut
    unfold retT
    rw [q.tl]
    congr 1
    cases hh : has st.rd (t : Int)
    · have : F t = 0 := by
        cases Classical.em (F t = 0) with
        | inl h => exact h
        | inr h =>
          obtain ⟨x, hx, hxt⟩ := q.dr t ht h
          obtain ⟨k, hk, hkx⟩ := mem_nth hx
          have : has st.rd (t : Int) = true := has_yes hk (by rw [hkx]; exact hxt)
          rw [hh] at this; cases this
      rw [this]
      simp; omega
    · obtain ⟨hp, hpt⟩ := has_pos g.so hh
      have hm := nth_mem hp
      have ho := g.ro _ hm
      have hF := q.rd _ hm
      rw [hpt, Int.toNat_natCast] at hF
      rw [rem_own ho, hF]
      by_cases hc : clkOf (nth st.rd (pos st.rd (t : Int))) ≤ cut
      · simp [hc]
      · have : cut < clkOf (nth st.rd (pos st.rd (t : Int))) := by omega
        simp [hc, this]
end Ce
end Go.Proofs.Ytekdcfdjohlfcaa
