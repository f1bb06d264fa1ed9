/- Layer 15: what slots keep along a row of sends and receives (pure). -/
import Derived.Test.YtbangoghekefcaaTi
namespace Go.Proofs.Ytbangoghekefcaa
namespace Sl
open Ck

theorem dn_snoc (sz : Nat) (send b : Bool) (pre : List Bool) : dn sz send 0 0 (pre ++ [b]) = dn sz send 0 0 pre ++ (if dB sz (cF sz 0 pre) b then (if b = send then [pre.length] else []) else []) := by
  rw [dn_app, Nat.zero_add]
  congr 1
theorem cF_snoc (sz : Nat) (b : Bool) (pre : List Bool) : cF sz 0 (pre ++ [b]) = if dB sz (cF sz 0 pre) b then nx (cF sz 0 pre) b else cF sz 0 pre := by rw [cF_app]; rfl
structure PI (sz : Nat) (pre : List Bool) (st : Sst) (h : Nat → Option (List Int)) : Prop where
  z : st.sz = sz
  cl : st.cl = none
  c : st.gv.length = cF sz 0 pre
  sn : st.sn = (dn sz true 0 0 pre).length
  rc : st.rc = (dn sz false 0 0 pre).length
  cnt : st.sn = st.rc + st.gv.length
  gm : st.gv.length ≤ max 1 sz
  bl : 0 < sz → st.bk.length + (st.sn - sz) = st.rc
  b0 : sz = 0 → st.bk = []
  gvv : ∀ (j : Nat) b, st.gv[j]? = some b → ∃ i : Nat, (dn sz true 0 0 pre)[st.rc + j]? = some i ∧ h b = some [(i : Int) + 1]
  bkv : ∀ (j : Nat) b, st.bk[j]? = some b → ∃ i : Nat, (dn sz false 0 0 pre)[(st.sn - sz) + j]? = some i ∧ h b = some [(i : Int) + 1]
theorem PI.new (sz : Nat) (h : Nat → Option (List Int)) : PI sz [] ⟨sz, 0, 0, [], [], none⟩ h :=
  ⟨rfl, rfl, rfl, rfl, rfl, rfl, Nat.zero_le _, fun _ => by simp, fun _ => rfl, fun j b q => by simp at q, fun j b q => by simp at q⟩
theorem PI.ext {sz : Nat} {pre : List Bool} {st : Sst} {h h' : Nat → Option (List Int)} (i : PI sz pre st h) (e : Ext h h') : PI sz pre st h' :=
  ⟨i.z, i.cl, i.c, i.sn, i.rc, i.cnt, i.gm, i.bl, i.b0, fun j b q => by
    obtain ⟨k, h1, h2⟩ := i.gvv j b q
    exact ⟨k, h1, e _ _ h2⟩, fun j b q => by
    obtain ⟨k, h1, h2⟩ := i.bkv j b q
    exact ⟨k, h1, e _ _ h2⟩⟩
/-- nothing is done -/
theorem PI.no {sz : Nat} {pre : List Bool} {st : Sst} {h : Nat → Option (List Int)} {b : Bool} (i : PI sz pre st h) (hd : dB sz (cF sz 0 pre) b = false) : PI sz (pre ++ [b]) st h := by
  have e : ∀ send, dn sz send 0 0 (pre ++ [b]) = dn sz send 0 0 pre := fun send => by rw [dn_snoc, hd]; simp
  have ec : cF sz 0 (pre ++ [b]) = cF sz 0 pre := by rw [cF_snoc, hd]; rfl
  refine ⟨i.z, i.cl, by rw [ec]; exact i.c, by rw [e]; exact i.sn, by rw [e]; exact i.rc, i.cnt, i.gm, i.bl, i.b0, by rw [e]; exact i.gvv, by rw [e]; exact i.bkv⟩
theorem app_left {l : List Nat} {k i : Nat} {m : List Nat} (h : l[k]? = some i) : (l ++ m)[k]? = some i := by
  rw [List.getElem?_append_left (List.getElem?_eq_some_iff.1 h).1]
  exact h
theorem app_end {l : List Nat} {k x : Nat} (h : k = l.length) : (l ++ [x])[k]? = some x := by
  subst h
  simp
theorem PI.send {sz : Nat} {pre : List Bool} {st : Sst} {h h' : Nat → Option (List Int)} {A : Nat} (i : PI sz pre st h) (hd : dB sz (cF sz 0 pre) true = true) (e : Ext h h') (hA : h' A = some [((pre.length : Nat) : Int) + 1]) : PI sz (pre ++ [true]) (sendS st A) h' := by
  have e1 : dn sz true 0 0 (pre ++ [true]) = dn sz true 0 0 pre ++ [pre.length] := by rw [dn_snoc, hd]; simp
  have e2 : dn sz false 0 0 (pre ++ [true]) = dn sz false 0 0 pre := by rw [dn_snoc, hd]; simp
  have ec : cF sz 0 (pre ++ [true]) = cF sz 0 pre + 1 := by rw [cF_snoc, hd]; rfl
  have hc : st.gv.length < max 1 sz := by rw [i.c]; simpa [dB] using hd
  have hz := i.z
  have hcnt := i.cnt
  have hsn := i.sn
  refine ⟨i.z, i.cl, ?_, ?_, ?_, ?_, ?_, fun hp => ?_, fun h0 => ?_, ?_, ?_⟩
  · show (st.gv ++ [A]).length = _
    rw [ec, List.length_append, i.c]; rfl
  · show st.sn + 1 = _
    rw [e1, List.length_append, ← hsn]; rfl
  · show st.rc = _
    rw [e2]; exact i.rc
  · show st.sn + 1 = st.rc + (st.gv ++ [A]).length
    rw [List.length_append, hcnt]; rfl
  · show (st.gv ++ [A]).length ≤ _
    rw [List.length_append]; simp; omega
  · show (if st.sn < st.sz then st.bk else st.bk.tail).length + (st.sn + 1 - sz) = st.rc
    have hb := i.bl hp
    split
    · omega
    · rw [List.length_tail]; omega
  · show (if st.sn < st.sz then st.bk else st.bk.tail) = []
    rw [i.b0 h0]
    split <;> rfl
  · intro j b hj
    have hj : (st.gv ++ [A])[j]? = some b := hj
    show ∃ i : Nat, (dn sz true 0 0 (pre ++ [true]))[st.rc + j]? = some i ∧ _
    rw [e1]
    by_cases hlt : j < st.gv.length
    · rw [List.getElem?_append_left hlt] at hj
      obtain ⟨k, h1, h2⟩ := i.gvv j b hj
      exact ⟨k, app_left h1, e _ _ h2⟩
    · have hjl := (List.getElem?_eq_some_iff.1 hj).1
      have hje : j = st.gv.length := by rw [List.length_append] at hjl; simp at hjl; omega
      rw [app_end hje] at hj
      cases hj
      exact ⟨pre.length, app_end (by omega), hA⟩
  · intro j b hj
    have hj : (if st.sn < st.sz then st.bk else st.bk.tail)[j]? = some b := hj
    show ∃ i : Nat, (dn sz false 0 0 (pre ++ [true]))[(st.sn + 1 - sz) + j]? = some i ∧ _
    rw [e2]
    by_cases hlt : st.sn < st.sz
    · rw [if_pos hlt] at hj
      obtain ⟨k, h1, h2⟩ := i.bkv j b hj
      have : st.sn + 1 - sz + j = st.sn - sz + j := by omega
      exact ⟨k, by rw [this]; exact h1, e _ _ h2⟩
    · rw [if_neg hlt, List.getElem?_tail] at hj
      obtain ⟨k, h1, h2⟩ := i.bkv (j + 1) b hj
      have : st.sn + 1 - sz + j = st.sn - sz + (j + 1) := by omega
      exact ⟨k, by rw [this]; exact h1, e _ _ h2⟩
theorem PI.recv {sz : Nat} {pre : List Bool} {st : Sst} {h h' : Nat → Option (List Int)} {A x : Nat} {gl : List Nat} (i : PI sz pre st h) (hg : st.gv = x :: gl) (e : Ext h h') (hA : 0 < st.sz → h' A = some [((pre.length : Nat) : Int) + 1]) : PI sz (pre ++ [false]) (recvS st A) h' := by
  have hc0 : 0 < cF sz 0 pre := by rw [← i.c, hg]; simp
  have hd : dB sz (cF sz 0 pre) false = true := by simp [dB, hc0]
  have e1 : dn sz true 0 0 (pre ++ [false]) = dn sz true 0 0 pre := by rw [dn_snoc, hd]; simp
  have e2 : dn sz false 0 0 (pre ++ [false]) = dn sz false 0 0 pre ++ [pre.length] := by rw [dn_snoc, hd]; simp
  have ec : cF sz 0 (pre ++ [false]) = cF sz 0 pre - 1 := by rw [cF_snoc, hd]; rfl
  have hz := i.z
  have hcnt := i.cnt
  have hrc := i.rc
  have hgl : st.gv.length = gl.length + 1 := by rw [hg]; rfl
  have hgm := i.gm
  have htl : st.gv.tail = gl := by rw [hg]; rfl
  refine ⟨i.z, i.cl, ?_, ?_, ?_, ?_, ?_, fun hp => ?_, fun h0 => ?_, ?_, ?_⟩
  · show st.gv.tail.length = _
    rw [ec, htl, ← i.c]; omega
  · show st.sn = _
    rw [e1]; exact i.sn
  · show st.rc + 1 = _
    rw [e2, List.length_append, ← hrc]; rfl
  · show st.sn = st.rc + 1 + st.gv.tail.length
    rw [htl]; omega
  · show st.gv.tail.length ≤ _
    rw [htl]; omega
  · show (if 0 < st.sz then st.bk ++ [A] else st.bk).length + (st.sn - sz) = st.rc + 1
    have hb := i.bl hp
    rw [if_pos (by omega), List.length_append]
    simp
    omega
  · show (if 0 < st.sz then st.bk ++ [A] else st.bk) = []
    rw [if_neg (by omega)]
    exact i.b0 h0
  · intro j b hj
    have hj : st.gv.tail[j]? = some b := hj
    show ∃ i : Nat, (dn sz true 0 0 (pre ++ [false]))[st.rc + 1 + j]? = some i ∧ _
    rw [e1]
    rw [List.getElem?_tail] at hj
    obtain ⟨k, h1, h2⟩ := i.gvv (j + 1) b hj
    have : st.rc + 1 + j = st.rc + (j + 1) := by omega
    exact ⟨k, by rw [this]; exact h1, e _ _ h2⟩
  · intro j b hj
    have hj : (if 0 < st.sz then st.bk ++ [A] else st.bk)[j]? = some b := hj
    show ∃ i : Nat, (dn sz false 0 0 (pre ++ [false]))[(st.sn - sz) + j]? = some i ∧ _
    rw [e2]
    by_cases hp : 0 < st.sz
    · rw [if_pos hp] at hj
      by_cases hlt : j < st.bk.length
      · rw [List.getElem?_append_left hlt] at hj
        obtain ⟨k, h1, h2⟩ := i.bkv j b hj
        exact ⟨k, app_left h1, e _ _ h2⟩
      · have hjl := (List.getElem?_eq_some_iff.1 hj).1
        have hje : j = st.bk.length := by rw [List.length_append] at hjl; simp at hjl; omega
        rw [app_end hje] at hj
        cases hj
        have hb := i.bl (by omega)
        exact ⟨pre.length, app_end (by omega), hA hp⟩
    · rw [if_neg hp] at hj
      obtain ⟨k, h1, h2⟩ := i.bkv j b hj
      exact ⟨k, app_left h1, e _ _ h2⟩
theorem PI.ok {sz : Nat} {pre : List Bool} {st : Sst} {h : Nat → Option (List Int)} (i : PI sz pre st h) : sendE st = 0 ↔ dB sz (cF sz 0 pre) true = true := by
  unfold sendE dB
  rw [i.cl, ← i.c, i.z]
  simp only [Option.isSome_none, Bool.false_eq_true, if_false, if_true, decide_eq_true_eq]
  have := i.cnt
  split <;> constructor <;> intro q <;> first | omega | rfl | (exfalso; omega)
end Sl
end Go.Proofs.Ytbangoghekefcaa
