/- Behind Park and Leave all is as it was; a ready case is done. -/
import Derived.Test.YtdcmlimglajpkaaJu
namespace Go.Proofs.Ytdcmlimglajpkaa
open Go.ChangeShapes Go.WideShapes Go.ChangeAt Go.RowKit
namespace Fk
open Ba Pe _root_.Go.Proofs.Ytdcmlimglajpkaa.Pi Rp

/-! ### ready -/
theorem send_rdy (st : St) : rdy st true = ((sendG st).rd || decide (sendE st = 90)) := by
  unfold rdy sendG sendE room own
  cases hc : st.closed
  · cases hr : st.rcv with
    | cons y t => simp
    | nil =>
      by_cases hb : st.buf.length < st.size
      · simp [hb]
      · simp [hb, gz]
  · simp
theorem recv_rdy (st : St) : rdy st false = (recvG st).rd := by
  unfold rdy recvG room own
  cases hb : st.buf with
  | nil =>
    cases hs : st.snd with
    | nil => simp
    | cons y t => simp
  | cons x t =>
    cases hs : st.snd with
    | nil => simp
    | cons y t => simp
theorem try_rdy (s : List (Option St)) (c : Ca) : crdy s c = ((tryG s c).rd || decide (tryE s c = 90)) := by
  unfold crdy tryG tryE
  cases nmB s c.ch with
  | none => simp [gz]
  | some st =>
    simp only
    cases hc : c.sd
    · simp [recv_rdy]
    · simp [send_rdy]
/-- an error is a send's, and the case is not done then -/
theorem try_err (s : List (Option St)) (c : Ca) : tryE s c = 0 ∨ ((tryG s c).rd = false ∧ c.sd = true) := by
  unfold tryG tryE
  cases nmB s c.ch with
  | none => exact .inl rfl
  | some st =>
    simp only
    cases hc : c.sd
    · exact .inl (by simp)
    · unfold sendE sendG
      cases hcl : st.closed
      · exact .inl (by simp)
      · exact .inr (by simp [gz])
theorem rdyL_one (s : List (Option St)) (c : Ca) : (rdyL [c] s).length = if crdy s c = true then 1 else 0 := by
  unfold rdyL ps
  cases h : crdy s c
  · simp [List.range_succ, h]
  · simp [List.range_succ, h]
/-! ### back -/
/-- g waits nowhere -/
def Nog (g : Int) (s : List (Option St)) : Prop := leaveS g s = s
theorem dr_dr (g : Int) (l : List Wt) : dr g (dr g l) = dr g l := by
  unfold dr
  rw [List.filter_filter]
  congr 1
  funext x
  simp
theorem leave_leave (g : Int) (s : List (Option St)) : Nog g (leaveS g s) := by
  unfold Nog leaveS
  rw [List.map_map]
  congr 1
  funext o
  cases o with
  | none => rfl
  | some st => simp [dropO, dropS, dr_dr]
theorem dr_app (g : Int) (l : List Wt) (x : Wt) (h : x.g = g) : dr g (l ++ [x]) = dr g l := by
  unfold dr
  rw [List.filter_append]
  simp [h]
theorem sum_set (f : Option St → Int) (s : List (Option St)) (i : Nat) (o v : Option St) (h : s[i]? = some o) : ((s.set i v).map f).foldl (· + ·) 0 = (s.map f).foldl (· + ·) 0 + f v - f o := by
  have acc : ∀ (L : List Int) (a : Int), L.foldl (· + ·) a = a + L.foldl (· + ·) 0 := by
    intro L
    induction L with
    | nil => intro a; simp
    | cons x t ih =>
      intro a
      rw [List.foldl_cons, List.foldl_cons, ih (a + x), ih (0 + x)]
      omega
  induction s generalizing i with
  | nil => simp at h
  | cons y t ih =>
    cases i with
    | zero =>
      simp at h
      subst h
      simp only [List.set_cons_zero, List.map_cons, List.foldl_cons]
      rw [acc _ (0 + f v), acc _ (0 + f y)]
      omega
    | succ i =>
      simp only [List.getElem?_cons_succ] at h
      simp only [List.set_cons_succ, List.map_cons, List.foldl_cons]
      rw [acc _ (0 + f y), ih i h, acc (t.map f) (0 + f y)]
      omega
theorem map_set_same (f : Option St → Option St) (s : List (Option St)) (i : Nat) (o v : Option St) (h : s[i]? = some o) (e : f v = f o) : (s.set i v).map f = s.map f := by
  apply List.ext_getElem?
  intro j
  rw [List.getElem?_map, List.getElem?_map]
  by_cases q : i = j
  · subst q
    rw [List.getElem?_set_self (List.getElem?_eq_some_iff.1 h).1, h]
    simp [e]
  · rw [List.getElem?_set_ne q]
theorem pk1_back {g : Int} {l : List Ca} {m : Nat} {s : List (Option St)} (h : Iv g l m s) (hg : 0 ≤ g) (hm : m < 1024) {c : Ca} (hc : c ∈ l) (p : Nat) : leaveS g (pk1 g p c s) = leaveS g s ∧ leaveN g (pk1 g p c s) = leaveN g s + (if (nmB s c.ch).isSome = true then 1 else 0) := by
  unfold pk1
  cases hn : nmB s c.ch with
  | none => simp
  | some st =>
    simp only
    rw [(h.ok hg hm hc hn p).2]
    have ha := nmB_at hn
    constructor
    · unfold leaveS
      refine map_set_same _ _ _ _ _ ha ?_
      cases hs : c.sd
      · simp [dropO, dropS, dr_app]
      · simp [dropO, dropS, dr_app]
    · unfold leaveN
      rw [sum_set _ _ _ _ _ ha]
      cases hs : c.sd
      · simp [dropM, dropN, dr_app]
        omega
      · simp [dropM, dropN, dr_app]
        omega
theorem pkS_back {g : Int} {l : List Ca} {m : Nat} {s : List (Option St)} (h : Iv g l m s) (hg : 0 ≤ g) (k : Nat) (hm : m + k < 1024) : leaveS g (pkS g l s k) = leaveS g s ∧ leaveN g (pkS g l s k) = leaveN g s + ((ps (hasC s l) k).length : Int) := by
  induction k with
  | zero => exact ⟨rfl, by simp [pkS, ps]⟩
  | succ k ih =>
    obtain ⟨i1, i2⟩ := ih (by omega)
    have iv := h.all hg k (by omega)
    rw [ps_succ]
    cases hk : l[k]? with
    | none =>
      have e : hasC s l k = false := by unfold hasC; rw [hk]
      have e2 : pkS g l s (k + 1) = pkS g l s k := by rw [pkS, hk]
      rw [e2, e]
      exact ⟨i1, by simpa using i2⟩
    | some c =>
      have e2 : pkS g l s (k + 1) = pk1 g k c (pkS g l s k) := by rw [pkS, hk]
      obtain ⟨b1, b2⟩ := pk1_back iv hg (by omega) (List.mem_of_getElem? hk) k
      rw [e2, b1, b2, i2]
      refine ⟨i1, ?_⟩
      have e : hasC s l k = (nmB (pkS g l s k) c.ch).isSome := by
        unfold hasC
        rw [hk]
        simp only
        have nn := pkS_none g l s k c.ch
        cases h1 : nmB s c.ch with
        | none => rw [nn.2 h1]
        | some a =>
          cases h2 : nmB (pkS g l s k) c.ch with
          | none => rw [nn.1 h2] at h1; cases h1
          | some b => rfl
      rw [e]
      cases (nmB (pkS g l s k) c.ch).isSome
      · simp
      · simp
        omega
theorem leaveN_nog {g : Int} {s : List (Option St)} (h : Nog g s) : leaveN g s = 0 := by
  unfold Nog leaveS at h
  unfold leaveN
  have key : ∀ L : List (Option St), L.map (dropO g) = L → (L.map (dropM g)).foldl (· + ·) 0 = 0 := by
    intro L
    induction L with
    | nil => intro _; rfl
    | cons o t ih =>
      intro e
      rw [List.map_cons, List.cons.injEq] at e
      have e0 : dropM g o = 0 := by
        cases o with
        | none => rfl
        | some st =>
          have e1 := e.1
          simp only [dropO, Option.map_some, Option.some.injEq] at e1
          have q1 : dr g st.snd = st.snd := congrArg St.snd e1
          have q2 : dr g st.rcv = st.rcv := congrArg St.rcv e1
          simp only [dropM, dropN, q1, q2]
          omega
      rw [List.map_cons, List.foldl_cons, e0]
      exact ih e.2
  exact key s h
/-- behind Park and Leave all is as it was, and as many are gone as waited -/
theorem park_back {g : Int} {l : List Ca} {s : List (Option St)} (hs : Nog g s) (hle : ∀ (i : Nat) (st : St), s[i]? = some (some st) → ∀ b, (own st b).length ≤ 1000) : leaveS g (pkA g l s) = s ∧ leaveN g (pkA g l s) = pkN g l s := by
  unfold pkA pkN
  cases hb : pkBad g l
  · simp only [Bool.false_eq_true, if_false]
    by_cases hr : 0 < (rdyL l s).length
    · rw [if_pos hr, if_pos hr]
      exact ⟨hs, leaveN_nog hs⟩
    · rw [if_neg hr, if_neg hr]
      unfold pkBad at hb
      simp only [Bool.or_eq_false_iff, decide_eq_false_iff_not] at hb
      have iv : Iv g l 1000 s := Iv.start (List.eq_nil_of_length_eq_zero (by omega)) hle
      obtain ⟨b1, b2⟩ := pkS_back iv (by omega) l.length (by omega)
      rw [b1, b2, leaveN_nog hs]
      exact ⟨hs, by omega⟩
  · simp only [if_true]
    exact ⟨hs, leaveN_nog hs⟩
end Fk
end Go.Proofs.Ytdcmlimglajpkaa
