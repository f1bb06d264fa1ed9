import Derived.Test.YtipimagajnocjaaZjFork7
import Derived.Maps.AppendAt
import Derived.Deep.RegionHeld3
import Derived.Deep.Slices
import Derived.ShutString
import Derived.ChangeOld
/- The laws' own acts(), whatever the act is. -/
namespace Go.Proofs.Ytipimagajnocjaa
open Go.ChangeShapes Go.WideShapes Go.ChangeAt Go.RowKit
namespace Fk
open Ba Pe _root_.Go.Proofs.Ytipimagajnocjaa.Pi Rp

/-- counts at most m, pews at most k -/
def Ck (m k : Nat) (s : List (Option St)) : Prop := ∀ (i : Nat) (st : St), s[i]? = some (some st) → st.sent ≤ m ∧ st.got ≤ m ∧ st.snd.length ≤ k ∧ st.rcv.length ≤ k
theorem Ck.pk1 {m k : Nat} {s : List (Option St)} (h : Ck m k s) (g : Int) (p : Nat) (c : Ca) : Ck m (k + 1) (pk1 g p c s) := by
  unfold Fk.pk1
  cases hn : nmB s c.ch with
  | none => exact fun i st hi => by obtain ⟨h1, h2, h3, h4⟩ := h i st hi; omega
  | some st =>
    simp only
    intro i st' hi
    by_cases e : c.ch.toNat = i
    · subst e
      have hlt := (List.getElem?_eq_some_iff.1 (nmB_at hn)).1
      rw [List.getElem?_set_self hlt] at hi
      cases hi
      obtain ⟨h1, h2, h3, h4⟩ := h _ _ (nmB_at hn)
      have a1 := al_le st.snd ⟨g, (p : Int), c.v⟩ h3
      have a2 := al_le st.rcv ⟨g, (p : Int), c.v⟩ h4
      unfold waitS
      split
      · omega
      · split
        · simp only; omega
        · simp only; omega
    · rw [List.getElem?_set_ne e] at hi
      obtain ⟨h1, h2, h3, h4⟩ := h i st' hi
      omega
theorem Ck.pkS {m k : Nat} {s : List (Option St)} (h : Ck m k s) (g : Int) (l : List Ca) (n : Nat) : Ck m (k + n) (pkS g l s n) := by
  induction n with
  | zero => exact h
  | succ n ih =>
    unfold Fk.pkS
    cases l[n]? with
    | none => exact fun i st hi => by obtain ⟨h1, h2, h3, h4⟩ := ih i st hi; omega
    | some c => exact ih.pk1 g n c
theorem act_cn {m : Nat} {s : List (Option St)} (h : Cn m s) (what g : Int) (c : Ca) (l : List Ca) : Cn (m + 1) (actS what g c l s) := by
  have up := h.mono (Nat.le_succ m)
  unfold actS
  split
  · unfold tryS
    cases hn : nmB s c.ch with
    | none => exact up
    | some st =>
      simp only
      refine up.set _ _ ?_
      split
      · exact send_few (h _ _ (nmB_at hn))
      · exact recv_few (h _ _ (nmB_at hn))
  · split
    · cases hn : nmB s c.ch with
      | none => exact up
      | some st => exact up.set _ _ (wait_few (h _ _ (nmB_at hn)))
    · split
      · unfold pkA
        split
        · exact up
        · rename_i hb
          split
          · exact up
          · have hl : l.length ≤ 4 := by
              unfold pkBad at hb
              simp only [Bool.or_eq_true, decide_eq_true_eq, not_or] at hb
              omega
            intro i st hi
            have q := (show Ck m (4 * m) s from h).pkS g l l.length i st hi
            omega
      · split
        · intro i st hi
          unfold leaveS at hi
          rw [List.getElem?_map] at hi
          cases hq : s[i]? with
          | none => rw [hq] at hi; cases hi
          | some o =>
            rw [hq] at hi
            cases o with
            | none => simp [dropO] at hi
            | some st0 =>
              simp [dropO] at hi
              subst hi
              have := drop_few (g := g) (h i st0 hq)
              omega
        · split
          · cases hn : nmB s c.ch with
            | none => exact up
            | some st =>
              refine up.set _ _ ?_
              have := close_few (h _ _ (nmB_at hn))
              omega
          · exact up
theorem acts_any (w u : World) (what g : Int) (c : Ca) (l : List Ca) (la : Option Addr) (lc : Nat) (oa : Option Addr) (bs : List (Option Nat)) (cp : Nat) (Fs : Nat → Nat → Prop) (ob : Option Addr) (gs : List (Option Nat)) (cq : Nat) (Gs : Nat → Nat → Prop) (s : List (Option St)) (m : Nat) (h : Tw w u oa bs Fs ob gs Gs s s) (hC : CaAt u la l) (hO : Out Fs Gs la l) (hm : Cn m s) (hm2 : m ≤ 250) (hb : bs.length ≤ 1000) :
    Calls Try.prog 9 #[(.agg #[.slice oa bs.length cp, .slice ob gs.length cq]), .agg #[.int .i64 what, .int .i64 g, .bool c.sd, .int .i64 c.ch, .int .i64 c.v, .slice la l.length lc]] u fun r w' => r = .returned (.bool true) ∧ AcP w u w' oa bs Fs ob gs Gs (actS what g c l s) := by
  unfold actS
  by_cases h0 : what = 0
  · rw [if_pos h0]
    exact acts0 w u what g c l la lc oa bs cp Fs ob gs cq Gs s h (hm.sml (by omega)) h0
  rw [if_neg h0]
  by_cases h1 : what = 1
  · rw [if_pos h1]
    exact acts1 w u what g c.sd c.ch c.v l la lc oa bs cp Fs ob gs cq Gs s h h1
  rw [if_neg h1]
  by_cases h2 : what = 2
  · rw [if_pos h2]
    exact acts2 w u what g c l la lc oa bs cp Fs ob gs cq Gs s h hC hO (hm.le hm2) h2
  rw [if_neg h2]
  by_cases h3 : what = 3
  · rw [if_pos h3]
    exact acts3 w u what g c l la lc oa bs cp Fs ob gs cq Gs s h hb h3
  rw [if_neg h3]
  by_cases h4 : what = 4
  · rw [if_pos h4]
    exact acts4 w u what g c.sd c.ch c.v l la lc oa bs cp Fs ob gs cq Gs s h h4
  rw [if_neg h4]
  exact acts5 w u what g c l la lc oa bs cp Fs ob gs cq Gs s h h0 h1 h2 h3 h4
end Fk
end Go.Proofs.Ytipimagajnocjaa
/- Behind Park and Leave all is as it was; a ready case is done. -/
namespace Go.Proofs.Ytipimagajnocjaa
open Go.ChangeShapes Go.WideShapes Go.ChangeAt Go.RowKit
namespace Fk
open Ba Pe _root_.Go.Proofs.Ytipimagajnocjaa.Pi Rp

/-! ### ready -/
theorem send_rdy (st : St) : rdy st true = ((sendG st).rd || decide (sendE st = 90)) := by
  unfold rdy sendG sendE room own
  cases hc : st.closed
  · cases hr : st.rcv with
    | cons y t => simp
    | nil =>
      by_cases hb : st.buf.length < st.size
      · simp [hb]
      · simp [hb, gz]
  · simp
theorem recv_rdy (st : St) : rdy st false = (recvG st).rd := by
  unfold rdy recvG room own
  cases hb : st.buf with
  | nil =>
    cases hs : st.snd with
    | nil => simp
    | cons y t => simp
  | cons x t =>
    cases hs : st.snd with
    | nil => simp
    | cons y t => simp
theorem try_rdy (s : List (Option St)) (c : Ca) : crdy s c = ((tryG s c).rd || decide (tryE s c = 90)) := by
  unfold crdy tryG tryE
  cases nmB s c.ch with
  | none => simp [gz]
  | some st =>
    simp only
    cases hc : c.sd
    · simp [recv_rdy]
    · simp [send_rdy]
/-- an error is a send's, and the case is not done then -/
theorem try_err (s : List (Option St)) (c : Ca) : tryE s c = 0 ∨ ((tryG s c).rd = false ∧ c.sd = true) := by
  unfold tryG tryE
  cases nmB s c.ch with
  | none => exact .inl rfl
  | some st =>
    simp only
    cases hc : c.sd
    · exact .inl (by simp)
    · unfold sendE sendG
      cases hcl : st.closed
      · exact .inl (by simp)
      · exact .inr (by simp [gz])
theorem rdyL_one (s : List (Option St)) (c : Ca) : (rdyL [c] s).length = if crdy s c = true then 1 else 0 := by
  unfold rdyL ps
  cases h : crdy s c
  · simp [List.range_succ, h]
  · simp [List.range_succ, h]
/-! ### back -/
/-- g waits nowhere -/
def Nog (g : Int) (s : List (Option St)) : Prop := leaveS g s = s
theorem dr_dr (g : Int) (l : List Wt) : dr g (dr g l) = dr g l := by
  unfold dr
  rw [List.filter_filter]
  congr 1
  funext x
  simp
theorem leave_leave (g : Int) (s : List (Option St)) : Nog g (leaveS g s) := by
  unfold Nog leaveS
  rw [List.map_map]
  congr 1
  funext o
  cases o with
  | none => rfl
  | some st => simp [dropO, dropS, dr_dr]
theorem dr_app (g : Int) (l : List Wt) (x : Wt) (h : x.g = g) : dr g (l ++ [x]) = dr g l := by
  unfold dr
  rw [List.filter_append]
  simp [h]
theorem sum_set (f : Option St → Int) (s : List (Option St)) (i : Nat) (o v : Option St) (h : s[i]? = some o) : ((s.set i v).map f).foldl (· + ·) 0 = (s.map f).foldl (· + ·) 0 + f v - f o := by
  have acc : ∀ (L : List Int) (a : Int), L.foldl (· + ·) a = a + L.foldl (· + ·) 0 := by
    intro L
    induction L with
    | nil => intro a; simp
    | cons x t ih =>
      intro a
      rw [List.foldl_cons, List.foldl_cons, ih (a + x), ih (0 + x)]
      omega
  induction s generalizing i with
  | nil => simp at h
  | cons y t ih =>
    cases i with
    | zero =>
      simp at h
      subst h
      simp only [List.set_cons_zero, List.map_cons, List.foldl_cons]
      rw [acc _ (0 + f v), acc _ (0 + f y)]
      omega
    | succ i =>
      simp only [List.getElem?_cons_succ] at h
      simp only [List.set_cons_succ, List.map_cons, List.foldl_cons]
      rw [acc _ (0 + f y), ih i h, acc (t.map f) (0 + f y)]
      omega
theorem map_set_same (f : Option St → Option St) (s : List (Option St)) (i : Nat) (o v : Option St) (h : s[i]? = some o) (e : f v = f o) : (s.set i v).map f = s.map f := by
  apply List.ext_getElem?
  intro j
  rw [List.getElem?_map, List.getElem?_map]
  by_cases q : i = j
  · subst q
    rw [List.getElem?_set_self (List.getElem?_eq_some_iff.1 h).1, h]
    simp [e]
  · rw [List.getElem?_set_ne q]
theorem pk1_back {g : Int} {l : List Ca} {m : Nat} {s : List (Option St)} (h : Iv g l m s) (hg : 0 ≤ g) (hm : m < 1024) {c : Ca} (hc : c ∈ l) (p : Nat) : leaveS g (pk1 g p c s) = leaveS g s ∧ leaveN g (pk1 g p c s) = leaveN g s + (if (nmB s c.ch).isSome = true then 1 else 0) := by
  unfold pk1
  cases hn : nmB s c.ch with
  | none => simp
  | some st =>
    simp only
    rw [(h.ok hg hm hc hn p).2]
    have ha := nmB_at hn
    constructor
    · unfold leaveS
      refine map_set_same _ _ _ _ _ ha ?_
      cases hs : c.sd
      · simp [dropO, dropS, dr_app]
      · simp [dropO, dropS, dr_app]
    · unfold leaveN
      rw [sum_set _ _ _ _ _ ha]
      cases hs : c.sd
      · simp [dropM, dropN, dr_app]
        omega
      · simp [dropM, dropN, dr_app]
        omega
theorem pkS_back {g : Int} {l : List Ca} {m : Nat} {s : List (Option St)} (h : Iv g l m s) (hg : 0 ≤ g) (k : Nat) (hm : m + k < 1024) : leaveS g (pkS g l s k) = leaveS g s ∧ leaveN g (pkS g l s k) = leaveN g s + ((ps (hasC s l) k).length : Int) := by
  induction k with
  | zero => exact ⟨rfl, by simp [pkS, ps]⟩
  | succ k ih =>
    obtain ⟨i1, i2⟩ := ih (by omega)
    have iv := h.all hg k (by omega)
    rw [ps_succ]
    cases hk : l[k]? with
    | none =>
      have e : hasC s l k = false := by unfold hasC; rw [hk]
      have e2 : pkS g l s (k + 1) = pkS g l s k := by rw [pkS, hk]
      rw [e2, e]
      exact ⟨i1, by simpa using i2⟩
    | some c =>
      have e2 : pkS g l s (k + 1) = pk1 g k c (pkS g l s k) := by rw [pkS, hk]
      obtain ⟨b1, b2⟩ := pk1_back iv hg (by omega) (List.mem_of_getElem? hk) k
      rw [e2, b1, b2, i2]
      refine ⟨i1, ?_⟩
      have e : hasC s l k = (nmB (pkS g l s k) c.ch).isSome := by
        unfold hasC
        rw [hk]
        simp only
        have nn := pkS_none g l s k c.ch
        cases h1 : nmB s c.ch with
        | none => rw [nn.2 h1]
        | some a =>
          cases h2 : nmB (pkS g l s k) c.ch with
          | none => rw [nn.1 h2] at h1; cases h1
          | some b => rfl
      rw [e]
      cases (nmB (pkS g l s k) c.ch).isSome
      · simp
      · simp
        omega
theorem leaveN_nog {g : Int} {s : List (Option St)} (h : Nog g s) : leaveN g s = 0 := by
  unfold Nog leaveS at h
  unfold leaveN
  have key : ∀ L : List (Option St), L.map (dropO g) = L → (L.map (dropM g)).foldl (· + ·) 0 = 0 := by
    intro L
    induction L with
    | nil => intro _; rfl
    | cons o t ih =>
      intro e
      rw [List.map_cons, List.cons.injEq] at e
      have e0 : dropM g o = 0 := by
        cases o with
        | none => rfl
        | some st =>
          have e1 := e.1
          simp only [dropO, Option.map_some, Option.some.injEq] at e1
          have q1 : dr g st.snd = st.snd := congrArg St.snd e1
          have q2 : dr g st.rcv = st.rcv := congrArg St.rcv e1
          simp only [dropM, dropN, q1, q2]
          omega
      rw [List.map_cons, List.foldl_cons, e0]
      exact ih e.2
  exact key s h
/-- behind Park and Leave all is as it was, and as many are gone as waited -/
theorem park_back {g : Int} {l : List Ca} {s : List (Option St)} (hs : Nog g s) (hle : ∀ (i : Nat) (st : St), s[i]? = some (some st) → ∀ b, (own st b).length ≤ 1000) : leaveS g (pkA g l s) = s ∧ leaveN g (pkA g l s) = pkN g l s := by
  unfold pkA pkN
  cases hb : pkBad g l
  · simp only [Bool.false_eq_true, if_false]
    by_cases hr : 0 < (rdyL l s).length
    · rw [if_pos hr, if_pos hr]
      exact ⟨hs, leaveN_nog hs⟩
    · rw [if_neg hr, if_neg hr]
      unfold pkBad at hb
      simp only [Bool.or_eq_false_iff, decide_eq_false_iff_not] at hb
      have iv : Iv g l 1000 s := Iv.start (List.eq_nil_of_length_eq_zero (by omega)) hle
      obtain ⟨b1, b2⟩ := pkS_back iv (by omega) l.length (by omega)
      rw [b1, b2, leaveN_nog hs]
      exact ⟨hs, by omega⟩
  · simp only [if_true]
    exact ⟨hs, leaveN_nog hs⟩
end Fk
end Go.Proofs.Ytipimagajnocjaa
/- Channels of both, one by one laid: the laws' own pipes(). -/
namespace Go.Proofs.Ytipimagajnocjaa
open Go.ChangeShapes Go.WideShapes Go.ChangeAt Go.RowKit
namespace Fk
open Ba Pe _root_.Go.Proofs.Ytipimagajnocjaa.Pi Rp

/-- one side's channels, no row yet -/
structure Hf (Q : World → Nat → (Nat → Prop) → St → Prop) (w u : World) (bs : List (Option Nat)) (Fs : Nat → Nat → Prop) (sts : List (Option St)) : Prop where
  len : bs.length = sts.length
  one : ∀ (i B : Nat), bs[i]? = some (some B) → ∃ st, sts[i]? = some (some st) ∧ Q u B (Fs i) st
  non : ∀ (i : Nat), bs[i]? = some none → sts[i]? = some none
  ap : ∀ i j, i ≠ j → ∀ x, Fs i x → ¬ Fs j x
  bd : ∀ i, Bd (Fs i) u
  lo : ∀ x, All Fs x → w.heap.size ≤ x
theorem Hf.nil {Q : World → Nat → (Nat → Prop) → St → Prop} (w u : World) : Hf Q w u [] (fun _ _ => False) [] :=
  ⟨rfl, fun i B h => by simp at h, fun i h => by simp at h, fun _ _ _ _ h => h.elim, fun _ _ h => h.elim, fun _ ⟨_, h⟩ => h.elim⟩
theorem Hf.sm {Q : World → Nat → (Nat → Prop) → St → Prop} (fr : Fr Q) {w u v : World} {bs : List (Option Nat)} {Fs : Nat → Nat → Prop} {sts : List (Option St)} (h : Hf Q w u bs Fs sts) (hs : ∀ x, All Fs x → v.heap[x]? = u.heap[x]?) : Hf Q w v bs Fs sts := by
  have s1 : ∀ i, Sm (Fs i) u v := fun i x hx => hs x ⟨i, hx⟩
  refine ⟨h.len, fun i B hi => ?_, h.non, h.ap, fun i => (h.bd i).sm (s1 i), h.lo⟩
  obtain ⟨st, e, q⟩ := h.one i B hi
  exact ⟨st, e, fr.sm q (s1 i)⟩
theorem Hf.bdA {Q : World → Nat → (Nat → Prop) → St → Prop} {w u : World} {bs : List (Option Nat)} {Fs : Nat → Nat → Prop} {sts : List (Option St)} (h : Hf Q w u bs Fs sts) {x : Nat} (hx : All Fs x) : x < u.heap.size := by
  obtain ⟨i, hi⟩ := hx
  exact h.bd i x hi
theorem Hf.below {Q : World → Nat → (Nat → Prop) → St → Prop} (fr : Fr Q) {w u v : World} {bs : List (Option Nat)} {Fs : Nat → Nat → Prop} {sts : List (Option St)} (h : Hf Q w u bs Fs sts) (hb : Below u.heap.size u v) : Hf Q w v bs Fs sts := h.sm fr fun x hx => hb.block x (h.bdA hx)
theorem app_at {α : Type} {l : List α} {x y : α} {i : Nat} (h : (l ++ [x])[i]? = some y) : l[i]? = some y ∨ (i = l.length ∧ x = y) := by
  by_cases e : i < l.length
  · rw [List.getElem?_append_left e] at h
    exact .inl h
  · rw [List.getElem?_append_right (by omega)] at h
    by_cases e2 : i = l.length
    · subst e2
      simp at h
      exact .inr ⟨rfl, h⟩
    · have : i - l.length ≠ 0 := by omega
      obtain ⟨n, hn⟩ := Nat.exists_eq_succ_of_ne_zero this
      rw [hn] at h
      simp at h
theorem app_new {α : Type} (l : List α) (x : α) : (l ++ [x])[l.length]? = some x := by simp
theorem app_old {α : Type} {l : List α} {y : α} (x : α) {i : Nat} (h : l[i]? = some y) : (l ++ [x])[i]? = some y := by
  rw [List.getElem?_append_left (List.getElem?_eq_some_iff.1 h).1]
  exact h
theorem Hf.addN {Q : World → Nat → (Nat → Prop) → St → Prop} {w u : World} {bs : List (Option Nat)} {Fs : Nat → Nat → Prop} {sts : List (Option St)} (h : Hf Q w u bs Fs sts) : Hf Q w u (bs ++ [none]) Fs (sts ++ [none]) := by
  refine ⟨by simp [h.len], fun i B hi => ?_, fun i hi => ?_, h.ap, h.bd, h.lo⟩
  · rcases app_at hi with q | ⟨_, q⟩
    · obtain ⟨st, e, p⟩ := h.one i B q
      exact ⟨st, app_old _ e, p⟩
    · cases q
  · rcases app_at hi with q | ⟨q, _⟩
    · exact app_old _ (h.non i q)
    · rw [q, h.len]
      exact app_new _ _
/-- one more channel, in new blocks -/
theorem Hf.addS {Q : World → Nat → (Nat → Prop) → St → Prop} {w u : World} {bs : List (Option Nat)} {Fs : Nat → Nat → Prop} {sts : List (Option St)} (h : Hf Q w u bs Fs sts) {B : Nat} {F : Nat → Prop} {st : St} (q : Q u B F st) (hF : Bd F u) (hn : ∀ x, F x → ¬ All Fs x) (hl : ∀ x, F x → w.heap.size ≤ x) : Hf Q w u (bs ++ [some B]) (up Fs bs.length F) (sts ++ [some st]) := by
  refine ⟨by simp [h.len], fun i C hi => ?_, fun i hi => ?_, fun i j hij x hx hy => ?_, fun i x hx => ?_, fun x hx => ?_⟩
  · rcases app_at hi with z | ⟨z, e⟩
    · obtain ⟨s1, e, p⟩ := h.one i C z
      refine ⟨s1, app_old _ e, ?_⟩
      rw [up_other _ _ _ _ (by have := (List.getElem?_eq_some_iff.1 z).1; omega)]
      exact p
    · subst z
      cases e
      refine ⟨st, by rw [h.len]; exact app_new _ _, ?_⟩
      rw [up_same]
      exact q
  · rcases app_at hi with z | ⟨_, z⟩
    · exact app_old _ (h.non i z)
    · cases z
  · by_cases e1 : i = bs.length
    · subst e1
      rw [up_same] at hx
      rw [up_other _ _ _ _ (fun e => hij e.symm)] at hy
      exact hn x hx ⟨j, hy⟩
    · rw [up_other _ _ _ _ e1] at hx
      by_cases e2 : j = bs.length
      · subst e2
        rw [up_same] at hy
        exact hn x hy ⟨i, hx⟩
      · rw [up_other _ _ _ _ e2] at hy
        exact h.ap i j hij x hx hy
  · by_cases e : i = bs.length
    · subst e
      rw [up_same] at hx
      exact hF x hx
    · rw [up_other _ _ _ _ e] at hx
      exact h.bd i x hx
  · obtain ⟨i, hi⟩ := hx
    by_cases e : i = bs.length
    · subst e
      rw [up_same] at hi
      exact hl x hi
    · rw [up_other _ _ _ _ e] at hi
      exact h.lo x ⟨i, hi⟩
theorem all_up {Fs : Nat → Nat → Prop} {n : Nat} {F : Nat → Prop} {x : Nat} (h : All (up Fs n F) x) : F x ∨ All Fs x := by
  obtain ⟨i, hi⟩ := h
  by_cases e : i = n
  · subst e
    rw [up_same] at hi
    exact .inl hi
  · rw [up_other _ _ _ _ e] at hi
    exact .inr ⟨i, hi⟩
theorem Hf.qs {Q : World → Nat → (Nat → Prop) → St → Prop} {w u : World} {bs : List (Option Nat)} {Fs : Nat → Nat → Prop} {sts : List (Option St)} (h : Hf Q w u bs Fs sts) {oa : Option Addr} (hr : PR u oa bs) (hn : ∀ a, oa = some a → ¬ All Fs a.block) : Qs Q u oa bs Fs sts :=
  ⟨hr, h.len, h.one, h.non, h.ap, fun a e i hi => hn a e ⟨i, hi⟩, h.bd⟩
/-- the capacities' channels -/
def capS (n : Int) : Option St := if 0 ≤ n ∧ n ≤ 4 then some (st0 n.toNat) else none
end Fk
end Go.Proofs.Ytipimagajnocjaa
/- The laws' own pipes(), walked. -/
namespace Go.Proofs.Ytipimagajnocjaa
open Go.ChangeShapes Go.WideShapes Go.ChangeAt Go.RowKit
namespace Fk
open Ba Pe _root_.Go.Proofs.Ytipimagajnocjaa.Pi Rp

theorem info_pp : (Try.prog.info? 55).map (fun i => (i.zero, i.size, i.bytes)) = some (some (.pointer none), 1, 8) := by kernel_rfl
theorem info_rp : (Try.prog.info? 59).map (fun i => (i.zero, i.size, i.bytes)) = some (some (.pointer none), 1, 8) := by kernel_rfl
def pc (bs : List (Option Nat)) : List Value := bs.map pt
theorem pc_app (bs : List (Option Nat)) (o : Option Nat) : pc bs ++ [pt o] = pc (bs ++ [o]) := by simp [pc]
/-- a row of one's own, of pointers -/
theorem own_pr {w : World} {base : Nat} {e : TypeId} {v : Value} {bs : List (Option Nat)} (h : w.ownsRow base e 1 v bs.length (pc bs)) : ∃ oa c, v = .slice oa bs.length c ∧ PR w oa bs ∧ ∀ a, oa = some a → v.ownBlock = some a.block ∧ a.block < w.heap.size := by
  rcases h.2 with ⟨rfl, h0⟩ | ⟨g, cap, cur, rfl, hbase, hg, hc, _, hcs, htk⟩
  · refine ⟨none, 0, by rw [h0], ?_, fun a e => by cases e⟩
    obtain rfl := List.eq_nil_of_length_eq_zero h0
    exact fun i o hi => by simp at hi
  · refine ⟨_, cap, rfl, ?_, fun a e => by cases e; exact ⟨rfl, heap_lt hg⟩⟩
    intro k o hk
    have hkl := (List.getElem?_eq_some_iff.1 hk).1
    refine ⟨g, 0, rfl, ?_⟩
    have q : (pc bs)[k]? = some (pt o) := by simp [pc, hk]
    rw [← htk, List.getElem?_take_of_lt (by omega)] at q
    rw [Nat.zero_add, cell_of hg]
    simpa using q
/-- a world that differs in one own block at most, and in new ones -/
theorem grown_heap {w w' : World} {o : Option Nat} (h : w.grownBy w' o) {x : Nat} (hx : x < w.heap.size) (hn : some x ≠ o) : w'.heap[x]? = w.heap[x]? := by
  exact h.block x hx hn
/-- the rows and the channels, as far as they are laid -/
structure Po (w u : World) (Z : Nat) (vP vW : Value) (cs ds : List (Option Nat)) (bs : List (Option Nat)) (Fs : Nat → Nat → Prop) (gs : List (Option Nat)) (Gs : Nat → Nat → Prop) (s : List (Option St)) : Prop where
  z : u.heap[Z]? = some (.cells #[vP, vW] 29 (0, 0))
  rp : u.ownsRow w.heap.size 55 1 vP cs.length (pc cs)
  rw : u.ownsRow w.heap.size 59 1 vW ds.length (pc ds)
  p : Hf Pp w u bs Fs s
  r : Hf Rr w u gs Gs s
  ap : ∀ x, All Fs x → ¬ All Gs x
  np : ∀ x, vP.ownBlock = some x → ¬ All Fs x ∧ ¬ All Gs x
  nw : ∀ x, vW.ownBlock = some x → ¬ All Fs x ∧ ¬ All Gs x
  nz : ¬ All Fs Z ∧ ¬ All Gs Z
  b : Below w.heap.size w u
  hz : w.heap.size ≤ Z
theorem Po.below {w u v : World} {Z : Nat} {vP vW : Value} {cs ds bs : List (Option Nat)} {Fs : Nat → Nat → Prop} {gs : List (Option Nat)} {Gs : Nat → Nat → Prop} {s : List (Option St)} (h : Po w u Z vP vW cs ds bs Fs gs Gs s) (hb : Below u.heap.size u v) : Po w v Z vP vW cs ds bs Fs gs Gs s :=
  ⟨heap_below h.z hb, own_below h.rp hb, own_below h.rw hb, h.p.below frP hb, h.r.below frR hb, h.ap, h.np, h.nw, h.nz, btr h.b hb, h.hz⟩
theorem ne_types : (29 : TypeId) ≠ 55 ∧ (29 : TypeId) ≠ 59 ∧ (55 : TypeId) ≠ 59 := by decide
/-- two rows of different types lie in different blocks -/
theorem rows_ne {w : World} {base : Nat} {v v' : Value} {e e' : TypeId} {n n' : Nat} {xs xs' : List Value} (h : w.ownsRow base e 1 v n xs) (h' : w.ownsRow base e' 1 v' n' xs') (hne : e' ≠ e) : v'.ownBlock = none ∨ v'.ownBlock ≠ v.ownBlock := by
  rcases h'.2 with ⟨rfl, _⟩ | ⟨g, cap, cur, rfl, _, hg, _⟩
  · exact .inl rfl
  · exact .inr (own_ty h hg hne)
theorem own_keep {w w' : World} {base : Nat} {e : TypeId} {size : Nat} {v : Value} {n : Nat} {xs : List Value} (h : w.ownsRow base e size v n xs) (hk : ∀ g, v.ownBlock = some g → w'.heap[g]? = w.heap[g]?) : w'.ownsRow base e size v n xs := by
  refine ⟨h.1, ?_⟩
  rcases h.2 with q | ⟨g, cap, cur, q1, q2, q3, q4⟩
  · exact .inl q
  · exact .inr ⟨g, cap, cur, q1, q2, (hk g (by rw [q1]; rfl)).trans q3, q4⟩
theorem own_lt {w : World} {base : Nat} {e : TypeId} {v : Value} {n : Nat} {xs : List Value} (h : w.ownsRow base e 1 v n xs) {g : Nat} (hg : v.ownBlock = some g) : base ≤ g ∧ g < w.heap.size := by
  rcases h.2 with ⟨rfl, _⟩ | ⟨b, cap, cur, rfl, hb, q, _⟩
  · cases hg
  · cases hg
    exact ⟨hb, heap_lt q⟩
theorem Po.app1 {w u w4 : World} {Z : Nat} {vP vW v' : Value} {cs ds bs : List (Option Nat)} {Fs : Nat → Nat → Prop} {gs : List (Option Nat)} {Gs : Nat → Nat → Prop} {s : List (Option St)} (h : Po w u Z vP vW cs ds bs Fs gs Gs s) {o : Option Nat} (ho : w4.ownsRow w.heap.size 55 1 v' (cs.length + 1) (pc cs ++ [pt o])) (hg : u.grownBy w4 vP.ownBlock) (ha : v'.ownBlock = vP.ownBlock ∨ v'.ownBlock = some u.heap.size) :
    w4.heap[Z]? = some (.cells #[vP, vW] 29 (0, 0)) ∧ Po w (w4.setCell ⟨Z, 0, none⟩ v') Z v' vW (cs ++ [o]) ds bs Fs gs Gs s := by
  have hZ := heap_lt h.z
  have z4 : w4.heap[Z]? = some (.cells #[vP, vW] 29 (0, 0)) := (hg.block Z hZ (own_ty h.rp h.z ne_types.1)).trans h.z
  have keep : ∀ x, All Fs x ∨ All Gs x → (w4.setCell ⟨Z, 0, none⟩ v').heap[x]? = u.heap[x]? := by
    intro x hx
    have hlt : x < u.heap.size := by
      rcases hx with q | q
      · exact h.p.bdA q
      · exact h.r.bdA q
    have hne : x ≠ Z := by
      rintro rfl
      rcases hx with q | q
      · exact h.nz.1 q
      · exact h.nz.2 q
    rw [Below.heap_setCell _ _ _ _ hne]
    refine hg.block x hlt ?_
    intro e
    have := h.np x e.symm
    rcases hx with q | q
    · exact this.1 q
    · exact this.2 q
  refine ⟨z4, ?_, ?_, ?_, h.p.sm frP (fun x hx => keep x (.inl hx)), h.r.sm frR (fun x hx => keep x (.inr hx)), h.ap, ?_, h.nw, h.nz, ?_, h.hz⟩
  · exact Ba.heap_setCell_same z4 v'
  · rw [← pc_app, List.length_append]
    refine own_keep ho fun g hgv => Below.heap_setCell _ _ _ _ ?_
    rintro rfl
    exact own_ty ho z4 ne_types.1 hgv.symm
  · refine own_keep h.rw fun g hgv => ?_
    have hgZ : g ≠ Z := by
      rintro rfl
      exact own_ty h.rw h.z ne_types.2.1 hgv.symm
    rw [Below.heap_setCell _ _ _ _ hgZ]
    refine hg.block g (own_lt h.rw hgv).2 ?_
    rcases rows_ne h.rp h.rw ne_types.2.2.symm with q | q
    · rw [q] at hgv
      cases hgv
    · rw [← hgv]
      exact q
  · intro x hx
    rcases ha with e | e
    · exact h.np x (e ▸ hx)
    · rw [e] at hx
      cases hx
      exact ⟨fun q => by have := h.p.bdA q; omega, fun q => by have := h.r.bdA q; omega⟩
  · exact (h.b.grown hg h.b.size (fun x hx => (own_lt h.rp hx).1)).setCell (p := ⟨Z, 0, none⟩) h.hz v'
theorem Po.app2 {w u w4 : World} {Z : Nat} {vP vW v' : Value} {cs ds bs : List (Option Nat)} {Fs : Nat → Nat → Prop} {gs : List (Option Nat)} {Gs : Nat → Nat → Prop} {s : List (Option St)} (h : Po w u Z vP vW cs ds bs Fs gs Gs s) {o : Option Nat} (ho : w4.ownsRow w.heap.size 59 1 v' (ds.length + 1) (pc ds ++ [pt o])) (hg : u.grownBy w4 vW.ownBlock) (ha : v'.ownBlock = vW.ownBlock ∨ v'.ownBlock = some u.heap.size) :
    w4.heap[Z]? = some (.cells #[vP, vW] 29 (0, 0)) ∧ Po w (w4.setCell ⟨Z, 1, none⟩ v') Z vP v' cs (ds ++ [o]) bs Fs gs Gs s := by
  have hZ := heap_lt h.z
  have z4 : w4.heap[Z]? = some (.cells #[vP, vW] 29 (0, 0)) := (hg.block Z hZ (own_ty h.rw h.z ne_types.2.1)).trans h.z
  have keep : ∀ x, All Fs x ∨ All Gs x → (w4.setCell ⟨Z, 1, none⟩ v').heap[x]? = u.heap[x]? := by
    intro x hx
    have hlt : x < u.heap.size := by
      rcases hx with q | q
      · exact h.p.bdA q
      · exact h.r.bdA q
    have hne : x ≠ Z := by
      rintro rfl
      rcases hx with q | q
      · exact h.nz.1 q
      · exact h.nz.2 q
    rw [Below.heap_setCell _ _ _ _ hne]
    refine hg.block x hlt ?_
    intro e
    have := h.nw x e.symm
    rcases hx with q | q
    · exact this.1 q
    · exact this.2 q
  refine ⟨z4, ?_, ?_, ?_, h.p.sm frP (fun x hx => keep x (.inl hx)), h.r.sm frR (fun x hx => keep x (.inr hx)), h.ap, h.np, ?_, h.nz, ?_, h.hz⟩
  · exact Ba.heap_setCell_same z4 v'
  · refine own_keep h.rp fun g hgv => ?_
    have hgZ : g ≠ Z := by
      rintro rfl
      exact own_ty h.rp h.z ne_types.1 hgv.symm
    rw [Below.heap_setCell _ _ _ _ hgZ]
    refine hg.block g (own_lt h.rp hgv).2 ?_
    rcases rows_ne h.rw h.rp ne_types.2.2 with q | q
    · rw [q] at hgv
      cases hgv
    · rw [← hgv]
      exact q
  · rw [← pc_app, List.length_append]
    refine own_keep ho fun g hgv => Below.heap_setCell _ _ _ _ ?_
    rintro rfl
    exact own_ty ho z4 ne_types.2.1 hgv.symm
  · intro x hx
    rcases ha with e | e
    · exact h.nw x (e ▸ hx)
    · rw [e] at hx
      cases hx
      exact ⟨fun q => by have := h.p.bdA q; omega, fun q => by have := h.r.bdA q; omega⟩
  · exact (h.b.grown hg h.b.size (fun x hx => (own_lt h.rw hx).1)).setCell (p := ⟨Z, 1, none⟩) h.hz v'
end Fk
end Go.Proofs.Ytipimagajnocjaa
/- The laws' own pipes(), walked. -/
namespace Go.Proofs.Ytipimagajnocjaa
open Go.ChangeShapes Go.WideShapes Go.ChangeAt Go.RowKit
namespace Fk
open Ba Pe _root_.Go.Proofs.Ytipimagajnocjaa.Pi Rp

def PiP (w : World) (sizes : List Int) (r : Ending) (w' : World) : Prop := ∃ oa cp bs Fs ob cq gs Gs, r = .returned (.agg #[.slice oa bs.length cp, .slice ob gs.length cq]) ∧ bs.length = sizes.length ∧ gs.length = sizes.length ∧ Tw w w' oa bs Fs ob gs Gs (sizes.map capS) (sizes.map capS)
theorem size_pipes : (Try.prog.info? 29).map (·.size) = some 2 := by kernel_rfl
theorem loadVar_pipes {w : World} {b : Nat} {c : Array Value} {t : TypeId} (h : w.heap[b]? = some (.cells c t (0, 0))) (hc : c.size = 2) : (loadVar 29 ⟨b, 0, none⟩).run Try.prog w = .ok (.agg c) w :=
  run_loadVar_row w b t _ _ _ _ h Try.underlying29 rfl (by rw [size_pipes, hc])
/-- how far the loop is -/
structure Pz (w : World) (sizes : List Int) (k : Nat) (wr : World) (vP vW : Value) (bs : List (Option Nat)) (Fs : Nat → Nat → Prop) (gs : List (Option Nat)) (Gs : Nat → Nat → Prop) : Prop where
  po : Po w wr (w.heap.size + 1) vP vW bs gs bs Fs gs Gs ((sizes.take k).map capS)
  lb : bs.length = k
  lg : gs.length = k
  y : wr.heap[w.heap.size]? = some (.cells #[.slice none 0 0, .slice none 0 0] 29)
  ny : ¬ All Fs w.heap.size ∧ ¬ All Gs w.heap.size
set_option maxRecDepth 100000 in
set_option maxHeartbeats 6400000 in
theorem pipes_any (w : World) (oz : Option Addr) (sizes : List Int) (cz : Nat) (hA : At w oz sizes) (hl : sizes.length ≤ 20) :
    Calls Try.prog 8 #[.slice oz sizes.length cz] w fun r w' => PiP w sizes r w' := by
  cases hi : Try.prog.info? 55 with
  | none => have := info_pp; rw [hi] at this; cases this
  | some ip =>
  cases hj : Try.prog.info? 59 with
  | none => have := info_rp; rw [hj] at this; cases this
  | some ir =>
  have hp2 := info_pp
  rw [hi] at hp2
  simp at hp2
  have hr2 := info_rp
  rw [hj] at hr2
  simp at hr2
  have IP := hide (And.intro hi hp2)
  have IR := hide (And.intro hj hr2)
  clear hp2 hr2 hi hj
  have HA := hide hA
  clear hA
  have b1 := below_alloc w (.cells #[.slice none 0 0, .slice none 0 0] 29)
  have b2 := below_alloc (w.alloc (.cells #[.slice none 0 0, .slice none 0 0] 29)) (.cells #[.slice none 0 0, .slice none 0 0] 29)
  have P0 : Hid (Pz w sizes 0 ((w.alloc (.cells #[.slice none 0 0, .slice none 0 0] 29)).alloc (.cells #[.slice none 0 0, .slice none 0 0] 29)) (.slice none 0 0) (.slice none 0 0) [] (fun _ _ => False) [] (fun _ _ => False)) :=
    ⟨⟨heap_new2 _ _ _, World.ownsRow_nil _ _ _ _, World.ownsRow_nil _ _ _ _, Hf.nil _ _, Hf.nil _ _, (fun _ ⟨_, h⟩ => h.elim), (fun _ h => by cases h), (fun _ h => by cases h), ⟨(fun ⟨_, h⟩ => h), (fun ⟨_, h⟩ => h)⟩, btr b1 b2, Nat.le_succ _⟩, rfl, rfl, heap_below (heap_new _ _) b2, ⟨(fun ⟨_, h⟩ => h), (fun ⟨_, h⟩ => h)⟩⟩
  clear b1 b2
  go_enter Try.func8, Try.ntmps8
  go_wp2_with fail
  go_loopw [13] (fun i wr => ∃ (k : Nat) (vP vW : Value) (bs : List (Option Nat)) (Fs : Nat → Nat → Prop) (gs : List (Option Nat)) (Gs : Nat → Nat → Prop), k ≤ sizes.length ∧ i = .int .i64 k ∧ Pz w sizes k wr vP vW bs Fs gs Gs) (fun i _ => sizes.length - (intOf i).toNat)
  case atStart => exact ⟨0, _, _, [], _, [], _, Nat.zero_le _, rfl, P0.out⟩
  case round =>
    clear P0
    obtain ⟨k, vP, vW, bs, Fs, gs, Gs, hk, rfl, pz⟩ := hrel
    have PZ := hide pz
    clear pz
    by_cases hlt : k < sizes.length
    · have hlt' : (k : Int) < (sizes.length : Int) := by omega
      obtain ⟨b, off, eo, q⟩ := HA.out.below PZ.out.po.b k hlt
      subst eo
      obtain ⟨n, hn⟩ : ∃ n, n = nth sizes k := ⟨_, rfl⟩
      rw [← hn] at q
      have TK : Hid ((sizes.take (k + 1)).map capS = (sizes.take k).map capS ++ [capS n]) := by
        show _ = _
        rw [List.take_succ_eq_append_getElem hlt, List.map_append, hn, nth_lt _ _ hlt]
        rfl
      have hbl : bs.length ≤ 20 := by have := PZ.out.lb; omega
      have hgl : gs.length ≤ 20 := by have := PZ.out.lg; omega
      clear hn
      by_cases hsz : n < 0 ∨ 4 < n
      · have CN : Hid (capS n = none) := by show _ = _; unfold capS; rw [if_neg (by omega)]
        have Q1 := hide (PZ.out.po.below (below_alloc wr (.cells #[.pointer none] 55)))
        have z0 : wr.cell? ⟨w.heap.size + 1, 0, none⟩ = some vP := cell_of PZ.out.po.z 0
        have z1 : wr.cell? ⟨w.heap.size + 1, 1, none⟩ = some vW := cell_of PZ.out.po.z 1
        go_wp2_with fail
        refine (Pi.new_err n _ hsz).mono ?_
        rintro r w1 ⟨rfl, rfl⟩
        go_wp2_with fail
        refine (rnew_err n _ hsz).mono ?_
        rintro r w2 ⟨rfl, rfl⟩
        go_wp2_with (at_builtin; refine wpList_append_own_at _ rfl _ _ 26 rfl w.heap.size 55 ip (.pointer none) 1 8 Try.underlying26 IP.out.1 IP.out.2.1 IP.out.2.2.1 IP.out.2.2.2 rfl (by decide) _ _ _ rfl Q1.out.rp ⟨w2.heap.size, 0, none⟩ 1 1 [.pointer none] rfl rfl ?c1 ?c2 ?c3 ?c4 ?c5 ?_)
        case c1 => exact cell_one_new _ _ _
        case c2 => intro u hu; rw [List.mem_singleton] at hu; rw [hu]; rfl
        case c3 => unfold maxLen; omega
        case c4 => omega
        case c5 => exact Q1.out.b.size
        intro v1 w4 ho hg3 _ ha3
        obtain ⟨z4, p4⟩ := Q1.out.app1 (o := none) ho hg3 (by rw [World.size_alloc]; exact ha3)
        obtain ⟨o1, k1, e1, -, -⟩ := own_pr p4.rp
        have P4 := hide p4
        have y3 := heap_below PZ.out.y (below_alloc w2 (.cells #[.pointer none] 55))
        have Y5 := hide ((Below.heap_setCell w4 ⟨w.heap.size + 1, 0, none⟩ v1 _ (show w.heap.size ≠ w.heap.size + 1 by omega)).trans ((hg3.block _ (heap_lt y3) (own_ty Q1.out.rp y3 ne_types.1)).trans y3))
        have a0 := cell_of z4 0
        have a1 := cell_of z4 1
        have f0 := frozen_of z4 0
        clear ho hg3 ha3 z0 z1 p4 y3 Q1 z4
        subst e1
        obtain ⟨L1, hL1⟩ : ∃ L1, (bs ++ [none]).length = L1 := ⟨_, rfl⟩
        rw [hL1] at P4 Y5 ⊢
        have sz5 : (w4.setCell ⟨w.heap.size + 1, 0, none⟩ (.slice o1 L1 k1)).heap.size = w4.heap.size := by simp [World.setCell]
        have SZ := hide sz5
        have Q2 := hide (P4.out.below (below_alloc _ (.cells #[.pointer none] 59)))
        have Y6 := hide (heap_below Y5.out (below_alloc _ (.cells #[.pointer none] 59)))
        clear sz5 hL1
        go_wp2_with (at_builtin; refine wpList_append_own_at _ rfl _ _ 27 rfl w.heap.size 59 ir (.pointer none) 1 8 Try.underlying27 IR.out.1 IR.out.2.1 IR.out.2.2.1 IR.out.2.2.2 rfl (by decide) _ _ _ rfl Q2.out.rw ⟨w4.heap.size, 0, none⟩ 1 1 [.pointer none] rfl rfl ?c1 ?c2 ?c3 ?c4 ?c5 ?_)
        case c1 =>
          have q := cell_one_new (w4.setCell ⟨w.heap.size + 1, 0, none⟩ (.slice o1 L1 k1)) (.pointer none) 59
          rw [SZ.out] at q
          exact q
        case c2 => intro u hu; rw [List.mem_singleton] at hu; rw [hu]; rfl
        case c3 => unfold maxLen; omega
        case c4 => omega
        case c5 => exact Q2.out.b.size
        intro v2 w7 ho hg3 _ ha3
        obtain ⟨z7, p7⟩ := Q2.out.app2 (o := none) ho hg3 (by rw [World.size_alloc, SZ.out]; exact ha3)
        obtain ⟨o2, k2, e2, -, -⟩ := own_pr p7.rw
        have Y8 := hide ((Below.heap_setCell w7 ⟨w.heap.size + 1, 1, none⟩ v2 _ (show w.heap.size ≠ w.heap.size + 1 by omega)).trans ((hg3.block _ (heap_lt Y6.out) (own_ty Q2.out.rw Y6.out ne_types.2.1)).trans Y6.out))
        have a4 := cell_of z7 0
        have a5 := cell_of z7 1
        have f5 := frozen_of z7 1
        have NXT : Hid (Pz w sizes (k + 1) (w7.setCell ⟨w.heap.size + 1, 1, none⟩ v2) (.slice o1 L1 k1) v2 (bs ++ [none]) Fs (gs ++ [none]) Gs) := by
          refine ⟨?_, by simp [PZ.out.lb], by simp [PZ.out.lg], Y8.out, PZ.out.ny⟩
          rw [TK.out, CN.out]
          exact ⟨p7.z, p7.rp, p7.rw, p7.p.addN, p7.r.addN, p7.ap, p7.np, p7.nw, p7.nz, p7.b, p7.hz⟩
        clear ho hg3 ha3 p7 z7 Q2 Y6 P4 Y5 a0 a1 f0 Y8
        subst e2
        obtain ⟨L2, hL2⟩ : ∃ L2, (gs ++ [none]).length = L2 := ⟨_, rfl⟩
        rw [hL2] at NXT ⊢
        clear hL2
        go_wp2_with fail
        go_roundw
        case rel => exact ⟨k + 1, _, _, _, _, _, _, by omega, by go_num, NXT.out⟩
        case measure => simp [intOf]; omega
      · obtain ⟨m, rfl⟩ := Int.eq_ofNat_of_zero_le (show 0 ≤ n by omega)
        have hm : m ≤ 4 := by omega
        have CN : Hid (capS (m : Int) = some (st0 m)) := by show _ = _; unfold capS; rw [if_pos (by omega)]; rfl
        clear hsz
        go_wp2_with fail
        refine (Pi.new_ok m _ hm).mono ?_
        rintro r w1 ⟨B, F, rfl, p1, l1, b1⟩
        have P1 := hide p1
        have L1' := hide l1
        have B1 := hide b1
        clear p1 l1 b1
        go_wp2_with fail
        refine (rnew_ok m _ hm).mono ?_
        rintro r w2 ⟨G, R, rfl, r2, l2, b2⟩
        have PA : Hid (∃ F1 G1, Po w w2 (w.heap.size + 1) vP vW bs gs (bs ++ [some B]) F1 (gs ++ [some G]) G1 ((sizes.take k).map capS ++ [some (st0 m)]) ∧ (¬ All F1 w.heap.size ∧ ¬ All G1 w.heap.size)) := by
          have h := PZ.out.po
          have BB := btr B1.out b2
          have h2 := h.below BB
          have s1 := B1.out.size
          have s0 := h.b.size
          have fF : ∀ x, F x → wr.heap.size ≤ x ∧ x < w1.heap.size := fun x hx => ⟨L1'.out x hx, P1.out.bd x hx⟩
          have fR : ∀ x, R x → w1.heap.size ≤ x := l2
          have old : ∀ x, x < wr.heap.size → ¬ All Fs x ∧ ¬ All Gs x → ¬ All (up Fs bs.length F) x ∧ ¬ All (up Gs gs.length R) x := by
            intro x hx hn
            refine ⟨fun q => ?_, fun q => ?_⟩
            · rcases all_up q with z | z
              · have := fF x z
                omega
              · exact hn.1 z
            · rcases all_up q with z | z
              · have := fR x z
                omega
              · exact hn.2 z
          refine ⟨up Fs bs.length F, up Gs gs.length R, ⟨h2.z, h2.rp, h2.rw, h2.p.addS (P1.out.below b2) (P1.out.below b2).bd (fun x hx q => ?_) (fun x hx => ?_), h2.r.addS r2 r2.bd (fun x hx q => ?_) (fun x hx => ?_), ?_, fun x hx => old x (own_lt h.rp hx).2 (h.np x hx), fun x hx => old x (own_lt h.rw hx).2 (h.nw x hx), old _ (heap_lt h.z) h.nz, h2.b, h2.hz⟩, old _ (heap_lt PZ.out.y) PZ.out.ny⟩
          · have := (fF x hx).1
            have := h.p.bdA q
            omega
          · have := (fF x hx).1
            omega
          · have := fR x hx
            have := h.r.bdA q
            omega
          · have := fR x hx
            omega
          · intro x hx hy
            rcases all_up hx with z | z
            · rcases all_up hy with z' | z'
              · have := fF x z
                have := fR x z'
                omega
              · have := fF x z
                have := h.r.bdA z'
                omega
            · rcases all_up hy with z' | z'
              · have := h.p.bdA z
                have := fR x z'
                omega
              · exact h.ap x z z'
        obtain ⟨F1, G1, pa, nya⟩ := PA.out
        have NYA := hide nya
        have YA := hide (heap_below PZ.out.y (btr B1.out b2))
        have Q1 := hide (pa.below (below_alloc w2 (.cells #[.pointer (some ⟨B, 0, none⟩)] 55)))
        have z0 : w2.cell? ⟨w.heap.size + 1, 0, none⟩ = some vP := cell_of pa.z 0
        have z1 : w2.cell? ⟨w.heap.size + 1, 1, none⟩ = some vW := cell_of pa.z 1
        clear PA pa nya r2 l2 b2 P1 L1' B1 q
        go_wp2_with (at_builtin; refine wpList_append_own_at _ rfl _ _ 26 rfl w.heap.size 55 ip (.pointer none) 1 8 Try.underlying26 IP.out.1 IP.out.2.1 IP.out.2.2.1 IP.out.2.2.2 rfl (by decide) _ _ _ rfl Q1.out.rp ⟨w2.heap.size, 0, none⟩ 1 1 [.pointer (some ⟨B, 0, none⟩)] rfl rfl ?c1 ?c2 ?c3 ?c4 ?c5 ?_)
        case c1 => exact cell_one_new _ _ _
        case c2 => intro u hu; rw [List.mem_singleton] at hu; rw [hu]; rfl
        case c3 => unfold maxLen; omega
        case c4 => omega
        case c5 => exact Q1.out.b.size
        intro v1 w4 ho hg3 _ ha3
        obtain ⟨z4, p4⟩ := Q1.out.app1 (o := some B) ho hg3 (by rw [World.size_alloc]; exact ha3)
        obtain ⟨o1, k1, e1, -, -⟩ := own_pr p4.rp
        have P4 := hide p4
        have y3 := heap_below YA.out (below_alloc w2 (.cells #[.pointer (some ⟨B, 0, none⟩)] 55))
        have Y5 := hide ((Below.heap_setCell w4 ⟨w.heap.size + 1, 0, none⟩ v1 _ (show w.heap.size ≠ w.heap.size + 1 by omega)).trans ((hg3.block _ (heap_lt y3) (own_ty Q1.out.rp y3 ne_types.1)).trans y3))
        have a0 := cell_of z4 0
        have a1 := cell_of z4 1
        have f0 := frozen_of z4 0
        clear ho hg3 ha3 z0 z1 p4 y3 Q1 z4
        subst e1
        obtain ⟨L1, hL1⟩ : ∃ L1, (bs ++ [some B]).length = L1 := ⟨_, rfl⟩
        rw [hL1] at P4 Y5 ⊢
        have sz5 : (w4.setCell ⟨w.heap.size + 1, 0, none⟩ (.slice o1 L1 k1)).heap.size = w4.heap.size := by simp [World.setCell]
        have SZ := hide sz5
        have Q2 := hide (P4.out.below (below_alloc _ (.cells #[.pointer (some ⟨G, 0, none⟩)] 59)))
        have Y6 := hide (heap_below Y5.out (below_alloc _ (.cells #[.pointer (some ⟨G, 0, none⟩)] 59)))
        clear sz5 hL1
        go_wp2_with (at_builtin; refine wpList_append_own_at _ rfl _ _ 27 rfl w.heap.size 59 ir (.pointer none) 1 8 Try.underlying27 IR.out.1 IR.out.2.1 IR.out.2.2.1 IR.out.2.2.2 rfl (by decide) _ _ _ rfl Q2.out.rw ⟨w4.heap.size, 0, none⟩ 1 1 [.pointer (some ⟨G, 0, none⟩)] rfl rfl ?c1 ?c2 ?c3 ?c4 ?c5 ?_)
        case c1 =>
          have q := cell_one_new (w4.setCell ⟨w.heap.size + 1, 0, none⟩ (.slice o1 L1 k1)) (.pointer (some ⟨G, 0, none⟩)) 59
          rw [SZ.out] at q
          exact q
        case c2 => intro u hu; rw [List.mem_singleton] at hu; rw [hu]; rfl
        case c3 => unfold maxLen; omega
        case c4 => omega
        case c5 => exact Q2.out.b.size
        intro v2 w7 ho hg3 _ ha3
        obtain ⟨z7, p7⟩ := Q2.out.app2 (o := some G) ho hg3 (by rw [World.size_alloc, SZ.out]; exact ha3)
        obtain ⟨o2, k2, e2, -, -⟩ := own_pr p7.rw
        have Y8 := hide ((Below.heap_setCell w7 ⟨w.heap.size + 1, 1, none⟩ v2 _ (show w.heap.size ≠ w.heap.size + 1 by omega)).trans ((hg3.block _ (heap_lt Y6.out) (own_ty Q2.out.rw Y6.out ne_types.2.1)).trans Y6.out))
        have a4 := cell_of z7 0
        have a5 := cell_of z7 1
        have f5 := frozen_of z7 1
        have NXT : Hid (Pz w sizes (k + 1) (w7.setCell ⟨w.heap.size + 1, 1, none⟩ v2) (.slice o1 L1 k1) v2 (bs ++ [some B]) F1 (gs ++ [some G]) G1) := by
          refine ⟨?_, by simp [PZ.out.lb], by simp [PZ.out.lg], Y8.out, NYA.out⟩
          rw [TK.out, CN.out]
          exact p7
        clear ho hg3 ha3 p7 z7 Q2 Y6 P4 Y5 a0 a1 f0 Y8
        subst e2
        obtain ⟨L2, hL2⟩ : ∃ L2, (gs ++ [some G]).length = L2 := ⟨_, rfl⟩
        rw [hL2] at NXT ⊢
        clear hL2
        go_wp2_with fail
        go_roundw
        case rel => exact ⟨k + 1, _, _, _, _, _, _, by omega, by go_num, NXT.out⟩
        case measure => simp [intOf]; omega
    · have hlt' : ¬ ((k : Int) < (sizes.length : Int)) := by omega
      obtain rfl : k = sizes.length := by omega
      have hb' : bs.length = sizes.length := PZ.out.lb
      have hg' : gs.length = sizes.length := PZ.out.lg
      obtain ⟨oa, cp, e1, pr, o1⟩ := own_pr PZ.out.po.rp
      obtain ⟨ob, cq, e2, rr, o2⟩ := own_pr PZ.out.po.rw
      subst e1
      subst e2
      have z0 : wr.cell? ⟨w.heap.size + 1, 0, none⟩ = some (.slice oa bs.length cp) := cell_of PZ.out.po.z 0
      have z1 : wr.cell? ⟨w.heap.size + 1, 1, none⟩ = some (.slice ob gs.length cq) := cell_of PZ.out.po.z 1
      have y0 : wr.cell? ⟨w.heap.size, 0, none⟩ = some (.slice none 0 0) := cell_of PZ.out.y 0
      have y1 : wr.cell? ⟨w.heap.size, 1, none⟩ = some (.slice none 0 0) := cell_of PZ.out.y 1
      have f0 := frozen_of PZ.out.y 0
      have f1 := frozen_of PZ.out.y 1
      have FIN : Hid (∀ v, (∀ x, x ≠ w.heap.size → v.heap[x]? = wr.heap[x]?) → Below w.heap.size w v → wr.heap.size ≤ v.heap.size → Tw w v oa bs Fs ob gs Gs (sizes.map capS) (sizes.map capS)) := by
        intro v hv bv sv
        have hpo := PZ.out.po
        rw [List.take_length] at hpo
        have kp : ∀ x, All Fs x → v.heap[x]? = wr.heap[x]? := fun x hx => hv x (fun e => PZ.out.ny.1 (e ▸ hx))
        have kr : ∀ x, All Gs x → v.heap[x]? = wr.heap[x]? := fun x hx => hv x (fun e => PZ.out.ny.2 (e ▸ hx))
        have qa : ∀ a, oa = some a → v.heap[a.block]? = wr.heap[a.block]? := fun a e => hv _ (fun q => own_ty hpo.rp PZ.out.y ne_types.1 (by rw [(o1 a e).1, q]))
        have qb : ∀ a, ob = some a → v.heap[a.block]? = wr.heap[a.block]? := fun a e => hv _ (fun q => own_ty hpo.rw PZ.out.y ne_types.2.1 (by rw [(o2 a e).1, q]))
        refine ⟨(hpo.p.sm frP kp).qs (pr.keep (fun a e _ => qa a e)) (fun a e => (hpo.np _ (o1 a e).1).1), (hpo.r.sm frR kr).qs (rr.keep (fun a e _ => qb a e)) (fun a e => (hpo.nw _ (o2 a e).1).2), hpo.ap, fun a e => ⟨Nat.lt_of_lt_of_le (o1 a e).2 sv, (hpo.np _ (o1 a e).1).2⟩, fun a e => ⟨Nat.lt_of_lt_of_le (o2 a e).2 sv, (hpo.nw _ (o2 a e).1).1⟩, bv, hpo.p.lo, hpo.r.lo⟩
      have HB := hide hb'
      have HG := hide hg'
      have BD : Hid (∀ v0 v1, Below w.heap.size w ((wr.setCell ⟨w.heap.size, 0, none⟩ v0).setCell ⟨w.heap.size, 1, none⟩ v1)) := fun v0 v1 => (PZ.out.po.b.setCell (p := ⟨w.heap.size, 0, none⟩) (Nat.le_refl _) v0).setCell (p := ⟨w.heap.size, 1, none⟩) (Nat.le_refl _) v1
      have YY := hide PZ.out.y
      clear pr rr o1 o2 hb' hg'
      go_wp2_with fail
      refine bodyPost_ret (results_row1 Try.results8 _ _ _ _ rfl (loadVar_pipes (Ba.heap_setCell_same (Ba.heap_setCell_same YY.out _) _) rfl)) rfl ⟨oa, cp, bs, Fs, ob, cq, gs, Gs, rfl, HB.out, HG.out, FIN.out _ (fun x hx => ?_) (BD.out _ _) ?_⟩
      · rw [Below.heap_setCell _ _ _ _ hx, Below.heap_setCell _ _ _ _ hx]
      · simp [World.setCell]
end Fk
end Go.Proofs.Ytipimagajnocjaa
/- The laws' first half: pipes of capacities, and acts on them, one by one; ForkReady's walk. -/
namespace Go.Proofs.Ytipimagajnocjaa
open Go.ChangeShapes Go.WideShapes Go.ChangeAt Go.RowKit
namespace Fk
open Ba Pe _root_.Go.Proofs.Ytipimagajnocjaa.Pi Rp

theorem cap_cn (sizes : List Int) : Cn 0 (sizes.map capS) := by
  intro i st hi
  rw [List.getElem?_map] at hi
  cases h : sizes[i]? with
  | none => rw [h] at hi; cases hi
  | some n =>
    rw [h] at hi
    simp only [Option.map_some, Option.some.injEq] at hi
    unfold capS at hi
    split at hi
    · cases hi
      exact ⟨Nat.le_refl _, Nat.le_refl _, Nat.le_refl _, Nat.le_refl _⟩
    · cases hi
/-- behind k acts: the channels, and a block of the law's -/
structure Lw (w u : World) (D : Nat) (od : Obj) (oa : Option Addr) (bs : List (Option Nat)) (ob : Option Addr) (gs : List (Option Nat)) (k : Nat) (Fs Gs : Nat → Nat → Prop) (s : List (Option St)) : Prop where
  t : Tw w u oa bs Fs ob gs Gs s s
  d : u.heap[D]? = some od
  nd : ¬ All Fs D ∧ ¬ All Gs D
  c : Cn k s
theorem Lw.below {w u v : World} {D : Nat} {od : Obj} {oa : Option Addr} {bs : List (Option Nat)} {ob : Option Addr} {gs : List (Option Nat)} {k : Nat} {Fs Gs : Nat → Nat → Prop} {s : List (Option St)} (h : Lw w u D od oa bs ob gs k Fs Gs s) (hb : Below u.heap.size u v) : Lw w v D od oa bs ob gs k Fs Gs s := ⟨h.t.below hb, heap_below h.d hb, h.nd, h.c⟩
theorem Lw.act {w u v : World} {D : Nat} {od : Obj} {oa : Option Addr} {bs : List (Option Nat)} {ob : Option Addr} {gs : List (Option Nat)} {k : Nat} {Fs Gs : Nat → Nat → Prop} {s : List (Option St)} (h : Lw w u D od oa bs ob gs k Fs Gs s) {what g : Int} {c : Ca} {l : List Ca} (p : AcP w u v oa bs Fs ob gs Gs (actS what g c l s)) : ∃ Fs' Gs', Lw w v D od oa bs ob gs (k + 1) Fs' Gs' (actS what g c l s) := by
  obtain ⟨F', G', t, r⟩ := p
  exact ⟨F', G', t, r.heap h.d h.nd.1 h.nd.2, (r.2 D (heap_lt h.d) h.nd.1 h.nd.2).2, act_cn h.c what g c l⟩
/-- what was there ahead of the pipes is none of theirs -/
theorem Lw.out {w u : World} {D : Nat} {od : Obj} {oa : Option Addr} {bs : List (Option Nat)} {ob : Option Addr} {gs : List (Option Nat)} {k : Nat} {Fs Gs : Nat → Nat → Prop} {s : List (Option St)} (h : Lw w u D od oa bs ob gs k Fs Gs s) {la : Option Addr} {l : List Ca} (hC : CaAt w la l) : Out Fs Gs la l := by
  intro hl a e
  have := hC.lt hl a e
  exact ⟨fun q => by have := h.t.lf _ q; omega, fun q => by have := h.t.lg _ q; omega⟩
end Fk
end Go.Proofs.Ytipimagajnocjaa
/- The laws' own alike(), over this seat's program. -/
namespace Go.Proofs.Ytipimagajnocjaa
open Go.ChangeShapes Go.WideShapes Go.ChangeAt Go.RowKit
namespace Fk
open Ba Pe _root_.Go.Proofs.Ytipimagajnocjaa.Pi Rp

/-- where one side has a channel, the other has it, too -/
theorem both {u : World} {oa : Option Addr} {bs : List (Option Nat)} {Fs : Nat → Nat → Prop} {ob : Option Addr} {gs : List (Option Nat)} {Gs : Nat → Nat → Prop} {s : List (Option St)} (hp : Qs Pp u oa bs Fs s) (hr : Qs Rr u ob gs Gs s) {k B : Nat} (hk : bs[k]? = some (some B)) : ∃ G st, gs[k]? = some (some G) ∧ Pp u B (Fs k) st ∧ Rr u G (Gs k) st := by
  obtain ⟨st, h1, h2⟩ := hp.one k B hk
  have hl : k < gs.length := by
    rw [hr.len]
    exact (List.getElem?_eq_some_iff.1 h1).1
  obtain ⟨o, ho⟩ : ∃ o, gs[k]? = some o := ⟨_, List.getElem?_eq_getElem hl⟩
  cases o with
  | none =>
    have := hr.non k ho
    rw [h1] at this
    cases this
  | some G =>
    obtain ⟨st', h3, h4⟩ := hr.one k G ho
    rw [h1] at h3
    cases h3
    exact ⟨G, st, ho, h2, h4⟩
set_option maxRecDepth 100000 in
set_option maxHeartbeats 6400000 in
theorem alike_any (u : World) (oa : Option Addr) (bs : List (Option Nat)) (cp : Nat) (Fs : Nat → Nat → Prop) (ob : Option Addr) (gs : List (Option Nat)) (cq : Nat) (Gs : Nat → Nat → Prop) (s : List (Option St)) (hp : Qs Pp u oa bs Fs s) (hr : Qs Rr u ob gs Gs s) (hb : bs.length ≤ 1000) :
    Calls Try.prog 10 #[(.agg #[.slice oa bs.length cp, .slice ob gs.length cq])] u fun r w' => r = .returned (.bool true) ∧ Below u.heap.size u w' := by
  have BX := hide (below_alloc u (.cells #[.slice oa bs.length cp, .slice ob gs.length cq] 29))
  have X1 := hide (heap_new u (.cells #[.slice oa bs.length cp, .slice ob gs.length cq] 29))
  have P1 := hide (hp.below frP BX.out)
  have R1 := hide (hr.below frR BX.out)
  have hgl : gs.length = bs.length := by rw [hr.len, hp.len]
  have HGL := hide hgl
  clear hp hr hgl
  go_enter Try.func10, Try.ntmps10
  go_wp2_with fail
  generalize u.alloc (.cells #[.slice oa bs.length cp, .slice ob gs.length cq] 29) = U1 at BX X1 P1 R1 ⊢
  generalize u.heap.size = X at X1 ⊢
  have x0 : U1.cell? ⟨X, 0, none⟩ = some (.slice oa bs.length cp) := cell_of X1.out 0
  go_wp2_with fail
  go_loopw [13] (fun i wr => ∃ k : Nat, k ≤ bs.length ∧ i = .int .i64 k ∧ Below U1.heap.size U1 wr) (fun i _ => bs.length - (intOf i).toNat)
  case atStart => exact ⟨0, Nat.zero_le _, rfl, Below.refl _ _⟩
  case round =>
    clear x0
    obtain ⟨k, hk, rfl, hb2⟩ := hrel
    have B2 := hide hb2
    have X2 := hide (heap_below X1.out hb2)
    have P2 := hide (P1.out.below frP hb2)
    have R2 := hide (R1.out.below frR hb2)
    clear hb2
    rename World => w2
    by_cases hlt : k < bs.length
    · have hlt' : (k : Int) < (bs.length : Int) := by omega
      obtain ⟨o, ho⟩ : ∃ o, bs[k]? = some o := ⟨_, List.getElem?_eq_getElem hlt⟩
      obtain ⟨b0, off0, rfl, c0⟩ := P2.out.row k o ho
      cases o with
      | none =>
        simp only [pt, Option.map_none] at c0
        clear ho
        go_wp2_with fail
        go_roundw
        case rel => exact ⟨k + 1, by omega, by go_num, B2.out⟩
        case measure => simp [intOf]; omega
      | some B =>
        obtain ⟨G, st, hG, pp, rr⟩ := both P2.out R2.out ho
        obtain ⟨b1, off1, rfl, c1⟩ := R2.out.row k _ hG
        have hgk : (k : Int) < (gs.length : Int) := by have := HGL.out; omega
        simp only [pt, Option.map_some] at c0 c1
        have x1 : w2.cell? ⟨X, 1, none⟩ = some (.slice (some ⟨b1, off1, none⟩) gs.length cq) := cell_of X2.out 1
        have PP := hide pp
        have RR := hide rr
        clear ho hG pp rr
        have WT := hide fun v (h : Pp v B (Fs k) st) => waiting_any B (Fs k) st true v h
        have WF := hide fun v (h : Pp v B (Fs k) st) => waiting_any B (Fs k) st false v h
        have LE := hide fun v (h : Pp v B (Fs k) st) => len_any B (Fs k) st v h
        have CL := hide fun v (h : Pp v B (Fs k) st) => closed_any B (Fs k) st v h
        rw [show own st true = st.snd from rfl] at WT
        rw [show own st false = st.rcv from rfl] at WF
        go_wp2_with fail
        refine (WT.out _ PP.out).mono ?_
        rintro r w3 ⟨oS, cS, rfl, aS, b3⟩
        have B3 := hide (btr B2.out b3)
        have PP3 := hide (PP.out.below b3)
        have RR3 := hide (RR.out.below b3)
        have AS3 := hide aS
        clear b3 aS PP RR B2 c0 c1 x1 WT
        go_wp2_with fail
        refine (WF.out _ PP3.out).mono ?_
        rintro r w4 ⟨oQ, cQ, rfl, aQ, b4⟩
        have B4 := hide (btr B3.out b4)
        have PP4 := hide (PP3.out.below b4)
        have RR4 := hide (RR3.out.below b4)
        have AS4 := hide (AS3.out.below b4)
        have AQ4 := hide aQ
        clear b4 aQ PP3 RR3 AS3 B3 WF
        obtain ⟨vL, vS, vQ, ro⟩ := RR4.out
        obtain ⟨ol, dl, os, ds, oq, dq, ⟨rfl, _, _⟩, ⟨rfl, rS, _⟩, rfl, rQ, _⟩ := ro.read
        have g1 : w4.cell? ⟨G, 1, none⟩ = some (.slice ol st.buf.length dl) := cell_of ro.hp 1
        have g2 : w4.cell? ⟨G, 2, none⟩ = some (.slice os st.snd.length ds) := cell_of ro.hp 2
        have g3 : w4.cell? ⟨G, 3, none⟩ = some (.slice oq st.rcv.length dq) := cell_of ro.hp 3
        have g4 : w4.cell? ⟨G, 4, none⟩ = some (.bool st.closed) := cell_of ro.hp 4
        have les := ro.les
        have leq := ro.leq
        have RS4 := hide rS
        have RQ4 := hide rQ
        have PP5 := hide (PP4.out.below (bdrew1 _))
        clear ro rS rQ RR4
        go_wp2_with fail
        try simp only [List.append_eq, List.cons_append, List.nil_append]
        go_region_held3 (fun w' => w'.cell? ⟨G, 1, none⟩ = some (.slice ol st.buf.length dl) ∧ w'.cell? ⟨G, 2, none⟩ = some (.slice os st.snd.length ds) ∧ w'.cell? ⟨G, 3, none⟩ = some (.slice oq st.rcv.length dq) ∧ w'.cell? ⟨G, 4, none⟩ = some (.bool st.closed))
          (first
            | with_reducible assumption
            | go_keep)
          (first
            | (go_at_call 30; refine (LE.out _ PP5.out).mono ?_; rintro r v1 ⟨rfl, rfl⟩)
            | (go_at_call 31; refine (CL.out _ PP5.out).mono ?_; rintro r v2 ⟨rfl, rfl⟩))
        have B5 := hide (btr B4.out (bdrew1 _))
        have AS := hide (AS4.out.below (bdrew1 _))
        have AQ := hide (AQ4.out.below (bdrew1 _))
        have RS := hide (RS4.out.below (bdrew1 _))
        have RQ := hide (RQ4.out.below (bdrew1 _))
        clear B4 AS4 AQ4 RS4 RQ4 PP4 PP5 LE CL
        have h2 : w4.drew.cell? ⟨G, 2, none⟩ = some (.slice os st.snd.length ds) := g2
        have h3 : w4.drew.cell? ⟨G, 3, none⟩ = some (.slice oq st.rcv.length dq) := g3
        clear g1 g2 g3 g4
        go_wp2_with fail
        generalize w4.drew = w5 at B5 AS AQ RS RQ h2 h3 ⊢
        have g2 := h2
        have g3 := h3
        clear h2 h3
        go_loopw [68] (fun i wr => ∃ j : Nat, j ≤ st.snd.length ∧ i = .int .i64 j ∧ Below w5.heap.size w5 wr) (fun i _ => st.snd.length - (intOf i).toNat)
        case atStart => exact ⟨0, Nat.zero_le _, rfl, Below.refl _ _⟩
        case round =>
          obtain ⟨j, hj, rfl, hbj⟩ := hrel
          by_cases hjl : j < st.snd.length
          · have hjl' : (j : Int) < (st.snd.length : Int) := by omega
            obtain ⟨x, hx⟩ : ∃ x, st.snd[j]? = some x := ⟨_, List.getElem?_eq_getElem hjl⟩
            obtain ⟨b, off, rfl, q0, q1, q2⟩ := AS.out.below hbj j x hx
            obtain ⟨b', off', rfl, p0, p1, p2⟩ := RS.out.below hbj j x hx
            have gx : wr.cell? ⟨G, 2, none⟩ = some (.slice (some ⟨b', off', none⟩) st.snd.length ds) := cellB g2 hbj
            have HJ := hide hbj
            clear hbj hx
            have RF := hide fun u => ref_any x u
            unfold wv at RF
            go_wp2_with fail
            go_region_held3 (fun w' => w'.cell? ⟨b, off + j * 3, none⟩ = some (.int .i64 x.g) ∧ w'.cell? ⟨b, off + j * 3 + 1, none⟩ = some (.int .i64 x.c) ∧ w'.cell? ⟨b, off + j * 3 + 2, none⟩ = some (.int .i64 x.v) ∧ w'.cell? ⟨b', off' + j * 3, none⟩ = some (.int .i64 x.g) ∧ w'.cell? ⟨b', off' + j * 3 + 1, none⟩ = some (.int .i64 x.c) ∧ w'.cell? ⟨b', off' + j * 3 + 2, none⟩ = some (.int .i64 x.v) ∧ w'.cell? ⟨G, 2, none⟩ = some (.slice (some ⟨b', off', none⟩) st.snd.length ds))
              (first
                | (go_split_ands; refine ⟨?_, ?_, ?_, ?_, ?_, ?_, ?_⟩ <;> (with_reducible (refine cellB ?_ c1)) <;> with_reducible assumption)
                | go_keep)
              ((go_at_call 22; refine (RF.out _).mono ?_; rintro r u1 ⟨rfl, c1⟩))
            have BJ := hide (btr HJ.out (btr (bdrew1 _) c1))
            clear c1
            go_wp2_with fail
            go_roundw
            case rel => exact ⟨j + 1, by omega, by go_num, BJ.out⟩
            case measure => simp [intOf]; omega
          · have hjl' : ¬ ((j : Int) < (st.snd.length : Int)) := by omega
            have HJS := hide hbj
            clear hbj
            have g3 : wr.cell? ⟨G, 3, none⟩ = some (.slice oq st.rcv.length dq) := cellB g3 HJS.out
            have AQ := hide (AQ.out.below HJS.out)
            have RQ := hide (RQ.out.below HJS.out)
            rename World => w6
            go_wp2_with fail
            go_loopw [87] (fun i wr => ∃ j : Nat, j ≤ st.rcv.length ∧ i = .int .i64 j ∧ Below w6.heap.size w6 wr) (fun i _ => st.rcv.length - (intOf i).toNat)
            case atStart => exact ⟨0, Nat.zero_le _, rfl, Below.refl _ _⟩
            case round =>
              obtain ⟨j, hj, rfl, hbj⟩ := hrel
              by_cases hjl : j < st.rcv.length
              · have hjl' : (j : Int) < (st.rcv.length : Int) := by omega
                obtain ⟨x, hx⟩ : ∃ x, st.rcv[j]? = some x := ⟨_, List.getElem?_eq_getElem hjl⟩
                obtain ⟨b, off, rfl, q0, q1, q2⟩ := AQ.out.below hbj j x hx
                obtain ⟨b', off', rfl, p0, p1, p2⟩ := RQ.out.below hbj j x hx
                have gx : wr.cell? ⟨G, 3, none⟩ = some (.slice (some ⟨b', off', none⟩) st.rcv.length dq) := cellB g3 hbj
                have HJ := hide hbj
                clear hbj hx
                have RF := hide fun u => ref_any x u
                unfold wv at RF
                go_wp2_with fail
                go_region_held3 (fun w' => w'.cell? ⟨b, off + j * 3, none⟩ = some (.int .i64 x.g) ∧ w'.cell? ⟨b, off + j * 3 + 1, none⟩ = some (.int .i64 x.c) ∧ w'.cell? ⟨b, off + j * 3 + 2, none⟩ = some (.int .i64 x.v) ∧ w'.cell? ⟨b', off' + j * 3, none⟩ = some (.int .i64 x.g) ∧ w'.cell? ⟨b', off' + j * 3 + 1, none⟩ = some (.int .i64 x.c) ∧ w'.cell? ⟨b', off' + j * 3 + 2, none⟩ = some (.int .i64 x.v) ∧ w'.cell? ⟨G, 3, none⟩ = some (.slice (some ⟨b', off', none⟩) st.rcv.length dq))
                  (first
                    | (go_split_ands; refine ⟨?_, ?_, ?_, ?_, ?_, ?_, ?_⟩ <;> (with_reducible (refine cellB ?_ c1)) <;> with_reducible assumption)
                    | go_keep)
                  ((go_at_call 22; refine (RF.out _).mono ?_; rintro r u1 ⟨rfl, c1⟩))
                have BJ := hide (btr HJ.out (btr (bdrew1 _) c1))
                clear c1
                go_wp2_with fail
                go_roundw
                case rel => exact ⟨j + 1, by omega, by go_num, BJ.out⟩
                case measure => simp [intOf]; omega
              · have hjl' : ¬ ((j : Int) < (st.rcv.length : Int)) := by omega
                have HJQ := hide hbj
                clear hbj
                have B7 := hide (btr B5.out (btr HJS.out HJQ.out))
                go_wp2_with fail
                go_roundw
                case rel => exact ⟨k + 1, by omega, by go_num, B7.out⟩
                case measure => simp [intOf]; omega
    · have hlt' : ¬ ((k : Int) < (bs.length : Int)) := by omega
      go_wp2_with fail
      go_ret
      exact ⟨rfl, btr BX.out B2.out⟩
end Fk
end Go.Proofs.Ytipimagajnocjaa
/- ForkSteps' walk. -/
namespace Go.Proofs.Ytipimagajnocjaa
open Go.ChangeShapes Go.WideShapes Go.ChangeAt Go.RowKit
namespace Fk
open Ba Pe _root_.Go.Proofs.Ytipimagajnocjaa.Pi Rp

theorem row_at2 {w : World} {base : Nat} {oa : Option Addr} {n c : Nat} {l : List Int} (h : w.ownsRow base 3 1 (.slice oa n c) l.length (ic l)) : At w oa l := by
  obtain ⟨oa', c', e, h1, _⟩ := own_at h
  cases e
  exact h1
theorem rdyL_len (l : List Ca) (s : List (Option St)) : (rdyL l s).length ≤ l.length := ps_len _ _
set_option maxRecDepth 100000 in
set_option maxHeartbeats 12800000 in
theorem forkSteps_core (w : World) (oz : Option Addr) (sizes : List Int) (cz : Nat) (ol : Option Addr) (L : List Ac) (cl : Nat) (hA : At w oz sizes) (hL : AAt w ol L) (hs : sizes.length ≤ maxLen) (hl : L.length ≤ maxLen) :
    Calls Try.prog 3 #[.slice oz sizes.length cz, .slice ol L.length cl] w fun r w' => r = .returned (.bool true) ∧ Below w.heap.size w w' := by
  have A1 := hide hA
  have L1 := hide hL
  have HLl := hide hl
  unfold maxLen at hs hl
  clear hA hL
  by_cases h20 : 20 < sizes.length
  · have h20' : (20 : Int) < (sizes.length : Int) := by omega
    go_enter Try.func3, Try.ntmps3
    go_wp2_with fail
    refine (one_any _).mono ?_
    rintro r w5 ⟨rfl, b5⟩
    have B5 := hide b5
    clear b5
    go_wp2_with fail
    go_ret
    exact ⟨rfl, B5.out⟩
  have h20' : ¬ (20 : Int) < (sizes.length : Int) := by omega
  have LG := hide (large_any ol L cl _ L1.out HLl.out)
  go_enter Try.func3, Try.ntmps3
  go_wp2_with fail
  refine LG.out.mono ?_
  rintro r w2 ⟨bb, rfl, hf, b2⟩
  cases bb
  · have FEW := hide (hf rfl)
    have B2 := hide b2
    have L2 := hide (L1.out.below b2)
    have PP := hide (pipes_any w2 oz sizes cz (A1.out.below b2) (by omega))
    clear hf b2 LG A1 L1
    go_wp2_with fail
    refine PP.out.mono ?_
    rintro r w3 ⟨oa, cp, bs, Fs, ob, cq, gs, Gs, rfl, hb, hg, t3⟩
    have hb20 : bs.length ≤ 1000 := by omega
    have W4 : Hid (Lw w2 (w3.alloc (.cells #[.slice oa bs.length cp, .slice ob gs.length cq] 29)) w3.heap.size (.cells #[.slice oa bs.length cp, .slice ob gs.length cq] 29) oa bs ob gs 0 Fs Gs (sizes.map capS)) := ⟨t3.below (below_alloc _ _), heap_new _ _, new_not t3 (Nat.le_refl _), cap_cn sizes⟩
    clear t3 PP hb hg
    go_wp2_with fail
    generalize w3.alloc (.cells #[.slice oa bs.length cp, .slice ob gs.length cq] 29) = U4 at W4 ⊢
    generalize w3.heap.size = D at W4 ⊢
    go_loopw [20] (fun i wr => ∃ (k : Nat) (Fs Gs : Nat → Nat → Prop) (s : List (Option St)), k ≤ L.length ∧ i = .int .i64 k ∧ Lw w2 wr D (.cells #[.slice oa bs.length cp, .slice ob gs.length cq] 29) oa bs ob gs k Fs Gs s) (fun i _ => L.length - (intOf i).toNat)
    case atStart => exact ⟨0, Fs, Gs, _, Nat.zero_le _, rfl, W4.out⟩
    case round =>
      clear W4
      obtain ⟨k, F5, G5, s, hk, rfl, lw⟩ := hrel
      have LW := hide lw
      clear lw
      have hk150 : k ≤ 150 := Nat.le_trans hk FEW.out.1
      by_cases hlt : k < L.length
      · have hlt' : (k : Int) < (L.length : Int) := by omega
        obtain ⟨x, hx⟩ : ∃ x, L[k]? = some x := ⟨_, List.getElem?_eq_getElem hlt⟩
        have hxl : x.l.length ≤ 50 := FEW.out.2 x (List.mem_of_getElem? hx)
        obtain ⟨b, off, la, lc, rfl, h0, h1, h2, h3, h4, h5, hC, -⟩ := L2.out k x hx
        have up : ∀ {i : Nat} {v : Value}, w2.cell? ⟨b, i, none⟩ = some v → wr.cell? ⟨b, i, none⟩ = some v := fun q => (LW.out.t.b.cell (World.block_lt_of_cell? w2 _ q)).trans q
        have q0 := up h0
        have q1 := up h1
        have q2 := up h2
        have q3 := up h3
        have q4 := up h4
        have q5 := up h5
        have HC := hide hC
        clear hx h0 h1 h2 h3 h4 h5 hC up
        have LX := hide (LW.out.below (below_alloc wr (.cells #[.int .i64 x.what, .int .i64 x.g, .bool x.c.sd, .int .i64 x.c.ch, .int .i64 x.c.v, .slice la x.l.length lc] 35)))
        have AX := hide (heap_new wr (.cells #[.int .i64 x.what, .int .i64 x.g, .bool x.c.sd, .int .i64 x.c.ch, .int .i64 x.c.v, .slice la x.l.length lc] 35))
        have NA := hide (new_not LW.out.t (Nat.le_refl _))
        have AC := hide (fun v (lv : Lw w2 v D (.cells #[.slice oa bs.length cp, .slice ob gs.length cq] 29) oa bs ob gs k F5 G5 s) (av : v.heap[wr.heap.size]? = some (.cells #[.int .i64 x.what, .int .i64 x.g, .bool x.c.sd, .int .i64 x.c.ch, .int .i64 x.c.v, .slice la x.l.length lc] 35)) => Calls.mono (acts_any w2 v x.what x.g x.c x.l la lc oa bs cp F5 ob gs cq G5 s k lv.t (HC.out.below lv.t.b) (lv.out HC.out) lv.c (by omega) hb20) (R' := fun r w' => r = .returned (.bool true) ∧ ∃ F6 G6, Lw w2 w' D (.cells #[.slice oa bs.length cp, .slice ob gs.length cq] 29) oa bs ob gs (k + 1) F6 G6 (actS x.what x.g x.c x.l s) ∧ w'.heap[wr.heap.size]? = some (.cells #[.int .i64 x.what, .int .i64 x.g, .bool x.c.sd, .int .i64 x.c.ch, .int .i64 x.c.v, .slice la x.l.length lc] 35)) (fun r v' q => by
          obtain ⟨q1, F6, G6, t6, r6⟩ := q
          obtain ⟨F7, G7, l7⟩ := lv.act ⟨F6, G6, t6, r6⟩
          exact ⟨q1, F7, G7, l7, r6.heap av NA.out.1 NA.out.2⟩))
        generalize actS x.what x.g x.c x.l s = s' at AC
        have AK := hide (fun v F6 G6 (lv : Lw w2 v D (.cells #[.slice oa bs.length cp, .slice ob gs.length cq] 29) oa bs ob gs (k + 1) F6 G6 s') => alike_any v oa bs cp F6 ob gs cq G6 s' lv.t.p lv.t.r hb20)
        have RD := hide (fun v F6 G6 (lv : Lw w2 v D (.cells #[.slice oa bs.length cp, .slice ob gs.length cq] 29) oa bs ob gs (k + 1) F6 G6 s') => fready_any la x.l lc oa bs cp F6 s' v (HC.out.below lv.t.b) lv.t.p (by omega))
        have RR := hide (fun v F6 G6 (lv : Lw w2 v D (.cells #[.slice oa bs.length cp, .slice ob gs.length cq] 29) oa bs ob gs (k + 1) F6 G6 s') => rreadyL_any la x.l lc ob gs cq G6 s' v (HC.out.below lv.t.b) lv.t.r (by omega))
        have hrl := rdyL_len x.l s'
        generalize rdyL x.l s' = rl at RD RR hrl
        go_wp2_with fail
        generalize wr.alloc (.cells #[.int .i64 x.what, .int .i64 x.g, .bool x.c.sd, .int .i64 x.c.ch, .int .i64 x.c.v, .slice la x.l.length lc] 35) = W5 at LX AX ⊢
        generalize wr.heap.size = A at AX NA AC ⊢
        have d0 : W5.cell? ⟨D, 0, none⟩ = some (.slice oa bs.length cp) := cell_of LX.out.d 0
        have d1 : W5.cell? ⟨D, 1, none⟩ = some (.slice ob gs.length cq) := cell_of LX.out.d 1
        have e0 : W5.cell? ⟨A, 0, none⟩ = some (.int .i64 x.what) := cell_of AX.out 0
        have e1 : W5.cell? ⟨A, 1, none⟩ = some (.int .i64 x.g) := cell_of AX.out 1
        have e2 : W5.cell? ⟨A, 2, none⟩ = some (.bool x.c.sd) := cell_of AX.out 2
        have e3 : W5.cell? ⟨A, 3, none⟩ = some (.int .i64 x.c.ch) := cell_of AX.out 3
        have e4 : W5.cell? ⟨A, 4, none⟩ = some (.int .i64 x.c.v) := cell_of AX.out 4
        have e5 : W5.cell? ⟨A, 5, none⟩ = some (.slice la x.l.length lc) := cell_of AX.out 5
        have AC1 := hide (AC.out _ (LX.out.below (bdrew1 _)) (heap_below AX.out (bdrew1 _)))
        clear AC LW NA q0 q1 q2 q3 q4 q5
        go_region_held3 (fun w' => w'.cell? ⟨D, 0, none⟩ = some (.slice oa bs.length cp) ∧ w'.cell? ⟨D, 1, none⟩ = some (.slice ob gs.length cq) ∧ w'.cell? ⟨A, 0, none⟩ = some (.int .i64 x.what) ∧ w'.cell? ⟨A, 1, none⟩ = some (.int .i64 x.g) ∧ w'.cell? ⟨A, 2, none⟩ = some (.bool x.c.sd) ∧ w'.cell? ⟨A, 3, none⟩ = some (.int .i64 x.c.ch) ∧ w'.cell? ⟨A, 4, none⟩ = some (.int .i64 x.c.v) ∧ w'.cell? ⟨A, 5, none⟩ = some (.slice la x.l.length lc))
          (first
            | with_reducible assumption
            | exact ⟨cell_of tA.d 0, cell_of tA.d 1, cell_of aA 0, cell_of aA 1, cell_of aA 2, cell_of aA 3, cell_of aA 4, cell_of aA 5⟩
            | (go_split_ands; refine ⟨?_, ?_, ?_, ?_, ?_, ?_, ?_, ?_⟩ <;> (with_reducible (refine cellB ?_ c5)) <;> with_reducible assumption)
            | (go_split_ands; refine ⟨?_, ?_, ?_, ?_, ?_, ?_, ?_, ?_⟩ <;> (with_reducible (refine cellB ?_ c4)) <;> with_reducible assumption)
            | (go_split_ands; refine ⟨?_, ?_, ?_, ?_, ?_, ?_, ?_, ?_⟩ <;> (with_reducible (refine cellB ?_ c3)) <;> with_reducible assumption)
            | (go_split_ands; refine ⟨?_, ?_, ?_, ?_, ?_, ?_, ?_, ?_⟩ <;> (with_reducible (refine cellB ?_ c2)) <;> with_reducible assumption)
            | go_keep)
          (first
            | (go_at_call 9; refine AC1.out.mono ?_; rintro r v1 ⟨rfl, F6, G6, tA, aA⟩)
            | (go_at_call 10; refine (AK.out _ _ _ tA).mono ?_; rintro r v2 ⟨rfl, c2⟩)
            | (go_at_call 12; refine (RD.out _ _ _ (tA.below c2)).mono ?_; rintro r v3 ⟨o3, n3, rfl, a3, c3⟩)
            | (go_at_call 13; refine (RR.out _ _ _ ((tA.below c2).below c3)).mono ?_; rintro r v4 ⟨o4, n4, rfl, a4, c4⟩)
            | (go_at_call 11; refine (ints_is _ _ rl rl _ _ _ _ true (by simp) rfl rfl _ (row_at2 (own_below a3 c4)) (row_at2 a4) (by omega) (by omega)).mono ?_; rintro r v5 ⟨rfl, c5⟩))
        have L9 := hide (tA.below (btr c2 (btr c3 (btr c4 c5))))
        clear tA aA c2 c3 c4 c5 a3 a4 AC1 AK RD RR
        go_wp2_with fail
        go_roundw
        case rel => exact ⟨k + 1, _, _, _, by omega, by go_num, L9.out⟩
        case measure => simp [intOf]; omega
      · have hlt' : ¬ ((k : Int) < (L.length : Int)) := by omega
        go_wp2_with fail
        refine (one_any _).mono ?_
        rintro r w5 ⟨rfl, b5⟩
        have B5 := hide (btr (btr B2.out LW.out.t.b) b5)
        clear b5
        go_wp2_with fail
        go_ret
        exact ⟨rfl, B5.out⟩
  · clear hf
    have B2 := hide b2
    clear b2
    go_wp2_with fail
    refine (one_any _).mono ?_
    rintro r w5 ⟨rfl, b5⟩
    have B5 := hide (btr B2.out b5)
    clear b5
    go_wp2_with fail
    go_ret
    exact ⟨rfl, B5.out⟩
end Fk
end Go.Proofs.Ytipimagajnocjaa
/- A list of int among a law's arguments, opened. -/
namespace Go.Proofs.Ytipimagajnocjaa
open Go.ChangeShapes Go.WideShapes Go.ChangeAt Go.RowKit
namespace Ba

section
variable {H : Type} {enc : TypeId × Value → H} {w : World}
theorem ints_open {fuel : Nat} {oa : Option Addr} {len cap : Nat} {x : DataW H × List MemPlace} (h : DataW.trod enc Try.prog w 0 (fun _ => true) true fuel 22 [.slice oa len cap] = some x) : ∃ l, l.length = len ∧ At w oa l ∧ len ≤ cap ∧ cap ≤ maxLen := by
  rcases open_ints Try.underlying22 Try.underlying3 (by kernel_rfl) h with ⟨hcs, _⟩ | ⟨x, l, c, zs, hcs, _, hl, hm, hz, _, hcell, hwz⟩
  · simp at hcs
    obtain ⟨rfl, rfl, rfl⟩ := hcs
    exact ⟨[], rfl, At.nil _ _, Nat.le_refl _, Nat.zero_le _⟩
  · simp at hcs
    obtain ⟨rfl, rfl, rfl⟩ := hcs
    simp at hz
    refine ⟨zs.take len, by simp; omega, fun k hk => ?_, hl, hm⟩
    have hk' : k < len ∧ k < zs.length := by simp at hk; omega
    obtain ⟨b, off, spot⟩ := x
    have hspot : spot = none := by simpa [Addr.add] using World.cell?_spot (hcell 0 (by omega))
    subst hspot
    have hc := hcell k hk'.2
    refine ⟨b, off, rfl, ?_⟩
    rw [nth_take zs len k hk'.1]
    rw [Addr.add_lit] at hc
    exact hc
end
end Ba
end Go.Proofs.Ytipimagajnocjaa
/- ForkReady's walk. -/
namespace Go.Proofs.Ytipimagajnocjaa
open Go.ChangeShapes Go.WideShapes Go.ChangeAt Go.RowKit
namespace Fk
open Ba Pe _root_.Go.Proofs.Ytipimagajnocjaa.Pi Rp

theorem one_case {w : World} {K : Nat} {c : Ca} {ty : TypeId} (h : w.heap[K]? = some (.cells #[.bool c.sd, .int .i64 c.ch, .int .i64 c.v] ty (0, 0))) : CaAt w (some ⟨K, 0, none⟩) [c] := by
  intro k x hk
  match k, hk with
  | 0, hk => simp at hk; subst hk; exact ⟨K, 0, rfl, cell_of h 0, cell_of h 1, cell_of h 2⟩
  | k + 1, hk => simp at hk
set_option maxRecDepth 100000 in
set_option maxHeartbeats 6400000 in
theorem forkReady_core (w : World) (oz : Option Addr) (sizes : List Int) (cz : Nat) (ol : Option Addr) (L : List Ac) (cl : Nat) (c : Ca) (hA : At w oz sizes) (hL : AAt w ol L) (hs : sizes.length ≤ maxLen) (hl : L.length ≤ maxLen) :
    Calls Try.prog 5 #[.slice oz sizes.length cz, .slice ol L.length cl, cv c] w fun r w' => r = .returned (.bool true) ∧ Below w.heap.size w w' := by
  have b1 := below_alloc w (.cells #[.bool c.sd, .int .i64 c.ch, .int .i64 c.v] 32)
  have C1 := hide (heap_new w (.cells #[.bool c.sd, .int .i64 c.ch, .int .i64 c.v] 32))
  have B1 := hide b1
  have A1 := hide (hA.below b1)
  have L1 := hide (hL.below b1)
  have HLl := hide hl
  unfold maxLen at hs hl
  clear hA hL b1
  unfold cv
  by_cases h20 : 20 < sizes.length
  · have h20' : (20 : Int) < (sizes.length : Int) := by omega
    go_enter Try.func5, Try.ntmps5
    go_wp2_with fail
    refine (one_any _).mono ?_
    rintro r w5 ⟨rfl, b5⟩
    have B5 := hide (btr B1.out b5)
    clear b5
    go_wp2_with fail
    go_ret
    exact ⟨rfl, B5.out⟩
  have h20' : ¬ (20 : Int) < (sizes.length : Int) := by omega
  have LG := hide (large_any ol L cl _ L1.out HLl.out)
  go_enter Try.func5, Try.ntmps5
  go_wp2_with fail
  generalize w.alloc (.cells #[.bool c.sd, .int .i64 c.ch, .int .i64 c.v] 32) = W1 at C1 B1 A1 L1 LG ⊢
  refine LG.out.mono ?_
  rintro r w2 ⟨bb, rfl, hf, b2⟩
  cases bb
  · have FEW := hide (hf rfl)
    have C2 := hide (heap_below C1.out b2)
    have B2 := hide (btr B1.out b2)
    have L2 := hide (L1.out.below b2)
    have PP := hide (pipes_any w2 oz sizes cz (A1.out.below b2) (by omega))
    clear hf b2 LG C1 B1 A1 L1
    go_wp2_with fail
    refine PP.out.mono ?_
    rintro r w3 ⟨oa, cp, bs, Fs, ob, cq, gs, Gs, rfl, hb, hg, t3⟩
    have hb20 : bs.length ≤ 1000 := by omega
    have W4 : Hid (Lw w2 (w3.alloc (.cells #[.slice oa bs.length cp, .slice ob gs.length cq] 29)) w3.heap.size (.cells #[.slice oa bs.length cp, .slice ob gs.length cq] 29) oa bs ob gs 0 Fs Gs (sizes.map capS)) := ⟨t3.below (below_alloc _ _), heap_new _ _, new_not t3 (Nat.le_refl _), cap_cn sizes⟩
    clear t3 PP hb hg
    go_wp2_with fail
    generalize w3.alloc (.cells #[.slice oa bs.length cp, .slice ob gs.length cq] 29) = U4 at W4 ⊢
    generalize w3.heap.size = D at W4 ⊢
    go_loopw [25] (fun i wr => ∃ (k : Nat) (Fs Gs : Nat → Nat → Prop) (s : List (Option St)), k ≤ L.length ∧ i = .int .i64 k ∧ Lw w2 wr D (.cells #[.slice oa bs.length cp, .slice ob gs.length cq] 29) oa bs ob gs k Fs Gs s) (fun i _ => L.length - (intOf i).toNat)
    case atStart => exact ⟨0, Fs, Gs, _, Nat.zero_le _, rfl, W4.out⟩
    case round =>
      clear W4
      obtain ⟨k, F5, G5, s, hk, rfl, lw⟩ := hrel
      have LW := hide lw
      clear lw
      have hk150 : k ≤ 150 := Nat.le_trans hk FEW.out.1
      by_cases hlt : k < L.length
      · have hlt' : (k : Int) < (L.length : Int) := by omega
        obtain ⟨x, hx⟩ : ∃ x, L[k]? = some x := ⟨_, List.getElem?_eq_getElem hlt⟩
        obtain ⟨b, off, la, lc, rfl, h0, h1, h2, h3, h4, h5, hC, -⟩ := L2.out k x hx
        have up : ∀ {i : Nat} {v : Value}, w2.cell? ⟨b, i, none⟩ = some v → wr.cell? ⟨b, i, none⟩ = some v := fun q => (LW.out.t.b.cell (World.block_lt_of_cell? w2 _ q)).trans q
        have q0 := up h0
        have q1 := up h1
        have q2 := up h2
        have q3 := up h3
        have q4 := up h4
        have q5 := up h5
        have LX := hide (LW.out.below (below_alloc wr (.cells #[.int .i64 x.what, .int .i64 x.g, .bool x.c.sd, .int .i64 x.c.ch, .int .i64 x.c.v, .slice la x.l.length lc] 35)))
        have AC := hide (acts_any w2 _ x.what x.g x.c x.l la lc oa bs cp F5 ob gs cq G5 s k LX.out.t (hC.below LX.out.t.b) (LX.out.out hC) LX.out.c (by omega) hb20)
        have d0 : (wr.alloc (.cells #[.int .i64 x.what, .int .i64 x.g, .bool x.c.sd, .int .i64 x.c.ch, .int .i64 x.c.v, .slice la x.l.length lc] 35)).cell? ⟨D, 0, none⟩ = some (.slice oa bs.length cp) := cell_of LX.out.d 0
        have d1 : (wr.alloc (.cells #[.int .i64 x.what, .int .i64 x.g, .bool x.c.sd, .int .i64 x.c.ch, .int .i64 x.c.v, .slice la x.l.length lc] 35)).cell? ⟨D, 1, none⟩ = some (.slice ob gs.length cq) := cell_of LX.out.d 1
        have dd0 : wr.cell? ⟨D, 0, none⟩ = some (.slice oa bs.length cp) := cell_of LW.out.d 0
        have dd1 : wr.cell? ⟨D, 1, none⟩ = some (.slice ob gs.length cq) := cell_of LW.out.d 1
        clear hx h0 h1 h2 h3 h4 h5 hC up LW
        go_wp2_with fail
        refine AC.out.mono ?_
        rintro r w6 ⟨rfl, p6⟩
        obtain ⟨F6, G6, lw6⟩ := LX.out.act p6
        have L6 := hide lw6
        clear lw6 p6 AC d0 d1 dd0 dd1 q0 q1 q2 q3 q4 q5
        go_wp2_with fail
        go_roundw
        case rel => exact ⟨k + 1, F6, G6, _, by omega, by go_num, L6.out⟩
        case measure => simp [intOf]; omega
      · have hlt' : ¬ ((k : Int) < (L.length : Int)) := by omega
        have C5 := hide (heap_below C2.out LW.out.t.b)
        have e0 : wr.cell? ⟨w.heap.size, 0, none⟩ = some (.bool c.sd) := cell_of C5.out 0
        have e1 : wr.cell? ⟨w.heap.size, 1, none⟩ = some (.int .i64 c.ch) := cell_of C5.out 1
        have e2 : wr.cell? ⟨w.heap.size, 2, none⟩ = some (.int .i64 c.v) := cell_of C5.out 2
        have b6 := below_alloc wr (.cells #[.bool c.sd, .int .i64 c.ch, .int .i64 c.v] 32)
        have L6 := hide (LW.out.below b6)
        have C6 := hide (heap_below C5.out b6)
        have d0 : (wr.alloc (.cells #[.bool c.sd, .int .i64 c.ch, .int .i64 c.v] 32)).cell? ⟨D, 0, none⟩ = some (.slice oa bs.length cp) := cell_of L6.out.d 0
        have RD := hide (fready_any (some ⟨wr.heap.size, 0, none⟩) [c] 1 oa bs cp F5 s _ (one_case (heap_new wr (.cells #[.bool c.sd, .int .i64 c.ch, .int .i64 c.v] 32))) L6.out.t.p (by simp))
        rw [rdyL_one] at RD
        simp only [List.length_cons, List.length_nil] at RD
        have SM := hide (LW.out.c.sml (by omega))
        have TR := hide (try_rdy s c)
        have TE := hide (try_err s c)
        clear b6
        obtain ⟨nr, hnr⟩ : ∃ nr : Nat, nr = if crdy s c = true then 1 else 0 := ⟨_, rfl⟩
        rw [← hnr] at RD
        have NR := hide hnr
        clear hnr
        go_wp2_with fail
        generalize wr.alloc (.cells #[.bool c.sd, .int .i64 c.ch, .int .i64 c.v] 32) = U6 at L6 C6 d0 RD ⊢
        refine RD.out.mono ?_
        rintro r w7 ⟨o7, d7, rfl, -, b7⟩
        have L7 := hide (L6.out.below b7)
        have C7 := hide (heap_below C6.out b7)
        have d0 : w7.cell? ⟨D, 0, none⟩ = some (.slice oa bs.length cp) := cell_of L7.out.d 0
        have e0 : w7.cell? ⟨w.heap.size, 0, none⟩ = some (.bool c.sd) := cell_of C7.out 0
        have e1 : w7.cell? ⟨w.heap.size, 1, none⟩ = some (.int .i64 c.ch) := cell_of C7.out 1
        have e2 : w7.cell? ⟨w.heap.size, 2, none⟩ = some (.int .i64 c.v) := cell_of C7.out 2
        have TY := hide (ftry_any c oa bs cp F5 s w7 L7.out.t.p SM.out)
        clear b7 RD
        generalize tryE s c = ee at TY TR TE
        generalize tryG s c = gg at TY TR TE
        obtain ⟨rd, ok, wk, v, ⟨mg, mc, mv⟩⟩ := gg
        unfold cv gv at TY
        simp only at TY TR TE
        go_wp2_with fail
        refine TY.out.mono ?_
        rintro r w8 ⟨rfl, rz⟩
        obtain ⟨F8, t8, r8⟩ := L7.out.t.stepP rz
        have b9 := below_alloc w8 (.cells #[.bool rd, .bool ok, .bool wk, .int .i64 v, .int .i64 mg, .int .i64 mc, .int .i64 mv] 51)
        have hw2 : w.heap.size < w2.heap.size := heap_lt C2.out
        have C9 := hide (heap_below (heap_below C2.out t8.b) b9)
        have B9 := hide (btr (btr B2.out t8.b) b9)
        have G9 := hide (heap_new w8 (.cells #[.bool rd, .bool ok, .bool wk, .int .i64 v, .int .i64 mg, .int .i64 mc, .int .i64 mv] 51))
        clear rz t8 r8 b9 TY d0 e0 e1 e2
        have g0 : (w8.alloc (.cells #[.bool rd, .bool ok, .bool wk, .int .i64 v, .int .i64 mg, .int .i64 mc, .int .i64 mv] 51)).cell? ⟨w8.heap.size, 0, none⟩ = some (.bool rd) := cell_of G9.out 0
        have e0 : (w8.alloc (.cells #[.bool rd, .bool ok, .bool wk, .int .i64 v, .int .i64 mg, .int .i64 mc, .int .i64 mv] 51)).cell? ⟨w.heap.size, 0, none⟩ = some (.bool c.sd) := cell_of C9.out 0
        by_cases h0 : ee = 0
        · subst h0
          have hcr : crdy s c = rd := by rw [TR.out]; cases rd <;> rfl
          cases rd
          · obtain rfl : nr = 0 := by rw [NR.out, hcr]; rfl
            clear hcr
            go_wp2_with fail
            refine (one_any _).mono ?_
            rintro r w10 ⟨rfl, b10⟩
            have B10 := hide (btr B9.out b10)
            clear b10
            go_wp2_with fail
            go_ret
            exact ⟨rfl, B10.out⟩
          · obtain rfl : nr = 1 := by rw [NR.out, hcr]; rfl
            clear hcr
            go_wp2_with fail
            refine (one_any _).mono ?_
            rintro r w10 ⟨rfl, b10⟩
            have B10 := hide (btr B9.out b10)
            clear b10
            go_wp2_with fail
            go_ret
            exact ⟨rfl, B10.out⟩
        · obtain ⟨h1, h2⟩ := TE.out.resolve_left h0
          subst h1
          rw [h2] at e0
          have n0 : decide (ee = 0) = false := decide_eq_false h0
          by_cases h9 : ee = 90
          · subst h9
            obtain rfl : nr = 1 := by rw [NR.out, TR.out]; rfl
            clear h0 n0
            go_wp2_with fail
            refine (one_any _).mono ?_
            rintro r w10 ⟨rfl, b10⟩
            have B10 := hide (btr B9.out b10)
            clear b10
            go_wp2_with fail
            go_ret
            exact ⟨rfl, B10.out⟩
          · have n9 : decide (ee = 90) = false := decide_eq_false h9
            obtain rfl : nr = 0 := by rw [NR.out, TR.out, n9]; rfl
            go_wp2_with fail
            refine (one_any _).mono ?_
            rintro r w10 ⟨rfl, b10⟩
            have B10 := hide (btr B9.out b10)
            clear b10
            go_wp2_with fail
            go_ret
            exact ⟨ret_bool (by simp [h9]), B10.out⟩
  · clear hf
    have B2 := hide (btr B1.out b2)
    clear b2
    go_wp2_with fail
    refine (one_any _).mono ?_
    rintro r w5 ⟨rfl, b5⟩
    have B5 := hide (btr B2.out b5)
    clear b5
    go_wp2_with fail
    go_ret
    exact ⟨rfl, B5.out⟩
end Fk
end Go.Proofs.Ytipimagajnocjaa
