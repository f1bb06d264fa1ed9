/- The laws' own acts(), whatever the act is. -/
import Derived.Test.YtdcmlimglajpkaaJt
namespace Go.Proofs.Ytdcmlimglajpkaa
open Go.ChangeShapes Go.WideShapes Go.ChangeAt Go.RowKit
namespace Fk
open Ba Pe _root_.Go.Proofs.Ytdcmlimglajpkaa.Pi Rp

/-- counts at most m, pews at most k -/
def Ck (m k : Nat) (s : List (Option St)) : Prop := ∀ (i : Nat) (st : St), s[i]? = some (some st) → st.sent ≤ m ∧ st.got ≤ m ∧ st.snd.length ≤ k ∧ st.rcv.length ≤ k
theorem Ck.pk1 {m k : Nat} {s : List (Option St)} (h : Ck m k s) (g : Int) (p : Nat) (c : Ca) : Ck m (k + 1) (pk1 g p c s) := by
  unfold Fk.pk1
  cases hn : nmB s c.ch with
  | none => exact fun i st hi => by obtain ⟨h1, h2, h3, h4⟩ := h i st hi; omega
  | some st =>
    simp only
    intro i st' hi
    by_cases e : c.ch.toNat = i
    · subst e
      have hlt := (List.getElem?_eq_some_iff.1 (nmB_at hn)).1
      rw [List.getElem?_set_self hlt] at hi
      cases hi
      obtain ⟨h1, h2, h3, h4⟩ := h _ _ (nmB_at hn)
      have a1 := al_le st.snd ⟨g, (p : Int), c.v⟩ h3
      have a2 := al_le st.rcv ⟨g, (p : Int), c.v⟩ h4
      unfold waitS
      split
      · omega
      · split
        · simp only; omega
        · simp only; omega
    · rw [List.getElem?_set_ne e] at hi
      obtain ⟨h1, h2, h3, h4⟩ := h i st' hi
      omega
theorem Ck.pkS {m k : Nat} {s : List (Option St)} (h : Ck m k s) (g : Int) (l : List Ca) (n : Nat) : Ck m (k + n) (pkS g l s n) := by
  induction n with
  | zero => exact h
  | succ n ih =>
    unfold Fk.pkS
    cases l[n]? with
    | none => exact fun i st hi => by obtain ⟨h1, h2, h3, h4⟩ := ih i st hi; omega
    | some c => exact ih.pk1 g n c
theorem act_cn {m : Nat} {s : List (Option St)} (h : Cn m s) (what g : Int) (c : Ca) (l : List Ca) : Cn (m + 1) (actS what g c l s) := by
  have up := h.mono (Nat.le_succ m)
  unfold actS
  split
  · unfold tryS
    cases hn : nmB s c.ch with
    | none => exact up
    | some st =>
      simp only
      refine up.set _ _ ?_
      split
      · exact send_few (h _ _ (nmB_at hn))
      · exact recv_few (h _ _ (nmB_at hn))
  · split
    · cases hn : nmB s c.ch with
      | none => exact up
      | some st => exact up.set _ _ (wait_few (h _ _ (nmB_at hn)))
    · split
      · unfold pkA
        split
        · exact up
        · rename_i hb
          split
          · exact up
          · have hl : l.length ≤ 4 := by
              unfold pkBad at hb
              simp only [Bool.or_eq_true, decide_eq_true_eq, not_or] at hb
              omega
            intro i st hi
            have q := (show Ck m (4 * m) s from h).pkS g l l.length i st hi
            omega
      · split
        · intro i st hi
          unfold leaveS at hi
          rw [List.getElem?_map] at hi
          cases hq : s[i]? with
          | none => rw [hq] at hi; cases hi
          | some o =>
            rw [hq] at hi
            cases o with
            | none => simp [dropO] at hi
            | some st0 =>
              simp [dropO] at hi
              subst hi
              have := drop_few (g := g) (h i st0 hq)
              omega
        · split
          · cases hn : nmB s c.ch with
            | none => exact up
            | some st =>
              refine up.set _ _ ?_
              have := close_few (h _ _ (nmB_at hn))
              omega
          · exact up
theorem acts_any (w u : World) (what g : Int) (c : Ca) (l : List Ca) (la : Option Addr) (lc : Nat) (oa : Option Addr) (bs : List (Option Nat)) (cp : Nat) (Fs : Nat → Nat → Prop) (ob : Option Addr) (gs : List (Option Nat)) (cq : Nat) (Gs : Nat → Nat → Prop) (s : List (Option St)) (m : Nat) (h : Tw w u oa bs Fs ob gs Gs s s) (hC : CaAt u la l) (hO : Out Fs Gs la l) (hm : Cn m s) (hm2 : m ≤ 250) (hb : bs.length ≤ 1000) :
    Calls Try.prog 9 #[(.agg #[.slice oa bs.length cp, .slice ob gs.length cq]), .agg #[.int .i64 what, .int .i64 g, .bool c.sd, .int .i64 c.ch, .int .i64 c.v, .slice la l.length lc]] u fun r w' => r = .returned (.bool true) ∧ AcP w u w' oa bs Fs ob gs Gs (actS what g c l s) := by
  unfold actS
  by_cases h0 : what = 0
  · rw [if_pos h0]
    exact acts0 w u what g c l la lc oa bs cp Fs ob gs cq Gs s h (hm.sml (by omega)) h0
  rw [if_neg h0]
  by_cases h1 : what = 1
  · rw [if_pos h1]
    exact acts1 w u what g c.sd c.ch c.v l la lc oa bs cp Fs ob gs cq Gs s h h1
  rw [if_neg h1]
  by_cases h2 : what = 2
  · rw [if_pos h2]
    exact acts2 w u what g c l la lc oa bs cp Fs ob gs cq Gs s h hC hO (hm.le hm2) h2
  rw [if_neg h2]
  by_cases h3 : what = 3
  · rw [if_pos h3]
    exact acts3 w u what g c l la lc oa bs cp Fs ob gs cq Gs s h hb h3
  rw [if_neg h3]
  by_cases h4 : what = 4
  · rw [if_pos h4]
    exact acts4 w u what g c.sd c.ch c.v l la lc oa bs cp Fs ob gs cq Gs s h h4
  rw [if_neg h4]
  exact acts5 w u what g c l la lc oa bs cp Fs ob gs cq Gs s h h0 h1 h2 h3 h4
end Fk
end Go.Proofs.Ytdcmlimglajpkaa
