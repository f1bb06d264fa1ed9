/- Layer 16's laws: both sides at their beginning; who has a tid, beside the reference; over this seat's program. -/
import Derived.Test.YtfimfgffbfjkeaaZkWt1
import Derived.Test.YtfimfgffbfjkeaaUh
import Derived.Test.YtfimfgffbfjkeaaUg
import Derived.Test.YtfimfgffbfjkeaaBi
namespace Go.Proofs.Ytfimfgffbfjkeaa
open Go.ChangeShapes Go.WideShapes Go.ChangeAt Go.RowKit
namespace Wq
open Ck
open Ba (KF Bd Nw)
open Wa (Wst IsSet Ext upf upf_same upf_other Used Fo WW WX Ks Lw)

/-- more may be held from some point of a drawn region on -/
theorem held_more {P : Program} {md : Region.Mode} {ops : Array Oper} {Q : Exit → Act → World → Prop} {S S' : World → Prop} (hS : ∀ w, S' w → S w) : ∀ (fuel : Nat) (listed : Array Bool) (a : Act) (w : World), wpAnyH P md ops Q S' fuel listed a w → wpAnyH P md ops Q S fuel listed a w
  | 0, _, _, _, h => h
  | fuel + 1, _, _, _, h => ⟨h.1, fun i hi => wpOp_mono (fun a' w' h' => ⟨hS _ h'.1, held_more hS fuel _ a' w' h'.2⟩) (h.2 i hi)⟩
theorem rise_eq : ∀ {l m : List Int}, l.Pairwise (· < ·) → m.Pairwise (· < ·) → (∀ x, x ∈ l ↔ x ∈ m) → l = m
  | [], [], _, _, _ => rfl
  | [], b :: m, _, _, h => absurd ((h b).2 List.mem_cons_self) (by simp)
  | a :: l, [], _, _, h => absurd ((h a).1 List.mem_cons_self) (by simp)
  | a :: l, b :: m, hl, hm, h => by
    rw [List.pairwise_cons] at hl hm
    have e : a = b := by
      rcases List.mem_cons.1 ((h a).1 List.mem_cons_self) with q | q
      · exact q
      · rcases List.mem_cons.1 ((h b).2 List.mem_cons_self) with q2 | q2
        · exact q2.symm
        · have := hm.1 a q
          have := hl.1 b q2
          omega
    subst e
    have : l = m := rise_eq hl.2 hm.2 fun x => by
      constructor
      · intro hx
        rcases List.mem_cons.1 ((h x).1 (List.mem_cons_of_mem _ hx)) with q | q
        · have := hl.1 x hx; omega
        · exact q
      · intro hx
        rcases List.mem_cons.1 ((h x).2 (List.mem_cons_of_mem _ hx)) with q | q
        · have := hm.1 x hx; omega
        · exact q
    rw [this]
theorem Ks.pw {f : Int → Option (Nat × Nat)} {n : Nat} {ks : List Int} (k : Ks f n ks) : ks.Pairwise (· < ·) := by
  rw [List.pairwise_iff_getElem]
  intro i j hi hj hij
  exact k.lt i j _ _ hij (List.getElem?_eq_getElem hi) (List.getElem?_eq_getElem hj)
theorem Ks.one {f : Int → Option (Nat × Nat)} {n : Nat} {ks ms : List Int} (k : Ks f n ks) (m : Ks f n ms) : ms = ks := rise_eq (Ks.pw m) (Ks.pw k) fun x => by rw [m.mem, k.mem]
section
variable {Y0 : Nat → Prop} {B G : Nat} {w w' : World} {st : Wst} {h : Nat → Option (List Int)} {qs : Qst}
theorem inuseW (j : JW Y0 B G w st h qs) (r : Rw st h qs) : Calls Try.prog 11 #[.pointer (some ⟨B, 0, none⟩)] w fun e w' => e = .returned (.int .i64 (qs.L.length : Int)) ∧ w' = w := by
  obtain ⟨v, ⟨mb, D, s⟩, q, n⟩ := j
  have := Wa.inuse_any s
  rw [r.n] at this
  exact this
theorem roomW (j : JW Y0 B G w st h qs) (r : Rw st h qs) : Calls Try.prog 12 #[.pointer (some ⟨B, 0, none⟩)] w fun e w' => e = .returned (.bool (decide ((qs.L.length : Int) < (qs.T : Int)))) ∧ Below w.heap.size w w' := by
  obtain ⟨v, ⟨mb, D, s⟩, q, n⟩ := j
  have := Wa.room_any s
  rw [r.n, r.T] at this
  have e : decide (qs.L.length < qs.T) = decide ((qs.L.length : Int) < (qs.T : Int)) := by rw [decide_eq_decide]; omega
  rw [e] at this
  exact this
theorem allW (j : JW Y0 B G w st h qs) (r : Rw st h qs) : Calls Try.prog 13 #[.pointer (some ⟨B, 0, none⟩)] w fun e w' => ∃ (oa : Option Addr) (c : Nat) (ks : List Int), e = .returned (.slice oa qs.L.length c) ∧ ks.length = qs.L.length ∧ Ks st.f st.n ks ∧ Ba.At w' oa ks ∧ Below w.heap.size w w' := by
  obtain ⟨v, s, q, n⟩ := j
  refine (Wa.all_any s).mono ?_
  rintro e w' ⟨u, ks, rfl, hk, ho, hb⟩
  obtain ⟨oa, c, rfl, hA⟩ := Ba.owns_at ho
  have hl : ks.length = qs.L.length := by rw [hk.len, r.n]
  exact ⟨oa, c, ks, by rw [hl], hl, hk, hA, hb⟩
/-- whoever has a tid is there in the reference -/
theorem Rw.some_at (r : Rw st h qs) {g : Int} (hg : (st.f g).isSome = true) : ∃ (k : Nat) (o : On) (b : Nat) (l : List Int), st.f g = some (o.t, b) ∧ at_ qs.L g = (k : Int) ∧ qs.L[k]? = some o ∧ o.g = g ∧ h b = some l ∧ Good l o.F := by
  rcases r.at g with ⟨h1, -⟩ | q
  · rw [h1] at hg; cases hg
  · exact q
end
theorem own_zero (t m : Nat) : Own ⟨t, m, [o1]⟩ := by
  have one : ∀ (i : Nat) (o : On), [o1][i]? = some o → o = o1 := fun i o ho => by
    match i, ho with
    | 0, ho => simp at ho; exact ho.symm
  refine ⟨fun i j o p ho hp => ?_, fun j p s hp hs hno => ?_⟩
  · rw [one i o ho, one j p hp]; exact Int.le_refl _
  · rw [one j p hp]
    have : (0 : Nat) ≠ s := hno 0 o1 rfl
    show upF nf 0 1 s = 0
    rw [up_other _ _ _ _ (fun e => this e.symm)]
    rfl
/-- both at their beginning -/
theorem jw_zero {w w1 w2 : World} {B G c : Nat} {v : Value} {t m : Nat} {h : Nat → Option (List Int)} (ht : 1 ≤ t) (s : WW (Lw w) B w1 ⟨t, m, 1, upf (fun _ => none) 0 (some (0, c))⟩ h) (hc : h c = some [1]) (k : Kp (Lw w) w w1) (q : QX w2 G ⟨t, m, [o1]⟩ v) (hq : ∀ x, QB G v x → w1.heap.size ≤ x) (b : Below w1.heap.size w1 w2) :
    JW (Lw w) B G w2 ⟨t, m, 1, upf (fun _ => none) 0 (some (0, c))⟩ h ⟨t, m, [o1]⟩ ∧ Rw ⟨t, m, 1, upf (fun _ => none) 0 (some (0, c))⟩ h ⟨t, m, [o1]⟩ ∧ Kp (Lw w) w w2 := by
  have hsz := k.size
  obtain ⟨mb, D, s⟩ := s
  have one : ∀ (i : Nat) (o : On), [o1][i]? = some o → i = 0 ∧ o = o1 := fun i o ho => by
    match i, ho with
    | 0, ho => simp at ho; exact ⟨rfl, ho.symm⟩
  refine ⟨⟨v, ⟨mb, D, s.more b ?_ ?_⟩, q, fun x hx hy => ?_⟩, ⟨rfl, rfl, rfl, ?_, ?_, ?_, ?_, ?_⟩, Wa.kp_b k b s.ylt⟩
  · rintro x (hx | hx)
    · exact .inl hx
    · exact .inr (hq x hx)
  · rintro x (hx | hx)
    · have : x < w.heap.size := hx
      have := b.size
      omega
    · exact q.rlt x hx
  · have : x < w.heap.size := hy
    have := hq x hx
    omega
  · intro i j o p ho hp _; rw [(one i o ho).1, (one j p hp).1]
  · intro i j o p ho hp _; rw [(one i o ho).1, (one j p hp).1]
  · intro o ho
    rw [List.mem_singleton] at ho
    subst ho
    exact ht
  · intro i o ho
    rw [(one i o ho).2]
    refine ⟨c, [1], (upf_same (fun _ => none) 0 (some (0, c)) : upf (fun _ => none) 0 (some (0, c)) 0 = some (0, c)), hc, fun x hx => ?_⟩
    show nth [1] x = upF nf 0 1 x
    match x with
    | 0 => rfl
    | x + 1 => rw [up_other _ _ _ _ (by omega)]; rfl
  · intro g t' b' e
    by_cases hg : g = 0
    · exact ⟨0, o1, rfl, by rw [hg]; rfl⟩
    · rw [show (⟨t, m, 1, upf (fun _ => none) 0 (some (0, c))⟩ : Wst).f g = upf (fun _ => none) 0 (some (0, c)) g from rfl, upf_other _ _ _ _ hg] at e
      cases e
end Wq
end Go.Proofs.Ytfimfgffbfjkeaa
