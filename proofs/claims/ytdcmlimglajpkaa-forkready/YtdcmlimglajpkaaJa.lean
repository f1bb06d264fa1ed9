/- Many channels, by a row of pointers, each one's footprint apart from the others'. -/
import Derived.Test.YtdcmlimglajpkaaYj
import Derived.Test.YtdcmlimglajpkaaXg
import Derived.Test.YtdcmlimglajpkaaXi
import Derived.Test.YtdcmlimglajpkaaXj
namespace Go.Proofs.Ytdcmlimglajpkaa
open Go.ChangeShapes Go.WideShapes Go.ChangeAt Go.RowKit
namespace Fk
open Ba Pe _root_.Go.Proofs.Ytdcmlimglajpkaa.Pi Rp

/-- a row of pointers -/
def PR (w : World) (oa : Option Addr) (bs : List (Option Nat)) : Prop := ∀ (i : Nat) (o : Option Nat), bs[i]? = some o → ∃ b off, oa = some ⟨b, off, none⟩ ∧ w.cell? ⟨b, off + i, none⟩ = some (pt o)
theorem PR.keep {w w' : World} {oa : Option Addr} {bs : List (Option Nat)} (h : PR w oa bs) (hk : ∀ a, oa = some a → a.block < w.heap.size → w'.heap[a.block]? = w.heap[a.block]?) : PR w' oa bs := by
  intro i o hi
  obtain ⟨b, off, e, hc⟩ := h i o hi
  refine ⟨b, off, e, ?_⟩
  have := hk _ e (World.block_lt_of_cell? w ⟨b, off + i, none⟩ hc)
  rw [← hc]
  simp only at this
  simp only [World.cell?, this]
theorem PR.below {w w' : World} {oa : Option Addr} {bs : List (Option Nat)} (h : PR w oa bs) (hb : Below w.heap.size w w') : PR w' oa bs := h.keep fun _ _ hl => hb.block _ hl
/-- what keeps a channel -/
structure Fr (Q : World → Nat → (Nat → Prop) → St → Prop) : Prop where
  sm : ∀ {w w' : World} {B : Nat} {F : Nat → Prop} {st : St}, Q w B F st → Sm F w w' → Q w' B F st
  bd : ∀ {w : World} {B : Nat} {F : Nat → Prop} {st : St}, Q w B F st → Bd F w
theorem frP : Fr Pp := ⟨fun h s => h.sm s, fun h => h.bd⟩
theorem frR : Fr Rr := ⟨fun h s => h.sm s, fun h => h.bd⟩
/-- channels, by name -/
structure Qs (Q : World → Nat → (Nat → Prop) → St → Prop) (w : World) (oa : Option Addr) (bs : List (Option Nat)) (Fs : Nat → Nat → Prop) (sts : List (Option St)) : Prop where
  row : PR w oa bs
  len : bs.length = sts.length
  one : ∀ (i B : Nat), bs[i]? = some (some B) → ∃ st, sts[i]? = some (some st) ∧ Q w B (Fs i) st
  non : ∀ (i : Nat), bs[i]? = some none → sts[i]? = some none
  ap : ∀ i j, i ≠ j → ∀ x, Fs i x → ¬ Fs j x
  nr : ∀ a, oa = some a → ∀ i, ¬ Fs i a.block
  bd : ∀ i, Bd (Fs i) w
theorem Qs.keep {Q : World → Nat → (Nat → Prop) → St → Prop} (fr : Fr Q) {w w' : World} {oa : Option Addr} {bs : List (Option Nat)} {Fs : Nat → Nat → Prop} {sts : List (Option St)} (h : Qs Q w oa bs Fs sts) (hs : ∀ i, Sm (Fs i) w w') (hr : ∀ a, oa = some a → a.block < w.heap.size → w'.heap[a.block]? = w.heap[a.block]?) : Qs Q w' oa bs Fs sts :=
  ⟨h.row.keep hr, h.len, fun i B hi => by
    obtain ⟨st, e, q⟩ := h.one i B hi
    exact ⟨st, e, fr.sm q (hs i)⟩, h.non, h.ap, h.nr, fun i => (h.bd i).sm (hs i)⟩
theorem Qs.below {Q : World → Nat → (Nat → Prop) → St → Prop} (fr : Fr Q) {w w' : World} {oa : Option Addr} {bs : List (Option Nat)} {Fs : Nat → Nat → Prop} {sts : List (Option St)} (h : Qs Q w oa bs Fs sts) (hb : Below w.heap.size w w') : Qs Q w' oa bs Fs sts :=
  h.keep fr (fun i => Sm.below hb (h.bd i)) (fun _ _ hl => hb.block _ hl)
theorem Qs.kf {Q : World → Nat → (Nat → Prop) → St → Prop} (fr : Fr Q) {w w' : World} {G : Nat → Prop} {oa : Option Addr} {bs : List (Option Nat)} {Fs : Nat → Nat → Prop} {sts : List (Option St)} (h : Qs Q w oa bs Fs sts) (k : KF G w w') (hd : ∀ i x, Fs i x → ¬ G x) (hr : ∀ a, oa = some a → ¬ G a.block) : Qs Q w' oa bs Fs sts :=
  h.keep fr (fun i => Sm.kf k (h.bd i) (hd i)) (fun a e hl => k.block _ hl (hr a e))
def up (Fs : Nat → Nat → Prop) (i : Nat) (F : Nat → Prop) : Nat → Nat → Prop := fun j => if j = i then F else Fs j
theorem up_same (Fs : Nat → Nat → Prop) (i : Nat) (F : Nat → Prop) : up Fs i F i = F := by simp [up]
theorem up_other (Fs : Nat → Nat → Prop) (i j : Nat) (F : Nat → Prop) (h : j ≠ i) : up Fs i F j = Fs j := by simp [up, h]
/-- one channel has done something -/
theorem Qs.step {Q : World → Nat → (Nat → Prop) → St → Prop} (fr : Fr Q) {w w' : World} {oa : Option Addr} {bs : List (Option Nat)} {Fs : Nat → Nat → Prop} {sts : List (Option St)} (h : Qs Q w oa bs Fs sts) {i B : Nat} {F' : Nat → Prop} {st' : St} (hi : bs[i]? = some (some B)) (k : KF (Fs i) w w') (n : Nw F' (Fs i) w) (q : Q w' B F' st') (hrl : ∀ a, oa = some a → a.block < w.heap.size) : Qs Q w' oa bs (up Fs i F') (sts.set i (some st')) := by
  have hil : i < bs.length := (List.getElem?_eq_some_iff.1 hi).1
  refine ⟨h.row.keep fun a e hl => k.block _ hl (h.nr a e i), by rw [List.length_set]; exact h.len, fun j C hj => ?_, fun j hj => ?_, fun j l hjl x hx => ?_, fun a e j hf => ?_, fun j => ?_⟩
  · by_cases e : j = i
    · subst e
      rw [hi] at hj
      cases hj
      exact ⟨st', by rw [List.getElem?_set]; simp; rw [← h.len]; exact hil, by rw [up_same]; exact q⟩
    · obtain ⟨st, e1, q1⟩ := h.one j C hj
      exact ⟨st, by rw [List.getElem?_set_ne (Ne.symm e)]; exact e1, by rw [up_other _ _ _ _ e]; exact fr.sm q1 (Sm.kf k (h.bd j) (h.ap j i e))⟩
  · by_cases e : j = i
    · subst e
      rw [hi] at hj
      cases hj
    · rw [List.getElem?_set_ne (Ne.symm e)]
      exact h.non j hj
  · by_cases e1 : j = i
    · subst e1
      rw [up_same] at hx
      rw [up_other _ _ _ _ (Ne.symm hjl)]
      intro hl
      rcases n x hx with z | z
      · exact h.ap j l hjl x z hl
      · have := h.bd l x hl
        omega
    · rw [up_other _ _ _ _ e1] at hx
      by_cases e2 : l = i
      · subst e2
        rw [up_same]
        exact n.apart (h.bd j) (h.ap j l e1) x hx
      · rw [up_other _ _ _ _ e2]
        exact h.ap j l hjl x hx
  · by_cases e1 : j = i
    · subst e1
      rw [up_same] at hf
      rcases n _ hf with z | z
      · exact h.nr a e j z
      · have := hrl a e
        omega
    · rw [up_other _ _ _ _ e1] at hf
      exact h.nr a e j hf
  · by_cases e1 : j = i
    · subst e1
      rw [up_same]
      exact fr.bd q
    · rw [up_other _ _ _ _ e1]
      exact (h.bd j).mono k.size
/-- the channel by a name -/
def nmB {α : Type} (bs : List (Option α)) (c : Int) : Option α := if c < 0 ∨ (bs.length : Int) ≤ c then none else (bs[c.toNat]?).join
theorem Qs.nm {Q : World → Nat → (Nat → Prop) → St → Prop} {w : World} {oa : Option Addr} {bs : List (Option Nat)} {Fs : Nat → Nat → Prop} {sts : List (Option St)} (h : Qs Q w oa bs Fs sts) (c : Int) : (nmB bs c = none ∧ nmB sts c = none) ∨ ∃ B st, nmB bs c = some B ∧ nmB sts c = some st ∧ 0 ≤ c ∧ c.toNat < bs.length ∧ bs[c.toNat]? = some (some B) ∧ sts[c.toNat]? = some (some st) ∧ Q w B (Fs c.toNat) st := by
  unfold nmB
  rw [← h.len]
  by_cases e : c < 0 ∨ (bs.length : Int) ≤ c
  · exact .inl ⟨by rw [if_pos e], by rw [if_pos e]⟩
  · rw [if_neg e, if_neg e]
    have hl : c.toNat < bs.length := by omega
    cases hb : bs[c.toNat]? with
    | none => rw [List.getElem?_eq_none_iff] at hb; omega
    | some o =>
      cases o with
      | none => exact .inl ⟨rfl, by rw [h.non _ hb]; rfl⟩
      | some B =>
        obtain ⟨st, e1, q⟩ := h.one _ _ hb
        exact .inr ⟨B, st, rfl, by rw [e1]; rfl, by omega, hl, rfl, e1, q⟩
/-- a case -/
structure Ca where
  sd : Bool
  ch : Int
  v : Int
def cv (c : Ca) : Value := .agg #[.bool c.sd, .int .i64 c.ch, .int .i64 c.v]
def CaAt (w : World) (oa : Option Addr) (l : List Ca) : Prop :=
  ∀ k x, l[k]? = some x → ∃ b off, oa = some ⟨b, off, none⟩ ∧ w.cell? ⟨b, off + k * 3, none⟩ = some (.bool x.sd) ∧ w.cell? ⟨b, off + k * 3 + 1, none⟩ = some (.int .i64 x.ch) ∧ w.cell? ⟨b, off + k * 3 + 2, none⟩ = some (.int .i64 x.v)
theorem CaAt.nil (w : World) (oa : Option Addr) : CaAt w oa [] := fun _ _ h => by simp at h
theorem CaAt.below {w w' : World} {oa : Option Addr} {l : List Ca} (h : CaAt w oa l) (hb : Below w.heap.size w w') : CaAt w' oa l := by
  intro k x hk
  obtain ⟨b, off, e, h0, h1, h2⟩ := h k x hk
  exact ⟨b, off, e, (hb.cell (World.block_lt_of_cell? w _ h0)).trans h0, (hb.cell (World.block_lt_of_cell? w _ h1)).trans h1, (hb.cell (World.block_lt_of_cell? w _ h2)).trans h2⟩

theorem named_any (oa : Option Addr) (bs : List (Option Nat)) (c : Int) (cp : Nat) (w : World) (h : PR w oa bs) :
    Calls Try.prog 40 #[.int .i64 c, .slice oa bs.length cp] w fun r w' => r = .returned (pt (nmB bs c)) ∧ w' = w := by
  unfold nmB
  by_cases h1 : c < 0
  · have d1 : decide (c < 0) = true := decide_eq_true h1
    rw [if_pos (.inl h1)]
    clear h
    go_enter Try.func40, Try.ntmps40
    go_wp2_with fail
    go_ret
    exact ⟨rfl, rfl⟩
  · have d1 : decide (c < 0) = false := decide_eq_false h1
    obtain ⟨n, rfl⟩ := Int.eq_ofNat_of_zero_le (show 0 ≤ c by omega)
    by_cases h2 : bs.length ≤ n
    · have d2 : decide ((bs.length : Int) ≤ (n : Int)) = true := decide_eq_true (by omega)
      rw [if_pos (.inr (by omega))]
      clear h
      go_enter Try.func40, Try.ntmps40
      go_wp2_with fail
      go_ret
      exact ⟨rfl, rfl⟩
    · have d2 : decide ((bs.length : Int) ≤ (n : Int)) = false := decide_eq_false (by omega)
      have hlt : (n : Int) < (bs.length : Int) := by omega
      rw [if_neg (by omega), Int.toNat_natCast]
      obtain ⟨o, ho⟩ : ∃ o, bs[n]? = some o := ⟨_, List.getElem?_eq_getElem (by omega)⟩
      obtain ⟨b, off, rfl, hc⟩ := h n o ho
      rw [ho]
      rw [show (some o).join = o by cases o <;> rfl]
      unfold pt at hc ⊢
      generalize o.map (fun b => (⟨b, 0, none⟩ : Addr)) = q at hc ⊢
      clear h ho
      go_enter Try.func40, Try.ntmps40
      go_wp2_with fail
      go_ret
      exact ⟨rfl, rfl⟩
theorem rnamed_any (oa : Option Addr) (bs : List (Option Nat)) (c : Int) (cp : Nat) (w : World) (h : PR w oa bs) :
    Calls Try.prog 23 #[.slice oa bs.length cp, .int .i64 c] w fun r w' => r = .returned (pt (nmB bs c)) ∧ w' = w := by
  unfold nmB
  by_cases h1 : c < 0
  · have d1 : decide (c < 0) = true := decide_eq_true h1
    rw [if_pos (.inl h1)]
    clear h
    go_enter Try.func23, Try.ntmps23
    go_wp2_with fail
    go_ret
    exact ⟨rfl, rfl⟩
  · have d1 : decide (c < 0) = false := decide_eq_false h1
    obtain ⟨n, rfl⟩ := Int.eq_ofNat_of_zero_le (show 0 ≤ c by omega)
    by_cases h2 : bs.length ≤ n
    · have d2 : decide ((bs.length : Int) ≤ (n : Int)) = true := decide_eq_true (by omega)
      rw [if_pos (.inr (by omega))]
      clear h
      go_enter Try.func23, Try.ntmps23
      go_wp2_with fail
      go_ret
      exact ⟨rfl, rfl⟩
    · have d2 : decide ((bs.length : Int) ≤ (n : Int)) = false := decide_eq_false (by omega)
      have hlt : (n : Int) < (bs.length : Int) := by omega
      rw [if_neg (by omega), Int.toNat_natCast]
      obtain ⟨o, ho⟩ : ∃ o, bs[n]? = some o := ⟨_, List.getElem?_eq_getElem (by omega)⟩
      obtain ⟨b, off, rfl, hc⟩ := h n o ho
      rw [ho, show (some o).join = o by cases o <;> rfl]
      unfold pt at hc ⊢
      generalize o.map (fun b => (⟨b, 0, none⟩ : Addr)) = q at hc ⊢
      clear h ho
      go_enter Try.func23, Try.ntmps23
      go_wp2_with fail
      go_ret
      exact ⟨rfl, rfl⟩
end Fk
end Go.Proofs.Ytdcmlimglajpkaa
