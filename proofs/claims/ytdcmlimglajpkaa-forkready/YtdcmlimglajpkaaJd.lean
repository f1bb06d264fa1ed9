/- Package fork: waiter, Try, Leave, over this seat's program. -/
import Derived.Test.YtdcmlimglajpkaaJc
namespace Go.Proofs.Ytdcmlimglajpkaa
open Go.ChangeShapes Go.WideShapes Go.ChangeAt Go.RowKit
namespace Fk
open Ba Pe _root_.Go.Proofs.Ytdcmlimglajpkaa.Pi Rp

def All (Fs : Nat → Nat → Prop) : Nat → Prop := fun x => ∃ i, Fs i x
def NwA (Fs' Fs : Nat → Nat → Prop) (w : World) : Prop := ∀ i x, Fs' i x → All Fs x ∨ w.heap.size ≤ x
theorem NwA.refl (Fs : Nat → Nat → Prop) (w : World) : NwA Fs Fs w := fun i _ h => .inl ⟨i, h⟩
theorem NwA.trans {F G H : Nat → Nat → Prop} {a b : World} (h : NwA G F a) (k : NwA H G b) (hs : a.heap.size ≤ b.heap.size) : NwA H F a := by
  intro i x hx
  rcases k i x hx with ⟨j, q⟩ | q
  · exact h j x q
  · exact .inr (by omega)
theorem Qs.rl {Q : World → Nat → (Nat → Prop) → St → Prop} {w : World} {oa : Option Addr} {bs : List (Option Nat)} {Fs : Nat → Nat → Prop} {sts : List (Option St)} (h : Qs Q w oa bs Fs sts) {i : Nat} {o : Option Nat} (hi : bs[i]? = some o) : ∀ a, oa = some a → a.block < w.heap.size := by
  intro a e
  obtain ⟨b, off, e2, hc⟩ := h.row i o hi
  rw [e] at e2
  cases e2
  exact World.block_lt_of_cell? w ⟨b, off + i, none⟩ hc
/-- what has become of the channels -/
def Rz (Q : World → Nat → (Nat → Prop) → St → Prop) (w w' : World) (oa : Option Addr) (bs : List (Option Nat)) (Fs : Nat → Nat → Prop) (sts : List (Option St)) : Prop :=
  ∃ Fs', NwA Fs' Fs w ∧ Qs Q w' oa bs Fs' sts ∧ KF (All Fs) w w'
theorem Rz.same {Q : World → Nat → (Nat → Prop) → St → Prop} (fr : Fr Q) {w w' : World} {oa : Option Addr} {bs : List (Option Nat)} {Fs : Nat → Nat → Prop} {sts : List (Option St)} (h : Qs Q w oa bs Fs sts) (hb : Below w.heap.size w w') : Rz Q w w' oa bs Fs sts := ⟨Fs, NwA.refl _ _, h.below fr hb, KF.of hb⟩
theorem Rz.below {Q : World → Nat → (Nat → Prop) → St → Prop} (fr : Fr Q) {w a b : World} {oa : Option Addr} {bs : List (Option Nat)} {Fs : Nat → Nat → Prop} {sts : List (Option St)} (h : Rz Q w a oa bs Fs sts) (hb : Below a.heap.size a b) : Rz Q w b oa bs Fs sts := by
  obtain ⟨Fs', n, q, k⟩ := h
  exact ⟨Fs', n, q.below fr hb, k.then hb⟩
theorem Rz.trans {Q : World → Nat → (Nat → Prop) → St → Prop} {w a b : World} {oa : Option Addr} {bs : List (Option Nat)} {Fs Fs1 : Nat → Nat → Prop} {sts : List (Option St)} (n1 : NwA Fs1 Fs w) (k1 : KF (All Fs) w a) (h : Rz Q a b oa bs Fs1 sts) : Rz Q w b oa bs Fs sts := by
  obtain ⟨Fs', n, q, k⟩ := h
  exact ⟨Fs', n1.trans n k1.size, q, k1.trans k (fun x hx => by obtain ⟨i, hi⟩ := hx; exact n1 i x hi)⟩
theorem Rz.step {Q : World → Nat → (Nat → Prop) → St → Prop} (fr : Fr Q) {w a b : World} {oa : Option Addr} {bs : List (Option Nat)} {Fs : Nat → Nat → Prop} {sts : List (Option St)} (h : Qs Q w oa bs Fs sts) (hb : Below w.heap.size w a) {i B : Nat} {F' : Nat → Prop} {st' : St} (hi : bs[i]? = some (some B)) (k : KF (Fs i) a b) (n : Nw F' (Fs i) a) (q : Q b B F' st') : Rz Q w b oa bs Fs (sts.set i (some st')) := by
  have ha := h.below fr hb
  refine ⟨up Fs i F', fun j x hx => ?_, ha.step fr hi k n q (ha.rl hi), (KF.of (F := All Fs) hb).trans k (fun x hx => .inl ⟨i, hx⟩)⟩
  by_cases e : j = i
  · subst e
    rw [up_same] at hx
    rcases n x hx with z | z
    · exact .inl ⟨j, z⟩
    · exact .inr (Nat.le_trans hb.size z)
  · rw [up_other _ _ _ _ e] at hx
    exact .inl ⟨j, hx⟩
/-- the result's cells, a new block, are laid last -/
theorem Rz.set7 {Q : World → Nat → (Nat → Prop) → St → Prop} (fr : Fr Q) {w A : World} {oa : Option Addr} {bs : List (Option Nat)} {Fs : Nat → Nat → Prop} {sts : List (Option St)} {Z : Nat} (h : ∃ Fs', NwA Fs' Fs w ∧ Qs Q A oa bs Fs' sts ∧ KF (All Fs) w A ∧ ∀ i, ¬ Fs' i Z) (hz : w.heap.size ≤ Z) (hr : ∀ a, oa = some a → a.block < w.heap.size ∨ bs = []) (u0 u1 u2 u3 u4 u5 u6 : Value) :
    Rz Q w (((((((A.setCell ⟨Z, 0, none⟩ u0).setCell ⟨Z, 1, none⟩ u1).setCell ⟨Z, 2, none⟩ u2).setCell ⟨Z, 3, none⟩ u3).setCell ⟨Z, 4, none⟩ u4).setCell ⟨Z, 5, none⟩ u5).setCell ⟨Z, 6, none⟩ u6) oa bs Fs sts := by
  obtain ⟨Fs', n, q, k, hn⟩ := h
  have K := (((((((KB.refl Z A).setCell 0 u0).setCell 1 u1).setCell 2 u2).setCell 3 u3).setCell 4 u4).setCell 5 u5).setCell 6 u6
  refine ⟨Fs', n, ?_, ((((((k.setNew hz 0 u0).setNew hz 1 u1).setNew hz 2 u2).setNew hz 3 u3).setNew hz 4 u4).setNew hz 5 u5).setNew hz 6 u6⟩
  have hs : ∀ i, Sm (Fs' i) A (((((((A.setCell ⟨Z, 0, none⟩ u0).setCell ⟨Z, 1, none⟩ u1).setCell ⟨Z, 2, none⟩ u2).setCell ⟨Z, 3, none⟩ u3).setCell ⟨Z, 4, none⟩ u4).setCell ⟨Z, 5, none⟩ u5).setCell ⟨Z, 6, none⟩ u6) := fun i x hx => K.block x (q.bd i x hx) (fun e => hn i (e ▸ hx))
  by_cases hbs : bs = []
  · refine ⟨fun i o hi => by rw [hbs] at hi; simp at hi, q.len, fun i B hi => by rw [hbs] at hi; simp at hi, fun i hi => by rw [hbs] at hi; simp at hi, q.ap, q.nr, fun i => (q.bd i).sm (hs i)⟩
  · exact q.keep fr hs (fun a e hl => K.block _ hl (by have := (hr a e).resolve_right hbs; omega))
theorem waiter_any (g : Int) (p : Nat) (c : Ca) (w : World) :
    Calls Try.prog 41 #[.int .i64 g, .int .i64 (p : Int), cv c] w fun r w' => r = .returned (wv ⟨g, p, c.v⟩) ∧ Below w.heap.size w w' := by
  unfold cv wv
  go_enter Try.func41, Try.ntmps41
  go_wp2_with fail
  have hn := heap_new (w.alloc (.cells #[.bool c.sd, .int .i64 c.ch, .int .i64 c.v] 32)) (.cells #[.int .i64 g, .int .i64 (p : Int), .int .i64 c.v] 49)
  rw [World.size_alloc] at hn
  exact bodyPost_ret (results_row1 Try.results41 _ _ _ _ rfl (loadVar_wt hn rfl)) rfl ⟨rfl, btr (below_alloc _ _) (below_alloc _ _)⟩
def tryG (sts : List (Option St)) (c : Ca) : Gt := match nmB sts c.ch with | none => gz | some st => if c.sd then sendG st else recvG st
def tryE (sts : List (Option St)) (c : Ca) : Int := match nmB sts c.ch with | none => 0 | some st => if c.sd then sendE st else 0
def tryS (sts : List (Option St)) (c : Ca) : List (Option St) := match nmB sts c.ch with | none => sts | some st => sts.set c.ch.toNat (some (if c.sd then sendS st c.v else recvS st))
/-- counts that are far from the greatest -/
def Sml (sts : List (Option St)) : Prop := ∀ (i : Nat) (st : St), sts[i]? = some (some st) → st.sent < 1000000000 ∧ st.got < 1000000000
end Fk
end Go.Proofs.Ytdcmlimglajpkaa
