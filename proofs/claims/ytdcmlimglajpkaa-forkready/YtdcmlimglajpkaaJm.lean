/- The laws' own one(), over this seat's program. -/
import Derived.Test.YtdcmlimglajpkaaJl
import Derived.Test.YtdcmlimglajpkaaBi
namespace Go.Proofs.Ytdcmlimglajpkaa
open Go.ChangeShapes Go.WideShapes Go.ChangeAt Go.RowKit
namespace Fk
open Ba Pe _root_.Go.Proofs.Ytdcmlimglajpkaa.Pi Rp

/-- channels of one's own, newer than w -/
structure On (w u : World) (oa : Option Addr) (bs : List (Option Nat)) (Fs : Nat → Nat → Prop) (sts : List (Option St)) : Prop where
  q : Qs Pp u oa bs Fs sts
  b : Below w.heap.size w u
  lo : ∀ x, All Fs x → w.heap.size ≤ x
theorem On.below {w u v : World} {oa : Option Addr} {bs : List (Option Nat)} {Fs : Nat → Nat → Prop} {sts : List (Option St)} (h : On w u oa bs Fs sts) (hb : Below u.heap.size u v) : On w v oa bs Fs sts := ⟨h.q.below frP hb, btr h.b hb, h.lo⟩
/-- what is not the channels' stays -/
def Stays (u v : World) (Fs Fs' : Nat → Nat → Prop) : Prop := ∀ x, x < u.heap.size → ¬ All Fs x → v.heap[x]? = u.heap[x]? ∧ ¬ All Fs' x
theorem On.step {w u v : World} {oa : Option Addr} {bs : List (Option Nat)} {Fs : Nat → Nat → Prop} {sts sts' : List (Option St)} (h : On w u oa bs Fs sts) (r : Rz Pp u v oa bs Fs sts') : ∃ Fs', On w v oa bs Fs' sts' ∧ Stays u v Fs Fs' := by
  obtain ⟨Fs', n, q, k⟩ := r
  refine ⟨Fs', ⟨q, k.below h.b h.lo, ?_⟩, ?_⟩
  · rintro x ⟨i, hi⟩
    rcases n i x hi with z | z
    · exact h.lo x z
    · exact Nat.le_trans h.b.size z
  · intro x hx hn
    refine ⟨k.block x hx hn, ?_⟩
    rintro ⟨i, hi⟩
    rcases n i x hi with z | z
    · exact hn z
    · omega
def two (F G : Nat → Prop) : Nat → Nat → Prop := fun i => if i = 0 then F else if i = 1 then G else fun _ => False
theorem qs_two {w : World} {B C : Nat} {F G : Nat → Prop} {s t : St} (p : Pp w B F s) (q : Pp w C G t) (d : ∀ x, F x → ¬ G x) {R : Nat} {ty : TypeId} (hR : w.heap[R]? = some (.cells #[.pointer (some ⟨B, 0, none⟩), .pointer (some ⟨C, 0, none⟩)] ty (0, 0))) (hF : ¬ F R) (hG : ¬ G R) : Qs Pp w (some ⟨R, 0, none⟩) [some B, some C] (two F G) [some s, some t] := by
  refine ⟨?_, rfl, ?_, ?_, ?_, ?_, ?_⟩
  · intro i o hi
    match i, hi with
    | 0, hi => simp at hi; subst hi; exact ⟨R, 0, rfl, cell_of hR 0⟩
    | 1, hi => simp at hi; subst hi; exact ⟨R, 0, rfl, cell_of hR 1⟩
    | i + 2, hi => simp at hi
  · intro i D hi
    match i, hi with
    | 0, hi => simp at hi; subst hi; exact ⟨s, rfl, p⟩
    | 1, hi => simp at hi; subst hi; exact ⟨t, rfl, q⟩
    | i + 2, hi => simp at hi
  · intro i hi
    match i, hi with
    | 0, hi => simp at hi
    | 1, hi => simp at hi
    | i + 2, hi => simp at hi
  · intro i j hij x hx hy
    match i, j, hij, hx, hy with
    | 0, 0, hij, _, _ => exact hij rfl
    | 0, 1, _, hx, hy => exact d x hx hy
    | 0, j + 2, _, _, hy => exact hy
    | 1, 0, _, hx, hy => exact d x hy hx
    | 1, 1, hij, _, _ => exact hij rfl
    | 1, j + 2, _, _, hy => exact hy
    | i + 2, _, _, hx, _ => exact hx
  · intro a e i hi
    cases e
    match i, hi with
    | 0, hi => exact hF hi
    | 1, hi => exact hG hi
    | i + 2, hi => exact hi
  · intro i x hx
    match i, hx with
    | 0, hx => exact p.bd x hx
    | 1, hx => exact q.bd x hx
    | i + 2, hx => exact hx.elim
def l1 : List Ca := [⟨false, 0, 0⟩, ⟨true, 1, 5⟩]
def s1 : List (Option St) := [some ⟨1, [7], [], [], 1, 0, false⟩, some ⟨0, [], [], [], 0, 0, false⟩]
def s2 : List (Option St) := [some ⟨1, [], [], [], 1, 1, false⟩, some ⟨0, [], [], [], 0, 0, false⟩]
def s3 : List (Option St) := [some ⟨1, [], [], [⟨3, 0, 0⟩], 1, 1, false⟩, some ⟨0, [], [⟨3, 1, 5⟩], [], 0, 0, false⟩]
theorem l1_at {w : World} {K : Nat} {ty : TypeId} (h : w.heap[K]? = some (.cells #[.bool false, .int .i64 0, .int .i64 0, .bool true, .int .i64 1, .int .i64 5] ty (0, 0))) : CaAt w (some ⟨K, 0, none⟩) l1 := by
  intro k x hk
  match k, hk with
  | 0, hk => simp [l1] at hk; subst hk; exact ⟨K, 0, rfl, cell_of h 0, cell_of h 1, cell_of h 2⟩
  | 1, hk => simp [l1] at hk; subst hk; exact ⟨K, 0, rfl, cell_of h 3, cell_of h 4, cell_of h 5⟩
  | k + 2, hk => simp [l1] at hk
theorem r1 : rdyL l1 s1 = [0] := by decide
theorem t1 : tryG s1 ⟨false, 0, 0⟩ = ⟨true, true, false, 7, ⟨0, 0, 0⟩⟩ := by rfl
theorem t1e : tryE s1 ⟨false, 0, 0⟩ = 0 := by rfl
theorem t1s : tryS s1 ⟨false, 0, 0⟩ = s2 := by rfl
theorem p1e : pkE 3 l1 s2 = 0 := by decide
theorem p1n : pkN 3 l1 s2 = 2 := by decide
theorem p1s : pkA 3 l1 s2 = s3 := by rfl
theorem v1n : leaveN 3 s3 = 2 := by decide
end Fk
end Go.Proofs.Ytdcmlimglajpkaa
