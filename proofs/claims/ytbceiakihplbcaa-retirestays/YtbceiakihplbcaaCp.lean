/- Package clock: put, Set, Tick, Copy, New, Of and Epoch as what they leave in memory, over this seat's program. -/
import Derived.Test.YtbceiakihplbcaaCj
namespace Go.Proofs.Ytbceiakihplbcaa
open Go.ChangeShapes Go.WideShapes Go.ChangeAt Go.RowKit
namespace Ck

/-- no nought at the end -/
def Canon (l : List Int) : Prop := tlen l = l.length
theorem canon_trm (l : List Int) : Canon (trm l) := by
  have h : IsT (trm l) (trm l).length := by
    refine ⟨Nat.le_refl _, fun j hj => nth_out _ _ hj, ?_⟩
    rw [trm_length, nth_trm]
    exact (tlen_is l).2.2
  exact h.uniq.symm
theorem canon_eq {l m : List Int} (hl : Canon l) (hm : Canon m) (h : ∀ j, nth l j = nth m j) : l = m := by
  have e : IsT l (tlen m) := by
    obtain ⟨a, b, c⟩ := tlen_is m
    refine ⟨?_, fun j hj => (h j).trans (b j hj), ?_⟩
    · by_cases q : tlen m ≤ l.length
      · exact q
      · rcases c with c | c
        · omega
        · rw [← h, nth_out l _ (by omega)] at c
          exact absurd rfl c
    · rcases c with c | c
      · exact .inl c
      · right; rw [h]; exact c
  have e2 := e.uniq
  unfold Canon at hl hm
  exact eq_of_nth (by omega) fun j _ => h j

theorem Rep.trim {w : World} {b y cap : Nat} {l : List Int} (h : Rep w b l false (some y) cap) : Rep (w.setCell ⟨b, 0, none⟩ (.slice (some ⟨y, 0, none⟩) (tlen l) cap)) b (trm l) false (some y) cap := by
  have ht := tlen_le l
  have h1 := h.len
  have h2 := h.le
  refine ⟨?_, by rw [trm_length]; omega, by rw [trm_length]; omega, h.mx, fun q => by simp at q, fun q => by simp at q, fun x hx => ?_⟩
  · rw [heap_setCell_same h.head, trm_length]
    rfl
  · obtain ⟨hne, cur, hc, hcs, hcd⟩ := h.data x hx
    refine ⟨hne, cur, (Below.heap_setCell _ _ _ _ hne).trans hc, hcs, fun k hk => ?_⟩
    rw [trm_length] at hk
    rw [nth_trm]
    exact hcd k (by omega)

/-- what a change of tid t's number to n leaves -/
def Putted (w : World) (b : Nat) (l : List Int) (s : Bool) (g : Option Nat) (t : Nat) (n : Int) (w' : World) : Prop :=
  ∃ l' s' g' cap', Rep w' b l' s' g' cap' ∧ Canon l' ∧ (∀ j, nth l' j = if j = t then n else nth l j) ∧ Nx w s g s' g' ∧ Fr (Mine b s g) w w'

theorem putted_same {w : World} {b : Nat} {l : List Int} {s : Bool} {g : Option Nat} {cap t : Nat} {n : Int} (h : Rep w b l s g cap) (hc : Canon l) (hn : nth l t = n) : Putted w b l s g t n w :=
  ⟨l, s, g, cap, h, hc, fun j => by
    split
    · subst j; exact hn
    · rfl, Nx.refl _ _ _, Fr.refl _ _⟩

theorem putted_new {w w1 : World} {b : Nat} {l : List Int} {s : Bool} {g : Option Nat} {t y cap1 : Nat} {n : Int}
    (o1 : Rep w1 b (pad l (t + 1)) false (some y) cap1) (o2 : (s = false ∧ some y = g) ∨ ∃ z, some y = some z ∧ w.heap.size ≤ z) (o3 : Fr (Mine b s g) w w1) :
    Putted w b l s g t n ((w1.setCell ⟨y, t, none⟩ (.int .i64 n)).setCell ⟨b, 0, none⟩ (.slice (some ⟨y, 0, none⟩) (tlen ((pad l (t + 1)).set t n)) cap1)) := by
  have hp : t < (pad l (t + 1)).length := by rw [pad_length]; omega
  have nx := Owned.nx o2
  refine ⟨_, false, some y, cap1, (o1.setNum hp n).trim, canon_trm _, fun j => ?_, nx, ?_⟩
  · rw [nth_trm, nth_set _ _ _ _ hp, nth_pad]
  · exact o3.next nx (((Fr.refl _ _).setCell (.inl (.inr ⟨rfl, rfl⟩)) _).setCell (.inl (.inl rfl)) _)

theorem trim_n (oa : Option Addr) (l : List Int) (n c : Nat) (hn : l.length = n) (w : World) (hA : At w oa l) (hl : n ≤ c) (hc : c ≤ maxLen) :
    Calls Try.prog 26 #[.slice oa n c] w fun r w' => r = .returned (.slice oa (tlen l) c) ∧ w' = w := by
  subst hn
  exact trim_any oa l c w hA hl hc

def okT (n : Int) : Bool := decide (0 ≤ n) && decide (n < 256)
theorem okT_iff (n : Int) : okT n = true ↔ 0 ≤ n ∧ n < 256 := by simp [okT]
def okM (n : Int) : Bool := decide (1 ≤ n) && decide (n ≤ 1048576)
theorem okM_iff (n : Int) : okM n = true ↔ 1 ≤ n ∧ n ≤ 1048576 := by simp [okM]
theorem okM_okN (n : Int) (h : okM n = true) : okN n = true := by rw [okM_iff] at h; rw [okN_iff]; omega

theorem new_rep (w : World) : Rep (w.alloc (.cells #[.slice none 0 0, .bool false] 60)) w.heap.size [] false none 0 :=
  ⟨heap_new _ _, by simp, Nat.le_refl _, Nat.zero_le _, fun q => by simp at q, fun _ => rfl, fun x hx => by simp at hx⟩

/-- what a copy leaves: both clocks share the numbers, and neither has room beyond them -/
theorem copy_reps {b : Nat} {l : List Int} {s : Bool} {g : Option Nat} {cap : Nat} {w : World} (h : Rep w b l s g cap) {W : World}
    (hW : W = ((w.setCell ⟨b, 0, none⟩ (.slice (g.map fun g => ⟨g, 0, none⟩) l.length l.length)).setCell ⟨b, 1, none⟩ (.bool true)).alloc (.cells #[.slice (g.map fun g => ⟨g, 0, none⟩) l.length l.length, .bool true] 60)) :
    Rep W b l true g l.length ∧ Rep W w.heap.size l true g l.length ∧ Fr (fun k => k = b) w W ∧ W.heap.size = w.heap.size + 1 := by
  subst hW
  have hb := h.lt
  have hsz := size2 w b (.slice (g.map fun g => ⟨g, 0, none⟩) l.length l.length) (.bool true)
  have hle := h.le
  have hmx := h.mx
  have hold : ∀ x, g = some x → x ≠ b ∧ ∃ cur, (((w.setCell ⟨b, 0, none⟩ (.slice (g.map fun g => ⟨g, 0, none⟩) l.length l.length)).setCell ⟨b, 1, none⟩ (.bool true)).alloc (.cells #[.slice (g.map fun g => ⟨g, 0, none⟩) l.length l.length, .bool true] 60)).heap[x]? = some (.cells cur 3 (0, 0)) ∧ l.length ≤ cur.size ∧ ∀ k, k < l.length → cur[k]? = some (.int .i64 (nth l k)) := by
    intro x hx
    obtain ⟨hne, cur, hc, hcs, hcd⟩ := h.data x hx
    have hxl := h.glt hx
    exact ⟨hne, cur, (Below.heap_alloc _ _ _ (by omega)).trans ((other2 _ _ _ _ _ hne).trans hc), by omega, hcd⟩
  refine ⟨⟨?_, h.len, Nat.le_refl _, by omega, fun _ => rfl, fun q => ?_, hold⟩, ⟨?_, h.len, Nat.le_refl _, by omega, fun _ => rfl, fun q => ?_, fun x hx => ⟨?_, (hold x hx).2⟩⟩, ?_, ?_⟩
  · rw [Below.heap_alloc _ _ _ (by omega), head2 h.head]
  · have := h.nil q; omega
  · have := heap_new ((w.setCell ⟨b, 0, none⟩ (.slice (g.map fun g => ⟨g, 0, none⟩) l.length l.length)).setCell ⟨b, 1, none⟩ (.bool true)) (.cells #[.slice (g.map fun g => ⟨g, 0, none⟩) l.length l.length, .bool true] 60)
    rw [hsz] at this
    exact this
  · have := h.nil q; omega
  · have := h.glt hx; omega
  · have f0 : Fr (fun k => k = b) w w := Fr.refl _ _
    have f1 := f0.setCell (p := ⟨b, 0, none⟩) (.inl rfl) (.slice (g.map fun g => ⟨g, 0, none⟩) l.length l.length)
    have f2 := f1.setCell (p := ⟨b, 1, none⟩) (.inl rfl) (.bool true)
    exact f2.alloc _
  · simp [hsz]

theorem of_rep (oa : Option Addr) (l : List Int) (c : Nat) (w : World) (hA : At w oa l) (hl : l.length ≤ 256) (hlc : l.length ≤ c) (hc : c ≤ maxLen) (hv : Valid l) :
    Calls Try.prog 17 #[.slice oa l.length c] w fun r w' => r = .returned (.tuple #[.pointer (some ⟨w.heap.size + 1, 0, none⟩), .int .i64 0]) ∧
      Rep w' (w.heap.size + 1) (trm l) false (some w.heap.size) (tlen l) ∧ Below w.heap.size w w' ∧ w'.heap.size = w.heap.size + 2 := by
  refine (of_ok oa l c w hA hl hlc hc hv).mono ?_
  rintro r w' ⟨rfl, rfl⟩
  have ht := tlen_le l
  refine ⟨rfl, ⟨?_, by rw [trm_length]; omega, by rw [trm_length]; exact Nat.le_refl _, by omega, fun q => by simp at q, fun q => by simp at q, fun x hx => ?_⟩, ((Below.refl _ _).alloc (Nat.le_refl _) _).alloc (by simp) _, by simp⟩
  · rw [trm_length]
    have := heap_new (w.alloc (.cells (row (trm l)) 3)) (.cells #[.slice (some ⟨w.heap.size, 0, none⟩) (tlen l) (tlen l), .bool false] 60)
    rw [show (w.alloc (.cells (row (trm l)) 3)).heap.size = w.heap.size + 1 from by simp] at this
    exact this
  · simp at hx
    subst hx
    refine ⟨by omega, row (trm l), ?_, by rw [row_size, trm_length]; exact Nat.le_refl _, fun k hk => row_at _ k hk⟩
    rw [Below.heap_alloc _ _ _ (by simp), heap_new]
end Ck
end Go.Proofs.Ytbceiakihplbcaa
