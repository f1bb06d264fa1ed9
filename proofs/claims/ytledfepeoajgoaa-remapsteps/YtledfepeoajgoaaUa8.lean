/- The law's turns(): a tid that is one's, then another one's. -/
import Derived.Test.YtledfepeoajgoaaUa7
namespace Go.Proofs.Ytledfepeoajgoaa
open Go.ChangeShapes Go.WideShapes Go.ChangeAt Go.RowKit
namespace Rk
open Ba

/-- a table of our own: all of it is new since w -/
def Tx (w wr : World) (B : Nat) (l : List Rd) : Prop := ∃ F, PT wr B F l ∧ (∀ x, F x → w.heap.size ≤ x) ∧ Below w.heap.size w wr
theorem Tx.below {w a b : World} {B : Nat} {l : List Rd} (h : Tx w a B l) (k : Below a.heap.size a b) : Tx w b B l := by
  obtain ⟨F, h1, h2, h3⟩ := h
  exact ⟨F, h1.below k, h2, btr h3 k⟩
theorem Tx.b {w a : World} {B : Nat} {l : List Rd} (h : Tx w a B l) : Below w.heap.size w a := h.elim fun _ q => q.2.2
theorem Tx.po {w a b : World} {B : Nat} {F : Nat → Prop} {l : List Rd} (hF : ∀ x, F x → w.heap.size ≤ x) (hb : Below w.heap.size w a) (h : Po 53 32 a b B F l) : Tx w b B l := by
  obtain ⟨F', h1, h2, h3⟩ := h
  refine ⟨F', h1, fun x hx => ?_, h2.below hb hF⟩
  rcases h3 x hx with q | q
  · exact hF x q
  · exact Nat.le_trans hb.size q
theorem new_x (w : World) : Calls Try.prog 7 #[] w fun r w' => ∃ B, r = .returned (.pointer (some ⟨B, 0, none⟩)) ∧ Tx w w' B [nb 0 0 (-1)] := by
  refine (new_any w).mono ?_
  rintro r w' ⟨B, F, rfl, h1, h2, h3⟩
  exact ⟨B, rfl, F, h1, h2, h3⟩
theorem born_x {w u : World} {B : Nat} {l : List Rd} (h : Tx w u B l) (g t a : Int) (hg : Gd l) (hl : l.length ≤ 10000) :
    Calls Try.prog 17 #[.pointer (some ⟨B, 0, none⟩), .int .i64 g, .int .i64 t, .int .i64 a] u fun r w' => r = .returned (.int .i64 (bnE l g t a)) ∧ Tx w w' B (bnL l g t a) := by
  obtain ⟨F, h1, h2, h3⟩ := h
  refine (born_any B F l g t a u h1 hg hl).mono ?_
  rintro r w' ⟨rfl, p⟩
  exact ⟨rfl, Tx.po h2 h3 p⟩
theorem gone_x {w u : World} {B : Nat} {l : List Rd} (h : Tx w u B l) (g a c : Int) (hg : Gd l) (hl : l.length ≤ 10000) :
    Calls Try.prog 18 #[.pointer (some ⟨B, 0, none⟩), .int .i64 g, .int .i64 a, .int .i64 c] u fun r w' => r = .returned (.int .i64 (gnE l g a c)) ∧ Tx w w' B (gnL l g a c) := by
  obtain ⟨F, h1, h2, h3⟩ := h
  refine (gone_any B F l g a c u h1 hg hl).mono ?_
  rintro r w' ⟨rfl, p⟩
  exact ⟨rfl, Tx.po h2 h3 p⟩
theorem of_x {w u : World} {B : Nat} {l : List Rd} (h : Tx w u B l) (g : Int) (hg : Gd l) (hl : l.length ≤ 10000) :
    Calls Try.prog 11 #[.pointer (some ⟨B, 0, none⟩), .int .i64 g] u fun r w' => r = .returned (.tuple #[rv (fdR (fd l g)), .bool (hs l g)]) ∧ Below u.heap.size u w' := by
  obtain ⟨F, h1, -⟩ := h
  exact of_any B F l g u h1 hg hl
theorem owner_x {w u : World} {B : Nat} {l : List Rd} (h : Tx w u B l) (t a : Int) (hl : l.length ≤ 10000) :
    Calls Try.prog 15 #[.pointer (some ⟨B, 0, none⟩), .int .i64 t, .int .i64 a] u fun r w' => r = .returned (.tuple #[.int .i64 (owG (ow1 l t a)), .bool (ow1 l t a).isSome]) ∧ Below u.heap.size u w' := by
  obtain ⟨F, h1, -⟩ := h
  exact owner_any B F l t a u h1 hl
theorem all_x {w u : World} {B : Nat} {l : List Rd} (h : Tx w u B l) (hl : l.length ≤ 10000) :
    Calls Try.prog 14 #[.pointer (some ⟨B, 0, none⟩)] u fun r w' => ∃ ob d, r = .returned (.slice ob l.length d) ∧ RA w' ob l ∧ Below u.heap.size u w' := by
  obtain ⟨F, h1, -⟩ := h
  exact all_any B F l u h1 hl
set_option maxRecDepth 100000 in
set_option maxHeartbeats 1600000 in
theorem turns_any (w : World) :
    Calls Try.prog 8 #[] w fun r w' => r = .returned (.bool true) ∧ Below w.heap.size w w' := by
  have g0 := Gd.one
  have g1 := g0.born 4 1 3
  have g2 := g1.gone 4 9 2
  have g3 := g2.born 6 1 9
  obtain ⟨l0, h0⟩ : ∃ l0, l0 = [nb 0 0 (-1)] := ⟨_, rfl⟩
  obtain ⟨l1, h1⟩ : ∃ l1, l1 = bnL l0 4 1 3 := ⟨_, rfl⟩
  obtain ⟨l2, h2⟩ : ∃ l2, l2 = gnL l1 4 9 2 := ⟨_, rfl⟩
  obtain ⟨l3, h3⟩ : ∃ l3, l3 = bnL l2 6 1 9 := ⟨_, rfl⟩
  have E1 : bnE l0 4 1 3 = 0 := by rw [h0]; decide
  have E2 : gnE l1 4 9 2 = 0 := by rw [h1, h0]; decide
  have E3 : bnE l2 6 1 9 = 0 := by rw [h2, h1, h0]; decide
  have O1 : ow1 l3 1 8 = some ⟨4, 1, 3, true, 9, 2⟩ := by rw [h3, h2, h1, h0]; rfl
  have O2 : ow1 l3 1 9 = some ⟨6, 1, 9, false, 0, 0⟩ := by rw [h3, h2, h1, h0]; rfl
  rw [← h0] at g1 g2 g3 g0
  rw [← h1] at g1 g2 g3
  rw [← h2] at g2 g3
  rw [← h3] at g3
  have n0 : l0.length = 1 := by rw [h0]; rfl
  have n1 : l1.length ≤ 2 := by have := len_born l0 4 1 3; rw [← h1] at this; omega
  have n2 : l2.length ≤ 2 := by have := len_gone l1 4 9 2; rw [← h2] at this; omega
  have n3 : l3.length ≤ 3 := by have := len_born l2 6 1 9; rw [← h3] at this; omega
  have NW := hide (new_x w)
  have C1 := hide fun B u (hu : Tx w u B l0) => born_x hu 4 1 3 g0 (by omega)
  have C2 := hide fun B u (hu : Tx w u B l1) => gone_x hu 4 9 2 g1 (by omega)
  have C3 := hide fun B u (hu : Tx w u B l2) => born_x hu 6 1 9 g2 (by omega)
  have C4 := hide fun B u (hu : Tx w u B l3) => owner_x hu 1 8 (by omega)
  have C5 := hide fun B u (hu : Tx w u B l3) => owner_x hu 1 9 (by omega)
  rw [← h0] at NW
  rw [E1, ← h1] at C1
  rw [E2, ← h2] at C2
  rw [E3, ← h3] at C3
  rw [O1] at C4
  rw [O2] at C5
  unfold owG at C4 C5
  simp only [Option.isSome_some] at C4 C5
  clear g0 g1 g2 g3 h0 h1 h2 h3 E1 E2 E3 O1 O2 n0 n1 n2 n3
  go_enter Try.func8, Try.ntmps8
  go_wp2_with fail
  refine NW.out.mono ?_
  rintro r w1 ⟨B, rfl, p1⟩
  have P1 := hide p1
  clear p1
  go_wp2_with fail
  refine (C1.out B _ P1.out).mono ?_
  rintro r w2 ⟨rfl, p2⟩
  have P2 := hide p2
  clear p2
  go_wp2_with fail
  refine (C2.out B _ P2.out).mono ?_
  rintro r w3 ⟨rfl, p3⟩
  have P3 := hide p3
  clear p3
  go_wp2_with fail
  refine (C3.out B _ P3.out).mono ?_
  rintro r w4 ⟨rfl, p4⟩
  have P4 := hide p4
  clear p4
  go_wp2_with fail
  refine (C4.out B _ P4.out).mono ?_
  rintro r w5 ⟨rfl, b5⟩
  have P5 := hide (P4.out.below b5)
  clear b5
  go_wp2_with fail
  refine (C5.out B _ P5.out).mono ?_
  rintro r w6 ⟨rfl, b6⟩
  have P6 := hide (P5.out.below b6)
  clear b6
  go_wp2_with fail
  go_ret
  exact ⟨rfl, P6.out.b⟩
end Rk
end Go.Proofs.Ytledfepeoajgoaa
