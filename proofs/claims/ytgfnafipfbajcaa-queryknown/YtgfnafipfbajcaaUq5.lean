/- The law's cut(): a goroutine that is retired. -/
import Derived.Test.YtgfnafipfbajcaaUq4
namespace Go.Proofs.Ytgfnafipfbajcaa
open Go.ChangeShapes Go.WideShapes Go.ChangeAt Go.RowKit
namespace Qu
open Ba Rk

theorem fm_at {α : Type} {f : α → List Value} {m : Nat} (hf : ∀ x, (f x).length = m) : ∀ (l : List α) (k : Nat) (x : α), l[k]? = some x → ∀ j, j < m → (l.flatMap f)[k * m + j]? = (f x)[j]?
  | [], _, _, h, _, _ => by simp at h
  | y :: l, 0, x, h, j, hj => by
    simp at h; subst h
    rw [List.flatMap_cons, Nat.zero_mul, Nat.zero_add, List.getElem?_append_left (by rw [hf]; exact hj)]
  | y :: l, k + 1, x, h, j, hj => by
    rw [List.flatMap_cons, List.getElem?_append_right (by rw [hf, Nat.succ_mul]; omega), hf, show (k + 1) * m + j - m = k * m + j by rw [Nat.succ_mul]; omega]
    exact fm_at hf l k x (by simpa using h) j hj
theorem ga_lit {α : Type} {f : α → List Value} {m : Nat} {P : α → Prop} {w : World} {b : Nat} {t : TypeId} {l : List α} (hf : ∀ x, (f x).length = m) (h : w.heap[b]? = some (.cells (l.flatMap f).toArray t (0, 0))) (hP : ∀ x ∈ l, P x) : GAt w (some ⟨b, 0, none⟩) m (fun cs x => cs = f x ∧ P x) l := by
  intro k x hk
  refine ⟨b, 0, f x, rfl, hf x, fun j hj => ?_, rfl, hP x (List.mem_of_getElem? hk)⟩
  rw [cell_of h, Nat.zero_add, List.getElem?_toArray]
  exact fm_at hf l k x hk j hj
def cE : List Ex := [⟨9, 1, 0, 0, 0, 0, false, false⟩, ⟨13, -1, 0, 0, 0, 0, false, false⟩, ⟨9, 0, 0, 0, 0, 0, false, false⟩]
def cR : List Rd := [⟨0, 0, -1, false, 0, 0⟩, ⟨1, 1, -1, true, 1, 3⟩]
def cS (b1 b2 : Nat) : List Sx := [⟨8589934595, some ⟨b1, 0, none⟩, 2, [0, 3]⟩, ⟨0, none, 0, []⟩, ⟨4294967301, some ⟨b2, 0, none⟩, 1, [5]⟩]
def scl (x : Sx) : List Value := [.int .u64 x.e, .slice x.oa x.c.length x.cap]
theorem lg_lit {w : World} {be b1 b2 bs bd : Nat} {te t1 t2 ts td : TypeId} (he : w.heap[be]? = some (.cells (cE.flatMap ecl).toArray te (0, 0))) (h1 : w.heap[b1]? = some (.cells (row [0, 3]) t1 (0, 0))) (h2 : w.heap[b2]? = some (.cells (row [5]) t2 (0, 0))) (hs : w.heap[bs]? = some (.cells ((cS b1 b2).flatMap scl).toArray ts (0, 0))) (hd : w.heap[bd]? = some (.cells (cR.flatMap cl).toArray td (0, 0))) :
    LG w (some ⟨be, 0, none⟩) (some ⟨bs, 0, none⟩) (some ⟨bd, 0, none⟩) cE (cS b1 b2) cR := by
  have at_row : ∀ {b : Nat} {t : TypeId} {l : List Int}, w.heap[b]? = some (.cells (row l) t (0, 0)) → At w (some ⟨b, 0, none⟩) l := fun {b t l} h k hk => ⟨b, 0, rfl, by rw [Nat.zero_add, cell_of h, row_at l k hk]⟩
  refine ⟨fun k x hk => ?_, ?_, fun k x hk => ?_⟩
  · obtain ⟨b, off, cs, q1, q2, q3, q4, -⟩ := ga_lit (m := 8) (P := fun _ => True) (f := ecl) (fun _ => rfl) he (fun _ _ => trivial) k x hk
    exact ⟨b, off, cs, q1, q2, q3, q4⟩
  · refine ga_lit (m := 2) (f := scl) (fun _ => rfl) hs (fun x hx => ?_)
    unfold cS at hx
    simp only [List.mem_cons, List.not_mem_nil, or_false] at hx
    rcases hx with rfl | rfl | rfl
    · exact ⟨at_row h1, by show 2 ≤ maxLen; unfold maxLen; decide, by show (0 : Int) ≤ 8589934595; decide, by show (8589934595 : Int) ≤ 18446744073709551615; decide⟩
    · exact ⟨At.nil _ _, Nat.zero_le _, by show (0 : Int) ≤ 0; decide, by show (0 : Int) ≤ 18446744073709551615; decide⟩
    · exact ⟨at_row h2, by show 1 ≤ maxLen; unfold maxLen; decide, by show (0 : Int) ≤ 4294967301; decide, by show (4294967301 : Int) ≤ 18446744073709551615; decide⟩
  · obtain ⟨b, off, cs, q1, q2, q3, q4, -⟩ := ga_lit (m := 6) (P := fun _ => True) (f := cl) (fun _ => rfl) hd (fun _ _ => trivial) k x hk
    exact ⟨b, off, cs, q1, q2, q3, q4⟩
def e0 : Ex := ⟨9, 1, 0, 0, 0, 0, false, false⟩
def e1 : Ex := ⟨13, -1, 0, 0, 0, 0, false, false⟩
def e2 : Ex := ⟨9, 0, 0, 0, 0, 0, false, false⟩
theorem cut_a (o1 o2 : Option Addr) : befB cR 0 2 e0 e2 ⟨8589934595, o1, 2, [0, 3]⟩ ⟨4294967301, o2, 1, [5]⟩ = true ∧ befE cR e0 e2 ⟨8589934595, o1, 2, [0, 3]⟩ ⟨4294967301, o2, 1, [5]⟩ = 0 := ⟨by rfl, by rfl⟩
theorem cut_b (o1 o2 : Option Addr) : befB cR 2 0 e2 e0 ⟨4294967301, o2, 1, [5]⟩ ⟨8589934595, o1, 2, [0, 3]⟩ = false ∧ befE cR e2 e0 ⟨4294967301, o2, 1, [5]⟩ ⟨8589934595, o1, 2, [0, 3]⟩ = 0 := ⟨by rfl, by rfl⟩
theorem cut_c (o1 : Option Addr) : befB cR 0 1 e0 e1 ⟨8589934595, o1, 2, [0, 3]⟩ ⟨0, none, 0, []⟩ = false ∧ befE cR e0 e1 ⟨8589934595, o1, 2, [0, 3]⟩ ⟨0, none, 0, []⟩ = 6 := ⟨by rfl, by rfl⟩
theorem six_alloc (w : World) (A B C D E F : Obj) : ((((((w.alloc A).alloc B).alloc C).alloc D).alloc E).alloc F).heap[w.heap.size]? = some A ∧ ((((((w.alloc A).alloc B).alloc C).alloc D).alloc E).alloc F).heap[w.heap.size + 1]? = some B ∧ ((((((w.alloc A).alloc B).alloc C).alloc D).alloc E).alloc F).heap[w.heap.size + 1 + 1]? = some C ∧ ((((((w.alloc A).alloc B).alloc C).alloc D).alloc E).alloc F).heap[w.heap.size + 1 + 1 + 1]? = some D ∧ ((((((w.alloc A).alloc B).alloc C).alloc D).alloc E).alloc F).heap[w.heap.size + 1 + 1 + 1 + 1]? = some E ∧ ((((((w.alloc A).alloc B).alloc C).alloc D).alloc E).alloc F).heap[w.heap.size + 1 + 1 + 1 + 1 + 1]? = some F ∧ Below w.heap.size w ((((((w.alloc A).alloc B).alloc C).alloc D).alloc E).alloc F) := by
  have a1 := heap_new w A
  have a2 := heap_new (w.alloc A) B
  have a3 := heap_new ((w.alloc A).alloc B) C
  have a4 := heap_new (((w.alloc A).alloc B).alloc C) D
  have a5 := heap_new ((((w.alloc A).alloc B).alloc C).alloc D) E
  have a6 := heap_new (((((w.alloc A).alloc B).alloc C).alloc D).alloc E) F
  have b2 := below_alloc (w.alloc A) B
  have b3 := below_alloc ((w.alloc A).alloc B) C
  have b4 := below_alloc (((w.alloc A).alloc B).alloc C) D
  have b5 := below_alloc ((((w.alloc A).alloc B).alloc C).alloc D) E
  have b6 := below_alloc (((((w.alloc A).alloc B).alloc C).alloc D).alloc E) F
  simp only [World.size_alloc] at a2 a3 a4 a5 a6
  exact ⟨heap_below a1 (btr b2 (btr b3 (btr b4 (btr b5 b6)))), heap_below a2 (btr b3 (btr b4 (btr b5 b6))), heap_below a3 (btr b4 (btr b5 b6)), heap_below a4 (btr b5 b6), heap_below a5 b6, a6, btr (below_alloc w A) (btr b2 (btr b3 (btr b4 (btr b5 b6))))⟩
set_option maxRecDepth 100000 in
set_option maxHeartbeats 3200000 in
theorem cut_any (w : World) :
    Calls Try.prog 7 #[] w fun r w' => r = .returned (.bool true) ∧ Below w.heap.size w w' := by
  have P1 := hide fun u => Ep.pack_ok 1 3 (by decide) (by decide) (by decide) (by decide) u
  have P2 := hide fun u => Ep.pack_ok 0 5 (by decide) (by decide) (by decide) (by decide) u
  simp only [show ((1 : Int) + 1) * 4294967296 + 3 = 8589934595 by decide, show ((0 : Int) + 1) * 4294967296 + 5 = 4294967301 by decide] at P1 P2
  obtain ⟨W, hW⟩ : ∃ W, W = ((((((w.alloc (.cells #[.int .i64 9, .int .i64 1, .int .i64 0, .int .i64 0, .int .i64 0, .int .i64 0, .bool false, .bool false, .int .i64 13, .int .i64 (-1), .int .i64 0, .int .i64 0, .int .i64 0, .int .i64 0, .bool false, .bool false, .int .i64 9, .int .i64 0, .int .i64 0, .int .i64 0, .int .i64 0, .int .i64 0, .bool false, .bool false] 50)).alloc (.cells #[.int .i64 0, .int .i64 3] 3)).alloc (.cells #[.int .i64 5] 3)).alloc (.cells #[.int .u64 8589934595, .slice (some ⟨w.heap.size + 1, 0, none⟩) 2 2, .int .u64 0, .slice none 0 0, .int .u64 4294967301, .slice (some ⟨w.heap.size + 1 + 1, 0, none⟩) 1 1] 55)).alloc (.cells #[.int .i64 0, .int .i64 0, .int .i64 (-1), .bool false, .int .i64 0, .int .i64 0, .int .i64 1, .int .i64 1, .int .i64 (-1), .bool true, .int .i64 1, .int .i64 3] 45)).alloc (.cells #[.slice (some ⟨w.heap.size, 0, none⟩) 3 3, .slice (some ⟨w.heap.size + 1 + 1 + 1, 0, none⟩) 3 3, .slice (some ⟨w.heap.size + 1 + 1 + 1 + 1, 0, none⟩) 2 2] 26)) := ⟨_, rfl⟩
  have SX := six_alloc w (.cells #[.int .i64 9, .int .i64 1, .int .i64 0, .int .i64 0, .int .i64 0, .int .i64 0, .bool false, .bool false, .int .i64 13, .int .i64 (-1), .int .i64 0, .int .i64 0, .int .i64 0, .int .i64 0, .bool false, .bool false, .int .i64 9, .int .i64 0, .int .i64 0, .int .i64 0, .int .i64 0, .int .i64 0, .bool false, .bool false] 50) (.cells #[.int .i64 0, .int .i64 3] 3) (.cells #[.int .i64 5] 3) (.cells #[.int .u64 8589934595, .slice (some ⟨w.heap.size + 1, 0, none⟩) 2 2, .int .u64 0, .slice none 0 0, .int .u64 4294967301, .slice (some ⟨w.heap.size + 1 + 1, 0, none⟩) 1 1] 55) (.cells #[.int .i64 0, .int .i64 0, .int .i64 (-1), .bool false, .int .i64 0, .int .i64 0, .int .i64 1, .int .i64 1, .int .i64 (-1), .bool true, .int .i64 1, .int .i64 3] 45) (.cells #[.slice (some ⟨w.heap.size, 0, none⟩) 3 3, .slice (some ⟨w.heap.size + 1 + 1 + 1, 0, none⟩) 3 3, .slice (some ⟨w.heap.size + 1 + 1 + 1 + 1, 0, none⟩) 2 2] 26)
  rw [← hW] at SX
  obtain ⟨s1, s2, s3, s4, s5, s6, s7⟩ := SX
  have LL := hide (lg_lit (w := W) s1 s2 s3 s4 s5)
  have H6 := hide s6
  have B6 := hide s7
  have HW := hide hW
  have CA := hide fun u (hu : LG u (some ⟨w.heap.size, 0, none⟩) (some ⟨w.heap.size + 1 + 1 + 1, 0, none⟩) (some ⟨w.heap.size + 1 + 1 + 1 + 1, 0, none⟩) cE (cS (w.heap.size + 1) (w.heap.size + 1 + 1)) cR) => before_in _ _ _ 3 3 2 cE (cS (w.heap.size + 1) (w.heap.size + 1 + 1)) cR 0 2 e0 e2 _ _ u hu rfl rfl rfl rfl rfl (by decide)
  have CB := hide fun u (hu : LG u (some ⟨w.heap.size, 0, none⟩) (some ⟨w.heap.size + 1 + 1 + 1, 0, none⟩) (some ⟨w.heap.size + 1 + 1 + 1 + 1, 0, none⟩) cE (cS (w.heap.size + 1) (w.heap.size + 1 + 1)) cR) => before_in _ _ _ 3 3 2 cE (cS (w.heap.size + 1) (w.heap.size + 1 + 1)) cR 2 0 e2 e0 _ _ u hu rfl rfl rfl rfl rfl (by decide)
  have CC := hide fun u (hu : LG u (some ⟨w.heap.size, 0, none⟩) (some ⟨w.heap.size + 1 + 1 + 1, 0, none⟩) (some ⟨w.heap.size + 1 + 1 + 1 + 1, 0, none⟩) cE (cS (w.heap.size + 1) (w.heap.size + 1 + 1)) cR) => before_in _ _ _ 3 3 2 cE (cS (w.heap.size + 1) (w.heap.size + 1 + 1)) cR 0 1 e0 e1 _ _ u hu rfl rfl rfl rfl rfl (by decide)
  rw [(cut_a _ _).1, (cut_a _ _).2] at CA
  rw [(cut_b _ _).1, (cut_b _ _).2] at CB
  rw [(cut_c _).1, (cut_c _).2] at CC
  simp only [show cE.length = 3 from rfl, show cR.length = 2 from rfl, show ∀ i j, (cS i j).length = 3 from fun _ _ => rfl, show ((0 : Nat) : Int) = 0 from rfl, show ((1 : Nat) : Int) = 1 from rfl, show ((2 : Nat) : Int) = 2 from rfl] at CA CB CC
  clear s1 s2 s3 s4 s5 s6 s7 hW
  go_enter Try.func7, Try.ntmps7
  go_wp2_with fail
  refine (P1.out _).mono ?_
  rintro r w1 ⟨rfl, q1⟩
  obtain rfl := q1.symm
  go_wp2_with fail
  refine (P2.out _).mono ?_
  rintro r w1 ⟨rfl, q1⟩
  obtain rfl := q1.symm
  go_wp2_with fail
  rw [← HW.out]
  refine (CA.out _ LL.out).mono ?_
  rintro r w1 ⟨rfl, b1⟩
  have L1 := hide (LL.out.below b1)
  have N1 := hide (heap_below H6.out b1)
  have B1 := hide (btr B6.out b1)
  have x0 : w1.cell? ⟨w.heap.size + 1 + 1 + 1 + 1 + 1, 0, none⟩ = some (.slice (some ⟨w.heap.size, 0, none⟩) 3 3) := cell_of N1.out 0
  have x1 : w1.cell? ⟨w.heap.size + 1 + 1 + 1 + 1 + 1, 1, none⟩ = some (.slice (some ⟨w.heap.size + 1 + 1 + 1, 0, none⟩) 3 3) := cell_of N1.out 1
  have x2 : w1.cell? ⟨w.heap.size + 1 + 1 + 1 + 1 + 1, 2, none⟩ = some (.slice (some ⟨w.heap.size + 1 + 1 + 1 + 1, 0, none⟩) 2 2) := cell_of N1.out 2
  clear b1
  go_wp2_with fail
  refine (CB.out _ L1.out).mono ?_
  rintro r w2 ⟨rfl, b2⟩
  have L2 := hide (L1.out.below b2)
  have N2 := hide (heap_below N1.out b2)
  have B2 := hide (btr B1.out b2)
  have x0 : w2.cell? ⟨w.heap.size + 1 + 1 + 1 + 1 + 1, 0, none⟩ = some (.slice (some ⟨w.heap.size, 0, none⟩) 3 3) := cell_of N2.out 0
  have x1 : w2.cell? ⟨w.heap.size + 1 + 1 + 1 + 1 + 1, 1, none⟩ = some (.slice (some ⟨w.heap.size + 1 + 1 + 1, 0, none⟩) 3 3) := cell_of N2.out 1
  have x2 : w2.cell? ⟨w.heap.size + 1 + 1 + 1 + 1 + 1, 2, none⟩ = some (.slice (some ⟨w.heap.size + 1 + 1 + 1 + 1, 0, none⟩) 2 2) := cell_of N2.out 2
  clear b2
  go_wp2_with fail
  refine (CC.out _ L2.out).mono ?_
  rintro r w3 ⟨rfl, b3⟩
  have B3 := hide (btr B2.out b3)
  clear b3
  go_wp2_with fail
  go_ret
  exact ⟨rfl, B3.out⟩
end Qu
end Go.Proofs.Ytgfnafipfbajcaa
