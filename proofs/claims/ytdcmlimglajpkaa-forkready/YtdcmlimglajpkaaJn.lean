/- The laws' own one(), walked. -/
import Derived.Test.YtdcmlimglajpkaaJm
import Derived.Test.YtdcmlimglajpkaaJe
import Derived.Test.YtdcmlimglajpkaaJf
namespace Go.Proofs.Ytdcmlimglajpkaa
open Go.ChangeShapes Go.WideShapes Go.ChangeAt Go.RowKit
namespace Fk
open Ba Pe _root_.Go.Proofs.Ytdcmlimglajpkaa.Pi Rp

theorem at_keep {w w' : World} {oa : Option Addr} {l : List Int} (h : At w oa l) (hk : ∀ a, oa = some a → w'.heap[a.block]? = w.heap[a.block]?) : At w' oa l := by
  intro k hl
  obtain ⟨b, off, e, hc⟩ := h k hl
  have q := hk _ e
  simp only at q
  refine ⟨b, off, e, ?_⟩
  rw [← hc]
  simp only [World.cell?, q]
theorem sml1 : Sml s1 := by
  intro i st h
  match i, h with
  | 0, h => simp [s1] at h; subst h; exact ⟨by decide, by decide⟩
  | 1, h => simp [s1] at h; subst h; exact ⟨by decide, by decide⟩
  | i + 2, h => simp [s1] at h
theorem le2 : ∀ (i : Nat) (st : St), s2[i]? = some (some st) → ∀ b, (Pi.own st b).length ≤ 1000 := by
  intro i st h b
  match i, h with
  | 0, h => simp [s2] at h; subst h; cases b <;> decide
  | 1, h => simp [s2] at h; subst h; cases b <;> decide
  | i + 2, h => simp [s2] at h
set_option maxRecDepth 100000 in
set_option maxHeartbeats 6400000 in
theorem one_any (w : World) :
    Calls Try.prog 7 #[] w fun r w' => r = .returned (.bool true) ∧ Below w.heap.size w w' := by
  have N1 : Hid (∀ u, Calls Try.prog 18 #[.int .i64 1] u fun r w' => ∃ B F, r = .returned (.tuple #[.pointer (some ⟨B, 0, none⟩), .int .i64 0]) ∧ Pp w' B F (st0 1) ∧ (∀ k, F k → u.heap.size ≤ k) ∧ Below u.heap.size u w') := fun u => Pi.new_ok 1 u (by decide)
  have N0 : Hid (∀ u, Calls Try.prog 18 #[.int .i64 0] u fun r w' => ∃ B F, r = .returned (.tuple #[.pointer (some ⟨B, 0, none⟩), .int .i64 0]) ∧ Pp w' B F (st0 0) ∧ (∀ k, F k → u.heap.size ≤ k) ∧ Below u.heap.size u w') := fun u => Pi.new_ok 0 u (by decide)
  go_enter Try.func7, Try.ntmps7
  go_wp2_with fail
  refine (N1.out _).mono ?_
  rintro r w1 ⟨B, F, rfl, p1, l1', b1⟩
  have P1 := hide p1
  have L1 := hide l1'
  have B1 := hide b1
  clear p1 l1' b1
  go_wp2_with fail
  refine (N0.out _).mono ?_
  rintro r w2 ⟨C, G, rfl, q2, l2, b2⟩
  have P2 := hide (P1.out.below b2)
  have Q2 := hide q2
  have D2 : Hid (∀ x, F x → ¬ G x) := fun x hx hg => by have h1 := P1.out.bd x hx; have h2 := l2 x hg; omega
  have LF := hide L1.out
  have LG : Hid (∀ x, G x → w.heap.size ≤ x) := fun x hx => Nat.le_trans B1.out.size (l2 x hx)
  have B2 := hide (btr B1.out b2)
  clear q2 l2 b2 N1 N0 P1 L1 B1
  go_wp2_with fail
  refine (send_any B F (st0 1) 7 _ P2.out (by decide) (by decide)).mono ?_
  rintro r w4 ⟨rfl, k4, F4, n4, p4⟩
  have P4 := hide p4
  have Q4 := hide (frP.sm Q2.out (Sm.kf k4 Q2.out.bd (fun x hx hf => D2.out x hf hx)))
  have D4 : Hid (∀ x, F4 x → ¬ G x) := fun x hx hg => by
    rcases n4 x hx with z | z
    · exact D2.out x z hg
    · have := Q2.out.bd x hg
      omega
  have LF4 : Hid (∀ x, F4 x → w.heap.size ≤ x) := fun x hx => by
    rcases n4 x hx with z | z
    · exact LF.out x z
    · exact Nat.le_trans B2.out.size z
  have B4 := hide (k4.below B2.out LF.out)
  clear k4 n4 p4 P2 Q2 D2 LF B2
  have bl := below_alloc w4 (.cells #[.bool false, .int .i64 0, .int .i64 0, .bool true, .int .i64 1, .int .i64 5] 32)
  have bp := below_alloc (w4.alloc (.cells #[.bool false, .int .i64 0, .int .i64 0, .bool true, .int .i64 1, .int .i64 5] 32)) (.cells #[.pointer (some ⟨B, 0, none⟩), .pointer (some ⟨C, 0, none⟩)] 55)
  have B6 := hide (btr bl bp)
  have K6 := hide (heap_below (heap_new w4 (.cells #[.bool false, .int .i64 0, .int .i64 0, .bool true, .int .i64 1, .int .i64 5] 32)) bp)
  have hy := heap_new (w4.alloc (.cells #[.bool false, .int .i64 0, .int .i64 0, .bool true, .int .i64 1, .int .i64 5] 32)) (.cells #[.pointer (some ⟨B, 0, none⟩), .pointer (some ⟨C, 0, none⟩)] 55)
  rw [World.size_alloc] at hy
  have Y6 := hide hy
  have O6 : Hid (On w ((w4.alloc (.cells #[.bool false, .int .i64 0, .int .i64 0, .bool true, .int .i64 1, .int .i64 5] 32)).alloc (.cells #[.pointer (some ⟨B, 0, none⟩), .pointer (some ⟨C, 0, none⟩)] 55)) (some ⟨w4.heap.size + 1, 0, none⟩) [some B, some C] (two F4 G) s1) := by
    refine ⟨qs_two (P4.out.below B6.out) (Q4.out.below B6.out) D4.out hy (fun h => by have := P4.out.bd _ h; omega) (fun h => by have := Q4.out.bd _ h; omega), btr B4.out B6.out, ?_⟩
    rintro x ⟨i, hi⟩
    match i, hi with
    | 0, hi => exact LF4.out x hi
    | 1, hi => exact LG.out x hi
    | i + 2, hi => exact hi.elim
  have NK : Hid (¬ All (two F4 G) w4.heap.size) := by
    rintro ⟨i, hi⟩
    match i, hi with
    | 0, hi => have := P4.out.bd _ hi; omega
    | 1, hi => have := Q4.out.bd _ hi; omega
    | i + 2, hi => exact hi
  have RDY := hide (fready_any (some ⟨w4.heap.size, 0, none⟩) l1 2 (some ⟨w4.heap.size + 1, 0, none⟩) [some B, some C] 2 _ s1 _ (l1_at K6.out) O6.out.q (by decide))
  rw [r1] at RDY
  simp only [l1, List.length_cons, List.length_nil] at RDY
  clear bl bp hy P4 Q4 D4 LF4 LG B4 B6
  unfold gv
  go_wp2_with fail
  generalize (w4.alloc (.cells #[.bool false, .int .i64 0, .int .i64 0, .bool true, .int .i64 1, .int .i64 5] 32)).alloc (.cells #[.pointer (some ⟨B, 0, none⟩), .pointer (some ⟨C, 0, none⟩)] 55) = W6 at K6 Y6 O6 RDY ⊢
  generalize w4.heap.size = K at K6 Y6 O6 NK RDY ⊢
  generalize two F4 G = Fs at O6 NK RDY
  refine RDY.out.mono ?_
  rintro r w7 ⟨ob, d, rfl, ow7, b7⟩
  obtain ⟨ob', d', e7, at7, nb7⟩ := own_at2 (l := [0]) ow7
  simp only [Value.slice.injEq] at e7
  obtain ⟨rfl, -, rfl⟩ := e7
  have A7 := hide at7
  have NB7 : Hid (∀ a, ob = some a → a.block < w7.heap.size ∧ ¬ All Fs a.block) := by
    intro a e
    refine ⟨at7.lt (by decide) a e, ?_⟩
    rintro ⟨i, hi⟩
    have h1 := O6.out.q.bd i _ hi
    have h2 := nb7 a e
    omega
  have O7 := hide (O6.out.below b7)
  have K7 := hide (heap_below K6.out b7)
  clear ow7 at7 nb7 b7 O6 K6 Y6 RDY
  have k0 : w7.cell? ⟨K, 0, none⟩ = some (.bool false) := cell_of K7.out 0
  have k1 : w7.cell? ⟨K, 1, none⟩ = some (.int .i64 0) := cell_of K7.out 1
  have k2 : w7.cell? ⟨K, 2, none⟩ = some (.int .i64 0) := cell_of K7.out 2
  have TR := hide (ftry_any ⟨false, 0, 0⟩ (some ⟨K + 1, 0, none⟩) [some B, some C] 2 Fs s1 w7 O7.out.q sml1)
  rw [t1, t1e, t1s] at TR
  unfold cv gv at TR
  simp only [List.length_cons, List.length_nil] at TR
  go_wp2_with fail
  refine TR.out.mono ?_
  rintro r w8 ⟨rfl, rz8⟩
  obtain ⟨Fs8, o8, st8⟩ := O7.out.step rz8
  have hK7 := heap_lt K7.out
  have b9 := below_alloc w8 (.cells #[.bool true, .bool true, .bool false, .int .i64 7, .int .i64 0, .int .i64 0, .int .i64 0] 51)
  have O9 := hide (o8.below b9)
  have K9 := hide (heap_below ((st8 K hK7 NK.out).1.trans K7.out) b9)
  have NK9 := hide (st8 K hK7 NK.out).2
  have A9 := hide ((at_keep A7.out (fun a e => (st8 _ (NB7.out a e).1 (NB7.out a e).2).1)).below b9)
  have G9 := hide (heap_new w8 (.cells #[.bool true, .bool true, .bool false, .int .i64 7, .int .i64 0, .int .i64 0, .int .i64 0] 51))
  have NG9 : Hid (¬ All Fs8 w8.heap.size) := by
    rintro ⟨i, hi⟩
    have := o8.q.bd i _ hi
    omega
  have NB9 : Hid (∀ a, ob = some a → a.block < (w8.alloc (.cells #[.bool true, .bool true, .bool false, .int .i64 7, .int .i64 0, .int .i64 0, .int .i64 0] 51)).heap.size ∧ ¬ All Fs8 a.block) := fun a e => ⟨A9.out.lt (by decide) a e, (st8 _ (NB7.out a e).1 (NB7.out a e).2).2⟩
  have PK := hide (park_any 3 (some ⟨K, 0, none⟩) l1 2 (some ⟨K + 1, 0, none⟩) [some B, some C] 2 Fs8 s2 _ (l1_at K9.out) (fun _ a e => by cases e; exact NK9.out) O9.out.q le2)
  rw [p1n, p1e, p1s] at PK
  simp only [l1, List.length_cons, List.length_nil] at PK
  clear rz8 o8 st8 hK7 b9 TR k0 k1 k2 O7 K7 A7 NB7 NK
  go_wp2_with fail
  generalize w8.alloc (.cells #[.bool true, .bool true, .bool false, .int .i64 7, .int .i64 0, .int .i64 0, .int .i64 0] 51) = W9 at O9 K9 A9 G9 NB9 PK ⊢
  generalize w8.heap.size = Z at G9 NG9 ⊢
  refine PK.out.mono ?_
  rintro r w10 ⟨rfl, rz10⟩
  obtain ⟨Fs10, o10, st10⟩ := O9.out.step rz10
  have hZ := heap_lt G9.out
  have b11 := below_alloc w10 (.cells #[.int .i64 0] 3)
  have O11 := hide (o10.below b11)
  have G11 := hide (heap_below ((st10 Z hZ NG9.out).1.trans G9.out) b11)
  have A11 := hide ((at_keep A9.out (fun a e => (st10 _ (NB9.out a e).1 (NB9.out a e).2).1)).below b11)
  have I11 := hide (At.lit w10 [0] 3 #[.int .i64 0] rfl)
  clear rz10 o10 st10 hZ b11 PK O9 K9 A9 G9 NB9 NG9 NK9
  go_wp2_with fail
  refine (ints_is ob _ [0] [0] _ _ _ _ true (by decide) rfl rfl _ A11.out I11.out (by decide) (by decide)).mono ?_
  rintro r w12 ⟨rfl, b12⟩
  have O12 := hide (O11.out.below b12)
  have G12 := hide (heap_below G11.out b12)
  have z3 : w12.cell? ⟨Z, 3, none⟩ = some (.int .i64 7) := cell_of G12.out 3
  have LV := hide (leave_any 3 (some ⟨K + 1, 0, none⟩) [some B, some C] 2 Fs10 s3 w12 O12.out.q (by show 2 ≤ 1000; decide))
  rw [v1n] at LV
  simp only [List.length_cons, List.length_nil] at LV
  clear b12 O11 G11 A11 I11
  go_wp2_with fail
  refine LV.out.mono ?_
  rintro r w13 ⟨rfl, rz13⟩
  obtain ⟨Fs13, o13, -⟩ := O12.out.step rz13
  have B13 := hide o13.b
  clear rz13 o13 LV
  go_wp2_with fail
  go_ret
  exact ⟨rfl, B13.out⟩
end Fk
end Go.Proofs.Ytdcmlimglajpkaa
