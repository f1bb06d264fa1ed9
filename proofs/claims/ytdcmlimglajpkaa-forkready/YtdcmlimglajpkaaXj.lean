/- Package pipe: Close, Drop, over this seat's program. -/
import Derived.Test.YtdcmlimglajpkaaXh
import Derived.OwnWalk
namespace Go.Proofs.Ytdcmlimglajpkaa
open Go.ChangeShapes Go.WideShapes Go.ChangeAt Go.RowKit
namespace Pi
open Ba Pe

theorem drop_nil (g : Int) (w : World) :
    Calls Try.prog 36 #[.pointer none, .int .i64 g] w fun r w' => r = .returned (.int .i64 0) ∧ w' = w := by
  go_enter Try.func36, Try.ntmps36
  go_wp2_with fail
  refine (side_nil true _).mono ?_
  rintro r w1 ⟨rfl, rfl⟩
  go_wp2_with fail
  refine (Pe.drop_nil g _).mono ?_
  rintro r w1 ⟨rfl, rfl⟩
  go_wp2_with fail
  refine (side_nil false _).mono ?_
  rintro r w1 ⟨rfl, rfl⟩
  go_wp2_with fail
  refine (Pe.drop_nil g _).mono ?_
  rintro r w1 ⟨rfl, rfl⟩
  go_wp2_with fail
  go_ret
  exact ⟨rfl, rfl⟩
theorem drop_any (B : Nat) (F : Nat → Prop) (st : St) (g : Int) (w : World) (h : Pp w B F st) :
    Calls Try.prog 36 #[.pointer (some ⟨B, 0, none⟩), .int .i64 g] w fun r w' => r = .returned (.int .i64 (dropN st g)) ∧ KF F w w' ∧ ∃ F', Nw F' F w ∧ Pp w' B F' (dropS st g) := by
  obtain ⟨R, S, Q, FS, FQ, h⟩ := h
  have P1 := hide h
  have l1 := P1.out.ps.le
  have l2 := P1.out.pq.le
  have d1 := dr_len g st.snd
  have d2 := dr_len g st.rcv
  clear h
  unfold dropN
  generalize hn1 : ((st.snd.length : Int) - ((dr g st.snd).length : Int)) = n1
  generalize hn2 : ((st.rcv.length : Int) - ((dr g st.rcv).length : Int)) = n2
  have SD1 : Hid (Calls Try.prog 54 #[.pointer (some ⟨B, 0, none⟩), .bool true] w fun r w' => r = .returned (.pointer (some ⟨S, 0, none⟩)) ∧ w' = w) := P1.out.side true
  have DP1 := hide (Pe.drop_any S FS st.snd g w P1.out.ps)
  rw [hn1] at DP1
  go_enter Try.func36, Try.ntmps36
  go_wp2_with fail
  refine SD1.out.mono ?_
  rintro r w1 ⟨rfl, rfl⟩
  go_wp2_with fail
  refine DP1.out.mono ?_
  rintro r w2 ⟨rfl, k2, p2⟩
  have S2 := hide (P1.out.snd k2 (Nw.refl _ _) p2)
  clear k2 p2
  have SD2 : Hid (Calls Try.prog 54 #[.pointer (some ⟨B, 0, none⟩), .bool false] w2 fun r w' => r = .returned (.pointer (some ⟨Q, 0, none⟩)) ∧ w' = w2) := S2.out.1.side false
  have DP2 := hide (Pe.drop_any Q FQ st.rcv g w2 S2.out.1.pq)
  rw [hn2] at DP2
  go_wp2_with fail
  refine SD2.out.mono ?_
  rintro r w3 ⟨rfl, rfl⟩
  go_wp2_with fail
  refine DP2.out.mono ?_
  rintro r w4 ⟨rfl, k4, p4⟩
  have S4 := hide (S2.out.1.rcv k4 (Nw.refl _ _) p4)
  clear k4 p4
  go_wp2_with fail
  go_ret
  exact ⟨by first | rfl | (apply ret_int; omega), S2.out.2.1.trans S4.out.2.1 S2.out.2.2, _, S2.out.2.2.trans S4.out.2.2 S2.out.2.1.size, S4.out.1.pp⟩

theorem close_nil (w : World) :
    Calls Try.prog 27 #[.pointer none] w fun r w' => r = .returned (.tuple #[.slice none 0 0, .slice none 0 0, .int .i64 6]) ∧ w' = w := by
  go_enter Try.func27, Try.ntmps27
  go_wp2_with fail
  go_ret3
  exact ⟨rfl, rfl⟩
theorem close_closed (B : Nat) (F : Nat → Prop) (st : St) (w : World) (h : Pp w B F st) (hc : st.closed = true) :
    Calls Try.prog 27 #[.pointer (some ⟨B, 0, none⟩)] w fun r w' => r = .returned (.tuple #[.slice none 0 0, .slice none 0 0, .int .i64 90]) ∧ w' = w := by
  obtain ⟨R, S, Q, FS, FQ, h⟩ := h
  have y5 : w.cell? ⟨B, 5, none⟩ = some (.bool true) := (cell_of h.hp 5).trans (by rw [hc]; rfl)
  clear h hc
  go_enter Try.func27, Try.ntmps27
  go_wp2_with fail
  go_ret3
  exact ⟨rfl, rfl⟩
/-- two new pews for the old ones -/
theorem PO.anew {w : World} {B : Nat} {F : Nat → Prop} {R S Q S' Q' : Nat} {FS FQ : Nat → Prop} {st : St} (h : PO w B F R S Q FS FQ st) (p1 : PF w S' (fun k => k = S') []) (p2 : PF w Q' (fun k => k = Q') []) (hs : ¬ F S') (hq : ¬ F Q') (hne : S' ≠ Q') :
    PO (((w.setCell ⟨B, 2, none⟩ (.pointer (some ⟨Q', 0, none⟩))).setCell ⟨B, 1, none⟩ (.pointer (some ⟨S', 0, none⟩))).setCell ⟨B, 5, none⟩ (.bool true)) B (fun k => F k ∨ k = S' ∨ k = Q') R S' Q' (fun k => k = S') (fun k => k = Q') { st with snd := [], rcv := [], closed := true } := by
  have K := (((KB.refl B w).setCell 2 (.pointer (some ⟨Q', 0, none⟩))).setCell 1 (.pointer (some ⟨S', 0, none⟩))).setCell 5 (.bool true)
  have hB := h.fb
  have hR := h.fr
  have sB : S' ≠ B := fun e => hs (e ▸ hB)
  have qB : Q' ≠ B := fun e => hq (e ▸ hB)
  have sR : S' ≠ R := fun e => hs (e ▸ hR)
  have qR : Q' ≠ R := fun e => hq (e ▸ hR)
  refine ⟨?_, ?_, p1.sm (fun x (e : x = S') => K.block x (p1.bd x e) (by rw [e]; exact sB)), p2.sm (fun x (e : x = Q') => K.block x (p2.bd x e) (by rw [e]; exact qB)), .inl hB, .inl hR, fun k e => .inr (.inl e), fun k e => .inr (.inr e), fun e => sB e.symm, fun e => sR e.symm, fun e => qB e.symm, fun e => qR e.symm, fun k (e : k = S') (e2 : k = Q') => hne (e ▸ e2), ?_⟩
  · exact (Ba.heap_setCell_same (Ba.heap_setCell_same (Ba.heap_setCell_same h.hp _) _) _).trans rfl
  · exact Rg.sm h.rg (K.block R (h.bd R hR) (Ne.symm h.rb))
  · intro k hk
    refine Nat.lt_of_lt_of_le ?_ K.size
    rcases hk with q | q | q
    · exact h.bd k q
    · rw [q]; exact p1.lt
    · rw [q]; exact p2.lt
set_option maxRecDepth 100000 in
set_option maxHeartbeats 3200000 in
theorem close_open (B : Nat) (F : Nat → Prop) (st : St) (w : World) (h : Pp w B F st) (hc : st.closed = false) :
    Calls Try.prog 27 #[.pointer (some ⟨B, 0, none⟩)] w fun r w' => ∃ oa ca ob cb, r = .returned (.tuple #[.slice oa st.rcv.length ca, .slice ob st.snd.length cb, .int .i64 0]) ∧ (WAt w' oa st.rcv ∧ WAt w' ob st.snd ∧ (∀ a, oa = some a → w.heap.size ≤ a.block) ∧ ∀ a, ob = some a → w.heap.size ≤ a.block) ∧ KF F w w' ∧ ∃ F', Nw F' F w ∧ Pp w' B F' { st with snd := [], rcv := [], closed := true } := by
  obtain ⟨R, S, Q, FS, FQ, h⟩ := h
  have hB := h.bd B h.fb
  have FB := hide h.fb
  have BDF := hide h.bd
  have y5 : w.cell? ⟨B, 5, none⟩ = some (.bool false) := (cell_of h.hp 5).trans (by rw [hc]; rfl)
  have y1 : w.cell? ⟨B, 1, none⟩ = some (.pointer (some ⟨S, 0, none⟩)) := cell_of h.hp 1
  have y2 : w.cell? ⟨B, 2, none⟩ = some (.pointer (some ⟨Q, 0, none⟩)) := cell_of h.hp 2
  have P1 := hide (h.below (bdrew1 w))
  have LQ := hide (list_new Q _ _ P1.out.pq.pw)
  have LS := hide fun u hb => list_new S st.snd u (P1.out.ps.pw.below (w' := u) hb)
  clear h hc
  go_enter Try.func27, Try.ntmps27
  go_wp2_with fail
  go_region_held3 (fun w' => w'.cell? ⟨B, 1, none⟩ = some (.pointer (some ⟨S, 0, none⟩)) ∧ w'.cell? ⟨B, 2, none⟩ = some (.pointer (some ⟨Q, 0, none⟩)))
    (first
      | go_keep
      | (go_split_ands
         first
           | (refine ⟨?_, ?_⟩ <;> (refine cellB ?_ k2; assumption))
           | (refine ⟨?_, ?_⟩ <;> (refine cellB ?_ k1; assumption))))
    (first
      | (go_at_call_of 55 (Value.pointer (some ⟨Q, 0, none⟩)); refine LQ.out.mono ?_; rintro r z1 ⟨oa, ca, rfl, at1, k1, n1⟩)
      | (go_at_call_of 55 (Value.pointer (some ⟨S, 0, none⟩)); refine (LS.out _ k1).mono ?_; rintro r z2 ⟨ob, cb, rfl, at2, k2, n2⟩))
  have P2 := hide (P1.out.below (btr k1 k2))
  have B2 := hide (btr (bdrew1 w) (btr k1 k2))
  have AQ := hide (at1.below k2)
  have AS := hide at2
  have NQ : Hid (∀ a, oa = some a → w.heap.size ≤ a.block) := n1
  have NS : Hid (∀ a, ob = some a → w.heap.size ≤ a.block) := fun a e => Nat.le_trans (btr (bdrew1 w) k1).size (n2 a e)
  clear k1 k2 at1 at2 n1 n2 y1 y2 y5 P1 LQ LS
  go_wp2_with fail
  refine (new_any _).mono ?_
  rintro r w3 ⟨rfl, p3, b3⟩
  have p3' := hide p3
  have b3' := hide b3
  clear p3 b3
  go_wp2_with fail
  refine (new_any _).mono ?_
  rintro r w4 ⟨rfl, p4, b4⟩
  have P4 := hide (P2.out.below (btr b3'.out b4))
  have QN := hide (p3'.out.below b4)
  have SN := hide p4
  have B4 := hide (btr B2.out (btr b3'.out b4))
  have AQ4 := hide (AQ.out.below (btr b3'.out b4))
  have AS4 := hide (AS.out.below (btr b3'.out b4))
  have z3 := p3'.out.lt
  have z4 := B2.out.size
  clear p4 b4 p3' b3' P2 AQ AS B2
  have e1 : w4.cell? ⟨B, 1, none⟩ = some (.pointer (some ⟨S, 0, none⟩)) := cell_of P4.out.hp 1
  have e2 : w4.cell? ⟨B, 2, none⟩ = some (.pointer (some ⟨Q, 0, none⟩)) := cell_of P4.out.hp 2
  have e5 : w4.cell? ⟨B, 5, none⟩ = some (.bool st.closed) := cell_of P4.out.hp 5
  have f1 := frozen_of P4.out.hp 1
  have f2 := frozen_of P4.out.hp 2
  have f5 := frozen_of P4.out.hp 5
  go_wp2_with fail
  go_ret3
  have NB : ∀ k, w.heap.size ≤ k → ¬ F k := fun k hk e => by have := BDF.out k e; omega
  have PN := P4.out.anew SN.out QN.out (NB _ (by omega)) (NB _ (by omega)) (by omega)
  have KN : KF F w4 (((w4.setCell ⟨B, 2, none⟩ (.pointer (some ⟨z2.heap.size, 0, none⟩))).setCell ⟨B, 1, none⟩ (.pointer (some ⟨w3.heap.size, 0, none⟩))).setCell ⟨B, 5, none⟩ (.bool true)) := (((KF.refl F w4).set FB.out 2 _).set FB.out 1 _).set FB.out 5 _
  refine ⟨oa, ca, ob, cb, rfl, ⟨AQ4.out.kf KN (fun a e => NB _ (NQ.out a e)), AS4.out.kf KN (fun a e => NB _ (NS.out a e)), NQ.out, NS.out⟩, (KF.of (F := F) B4.out).trans KN (Nw.refl _ _), _, ?_, PN.pp⟩
  intro k hk
  rcases hk with q | q | q
  · exact .inl q
  · exact .inr (by omega)
  · exact .inr (by omega)
/-- Close, of whatever channel -/
theorem close_any (B : Nat) (F : Nat → Prop) (st : St) (w : World) (h : Pp w B F st) :
    Calls Try.prog 27 #[.pointer (some ⟨B, 0, none⟩)] w fun r w' => ∃ oa ca ob cb, r = .returned (.tuple #[.slice oa (closeL st false).length ca, .slice ob (closeL st true).length cb, .int .i64 (closeE st)]) ∧ (WAt w' oa (closeL st false) ∧ WAt w' ob (closeL st true) ∧ (∀ a, oa = some a → w.heap.size ≤ a.block) ∧ ∀ a, ob = some a → w.heap.size ≤ a.block) ∧ KF F w w' ∧ ∃ F', Nw F' F w ∧ Pp w' B F' (closeS st) := by
  rcases Bool.eq_false_or_eq_true st.closed with hc | hc
  · rw [show closeL st false = [] by simp [closeL, hc], show closeL st true = [] by simp [closeL, hc], show closeE st = 90 by simp [closeE, hc], show closeS st = st by simp [closeS, hc]]
    refine (close_closed B F st w h hc).mono ?_
    rintro r w1 ⟨rfl, rfl⟩
    exact ⟨none, 0, none, 0, rfl, ⟨WAt.nil _ _, WAt.nil _ _, (fun a e => by cases e), (fun a e => by cases e)⟩, KF.refl _ _, F, Nw.refl _ _, h⟩
  · rw [show closeL st false = st.rcv by simp [closeL, hc, own], show closeL st true = st.snd by simp [closeL, hc, own], show closeE st = 0 by simp [closeE, hc], show closeS st = { st with snd := [], rcv := [], closed := true } by simp [closeS, hc]]
    exact close_open B F st w h hc
end Pi
end Go.Proofs.Ytdcmlimglajpkaa
