/- Layer 15: clocks beside slots, and the laws' own fetches(), over this seat's program. -/
import Derived.Test.YtekdcfdjohlfcaaTe
namespace Go.Proofs.Ytekdcfdjohlfcaa
open Go.ChangeShapes Go.WideShapes Go.ChangeAt Go.RowKit
namespace Sl
open Ck
open Ba (KF Bd Nw)

theorem valid_trm {l : List Int} (h : Valid l) : Valid (trm l) := by
  intro k hk
  rw [nth_trm]
  rw [trm_length] at hk
  exact h k (Nat.lt_of_lt_of_le hk (tlen_le l))
theorem SW.below {Y : Nat → Prop} {S : Nat} {w w' : World} {st : Sst} {h : Nat → Option (List Int)} (s : SW Y S w st h) (b : Below w.heap.size w w') : SW Y S w' st h := by
  obtain ⟨vg, vb, s⟩ := s
  exact ⟨vg, vb, s.below b⟩
theorem SW.ylt {Y : Nat → Prop} {S : Nat} {w : World} {st : Sst} {h : Nat → Option (List Int)} (s : SW Y S w st h) : ∀ k, Y k → k < w.heap.size := by
  obtain ⟨vg, vb, s⟩ := s
  exact s.ylt
theorem SW.get {Y : Nat → Prop} {S : Nat} {w : World} {st : Sst} {h : Nat → Option (List Int)} (s : SW Y S w st h) {b : Nat} {l : List Int} (e : h b = some l) : CK w b l ∧ Canon l ∧ Valid l := by
  obtain ⟨vg, vb, s⟩ := s
  exact s.cx.get (hx_at e)
/-- Of beside slots -/
theorem of_sw {Y : Nat → Prop} {S : Nat} {w : World} {st : Sst} {h : Nat → Option (List Int)} (s : SW Y S w st h) (oa : Option Addr) (l : List Int) (n c : Nat) (hn : l.length = n) (hA : Ck.At w oa l) (hlc : n ≤ c) (hc : c ≤ maxLen) (hl : n ≤ 256) (hv : Valid l) :
    Calls Try.prog 8 #[.slice oa n c] w fun r w' => ∃ A h', r = .returned (.tuple #[.pointer (some ⟨A, 0, none⟩), .int .i64 0]) ∧ Ext h h' ∧ h' A = some (trm l) ∧ SW Y S w' st h' ∧ Below w.heap.size w w' := by
  obtain ⟨vg, vb, s⟩ := s
  refine (of_fresh oa l n c hn w hA hl hlc hc hv).mono ?_
  rintro r w' ⟨A, rfl, G, cap, r1, a1, a2, a3, a4, b1⟩
  have hA0 : h A = none := by
    cases e : h A with
    | none => rfl
    | some l0 => have := (s.cx.get (hx_at e)).1.lt; omega
  refine ⟨A, upd h A (trm l), rfl, Ext.upd hA0, upd_same _ _ _, ⟨vg, vb, s.clk ?_ (Kp.of b1 s.cx.base) fun b l' e => ⟨l', Ext.upd hA0 b l' e⟩⟩, b1⟩
  rw [← hx_upd]
  exact s.cx.fresh r1 a1 (fun x e => by cases e; exact a2) b1 (canon_trm l) (valid_trm hv) A
theorem list_is (b : Nat) (l : List Int) (n : Nat) (w : World) (h : CK w b l) (hn : l.length = n) :
    Calls Try.prog 31 #[.pointer (some ⟨b, 0, none⟩)] w fun r w' => ∃ oa, r = .returned (.slice oa n n) ∧ Ck.At w' oa l ∧ Below w.heap.size w w' := by
  subst hn
  refine (list_any b l w h).mono ?_
  rintro r w' ⟨rfl, rfl⟩
  exact ⟨_, rfl, At.new _ _ _, below_alloc _ _⟩
theorem ints_b (oa ob : Option Addr) (l m : List Int) (n k c d : Nat) (x : Bool) (hx : decide (l = m) = x) (hn : l.length = n) (hk : m.length = k) (w : World) (hA : Ck.At w oa l) (hB : Ck.At w ob m) (hl : n ≤ 256) (hm : k ≤ 256) :
    Calls Try.prog 30 #[.slice oa n c, .slice ob k d] w fun r w' => r = .returned (.bool x) ∧ Below w.heap.size w w' := by
  refine (ints_is oa ob l m n k c d x hx hn hk w hA hB hl hm).mono ?_
  rintro r w' ⟨rfl, q, rfl⟩
  exact ⟨rfl, bdrew _ _⟩
/-- all that was there when a law began -/
def Lw (w : World) : Nat → Prop := fun k => k < w.heap.size
theorem Kp.lw {w w' : World} (h : Kp (Lw w) w w') : Below w.heap.size w w' := ⟨h.os, h.tape, h.output, h.size, h.block⟩
theorem kp_b {Y : Nat → Prop} {w0 w w' : World} (k : Kp Y w0 w) (b : Below w.heap.size w w') (hY : ∀ x, Y x → x < w.heap.size) : Kp Y w0 w' := k.trans (Kp.of b hY)
def h0 : Nat → Option (List Int) := fun _ => none
theorem cx0 (w : World) : Cx (Lw w) w (hx h0) := Cx.empty _ w fun _ h => h
set_option maxRecDepth 100000 in
set_option maxHeartbeats 6400000 in
theorem fetches_any (w : World) : Calls Try.prog 7 #[] w fun r w' => r = .returned (.bool true) ∧ Below w.heap.size w w' := by
  have NW := hide (new_any 1 (Lw w) h0 w (by decide) (cx0 w))
  go_enter Try.func7, Try.ntmps7
  go_wp2_with fail
  refine NW.out.mono ?_
  rintro r w1 ⟨S, rfl, s1, b1⟩
  have S1 : Hid (SW (Lw w) S w1 ⟨1, 0, 0, [], [], none⟩ h0) := ⟨_, _, s1⟩
  have K1 : Hid (Kp (Lw w) w w1) := Kp.of b1 fun _ h => h
  clear s1 b1 NW
  go_wp2_with fail
  refine (of_sw (S1.out.below (below_alloc w1 _)) _ [1] _ _ (by rfl) (At.lit _ _ _ _ (by rfl)) (by decide) (by decide) (by decide) (by unfold Valid; decide)).mono ?_
  rintro r w2 ⟨a, h2, rfl, x2, e2, s2, b2⟩
  have S2 := hide s2
  have E2 : Hid (h2 a = some [1]) := e2
  have K2 := hide (kp_b K1.out (btr (below_alloc w1 _) b2) S1.out.ylt)
  clear s2 b2 e2 x2 S1 K1
  go_wp2_with fail
  refine (of_sw (S2.out.below (below_alloc w2 _)) _ [2] _ _ (by rfl) (At.lit _ _ _ _ (by rfl)) (by decide) (by decide) (by decide) (by unfold Valid; decide)).mono ?_
  rintro r w3 ⟨b, h3, rfl, x3, e3, s3, b3⟩
  have S3 := hide s3
  have E3 : Hid (h3 b = some [2]) := e3
  have EA3 := hide (x3 a _ E2.out)
  have K3 := hide (kp_b K2.out (btr (below_alloc w2 _) b3) S2.out.ylt)
  clear s3 b3 e3 x3 S2 K2 E2
  go_wp2_with fail
  refine (send_ok S3.out a [1] EA3.out (by decide) (by decide) (by decide) (by decide)).mono ?_
  rintro r w4 ⟨rfl, A1, h4, -, x4, e4, s4, k4⟩
  have S4 : Hid (SW (Lw w) S w4 ⟨1, 1, 0, [A1], [], none⟩ h4) := s4
  have E4 := hide e4
  have EA4 := hide (x4 a _ EA3.out)
  have EB4 := hide (x4 b _ E3.out)
  have K4 := hide (K3.out.trans k4)
  have ef : clv (fetS ⟨1, 0, 0, [], [], none⟩) = .pointer none := rfl
  rw [ef]
  clear s4 k4 e4 x4 S3 K3 E3 EA3 ef
  go_wp2_with fail
  refine (recv_ok S4.out b [2] EB4.out A1 [] rfl (by simp) (by simp)).mono ?_
  rintro r w5 ⟨rfl, A2, h5, x5, e5, s5, k5⟩
  have S5 : Hid (SW (Lw w) S w5 ⟨1, 1, 1, [], [A2], none⟩ h5) := s5
  have E5 := hide (e5 (by simp))
  have EA5 := hide (x5 a _ EA4.out)
  have EX5 := hide (x5 A1 _ E4.out)
  have K5 := hide (K4.out.trans k5)
  unfold ptr
  clear s5 k5 e5 x5 S4 K4 E4 EA4 EB4
  go_wp2_with fail
  refine (send_ok S5.out a [1] EA5.out rfl (by simp) (by simp) (by simp)).mono ?_
  rintro r w6 ⟨rfl, A3, h6, -, x6, e6, s6, k6⟩
  have S6 : Hid (SW (Lw w) S w6 ⟨1, 2, 1, [A3], [], none⟩ h6) := s6
  have EY6 := hide (x6 A2 _ E5.out)
  have EX6 := hide (x6 A1 _ EX5.out)
  have K6 := hide (K5.out.trans k6)
  have ef : clv (fetS ⟨1, 1, 1, [], [A2], none⟩) = .pointer (some ⟨A2, 0, none⟩) := rfl
  rw [ef]
  clear s6 k6 e6 x6 S5 K5 E5 EA5 EX5 ef
  go_wp2_with fail
  refine (list_is A1 [1] 1 w6 (S6.out.get EX6.out).1 rfl).mono ?_
  rintro r w7 ⟨oa7, rfl, t7, b7⟩
  have T7 := hide t7
  have B7 := hide b7
  clear t7 b7
  go_wp2_with fail
  refine (ints_b _ _ [1] [1] _ _ _ _ true (by decide) (by rfl) (by rfl) _ (T7.out.below (below_alloc _ _)) (At.lit _ _ _ _ (by rfl)) (by decide) (by decide)).mono ?_
  rintro r w8 ⟨rfl, b8⟩
  have B8 := hide (btr B7.out (btr (below_alloc _ _) b8))
  clear b8 T7 B7
  go_wp2_with fail
  refine (list_is A2 [2] 1 w8 ((S6.out.below B8.out).get EY6.out).1 rfl).mono ?_
  rintro r w9 ⟨oa9, rfl, t9, b9⟩
  have T9 := hide t9
  have B9 := hide (btr B8.out b9)
  clear t9 b9 B8
  go_wp2_with fail
  refine (ints_b _ _ [2] [2] _ _ _ _ true (by decide) (by rfl) (by rfl) _ (T9.out.below (below_alloc _ _)) (At.lit _ _ _ _ (by rfl)) (by decide) (by decide)).mono ?_
  rintro r wa ⟨rfl, ba⟩
  have BA := hide (btr B9.out (btr (below_alloc _ _) ba))
  clear ba T9 B9
  go_wp2_with fail
  refine (held_any (S6.out.below BA.out) (by simp) (by simp)).mono ?_
  rintro r wb ⟨v, As, hb, rfl, HI⟩
  obtain ⟨ob, cb, rfl⟩ := own_sl HI.own
  have KB := hide ((kp_b K6.out BA.out S6.out.ylt).trans HI.kp)
  clear HI
  have el : (keptL ⟨1, 2, 1, [A3], [], none⟩).length = 1 := rfl
  rw [el]
  go_wp2_with fail
  go_ret
  exact ⟨rfl, Kp.lw KB.out⟩
theorem upd_id' {h : Nat → Option (List Int)} {b : Nat} {l : List Int} (e : h b = some l) : upd h b l = h := by
  funext j
  by_cases q : j = b
  · rw [q, upd_same, e]
  · rw [upd_other _ _ _ _ q]
theorem zero_sw {Y : Nat → Prop} {S : Nat} {w : World} {st : Sst} {h : Nat → Option (List Int)} (s : SW Y S w st h) {b : Nat} {l : List Int} (e : h b = some l) (t : Int) :
    Calls Try.prog 43 #[.pointer (some ⟨b, 0, none⟩), .int .i64 t, .int .i64 0] w fun r w' => (∃ x, r = .returned (.int .i64 x)) ∧ SW Y S w' st (upd h b (z0 t l)) ∧ Kp Y w w' := by
  obtain ⟨vg, vb, s⟩ := s
  refine (zero_sx s e t).mono ?_
  rintro r w' ⟨hr, s', k'⟩
  exact ⟨hr, ⟨vg, vb, s'⟩, Kp.mono k' fun k q => .inl q⟩
theorem at_kp {Y : Nat → Prop} {w w' : World} {R : Nat} {l : List Int} (h : Ck.At w (some ⟨R, 0, none⟩) l) (k : Kp Y w w') (hR : Y R) : Ck.At w' (some ⟨R, 0, none⟩) l := by
  intro j hj
  obtain ⟨b, off, e, hc⟩ := h j hj
  cases e
  exact ⟨R, 0, rfl, by rw [← hc]; exact World.cell?_of_block (k.block R hR)⟩
theorem SW.more {Y Y' : Nat → Prop} {S : Nat} {w w1 : World} {st : Sst} {h : Nat → Option (List Int)} (s : SW Y S w st h) (b : Below w.heap.size w w1) (hi : ∀ k, Y' k → Y k ∨ w.heap.size ≤ k) (hd : ∀ k, Y' k → k < w1.heap.size) : SW Y' S w1 st h := by
  obtain ⟨vg, vb, s⟩ := s
  exact ⟨vg, vb, s.more b hi hd⟩
end Sl
end Go.Proofs.Ytekdcfdjohlfcaa
