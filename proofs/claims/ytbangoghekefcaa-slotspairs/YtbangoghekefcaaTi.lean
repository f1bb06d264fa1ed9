/- Layer 15: which send, or receive, of a row is done, and what it gave: the law's own given(), over this seat's program. -/
import Derived.Test.YtbangoghekefcaaTh
import Derived.Test.YtbangoghekefcaaBb
namespace Go.Proofs.Ytbangoghekefcaa
open Go.ChangeShapes Go.WideShapes Go.ChangeAt Go.RowKit
namespace Sl
open Ck
open Ba (KF Bd Nw BAt)

/-- is a send, or a receive, done, if c sends are not received yet? -/
def dB (sz c : Nat) (b : Bool) : Bool := if b then decide (c < max 1 sz) else decide (0 < c)
def nx (c : Nat) (b : Bool) : Nat := if b then c + 1 else c - 1
/-- how many sends are not received behind a row -/
def cF (sz : Nat) : Nat → List Bool → Nat
  | c, [] => c
  | c, b :: l => cF sz (if dB sz c b then nx c b else c) l
/-- where the sends, or receives, stand that are done -/
def dn (sz : Nat) (send : Bool) : Nat → Nat → List Bool → List Nat
  | _, _, [] => []
  | i, c, b :: l => if dB sz c b then (if b = send then i :: dn sz send (i + 1) (nx c b) l else dn sz send (i + 1) (nx c b) l) else dn sz send (i + 1) c l
theorem dn_app (sz : Nat) (send : Bool) (l2 : List Bool) : ∀ (l1 : List Bool) (i c : Nat), dn sz send i c (l1 ++ l2) = dn sz send i c l1 ++ dn sz send (i + l1.length) (cF sz c l1) l2
  | [], i, c => rfl
  | b :: l1, i, c => by
    have e : i + (b :: l1).length = i + 1 + l1.length := by simp; omega
    rw [e]
    show (if dB sz c b then (if b = send then i :: dn sz send (i + 1) (nx c b) (l1 ++ l2) else dn sz send (i + 1) (nx c b) (l1 ++ l2)) else dn sz send (i + 1) c (l1 ++ l2)) = (if dB sz c b then (if b = send then i :: dn sz send (i + 1) (nx c b) l1 else dn sz send (i + 1) (nx c b) l1) else dn sz send (i + 1) c l1) ++ dn sz send (i + 1 + l1.length) (cF sz (if dB sz c b then nx c b else c) l1) l2
    by_cases h : dB sz c b = true
    · simp only [h, if_true]
      by_cases q : b = send
      · simp only [q, if_true]
        rw [dn_app sz send l2 l1]
        rfl
      · simp only [q, if_false]
        exact dn_app sz send l2 l1 _ _
    · simp only [h]
      exact dn_app sz send l2 l1 _ _
theorem cF_app (sz : Nat) (l2 : List Bool) : ∀ (l1 : List Bool) (c : Nat), cF sz c (l1 ++ l2) = cF sz (cF sz c l1) l2
  | [], _ => rfl
  | _ :: l1, _ => cF_app sz l2 l1 _
theorem take_one (l : List Bool) (k : Nat) (b : Bool) (h : l[k]? = some b) : l.take (k + 1) = l.take k ++ [b] := by rw [List.take_add_one, h]; rfl
theorem drop_one (l : List Bool) (k : Nat) (b : Bool) (h : l[k]? = some b) : l.drop k = b :: l.drop (k + 1) := by
  have hk := (List.getElem?_eq_some_iff.1 h).1
  rw [List.drop_eq_getElem_cons hk]
  have := (List.getElem?_eq_some_iff.1 h).2
  rw [this]
/-- what was done stays -/
theorem dn_pre (sz : Nat) (send : Bool) (l : List Bool) (k j i : Nat) (h : (dn sz send 0 0 (l.take k))[j]? = some i) : (dn sz send 0 0 l)[j]? = some i := by
  have e : l = l.take k ++ l.drop k := (List.take_append_drop k l).symm
  rw [e, dn_app, List.getElem?_append_left (List.getElem?_eq_some_iff.1 h).1]
  exact h
set_option maxRecDepth 100000 in
set_option maxHeartbeats 6400000 in
theorem given_yes (X : Nat) (oa : Option Addr) (l : List Bool) (cap : Nat) (send : Bool) (k sz i : Nat) (w : World) (hA : BAt w oa l) (hl : l.length ≤ 300) (hsz : sz ≤ 4) (hd : (dn sz send 0 0 l)[k]? = some i) (hc : CK w X [((i : Int) + 1)]) :
    Calls Try.prog 23 #[.pointer (some ⟨X, 0, none⟩), .slice oa l.length cap, .bool send, .int .i64 (k : Int), .int .i64 (sz : Int)] w fun r w' => r = .returned (.bool true) ∧ Below w.heap.size w w' := by
  have HA := hide hA
  have HD := hide hd
  have HC := hide hc
  clear hA hd hc
  go_enter Try.func23, Try.ntmps23
  go_wp2_with fail
  go_loopw [11, 12, 18] (fun vc va vi wr => ∃ (p c a : Nat), p ≤ l.length ∧ vi = .int .i64 (p : Int) ∧ (vc = .int .i64 (c : Int) ∧ va = .int .i64 (a : Int)) ∧ (c ≤ p ∧ a ≤ p ∧ a ≤ k) ∧ (dn sz send p c (l.drop p))[k - a]? = some i ∧ wr = w) (fun _ _ vi _ => l.length - (intOf vi).toNat)
  case atStart => exact ⟨0, 0, 0, Nat.zero_le _, rfl, ⟨rfl, rfl⟩, ⟨Nat.le_refl _, Nat.le_refl _, Nat.zero_le _⟩, by simpa using HD.out, rfl⟩
  case round =>
    obtain ⟨p, c, a, hp, rfl, ⟨rfl, rfl⟩, ⟨hcp, hap, hak⟩, hdn, rfl⟩ := hrel
    have DN := hide hdn
    clear hdn HD
    by_cases hlt : p < l.length
    · have hlt' : (p : Int) < (l.length : Int) := by omega
      obtain ⟨b, hb⟩ : ∃ b, l[p]? = some b := ⟨_, List.getElem?_eq_getElem hlt⟩
      obtain ⟨bb, off, rfl, hcell⟩ := HA.out p b hb
      have DN2 := DN.out
      rw [drop_one l p b hb] at DN2
      clear hb
      cases hdone : dB sz c b with
      | false =>
        have DN3 : Hid ((dn sz send (p + 1) c (l.drop (p + 1)))[k - a]? = some i) := by
          have : dn sz send p c (b :: l.drop (p + 1)) = dn sz send (p + 1) c (l.drop (p + 1)) := by
            show (if dB sz c b then _ else _) = _
            rw [hdone]; rfl
          rw [this] at DN2
          exact DN2
        clear DN2
        cases b
        · have hc0 : c = 0 := by simpa [dB] using hdone
          subst hc0
          go_wp2_with fail
          go_roundw
          case rel => exact ⟨p + 1, 0, a, by omega, by go_num, ⟨rfl, rfl⟩, ⟨by omega, by omega, hak⟩, DN3.out, by first | rfl | trivial⟩
          case measure => simp [intOf]; omega
        · have hc1 : max 1 sz ≤ c := by simpa [dB] using hdone
          have d1 : decide ((c : Int) < (sz : Int)) = false := decide_eq_false (by omega)
          have d1n : decide (c < sz) = false := decide_eq_false (by omega)
          have d2 : decide ((c : Int) < 1) = false := decide_eq_false (by omega)
          have d2n : decide (c < 1) = false := decide_eq_false (by omega)
          have d2z : decide (c = 0) = false := decide_eq_false (by omega)
          go_wp2_with fail
          go_roundw
          case rel => exact ⟨p + 1, c, a, by omega, by go_num, ⟨rfl, rfl⟩, ⟨by omega, by omega, hak⟩, DN3.out, by first | rfl | trivial⟩
          case measure => simp [intOf]; omega
      | true =>
        have DN3 : dn sz send p c (b :: l.drop (p + 1)) = if b = send then p :: dn sz send (p + 1) (nx c b) (l.drop (p + 1)) else dn sz send (p + 1) (nx c b) (l.drop (p + 1)) := by
          show (if dB sz c b then _ else _) = _
          rw [hdone]; rfl
        rw [DN3] at DN2
        clear DN3
        by_cases hbs : b = send
        · subst hbs
          rw [if_pos rfl] at DN2
          have ebb : (b == b) = true := by cases b <;> rfl
          by_cases hka : a = k
          · subst hka
            have hpi : p = i := by simpa using DN2
            subst hpi
            clear DN2
            have LI := hide (fun u (q : Below wr.heap.size wr u) => list_is X [((p : Int) + 1)] 1 u (HC.out.below q) rfl)
            cases b
            · have hc0 : 0 < c := by simpa [dB] using hdone
              have d3 : decide (0 < (c : Int)) = true := decide_eq_true (by omega)
              have d3n : decide (0 < c) = true := decide_eq_true (by omega)
              go_wp2_with fail
              refine (LI.out _ (Below.refl _ _)).mono ?_
              rintro r w1 ⟨o1, rfl, t1, b1⟩
              have T1 := hide t1
              have B1 := hide b1
              clear t1 b1
              go_wp2_with fail
              refine (ints_b _ _ [((p : Int) + 1)] [((p : Int) + 1)] _ _ _ _ true (by simp) rfl rfl _ (T1.out.below (below_alloc _ _)) (At.lit _ _ _ _ (by rfl)) (by simp) (by simp)).mono ?_
              rintro r w2 ⟨rfl, b2⟩
              have B2 := hide (btr B1.out (btr (below_alloc _ _) b2))
              clear b2
              go_wp2_with fail
              go_ret
              exact ⟨rfl, B2.out⟩
            · have hc1 : c < max 1 sz := by simpa [dB] using hdone
              by_cases hcs : c < sz
              · have d1 : decide ((c : Int) < (sz : Int)) = true := decide_eq_true (by omega)
                have d1n : decide (c < sz) = true := decide_eq_true (by omega)
                go_wp2_with fail
                refine (LI.out _ (Below.refl _ _)).mono ?_
                rintro r w1 ⟨o1, rfl, t1, b1⟩
                have T1 := hide t1
                have B1 := hide b1
                clear t1 b1
                go_wp2_with fail
                refine (ints_b _ _ [((p : Int) + 1)] [((p : Int) + 1)] _ _ _ _ true (by simp) rfl rfl _ (T1.out.below (below_alloc _ _)) (At.lit _ _ _ _ (by rfl)) (by simp) (by simp)).mono ?_
                rintro r w2 ⟨rfl, b2⟩
                have B2 := hide (btr B1.out (btr (below_alloc _ _) b2))
                clear b2
                go_wp2_with fail
                go_ret
                exact ⟨rfl, B2.out⟩
              · have d1 : decide ((c : Int) < (sz : Int)) = false := decide_eq_false (by omega)
                have d1n : decide (c < sz) = false := decide_eq_false (by omega)
                have d2 : decide ((c : Int) < 1) = true := decide_eq_true (by omega)
                have d2n : decide (c < 1) = true := decide_eq_true (by omega)
                have d2z : decide (c = 0) = true := decide_eq_true (by omega)
                go_wp2_with fail
                refine (LI.out _ (Below.refl _ _)).mono ?_
                rintro r w1 ⟨o1, rfl, t1, b1⟩
                have T1 := hide t1
                have B1 := hide b1
                clear t1 b1
                go_wp2_with fail
                refine (ints_b _ _ [((p : Int) + 1)] [((p : Int) + 1)] _ _ _ _ true (by simp) rfl rfl _ (T1.out.below (below_alloc _ _)) (At.lit _ _ _ _ (by rfl)) (by simp) (by simp)).mono ?_
                rintro r w2 ⟨rfl, b2⟩
                have B2 := hide (btr B1.out (btr (below_alloc _ _) b2))
                clear b2
                go_wp2_with fail
                go_ret
                exact ⟨rfl, B2.out⟩
          · have dka : ((a : Int) == (k : Int)) = false := by rw [beq_eq_false_iff_ne]; omega
            have DN4 : Hid ((dn sz b (p + 1) (nx c b) (l.drop (p + 1)))[k - (a + 1)]? = some i) := by
              have e : k - a = (k - (a + 1)) + 1 := by omega
              rw [e, List.getElem?_cons_succ] at DN2
              exact DN2
            clear DN2
            cases b
            · have hc0 : 0 < c := by simpa [dB] using hdone
              have d3 : decide (0 < (c : Int)) = true := decide_eq_true (by omega)
              have d3n : decide (0 < c) = true := decide_eq_true (by omega)
              go_wp2_with fail
              go_roundw
              case rel => exact ⟨p + 1, c - 1, a + 1, by omega, by go_num, ⟨by congr 1; omega, by go_num⟩, ⟨by omega, by omega, by omega⟩, DN4.out, by first | rfl | trivial⟩
              case measure => simp [intOf]; omega
            · have hc1 : c < max 1 sz := by simpa [dB] using hdone
              by_cases hcs : c < sz
              · have d1 : decide ((c : Int) < (sz : Int)) = true := decide_eq_true (by omega)
                have d1n : decide (c < sz) = true := decide_eq_true (by omega)
                go_wp2_with fail
                go_roundw
                case rel => exact ⟨p + 1, c + 1, a + 1, by omega, by go_num, ⟨by go_num, by go_num⟩, ⟨by omega, by omega, by omega⟩, DN4.out, by first | rfl | trivial⟩
                case measure => simp [intOf]; omega
              · have d1 : decide ((c : Int) < (sz : Int)) = false := decide_eq_false (by omega)
                have d1n : decide (c < sz) = false := decide_eq_false (by omega)
                have d2 : decide ((c : Int) < 1) = true := decide_eq_true (by omega)
                have d2n : decide (c < 1) = true := decide_eq_true (by omega)
                have d2z : decide (c = 0) = true := decide_eq_true (by omega)
                go_wp2_with fail
                go_roundw
                case rel => exact ⟨p + 1, c + 1, a + 1, by omega, by go_num, ⟨by go_num, by go_num⟩, ⟨by omega, by omega, by omega⟩, DN4.out, by first | rfl | trivial⟩
                case measure => simp [intOf]; omega
        · rw [if_neg hbs] at DN2
          have ebb : (b == send) = false := by rw [beq_eq_false_iff_ne]; exact hbs
          have DN4 := hide DN2
          clear DN2
          cases b
          · have hc0 : 0 < c := by simpa [dB] using hdone
            have d3 : decide (0 < (c : Int)) = true := decide_eq_true (by omega)
            have d3n : decide (0 < c) = true := decide_eq_true (by omega)
            go_wp2_with fail
            go_roundw
            case rel => exact ⟨p + 1, c - 1, a, by omega, by go_num, ⟨by congr 1; omega, rfl⟩, ⟨by omega, by omega, by omega⟩, DN4.out, by first | rfl | trivial⟩
            case measure => simp [intOf]; omega
          · have hc1 : c < max 1 sz := by simpa [dB] using hdone
            by_cases hcs : c < sz
            · have d1 : decide ((c : Int) < (sz : Int)) = true := decide_eq_true (by omega)
              have d1n : decide (c < sz) = true := decide_eq_true (by omega)
              go_wp2_with fail
              go_roundw
              case rel => exact ⟨p + 1, c + 1, a, by omega, by go_num, ⟨by go_num, rfl⟩, ⟨by omega, by omega, by omega⟩, DN4.out, by first | rfl | trivial⟩
              case measure => simp [intOf]; omega
            · have d1 : decide ((c : Int) < (sz : Int)) = false := decide_eq_false (by omega)
              have d1n : decide (c < sz) = false := decide_eq_false (by omega)
              have d2 : decide ((c : Int) < 1) = true := decide_eq_true (by omega)
              have d2n : decide (c < 1) = true := decide_eq_true (by omega)
              have d2z : decide (c = 0) = true := decide_eq_true (by omega)
              go_wp2_with fail
              go_roundw
              case rel => exact ⟨p + 1, c + 1, a, by omega, by go_num, ⟨by go_num, rfl⟩, ⟨by omega, by omega, by omega⟩, DN4.out, by first | rfl | trivial⟩
              case measure => simp [intOf]; omega
    · exfalso
      have e : l.drop p = [] := List.drop_eq_nil_of_le (by omega)
      have := DN.out
      rw [e] at this
      simp [dn] at this
end Sl
end Go.Proofs.Ytbangoghekefcaa
