/- Package pipe: the functions that Wait hands on, over this seat's program. -/
import Derived.Test.YtdcmlimglajpkaaXc
import Derived.Deep.RegionHeld3
namespace Go.Proofs.Ytdcmlimglajpkaa
open Go.ChangeShapes Go.WideShapes Go.ChangeAt Go.RowKit
namespace Pi
open Ba Pe

theorem cellB {w w' : World} {b i : Nat} {v : Value} (h : w.cell? ⟨b, i, none⟩ = some v) (hb : Below w.heap.size w w') : w'.cell? ⟨b, i, none⟩ = some v := (hb.cell (World.block_lt_of_cell? w _ h)).trans h
theorem wait1_any (x : Wt) (Y : Nat) (g : Int) (w : World) (h : w.cell? ⟨Y, 0, none⟩ = some (.int .i64 g)) :
    Calls Try.prog 50 #[wv x, .pointer (some ⟨Y, 0, none⟩)] w fun r w' => r = .returned (.bool (!(x.g == g))) ∧ Below w.heap.size w w' := by
  have hY := World.block_lt_of_cell? w _ h
  simp only at hY
  unfold wv
  go_enter Try.func50, Try.ntmps50
  go_wp2_with fail
  go_ret
  exact ⟨ret_bool (by simp [bne]), below_alloc _ _⟩
/-- does another one than g wait? -/
def cn (g : Int) (l : List Wt) : Bool := decide (0 < (dr g l).length)
set_option maxRecDepth 100000 in
set_option maxHeartbeats 1600000 in
theorem index_any (oa : Option Addr) (l : List Wt) (c : Nat) (Y : Nat) (g : Int) (w : World) (hA : WAt w oa l) (hl : l.length ≤ 1024) (h : w.cell? ⟨Y, 0, none⟩ = some (.int .i64 g)) :
    Calls Try.prog 69 #[.slice oa l.length c, .func (.func 50) #[] #[.pointer (some ⟨Y, 0, none⟩)]] w fun r w' => (∃ z : Int, r = .returned (.int .i64 z) ∧ decide (0 ≤ z) = cn g l) ∧ Below w.heap.size w w' := by
  have HA := hide hA
  have HY := hide h
  clear hA h
  go_enter Try.func69, Try.ntmps69
  go_wp2_with fail
  go_loopw [8] (fun i wr => ∃ k : Nat, k ≤ l.length ∧ i = .int .i64 k ∧ dr g (l.take k) = [] ∧ Below w.heap.size w wr) (fun i _ => l.length - (intOf i).toNat)
  case atStart => exact ⟨0, Nat.zero_le _, rfl, rfl, Below.refl _ _⟩
  case round =>
    obtain ⟨k, hk, rfl, hn, hb⟩ := hrel
    have HN := hide hn
    have HB := hide hb
    clear hn hb
    by_cases hlt : k < l.length
    · have hlt' : (k : Int) < (l.length : Int) := by omega
      obtain ⟨x, hx⟩ : ∃ x, l[k]? = some x := ⟨_, List.getElem?_eq_getElem hlt⟩
      obtain ⟨b, off, rfl, q0, q1, q2⟩ := HA.out.below HB.out k x hx
      have DT := hide (dr_take (g := g) hx)
      have HX := hide hx
      clear hx
      have W1 := hide (wait1_any x Y g wr (cellB HY.out HB.out))
      unfold wv at W1
      cases hg : x.g == g
      · have HC : Hid (cn g l = true) := by
          show _ = _
          unfold cn
          rw [decide_eq_true_iff]
          apply List.length_pos_of_mem (a := x)
          unfold dr
          rw [List.mem_filter]
          exact ⟨List.mem_of_getElem? HX.out, by simp [hg]⟩
        rw [hg] at W1
        go_wp2_with fail
        refine W1.out.mono ?_
        rintro r w2 ⟨rfl, b2⟩
        have B2 := hide (btr HB.out b2)
        clear b2
        go_wp2_with fail
        go_ret
        exact ⟨⟨k, rfl, by rw [HC.out]; simp⟩, B2.out⟩
      · have HN2 : Hid (dr g (l.take (k + 1)) = []) := by
          show _ = _
          rw [DT.out, hg, if_pos rfl]
          exact HN.out
        rw [hg] at W1
        go_wp2_with fail
        refine W1.out.mono ?_
        rintro r w2 ⟨rfl, b2⟩
        have B2 := hide (btr HB.out b2)
        clear b2
        go_wp2_with fail
        go_roundw
        case rel => exact ⟨k + 1, by omega, by go_num, HN2.out, B2.out⟩
        case measure => simp [intOf]; omega
    · have hlt' : ¬ ((k : Int) < (l.length : Int)) := by omega
      rw [List.take_of_length_le (by omega)] at HN
      go_wp2_with fail
      go_ret
      exact ⟨⟨-1, rfl, by unfold cn; rw [HN.out]; rfl⟩, HB.out⟩
theorem contains_any (oa : Option Addr) (l : List Wt) (c : Nat) (Y : Nat) (g : Int) (w : World) (hA : WAt w oa l) (hl : l.length ≤ 1024) (h : w.cell? ⟨Y, 0, none⟩ = some (.int .i64 g)) :
    Calls Try.prog 53 #[.slice oa l.length c, .func (.func 50) #[] #[.pointer (some ⟨Y, 0, none⟩)]] w fun r w' => r = .returned (.bool (cn g l)) ∧ Below w.heap.size w w' := by
  have IX := hide (index_any oa l c Y g w hA hl h)
  clear hA h
  go_enter Try.func53, Try.ntmps53
  go_wp2_with fail
  refine IX.out.mono ?_
  rintro r w1 ⟨⟨z, rfl, hz⟩, b1⟩
  have HZ := hide hz
  have B1 := hide b1
  clear hz b1
  go_wp2_with fail
  go_ret
  exact ⟨ret_bool HZ.out, B1.out⟩
set_option maxRecDepth 100000 in
set_option maxHeartbeats 1600000 in
theorem wait2_any (B : Nat) (F : Nat → Prop) (st : St) (b : Bool) (X V Y : Nat) (g : Int) (w : World) (h : Pp w B F st) (hX : w.cell? ⟨X, 0, none⟩ = some (.pointer (some ⟨B, 0, none⟩))) (hV : w.cell? ⟨V, 0, none⟩ = some (.func (.func 50) #[] #[.pointer (some ⟨Y, 0, none⟩)])) (hY : w.cell? ⟨Y, 0, none⟩ = some (.int .i64 g)) :
    Calls Try.prog 52 #[.bool b, .pointer (some ⟨X, 0, none⟩), .pointer (some ⟨V, 0, none⟩)] w fun r w' => r = .returned (.bool (cn g (own st b))) ∧ Below w.heap.size w w' := by
  obtain ⟨R, S, Q, FS, FQ, h⟩ := h
  have h' := h.below (bdrew1 w)
  have SD := hide (h'.side b)
  have LS := hide (list_any (sd S Q b) _ _ (h'.pew b))
  have hle : (own st b).length ≤ 1024 := (h'.pew b).le
  have CN := hide fun (u : World) oa c hA hc => contains_any oa (own st b) c Y g u hA hle hc
  have HY := hide (cellB hY (bdrew1 w))
  clear h h' hY
  generalize sd S Q b = Z at SD LS
  generalize own st b = L at LS CN ⊢
  go_enter Try.func52, Try.ntmps52
  go_wp2_with fail
  go_region_held3 (fun w' => w'.cell? ⟨X, 0, none⟩ = some (.pointer (some ⟨B, 0, none⟩)) ∧ w'.cell? ⟨V, 0, none⟩ = some (.func (.func 50) #[] #[.pointer (some ⟨Y, 0, none⟩)]))
    (first
      | go_keep
      | (go_split_ands
         first
           | (refine ⟨?_, ?_⟩ <;> (refine cellB ?_ k3; assumption))
           | (refine ⟨?_, ?_⟩ <;> (refine cellB ?_ k2; assumption))))
    (first
      | (go_at_call 54; refine SD.out.mono ?_; rintro r z1 ⟨rfl, rfl⟩)
      | (go_at_call 55; refine LS.out.mono ?_; rintro r z2 ⟨ol, cl, rfl, at2, k2⟩)
      | (go_at_call 53; refine (CN.out _ _ _ at2 (cellB HY.out k2)).mono ?_; rintro r z3 ⟨rfl, k3⟩))
  have B3 := hide (btr (bdrew1 _) (btr k2 k3))
  clear k2 k3 at2
  go_wp2_with fail
  go_ret
  exact ⟨rfl, B3.out⟩
end Pi
end Go.Proofs.Ytdcmlimglajpkaa
