import Derived.Test.YtocmdehpbipmlaaZjSheet5
import Derived.Lib.Slices
import Derived.Deep.RegionHeld3
import Derived.Deep.Slices
import Derived.ShutString
import Derived.ChangeOld
import Derived.SizedLaws
/- slices.IndexFunc and DeleteFunc at isCompact, over this seat's program. -/
namespace Go.Proofs.Ytocmdehpbipmlaa
open Go.ChangeShapes Go.WideShapes Go.ChangeAt Go.RowKit
namespace Sh
open De Ba Re

theorem compact_any (n : Int) (w : World) : Calls Try.prog 56 #[.int .i64 n] w fun r w' => r = .returned (.bool (n == -1)) ∧ w' = w := by
  go_enter Try.func56, Try.ntmps56
  go_wp2_with fail
  go_ret
  exact ⟨rfl, rfl⟩
/-- a list without its Compact entries -/
def bar (l : List Int) : List Int := l.filter fun n => !(n == -1)
set_option maxHeartbeats 1600000 in
theorem index_any (L : Nat) (l : List Int) (c : Nat) (w : World) (hA : At w (some ⟨L, 0, none⟩) l) (hl : l.length ≤ 1000000) :
    Calls Try.prog 75 #[.slice (some ⟨L, 0, none⟩) l.length c, .func (.func 56) #[] #[]] w fun r w' => (∃ i : Int, r = .returned (.int .i64 i) ∧ ((i = -1 ∧ ∀ k, k < l.length → nth l k ≠ -1) ∨ ∃ k : Nat, i = (k : Int) ∧ k < l.length ∧ nth l k = -1 ∧ ∀ j, j < k → nth l j ≠ -1)) ∧ w' = w := by
  have HA := hide hA
  clear hA
  go_enter Try.func75, Try.ntmps75
  go_wp2_with fail
  go_loop [8] (fun i => ∃ k : Nat, k ≤ l.length ∧ i = .int .i64 k ∧ ∀ j, j < k → nth l j ≠ -1) (fun i => l.length - (intOf i).toNat)
  case atStart => exact ⟨0, Nat.zero_le _, rfl, fun j hj => absurd hj (Nat.not_lt_zero _)⟩
  case round =>
    obtain ⟨k, hk, rfl, hall⟩ := hrel
    have HE := hide hall
    clear hall
    by_cases hlt : k < l.length
    · have hlt' : (k : Int) < (l.length : Int) := by omega
      obtain ⟨b, off, he, hc⟩ := HA.out k hlt
      cases he
      simp only [Nat.zero_add] at hc
      cases hx : nth l k == -1
      · have HX : Hid (nth l k ≠ -1) := by show _ ≠ _; simpa using hx
        go_wp2_with fail
        refine (compact_any _ _).mono ?_
        rw [hx]
        rintro r w1 ⟨rfl, rfl⟩
        go_wp2_with fail
        go_round
        case rel => exact ⟨k + 1, by omega, by go_num, fun j hj => by
          by_cases e : j = k
          · subst e; exact HX.out
          · exact HE.out j (by omega)⟩
        case measure => simp [intOf]; omega
      · have HX : Hid (nth l k = -1) := by show _ = _; simpa using hx
        go_wp2_with fail
        refine (compact_any _ _).mono ?_
        rw [hx]
        rintro r w1 ⟨rfl, rfl⟩
        go_wp2_with fail
        go_ret
        exact ⟨⟨k, rfl, .inr ⟨k, rfl, hlt, HX.out, HE.out⟩⟩, rfl⟩
    · have hlt' : ¬ ((k : Int) < (l.length : Int)) := by omega
      go_wp2_with fail
      go_ret
      exact ⟨⟨-1, rfl, .inl ⟨rfl, fun j hj => HE.out j (by omega)⟩⟩, rfl⟩
theorem kb_setCells (R : Nat) (w : World) : ∀ (vs : List Value) (o : Nat) (w' : World), De.KB R w w' → De.KB R w (w'.setCells R o vs)
  | [], _, _, h => h
  | v :: vs, o, w', h => kb_setCells R w vs (o + 1) (w'.setCell ⟨R, o, none⟩ v) (h.setCell o v)
theorem bar_all {l : List Int} (h : ∀ k, k < l.length → nth l k ≠ -1) : bar l = l := by
  unfold bar
  rw [List.filter_eq_self]
  intro x hx
  obtain ⟨k, hk, rfl⟩ := List.mem_iff_getElem.1 hx
  have := h k hk
  rw [nth_lt l k hk] at this
  simpa using this
theorem bar_take (l : List Int) (k : Nat) (h : k < l.length) : bar (l.take (k + 1)) = bar (l.take k) ++ (bif nth l k == -1 then [] else [nth l k]) := by
  unfold bar
  rw [List.take_succ_eq_append_getElem h, List.filter_append, nth_lt l k h]
  cases hx : l[k] == -1 <;> simp [hx]
theorem bar_len (l : List Int) (k : Nat) : (bar (l.take k)).length ≤ k := by
  have h1 := List.length_filter_le (fun n : Int => !(n == -1)) (l.take k)
  have h2 := List.length_take_le k l
  unfold bar
  omega
theorem zero_int : ∀ w, (zeroValue 3).run Try.prog w = .ok (.int .i64 0) w := fun w => by
  obtain ⟨i0, hi, hz0, _, _⟩ := info_parts Ba.info_int
  simp [zeroValue, typeInfo, hi, hz0]
theorem set_take (cur : List Int) (i : Nat) (x : Int) (h : i < cur.length) : (cur.set i x).take (i + 1) = cur.take i ++ [x] := by
  rw [List.take_set, List.take_succ_eq_append_getElem h, List.set_append_right _ _ (by rw [List.length_take]; omega), List.length_take, Nat.min_eq_left (by omega), Nat.sub_self]
  rfl
theorem nth_set_ne (cur : List Int) (i t : Nat) (x : Int) (h : i ≠ t) : nth (cur.set i x) t = nth cur t := by
  unfold nth
  rw [List.getD_eq_getElem?_getD, List.getD_eq_getElem?_getD, List.getElem?_set_ne h]
set_option maxRecDepth 100000 in
set_option maxHeartbeats 3200000 in
theorem delete_any (L : Nat) (l : List Int) (w : World) (hL : w.heap[L]? = some (.cells (row l) 3 (0, 0))) (hl : l.length ≤ 1000000) :
    Calls Try.prog 55 #[.slice (some ⟨L, 0, none⟩) l.length l.length, .func (.func 56) #[] #[]] w fun r w' => r = .returned (.slice (some ⟨L, 0, none⟩) (bar l).length l.length) ∧ At w' (some ⟨L, 0, none⟩) (bar l) ∧ De.KB L w w' := by
  have HL := hide hL
  have HA := hide (Re.At.of hL)
  clear hL
  go_enter Try.func55, Try.ntmps55
  go_wp2_with fail
  refine (index_any L l _ _ HA.out hl).mono ?_
  rintro r w1 ⟨⟨i, rfl, ⟨rfl, hall⟩ | ⟨k, rfl, hkl, hk1, hkn⟩⟩, rfl⟩
  · have HB := hide (bar_all hall)
    clear hall
    go_wp2_with fail
    go_ret
    exact ⟨by rw [HB.out]; rfl, by rw [HB.out]; exact HA.out, De.KB.refl _ _⟩
  have hne : ((k : Int) == -1) = false := by rw [beq_eq_false_iff_ne]; omega
  have B0 : Hid (bar (l.take (k + 1)) = l.take k) := by
    show _ = _
    rw [bar_take l k hkl, hk1]
    show bar (l.take k) ++ [] = _
    rw [List.append_nil]
    exact bar_all fun j hj => by
      rw [List.length_take] at hj
      rw [nth_take l k j (by omega)]
      exact hkn j (by omega)
  clear hk1 hkn HA
  go_wp2_with fail
  go_loopw [5, 6] (fun a b wr => ∃ (i j : Nat) (cur : List Int), j ≤ l.length ∧ a = .int .i64 i ∧ b = .int .i64 j ∧ (i < j ∧ cur.length = l.length) ∧ wr.heap[L]? = some (.cells (row cur) 3 (0, 0)) ∧ (i = (bar (l.take j)).length ∧ cur.take i = bar (l.take j) ∧ ∀ t, j ≤ t → t < l.length → nth cur t = nth l t) ∧ De.KB L w1 wr) (fun _ b _ => l.length - (intOf b).toNat)
  case atStart => exact ⟨k, k + 1, l, by omega, rfl, by go_num, ⟨by omega, rfl⟩, HL.out, ⟨by rw [B0.out, List.length_take]; omega, by rw [B0.out], fun _ _ _ => rfl⟩, De.KB.refl _ _⟩
  case round =>
    clear B0 HL
    obtain ⟨i, j, cur, hj, rfl, rfl, ⟨hij, hcl⟩, hh, ⟨hi, htk, hrest⟩, kb⟩ := hrel
    have HH := hide hh
    have HI := hide hi
    have HT := hide htk
    have HR := hide hrest
    have KB' := hide kb
    have CL := hide hcl
    clear hh hi htk hrest kb hcl
    by_cases hjl : j < l.length
    · have hjl' : (j : Int) < (l.length : Int) := by omega
      have hil' : (i : Int) < (l.length : Int) := by omega
      have cj : wr.cell? ⟨L, j, none⟩ = some (.int .i64 (nth l j)) := by
        rw [cell_of HH.out, row_at cur j (by rw [CL.out]; omega), HR.out j (Nat.le_refl _) hjl]
      have BT := hide (bar_take l j hjl)
      cases hx : nth l j == -1
      · rw [hx] at BT
        simp only [cond_false] at BT
        obtain ⟨vi, ci⟩ : ∃ v, wr.cell? ⟨L, i, none⟩ = some v := ⟨_, (cell_of HH.out i).trans (Array.getElem?_eq_getElem (by rw [row_size, CL.out]; omega))⟩
        have fi := frozen_of HH.out i
        go_wp2_with fail
        refine (compact_any _ _).mono ?_
        rw [hx]
        rintro r w2 ⟨rfl, rfl⟩
        go_wp2_with fail
        go_roundw
        case rel =>
          refine ⟨i + 1, j + 1, cur.set i (nth l j), by omega, by go_num, by go_num, ⟨by omega, by rw [List.length_set]; exact CL.out⟩, ?_, ⟨?_, ?_, ?_⟩, KB'.out.setCell i _⟩
          · rw [Ba.heap_setCell_same HH.out, row_set]
          · rw [BT.out, List.length_append, ← HI.out]
            rfl
          · rw [set_take cur i _ (by rw [CL.out]; omega), HT.out, BT.out]
          · intro t h1 h2
            rw [nth_set_ne cur i t _ (by omega)]
            exact HR.out t (by omega) h2
        case measure => simp [intOf]; omega
      · rw [hx] at BT
        simp only [cond_true, List.append_nil] at BT
        go_wp2_with fail
        refine (compact_any _ _).mono ?_
        rw [hx]
        rintro r w2 ⟨rfl, rfl⟩
        go_wp2_with fail
        go_roundw
        case rel => exact ⟨i, j + 1, cur, by omega, rfl, by go_num, ⟨by omega, CL.out⟩, HH.out, ⟨by rw [BT.out]; exact HI.out, by rw [BT.out]; exact HT.out, fun t h1 h2 => HR.out t (by omega) h2⟩, KB'.out⟩
        case measure => simp [intOf]; omega
    · have hjl' : ¬ ((j : Int) < (l.length : Int)) := by omega
      have hil : i < l.length := by omega
      have EB := HT.out
      have EI := HI.out
      rw [show l.take j = l from List.take_of_length_le (by omega)] at EB EI
      have HEB := hide EB
      have HEI := hide EI
      clear EB EI HT HI
      have hcl : ∀ ty, (Builtin.clear_ #[36] ty #[.slice (some ⟨L, i, none⟩) (l.length - i) (l.length - i)]).run Try.prog wr = .ok (.tuple #[]) (wr.setCells L i (List.replicate (l.length - i) (.int .i64 0))) :=
        fun ty => Lib.run_clear_slice wr _ _ ty _ Try.underlying36 zero_int rfl rfl L i _ _ (by omega) (fun t ht => by rw [cell_of HH.out, Array.getElem?_eq_getElem (by rw [row_size, CL.out]; omega)]; rfl) (fun t _ => frozen_of HH.out _)
      have hli : ¬ l.length = i := by omega
      have hin : (i : Int) ≤ (l.length : Int) := by omega
      have hi0 : ((l.length : Int) - (i : Int)) = ((l.length - i : Nat) : Int) := by omega
      have KC := hide (kb_setCells L w1 (List.replicate (l.length - i) (.int .i64 0)) i wr KB'.out)
      have AT : Hid (At (wr.setCells L i (List.replicate (l.length - i) (.int .i64 0))) (some ⟨L, 0, none⟩) (bar l)) := by
        intro t ht
        refine ⟨L, 0, rfl, ?_⟩
        rw [Nat.zero_add, World.cell?_setCells_out L _ i wr ⟨L, t, none⟩ (fun _ _ => .inl (by show t < i; rw [HEI.out]; exact ht)), cell_of HH.out]
        have hti : t < i := by rw [HEI.out]; exact ht
        rw [row_at cur t (by rw [CL.out]; omega), ← HEB.out, nth_take cur i t hti]
      go_wp2_with fail
      go_ret
      exact ⟨by rw [← HEI.out]; rfl, AT.out, KC.out⟩
end Sh
end Go.Proofs.Ytocmdehpbipmlaa
/- Package sheet: Bare, over this seat's program. -/
namespace Go.Proofs.Ytocmdehpbipmlaa
open Go.ChangeShapes Go.WideShapes Go.ChangeAt Go.RowKit
namespace Sh
open De Ba Re

/-- what Bare answers -/
def BRes (w : World) (T M : Int) (ps : List (List OpD)) (pl dr : List Int) (r : Ending) (w' : World) : Prop :=
  ∃ G L D arr, r = .returned (.agg #[.int .i64 T, .int .i64 M, .slice (some ⟨G, 0, none⟩) ps.length ps.length, .slice (some ⟨L, 0, none⟩) (bar pl).length pl.length, .slice (some ⟨D, 0, none⟩) dr.length dr.length]) ∧ (w'.heap[G]? = some (.cells arr 56 (0, 0)) ∧ PF w' (w.heap.size + 1) arr ps ∧ w.heap.size < G) ∧ (At w' (some ⟨L, 0, none⟩) (bar pl) ∧ G < L) ∧ w'.heap[D]? = some (.cells (row dr) 3 (0, 0)) ∧ L < D
theorem sc_frozen {w : World} {B : Nat} {v0 v1 v2 v3 v4 : Value} {t : TypeId} (h : w.heap[B]? = some (.cells #[v0, v1, v2, v3, v4] t (0, 0))) : w.frozen? ⟨B, 0, none⟩ = false ∧ w.frozen? ⟨B, 1, none⟩ = false ∧ w.frozen? ⟨B, 2, none⟩ = false ∧ w.frozen? ⟨B, 3, none⟩ = false ∧ w.frozen? ⟨B, 4, none⟩ = false :=
  ⟨frozen_of h 0, frozen_of h 1, frozen_of h 2, frozen_of h 3, frozen_of h 4⟩
theorem row_only {pl : List Int} {i : Nat} {v : Value} (h : (row pl)[i]? = some v) : ∃ n, v = .int .i64 n := by
  rw [row, List.getElem?_toArray, List.getElem?_map] at h
  cases hx : pl[i]? with
  | none => rw [hx] at h; cases h
  | some n => rw [hx] at h; exact ⟨n, (Option.some.inj h).symm⟩
theorem OF.kb_row {w w' : World} {N g L : Nat} {l : List OpD} {pl : List Int} {t : TypeId} {fr : Nat × Nat} (h : OF w N g l) (k : De.KB L w w') (hL : w.heap[L]? = some (.cells (row pl) t fr)) : OF w' N g l := by
  intro i o hi
  obtain ⟨ca, cc, ⟨q0, q1, q2, q3, q4⟩, hC, hN, h3⟩ := h i o hi
  have hg : g ≠ L := by
    rintro rfl
    rw [cell_of hL] at q3
    obtain ⟨n, e⟩ := row_only q3
    cases e
  refine ⟨ca, cc, ⟨kb_cell k q0 hg, kb_cell k q1 hg, kb_cell k q2 hg, kb_cell k q3 hg, kb_cell k q4 hg⟩, cat_kb' k hC ?_, hN, h3⟩
  intro a e hne hb
  cases hc : o.cases with
  | nil => exact hne hc
  | cons x xs =>
    obtain ⟨b, off, e2, y0, _⟩ := hC 0 x (by rw [hc]; rfl)
    rw [e] at e2
    cases e2
    simp only at hb
    subst hb
    rw [cell_of hL] at y0
    obtain ⟨n, e⟩ := row_only y0
    cases e
theorem PF.kb_row {w w' : World} {N L : Nat} {arr : Array Value} {ps : List (List OpD)} {pl : List Int} {t : TypeId} {fr : Nat × Nat} (h : PF w N arr ps) (k : De.KB L w w') (hL : w.heap[L]? = some (.cells (row pl) t fr)) : PF w' N arr ps := by
  intro i q hi
  obtain ⟨g, c, h1, h2, h3, h4⟩ := h i q hi
  exact ⟨g, c, h1, h2.kb_row k hL, h3, h4⟩
set_option maxRecDepth 100000 in
set_option maxHeartbeats 3200000 in
theorem bare_any (T M : Int) (ps : List (List OpD)) (pl dr : List Int) (pa la da : Option Addr) (pc lc dc : Nat) (w : World) (hS : SAt w ⟨T, M, ps, pl, dr⟩ pa la da) (hm : Small ps pl dr) :
    Calls Try.prog 23 #[.agg #[.int .i64 T, .int .i64 M, .slice pa ps.length pc, .slice la pl.length lc, .slice da dr.length dc]] w fun r w' => BRes w T M ps pl dr r w' ∧ Below w.heap.size w w' := by
  have hp := hm.p
  have HM := hide hm
  have B0 := hide (btr (below_alloc w (.cells #[.int .i64 T, .int .i64 M, .slice pa ps.length pc, .slice la pl.length lc, .slice da dr.length dc] 38)) (below_alloc (w.alloc (.cells #[.int .i64 T, .int .i64 M, .slice pa ps.length pc, .slice la pl.length lc, .slice da dr.length dc] 38)) (.cells #[.int .i64 0, .int .i64 0, .slice none 0 0, .slice none 0 0, .slice none 0 0] 38)))
  have X0 := hide (heap_below (heap_new w (.cells #[.int .i64 T, .int .i64 M, .slice pa ps.length pc, .slice la pl.length lc, .slice da dr.length dc] 38)) (below_alloc (w.alloc (.cells #[.int .i64 T, .int .i64 M, .slice pa ps.length pc, .slice la pl.length lc, .slice da dr.length dc] 38)) (.cells #[.int .i64 0, .int .i64 0, .slice none 0 0, .slice none 0 0, .slice none 0 0] 38)))
  have Z0 : Hid (((w.alloc (.cells #[.int .i64 T, .int .i64 M, .slice pa ps.length pc, .slice la pl.length lc, .slice da dr.length dc] 38)).alloc (.cells #[.int .i64 0, .int .i64 0, .slice none 0 0, .slice none 0 0, .slice none 0 0] 38)).heap[w.heap.size + 1]? = some (.cells #[.int .i64 0, .int .i64 0, .slice none 0 0, .slice none 0 0, .slice none 0 0] 38 (0, 0))) := by
    have := heap_new (w.alloc (.cells #[.int .i64 T, .int .i64 M, .slice pa ps.length pc, .slice la pl.length lc, .slice da dr.length dc] 38)) (.cells #[.int .i64 0, .int .i64 0, .slice none 0 0, .slice none 0 0, .slice none 0 0] 38)
    rw [World.size_alloc] at this
    exact this
  have s0 : ((w.alloc (.cells #[.int .i64 T, .int .i64 M, .slice pa ps.length pc, .slice la pl.length lc, .slice da dr.length dc] 38)).alloc (.cells #[.int .i64 0, .int .i64 0, .slice none 0 0, .slice none 0 0, .slice none 0 0] 38)).heap.size = w.heap.size + 1 + 1 := by rw [World.size_alloc, World.size_alloc]
  have HS0 := hide s0
  have S0 := hide (hS.below B0.out)
  obtain ⟨x0, x1, x2, x3, x4⟩ := sc_cells X0.out
  clear hS hm s0
  go_enter Try.func23, Try.ntmps23
  go_wp2_with fail
  generalize (w.alloc (.cells #[.int .i64 T, .int .i64 M, .slice pa ps.length pc, .slice la pl.length lc, .slice da dr.length dc] 38)).alloc (.cells #[.int .i64 0, .int .i64 0, .slice none 0 0, .slice none 0 0, .slice none 0 0] 38) = W0 at B0 X0 Z0 HS0 S0 x0 x1 x2 x3 x4 ⊢
  refine (copy_any T M ps pl dr pa la da pc lc dc _ S0.out HM.out).mono ?_
  rintro r w1 ⟨⟨G, L, D, arr, rfl, ⟨g1, p1, n1⟩, ⟨l1, n2⟩, d1, n3⟩, b1⟩
  rw [HS0.out] at n1 p1
  have X1 := hide (heap_below X0.out b1)
  have Z1 := hide (heap_below Z0.out b1)
  have B1 := hide (btr B0.out b1)
  obtain ⟨y0, y1, y2, y3, y4⟩ := sc_cells X1.out
  obtain ⟨f0, f1, f2, f3, f4⟩ := sc_frozen X1.out
  have KB1 := (((((De.KB.refl w.heap.size w1).setCell 0 (.int .i64 T)).setCell 1 (.int .i64 M)).setCell 2 (.slice (some ⟨G, 0, none⟩) ps.length ps.length)).setCell 3 (.slice (some ⟨L, 0, none⟩) pl.length pl.length)).setCell 4 (.slice (some ⟨D, 0, none⟩) dr.length dr.length)
  have X2 := hide (five_set X1.out (.int .i64 T) (.int .i64 M) (.slice (some ⟨G, 0, none⟩) ps.length ps.length) (.slice (some ⟨L, 0, none⟩) pl.length pl.length) (.slice (some ⟨D, 0, none⟩) dr.length dr.length))
  have Z2 := hide (KB1.heap Z1.out (by omega))
  have G2 := hide (KB1.heap g1 (by omega))
  have L2 := hide (KB1.heap l1 (by omega))
  have D2 := hide (KB1.heap d1 (by omega))
  have P2 := hide (p1.kb KB1 (by omega))
  have B2 := hide (De.KB.below B1.out KB1 (Nat.le_refl _))
  clear g1 p1 l1 d1 b1 KB1 x0 x1 x2 x3 x4
  go_wp2_with fail
  generalize ((((w1.setCell ⟨w.heap.size, 0, none⟩ (.int .i64 T)).setCell ⟨w.heap.size, 1, none⟩ (.int .i64 M)).setCell ⟨w.heap.size, 2, none⟩ (.slice (some ⟨G, 0, none⟩) ps.length ps.length)).setCell ⟨w.heap.size, 3, none⟩ (.slice (some ⟨L, 0, none⟩) pl.length pl.length)).setCell ⟨w.heap.size, 4, none⟩ (.slice (some ⟨D, 0, none⟩) dr.length dr.length) = W2 at X2 Z2 G2 L2 D2 P2 B2 ⊢
  clear y0 y1 y2 y3 y4 f0 f1 f2 f3 f4 X0 Z0 B0 X1 Z1 B1 S0
  refine (delete_any L pl _ L2.out (by omega)).mono ?_
  rintro r w3 ⟨rfl, a3, k3⟩
  have X3 := hide (k3.heap X2.out (by omega))
  have Z3 := hide (k3.heap Z2.out (by omega))
  have G3 := hide (k3.heap G2.out (by omega))
  have D3 := hide (k3.heap D2.out (by omega))
  have P3 := hide (P2.out.kb_row k3 L2.out)
  have B3 := hide (De.KB.below B2.out k3 (by omega))
  have A3 := hide a3
  obtain ⟨y0, y1, y2, y3, y4⟩ := sc_cells X3.out
  have f3 := frozen_of X3.out 3
  have K4 := (De.KB.refl w.heap.size w3).setCell 3 (.slice (some ⟨L, 0, none⟩) (bar pl).length pl.length)
  have X4 : Hid ((w3.setCell ⟨w.heap.size, 3, none⟩ (.slice (some ⟨L, 0, none⟩) (bar pl).length pl.length)).heap[w.heap.size]? = some (.cells #[.int .i64 T, .int .i64 M, (.slice (some ⟨G, 0, none⟩) ps.length ps.length), .slice (some ⟨L, 0, none⟩) (bar pl).length pl.length, (.slice (some ⟨D, 0, none⟩) dr.length dr.length)] 38 (0, 0))) := Ba.heap_setCell_same X3.out (i := 3) _
  have Z4 := hide (K4.heap Z3.out (by omega))
  have G4 := hide (K4.heap G3.out (by omega))
  have D4 := hide (K4.heap D3.out (by omega))
  have P4 := hide (P3.out.kb K4 (by omega))
  have B4 := hide (De.KB.below B3.out K4 (Nat.le_refl _))
  have A4 := hide (kb_at K4 A3.out (fun a e => by cases e; show L ≠ w.heap.size; omega))
  obtain ⟨u0, u1, u2, u3, u4⟩ := sc_cells X4.out
  obtain ⟨r0, r1, r2, r3, r4⟩ := sc_cells Z4.out
  obtain ⟨q0, q1, q2, q3, q4⟩ := sc_frozen Z4.out
  clear a3 k3 K4
  go_wp2_with fail
  have KZ := fun (u0 u1 u2 u3 u4 : Value) => (((((De.KB.refl (w.heap.size + 1) (w3.setCell ⟨w.heap.size, 3, none⟩ (.slice (some ⟨L, 0, none⟩) (bar pl).length pl.length))).setCell 0 u0).setCell 1 u1).setCell 2 u2).setCell 3 u3).setCell 4 u4
  exact bodyPost_ret (results_row1 Try.results23 _ _ _ _ rfl (loadVar_sc (five_set Z4.out _ _ _ _ _) rfl)) rfl ⟨⟨G, L, D, arr, rfl, ⟨(KZ _ _ _ _ _).heap G4.out (by omega), (P4.out.kb (KZ _ _ _ _ _) (by omega)).mono (by omega), by omega⟩, ⟨kb_at (KZ _ _ _ _ _) A4.out (fun a e => by cases e; show L ≠ w.heap.size + 1; omega), n2⟩, (KZ _ _ _ _ _).heap D4.out (by omega), n3⟩, De.KB.below B4.out (KZ _ _ _ _ _) (by omega)⟩
end Sh
end Go.Proofs.Ytocmdehpbipmlaa
/- The laws' own Script, over this seat's program. -/
namespace Go.Proofs.Ytocmdehpbipmlaa
open Go.ChangeShapes Go.WideShapes Go.ChangeAt Go.RowKit
namespace Sh
open De Ba Re

/-- a bool that says whether p -/
def SR (p : Prop) (r : Ending) : Prop := ∃ b, r = .returned (.bool b) ∧ (b = true ↔ p)
theorem mem_ops {w : World} {oa : Option Addr} {l : List OpD} (h : OAt w oa l) {k : Nat} {o : OpD} (hk : l[k]? = some o) : ∃ b off ca cc, oa = some ⟨b, off, none⟩ ∧ (w.cell? ⟨b, off + k * 5, none⟩ = some (.int .i64 o.kind) ∧ w.cell? ⟨b, off + k * 5 + 1, none⟩ = some (.int .i64 o.a) ∧ w.cell? ⟨b, off + k * 5 + 2, none⟩ = some (.int .i64 o.b) ∧ w.cell? ⟨b, off + k * 5 + 3, none⟩ = some (.slice ca o.cases.length cc) ∧ w.cell? ⟨b, off + k * 5 + 4, none⟩ = some (.bool o.def_)) ∧ CAt w ca o.cases ∧ o.cases.length ≤ maxLen := h k o hk

set_option maxRecDepth 100000 in
set_option maxHeartbeats 6400000 in
theorem script_loop (T M : Int) (ps1 ps2 : List (List OpD)) (pl dr : List Int) (pa1 la1 da1 pa2 la2 da2 : Option Addr) (pc1 lc1 dc1 pc2 lc2 dc2 : Nat) (w : World) (hS1 : SAt w ⟨T, M, ps1, pl, dr⟩ pa1 la1 da1) (hS2 : SAt w ⟨T, M, ps2, pl, dr⟩ pa2 la2 da2) (hn : ps1.length = ps2.length) (h1 : Small ps1 pl dr) (h2 : ∀ q ∈ ps2, ∀ o ∈ q, o.cases.length ≤ 3000) :
    Calls Try.prog 21 #[.agg #[.int .i64 T, .int .i64 M, .slice pa1 ps1.length pc1, .slice la1 pl.length lc1, .slice da1 dr.length dc1], .agg #[.int .i64 T, .int .i64 M, .slice pa2 ps1.length pc2, .slice la2 pl.length lc2, .slice da2 dr.length dc2]] w fun r w' => SR (ps1 = ps2) r ∧ Below w.heap.size w w' := by
  have B0 := hide (btr (below_alloc w (.cells #[.int .i64 T, .int .i64 M, .slice pa1 ps1.length pc1, .slice la1 pl.length lc1, .slice da1 dr.length dc1] 38)) (below_alloc (w.alloc (.cells #[.int .i64 T, .int .i64 M, .slice pa1 ps1.length pc1, .slice la1 pl.length lc1, .slice da1 dr.length dc1] 38)) (.cells #[.int .i64 T, .int .i64 M, .slice pa2 ps1.length pc2, .slice la2 pl.length lc2, .slice da2 dr.length dc2] 38)))
  have X1 := hide (heap_below (heap_new w (.cells #[.int .i64 T, .int .i64 M, .slice pa1 ps1.length pc1, .slice la1 pl.length lc1, .slice da1 dr.length dc1] 38)) (below_alloc (w.alloc (.cells #[.int .i64 T, .int .i64 M, .slice pa1 ps1.length pc1, .slice la1 pl.length lc1, .slice da1 dr.length dc1] 38)) (.cells #[.int .i64 T, .int .i64 M, .slice pa2 ps1.length pc2, .slice la2 pl.length lc2, .slice da2 dr.length dc2] 38)))
  have X2 : Hid (((w.alloc (.cells #[.int .i64 T, .int .i64 M, .slice pa1 ps1.length pc1, .slice la1 pl.length lc1, .slice da1 dr.length dc1] 38)).alloc (.cells #[.int .i64 T, .int .i64 M, .slice pa2 ps1.length pc2, .slice la2 pl.length lc2, .slice da2 dr.length dc2] 38)).heap[w.heap.size + 1]? = some (.cells #[.int .i64 T, .int .i64 M, .slice pa2 ps1.length pc2, .slice la2 pl.length lc2, .slice da2 dr.length dc2] 38 (0, 0))) := by
    have := heap_new (w.alloc (.cells #[.int .i64 T, .int .i64 M, .slice pa1 ps1.length pc1, .slice la1 pl.length lc1, .slice da1 dr.length dc1] 38)) (.cells #[.int .i64 T, .int .i64 M, .slice pa2 ps1.length pc2, .slice la2 pl.length lc2, .slice da2 dr.length dc2] 38)
    rw [World.size_alloc] at this
    exact this
  have p1 := h1.p
  have d1 := h1.d
  have n1 := h1.n
  have Q1 := hide h1.q
  have C1 := hide h1.c
  have C2 := hide h2
  have HN := hide hn
  have S1 := hide (hS1.below B0.out)
  have S2 := hide (hS2.below B0.out)
  clear hS1 hS2 h1 h2 hn
  go_enter Try.func21, Try.ntmps21
  go_wp2_with fail
  generalize (w.alloc (.cells #[.int .i64 T, .int .i64 M, .slice pa1 ps1.length pc1, .slice la1 pl.length lc1, .slice da1 dr.length dc1] 38)).alloc (.cells #[.int .i64 T, .int .i64 M, .slice pa2 ps1.length pc2, .slice la2 pl.length lc2, .slice da2 dr.length dc2] 38) = W at B0 X1 X2 S1 S2 ⊢
  refine (ints_is la1 la2 pl pl _ _ lc1 lc2 true (by simp) rfl rfl _ S1.out.pl S2.out.pl (by omega) (by omega)).mono ?_
  rintro r w3 ⟨rfl, b3⟩
  have B3 := hide b3
  obtain ⟨x0, x1, x2, x3, x4⟩ := sc_cells (heap_below X1.out b3)
  obtain ⟨y0, y1, y2, y3, y4⟩ := sc_cells (heap_below X2.out b3)
  have D1 := hide (S1.out.dr.below b3)
  have D2 := hide (S2.out.dr.below b3)
  clear b3
  go_wp2_with fail
  refine (ints_is da1 da2 dr dr _ _ dc1 dc2 true (by simp) rfl rfl _ D1.out D2.out (by omega) (by omega)).mono ?_
  rintro r w4 ⟨rfl, b4⟩
  have B4 := hide (btr B3.out b4)
  obtain ⟨x0, x1, x2, x3, x4⟩ := sc_cells (heap_below X1.out B4.out)
  obtain ⟨y0, y1, y2, y3, y4⟩ := sc_cells (heap_below X2.out B4.out)
  clear b4 B3 D1 D2
  go_wp2_with fail
  go_loopw [47] (fun i wr => ∃ k : Nat, k ≤ ps1.length ∧ i = .int .i64 k ∧ (∀ t, t < k → ps1[t]? = ps2[t]?) ∧ Below W.heap.size W wr) (fun i _ => ps1.length - (intOf i).toNat)
  case atStart => exact ⟨0, Nat.zero_le _, rfl, fun t ht => absurd ht (Nat.not_lt_zero _), B4.out⟩
  case round =>
    clear x0 x1 x2 x3 x4 y0 y1 y2 y3 y4 B4
    rename World => w5
    obtain ⟨k, hk, rfl, hall, b5⟩ := hrel
    have HE := hide hall
    have B5 := hide b5
    obtain ⟨-, -, x2, -, -⟩ := sc_cells (heap_below X1.out b5)
    obtain ⟨-, -, y2, -, -⟩ := sc_cells (heap_below X2.out b5)
    clear hall b5
    by_cases hlt : k < ps1.length
    · have hlt' : (k : Int) < (ps1.length : Int) := by omega
      obtain ⟨q1, hq1⟩ : ∃ q, ps1[k]? = some q := ⟨ps1[k], by simp [hlt]⟩
      obtain ⟨q2, hq2⟩ : ∃ q, ps2[k]? = some q := ⟨ps2[k]'(by have := HN.out; omega), by simp⟩
      obtain ⟨b1, o1, qa1, qc1, e1, c1, hO1, m1⟩ := (S1.out.below B5.out).ps k q1 hq1
      obtain ⟨b2, o2, qa2, qc2, e2, c2, hO2, m2⟩ := (S2.out.below B5.out).ps k q2 hq2
      subst e1 e2
      have m1q := List.mem_of_getElem? hq1
      have m2q := List.mem_of_getElem? hq2
      have l1 := Q1.out q1 m1q
      have CC1 := hide (C1.out q1 m1q)
      have CC2 := hide (C2.out q2 m2q)
      have HQ1 := hide hq1
      have HQ2 := hide hq2
      have O1 := hide hO1
      have O2 := hide hO2
      unfold maxLen at m1 m2
      clear hq1 hq2 hO1 hO2 m1q m2q
      by_cases hll : q1.length = q2.length
      · have hll' : ((q1.length : Int) != (q2.length : Int)) = false := by simp; omega
        have HLL := hide hll
        clear hll
        go_wp2_with fail
        go_quiet (fail)
        go_wp2_with fail
        go_loopw [69] (fun i wr => ∃ j : Nat, j ≤ q1.length ∧ i = .int .i64 j ∧ (∀ t, t < j → q1[t]? = q2[t]?) ∧ Below w5.heap.size w5 wr) (fun i _ => q1.length - (intOf i).toNat)
        case atStart => exact ⟨0, Nat.zero_le _, rfl, fun t ht => absurd ht (Nat.not_lt_zero _), bdrew _ _⟩
        case round =>
          obtain ⟨j, hj, rfl, hal2, b6⟩ := hrel
          have HF := hide hal2
          have B6 := hide b6
          clear hal2 b6
          by_cases hjl : j < q1.length
          · have hjl' : (j : Int) < (q1.length : Int) := by omega
            have hjl2 : (j : Int) < (q2.length : Int) := by have := HLL.out; omega
            obtain ⟨p, hp⟩ : ∃ p, q1[j]? = some p := ⟨q1[j], by simp [hjl]⟩
            obtain ⟨p', hp'⟩ : ∃ p, q2[j]? = some p := ⟨q2[j]'(by have := HLL.out; omega), by simp⟩
            obtain ⟨d1', f1', ca1, cc1, g1, ⟨u0, u1, u2, u3, u4⟩, hC1, -⟩ := (O1.out.below B6.out) j p hp
            obtain ⟨d2', f2', ca2, cc2, g2, ⟨v0, v1, v2, v3, v4⟩, hC2, -⟩ := (O2.out.below B6.out) j p' hp'
            subst g1 g2
            have k1 := CC1.out p (List.mem_of_getElem? hp)
            have k2 := CC2.out p' (List.mem_of_getElem? hp')
            have HP1 := hide hp
            have HP2 := hide hp'
            have HC1 := hide hC1
            have HC2 := hide hC2
            have z1 := cellB x2 B6.out
            have z2 := cellB y2 B6.out
            have z3 := cellB c1 B6.out
            have z4 := cellB c2 B6.out
            clear hp hp' hC1 hC2
            go_wp2_with fail
            go_region_held3 (fun w' => w'.cell? ⟨w.heap.size, 2, none⟩ = some (.slice (some ⟨b1, o1, none⟩) ps1.length pc1) ∧ w'.cell? ⟨w.heap.size + 1, 2, none⟩ = some (.slice (some ⟨b2, o2, none⟩) ps1.length pc2) ∧ w'.cell? ⟨b1, o1 + k, none⟩ = some (.slice (some ⟨d1', f1', none⟩) q1.length qc1) ∧ w'.cell? ⟨b2, o2 + k, none⟩ = some (.slice (some ⟨d2', f2', none⟩) q2.length qc2) ∧ w'.cell? ⟨d1', f1' + j * 5, none⟩ = some (.int .i64 p.kind) ∧ w'.cell? ⟨d1', f1' + j * 5 + 1, none⟩ = some (.int .i64 p.a) ∧ w'.cell? ⟨d1', f1' + j * 5 + 2, none⟩ = some (.int .i64 p.b) ∧ w'.cell? ⟨d1', f1' + j * 5 + 3, none⟩ = some (.slice ca1 p.cases.length cc1) ∧ w'.cell? ⟨d1', f1' + j * 5 + 4, none⟩ = some (.bool p.def_) ∧ w'.cell? ⟨d2', f2' + j * 5, none⟩ = some (.int .i64 p'.kind) ∧ w'.cell? ⟨d2', f2' + j * 5 + 1, none⟩ = some (.int .i64 p'.a) ∧ w'.cell? ⟨d2', f2' + j * 5 + 2, none⟩ = some (.int .i64 p'.b) ∧ w'.cell? ⟨d2', f2' + j * 5 + 3, none⟩ = some (.slice ca2 p'.cases.length cc2) ∧ w'.cell? ⟨d2', f2' + j * 5 + 4, none⟩ = some (.bool p'.def_))
              (first
                | go_keep
                | (go_split_ands
                   refine ⟨?_, ?_, ?_, ?_, ?_, ?_, ?_, ?_, ?_, ?_, ?_, ?_, ?_, ?_⟩ <;> (refine cellB ?_ b7; assumption)))
              ((go_at_call 11; refine (plain_big p p' ca1 ca2 cc1 cc2 _ (HC1.out.below (bdrew1 _)) (HC2.out.below (bdrew1 _)) (by omega) (by omega)).mono ?_; rintro r w7 ⟨⟨x, rfl, hx⟩, b7⟩))
            have B7 := hide (btr B6.out (btr (bdrew1 wr) b7))
            have HX := hide hx
            clear hx
            cases x
            · have NE : Hid (ps1 ≠ ps2) := by
                intro e
                have h := HQ1.out
                rw [e, HQ2.out] at h
                cases h
                have h2 := HP1.out
                rw [HP2.out] at h2
                cases h2
                exact absurd (HX.out.2 rfl) (by decide)
              go_wp2_with fail
              go_ret
              exact ⟨⟨false, rfl, by simp; exact NE.out⟩, btr B0.out (btr B5.out B7.out)⟩
            · have EQ := hide (HX.out.1 rfl)
              go_wp2_with fail
              go_roundw
              case rel => exact ⟨j + 1, by omega, by go_num, fun t ht => by
                by_cases e : t = j
                · subst e; rw [HP1.out, HP2.out, EQ.out]
                · exact HF.out t (by omega), B7.out⟩
              case measure => simp [intOf]; omega
          · have hjl' : ¬ ((j : Int) < (q1.length : Int)) := by omega
            have HQ : Hid (q1 = q2) := List.ext_getElem? fun t => by
              by_cases ht : t < j
              · exact HF.out t ht
              · have := HLL.out
                rw [List.getElem?_eq_none (by omega), List.getElem?_eq_none (by omega)]
            go_wp2_with fail
            go_roundw
            case rel => exact ⟨k + 1, by omega, by go_num, fun t ht => by
              by_cases e : t = k
              · subst e; rw [HQ1.out, HQ2.out, HQ.out]
              · exact HE.out t (by omega), btr B5.out B6.out⟩
            case measure => simp [intOf]; omega
      · have hll' : ((q1.length : Int) != (q2.length : Int)) = true := by simp; omega
        have NE : Hid (ps1 ≠ ps2) := by
          intro e
          have h := HQ1.out
          rw [e, HQ2.out] at h
          cases h
          exact hll rfl
        clear hll
        go_wp2_with fail
        go_quiet (fail)
        go_wp2_with fail
        go_ret
        exact ⟨⟨false, rfl, by simp; exact NE.out⟩, btr B0.out (btr B5.out (bdrew _ _))⟩
    · have hlt' : ¬ ((k : Int) < (ps1.length : Int)) := by omega
      have EQ : Hid (ps1 = ps2) := List.ext_getElem? fun t => by
        by_cases ht : t < k
        · exact HE.out t ht
        · have := HN.out
          rw [List.getElem?_eq_none (by omega), List.getElem?_eq_none (by omega)]
      go_wp2_with fail
      go_ret
      exact ⟨⟨true, rfl, by simp; exact EQ.out⟩, btr B0.out B5.out⟩
set_option maxRecDepth 100000 in
set_option maxHeartbeats 3200000 in
theorem script_any (T1 M1 : Int) (ps1 : List (List OpD)) (pl1 dr1 : List Int) (T2 M2 : Int) (ps2 : List (List OpD)) (pl2 dr2 : List Int) (pa1 la1 da1 pa2 la2 da2 : Option Addr) (pc1 lc1 dc1 pc2 lc2 dc2 : Nat) (w : World) (hS1 : SAt w ⟨T1, M1, ps1, pl1, dr1⟩ pa1 la1 da1) (hS2 : SAt w ⟨T2, M2, ps2, pl2, dr2⟩ pa2 la2 da2) (h1 : Small ps1 pl1 dr1) (h2 : Small ps2 pl2 dr2) :
    Calls Try.prog 21 #[.agg #[.int .i64 T1, .int .i64 M1, .slice pa1 ps1.length pc1, .slice la1 pl1.length lc1, .slice da1 dr1.length dc1], .agg #[.int .i64 T2, .int .i64 M2, .slice pa2 ps2.length pc2, .slice la2 pl2.length lc2, .slice da2 dr2.length dc2]] w fun r w' => SR ((⟨T1, M1, ps1, pl1, dr1⟩ : Sc) = ⟨T2, M2, ps2, pl2, dr2⟩) r ∧ Below w.heap.size w w' := by
  have B0 := hide (btr (below_alloc w (.cells #[.int .i64 T1, .int .i64 M1, .slice pa1 ps1.length pc1, .slice la1 pl1.length lc1, .slice da1 dr1.length dc1] 38)) (below_alloc (w.alloc (.cells #[.int .i64 T1, .int .i64 M1, .slice pa1 ps1.length pc1, .slice la1 pl1.length lc1, .slice da1 dr1.length dc1] 38)) (.cells #[.int .i64 T2, .int .i64 M2, .slice pa2 ps2.length pc2, .slice la2 pl2.length lc2, .slice da2 dr2.length dc2] 38)))
  have X1 := hide (heap_below (heap_new w (.cells #[.int .i64 T1, .int .i64 M1, .slice pa1 ps1.length pc1, .slice la1 pl1.length lc1, .slice da1 dr1.length dc1] 38)) (below_alloc (w.alloc (.cells #[.int .i64 T1, .int .i64 M1, .slice pa1 ps1.length pc1, .slice la1 pl1.length lc1, .slice da1 dr1.length dc1] 38)) (.cells #[.int .i64 T2, .int .i64 M2, .slice pa2 ps2.length pc2, .slice la2 pl2.length lc2, .slice da2 dr2.length dc2] 38)))
  have X2 : Hid (((w.alloc (.cells #[.int .i64 T1, .int .i64 M1, .slice pa1 ps1.length pc1, .slice la1 pl1.length lc1, .slice da1 dr1.length dc1] 38)).alloc (.cells #[.int .i64 T2, .int .i64 M2, .slice pa2 ps2.length pc2, .slice la2 pl2.length lc2, .slice da2 dr2.length dc2] 38)).heap[w.heap.size + 1]? = some (.cells #[.int .i64 T2, .int .i64 M2, .slice pa2 ps2.length pc2, .slice la2 pl2.length lc2, .slice da2 dr2.length dc2] 38 (0, 0))) := by
    have := heap_new (w.alloc (.cells #[.int .i64 T1, .int .i64 M1, .slice pa1 ps1.length pc1, .slice la1 pl1.length lc1, .slice da1 dr1.length dc1] 38)) (.cells #[.int .i64 T2, .int .i64 M2, .slice pa2 ps2.length pc2, .slice la2 pl2.length lc2, .slice da2 dr2.length dc2] 38)
    rw [World.size_alloc] at this
    exact this
  have p1 := h1.p
  have p2 := h2.p
  have d1 := h1.d
  have d2 := h2.d
  have n1 := h1.n
  have n2 := h2.n
  have S1 := hide (hS1.below B0.out)
  have S2 := hide (hS2.below B0.out)
  by_cases hT : T1 = T2
  rotate_left
  · have hT' : (T1 != T2) = true := by simpa using hT
    have HT := hide hT
    clear hT hS1 hS2
    go_enter Try.func21, Try.ntmps21
    go_wp2_with fail
    go_ret
    exact ⟨⟨false, rfl, by simp; intro e; exact absurd e HT.out⟩, B0.out⟩
  have hT' : (T1 != T2) = false := by simpa using hT
  by_cases hM : M1 = M2
  rotate_left
  · have hM' : (M1 != M2) = true := by simpa using hM
    have HT := hide hM
    clear hM hT hS1 hS2
    go_enter Try.func21, Try.ntmps21
    go_wp2_with fail
    go_ret
    exact ⟨⟨false, rfl, by simp; intro _ e; exact absurd e HT.out⟩, B0.out⟩
  have hM' : (M1 != M2) = false := by simpa using hM
  by_cases hN : ps1.length = ps2.length
  rotate_left
  · have hN' : ((ps1.length : Int) != (ps2.length : Int)) = true := by simp; omega
    have HT : Hid (ps1 ≠ ps2) := fun e => hN (by rw [e])
    clear hM hT hN hS1 hS2
    go_enter Try.func21, Try.ntmps21
    go_wp2_with fail
    go_ret
    exact ⟨⟨false, rfl, by simp; intro _ _ e; exact absurd e HT.out⟩, B0.out⟩
  have hN' : ((ps1.length : Int) != (ps2.length : Int)) = false := by simp; omega
  by_cases hP : pl1 = pl2
  rotate_left
  · have HT := hide hP
    clear hM hT hN hP hS1 hS2
    go_enter Try.func21, Try.ntmps21
    go_wp2_with fail
    refine (ints_is la1 la2 pl1 pl2 _ _ lc1 lc2 false (by simpa using HT.out) rfl rfl _ S1.out.pl S2.out.pl (by omega) (by omega)).mono ?_
    rintro r w3 ⟨rfl, b3⟩
    have B3 := hide (btr B0.out b3)
    clear b3
    go_wp2_with fail
    go_ret
    exact ⟨⟨false, rfl, by simp; intro _ _ _ e; exact absurd e HT.out⟩, B3.out⟩
  by_cases hD : dr1 = dr2
  rotate_left
  · have HT := hide hD
    have HP := hide hP
    clear hM hT hN hP hD hS1 hS2
    go_enter Try.func21, Try.ntmps21
    go_wp2_with fail
    refine (ints_is la1 la2 pl1 pl2 _ _ lc1 lc2 true (by simpa using HP.out) rfl rfl _ S1.out.pl S2.out.pl (by omega) (by omega)).mono ?_
    rintro r w3 ⟨rfl, b3⟩
    have B3 := hide (btr B0.out b3)
    obtain ⟨x0, x1, x2, x3, x4⟩ := sc_cells (heap_below X1.out b3)
    obtain ⟨y0, y1, y2, y3, y4⟩ := sc_cells (heap_below X2.out b3)
    have D1 := hide (S1.out.dr.below b3)
    have D2 := hide (S2.out.dr.below b3)
    clear b3
    go_wp2_with fail
    refine (ints_is da1 da2 dr1 dr2 _ _ dc1 dc2 false (by simpa using HT.out) rfl rfl _ D1.out D2.out (by omega) (by omega)).mono ?_
    rintro r w4 ⟨rfl, b4⟩
    have B4 := hide (btr B3.out b4)
    clear b4
    go_wp2_with fail
    go_ret
    exact ⟨⟨false, rfl, by simp; intro _ _ _ _ e; exact absurd e HT.out⟩, B4.out⟩
  subst hT hM hP hD
  clear S1 S2 X1 X2 B0 hT' hM' hN'
  have := script_loop T1 M1 ps1 ps2 pl1 dr1 pa1 la1 da1 pa2 la2 da2 pc1 lc1 dc1 pc2 lc2 dc2 w hS1 hS2 hN h1 h2.c
  rw [hN] at this
  rw [hN]
  refine this.mono ?_
  rintro r w' ⟨⟨b, h1, h2⟩, h3⟩
  exact ⟨⟨b, h1, by rw [h2]; simp⟩, h3⟩
end Sh
end Go.Proofs.Ytocmdehpbipmlaa
/- The laws' own large(), over this seat's program. -/
namespace Go.Proofs.Ytocmdehpbipmlaa
open Go.ChangeShapes Go.WideShapes Go.ChangeAt Go.RowKit
namespace Sh
open De Ba Re

/-- what large answers: if it is not, all is small -/
def LR (ps : List (List OpD)) (pl dr : List Int) (r : Ending) : Prop := ∃ b, r = .returned (.bool b) ∧ (b = false → Small ps pl dr)
/-- no operation holds more cases than memory has room for -/
def Held (ps : List (List OpD)) : Prop := ∀ q ∈ ps, ∀ o ∈ q, o.cases.length ≤ 140737488355328
set_option maxRecDepth 100000 in
set_option maxHeartbeats 3200000 in
theorem large_any (T M : Int) (ps : List (List OpD)) (pl dr : List Int) (pa la da : Option Addr) (pc lc dc : Nat) (w : World) (hS : SAt w ⟨T, M, ps, pl, dr⟩ pa la da) (hB : Held ps) :
    Calls Try.prog 13 #[.agg #[.int .i64 T, .int .i64 M, .slice pa ps.length pc, .slice la pl.length lc, .slice da dr.length dc]] w fun r w' => LR ps pl dr r ∧ Below w.heap.size w w' := by
  have S0 := hide (hS.below (below_alloc w (.cells #[.int .i64 T, .int .i64 M, .slice pa ps.length pc, .slice la pl.length lc, .slice da dr.length dc] 38)))
  have B0 := hide (below_alloc w (.cells #[.int .i64 T, .int .i64 M, .slice pa ps.length pc, .slice la pl.length lc, .slice da dr.length dc] 38))
  have X0 := hide (heap_new w (.cells #[.int .i64 T, .int .i64 M, .slice pa ps.length pc, .slice la pl.length lc, .slice da dr.length dc] 38))
  have h1 := hS.h1
  have h2 := hS.h2
  have h3 := hS.h3
  unfold maxLen at h1 h2 h3
  simp only at h1 h2 h3
  have HB := hide hB
  clear hS hB
  by_cases n1 : 20 < ps.length
  · have g1 : decide (20 < (ps.length : Int)) = true := by simp; omega
    go_enter Try.func13, Try.ntmps13
    go_wp2_with fail
    go_ret
    exact ⟨⟨true, rfl, fun e => by cases e⟩, B0.out⟩
  have g1 : decide (20 < (ps.length : Int)) = false := by simp; omega
  by_cases n2 : 1000 < pl.length
  · have g2 : decide (1000 < (pl.length : Int)) = true := by simp; omega
    go_enter Try.func13, Try.ntmps13
    go_wp2_with fail
    go_ret
    exact ⟨⟨true, rfl, fun e => by cases e⟩, B0.out⟩
  have g2 : decide (1000 < (pl.length : Int)) = false := by simp; omega
  by_cases n3 : 1000 < dr.length
  · have g3 : decide (1000 < (dr.length : Int)) = true := by simp; omega
    go_enter Try.func13, Try.ntmps13
    go_wp2_with fail
    go_ret
    exact ⟨⟨true, rfl, fun e => by cases e⟩, B0.out⟩
  have g3 : decide (1000 < (dr.length : Int)) = false := by simp; omega
  go_enter Try.func13, Try.ntmps13
  go_wp2_with fail
  generalize w.alloc (.cells #[.int .i64 T, .int .i64 M, .slice pa ps.length pc, .slice la pl.length lc, .slice da dr.length dc] 38) = W at S0 B0 X0 ⊢
  obtain ⟨x0, x1, x2, x3, x4⟩ := sc_cells X0.out
  go_loopw [27, 3] (fun i a wr => ∃ (k n : Nat), k ≤ ps.length ∧ i = .int .i64 k ∧ a = .int .i64 n ∧ n ≤ 3000 ∧ (∀ (t : Nat) (q : List OpD), t < k → ps[t]? = some q → q.length ≤ 100 ∧ ∀ o ∈ q, o.cases.length ≤ 3000) ∧ Below W.heap.size W wr) (fun i _ _ => ps.length - (intOf i).toNat)
  case atStart => exact ⟨0, 0, Nat.zero_le _, rfl, rfl, by decide, fun t q ht => absurd ht (Nat.not_lt_zero _), Below.refl _ _⟩
  case round =>
    rename World => w5
    obtain ⟨k, n, hk, rfl, rfl, hn, hall, b5⟩ := hrel
    have HE := hide hall
    have B5 := hide b5
    clear hall b5
    by_cases hlt : k < ps.length
    · have hlt' : (k : Int) < (ps.length : Int) := by omega
      obtain ⟨q, hq⟩ : ∃ q, ps[k]? = some q := ⟨ps[k], by simp [hlt]⟩
      obtain ⟨b, off, qa, qc, e1, c1, hO, m1⟩ := (S0.out.below B5.out).ps k q hq
      subst e1
      have HQ := hide hq
      have HO := hide hO
      unfold maxLen at m1
      clear hq hO
      by_cases hl : 100 < q.length
      · have hl' : decide (100 < (q.length : Int)) = true := by simp; omega
        go_wp2_with fail
        go_ret
        exact ⟨⟨true, rfl, fun e => by cases e⟩, btr B0.out B5.out⟩
      · have hl' : decide (100 < (q.length : Int)) = false := by simp; omega
        go_wp2_with fail
        go_loopw [36, 3] (fun i a wr => ∃ (j m : Nat), j ≤ q.length ∧ i = .int .i64 j ∧ a = .int .i64 m ∧ m ≤ 3000 ∧ (∀ (t : Nat) (o : OpD), t < j → q[t]? = some o → o.cases.length ≤ 3000) ∧ Below w5.heap.size w5 wr) (fun i _ _ => q.length - (intOf i).toNat)
        case atStart => exact ⟨0, n, Nat.zero_le _, rfl, rfl, hn, fun t o ht => absurd ht (Nat.not_lt_zero _), Below.refl _ _⟩
        case round =>
          obtain ⟨j, m, hj, rfl, rfl, hm, hal2, b6⟩ := hrel
          have HF := hide hal2
          have B6 := hide b6
          clear hal2 b6
          by_cases hjl : j < q.length
          · have hjl' : (j : Int) < (q.length : Int) := by omega
            obtain ⟨o, ho⟩ : ∃ o, q[j]? = some o := ⟨q[j], by simp [hjl]⟩
            obtain ⟨b', off', ca, cc, e2, ⟨y0, y1, y2, y3, y4⟩, hC, hM⟩ := (HO.out.below B6.out) j o ho
            subst e2
            have hM2 := HB.out q (List.mem_of_getElem? HQ.out) o (List.mem_of_getElem? ho)
            have HX := hide ho
            clear hM
            have B7 := hide (btr B6.out (below_alloc wr (.cells #[.int .i64 o.kind, .int .i64 o.a, .int .i64 o.b, .slice ca o.cases.length cc, .bool o.def_] 24)))
            clear ho hC
            by_cases hc : 3000 < m + o.cases.length
            · have hc' : decide (3000 < (m : Int) + (o.cases.length : Int)) = true := by simp; omega
              go_wp2_with fail
              go_ret
              exact ⟨⟨true, rfl, fun e => by cases e⟩, btr B0.out (btr B5.out B7.out)⟩
            · have hc' : decide (3000 < (m : Int) + (o.cases.length : Int)) = false := by simp; omega
              go_wp2_with fail
              go_roundw
              case rel => exact ⟨j + 1, m + o.cases.length, by omega, by go_num, by go_num, by omega, fun t x ht hx => by
                by_cases e : t = j
                · subst e; rw [HX.out] at hx; cases hx; omega
                · exact HF.out t x (by omega) hx, B7.out⟩
              case measure => simp [intOf]; omega
          · have hjl' : ¬ ((j : Int) < (q.length : Int)) := by omega
            go_wp2_with fail
            go_roundw
            case rel => exact ⟨k + 1, m, by omega, by go_num, rfl, hm, fun t x ht hx => by
              by_cases e : t = k
              · subst e; rw [HQ.out] at hx; cases hx
                exact ⟨by omega, fun o ho => by
                  obtain ⟨i, hi⟩ := List.mem_iff_getElem?.1 ho
                  exact HF.out i o (by have := (List.getElem?_eq_some_iff.1 hi).1; omega) hi⟩
              · exact HE.out t x (by omega) hx, btr B5.out B6.out⟩
            case measure => simp [intOf]; omega
    · have hlt' : ¬ ((k : Int) < (ps.length : Int)) := by omega
      have SM : Hid (Small ps pl dr) := by
        have key : ∀ q ∈ ps, q.length ≤ 100 ∧ ∀ o ∈ q, o.cases.length ≤ 3000 := fun q hq => by
          obtain ⟨t, ht⟩ := List.mem_iff_getElem?.1 hq
          exact HE.out t q (by have := (List.getElem?_eq_some_iff.1 ht).1; omega) ht
        exact ⟨by omega, fun q hq => (key q hq).1, fun q hq => (key q hq).2, by omega, by omega⟩
      go_wp2_with fail
      go_ret
      exact ⟨⟨false, rfl, fun _ => SM.out⟩, btr B0.out B5.out⟩
end Sh
end Go.Proofs.Ytocmdehpbipmlaa
/- Scripts, there and back (plain). -/
namespace Go.Proofs.Ytocmdehpbipmlaa
open Go.ChangeShapes Go.WideShapes Go.ChangeAt Go.RowKit
namespace Sh
open De Ba Re

theorem drop_flat {α : Type} (f : α → List Nat) (l : List α) (R : List Nat) (j : Nat) : (l.flatMap f ++ R).drop ((l.take j).flatMap f).length = (l.drop j).flatMap f ++ R := by
  have e : l.flatMap f = (l.take j).flatMap f ++ (l.drop j).flatMap f := by rw [← List.flatMap_append, List.take_append_drop]
  rw [e, List.append_assoc, List.drop_left]
theorem drop_of {L A R : List Nat} {z : Nat} (h : L.drop z = A ++ R) : L.drop (z + A.length) = R := by
  rw [← List.drop_drop, h, List.drop_left]

theorem dop_enc {p : Int} {o : OpD} (hc : chk o p = 0) (S : ByteArray) (R : List Nat) (h : nbs S = eop o ++ R) : dop p S = some (o, (eop o).length) := by
  obtain ⟨r, hr, _⟩ := rop_enc hc S R h
  simp [dop, hr, hc]
theorem rops_enc {p : Int} {q : List OpD} (hc : ∀ o ∈ q, chk o p = 0) (s : ByteArray) (z : Nat) (R : List Nat) (h : (nbs s).drop z = q.flatMap eop ++ R) :
    ∀ j, j ≤ q.length → rops p s z j = some (q.take j, z + ((q.take j).flatMap eop).length) := by
  intro j
  induction j with
  | zero => intro _; simp [rops]
  | succ j ih =>
    intro hj
    have hj' : j < q.length := by omega
    have h0 := ih (by omega)
    have hd : dop p (s.extract (z + ((q.take j).flatMap eop).length) s.size) = some (q[j], (eop q[j]).length) := by
      refine dop_enc (hc _ (List.getElem_mem hj')) _ ((q.drop (j + 1)).flatMap eop ++ R) ?_
      rw [nbs_sfx, ← List.drop_drop, h, drop_flat, List.drop_eq_getElem_cons hj', List.flatMap_cons, List.append_assoc]
    have e2 : q.take (j + 1) = q.take j ++ [q[j]] := (List.take_append_getElem hj').symm
    simp only [rops, h0, hd]
    rw [e2, List.flatMap_append, List.length_append]
    simp [Nat.add_assoc]
theorem rprog_enc {p : Int} {q : List OpD} (hc : ∀ o ∈ q, chk o p = 0) (hl : q.length ≤ 32) (s : ByteArray) (z : Nat) (R : List Nat) (h : (nbs s).drop z = epr q ++ R) : rprog p s z = some (q, z + (epr q).length) := by
  have h' : (nbs s).drop z = spl q.length ++ (q.flatMap eop ++ R) := by rw [h, epr, List.append_assoc]
  have ht := Re.tk_spl q.length (q.flatMap eop ++ R) (by omega)
  have hu : up1 32 ((nbs s).drop z) = some (q.length, (spl q.length).length) := by
    rw [h', up1, ht]
    simp only
    rw [if_pos (by omega)]
  have hr := rops_enc hc s (z + (spl q.length).length) R (drop_of h') q.length (Nat.le_refl _)
  rw [List.take_length] at hr
  simp only [rprog, hu, hr]
  simp [epr, Nat.add_assoc]
theorem rprogs_enc {p : Int} {ps : List (List OpD)} (hc : ∀ q ∈ ps, ∀ o ∈ q, chk o p = 0) (hl : ∀ q ∈ ps, q.length ≤ 32) (s : ByteArray) (z : Nat) (R : List Nat) (h : (nbs s).drop z = eps ps ++ R) :
    ∀ j, j ≤ ps.length → rprogs p s z j = some (ps.take j, z + (eps (ps.take j)).length) := by
  intro j
  induction j with
  | zero => intro _; simp [rprogs, eps]
  | succ j ih =>
    intro hj
    have hj' : j < ps.length := by omega
    have h0 := ih (by omega)
    have hd : rprog p s (z + (eps (ps.take j)).length) = some (ps[j], z + (eps (ps.take j)).length + (epr ps[j]).length) := by
      refine rprog_enc (hc _ (List.getElem_mem hj')) (hl _ (List.getElem_mem hj')) _ _ (eps (ps.drop (j + 1)) ++ R) ?_
      rw [← List.drop_drop, h, eps, eps, drop_flat, List.drop_eq_getElem_cons hj', List.flatMap_cons, List.append_assoc]
      rfl
    have e2 : ps.take (j + 1) = ps.take j ++ [ps[j]] := (List.take_append_getElem hj').symm
    have e3 : (eps (ps.take (j + 1))).length = (eps (ps.take j)).length + (epr ps[j]).length := by
      rw [e2, eps, List.flatMap_append, List.length_append]
      simp [eps]
    rw [rprogs_next h0 hd, e3, ← e2, Nat.add_assoc]
theorem tl_most {L : List Nat} {m m' : Int} {x : List Int × Nat} (h : tl L m = .ok x) (hm : m ≤ m') : tl L m' = .ok x := by
  unfold tl at h ⊢
  cases ht : tk L with
  | none => rw [ht] at h; simp at h
  | some y =>
    obtain ⟨n, k⟩ := y
    rw [ht] at h
    simp only at h ⊢
    by_cases hn : m < (n : Int)
    · rw [if_pos hn] at h; simp at h
    · rw [if_neg hn] at h
      rw [if_neg (by omega)]
      exact h
theorem mv_back (l : List Int) : mv (-1) (mv 1 l) = l := by
  simp only [mv, List.map_map]
  exact (List.map_congr_left (fun x _ => by simp; omega)).trans (List.map_id l)
theorem mv_there (l : List Int) : mv 1 (mv (-1) l) = l := by
  simp only [mv, List.map_map]
  exact (List.map_congr_left (fun x _ => by show x + -1 + 1 = x; omega)).trans (List.map_id l)

/-- what was encoded is decoded -/
theorem sdec_enc {s : Sc} (hs : schk s = 0) (b : ByteArray) (hb : nbs b = sen s) : sdec b = some s := by
  obtain ⟨T, M, ps, pl, dr⟩ := s
  obtain ⟨t12, m12, h32, h8, h200, h64, h0, har, hap, had⟩ := schk_zero hs
  simp only at t12 m12 h32 h8 h200 h64 h0 har hap had
  have e0 : nbs b = spl T.toNat ++ (spl M.toNat ++ (spl ps.length ++ (eps ps ++ (plist (mv 1 pl) ++ (plist dr ++ []))))) := by
    rw [hb]
    simp [sen, De.pls, List.append_assoc]
  have k0 : (nbs b).drop 0 = _ := e0
  have k1 := drop_of k0
  have k2 := drop_of k1
  have k3 := drop_of k2
  have k4 := drop_of k3
  have k5 := drop_of k4
  rw [Nat.zero_add] at k1 k2 k3 k4 k5
  have u1 : up1 256 (nbs b) = some (T.toNat, (spl T.toNat).length) := by
    rw [e0, up1, Re.tk_spl _ _ (by omega)]
    simp only
    rw [if_pos (by omega)]
  have u2 : up1 1048576 ((nbs b).drop (spl T.toNat).length) = some (M.toNat, (spl M.toNat).length) := by
    rw [k1, up1, Re.tk_spl _ _ (by omega)]
    simp only
    rw [if_pos (by omega)]
  have u3 : up1 8 ((nbs b).drop ((spl T.toNat).length + (spl M.toNat).length)) = some (ps.length, (spl ps.length).length) := by
    rw [k2, up1, Re.tk_spl _ _ (by omega)]
    simp only
    rw [if_pos (by omega)]
  have hh : shead b = some (T.toNat, M.toNat, ps.length, (spl T.toNat).length + (spl M.toNat).length + (spl ps.length).length) := by
    simp only [shead, u1, u2, u3]
  have hp := rprogs_enc (p := (ps.length : Int)) (fun q hq o ho => ari_mem har hq ho) h32 b _ _ k3 ps.length (Nat.le_refl _)
  rw [List.take_length] at hp
  have l1 := tl_most (m' := 200) (tl_plist (mv 1 pl) (plist dr ++ []) (by rw [mv_len]; omega) (mv_okR hap)) (by rw [mv_len]; omega)
  rw [← k4] at l1
  have l2 := tl_most (m' := 64) (tl_plist dr [] (by omega) (ab_okR had (by decide) (by decide))) (by omega)
  rw [← k5] at l2
  have hsz : (spl T.toNat).length + (spl M.toNat).length + (spl ps.length).length + (eps ps).length + (plist (mv 1 pl)).length + (plist dr).length = b.size := by
    rw [← nbs_length, e0]
    simp only [List.length_append, List.length_nil]
    omega
  rw [sdec_end hh hp l1 l2, mv_back, show ((T.toNat : Nat) : Int) = T by omega, show ((M.toNat : Nat) : Int) = M by omega, if_pos ⟨hsz, hs⟩]

theorem tk_cut {L : List Nat} {n k : Nat} (hL : ∀ b ∈ L, b < 256) (h : tk L = some (n, k)) : L = spl n ++ L.drop k := (Re.tk_put hL h).symm
theorem drop_lt {L : List Nat} (hL : ∀ b ∈ L, b < 256) (k : Nat) : ∀ b ∈ L.drop k, b < 256 := fun b hb => hL b (List.mem_of_mem_drop hb)
theorem up1_cut {m : Int} {L : List Nat} {n k : Nat} (hL : ∀ b ∈ L, b < 256) (h : up1 m L = some (n, k)) : L = spl n ++ L.drop k := by
  unfold up1 at h
  cases ht : tk L with
  | none => rw [ht] at h; simp at h
  | some y =>
    obtain ⟨n', k'⟩ := y
    rw [ht] at h
    simp only at h
    split at h
    · cases h; exact tk_cut hL ht
    · cases h
theorem dop_cut {p : Int} {S : ByteArray} {o : OpD} {k : Nat} (h : dop p S = some (o, k)) : nbs S = eop o ++ (nbs S).drop k := by
  unfold dop at h
  split at h
  · rename_i hc
    obtain ⟨h1, h2⟩ := hc
    generalize hr : rop S false = x at h h1 h2
    obtain ⟨o', R, f⟩ := x
    simp only at h h1 h2
    subst h1
    cases h
    have := rop_inv hr
    have e : nbs S = eop o ++ nbs R := this
    rw [e, List.drop_left]
  · cases h
theorem rops_cut {p : Int} {s : ByteArray} {z : Nat} : ∀ {n : Nat} {l : List OpD} {y : Nat}, rops p s z n = some (l, y) → (nbs s).drop z = l.flatMap eop ++ (nbs s).drop y ∧ l.length = n
  | 0, l, y, h => by
    simp [rops] at h
    obtain ⟨rfl, rfl⟩ := h
    simp
  | n + 1, l, y, h => by
    simp only [rops] at h
    cases hr : rops p s z n with
    | none => rw [hr] at h; cases h
    | some x =>
      obtain ⟨l', y'⟩ := x
      rw [hr] at h
      simp only at h
      cases hd : dop p (s.extract y' s.size) with
      | none => rw [hd] at h; cases h
      | some x =>
        obtain ⟨o, k⟩ := x
        rw [hd] at h
        cases h
        obtain ⟨h1, h2⟩ := rops_cut hr
        have h3 := dop_cut hd
        rw [nbs_sfx, List.drop_drop] at h3
        refine ⟨?_, by simp [h2]⟩
        rw [h1, h3, List.flatMap_append, List.append_assoc]
        simp
theorem rprog_cut {p : Int} {s : ByteArray} {z : Nat} {q : List OpD} {y : Nat} (h : rprog p s z = some (q, y)) : (nbs s).drop z = epr q ++ (nbs s).drop y := by
  unfold rprog at h
  cases hu : up1 32 ((nbs s).drop z) with
  | none => rw [hu] at h; cases h
  | some x =>
    obtain ⟨n, k⟩ := x
    rw [hu] at h
    simp only at h
    obtain ⟨h1, h2⟩ := rops_cut h
    have h3 := up1_cut (drop_lt (nbs_lt s) z) hu
    rw [List.drop_drop, h1] at h3
    rw [h3, epr, h2, List.append_assoc]
theorem rprogs_cut {p : Int} {s : ByteArray} {z : Nat} : ∀ {n : Nat} {l : List (List OpD)} {y : Nat}, rprogs p s z n = some (l, y) → (nbs s).drop z = eps l ++ (nbs s).drop y ∧ l.length = n
  | 0, l, y, h => by
    simp [rprogs] at h
    obtain ⟨rfl, rfl⟩ := h
    simp [eps]
  | n + 1, l, y, h => by
    simp only [rprogs] at h
    cases hr : rprogs p s z n with
    | none => rw [hr] at h; cases h
    | some x =>
      obtain ⟨l', y'⟩ := x
      rw [hr] at h
      simp only at h
      cases hd : rprog p s y' with
      | none => rw [hd] at h; cases h
      | some x =>
        obtain ⟨q, y2⟩ := x
        rw [hd] at h
        cases h
        obtain ⟨h1, h2⟩ := rprogs_cut hr
        have h3 := rprog_cut hd
        refine ⟨?_, by simp [h2]⟩
        rw [h1, h3]
        simp [eps]
theorem tst_cut {L : List Nat} (hL : ∀ b ∈ L, b < 256) : ∀ {i : Nat} {xs : List Int} {o : Nat}, tst L i = some (xs, o) → L = Re.pls xs ++ L.drop o ∧ xs.length = i
  | 0, xs, o, h => by
    simp [tst] at h
    obtain ⟨rfl, rfl⟩ := h
    simp [Re.pls]
  | i + 1, xs, o, h => by
    simp only [tst] at h
    cases hr : tst L i with
    | none => rw [hr] at h; cases h
    | some x =>
      obtain ⟨l', y'⟩ := x
      rw [hr] at h
      simp only at h
      cases hd : tk (L.drop y') with
      | none => rw [hd] at h; cases h
      | some x =>
        obtain ⟨n, k⟩ := x
        rw [hd] at h
        cases h
        obtain ⟨h1, h2⟩ := tst_cut hL hr
        have h3 := tk_cut (drop_lt hL y') hd
        rw [List.drop_drop] at h3
        refine ⟨?_, by simp [h2]⟩
        conv => lhs; rw [h1, h3]
        simp [Re.pls]
theorem tl_cut {L : List Nat} (hL : ∀ b ∈ L, b < 256) {m : Int} {xs : List Int} {k : Nat} (h : tl L m = .ok (xs, k)) : L = plist xs ++ L.drop k := by
  unfold tl at h
  cases ht : tk L with
  | none => rw [ht] at h; simp at h
  | some y =>
    obtain ⟨n, k1⟩ := y
    rw [ht] at h
    simp only at h
    split at h
    · cases h
    cases hs : tst (L.drop k1) n with
    | none => rw [hs] at h; cases h
    | some x =>
      obtain ⟨xs', o⟩ := x
      rw [hs] at h
      cases h
      obtain ⟨h1, h2⟩ := tst_cut (drop_lt hL k1) hs
      rw [List.drop_drop] at h1
      have h3 := tk_cut hL ht
      conv => lhs; rw [h3, h1]
      rw [plist, h2, List.append_assoc]

/-- what is decoded was encoded so -/
theorem sdec_cut {b : ByteArray} {s : Sc} (h : sdec b = some s) : nbs b = sen s ∧ schk s = 0 := by
  unfold sdec at h
  cases hh : shead b with
  | none => rw [hh] at h; cases h
  | some x =>
    obtain ⟨t, m, n, z⟩ := x
    rw [hh] at h
    simp only at h
    cases hp : rprogs n b z n with
    | none => rw [hp] at h; cases h
    | some x =>
      obtain ⟨ps, y⟩ := x
      rw [hp] at h
      simp only at h
      cases hl : tl ((nbs b).drop y) 200 with
      | error e => rw [hl] at h; cases h
      | ok x =>
        obtain ⟨xs, k⟩ := x
        rw [hl] at h
        simp only at h
        cases hd : tl ((nbs b).drop (y + k)) 64 with
        | error e => rw [hd] at h; cases h
        | ok x =>
          obtain ⟨ys, k'⟩ := x
          rw [hd] at h
          simp only at h
          split at h
          · rename_i hc
            obtain ⟨c1, c2⟩ := hc
            cases h
            refine ⟨?_, c2⟩
            have L := nbs_lt b
            have q4 := tl_cut (drop_lt L (y + k)) hd
            have q3 := tl_cut (drop_lt L y) hl
            obtain ⟨q2, hn⟩ := rprogs_cut hp
            rw [List.drop_drop, c1, ← nbs_length, List.drop_length] at q4
            rw [List.drop_drop, q4] at q3
            rw [q3] at q2
            unfold shead at hh
            cases u1 : up1 256 (nbs b) with
            | none => rw [u1] at hh; cases hh
            | some x =>
              obtain ⟨t', k1⟩ := x
              rw [u1] at hh
              simp only at hh
              cases u2 : up1 1048576 ((nbs b).drop k1) with
              | none => rw [u2] at hh; cases hh
              | some x =>
                obtain ⟨m', k2⟩ := x
                rw [u2] at hh
                simp only at hh
                cases u3 : up1 8 ((nbs b).drop (k1 + k2)) with
                | none => rw [u3] at hh; cases hh
                | some x =>
                  obtain ⟨n', k3⟩ := x
                  rw [u3] at hh
                  cases hh
                  have p3 := up1_cut (drop_lt L _) u3
                  have p2 := up1_cut (drop_lt L _) u2
                  have p1 := up1_cut L u1
                  rw [List.drop_drop, q2] at p3
                  rw [List.drop_drop, p3] at p2
                  rw [p2] at p1
                  rw [p1]
                  simp [sen, De.pls, mv_there, hn, List.append_assoc]
          · cases h
end Sh
end Go.Proofs.Ytocmdehpbipmlaa
/- The laws' own exits(), over this seat's program. -/
namespace Go.Proofs.Ytocmdehpbipmlaa
open Go.ChangeShapes Go.WideShapes Go.ChangeAt Go.RowKit
namespace Sh
open De Ba Re

def o9 : OpD := ⟨9, 0, 0, [], false⟩
def s9 : Sc := ⟨2, 9, [[o9]], [0, -1], []⟩
theorem s9_chk : schk s9 = 0 := by decide
theorem s9_sen : sen s9 = [2, 9, 1, 1, 9, 2, 1, 0, 0] := by decide
theorem s9_dec : sdec (bs (sen s9)) = some s9 := sdec_enc s9_chk _ (nbs_bs _ (by rw [s9_sen]; decide))
/-- the memory in which exits' script lies -/
def W9 (w : World) : World := (((w.alloc (.cells #[.int .i64 9, .int .i64 0, .int .i64 0, .slice none 0 0, .bool false] 24)).alloc (.cells #[.slice (some ⟨w.heap.size, 0, none⟩) 1 1] 56)).alloc (.cells #[.int .i64 0, .int .i64 (-1)] 3)).alloc (.cells #[.int .i64 2, .int .i64 9, .slice (some ⟨w.heap.size + 1, 0, none⟩) 1 1, .slice (some ⟨w.heap.size + 1 + 1, 0, none⟩) 2 2, .slice none 0 0] 38)
theorem w9_at (w : World) : SAt (W9 w) s9 (some ⟨w.heap.size + 1, 0, none⟩) (some ⟨w.heap.size + 1 + 1, 0, none⟩) none ∧ Below w.heap.size w (W9 w) ∧ (W9 w).heap[w.heap.size + 1 + 1 + 1]? = some (.cells #[.int .i64 2, .int .i64 9, .slice (some ⟨w.heap.size + 1, 0, none⟩) 1 1, .slice (some ⟨w.heap.size + 1 + 1, 0, none⟩) 2 2, .slice none 0 0] 38 (0, 0)) := by
  unfold W9
  have b1 := below_alloc w (.cells #[.int .i64 9, .int .i64 0, .int .i64 0, .slice none 0 0, .bool false] 24)
  have h1 := heap_new w (.cells #[.int .i64 9, .int .i64 0, .int .i64 0, .slice none 0 0, .bool false] 24)
  have z1 : (w.alloc (.cells #[.int .i64 9, .int .i64 0, .int .i64 0, .slice none 0 0, .bool false] 24)).heap.size = w.heap.size + 1 := World.size_alloc ..
  generalize w.alloc (.cells #[.int .i64 9, .int .i64 0, .int .i64 0, .slice none 0 0, .bool false] 24) = w1 at *
  have b2 := below_alloc w1 (.cells #[.slice (some ⟨w.heap.size, 0, none⟩) 1 1] 56)
  have h2 := heap_new w1 (.cells #[.slice (some ⟨w.heap.size, 0, none⟩) 1 1] 56)
  have z2 : (w1.alloc (.cells #[.slice (some ⟨w.heap.size, 0, none⟩) 1 1] 56)).heap.size = w1.heap.size + 1 := World.size_alloc ..
  generalize w1.alloc (.cells #[.slice (some ⟨w.heap.size, 0, none⟩) 1 1] 56) = w2 at *
  have b3 := below_alloc w2 (.cells #[.int .i64 0, .int .i64 (-1)] 3)
  have h3 := heap_new w2 (.cells #[.int .i64 0, .int .i64 (-1)] 3)
  have z3 : (w2.alloc (.cells #[.int .i64 0, .int .i64 (-1)] 3)).heap.size = w2.heap.size + 1 := World.size_alloc ..
  generalize w2.alloc (.cells #[.int .i64 0, .int .i64 (-1)] 3) = w3 at *
  have b4 := below_alloc w3 (.cells #[.int .i64 2, .int .i64 9, .slice (some ⟨w.heap.size + 1, 0, none⟩) 1 1, .slice (some ⟨w.heap.size + 1 + 1, 0, none⟩) 2 2, .slice none 0 0] 38)
  have h4 := heap_new w3 (.cells #[.int .i64 2, .int .i64 9, .slice (some ⟨w.heap.size + 1, 0, none⟩) 1 1, .slice (some ⟨w.heap.size + 1 + 1, 0, none⟩) 2 2, .slice none 0 0] 38)
  generalize w3.alloc (.cells #[.int .i64 2, .int .i64 9, .slice (some ⟨w.heap.size + 1, 0, none⟩) 1 1, .slice (some ⟨w.heap.size + 1 + 1, 0, none⟩) 2 2, .slice none 0 0] 38) = w4 at *
  rw [z3, z2, z1] at h4
  rw [z2, z1] at h3
  rw [z1] at h2
  have g1 := heap_below (heap_below (heap_below h1 b2) b3) b4
  have g2 := heap_below (heap_below h2 b3) b4
  have g3 := heap_below h3 b4
  refine ⟨⟨?_, ?_, fun k hk => absurd hk (Nat.not_lt_zero _), by decide, by decide, by decide⟩, btr (btr (btr b1 b2) b3) b4, h4⟩
  · intro k q hq
    have e : k = 0 ∧ q = [o9] := by
      match k, hq with
      | 0, hq => exact ⟨rfl, by simpa [s9] using hq.symm⟩
      | k + 1, hq => simp [s9] at hq
    obtain ⟨rfl, rfl⟩ := e
    refine ⟨_, _, _, 1, rfl, cell_of g2 0, ?_, by decide⟩
    intro j o ho
    have e : j = 0 ∧ o = o9 := by
      match j, ho with
      | 0, ho => exact ⟨rfl, by simpa using ho.symm⟩
      | j + 1, ho => simp at ho
    obtain ⟨rfl, rfl⟩ := e
    exact ⟨_, _, none, 0, rfl, ⟨cell_of g1 0, cell_of g1 1, cell_of g1 2, cell_of g1 3, cell_of g1 4⟩, CAt.nil _ _, by decide⟩
  · intro k hk
    have hk' : k < 2 := hk
    match k, hk' with
    | 0, _ => exact ⟨_, _, rfl, cell_of g3 0⟩
    | 1, _ => exact ⟨_, _, rfl, cell_of g3 1⟩

set_option maxRecDepth 100000 in
set_option maxHeartbeats 1600000 in
theorem exits_any (w : World) :
    Calls Try.prog 14 #[] w fun r w' => r = .returned (.bool true) ∧ Below w.heap.size w w' := by
  obtain ⟨S0, B0, X0⟩ := w9_at w
  have S0 := hide S0
  have B0 := hide B0
  have X0 := hide X0
  have e1 : (bs (sen s9)).toList = [2, 9, 1, 1, 9, 2, 1, 0, 0] := by rw [toList_is, s9_sen]; decide
  have e2 : (bs (sen s9)).size ≤ 5000000 := by rw [s9_sen]; decide
  have SM : Hid (Small [[o9]] [0, -1] []) := by
    show Small _ _ _
    refine ⟨by decide, by decide, by decide, by decide, by decide⟩
  have HD := hide s9_dec
  go_enter Try.func14, Try.ntmps14
  go_wp2_with fail
  show Calls Try.prog 15 _ (W9 w) _
  generalize W9 w = W at S0 B0 X0 ⊢
  have henc : Calls Try.prog 15 #[.agg #[.int .i64 2, .int .i64 9, .slice (some ⟨w.heap.size + 1, 0, none⟩) 1 1, .slice (some ⟨w.heap.size + 1 + 1, 0, none⟩) 2 2, .slice none 0 0]] W fun r w' => r = .returned (.tuple #[.string (bs (sen s9)), .int .i64 0]) ∧ Below W.heap.size W w' := sencode_ok 2 9 [[o9]] [0, -1] [] _ _ _ 1 2 0 _ S0.out s9_chk
  have E2 := hide e2
  clear e2
  generalize bs (sen s9) = E at e1 E2 HD henc ⊢
  refine henc.mono ?_
  clear henc
  rintro r w1 ⟨rfl, b1⟩
  have S1 := hide (S0.out.below b1)
  have B1 := hide (btr B0.out b1)
  have X1 := hide (heap_below X0.out b1)
  clear b1
  go_wp2_with fail
  refine (sdecode_any E _ E2.out).mono ?_
  rintro r w2 ⟨hD, b2⟩
  obtain ⟨pa, la, da, pc, lc, dc, rfl, hA⟩ : ∃ pa la da pc lc dc, r = .returned (.tuple #[.agg #[.int .i64 2, .int .i64 9, .slice pa 1 pc, .slice la 2 lc, .slice da 0 dc], .int .i64 0]) ∧ SAt w2 ⟨2, 9, [[o9]], [0, -1], []⟩ pa la da := by
    rcases hD with ⟨hn, _⟩ | ⟨T, M, ps, pl, dr, pa, la, da, pc, lc, dc, hs, rfl, hA⟩
    · rw [HD.out] at hn
      cases hn
    · rw [HD.out] at hs
      cases hs
      exact ⟨pa, la, da, pc, lc, dc, rfl, hA⟩
  have S2 := hide (S1.out.below b2)
  have B2 := hide (btr B1.out b2)
  have X2 := hide (heap_below X1.out b2)
  have A2 := hide hA
  clear b2 hA hD S0 B0 X0 S1 B1 X1
  have S3 := hide (S2.out.below (below_alloc w2 (.cells #[.int .i64 2, .int .i64 9, .slice pa 1 pc, .slice la 2 lc, .slice da 0 dc] 38)))
  have A3 := hide (A2.out.below (below_alloc w2 (.cells #[.int .i64 2, .int .i64 9, .slice pa 1 pc, .slice la 2 lc, .slice da 0 dc] 38)))
  have B3 := hide (btr B2.out (below_alloc w2 (.cells #[.int .i64 2, .int .i64 9, .slice pa 1 pc, .slice la 2 lc, .slice da 0 dc] 38)))
  have X3 := hide (heap_below X2.out (below_alloc w2 (.cells #[.int .i64 2, .int .i64 9, .slice pa 1 pc, .slice la 2 lc, .slice da 0 dc] 38)))
  obtain ⟨x0, x1, x2, x3, x4⟩ := sc_cells X3.out
  go_wp2_with fail
  refine (script_any 2 9 [[o9]] [0, -1] [] 2 9 [[o9]] [0, -1] [] _ _ _ _ _ _ pc lc dc 1 2 0 _ A3.out S3.out SM.out SM.out).mono ?_
  rintro r w4 ⟨⟨b, rfl, hb⟩, b4⟩
  obtain rfl : b = true := hb.2 rfl
  have S4 := hide (S3.out.below b4)
  have B4 := hide (btr B3.out b4)
  have X4 := hide (heap_below X3.out b4)
  obtain ⟨y0, y1, y2, y3, y4⟩ := sc_cells X4.out
  clear b4 hb
  go_wp2_with fail
  refine (bare_any 2 9 [[o9]] [0, -1] [] _ _ _ 1 2 0 _ S4.out SM.out).mono ?_
  rintro r w5 ⟨⟨G, L, D, arr, rfl, _⟩, b5⟩
  have B5 := hide (btr B4.out b5)
  clear b5
  rw [show (bar [0, -1]).length = 1 from rfl]
  have hfd : ∀ w : World, (Instr.field 38 (.agg #[.int .i64 2, .int .i64 9, .slice (some ⟨G, 0, none⟩) 1 1, .slice (some ⟨L, 0, none⟩) 1 2, .slice (some ⟨D, 0, none⟩) 0 0]) 3).run Try.prog w = .ok (.slice (some ⟨L, 0, none⟩) 1 2) w := fun _ => by kernel_rfl
  go_wp2_with fail
  go_ret
  exact ⟨rfl, B5.out⟩
end Sh
end Go.Proofs.Ytocmdehpbipmlaa
/- A list of int among a law's arguments, opened. -/
namespace Go.Proofs.Ytocmdehpbipmlaa
open Go.ChangeShapes Go.WideShapes Go.ChangeAt Go.RowKit
namespace Ba

section
variable {H : Type} {enc : TypeId × Value → H} {w : World}
theorem ints_open {fuel : Nat} {oa : Option Addr} {len cap : Nat} {x : DataW H × List MemPlace} (h : DataW.trod enc Try.prog w 0 (fun _ => true) true fuel 36 [.slice oa len cap] = some x) : ∃ l, l.length = len ∧ At w oa l ∧ len ≤ cap ∧ cap ≤ maxLen := by
  rcases open_ints Try.underlying36 Try.underlying3 (by kernel_rfl) h with ⟨hcs, _⟩ | ⟨x, l, c, zs, hcs, _, hl, hm, hz, _, hcell, hwz⟩
  · simp at hcs
    obtain ⟨rfl, rfl, rfl⟩ := hcs
    exact ⟨[], rfl, At.nil _ _, Nat.le_refl _, Nat.zero_le _⟩
  · simp at hcs
    obtain ⟨rfl, rfl, rfl⟩ := hcs
    simp at hz
    refine ⟨zs.take len, by simp; omega, fun k hk => ?_, hl, hm⟩
    have hk' : k < len ∧ k < zs.length := by simp at hk; omega
    obtain ⟨b, off, spot⟩ := x
    have hspot : spot = none := by simpa [Addr.add] using World.cell?_spot (hcell 0 (by omega))
    subst hspot
    have hc := hcell k hk'.2
    refine ⟨b, off, rfl, ?_⟩
    rw [nth_take zs len k hk'.1]
    rw [Addr.add_lit] at hc
    exact hc
end
end Ba
end Go.Proofs.Ytocmdehpbipmlaa
/- A script among a law's arguments, opened. -/
namespace Go.Proofs.Ytocmdehpbipmlaa
open Go.ChangeShapes Go.WideShapes Go.ChangeAt Go.RowKit
namespace Sh
open De Ba Re

section
variable {H : Type} {enc : TypeId × Value → H} {w : World}
/-- within the form's own reach -/
def WL (t : TypeId) (d : DataW H) : Prop := ∀ m ∈ d.weights Try.prog t, m ≤ reachBytes
theorem mem_all {e : TypeId} : ∀ {l : List (DataW H)} {d : DataW H}, d ∈ l → ∀ n ∈ d.weights Try.prog e, n ∈ DataW.weightsAll Try.prog e l
  | d' :: r, d, hd, n, hn => by
    simp only [DataW.weightsAll, List.mem_append]
    rcases List.mem_cons.1 hd with rfl | h
    · exact Or.inl hn
    · exact Or.inr (mem_all h n hn)
theorem WL.field {t : TypeId} {fs : Array Field} {xs : List (DataW H × List MemPlace)} {j : Nat} {f : Field} {y : DataW H × List MemPlace} (hu : Try.prog.underlying t = some (.struct fs)) (hf : fs[j]? = some f) (hx : xs[j]? = some y) (hz : WL t (DataW.agg (xs.map (·.1)))) : WL f.type y.1 := by
  intro m hm
  apply hz
  simp only [DataW.weights, hu]
  refine DataW.weights_mem_each (j := j) ?_ ?_ m hm
  · rw [List.getElem?_map, Array.getElem?_toList, hf]
    rfl
  · rw [List.getElem?_map, hx]
    rfl
theorem WL.elem {t e : TypeId} {l sp : List (DataW H)} (hu : Try.prog.underlying t = some (.slice e)) (hz : WL t (DataW.slice l sp)) : (l.length + sp.length) * Try.prog.bytesOf e ≤ reachBytes ∧ ∀ d ∈ l, WL e d := by
  unfold WL at hz
  simp only [DataW.weights, hu] at hz
  exact ⟨hz _ (List.mem_cons_self ..), fun d hd m hm => hz _ (List.mem_cons_of_mem _ (List.mem_append_left _ (mem_all hd m hm)))⟩
theorem WL.elemAt {t e : TypeId} {len : Nat} {D : Nat → DataW H} {sp : List (DataW H)} (hu : Try.prog.underlying t = some (.slice e)) (hz : WL t (DataW.slice ((List.range len).map D) sp)) (i : Nat) (hi : i < len) : WL e (D i) :=
  (hz.elem hu).2 _ (List.mem_map.2 ⟨i, List.mem_range.2 hi, rfl⟩)

theorem bytes_case : Try.prog.bytesOf 58 = 24 := by kernel_rfl
theorem cells_pr : Try.prog.cellsOf 56 = 1 := by kernel_rfl
theorem cells_prs : Try.prog.cellsOf 35 = 1 := by kernel_rfl
theorem cells_ints : Try.prog.cellsOf 36 = 1 := by kernel_rfl
theorem cells_sc : Try.prog.cellsOf 38 = 5 := by kernel_rfl

theorem cases_held {n : Nat} {v : Value} {x : DataW H × List MemPlace} (h : DataW.trod enc Try.prog w 0 (fun _ => true) true n 22 [v] = some x) (hz : WL 22 x.1) : ∃ (l : List Cs) (oa : Option Addr) (c : Nat), v = .slice oa l.length c ∧ CAt w oa l ∧ l.length ≤ maxLen ∧ l.length ≤ 140737488355328 := by
  obtain ⟨l, oa, c, rfl, hA, hm⟩ := cases_open h
  refine ⟨l, oa, c, rfl, hA, hm, ?_⟩
  rcases Go.Deep.open_slice Try.underlying22 h with ⟨hcs, _⟩ | ⟨a, len, cap, m, n', D, Pl, hcs, _, hl, _, hmm, hx, _⟩
  · simp at hcs
    have := hcs.2.1
    simp [this]
  · simp at hcs
    obtain ⟨_, e, _⟩ := hcs
    rw [hx] at hz
    have := (WL.elem Try.underlying22 hz).1
    rw [bytes_case] at this
    simp [reachBytes] at this
    omega

theorem op_held {n : Nat} {cs : List Value} {x : DataW H × List MemPlace} (h : DataW.trod enc Try.prog w 0 (fun _ => true) true n 24 cs = some x) (hz : WL 24 x.1) :
    ∃ (o : OpD) (oa : Option Addr) (c : Nat), (cs[0]? = some (.int .i64 o.kind) ∧ cs[1]? = some (.int .i64 o.a) ∧ cs[2]? = some (.int .i64 o.b) ∧ cs[3]? = some (.slice oa o.cases.length c) ∧ cs[4]? = some (.bool o.def_)) ∧ CAt w oa o.cases ∧ o.cases.length ≤ maxLen ∧ o.cases.length ≤ 140737488355328 := by
  obtain ⟨fs, hu, hsz, field5_0, field5_1, field5_2, field5_3, field5_4⟩ := fields5
  obtain ⟨xs, k, _, hxx, hcl, hxl, hff⟩ := DataW.trod_struct hu h
  rw [hxx] at hz
  rw [hsz] at hxl
  rw [cells_op] at hcl
  obtain ⟨f0, g0, o0, t0⟩ := field5_0
  have h0 := hff 0 f0 g0
  rw [o0, t0, cells_int] at h0
  obtain ⟨f1, g1, o1, t1⟩ := field5_1
  have h1 := hff 1 f1 g1
  rw [o1, t1, cells_int] at h1
  obtain ⟨f2, g2, o2, t2⟩ := field5_2
  have h2 := hff 2 f2 g2
  rw [o2, t2, cells_int] at h2
  obtain ⟨f3, g3, o3, t3⟩ := field5_3
  have h3 := hff 3 f3 g3
  rw [o3, t3, cells_cases] at h3
  obtain ⟨f4, g4, o4, t4⟩ := field5_4
  have h4 := hff 4 f4 g4
  rw [o4, t4, cells_bool] at h4
  have x3 : xs[3]? = some xs[3] := List.getElem?_eq_getElem (by omega)
  have z3 := WL.field hu g3 x3 hz
  rw [t3] at z3
  rw [x3] at h3
  rw [List.getElem?_eq_getElem (by omega)] at h0 h1 h2 h4
  obtain ⟨i0, e0, _⟩ := DataW.trod_int Try.underlying3 h0
  obtain ⟨i1, e1, _⟩ := DataW.trod_int Try.underlying3 h1
  obtain ⟨i2, e2, _⟩ := DataW.trod_int Try.underlying3 h2
  obtain ⟨i4, e4, _⟩ := DataW.trod_bool Try.underlying4 h4
  have hq : ∃ z, (cs.drop 3).take 1 = [z] := by
    have hl : ((cs.drop 3).take 1).length = 1 := by simp; omega
    match hq : (cs.drop 3).take 1, hl with
    | [z], _ => exact ⟨z, rfl⟩
  obtain ⟨z, e3⟩ := hq
  rw [e3] at h3
  obtain ⟨l, oa, c, rfl, hA, hm, hb⟩ := cases_held h3 z3
  exact ⟨⟨i0, i1, i2, l, i4⟩, oa, c, ⟨one_of e0, one_of e1, one_of e2, one_of e3, one_of e4⟩, hA, hm, hb⟩

theorem ops_held {n : Nat} {v : Value} {x : DataW H × List MemPlace} (h : DataW.trod enc Try.prog w 0 (fun _ => true) true n 56 [v] = some x) (hz : WL 56 x.1) : ∃ (l : List OpD) (oa : Option Addr) (c : Nat), v = .slice oa l.length c ∧ OAt w oa l ∧ l.length ≤ maxLen ∧ ∀ o ∈ l, o.cases.length ≤ 140737488355328 := by
  rcases Go.Deep.open_slice Try.underlying56 h with ⟨hcs, _⟩ | ⟨a, len, cap, m, n', D, Pl, hcs, _, hl, hm, hmm, hx, hel⟩
  · simp at hcs
    subst hcs
    exact ⟨[], none, 0, rfl, OAt.nil _ _, Nat.zero_le _, fun o ho => by cases ho⟩
  · simp at hcs
    subst hcs
    have hmc : m = cap := by simpa using hmm
    subst hmc
    rw [hx] at hz
    have key : ∀ i, i < len → ∃ o : OpD, (∃ ca cc, (w.cell? ((a.add (i * 5)).add 0) = some (.int .i64 o.kind) ∧ w.cell? ((a.add (i * 5)).add 1) = some (.int .i64 o.a) ∧ w.cell? ((a.add (i * 5)).add 2) = some (.int .i64 o.b) ∧ w.cell? ((a.add (i * 5)).add 3) = some (.slice ca o.cases.length cc) ∧ w.cell? ((a.add (i * 5)).add 4) = some (.bool o.def_)) ∧ CAt w ca o.cases) ∧ o.cases.length ≤ maxLen ∧ o.cases.length ≤ 140737488355328 := by
      intro i hi
      obtain ⟨cs', h1, h2⟩ := hel i (by omega)
      rw [cells_op] at h1
      obtain ⟨_, _, hcell⟩ := World.cells?_some h1
      obtain ⟨o, ca, cc, ⟨q0, q1, q2, q3, q4⟩, hC, hM, hB⟩ := op_held h2 (WL.elemAt Try.underlying56 hz i hi)
      exact ⟨o, ⟨ca, cc, ⟨(hcell 0 (by decide)).trans q0, (hcell 1 (by decide)).trans q1, (hcell 2 (by decide)).trans q2, (hcell 3 (by decide)).trans q3, (hcell 4 (by decide)).trans q4⟩, hC⟩, hM, hB⟩
    have fam : ∃ f : Nat → OpD, ∀ i, i < len → (∃ ca cc, (w.cell? ((a.add (i * 5)).add 0) = some (.int .i64 (f i).kind) ∧ w.cell? ((a.add (i * 5)).add 1) = some (.int .i64 (f i).a) ∧ w.cell? ((a.add (i * 5)).add 2) = some (.int .i64 (f i).b) ∧ w.cell? ((a.add (i * 5)).add 3) = some (.slice ca (f i).cases.length cc) ∧ w.cell? ((a.add (i * 5)).add 4) = some (.bool (f i).def_)) ∧ CAt w ca (f i).cases) ∧ (f i).cases.length ≤ maxLen ∧ (f i).cases.length ≤ 140737488355328 := by
      refine ⟨fun i => if hi : i < len then Classical.choose (key i hi) else ⟨0, 0, 0, [], false⟩, fun i hi => ?_⟩
      simp only [dif_pos hi]
      exact Classical.choose_spec (key i hi)
    obtain ⟨f, hf⟩ := fam
    have hlen : ((List.range len).map f).length = len := by simp
    refine ⟨(List.range len).map f, some a, m, by rw [hlen], ?_, by rw [hlen]; omega, ?_⟩
    · intro k o hk
      have hk2 : k < len := by
        have := (List.getElem?_eq_some_iff.1 hk).1
        simpa using this
      have hc : o = f k := by
        simp [hk2] at hk
        exact hk.symm
      subst hc
      obtain ⟨⟨ca, cc, ⟨q0, q1, q2, q3, q4⟩, hC⟩, hM, _⟩ := hf k hk2
      have hspot : a.spot = none := by
        obtain ⟨⟨_, _, ⟨p0, _⟩, _⟩, _⟩ := hf 0 (by omega)
        have := World.cell?_spot p0
        simpa [Addr.add] using this
      obtain ⟨b, off, spot⟩ := a
      simp at hspot
      subst hspot
      rw [Addr.add_lit, Addr.add_lit] at q0 q1 q2 q3 q4
      exact ⟨b, off, ca, cc, rfl, ⟨q0, q1, q2, q3, q4⟩, hC, hM⟩
    · intro o ho
      obtain ⟨i, hi, rfl⟩ := List.mem_map.1 ho
      exact (hf i (List.mem_range.1 hi)).2.2

theorem progs_held {n : Nat} {v : Value} {x : DataW H × List MemPlace} (h : DataW.trod enc Try.prog w 0 (fun _ => true) true n 35 [v] = some x) (hz : WL 35 x.1) : ∃ (l : List (List OpD)) (oa : Option Addr) (c : Nat), v = .slice oa l.length c ∧ PAt w oa l ∧ l.length ≤ maxLen ∧ Held l := by
  rcases Go.Deep.open_slice Try.underlying35 h with ⟨hcs, _⟩ | ⟨a, len, cap, m, n', D, Pl, hcs, _, hl, hm, hmm, hx, hel⟩
  · simp at hcs
    subst hcs
    exact ⟨[], none, 0, rfl, PAt.nil _ _, Nat.zero_le _, fun o ho => by cases ho⟩
  · simp at hcs
    subst hcs
    have hmc : m = cap := by simpa using hmm
    subst hmc
    rw [hx] at hz
    have key : ∀ i, i < len → ∃ q : List OpD, (∃ ca cc, w.cell? ((a.add (i * 1)).add 0) = some (.slice ca q.length cc) ∧ OAt w ca q) ∧ q.length ≤ maxLen ∧ ∀ o ∈ q, o.cases.length ≤ 140737488355328 := by
      intro i hi
      obtain ⟨cs', h1, h2⟩ := hel i (by omega)
      rw [cells_pr] at h1
      obtain ⟨_, hlc, hcell⟩ := World.cells?_some h1
      match cs', hlc, h2, hcell with
      | [z], _, h2, hcell =>
        obtain ⟨q, ca, cc, rfl, hO, hM, hB⟩ := ops_held h2 (WL.elemAt Try.underlying35 hz i hi)
        exact ⟨q, ⟨ca, cc, (hcell 0 (by decide)).trans rfl, hO⟩, hM, hB⟩
    have fam : ∃ f : Nat → List OpD, ∀ i, i < len → (∃ ca cc, w.cell? ((a.add (i * 1)).add 0) = some (.slice ca (f i).length cc) ∧ OAt w ca (f i)) ∧ (f i).length ≤ maxLen ∧ ∀ o ∈ f i, o.cases.length ≤ 140737488355328 := by
      refine ⟨fun i => if hi : i < len then Classical.choose (key i hi) else [], fun i hi => ?_⟩
      simp only [dif_pos hi]
      exact Classical.choose_spec (key i hi)
    obtain ⟨f, hf⟩ := fam
    have hlen : ((List.range len).map f).length = len := by simp
    refine ⟨(List.range len).map f, some a, m, by rw [hlen], ?_, by rw [hlen]; omega, ?_⟩
    · intro k o hk
      have hk2 : k < len := by
        have := (List.getElem?_eq_some_iff.1 hk).1
        simpa using this
      have hc : o = f k := by
        simp [hk2] at hk
        exact hk.symm
      subst hc
      obtain ⟨⟨ca, cc, q0, hC⟩, hM, _⟩ := hf k hk2
      have hspot : a.spot = none := by
        obtain ⟨⟨_, _, p0, _⟩, _⟩ := hf 0 (by omega)
        have := World.cell?_spot p0
        simpa [Addr.add] using this
      obtain ⟨b, off, spot⟩ := a
      simp at hspot
      subst hspot
      rw [Addr.add_lit, Addr.add_lit, Nat.mul_one, Nat.add_zero] at q0
      exact ⟨b, off, ca, cc, rfl, q0, hC, hM⟩
    · intro q hq
      obtain ⟨i, hi, rfl⟩ := List.mem_map.1 hq
      exact (hf i (List.mem_range.1 hi)).2.2

theorem ints_held {n : Nat} {v : Value} {x : DataW H × List MemPlace} (h : DataW.trod enc Try.prog w 0 (fun _ => true) true n 36 [v] = some x) : ∃ (l : List Int) (oa : Option Addr) (c : Nat), v = .slice oa l.length c ∧ At w oa l ∧ l.length ≤ maxLen := by
  have hv : ∃ oa len cap, v = .slice oa len cap := by
    rcases Go.Deep.open_slice Try.underlying36 h with ⟨hcs, _⟩ | ⟨a, len, cap, m, n', D, Pl, hcs, _⟩
    · simp at hcs; exact ⟨_, _, _, hcs⟩
    · simp at hcs; exact ⟨_, _, _, hcs⟩
  obtain ⟨oa, len, cap, rfl⟩ := hv
  obtain ⟨l, rfl, hA, h1, h2⟩ := ints_open h
  exact ⟨l, oa, cap, rfl, hA, by omega⟩

theorem fieldsS : ∃ fs : Array Field, Try.prog.underlying 38 = some (.struct fs) ∧ fs.size = 5 ∧ (∃ f, fs[0]? = some f ∧ f.offset = 0 ∧ f.type = 3) ∧ (∃ f, fs[1]? = some f ∧ f.offset = 1 ∧ f.type = 3) ∧ (∃ f, fs[2]? = some f ∧ f.offset = 2 ∧ f.type = 35) ∧ (∃ f, fs[3]? = some f ∧ f.offset = 3 ∧ f.type = 36) ∧ (∃ f, fs[4]? = some f ∧ f.offset = 4 ∧ f.type = 36) :=
  ⟨_, Try.underlying38, rfl, ⟨_, rfl, rfl, rfl⟩, ⟨_, rfl, rfl, rfl⟩, ⟨_, rfl, rfl, rfl⟩, ⟨_, rfl, rfl, rfl⟩, ⟨_, rfl, rfl, rfl⟩⟩
theorem one_in {cs : List Value} (hcl : cs.length = 5) (j : Nat) (hj : j < 5) : ∃ z, (cs.drop j).take 1 = [z] := by
  have hl : ((cs.drop j).take 1).length = 1 := by simp; omega
  match hq : (cs.drop j).take 1, hl with
  | [z], _ => exact ⟨z, rfl⟩

set_option maxRecDepth 100000 in
theorem script_open {n : Nat} {v : Value} {x : DataW H × List MemPlace} (h : DataW.trod enc Try.prog w 0 (fun _ => true) true n 38 v.cells.toList = some x) (hz : WL 38 x.1) :
    ∃ (T M : Int) (ps : List (List OpD)) (pl dr : List Int) (pa la da : Option Addr) (pc lc dc : Nat), v = .agg #[.int .i64 T, .int .i64 M, .slice pa ps.length pc, .slice la pl.length lc, .slice da dr.length dc] ∧ SAt w ⟨T, M, ps, pl, dr⟩ pa la da ∧ Held ps := by
  obtain ⟨fs, hu, hsz, field5_0, field5_1, field5_2, field5_3, field5_4⟩ := fieldsS
  obtain ⟨xs, k, _, hxx, hcl, hxl, hff⟩ := DataW.trod_struct hu h
  rw [hxx] at hz
  rw [hsz] at hxl
  rw [cells_sc] at hcl
  obtain ⟨f0, g0, o0, t0⟩ := field5_0
  have h0 := hff 0 f0 g0
  rw [o0, t0, cells_int] at h0
  obtain ⟨f1, g1, o1, t1⟩ := field5_1
  have h1 := hff 1 f1 g1
  rw [o1, t1, cells_int] at h1
  obtain ⟨f2, g2, o2, t2⟩ := field5_2
  have h2 := hff 2 f2 g2
  rw [o2, t2, cells_prs] at h2
  obtain ⟨f3, g3, o3, t3⟩ := field5_3
  have h3 := hff 3 f3 g3
  rw [o3, t3, cells_ints] at h3
  obtain ⟨f4, g4, o4, t4⟩ := field5_4
  have h4 := hff 4 f4 g4
  rw [o4, t4, cells_ints] at h4
  have x2 : xs[2]? = some xs[2] := List.getElem?_eq_getElem (by omega)
  have z2 := WL.field hu g2 x2 hz
  rw [t2] at z2
  rw [x2] at h2
  rw [List.getElem?_eq_getElem (by omega)] at h0 h1 h3 h4
  obtain ⟨T, e0, _⟩ := DataW.trod_int Try.underlying3 h0
  obtain ⟨M, e1, _⟩ := DataW.trod_int Try.underlying3 h1
  obtain ⟨y2, e2⟩ := one_in hcl 2 (by decide)
  obtain ⟨y3, e3⟩ := one_in hcl 3 (by decide)
  obtain ⟨y4, e4⟩ := one_in hcl 4 (by decide)
  rw [e2] at h2
  rw [e3] at h3
  rw [e4] at h4
  obtain ⟨ps, pa, pc, rfl, hP, m1, hH⟩ := progs_held h2 z2
  obtain ⟨pl, la, lc, rfl, hL, m2⟩ := ints_held h3
  obtain ⟨dr, da, dc, rfl, hD, m3⟩ := ints_held h4
  refine ⟨T, M, ps, pl, dr, pa, la, da, pc, lc, dc, ?_, ⟨hP, hL, hD, m1, m2, m3⟩, hH⟩
  have hc : v.cells = #[.int .i64 T, .int .i64 M, .slice pa ps.length pc, .slice la pl.length lc, .slice da dr.length dc] := by
    apply Array.toList_inj.1
    have q0 := one_of e0
    have q1 := one_of e1
    have q2 := one_of e2
    have q3 := one_of e3
    have q4 := one_of e4
    generalize v.cells.toList = L at *
    match L, hcl with
    | [y0, y1, y2, y3, y4], _ =>
      simp at q0 q1 q2 q3 q4
      simp [q0, q1, q2, q3, q4]
  cases v with
  | agg cs => rw [← hc]; rfl
  | _ => have := congrArg Array.size hc; simp [Value.cells] at this
end
end Sh
end Go.Proofs.Ytocmdehpbipmlaa
/- A bare script: small, right, its own bare one; Copy and Bare by what lies in memory. -/
namespace Go.Proofs.Ytocmdehpbipmlaa
open Go.ChangeShapes Go.WideShapes Go.ChangeAt Go.RowKit
namespace Sh
open De Ba Re

theorem at_heap {w : World} {D : Nat} {l : List Int} {t : TypeId} (h : w.heap[D]? = some (.cells (row l) t (0, 0))) : At w (some ⟨D, 0, none⟩) l := by
  intro k hk
  refine ⟨D, 0, rfl, ?_⟩
  have := cell_of h k
  rw [Nat.zero_add]
  rw [this, row, List.getElem?_toArray, List.getElem?_map, List.getElem?_eq_getElem hk, nth_lt l k hk]
  rfl
theorem bar_le (l : List Int) : (bar l).length ≤ l.length := List.length_filter_le ..
theorem bar_bar (l : List Int) : bar (bar l) = bar l := by simp [bar]
theorem bar_mem {l : List Int} {x : Int} (h : x ∈ bar l) : x ∈ l ∧ x ≠ -1 := by
  rw [bar, List.mem_filter] at h
  exact ⟨h.1, by simpa using h.2⟩
theorem bar_nth (l : List Int) (k : Nat) (h : k < (bar l).length) : nth (bar l) k ≠ -1 := by
  rw [nth_lt _ k h]
  exact (bar_mem (List.getElem_mem h)).2
theorem Small.bar {ps : List (List OpD)} {pl dr : List Int} (h : Small ps pl dr) : Small ps (bar pl) dr := ⟨h.n, h.q, h.c, Nat.le_trans (bar_le pl) h.p, h.d⟩
theorem schk_of {s : Sc} (h1 : 1 ≤ s.T ∧ s.T ≤ 256) (h2 : 1 ≤ s.M ∧ s.M ≤ 1048576) (h3 : ∀ q ∈ s.ps, q.length ≤ 32) (h4 : s.ps.length ≤ 8) (h5 : s.pl.length ≤ 200) (h6 : s.dr.length ≤ 64) (h7 : 0 < s.ps.length) (h8 : ari s.ps.length s.ps = true) (h9 : ab (-1) 1000 s.pl = true) (h10 : ab 0 1000 s.dr = true) : schk s = 0 := by
  have e : isl s.ps s.pl.length s.dr.length = false := by
    rw [isl_short fun k q hq => h3 q (List.mem_of_getElem? hq)]
    simp
    omega
  have e2 : ¬ s.ps.length = 0 := by omega
  have e3 : decide (s.ps.length = 0) = false := by simpa using e2
  unfold schk
  rw [e, h8, h9, h10, e3]
  simp [h1.1, h1.2, h2.1, h2.2]
theorem schk_bar {T M : Int} {ps : List (List OpD)} {pl dr : List Int} (h : schk ⟨T, M, ps, pl, dr⟩ = 0) : schk ⟨T, M, ps, bar pl, dr⟩ = 0 := by
  obtain ⟨t12, m12, h32, h8, h200, h64, h0, har, hap, had⟩ := schk_zero h
  refine schk_of t12 m12 h32 h8 (Nat.le_trans (bar_le pl) h200) h64 h0 har ?_ had
  rw [ab_iff] at hap ⊢
  exact fun x hx => hap x (bar_mem hx).1

/-- Bare, by what lies in memory -/
theorem bare_s (T M : Int) (ps : List (List OpD)) (pl dr : List Int) (pa la da : Option Addr) (pc lc dc : Nat) (w : World) (hS : SAt w ⟨T, M, ps, pl, dr⟩ pa la da) (hm : Small ps pl dr) (X : List Int) (hX : bar pl = X) :
    Calls Try.prog 23 #[.agg #[.int .i64 T, .int .i64 M, .slice pa ps.length pc, .slice la pl.length lc, .slice da dr.length dc]] w fun r w' => (∃ G L D pc' lc' dc', r = .returned (.agg #[.int .i64 T, .int .i64 M, .slice (some ⟨G, 0, none⟩) ps.length pc', .slice (some ⟨L, 0, none⟩) X.length lc', .slice (some ⟨D, 0, none⟩) dr.length dc']) ∧ SAt w' ⟨T, M, ps, X, dr⟩ (some ⟨G, 0, none⟩) (some ⟨L, 0, none⟩) (some ⟨D, 0, none⟩)) ∧ Below w.heap.size w w' := by
  subst hX
  refine (bare_any T M ps pl dr pa la da pc lc dc w hS hm).mono ?_
  rintro r w' ⟨⟨G, L, D, arr, rfl, ⟨hG, hP, _⟩, ⟨hL, _⟩, hD, _⟩, b⟩
  exact ⟨⟨G, L, D, _, _, _, rfl, ⟨hP.at hG, hL, at_heap hD, hS.h1, Nat.le_trans (bar_le pl) hS.h2, hS.h3⟩⟩, b⟩
end Sh
end Go.Proofs.Ytocmdehpbipmlaa
