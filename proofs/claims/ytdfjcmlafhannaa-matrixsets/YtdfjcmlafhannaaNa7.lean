/- Layer 25 (matrix), over this seat's program: those, Row, Column, Loops. -/
import Derived.Test.YtdfjcmlafhannaaNa6
import Derived.Test.YtdfjcmlafhannaaBs
import Derived.Laws.EntriesVeiled
namespace Go.Proofs.Ytdfjcmlafhannaa
open Go.ChangeShapes Go.WideShapes Go.ChangeAt Go.RowKit
namespace Mx
open Ba (KB btr heap_lt cell_of frozen_of ret_bool ret_int bdrew bdrew1 heap_new below_alloc heap_below own_below)

/-- the numbers below n that are so -/
def ps (P : Nat → Bool) (n : Nat) : List Int := ((List.range n).filter P).map fun (i : Nat) => (i : Int)
theorem ps_succ (P : Nat → Bool) (n : Nat) : ps P (n + 1) = if P n = true then ps P n ++ [(n : Int)] else ps P n := by
  unfold ps
  rw [List.range_succ, List.filter_append]
  cases h : P n <;> simp [h]
theorem ps_len (P : Nat → Bool) (n : Nat) : (ps P n).length ≤ n := by
  unfold ps
  rw [List.length_map]
  have := List.length_filter_le P (List.range n)
  rw [List.length_range] at this
  exact this
theorem ps_none (n : Nat) : ps (fun _ => false) n = [] := by
  unfold ps
  rw [List.filter_eq_nil_iff.2 (fun _ _ => by simp)]; rfl
theorem ps_congr {P Q : Nat → Bool} {n : Nat} (h : ∀ k, k < n → P k = Q k) : ps P n = ps Q n := by
  unfold ps
  rw [List.filter_congr fun x hx => h x (List.mem_range.1 hx)]
def ic (l : List Int) : List Value := l.map (Value.int .i64)
theorem ic_app (l m : List Int) : ic (l ++ m) = ic l ++ ic m := by simp [ic]
theorem ic_one (l : List Int) : ∀ u ∈ ic l, u.oneCell' = true := by
  intro u hu
  obtain ⟨b, -, rfl⟩ := List.mem_map.1 hu
  rfl
theorem own_slice {w : World} {base : Nat} {e : TypeId} {size n : Nat} {v : Value} {xs : List Value} (h : w.ownsRow base e size v n xs) : ∃ oa c, v = .slice oa n c := by
  rcases h.2 with ⟨rfl, rfl⟩ | ⟨g, cap, cr, rfl, -⟩
  · exact ⟨none, 0, rfl⟩
  · exact ⟨_, _, rfl⟩
set_option maxRecDepth 100000 in
set_option maxHeartbeats 1600000 in
theorem those_any (FN : FuncId) (caps : Array Value) (hn : ∀ (a : Array Value) (u : World), (callFunc FN a).run Try.prog u = .ok (.enter FN a) u) (P : Nat → Bool) (p : Option Addr) (n : Nat) (hle : n ≤ 1024) (w : World)
    (SZ0 : ∀ u, Below w.heap.size w u → Calls Try.prog 20 #[.pointer p] u fun e w' => e = .returned (.int .i64 (n : Int)) ∧ w' = u)
    (CL0 : ∀ (k : Nat) (u : World), k < n → Below w.heap.size w u → Calls Try.prog FN (#[.int .i64 (k : Int)] ++ caps) u fun r w' => r = .returned (.bool (P k)) ∧ Below u.heap.size u w') :
    Calls Try.prog 26 #[.pointer p, .func (.func FN) #[] caps] w fun r w' => ∃ v, r = .returned v ∧ w'.ownsRow w.heap.size 3 1 v (ps P n).length (ic (ps P n)) ∧ Below w.heap.size w w' := by
  obtain ⟨i0, hi, hz0, hz1, hz2⟩ := info_parts Ba.info_int
  have INF := hide (And.intro hi (And.intro hz0 (And.intro hz1 hz2)))
  have SZ := hide SZ0
  have CL := hide CL0
  clear SZ0 CL0 hi hz0 hz1 hz2
  go_enter Try.func26, Try.ntmps26
  go_wp2_with fail
  refine (SZ.out _ (Below.refl _ _)).mono ?_
  rintro e w1 ⟨rfl, e1⟩
  obtain rfl := e1.symm
  go_wp2_with fail
  go_loopw [5, 9] (fun rv i wr => ∃ (v : Value) (k : Nat), k ≤ n ∧ i = .int .i64 k ∧ rv = v ∧ wr.ownsRow w.heap.size 3 1 v (ps P k).length (ic (ps P k)) ∧ Below w.heap.size w wr) (fun _ i _ => n - (intOf i).toNat)
  case atStart => exact ⟨_, 0, Nat.zero_le _, rfl, rfl, World.ownsRow_nil _ _ _ _, Below.refl _ _⟩
  case round =>
    obtain ⟨v, k, hk, rfl, rfl, ho, hb⟩ := hrel
    by_cases hlt : k < n
    · have hlt' : (k : Int) < (n : Int) := by omega
      have SU := hide (ps_succ P k)
      have hpl := ps_len P k
      have HB := hide hb
      have OW := hide ho
      have CLK := hide (CL.out k wr hlt hb)
      clear hb ho
      obtain ⟨X, hX⟩ : ∃ X, X = ps P k := ⟨_, rfl⟩
      rw [← hX] at SU hpl OW
      clear hX
      obtain ⟨oa, c, rfl⟩ := own_slice OW.out
      cases hP : P k
      · have EX : Hid (ps P (k + 1) = X) := by show _ = _; rw [SU.out, hP]; simp
        rw [hP] at CLK
        clear hP
        go_wp2_with fail
        refine CLK.out.mono ?_
        rintro e z2 ⟨rfl, k2⟩
        have HB2 := hide (btr HB.out k2)
        have O3 : Hid (z2.ownsRow w.heap.size 3 1 (.slice oa X.length c) (ps P (k + 1)).length (ic (ps P (k + 1)))) := by
          show World.ownsRow _ _ _ _ _ _ _
          rw [EX.out]
          exact own_below OW.out k2
        clear k2
        go_wp2_with fail
        go_roundw
        case rel =>
          first
            | exact ⟨_, k + 1, by omega, by go_num, rfl, O3.out, HB2.out⟩
            | exact ⟨k + 1, by omega, by go_num, O3.out, HB2.out⟩
        case measure => simp [intOf]; omega
      · have EX : Hid (ps P (k + 1) = X ++ [(k : Int)]) := by show _ = _; rw [SU.out, hP]; simp
        rw [hP] at CLK
        clear hP
        go_wp2_with fail
        refine CLK.out.mono ?_
        rintro e z2 ⟨rfl, k2⟩
        have HB2 := hide (btr HB.out k2)
        have OW2 := hide (own_below OW.out k2)
        have BY := below_alloc z2 (.cells #[.int .i64 (k : Int)] 3)
        have OW3 := hide (own_below OW2.out BY)
        have HB3 := hide (btr HB2.out BY)
        have SRC := hide (cell_one_new z2 (.int .i64 (k : Int)) 3)
        clear BY OW2 HB2 k2
        go_wp2_with (at_builtin; refine wpList_append_own _ rfl _ _ 36 rfl w.heap.size 3 i0 (.int .i64 0) 1 8 Try.underlying36 INF.out.1 INF.out.2.1 INF.out.2.2.1 INF.out.2.2.2 rfl (by decide) _ _ _ rfl OW3.out ⟨z2.heap.size, 0, none⟩ 1 1 [.int .i64 (k : Int)] rfl rfl ?c1 ?c2 ?c3 ?c4 ?c5 ?_)
        case c1 => exact SRC.out
        case c2 => exact ic_one [(k : Int)]
        case c3 => unfold maxLen; omega
        case c4 => omega
        case c5 => exact HB3.out.size
        intro v' w3 ho hg3 _
        have B3 : Hid (Below w.heap.size w w3) := HB3.out.grown hg3 HB3.out.size (fun x hx => (OW3.out.lt x hx).1)
        have O3 : Hid (w3.ownsRow w.heap.size 3 1 v' (ps P (k + 1)).length (ic (ps P (k + 1)))) := by
          show World.ownsRow _ _ _ _ _ _ _
          rw [EX.out, ic_app, List.length_append]
          exact ho
        clear ho hg3
        go_wp2_with fail
        go_roundw
        case rel =>
          first
            | exact ⟨v', k + 1, by omega, by go_num, rfl, O3.out, B3.out⟩
            | ((repeat apply Exists.intro); exact ⟨⟨v', k + 1, by omega, by go_num, rfl, O3.out, B3.out⟩, rfl⟩)
        case measure => simp [intOf]; omega
    · have hlt' : ¬ ((k : Int) < (n : Int)) := by omega
      obtain rfl : k = n := by omega
      obtain ⟨oa, c, rfl⟩ := own_slice ho
      have HO := hide ho
      have HB := hide hb
      clear ho hb
      go_wp2_with fail
      go_ret
      exact ⟨_, rfl, HO.out, HB.out⟩
/-- what Has answers of whatever numbers -/
def hsI (n : Nat) (r : Rws) (i k : Int) : Bool := inB n i k && hs r i.toNat k.toNat
theorem has_any {w : World} {M R W n : Nat} {r : Rws} (m : MW w M R W n r) (i k : Int) :
    Calls Try.prog 13 #[.pointer (some ⟨M, 0, none⟩), .int .i64 i, .int .i64 k] w fun e w' => e = .returned (.bool (hsI n r i k)) ∧ ∃ q, w' = w.drewN q := by
  cases h : inB n i k
  · refine (has_out m i k h).mono ?_
    rintro e w1 ⟨rfl, q⟩
    exact ⟨by simp [hsI, h], q⟩
  · have hq := (inB_iff n i k).1 h
    obtain ⟨a, rfl⟩ := Int.eq_ofNat_of_zero_le hq.1
    obtain ⟨b, rfl⟩ := Int.eq_ofNat_of_zero_le hq.2.1
    refine (has_in m a b (by omega) (by omega)).mono ?_
    rintro e w1 ⟨rfl, q⟩
    exact ⟨by simp [hsI, h], q⟩
/-- nil, or a matrix -/
def PO (w : World) (p : Option Addr) (n : Nat) (r : Rws) : Prop := n ≤ 1024 ∧ ((p = none ∧ n = 0) ∨ ∃ M R W, p = some ⟨M, 0, none⟩ ∧ MW w M R W n r)
theorem PO.below {w w' : World} {p : Option Addr} {n : Nat} {r : Rws} (h : PO w p n r) (b : Below w.heap.size w w') : PO w' p n r := by
  obtain ⟨h0, h | ⟨M, R, W, rfl, m⟩⟩ := h
  · exact ⟨h0, .inl h⟩
  · exact ⟨h0, .inr ⟨M, R, W, rfl, m.below b⟩⟩
theorem PO.size {w : World} {p : Option Addr} {n : Nat} {r : Rws} (h : PO w p n r) : Calls Try.prog 20 #[.pointer p] w fun e w' => e = .returned (.int .i64 (n : Int)) ∧ w' = w := by
  obtain ⟨h0, ⟨rfl, rfl⟩ | ⟨M, R, W, rfl, m⟩⟩ := h
  · exact size_nil w
  · exact size_any m
theorem PO.has {w : World} {p : Option Addr} {n : Nat} {r : Rws} (h : PO w p n r) (i k : Int) : Calls Try.prog 13 #[.pointer p, .int .i64 i, .int .i64 k] w fun e w' => e = .returned (.bool (hsI n r i k)) ∧ ∃ q, w' = w.drewN q := by
  obtain ⟨h0, ⟨rfl, rfl⟩ | ⟨M, R, W, rfl, m⟩⟩ := h
  · have : hsI 0 r i k = false := by
      have : inB 0 i k = false := by
        cases e : inB 0 i k
        · rfl
        · have := (inB_iff 0 i k).1 e; omega
      simp [hsI, this]
    rw [this]
    exact has_nil w i k
  · exact has_any m i k
set_option maxHeartbeats 800000 in
theorem row1_any {u : World} {p : Option Addr} {n : Nat} {r : Rws} (h : PO u p n r) (A B : Nat) (i k : Int) (hA : u.cell? ⟨A, 0, none⟩ = some (.pointer p)) (hB : u.cell? ⟨B, 0, none⟩ = some (.int .i64 i)) :
    Calls Try.prog 27 #[.int .i64 k, .pointer (some ⟨A, 0, none⟩), .pointer (some ⟨B, 0, none⟩)] u fun e w' => e = .returned (.bool (hsI n r i k)) ∧ Below u.heap.size u w' := by
  have HA := hide (h.has i k)
  generalize hsI n r i k = b at *
  clear h
  go_enter Try.func27, Try.ntmps27
  go_wp2_with fail
  refine HA.out.mono ?_
  rintro e w1 ⟨rfl, q, rfl⟩
  go_wp2_with fail
  go_ret
  exact ⟨rfl, bdrew _ _⟩
set_option maxHeartbeats 800000 in
theorem col1_any {u : World} {p : Option Addr} {n : Nat} {r : Rws} (h : PO u p n r) (A B : Nat) (i k : Int) (hA : u.cell? ⟨A, 0, none⟩ = some (.pointer p)) (hB : u.cell? ⟨B, 0, none⟩ = some (.int .i64 i)) :
    Calls Try.prog 28 #[.int .i64 k, .pointer (some ⟨A, 0, none⟩), .pointer (some ⟨B, 0, none⟩)] u fun e w' => e = .returned (.bool (hsI n r k i)) ∧ Below u.heap.size u w' := by
  have HA := hide (h.has k i)
  generalize hsI n r k i = b at *
  clear h
  go_enter Try.func28, Try.ntmps28
  go_wp2_with fail
  refine HA.out.mono ?_
  rintro e w1 ⟨rfl, q, rfl⟩
  go_wp2_with fail
  go_ret
  exact ⟨rfl, bdrew _ _⟩
set_option maxHeartbeats 800000 in
theorem loo1_any {u : World} {p : Option Addr} {n : Nat} {r : Rws} (h : PO u p n r) (A : Nat) (k : Int) (hA : u.cell? ⟨A, 0, none⟩ = some (.pointer p)) :
    Calls Try.prog 29 #[.int .i64 k, .pointer (some ⟨A, 0, none⟩)] u fun e w' => e = .returned (.bool (hsI n r k k)) ∧ Below u.heap.size u w' := by
  have HA := hide (h.has k k)
  generalize hsI n r k k = b at *
  clear h
  go_enter Try.func29, Try.ntmps29
  go_wp2_with fail
  refine HA.out.mono ?_
  rintro e w1 ⟨rfl, q, rfl⟩
  go_wp2_with fail
  go_ret
  exact ⟨rfl, bdrew _ _⟩
theorem cellB {w w' : World} {a : Addr} {v : Value} (h : w.cell? a = some v) (b : Below w.heap.size w w') : w'.cell? a = some v := (b.cell (World.block_lt_of_cell? w _ h)).trans h
theorem cell_new1 (w : World) (v : Value) (t : TypeId) : (w.alloc (.cells #[v] t)).cell? ⟨w.heap.size, 0, none⟩ = some v := by rw [cell_of (heap_new _ _)]; rfl
set_option maxHeartbeats 800000 in
theorem row_any {w : World} {p : Option Addr} {n : Nat} {r : Rws} (h : PO w p n r) (i : Int) :
    Calls Try.prog 16 #[.pointer p, .int .i64 i] w fun e w' => ∃ oa c, e = .returned (.slice oa (ps (fun k => hsI n r i (k : Int)) n).length c) ∧ Ba.At w' oa (ps (fun k => hsI n r i (k : Int)) n) ∧ Below w.heap.size w w' := by
  have b1 := below_alloc w (.cells #[.pointer p] 24)
  have b2 := below_alloc (w.alloc (.cells #[.pointer p] 24)) (.cells #[.int .i64 i] 3)
  have TH := hide (those_any 27 #[.pointer (some ⟨w.heap.size, 0, none⟩), .pointer (some ⟨w.heap.size + 1, 0, none⟩)] (fun a u => by kernel_rfl) (fun k => hsI n r i (k : Int)) p n h.1 ((w.alloc (.cells #[.pointer p] 24)).alloc (.cells #[.int .i64 i] 3))
    (fun u b => ((h.below b1).below (btr b2 b)).size)
    (fun k u _ b => row1_any ((h.below b1).below (btr b2 b)) w.heap.size (w.heap.size + 1) i (k : Int) (cellB (cellB (cell_new1 w _ _) b2) b) (cellB (by have := cell_new1 (w.alloc (.cells #[.pointer p] 24)) (.int .i64 i) 3; rw [World.size_alloc] at this; exact this) b)))
  have HB := hide (btr b1 b2)
  clear h b1 b2
  generalize ps (fun k => hsI n r i (k : Int)) n = X at *
  go_enter Try.func16, Try.ntmps16
  go_wp2_with fail
  refine TH.out.mono ?_
  rintro e w1 ⟨v, rfl, o1, c1⟩
  obtain ⟨oa, c, rfl, A1⟩ := Ba.owns_at o1
  have AA := hide A1
  have BB := hide (btr HB.out c1)
  clear A1 o1 c1
  go_wp2_with fail
  go_ret
  exact ⟨oa, c, rfl, AA.out, BB.out⟩
set_option maxHeartbeats 800000 in
theorem col_any {w : World} {p : Option Addr} {n : Nat} {r : Rws} (h : PO w p n r) (i : Int) :
    Calls Try.prog 17 #[.pointer p, .int .i64 i] w fun e w' => ∃ oa c, e = .returned (.slice oa (ps (fun k => hsI n r (k : Int) i) n).length c) ∧ Ba.At w' oa (ps (fun k => hsI n r (k : Int) i) n) ∧ Below w.heap.size w w' := by
  have b1 := below_alloc w (.cells #[.pointer p] 24)
  have b2 := below_alloc (w.alloc (.cells #[.pointer p] 24)) (.cells #[.int .i64 i] 3)
  have TH := hide (those_any 28 #[.pointer (some ⟨w.heap.size, 0, none⟩), .pointer (some ⟨w.heap.size + 1, 0, none⟩)] (fun a u => by kernel_rfl) (fun k => hsI n r (k : Int) i) p n h.1 ((w.alloc (.cells #[.pointer p] 24)).alloc (.cells #[.int .i64 i] 3))
    (fun u b => ((h.below b1).below (btr b2 b)).size)
    (fun k u _ b => col1_any ((h.below b1).below (btr b2 b)) w.heap.size (w.heap.size + 1) i (k : Int) (cellB (cellB (cell_new1 w _ _) b2) b) (cellB (by have := cell_new1 (w.alloc (.cells #[.pointer p] 24)) (.int .i64 i) 3; rw [World.size_alloc] at this; exact this) b)))
  have HB := hide (btr b1 b2)
  clear h b1 b2
  generalize ps (fun k => hsI n r (k : Int) i) n = X at *
  go_enter Try.func17, Try.ntmps17
  go_wp2_with fail
  refine TH.out.mono ?_
  rintro e w1 ⟨v, rfl, o1, c1⟩
  obtain ⟨oa, c, rfl, A1⟩ := Ba.owns_at o1
  have AA := hide A1
  have BB := hide (btr HB.out c1)
  clear A1 o1 c1
  go_wp2_with fail
  go_ret
  exact ⟨oa, c, rfl, AA.out, BB.out⟩
set_option maxHeartbeats 800000 in
theorem loo_any {w : World} {p : Option Addr} {n : Nat} {r : Rws} (h : PO w p n r) :
    Calls Try.prog 18 #[.pointer p] w fun e w' => ∃ oa c, e = .returned (.slice oa (ps (fun k => hsI n r (k : Int) (k : Int)) n).length c) ∧ Ba.At w' oa (ps (fun k => hsI n r (k : Int) (k : Int)) n) ∧ Below w.heap.size w w' := by
  have b1 := below_alloc w (.cells #[.pointer p] 24)
  have TH := hide (those_any 29 #[.pointer (some ⟨w.heap.size, 0, none⟩)] (fun a u => by kernel_rfl) (fun k => hsI n r (k : Int) (k : Int)) p n h.1 (w.alloc (.cells #[.pointer p] 24))
    (fun u b => ((h.below b1).below b).size)
    (fun k u _ b => loo1_any ((h.below b1).below b) w.heap.size (k : Int) (cellB (cell_new1 w _ _) b)))
  have HB := hide b1
  clear h b1
  generalize ps (fun k => hsI n r (k : Int) (k : Int)) n = X at *
  go_enter Try.func18, Try.ntmps18
  go_wp2_with fail
  refine TH.out.mono ?_
  rintro e w1 ⟨v, rfl, o1, c1⟩
  obtain ⟨oa, c, rfl, A1⟩ := Ba.owns_at o1
  have AA := hide A1
  have BB := hide (btr HB.out c1)
  clear A1 o1 c1
  go_wp2_with fail
  go_ret
  exact ⟨oa, c, rfl, AA.out, BB.out⟩
end Mx
end Go.Proofs.Ytdfjcmlafhannaa
