/- Package deed: fields, bit, numbers, over this seat's program. -/
import Derived.Test.YtgnhophlnbpcgaaDb
import Derived.Deep.RegionHeld3
import Derived.Deep.AppendLies
namespace Go.Proofs.Ytgnhophlnbpcgaa
open Go.ChangeShapes Go.WideShapes Go.ChangeAt Go.RowKit
namespace De
open Ba Re

/-- how many of A and B a kind's bytes tell -/
def nf (k : Int) : Nat := if k = 2 ∨ k = 3 then 2 else if k = 1 ∨ k = 4 ∨ k = 5 ∨ k = 7 ∨ k = 8 then 1 else 0
theorem fields_1 (B : Nat) (w : World) (h : w.cell? ⟨B, 0, none⟩ = some (.int .i64 1)) :
    Calls Try.prog 58 #[.pointer (some ⟨B, 0, none⟩)] w fun r w' => r = .returned (.slice (some ⟨w.heap.size, 0, none⟩) (nf 1) 2) ∧ w' = (w.alloc (.cells #[.pointer (some ⟨B, 1, none⟩), .pointer (some ⟨B, 2, none⟩)] 106)).drew := by
  go_enter Try.func58, Try.ntmps58
  go_wp2
  go_region
  all_goals
    go_wp2
    go_ret
    exact ⟨rfl, rfl⟩
theorem fields_2 (B : Nat) (w : World) (h : w.cell? ⟨B, 0, none⟩ = some (.int .i64 2)) :
    Calls Try.prog 58 #[.pointer (some ⟨B, 0, none⟩)] w fun r w' => r = .returned (.slice (some ⟨w.heap.size, 0, none⟩) (nf 2) 2) ∧ w' = (w.alloc (.cells #[.pointer (some ⟨B, 1, none⟩), .pointer (some ⟨B, 2, none⟩)] 106)).drew := by
  go_enter Try.func58, Try.ntmps58
  go_wp2
  go_region
  all_goals
    go_wp2
    go_ret
    exact ⟨rfl, rfl⟩
theorem fields_3 (B : Nat) (w : World) (h : w.cell? ⟨B, 0, none⟩ = some (.int .i64 3)) :
    Calls Try.prog 58 #[.pointer (some ⟨B, 0, none⟩)] w fun r w' => r = .returned (.slice (some ⟨w.heap.size, 0, none⟩) (nf 3) 2) ∧ w' = (w.alloc (.cells #[.pointer (some ⟨B, 1, none⟩), .pointer (some ⟨B, 2, none⟩)] 106)).drew := by
  go_enter Try.func58, Try.ntmps58
  go_wp2
  go_region
  all_goals
    go_wp2
    go_ret
    exact ⟨rfl, rfl⟩
theorem fields_4 (B : Nat) (w : World) (h : w.cell? ⟨B, 0, none⟩ = some (.int .i64 4)) :
    Calls Try.prog 58 #[.pointer (some ⟨B, 0, none⟩)] w fun r w' => r = .returned (.slice (some ⟨w.heap.size, 0, none⟩) (nf 4) 2) ∧ w' = (w.alloc (.cells #[.pointer (some ⟨B, 1, none⟩), .pointer (some ⟨B, 2, none⟩)] 106)).drew := by
  go_enter Try.func58, Try.ntmps58
  go_wp2
  go_region
  all_goals
    go_wp2
    go_ret
    exact ⟨rfl, rfl⟩
theorem fields_5 (B : Nat) (w : World) (h : w.cell? ⟨B, 0, none⟩ = some (.int .i64 5)) :
    Calls Try.prog 58 #[.pointer (some ⟨B, 0, none⟩)] w fun r w' => r = .returned (.slice (some ⟨w.heap.size, 0, none⟩) (nf 5) 2) ∧ w' = (w.alloc (.cells #[.pointer (some ⟨B, 1, none⟩), .pointer (some ⟨B, 2, none⟩)] 106)).drew := by
  go_enter Try.func58, Try.ntmps58
  go_wp2
  go_region
  all_goals
    go_wp2
    go_ret
    exact ⟨rfl, rfl⟩
theorem fields_6 (B : Nat) (w : World) (h : w.cell? ⟨B, 0, none⟩ = some (.int .i64 6)) :
    Calls Try.prog 58 #[.pointer (some ⟨B, 0, none⟩)] w fun r w' => r = .returned (.slice (some ⟨w.heap.size, 0, none⟩) (nf 6) 2) ∧ w' = (w.alloc (.cells #[.pointer (some ⟨B, 1, none⟩), .pointer (some ⟨B, 2, none⟩)] 106)).drew := by
  go_enter Try.func58, Try.ntmps58
  go_wp2
  go_region
  all_goals
    go_wp2
    go_ret
    exact ⟨rfl, rfl⟩
theorem fields_7 (B : Nat) (w : World) (h : w.cell? ⟨B, 0, none⟩ = some (.int .i64 7)) :
    Calls Try.prog 58 #[.pointer (some ⟨B, 0, none⟩)] w fun r w' => r = .returned (.slice (some ⟨w.heap.size, 0, none⟩) (nf 7) 2) ∧ w' = (w.alloc (.cells #[.pointer (some ⟨B, 1, none⟩), .pointer (some ⟨B, 2, none⟩)] 106)).drew := by
  go_enter Try.func58, Try.ntmps58
  go_wp2
  go_region
  all_goals
    go_wp2
    go_ret
    exact ⟨rfl, rfl⟩
theorem fields_8 (B : Nat) (w : World) (h : w.cell? ⟨B, 0, none⟩ = some (.int .i64 8)) :
    Calls Try.prog 58 #[.pointer (some ⟨B, 0, none⟩)] w fun r w' => r = .returned (.slice (some ⟨w.heap.size, 0, none⟩) (nf 8) 2) ∧ w' = (w.alloc (.cells #[.pointer (some ⟨B, 1, none⟩), .pointer (some ⟨B, 2, none⟩)] 106)).drew := by
  go_enter Try.func58, Try.ntmps58
  go_wp2
  go_region
  all_goals
    go_wp2
    go_ret
    exact ⟨rfl, rfl⟩
theorem fields_9 (B : Nat) (w : World) (h : w.cell? ⟨B, 0, none⟩ = some (.int .i64 9)) :
    Calls Try.prog 58 #[.pointer (some ⟨B, 0, none⟩)] w fun r w' => r = .returned (.slice (some ⟨w.heap.size, 0, none⟩) (nf 9) 2) ∧ w' = (w.alloc (.cells #[.pointer (some ⟨B, 1, none⟩), .pointer (some ⟨B, 2, none⟩)] 106)).drew := by
  go_enter Try.func58, Try.ntmps58
  go_wp2
  go_region
  all_goals
    go_wp2
    go_ret
    exact ⟨rfl, rfl⟩
theorem fields_other (B : Nat) (k : Int) (w : World) (hk : k < 1 ∨ 9 < k) (h : w.cell? ⟨B, 0, none⟩ = some (.int .i64 k)) :
    Calls Try.prog 58 #[.pointer (some ⟨B, 0, none⟩)] w fun r w' => r = .returned (.slice (some ⟨w.heap.size, 0, none⟩) (nf k) 2) ∧ w' = (w.alloc (.cells #[.pointer (some ⟨B, 1, none⟩), .pointer (some ⟨B, 2, none⟩)] 106)).drew := by
  have e : nf k = 0 := by
    unfold nf
    rw [if_neg (by omega), if_neg (by omega)]
  rw [e]
  have k1 : (k == 1) = false := by simp; omega
  have k2 : (k == 2) = false := by simp; omega
  have k3 : (k == 3) = false := by simp; omega
  have k4 : (k == 4) = false := by simp; omega
  have k5 : (k == 5) = false := by simp; omega
  have k6 : (k == 6) = false := by simp; omega
  have k7 : (k == 7) = false := by simp; omega
  have k8 : (k == 8) = false := by simp; omega
  have k9 : (k == 9) = false := by simp; omega
  clear hk e
  go_enter Try.func58, Try.ntmps58
  go_wp2
  go_region
  all_goals
    go_wp2
    go_ret
    exact ⟨rfl, rfl⟩
theorem fields_any (B : Nat) (k : Int) (w : World) (h : w.cell? ⟨B, 0, none⟩ = some (.int .i64 k)) :
    Calls Try.prog 58 #[.pointer (some ⟨B, 0, none⟩)] w fun r w' => r = .returned (.slice (some ⟨w.heap.size, 0, none⟩) (nf k) 2) ∧ w' = (w.alloc (.cells #[.pointer (some ⟨B, 1, none⟩), .pointer (some ⟨B, 2, none⟩)] 106)).drew := by
  by_cases hk : k < 1 ∨ 9 < k
  · exact fields_other B k w hk h
  · rcases kind_cases (by omega : 1 ≤ k) (by omega : k ≤ 9) with rfl | rfl | rfl | rfl | rfl | rfl | rfl | rfl | rfl
    · exact fields_1 B w h
    · exact fields_2 B w h
    · exact fields_3 B w h
    · exact fields_4 B w h
    · exact fields_5 B w h
    · exact fields_6 B w h
    · exact fields_7 B w h
    · exact fields_8 B w h
    · exact fields_9 B w h

def bt (b : Bool) : Int := bif b then 1 else 0
theorem bit_any (b : Bool) (w : World) :
    Calls Try.prog 76 #[.bool b] w fun r w' => r = .returned (.int .i64 (bt b)) ∧ w' = w := by
  cases b
  all_goals
    go_enter Try.func76, Try.ntmps76
    go_wp2
    go_ret
    exact ⟨rfl, rfl⟩

/-- a case's numbers -/
def cn (x : Cs) : List Int := [bt x.send, x.ch, x.val]
/-- the numbers of an operation's bytes -/
def nums (o : OpD) : List Int := o.kind :: [o.a, o.b].take (nf o.kind) ++ (bif o.kind == 6 then bt o.def_ :: (o.cases.length : Int) :: o.cases.flatMap cn else [])

theorem heap_lt {w : World} {b : Nat} {o : Obj} (h : w.heap[b]? = some o) : b < w.heap.size := by
  rcases Nat.lt_or_ge b w.heap.size with q | q
  · exact q
  · rw [Array.getElem?_eq_none q] at h; cases h
theorem own_ne {w : World} {base : Nat} {v : Value} {n g : Nat} {xs : List Value} {c : Array Value} {t : TypeId} {fr : Nat × Nat} (h : w.ownsRow base 3 1 v n xs) (hg : w.heap[g]? = some (.cells c t fr)) (ht : t ≠ 3) : some g ≠ v.ownBlock := by
  intro e
  rcases h.2 with ⟨rfl, _⟩ | ⟨b, cap, cur, rfl, _, hb, _⟩
  · simp [Value.ownBlock] at e
  · simp [Value.ownBlock] at e
    subst e
    rw [hg] at hb
    simp at hb
    exact ht hb.2.1
theorem flat_take (l : List Cs) (k : Nat) (x : Cs) (h : l[k]? = some x) : (l.take (k + 1)).flatMap cn = (l.take k).flatMap cn ++ [bt x.send, x.ch, x.val] := by
  rw [List.take_add_one, h, List.flatMap_append]
  simp [cn]
theorem flat_len (l : List Cs) (k : Nat) : ((l.take k).flatMap cn).length ≤ 3 * k := by
  induction k generalizing l with
  | zero => simp
  | succ k ih =>
    cases l with
    | nil => simp
    | cons x t =>
      have := ih t
      simp [cn] at this ⊢
      omega
theorem nf_le (k : Int) : nf k ≤ 2 := by
  unfold nf
  repeat' split
  all_goals omega
theorem src_new (w : World) (xs : List Int) : ∀ j u, (xs.map (Value.int .i64))[j]? = some u → (w.alloc (.cells (row xs) 3)).cell? (Addr.add ⟨w.heap.size, 0, none⟩ j) = some u := by
  intro j u hj
  rw [Addr.add_lit, Nat.zero_add, cell_of (heap_new _ _)]
  simpa [row] using hj
/-- what the making of an operation's numbers keeps: the operation at B, the places of A and B at G, the numbers so far -/
structure NK (w wr : World) (B G : Nat) (k a b : Int) (s : Value) (d : Bool) (v : Value) (xs : List Int) : Prop where
  op : wr.heap[B]? = some (.cells #[.int .i64 k, .int .i64 a, .int .i64 b, s, .bool d] 24 (0, 0))
  pt : wr.heap[G]? = some (.cells #[.pointer (some ⟨B, 1, none⟩), .pointer (some ⟨B, 2, none⟩)] 106 (0, 0))
  own : wr.ownsRow w.heap.size 3 1 v xs.length (xs.map (Value.int .i64))
  bel : Below w.heap.size w wr
theorem NK.below {w wr wr' : World} {B G : Nat} {k a b : Int} {s v : Value} {d : Bool} {xs : List Int} (h : NK w wr B G k a b s d v xs) (hb : Below wr.heap.size wr wr') : NK w wr' B G k a b s d v xs :=
  ⟨heap_below h.op hb, heap_below h.pt hb, owns_below h.own hb, btr h.bel hb⟩
theorem NK.grown {w wr wr' : World} {B G : Nat} {k a b : Int} {s v v' : Value} {d : Bool} {xs xs' : List Int} (h : NK w wr B G k a b s d v xs) (hg : wr.grownBy wr' v.ownBlock) (ho : wr'.ownsRow w.heap.size 3 1 v' xs'.length (xs'.map (Value.int .i64))) : NK w wr' B G k a b s d v' xs' :=
  ⟨(hg.block B (heap_lt h.op) (own_ne h.own h.op (by decide))).trans h.op, (hg.block G (heap_lt h.pt) (own_ne h.own h.pt (by decide))).trans h.pt, ho, h.bel.grown hg h.bel.size (fun x hx => (h.own.lt x hx).1)⟩

set_option maxRecDepth 100000 in
set_option maxHeartbeats 1600000 in
theorem numbers_any (o : OpD) (oa : Option Addr) (c : Nat) (w : World) (hA : CAt w oa o.cases) (hl : o.cases.length ≤ 4) :
    Calls Try.prog 66 #[.agg #[.int .i64 o.kind, .int .i64 o.a, .int .i64 o.b, .slice oa o.cases.length c, .bool o.def_]] w fun r w' => (∃ oa' c', r = .returned (.slice oa' (nums o).length c') ∧ At w' oa' (nums o)) ∧ Below w.heap.size w w' := by
  obtain ⟨k, a, b, cs, d⟩ := o
  simp only at hA hl ⊢
  have HA := hide hA
  clear hA
  obtain ⟨i0, hi, hz0, hz1, hz2⟩ := info_parts info_int
  have INF := hide (And.intro hi (And.intro hz0 (And.intro hz1 hz2)))
  clear hi hz0 hz1 hz2
  go_enter Try.func66, Try.ntmps66
  go_wp2_with fail
  refine (fields_any _ k _ (by simp)).mono ?_
  rintro r w1 ⟨rfl, hw1⟩
  have L0 : Hid (NK w w1 w.heap.size (w.heap.size + 2) k a b (.slice oa cs.length c) d (.slice (some ⟨w.heap.size + 1, 0, none⟩) 1 1) [k]) := by
    subst hw1
    generalize hO : Obj.cells #[Value.int .i64 k, .int .i64 a, .int .i64 b, .slice oa cs.length c, .bool d] 24 = O
    generalize hK : Obj.cells #[Value.int .i64 k] 3 = K
    generalize hP : Obj.cells #[Value.pointer (some ⟨w.heap.size, 1, none⟩), .pointer (some ⟨w.heap.size, 2, none⟩)] 106 = P
    have B1 := below_alloc w O
    have B2 := below_alloc (w.alloc O) K
    have B3 := btr (below_alloc ((w.alloc O).alloc K) P) (bdrew1 _)
    have q1 := heap_below (heap_new w O) (btr B2 B3)
    have q2 := heap_below (heap_new (w.alloc O) K) B3
    have q3 := heap_below (heap_new ((w.alloc O).alloc K) P) (bdrew1 _)
    rw [World.size_alloc] at q2
    rw [World.size_alloc, World.size_alloc] at q3
    subst hO hK hP
    exact ⟨q1, q3, ⟨rfl, .inr ⟨w.heap.size + 1, 1, _, rfl, by omega, q2, Nat.le_refl _, by decide, rfl, rfl⟩⟩, btr B1 (btr B2 B3)⟩
  clear hw1
  have hnf := nf_le k
  go_wp2_with fail
  go_loopw [3, 13] (fun l i wr => ∃ (j : Nat) (v : Value), j ≤ nf k ∧ i = .int .i64 (j : Int) ∧ l = v ∧ NK w wr w.heap.size (w.heap.size + 2) k a b (.slice oa cs.length c) d v ([k, a, b].take (j + 1))) (fun _ i _ => nf k - (intOf i).toNat)
  case atStart => exact ⟨0, _, Nat.zero_le _, rfl, rfl, L0.out⟩
  case round =>
    clear L0
    obtain ⟨j, v, hj, rfl, rfl, hnk⟩ := hrel
    by_cases hjn : j < nf k
    · have hjn' : decide ((j : Int) < (nf k : Int)) = true := by simp; omega
      by_cases hj0 : j = 0
      · subst hj0
        have pc := cell_of hnk.pt 0
        have oc := cell_of hnk.op 1
        simp at pc oc
        have L2 := hide (hnk.below (below_alloc wr (.cells #[.int .i64 a] 3)))
        clear hnk
        go_wp2_with (at_builtin; refine wpList_append_own _ rfl _ _ 36 rfl w.heap.size 3 i0 (.int .i64 0) 1 8 Try.underlying36 INF.out.1 INF.out.2.1 INF.out.2.2.1 INF.out.2.2.2 rfl (by decide) _ _ _ rfl L2.out.own ⟨wr.heap.size, 0, none⟩ 1 1 [.int .i64 a] rfl rfl ?c1 ?c2 ?c3 ?c4 ?c5 ?_)
        case c1 => exact src_new wr [a]
        case c2 => intro u hu; simp at hu; subst hu; rfl
        case c3 => unfold maxLen; simp
        case c4 => simp
        case c5 => exact L2.out.bel.size
        intro v' w3 hown hgrow _
        have L3 := hide (L2.out.grown (xs' := [k, a, b].take (0 + 2)) hgrow (by simpa using hown))
        clear hown hgrow
        go_wp2_with fail
        go_roundw
        case rel => exact ⟨1, v', by omega, by go_num, rfl, by simpa using L3.out⟩
        case measure => simp [intOf]; omega
      · have hj1 : j = 1 := by omega
        subst hj1
        have pc := cell_of hnk.pt 1
        have oc := cell_of hnk.op 2
        simp at pc oc
        have L2 := hide (hnk.below (below_alloc wr (.cells #[.int .i64 b] 3)))
        clear hnk
        go_wp2_with (at_builtin; refine wpList_append_own _ rfl _ _ 36 rfl w.heap.size 3 i0 (.int .i64 0) 1 8 Try.underlying36 INF.out.1 INF.out.2.1 INF.out.2.2.1 INF.out.2.2.2 rfl (by decide) _ _ _ rfl L2.out.own ⟨wr.heap.size, 0, none⟩ 1 1 [.int .i64 b] rfl rfl ?c1 ?c2 ?c3 ?c4 ?c5 ?_)
        case c1 => exact src_new wr [b]
        case c2 => intro u hu; simp at hu; subst hu; rfl
        case c3 => unfold maxLen; simp
        case c4 => simp
        case c5 => exact L2.out.bel.size
        intro v' w3 hown hgrow _
        have L3 := hide (L2.out.grown (xs' := [k, a, b].take (1 + 2)) hgrow (by simpa using hown))
        clear hown hgrow
        go_wp2_with fail
        go_roundw
        case rel => exact ⟨2, v', by omega, by go_num, rfl, by simpa using L3.out⟩
        case measure => simp [intOf]; omega
    · have hjn' : decide ((j : Int) < (nf k : Int)) = false := by simp; omega
      have e : j = nf k := by omega
      subst e
      have oc := cell_of hnk.op 0
      simp at oc
      have L2 := hide hnk
      clear hnk
      cases h6 : k == 6
      · have h6' : (k != 6) = true := by simp [bne, h6]
        have EN : Hid (nums ⟨k, a, b, cs, d⟩ = [k, a, b].take (nf k + 1)) := by
          show _ = _
          simp [nums, h6]
        obtain ⟨oa', c', hv', hat'⟩ := owns_at L2.out.own
        subst hv'
        have AT := hide hat'
        clear hat' h6
        go_wp2_with fail
        go_ret
        exact ⟨⟨oa', c', by rw [EN.out]; rfl, by rw [EN.out]; exact AT.out⟩, L2.out.bel⟩
      · have h6' : (k != 6) = false := by simp [bne, h6]
        obtain rfl : k = 6 := by simpa using h6
        clear h6 h6'
        rw [show ([(6 : Int), a, b].take (nf 6 + 1)) = [6] from rfl] at L2
        have oc4 := cell_of L2.out.op 4
        have oc3 := cell_of L2.out.op 3
        have NE := hide (own_ne L2.out.own L2.out.op (by decide))
        have olt := heap_lt L2.out.op
        have BS := hide L2.out.bel.size
        have HN := hide (INF.out)
        simp at oc4 oc3
        go_wp2_with fail
        go_region_held3 (fun w' => w'.cell? ⟨w.heap.size, 4, none⟩ = some (.bool d) ∧ w'.cell? ⟨w.heap.size, 3, none⟩ = some (.slice oa cs.length c))
          (first
            | go_keep
            | (go_split_ands
               refine ⟨?_, ?_⟩
               · (rw [hgrow.cell_far _ (by simp; omega) NE.out]; assumption)
               · (rw [hgrow.cell_far _ (by simp; omega) NE.out]; assumption)))
          (first
            | (go_at_call 76; refine (bit_any _ _).mono ?_; rintro r w' ⟨rfl, rfl⟩)
            | ((refine step_append_lies _ (by rfl) _ _ _ (by rfl) w.heap.size 3 i0 _ 1 8 Try.underlying36 INF.out.1 INF.out.2.1 INF.out.2.2.1 INF.out.2.2.2 rfl (by omega) _ _ _ (by rfl) ((L2.out.own.alloc _).drew) ⟨wr.heap.size, 0, none⟩ 2 2 [.int .i64 (bt d), .int .i64 (cs.length : Int)] (by rfl) (by rfl) (World.news_of_block (cs := #[.int .i64 (bt d), .int .i64 (cs.length : Int)]) (t := 3) (fr := (0, 0)) (heap_alloc_new wr _)) (by simp [Value.oneCell']) (by omega) (by simp [maxLen]) (by simp) (by simp; exact Nat.le_succ_of_le BS.out) (wr.heap.size + 1) (by simp) ?_; intro g cap w3 hown hgrow hat hlt)))
        have L3 := hide ((L2.out.below (btr (below_alloc wr (.cells #[.int .i64 (bt d), .int .i64 (cs.length : Int)] 3)) (bdrew1 _))).grown (xs' := [6, bt d, (cs.length : Int)]) hgrow hown)
        have oc3 := cell_of L3.out.op 3
        simp at oc3
        clear hown hgrow hat hlt NE oc oc4
        go_wp2_with fail
        go_loopw [3, 40] (fun l i wr => ∃ (j : Nat) (v : Value), j ≤ cs.length ∧ i = .int .i64 (j : Int) ∧ l = v ∧ NK w wr w.heap.size (w.heap.size + 2) 6 a b (.slice oa cs.length c) d v ([6, bt d, (cs.length : Int)] ++ (cs.take j).flatMap cn)) (fun _ i _ => cs.length - (intOf i).toNat)
        case atStart => exact ⟨0, _, Nat.zero_le _, rfl, rfl, by simpa using L3.out⟩
        case round =>
          clear L2 L3 oc3 BS olt
          obtain ⟨j, v, hj, rfl, rfl, hnk⟩ := hrel
          by_cases hlt : j < cs.length
          · have hlt' : decide ((j : Int) < (cs.length : Int)) = true := by simp; omega
            obtain ⟨x, hx⟩ : ∃ x, cs[j]? = some x := ⟨cs[j], by simp [hlt]⟩
            obtain ⟨b', off, rfl, q1, q2, q3⟩ := (HA.out.below hnk.bel) j x hx
            have PS := hide (flat_take cs j x hx)
            have LN := hide (flat_len cs j)
            have L5 := hide (hnk.below (below_alloc wr (.cells #[.bool x.send, .int .i64 x.ch, .int .i64 x.val] 58)))
            have HC := hide (heap_new wr (.cells #[.bool x.send, .int .i64 x.ch, .int .i64 x.val] 58))
            obtain ⟨X, hX⟩ : ∃ X : List Int, [6, bt d, (cs.length : Int)] ++ (cs.take j).flatMap cn = X := ⟨_, rfl⟩
            have XL : Hid (X.length + 3 ≤ 1000) := by
              show _ ≤ _
              have := LN.out
              rw [← hX]
              simp at this ⊢
              omega
            rw [hX] at L5
            have HX := hide hX
            clear hnk hx hX
            go_wp2_with fail
            generalize wr.alloc (.cells #[.bool x.send, .int .i64 x.ch, .int .i64 x.val] 58) = W5 at L5 HC ⊢
            have e0 := cell_of HC.out 0
            have e1 := cell_of HC.out 1
            have e2 := cell_of HC.out 2
            simp at e0 e1 e2
            have clt := heap_lt HC.out
            have NE := hide (own_ne L5.out.own HC.out (by decide))
            have BS := hide L5.out.bel.size
            go_region_held3 (fun w' => w'.cell? ⟨wr.heap.size, 0, none⟩ = some (.bool x.send) ∧ w'.cell? ⟨wr.heap.size, 1, none⟩ = some (.int .i64 x.ch) ∧ w'.cell? ⟨wr.heap.size, 2, none⟩ = some (.int .i64 x.val))
              (first
                | go_keep
                | (go_split_ands
                   refine ⟨?_, ?_, ?_⟩
                   · (rw [hgrow.cell_far _ (by simp; omega) NE.out]; assumption)
                   · (rw [hgrow.cell_far _ (by simp; omega) NE.out]; assumption)
                   · (rw [hgrow.cell_far _ (by simp; omega) NE.out]; assumption)))
              (first
                | (go_at_call 76; refine (bit_any _ _).mono ?_; rintro r w' ⟨rfl, rfl⟩)
                | ((refine step_append_lies _ (by rfl) _ _ _ (by rfl) w.heap.size 3 i0 _ 1 8 Try.underlying36 INF.out.1 INF.out.2.1 INF.out.2.2.1 INF.out.2.2.2 rfl (by omega) _ _ _ (by rfl) ((L5.out.own.alloc _).drew) ⟨W5.heap.size, 0, none⟩ 3 3 [.int .i64 (bt x.send), .int .i64 x.ch, .int .i64 x.val] (by rfl) (by rfl) (World.news_of_block (cs := #[.int .i64 (bt x.send), .int .i64 x.ch, .int .i64 x.val]) (t := 3) (fr := (0, 0)) (heap_alloc_new W5 _)) (by simp [Value.oneCell']) (by omega) (by have := XL.out; unfold maxLen; omega) (by have := XL.out; omega) (by simp; exact Nat.le_succ_of_le BS.out) (W5.heap.size + 1) (by simp) ?_; intro g2 cap2 w6 hown hgrow hat2 hlt2)))
            have L6 := hide ((L5.out.below (btr (below_alloc W5 (.cells #[.int .i64 (bt x.send), .int .i64 x.ch, .int .i64 x.val] 3)) (bdrew1 _))).grown (xs' := X ++ [bt x.send, x.ch, x.val]) hgrow (by
              rw [List.map_append, List.length_append]
              exact hown))
            clear hown hgrow hat2 hlt2 e0 e1 e2
            go_wp2_with fail

            go_roundw
            case rel =>
              repeat apply Exists.intro
              refine ⟨⟨j + 1, _, by omega, by go_num, rfl, by
                rw [PS.out, ← List.append_assoc, HX.out]
                exact L6.out⟩, rfl⟩
            case measure => simp [intOf]; omega
          · have hlt' : decide ((j : Int) < (cs.length : Int)) = false := by simp; omega
            have e : j = cs.length := by omega
            subst e
            have EN : Hid (nums ⟨6, a, b, cs, d⟩ = [6, bt d, (cs.length : Int)] ++ (cs.take cs.length).flatMap cn) := by
              show _ = _
              rw [List.take_length]
              rfl
            obtain ⟨oa', c', hv', hat'⟩ := owns_at hnk.own
            subst hv'
            have AT := hide hat'
            have L2 := hide hnk
            clear hat' hnk
            go_wp2_with fail
            go_ret
            exact ⟨⟨oa', c', by rw [EN.out]; rfl, by rw [EN.out]; exact AT.out⟩, L2.out.bel⟩
end De
end Go.Proofs.Ytgnhophlnbpcgaa
