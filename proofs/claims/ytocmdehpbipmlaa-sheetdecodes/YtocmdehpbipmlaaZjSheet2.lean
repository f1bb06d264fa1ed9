import Derived.Test.YtocmdehpbipmlaaZjSheet1
import Derived.Deep.RegionHeld3
import Derived.Deep.AppendLies
/- Package deed: fields, bit, numbers, over this seat's program. -/
namespace Go.Proofs.Ytocmdehpbipmlaa
open Go.ChangeShapes Go.WideShapes Go.ChangeAt Go.RowKit
namespace De
open Ba Re

/-- how many of A and B a kind's bytes tell -/
def nf (k : Int) : Nat := if k = 2 ∨ k = 3 then 2 else if k = 1 ∨ k = 4 ∨ k = 5 ∨ k = 7 ∨ k = 8 then 1 else 0
theorem fields_1 (B : Nat) (w : World) (h : w.cell? ⟨B, 0, none⟩ = some (.int .i64 1)) :
    Calls Try.prog 58 #[.pointer (some ⟨B, 0, none⟩)] w fun r w' => r = .returned (.slice (some ⟨w.heap.size, 0, none⟩) (nf 1) 2) ∧ w' = (w.alloc (.cells #[.pointer (some ⟨B, 1, none⟩), .pointer (some ⟨B, 2, none⟩)] 106)).drew := by
  go_enter Try.func58, Try.ntmps58
  go_wp2
  go_region
  all_goals
    go_wp2
    go_ret
    exact ⟨rfl, rfl⟩
theorem fields_2 (B : Nat) (w : World) (h : w.cell? ⟨B, 0, none⟩ = some (.int .i64 2)) :
    Calls Try.prog 58 #[.pointer (some ⟨B, 0, none⟩)] w fun r w' => r = .returned (.slice (some ⟨w.heap.size, 0, none⟩) (nf 2) 2) ∧ w' = (w.alloc (.cells #[.pointer (some ⟨B, 1, none⟩), .pointer (some ⟨B, 2, none⟩)] 106)).drew := by
  go_enter Try.func58, Try.ntmps58
  go_wp2
  go_region
  all_goals
    go_wp2
    go_ret
    exact ⟨rfl, rfl⟩
theorem fields_3 (B : Nat) (w : World) (h : w.cell? ⟨B, 0, none⟩ = some (.int .i64 3)) :
    Calls Try.prog 58 #[.pointer (some ⟨B, 0, none⟩)] w fun r w' => r = .returned (.slice (some ⟨w.heap.size, 0, none⟩) (nf 3) 2) ∧ w' = (w.alloc (.cells #[.pointer (some ⟨B, 1, none⟩), .pointer (some ⟨B, 2, none⟩)] 106)).drew := by
  go_enter Try.func58, Try.ntmps58
  go_wp2
  go_region
  all_goals
    go_wp2
    go_ret
    exact ⟨rfl, rfl⟩
theorem fields_4 (B : Nat) (w : World) (h : w.cell? ⟨B, 0, none⟩ = some (.int .i64 4)) :
    Calls Try.prog 58 #[.pointer (some ⟨B, 0, none⟩)] w fun r w' => r = .returned (.slice (some ⟨w.heap.size, 0, none⟩) (nf 4) 2) ∧ w' = (w.alloc (.cells #[.pointer (some ⟨B, 1, none⟩), .pointer (some ⟨B, 2, none⟩)] 106)).drew := by
  go_enter Try.func58, Try.ntmps58
  go_wp2
  go_region
  all_goals
    go_wp2
    go_ret
    exact ⟨rfl, rfl⟩
theorem fields_5 (B : Nat) (w : World) (h : w.cell? ⟨B, 0, none⟩ = some (.int .i64 5)) :
    Calls Try.prog 58 #[.pointer (some ⟨B, 0, none⟩)] w fun r w' => r = .returned (.slice (some ⟨w.heap.size, 0, none⟩) (nf 5) 2) ∧ w' = (w.alloc (.cells #[.pointer (some ⟨B, 1, none⟩), .pointer (some ⟨B, 2, none⟩)] 106)).drew := by
  go_enter Try.func58, Try.ntmps58
  go_wp2
  go_region
  all_goals
    go_wp2
    go_ret
    exact ⟨rfl, rfl⟩
theorem fields_6 (B : Nat) (w : World) (h : w.cell? ⟨B, 0, none⟩ = some (.int .i64 6)) :
    Calls Try.prog 58 #[.pointer (some ⟨B, 0, none⟩)] w fun r w' => r = .returned (.slice (some ⟨w.heap.size, 0, none⟩) (nf 6) 2) ∧ w' = (w.alloc (.cells #[.pointer (some ⟨B, 1, none⟩), .pointer (some ⟨B, 2, none⟩)] 106)).drew := by
  go_enter Try.func58, Try.ntmps58
  go_wp2
  go_region
  all_goals
    go_wp2
    go_ret
    exact ⟨rfl, rfl⟩
theorem fields_7 (B : Nat) (w : World) (h : w.cell? ⟨B, 0, none⟩ = some (.int .i64 7)) :
    Calls Try.prog 58 #[.pointer (some ⟨B, 0, none⟩)] w fun r w' => r = .returned (.slice (some ⟨w.heap.size, 0, none⟩) (nf 7) 2) ∧ w' = (w.alloc (.cells #[.pointer (some ⟨B, 1, none⟩), .pointer (some ⟨B, 2, none⟩)] 106)).drew := by
  go_enter Try.func58, Try.ntmps58
  go_wp2
  go_region
  all_goals
    go_wp2
    go_ret
    exact ⟨rfl, rfl⟩
theorem fields_8 (B : Nat) (w : World) (h : w.cell? ⟨B, 0, none⟩ = some (.int .i64 8)) :
    Calls Try.prog 58 #[.pointer (some ⟨B, 0, none⟩)] w fun r w' => r = .returned (.slice (some ⟨w.heap.size, 0, none⟩) (nf 8) 2) ∧ w' = (w.alloc (.cells #[.pointer (some ⟨B, 1, none⟩), .pointer (some ⟨B, 2, none⟩)] 106)).drew := by
  go_enter Try.func58, Try.ntmps58
  go_wp2
  go_region
  all_goals
    go_wp2
    go_ret
    exact ⟨rfl, rfl⟩
theorem fields_9 (B : Nat) (w : World) (h : w.cell? ⟨B, 0, none⟩ = some (.int .i64 9)) :
    Calls Try.prog 58 #[.pointer (some ⟨B, 0, none⟩)] w fun r w' => r = .returned (.slice (some ⟨w.heap.size, 0, none⟩) (nf 9) 2) ∧ w' = (w.alloc (.cells #[.pointer (some ⟨B, 1, none⟩), .pointer (some ⟨B, 2, none⟩)] 106)).drew := by
  go_enter Try.func58, Try.ntmps58
  go_wp2
  go_region
  all_goals
    go_wp2
    go_ret
    exact ⟨rfl, rfl⟩
theorem fields_other (B : Nat) (k : Int) (w : World) (hk : k < 1 ∨ 9 < k) (h : w.cell? ⟨B, 0, none⟩ = some (.int .i64 k)) :
    Calls Try.prog 58 #[.pointer (some ⟨B, 0, none⟩)] w fun r w' => r = .returned (.slice (some ⟨w.heap.size, 0, none⟩) (nf k) 2) ∧ w' = (w.alloc (.cells #[.pointer (some ⟨B, 1, none⟩), .pointer (some ⟨B, 2, none⟩)] 106)).drew := by
  have e : nf k = 0 := by
    unfold nf
    rw [if_neg (by omega), if_neg (by omega)]
  rw [e]
  have k1 : (k == 1) = false := by simp; omega
  have k2 : (k == 2) = false := by simp; omega
  have k3 : (k == 3) = false := by simp; omega
  have k4 : (k == 4) = false := by simp; omega
  have k5 : (k == 5) = false := by simp; omega
  have k6 : (k == 6) = false := by simp; omega
  have k7 : (k == 7) = false := by simp; omega
  have k8 : (k == 8) = false := by simp; omega
  have k9 : (k == 9) = false := by simp; omega
  clear hk e
  go_enter Try.func58, Try.ntmps58
  go_wp2
  go_region
  all_goals
    go_wp2
    go_ret
    exact ⟨rfl, rfl⟩
theorem fields_any (B : Nat) (k : Int) (w : World) (h : w.cell? ⟨B, 0, none⟩ = some (.int .i64 k)) :
    Calls Try.prog 58 #[.pointer (some ⟨B, 0, none⟩)] w fun r w' => r = .returned (.slice (some ⟨w.heap.size, 0, none⟩) (nf k) 2) ∧ w' = (w.alloc (.cells #[.pointer (some ⟨B, 1, none⟩), .pointer (some ⟨B, 2, none⟩)] 106)).drew := by
  by_cases hk : k < 1 ∨ 9 < k
  · exact fields_other B k w hk h
  · rcases kind_cases (by omega : 1 ≤ k) (by omega : k ≤ 9) with rfl | rfl | rfl | rfl | rfl | rfl | rfl | rfl | rfl
    · exact fields_1 B w h
    · exact fields_2 B w h
    · exact fields_3 B w h
    · exact fields_4 B w h
    · exact fields_5 B w h
    · exact fields_6 B w h
    · exact fields_7 B w h
    · exact fields_8 B w h
    · exact fields_9 B w h

def bt (b : Bool) : Int := bif b then 1 else 0
theorem bit_any (b : Bool) (w : World) :
    Calls Try.prog 76 #[.bool b] w fun r w' => r = .returned (.int .i64 (bt b)) ∧ w' = w := by
  cases b
  all_goals
    go_enter Try.func76, Try.ntmps76
    go_wp2
    go_ret
    exact ⟨rfl, rfl⟩

/-- a case's numbers -/
def cn (x : Cs) : List Int := [bt x.send, x.ch, x.val]
/-- the numbers of an operation's bytes -/
def nums (o : OpD) : List Int := o.kind :: [o.a, o.b].take (nf o.kind) ++ (bif o.kind == 6 then bt o.def_ :: (o.cases.length : Int) :: o.cases.flatMap cn else [])

theorem heap_lt {w : World} {b : Nat} {o : Obj} (h : w.heap[b]? = some o) : b < w.heap.size := by
  rcases Nat.lt_or_ge b w.heap.size with q | q
  · exact q
  · rw [Array.getElem?_eq_none q] at h; cases h
theorem own_ne {w : World} {base : Nat} {v : Value} {n g : Nat} {xs : List Value} {c : Array Value} {t : TypeId} {fr : Nat × Nat} (h : w.ownsRow base 3 1 v n xs) (hg : w.heap[g]? = some (.cells c t fr)) (ht : t ≠ 3) : some g ≠ v.ownBlock := by
  intro e
  rcases h.2 with ⟨rfl, _⟩ | ⟨b, cap, cur, rfl, _, hb, _⟩
  · simp [Value.ownBlock] at e
  · simp [Value.ownBlock] at e
    subst e
    rw [hg] at hb
    simp at hb
    exact ht hb.2.1
theorem flat_take (l : List Cs) (k : Nat) (x : Cs) (h : l[k]? = some x) : (l.take (k + 1)).flatMap cn = (l.take k).flatMap cn ++ [bt x.send, x.ch, x.val] := by
  rw [List.take_add_one, h, List.flatMap_append]
  simp [cn]
theorem flat_len (l : List Cs) (k : Nat) : ((l.take k).flatMap cn).length ≤ 3 * k := by
  induction k generalizing l with
  | zero => simp
  | succ k ih =>
    cases l with
    | nil => simp
    | cons x t =>
      have := ih t
      simp [cn] at this ⊢
      omega
theorem nf_le (k : Int) : nf k ≤ 2 := by
  unfold nf
  repeat' split
  all_goals omega
theorem src_new (w : World) (xs : List Int) : ∀ j u, (xs.map (Value.int .i64))[j]? = some u → (w.alloc (.cells (row xs) 3)).cell? (Addr.add ⟨w.heap.size, 0, none⟩ j) = some u := by
  intro j u hj
  rw [Addr.add_lit, Nat.zero_add, cell_of (heap_new _ _)]
  simpa [row] using hj
/-- what the making of an operation's numbers keeps: the operation at B, the places of A and B at G, the numbers so far -/
structure NK (w wr : World) (B G : Nat) (k a b : Int) (s : Value) (d : Bool) (v : Value) (xs : List Int) : Prop where
  op : wr.heap[B]? = some (.cells #[.int .i64 k, .int .i64 a, .int .i64 b, s, .bool d] 24 (0, 0))
  pt : wr.heap[G]? = some (.cells #[.pointer (some ⟨B, 1, none⟩), .pointer (some ⟨B, 2, none⟩)] 106 (0, 0))
  own : wr.ownsRow w.heap.size 3 1 v xs.length (xs.map (Value.int .i64))
  bel : Below w.heap.size w wr
theorem NK.below {w wr wr' : World} {B G : Nat} {k a b : Int} {s v : Value} {d : Bool} {xs : List Int} (h : NK w wr B G k a b s d v xs) (hb : Below wr.heap.size wr wr') : NK w wr' B G k a b s d v xs :=
  ⟨heap_below h.op hb, heap_below h.pt hb, owns_below h.own hb, btr h.bel hb⟩
theorem NK.grown {w wr wr' : World} {B G : Nat} {k a b : Int} {s v v' : Value} {d : Bool} {xs xs' : List Int} (h : NK w wr B G k a b s d v xs) (hg : wr.grownBy wr' v.ownBlock) (ho : wr'.ownsRow w.heap.size 3 1 v' xs'.length (xs'.map (Value.int .i64))) : NK w wr' B G k a b s d v' xs' :=
  ⟨(hg.block B (heap_lt h.op) (own_ne h.own h.op (by decide))).trans h.op, (hg.block G (heap_lt h.pt) (own_ne h.own h.pt (by decide))).trans h.pt, ho, h.bel.grown hg h.bel.size (fun x hx => (h.own.lt x hx).1)⟩

set_option maxRecDepth 100000 in
set_option maxHeartbeats 1600000 in
theorem numbers_any (o : OpD) (oa : Option Addr) (c : Nat) (w : World) (hA : CAt w oa o.cases) (hl : o.cases.length ≤ 4) :
    Calls Try.prog 66 #[.agg #[.int .i64 o.kind, .int .i64 o.a, .int .i64 o.b, .slice oa o.cases.length c, .bool o.def_]] w fun r w' => (∃ oa' c', r = .returned (.slice oa' (nums o).length c') ∧ At w' oa' (nums o)) ∧ Below w.heap.size w w' := by
  obtain ⟨k, a, b, cs, d⟩ := o
  simp only at hA hl ⊢
  have HA := hide hA
  clear hA
  obtain ⟨i0, hi, hz0, hz1, hz2⟩ := info_parts info_int
  have INF := hide (And.intro hi (And.intro hz0 (And.intro hz1 hz2)))
  clear hi hz0 hz1 hz2
  go_enter Try.func66, Try.ntmps66
  go_wp2_with fail
  refine (fields_any _ k _ (by simp)).mono ?_
  rintro r w1 ⟨rfl, hw1⟩
  have L0 : Hid (NK w w1 w.heap.size (w.heap.size + 2) k a b (.slice oa cs.length c) d (.slice (some ⟨w.heap.size + 1, 0, none⟩) 1 1) [k]) := by
    subst hw1
    generalize hO : Obj.cells #[Value.int .i64 k, .int .i64 a, .int .i64 b, .slice oa cs.length c, .bool d] 24 = O
    generalize hK : Obj.cells #[Value.int .i64 k] 3 = K
    generalize hP : Obj.cells #[Value.pointer (some ⟨w.heap.size, 1, none⟩), .pointer (some ⟨w.heap.size, 2, none⟩)] 106 = P
    have B1 := below_alloc w O
    have B2 := below_alloc (w.alloc O) K
    have B3 := btr (below_alloc ((w.alloc O).alloc K) P) (bdrew1 _)
    have q1 := heap_below (heap_new w O) (btr B2 B3)
    have q2 := heap_below (heap_new (w.alloc O) K) B3
    have q3 := heap_below (heap_new ((w.alloc O).alloc K) P) (bdrew1 _)
    rw [World.size_alloc] at q2
    rw [World.size_alloc, World.size_alloc] at q3
    subst hO hK hP
    exact ⟨q1, q3, ⟨rfl, .inr ⟨w.heap.size + 1, 1, _, rfl, by omega, q2, Nat.le_refl _, by decide, rfl, rfl⟩⟩, btr B1 (btr B2 B3)⟩
  clear hw1
  have hnf := nf_le k
  go_wp2_with fail
  go_loopw [3, 13] (fun l i wr => ∃ (j : Nat) (v : Value), j ≤ nf k ∧ i = .int .i64 (j : Int) ∧ l = v ∧ NK w wr w.heap.size (w.heap.size + 2) k a b (.slice oa cs.length c) d v ([k, a, b].take (j + 1))) (fun _ i _ => nf k - (intOf i).toNat)
  case atStart => exact ⟨0, _, Nat.zero_le _, rfl, rfl, L0.out⟩
  case round =>
    clear L0
    obtain ⟨j, v, hj, rfl, rfl, hnk⟩ := hrel
    by_cases hjn : j < nf k
    · have hjn' : decide ((j : Int) < (nf k : Int)) = true := by simp; omega
      by_cases hj0 : j = 0
      · subst hj0
        have pc := cell_of hnk.pt 0
        have oc := cell_of hnk.op 1
        simp at pc oc
        have L2 := hide (hnk.below (below_alloc wr (.cells #[.int .i64 a] 3)))
        clear hnk
        go_wp2_with (at_builtin; refine wpList_append_own _ rfl _ _ 36 rfl w.heap.size 3 i0 (.int .i64 0) 1 8 Try.underlying36 INF.out.1 INF.out.2.1 INF.out.2.2.1 INF.out.2.2.2 rfl (by decide) _ _ _ rfl L2.out.own ⟨wr.heap.size, 0, none⟩ 1 1 [.int .i64 a] rfl rfl ?c1 ?c2 ?c3 ?c4 ?c5 ?_)
        case c1 => exact src_new wr [a]
        case c2 => intro u hu; simp at hu; subst hu; rfl
        case c3 => unfold maxLen; simp
        case c4 => simp
        case c5 => exact L2.out.bel.size
        intro v' w3 hown hgrow _
        have L3 := hide (L2.out.grown (xs' := [k, a, b].take (0 + 2)) hgrow (by simpa using hown))
        clear hown hgrow
        go_wp2_with fail
        go_roundw
        case rel => exact ⟨1, v', by omega, by go_num, rfl, by simpa using L3.out⟩
        case measure => simp [intOf]; omega
      · have hj1 : j = 1 := by omega
        subst hj1
        have pc := cell_of hnk.pt 1
        have oc := cell_of hnk.op 2
        simp at pc oc
        have L2 := hide (hnk.below (below_alloc wr (.cells #[.int .i64 b] 3)))
        clear hnk
        go_wp2_with (at_builtin; refine wpList_append_own _ rfl _ _ 36 rfl w.heap.size 3 i0 (.int .i64 0) 1 8 Try.underlying36 INF.out.1 INF.out.2.1 INF.out.2.2.1 INF.out.2.2.2 rfl (by decide) _ _ _ rfl L2.out.own ⟨wr.heap.size, 0, none⟩ 1 1 [.int .i64 b] rfl rfl ?c1 ?c2 ?c3 ?c4 ?c5 ?_)
        case c1 => exact src_new wr [b]
        case c2 => intro u hu; simp at hu; subst hu; rfl
        case c3 => unfold maxLen; simp
        case c4 => simp
        case c5 => exact L2.out.bel.size
        intro v' w3 hown hgrow _
        have L3 := hide (L2.out.grown (xs' := [k, a, b].take (1 + 2)) hgrow (by simpa using hown))
        clear hown hgrow
        go_wp2_with fail
        go_roundw
        case rel => exact ⟨2, v', by omega, by go_num, rfl, by simpa using L3.out⟩
        case measure => simp [intOf]; omega
    · have hjn' : decide ((j : Int) < (nf k : Int)) = false := by simp; omega
      have e : j = nf k := by omega
      subst e
      have oc := cell_of hnk.op 0
      simp at oc
      have L2 := hide hnk
      clear hnk
      cases h6 : k == 6
      · have h6' : (k != 6) = true := by simp [bne, h6]
        have EN : Hid (nums ⟨k, a, b, cs, d⟩ = [k, a, b].take (nf k + 1)) := by
          show _ = _
          simp [nums, h6]
        obtain ⟨oa', c', hv', hat'⟩ := owns_at L2.out.own
        subst hv'
        have AT := hide hat'
        clear hat' h6
        go_wp2_with fail
        go_ret
        exact ⟨⟨oa', c', by rw [EN.out]; rfl, by rw [EN.out]; exact AT.out⟩, L2.out.bel⟩
      · have h6' : (k != 6) = false := by simp [bne, h6]
        obtain rfl : k = 6 := by simpa using h6
        clear h6 h6'
        rw [show ([(6 : Int), a, b].take (nf 6 + 1)) = [6] from rfl] at L2
        have oc4 := cell_of L2.out.op 4
        have oc3 := cell_of L2.out.op 3
        have NE := hide (own_ne L2.out.own L2.out.op (by decide))
        have olt := heap_lt L2.out.op
        have BS := hide L2.out.bel.size
        have HN := hide (INF.out)
        simp at oc4 oc3
        go_wp2_with fail
        go_region_held3 (fun w' => w'.cell? ⟨w.heap.size, 4, none⟩ = some (.bool d) ∧ w'.cell? ⟨w.heap.size, 3, none⟩ = some (.slice oa cs.length c))
          (first
            | go_keep
            | (go_split_ands
               refine ⟨?_, ?_⟩
               · (rw [hgrow.cell_far _ (by simp; omega) NE.out]; assumption)
               · (rw [hgrow.cell_far _ (by simp; omega) NE.out]; assumption)))
          (first
            | (go_at_call 76; refine (bit_any _ _).mono ?_; rintro r w' ⟨rfl, rfl⟩)
            | ((refine step_append_lies _ (by rfl) _ _ _ (by rfl) w.heap.size 3 i0 _ 1 8 Try.underlying36 INF.out.1 INF.out.2.1 INF.out.2.2.1 INF.out.2.2.2 rfl (by omega) _ _ _ (by rfl) ((L2.out.own.alloc _).drew) ⟨wr.heap.size, 0, none⟩ 2 2 [.int .i64 (bt d), .int .i64 (cs.length : Int)] (by rfl) (by rfl) (World.news_of_block (cs := #[.int .i64 (bt d), .int .i64 (cs.length : Int)]) (t := 3) (fr := (0, 0)) (heap_alloc_new wr _)) (by simp [Value.oneCell']) (by omega) (by simp [maxLen]) (by simp) (by simp; exact Nat.le_succ_of_le BS.out) (wr.heap.size + 1) (by simp) ?_; intro g cap w3 hown hgrow hat hlt)))
        have L3 := hide ((L2.out.below (btr (below_alloc wr (.cells #[.int .i64 (bt d), .int .i64 (cs.length : Int)] 3)) (bdrew1 _))).grown (xs' := [6, bt d, (cs.length : Int)]) hgrow hown)
        have oc3 := cell_of L3.out.op 3
        simp at oc3
        clear hown hgrow hat hlt NE oc oc4
        go_wp2_with fail
        go_loopw [3, 40] (fun l i wr => ∃ (j : Nat) (v : Value), j ≤ cs.length ∧ i = .int .i64 (j : Int) ∧ l = v ∧ NK w wr w.heap.size (w.heap.size + 2) 6 a b (.slice oa cs.length c) d v ([6, bt d, (cs.length : Int)] ++ (cs.take j).flatMap cn)) (fun _ i _ => cs.length - (intOf i).toNat)
        case atStart => exact ⟨0, _, Nat.zero_le _, rfl, rfl, by simpa using L3.out⟩
        case round =>
          clear L2 L3 oc3 BS olt
          obtain ⟨j, v, hj, rfl, rfl, hnk⟩ := hrel
          by_cases hlt : j < cs.length
          · have hlt' : decide ((j : Int) < (cs.length : Int)) = true := by simp; omega
            obtain ⟨x, hx⟩ : ∃ x, cs[j]? = some x := ⟨cs[j], by simp [hlt]⟩
            obtain ⟨b', off, rfl, q1, q2, q3⟩ := (HA.out.below hnk.bel) j x hx
            have PS := hide (flat_take cs j x hx)
            have LN := hide (flat_len cs j)
            have L5 := hide (hnk.below (below_alloc wr (.cells #[.bool x.send, .int .i64 x.ch, .int .i64 x.val] 58)))
            have HC := hide (heap_new wr (.cells #[.bool x.send, .int .i64 x.ch, .int .i64 x.val] 58))
            obtain ⟨X, hX⟩ : ∃ X : List Int, [6, bt d, (cs.length : Int)] ++ (cs.take j).flatMap cn = X := ⟨_, rfl⟩
            have XL : Hid (X.length + 3 ≤ 1000) := by
              show _ ≤ _
              have := LN.out
              rw [← hX]
              simp at this ⊢
              omega
            rw [hX] at L5
            have HX := hide hX
            clear hnk hx hX
            go_wp2_with fail
            generalize wr.alloc (.cells #[.bool x.send, .int .i64 x.ch, .int .i64 x.val] 58) = W5 at L5 HC ⊢
            have e0 := cell_of HC.out 0
            have e1 := cell_of HC.out 1
            have e2 := cell_of HC.out 2
            simp at e0 e1 e2
            have clt := heap_lt HC.out
            have NE := hide (own_ne L5.out.own HC.out (by decide))
            have BS := hide L5.out.bel.size
            go_region_held3 (fun w' => w'.cell? ⟨wr.heap.size, 0, none⟩ = some (.bool x.send) ∧ w'.cell? ⟨wr.heap.size, 1, none⟩ = some (.int .i64 x.ch) ∧ w'.cell? ⟨wr.heap.size, 2, none⟩ = some (.int .i64 x.val))
              (first
                | go_keep
                | (go_split_ands
                   refine ⟨?_, ?_, ?_⟩
                   · (rw [hgrow.cell_far _ (by simp; omega) NE.out]; assumption)
                   · (rw [hgrow.cell_far _ (by simp; omega) NE.out]; assumption)
                   · (rw [hgrow.cell_far _ (by simp; omega) NE.out]; assumption)))
              (first
                | (go_at_call 76; refine (bit_any _ _).mono ?_; rintro r w' ⟨rfl, rfl⟩)
                | ((refine step_append_lies _ (by rfl) _ _ _ (by rfl) w.heap.size 3 i0 _ 1 8 Try.underlying36 INF.out.1 INF.out.2.1 INF.out.2.2.1 INF.out.2.2.2 rfl (by omega) _ _ _ (by rfl) ((L5.out.own.alloc _).drew) ⟨W5.heap.size, 0, none⟩ 3 3 [.int .i64 (bt x.send), .int .i64 x.ch, .int .i64 x.val] (by rfl) (by rfl) (World.news_of_block (cs := #[.int .i64 (bt x.send), .int .i64 x.ch, .int .i64 x.val]) (t := 3) (fr := (0, 0)) (heap_alloc_new W5 _)) (by simp [Value.oneCell']) (by omega) (by have := XL.out; unfold maxLen; omega) (by have := XL.out; omega) (by simp; exact Nat.le_succ_of_le BS.out) (W5.heap.size + 1) (by simp) ?_; intro g2 cap2 w6 hown hgrow hat2 hlt2)))
            have L6 := hide ((L5.out.below (btr (below_alloc W5 (.cells #[.int .i64 (bt x.send), .int .i64 x.ch, .int .i64 x.val] 3)) (bdrew1 _))).grown (xs' := X ++ [bt x.send, x.ch, x.val]) hgrow (by
              rw [List.map_append, List.length_append]
              exact hown))
            clear hown hgrow hat2 hlt2 e0 e1 e2
            go_wp2_with fail

            go_roundw
            case rel =>
              repeat apply Exists.intro
              refine ⟨⟨j + 1, _, by omega, by go_num, rfl, by
                rw [PS.out, ← List.append_assoc, HX.out]
                exact L6.out⟩, rfl⟩
            case measure => simp [intOf]; omega
          · have hlt' : decide ((j : Int) < (cs.length : Int)) = false := by simp; omega
            have e : j = cs.length := by omega
            subst e
            have EN : Hid (nums ⟨6, a, b, cs, d⟩ = [6, bt d, (cs.length : Int)] ++ (cs.take cs.length).flatMap cn) := by
              show _ = _
              rw [List.take_length]
              rfl
            obtain ⟨oa', c', hv', hat'⟩ := owns_at hnk.own
            subst hv'
            have AT := hide hat'
            have L2 := hide hnk
            clear hat' hnk
            go_wp2_with fail
            go_ret
            exact ⟨⟨oa', c', by rw [EN.out]; rfl, by rw [EN.out]; exact AT.out⟩, L2.out.bel⟩
end De
end Go.Proofs.Ytocmdehpbipmlaa
/- Package deed: Encode, over this seat's program. -/
namespace Go.Proofs.Ytocmdehpbipmlaa
open Go.ChangeShapes Go.WideShapes Go.ChangeAt Go.RowKit
namespace De
open Ba Re

/-- the bytes of numbers, one behind the other -/
def pls (l : List Int) : List Nat := l.flatMap fun n => spl n.toNat
theorem pls_take (l : List Int) (k : Nat) (h : k < l.length) : pls (l.take (k + 1)) = pls (l.take k) ++ spl (nth l k).toNat := by
  rw [pls, List.take_add_one, List.getElem?_eq_getElem h, nth_lt l k h, List.flatMap_append]
  show _ ++ (spl _ ++ []) = _
  rw [List.append_nil]
  rfl
theorem pls_len (l : List Int) : (pls l).length ≤ 7 * l.length := by
  induction l with
  | nil => simp [pls]
  | cons n l ih =>
    have := (spl_len n.toNat).2
    simp [pls] at ih ⊢
    omega

theorem nums_len (o : OpD) (hl : o.cases.length ≤ 4) : (nums o).length ≤ 100 := by
  have h1 := flat_len o.cases o.cases.length
  rw [List.take_length] at h1
  unfold nums
  rw [List.length_append, List.length_cons, List.length_take]
  cases o.kind == 6
  · simp only [cond_false, List.length_nil, List.length_cons]
    omega
  · simp only [cond_true, List.length_nil, List.length_cons]
    omega

set_option maxHeartbeats 800000 in
theorem encode_no (o : OpD) (oa : Option Addr) (c : Nat) (p : Int) (w : World) (hA : CAt w oa o.cases) (hm : o.cases.length ≤ maxLen) (h : (chk o p == 0) = false) :
    Calls Try.prog 32 #[.agg #[.int .i64 o.kind, .int .i64 o.a, .int .i64 o.b, .slice oa o.cases.length c, .bool o.def_], .int .i64 p] w fun r w' => r = .returned (.tuple #[.string (bs []), .int .i64 (chk o p)]) ∧ Below w.heap.size w w' := by
  have HA := hide (hA.below (below_alloc w (.cells #[.int .i64 o.kind, .int .i64 o.a, .int .i64 o.b, .slice oa o.cases.length c, .bool o.def_] 24)))
  have h2 : (chk o p != 0) = true := by simp [bne, h]
  have HM := hide hm
  clear hA hm
  go_enter Try.func32, Try.ntmps32
  go_wp2_with fail
  refine (check_any o _ _ p _ HA.out HM.out).mono ?_
  rintro r w1 ⟨rfl, b1⟩
  have B1 := hide (btr (below_alloc _ _) b1)
  clear b1
  go_wp2_with fail
  go_ret2
  exact ⟨rfl, B1.out⟩

set_option maxRecDepth 100000 in
set_option maxHeartbeats 1600000 in
theorem encode_ok (o : OpD) (oa : Option Addr) (c : Nat) (p : Int) (w : World) (hA : CAt w oa o.cases) (hl : o.cases.length ≤ 4) (h : chk o p = 0) (hn : ∀ n ∈ nums o, okR n = true) :
    Calls Try.prog 32 #[.agg #[.int .i64 o.kind, .int .i64 o.a, .int .i64 o.b, .slice oa o.cases.length c, .bool o.def_], .int .i64 p] w fun r w' => r = .returned (.tuple #[.string (bs (pls (nums o))), .int .i64 0]) ∧ Below w.heap.size w w' := by
  have HA := hide (hA.below (below_alloc w (.cells #[.int .i64 o.kind, .int .i64 o.a, .int .i64 o.b, .slice oa o.cases.length c, .bool o.def_] 24)))
  have H := hide h
  have HM : Hid (o.cases.length ≤ maxLen) := by show _ ≤ _; unfold maxLen; omega
  have HN := hide hn
  clear hA h hn
  go_enter Try.func32, Try.ntmps32
  go_wp2_with fail
  refine (check_any o _ _ p _ HA.out HM.out).mono ?_
  rw [H.out]
  rintro r w1 ⟨rfl, b1⟩
  have B1 := hide (btr (below_alloc _ _) b1)
  have HA1 := hide (HA.out.below b1)
  have oc := heap_below (heap_new w (.cells #[.int .i64 o.kind, .int .i64 o.a, .int .i64 o.b, .slice oa o.cases.length c, .bool o.def_] 24)) b1
  have o0 := cell_of oc 0
  have o1 := cell_of oc 1
  have o2 := cell_of oc 2
  have o3 := cell_of oc 3
  have o4 := cell_of oc 4
  simp at o0 o1 o2 o3 o4
  clear b1 oc
  go_wp2_with fail
  refine (numbers_any o _ _ _ HA1.out hl).mono ?_
  rintro r w2 ⟨⟨oa2, c2, rfl, hat⟩, b2⟩
  have A2 := hide hat
  have B2 := hide (btr B1.out b2)
  generalize hNN : nums o = NN at HN A2 ⊢
  have HNN := hide hNN
  have NL : NN.length ≤ 100 := by rw [← hNN]; exact nums_len o hl
  clear b2 hat hNN
  go_wp2_with fail
  go_loopw [7, 21] (fun t i wr => ∃ k : Nat, k ≤ NN.length ∧ i = .int .i64 (k : Int) ∧ t = .string (bs (pls (NN.take k))) ∧ Below w2.heap.size w2 wr) (fun _ i _ => NN.length - (intOf i).toNat)
  case atStart => exact ⟨0, Nat.zero_le _, rfl, rfl, Below.refl _ _⟩
  case round =>
    obtain ⟨k, hk, rfl, rfl, hb⟩ := hrel
    have HB := hide hb
    have A3 := hide (A2.out.below hb)
    clear hb
    by_cases hlt : k < NN.length
    · have hlt' : decide ((k : Int) < (NN.length : Int)) = true := by simp; omega
      obtain ⟨b', off, rfl, hc⟩ := A3.out k hlt
      have hok := HN.out (nth NN k) (by rw [nth_lt NN k hlt]; exact List.getElem_mem hlt)
      obtain ⟨h0, h1⟩ := (okR_iff _).1 hok
      obtain ⟨m, hm⟩ := Int.eq_ofNat_of_zero_le h0
      have PS := pls_take NN k hlt
      rw [hm] at hc h1 PS
      rw [Int.toNat_natCast] at PS
      have ad : ∀ w, (Op.stringOp .add (bs (pls (NN.take k))) (bs (spl m))).run Try.prog w = .ok (.string (bs (pls (NN.take (k + 1))))) w := fun w => by
        have h2 := pls_len (NN.take k)
        have h3 := spl_len m
        rw [List.length_take] at h2
        rw [add_str _ _ w (by rw [bs_size, bs_size]; omega), bs_append, PS]
      clear hok h0 PS hm
      go_wp2_with fail
      refine (put_ok m (by omega) _).mono ?_
      rintro r w3 ⟨rfl, b3⟩
      have B3 := hide (btr HB.out b3)
      clear b3
      go_wp2_with fail
      go_roundw
      case rel => exact ⟨k + 1, by omega, by go_num, rfl, B3.out⟩
      case measure => simp [intOf]; omega
    · have hlt' : decide ((k : Int) < (NN.length : Int)) = false := by simp; omega
      have e : k = NN.length := by omega
      subst e
      rw [List.take_length]
      go_wp2_with fail
      go_ret2
      exact ⟨by rw [HNN.out]; rfl, btr B2.out HB.out⟩

theorem upB_iff (n m : Int) : upB n m = true ↔ 0 ≤ n ∧ n ≤ m := by simp [upB]
theorem mA_le (k p : Int) (hp : p ≤ 8) : mA k p ≤ 7 := by
  unfold mA
  repeat' split
  all_goals omega
theorem mB_le (k : Int) : mB k ≤ 99 := by
  unfold mB
  repeat' split
  all_goals omega
/-- what a right operation is -/
theorem chk_zero {o : OpD} {p : Int} (h : chk o p = 0) : (1 ≤ p ∧ p ≤ 8) ∧ (1 ≤ o.kind ∧ o.kind ≤ 9) ∧ o.cases.length ≤ 4 ∧ (0 ≤ o.a ∧ o.a ≤ mA o.kind p) ∧ (0 ≤ o.b ∧ o.b ≤ mB o.kind) ∧ (o.kind = 6 ∨ (o.def_ = false ∧ o.cases = [])) ∧ (∀ x ∈ o.cases, okC x = true) := by
  unfold chk at h
  by_cases h1 : (okP p && (decide (1 ≤ o.kind) && decide (o.kind ≤ 9))) = false
  · rw [if_pos h1] at h; omega
  · rw [if_neg h1] at h
    by_cases h2 : 4 < o.cases.length
    · rw [if_pos h2] at h; omega
    · rw [if_neg h2] at h
      by_cases h3 : (upB o.a (mA o.kind p) && upB o.b (mB o.kind)) = false
      · rw [if_pos h3] at h; omega
      · rw [if_neg h3] at h
        by_cases h4 : o.kind ≠ 6 ∧ (o.def_ || decide (0 < o.cases.length)) = true
        · rw [if_pos h4] at h; omega
        · rw [if_neg h4] at h
          cases h5 : o.cases.all okC
          · rw [h5] at h; simp at h
          · have q1 : okP p = true ∧ 1 ≤ o.kind ∧ o.kind ≤ 9 := by simpa using h1
            have q3 : upB o.a (mA o.kind p) = true ∧ upB o.b (mB o.kind) = true := by simpa using h3
            refine ⟨(okP_iff p).1 q1.1, q1.2, by omega, (upB_iff _ _).1 q3.1, (upB_iff _ _).1 q3.2, ?_, List.all_eq_true.1 h5⟩
            by_cases e : o.kind = 6
            · exact .inl e
            · right
              have : ¬ ((o.def_ || decide (0 < o.cases.length)) = true) := fun q => h4 ⟨e, q⟩
              simpa using this
theorem okC_bd {x : Cs} (h : okC x = true) : (0 ≤ x.ch ∧ x.ch ≤ 7) ∧ 0 ≤ x.val ∧ x.val ≤ 99 := by
  unfold okC at h
  rw [Bool.and_eq_true, upB_iff, upB_iff] at h
  refine ⟨h.1, h.2.1, ?_⟩
  cases hs : x.send
  · rw [hs] at h; have := h.2.2; simp at this; omega
  · rw [hs] at h; exact h.2.2
theorem bt_bd (b : Bool) : 0 ≤ bt b ∧ bt b ≤ 1 := by cases b <;> decide
theorem nums_ok {o : OpD} {p : Int} (h : chk o p = 0) : ∀ n ∈ nums o, okR n = true := by
  obtain ⟨hp, hk, hl, ha, hb, _, hc⟩ := chk_zero h
  have h1 := mA_le o.kind p hp.2
  have h2 := mB_le o.kind
  intro n hn
  rw [okR_iff]
  unfold nums at hn
  rw [List.mem_append, List.mem_cons] at hn
  rcases hn with (rfl | hn) | hn
  · omega
  · have := List.mem_of_mem_take hn
    simp at this
    rcases this with rfl | rfl <;> omega
  · cases h6 : o.kind == 6
    · rw [h6] at hn; simp at hn
    · rw [h6] at hn
      simp only [cond_true, List.mem_cons, List.mem_flatMap] at hn
      rcases hn with rfl | rfl | ⟨x, hx, hn⟩
      · have := bt_bd o.def_; omega
      · omega
      · have q1 := okC_bd (hc x hx)
        have q2 := bt_bd x.send
        simp [cn] at hn
        rcases hn with rfl | rfl | rfl <;> omega
end De
end Go.Proofs.Ytocmdehpbipmlaa
/- Package deed: the reader's number, upTo, bit, over this seat's program. -/
namespace Go.Proofs.Ytocmdehpbipmlaa
open Go.ChangeShapes Go.WideShapes Go.ChangeAt Go.RowKit
namespace De
open Ba Re

/-- from w to w' at most block R has changed, of those that were there -/
structure KB (R : Nat) (w w' : World) : Prop where
  os : w'.os = w.os
  tape : w'.tape = w.tape
  output : w'.output = w.output
  size : w.heap.size ≤ w'.heap.size
  block : ∀ k, k < w.heap.size → k ≠ R → w'.heap[k]? = w.heap[k]?
theorem KB.refl (R : Nat) (w : World) : KB R w w := ⟨rfl, rfl, rfl, Nat.le_refl _, fun _ _ _ => rfl⟩
theorem KB.trans {R : Nat} {a b c : World} (h : KB R a b) (k : KB R b c) : KB R a c :=
  ⟨k.os.trans h.os, k.tape.trans h.tape, k.output.trans h.output, Nat.le_trans h.size k.size, fun x hx hr => (k.block x (Nat.lt_of_lt_of_le hx h.size) hr).trans (h.block x hx hr)⟩
theorem KB.of {R : Nat} {a b : World} (h : Below a.heap.size a b) : KB R a b := ⟨h.os, h.tape, h.output, h.size, fun x hx _ => h.block x hx⟩
theorem KB.setCell {R : Nat} {a b : World} (h : KB R a b) (i : Nat) (v : Value) : KB R a (b.setCell ⟨R, i, none⟩ v) :=
  ⟨h.os, h.tape, h.output, by show _ ≤ (b.setCell _ _).heap.size; simp [World.setCell]; exact h.size, fun x hx hr => (Below.heap_setCell _ _ _ _ hr).trans (h.block x hx hr)⟩
theorem KB.below {R : Nat} {w a b : World} (h : Below w.heap.size w a) (k : KB R a b) (hR : w.heap.size ≤ R) : Below w.heap.size w b :=
  ⟨k.os.trans h.os, k.tape.trans h.tape, k.output.trans h.output, Nat.le_trans h.size k.size, fun x hx => (k.block x (Nat.lt_of_lt_of_le hx h.size) (by omega)).trans (h.block x hx)⟩
theorem KB.heap {R b : Nat} {w w' : World} {o : Obj} (k : KB R w w') (h : w.heap[b]? = some o) (hb : b ≠ R) : w'.heap[b]? = some o :=
  (k.block b (heap_lt h) hb).trans h

/-- a reader's state -/
def RS (w : World) (R : Nat) (s : ByteArray) (f : Bool) : Prop := w.heap[R]? = some (.cells #[.string s, .bool f] 61 (0, 0))
/-- one number read -/
def rnum (s : ByteArray) (f : Bool) : Int × ByteArray × Bool :=
  bif f then (0, s, true) else match tk (nbs s) with
    | none => (0, bs [], true)
    | some (n, k) => ((n : Int), s.extract k s.size, false)
theorem rnum_t (s : ByteArray) : rnum s true = (0, s, true) := rfl
theorem rnum_n {s : ByteArray} (h : tk (nbs s) = none) : rnum s false = (0, bs [], true) := by simp [rnum, h]
theorem rnum_s {s : ByteArray} {n k : Nat} (h : tk (nbs s) = some (n, k)) : rnum s false = ((n : Int), s.extract k s.size, false) := by simp [rnum, h]

theorem number_any (R : Nat) (s : ByteArray) (f : Bool) (w : World) (h : RS w R s f) :
    Calls Try.prog 57 #[.pointer (some ⟨R, 0, none⟩)] w fun r w' => r = .returned (.int .i64 (rnum s f).1) ∧ RS w' R (rnum s f).2.1 (rnum s f).2.2 ∧ KB R w w' := by
  have c0 := cell_of h 0
  have c1 := cell_of h 1
  simp at c0 c1
  have H := hide h
  clear h
  cases f
  · cases ht : tk (nbs s) with
    | none =>
      rw [rnum_n ht]
      have HT := hide ht
      clear ht
      go_enter Try.func57, Try.ntmps57
      go_wp2_with fail
      refine (take_none s HT.out _).mono ?_
      rintro r w1 ⟨rfl, b1⟩
      have H1 := hide (heap_below H.out b1)
      have K1 := hide (KB.of (R := R) b1)
      have q0 := cell_of H1.out 0
      have q1 := cell_of H1.out 1
      have f0 := frozen_of H1.out 0
      have f1 := frozen_of H1.out 1
      simp at q0 q1
      clear b1
      go_wp2_with fail
      go_ret
      exact ⟨rfl, two_set H1.out _ _, (K1.out.setCell 0 _).setCell 1 _⟩
    | some p =>
      obtain ⟨n, k⟩ := p
      rw [rnum_s ht]
      have HT := hide ht
      clear ht
      go_enter Try.func57, Try.ntmps57
      go_wp2_with fail
      refine (take_some s n k HT.out _).mono ?_
      rintro r w1 ⟨rfl, b1⟩
      have H1 := hide (heap_below H.out b1)
      have K1 := hide (KB.of (R := R) b1)
      have q0 := cell_of H1.out 0
      have q1 := cell_of H1.out 1
      have f0 := frozen_of H1.out 0
      have f1 := frozen_of H1.out 1
      simp at q0 q1
      clear b1
      go_wp2_with fail
      go_ret
      exact ⟨rfl, two_set H1.out _ _, (K1.out.setCell 0 _).setCell 1 _⟩
  · rw [rnum_t]
    go_enter Try.func57, Try.ntmps57
    go_wp2_with fail
    go_ret
    exact ⟨rfl, H.out, KB.refl _ _⟩

/-- a number read that is at most so great -/
def rup (m : Int) (s : ByteArray) (f : Bool) : Int × ByteArray × Bool :=
  bif decide (m < (rnum s f).1) then (0, (rnum s f).2.1, true) else rnum s f
theorem upTo_reads (R : Nat) (m : Int) (s : ByteArray) (f : Bool) (w : World) (h : RS w R s f) :
    Calls Try.prog 60 #[.pointer (some ⟨R, 0, none⟩), .int .i64 m] w fun r w' => r = .returned (.int .i64 (rup m s f).1) ∧ RS w' R (rup m s f).2.1 (rup m s f).2.2 ∧ KB R w w' := by
  have NA := hide (number_any R s f w h)
  clear h
  unfold rup
  generalize rnum s f = p at NA ⊢
  obtain ⟨n, s', f'⟩ := p
  cases hd : decide (m < n)
  · have HD := hide hd
    simp only [cond_false]
    go_enter Try.func60, Try.ntmps60
    go_wp2_with fail
    refine NA.out.mono ?_
    rintro r w1 ⟨rfl, h1, k1⟩
    have H1 := hide h1
    have K1 := hide k1
    clear h1 k1
    go_wp2_with fail
    go_ret
    exact ⟨rfl, H1.out, K1.out⟩
  · have HD := hide hd
    simp only [cond_true]
    go_enter Try.func60, Try.ntmps60
    go_wp2_with fail
    refine NA.out.mono ?_
    rintro r w1 ⟨rfl, h1, k1⟩
    have q1 := cell_of h1 1
    have f1 := frozen_of h1 1
    simp at q1
    have H1 := hide h1
    have K1 := hide k1
    clear h1 k1
    go_wp2_with fail
    go_ret
    refine ⟨rfl, ?_, K1.out.setCell 1 _⟩
    have := Ba.heap_setCell_same H1.out (i := 1) (.bool true)
    exact this
theorem bit_reads (R : Nat) (s : ByteArray) (f : Bool) (w : World) (h : RS w R s f) :
    Calls Try.prog 59 #[.pointer (some ⟨R, 0, none⟩)] w fun r w' => r = .returned (.bool ((rup 1 s f).1 == 1)) ∧ RS w' R (rup 1 s f).2.1 (rup 1 s f).2.2 ∧ KB R w w' := by
  have NA := hide (upTo_reads R 1 s f w h)
  clear h
  generalize rup 1 s f = p at NA ⊢
  obtain ⟨n, s', f'⟩ := p
  go_enter Try.func59, Try.ntmps59
  go_wp2_with fail
  refine NA.out.mono ?_
  rintro r w1 ⟨rfl, h1, k1⟩
  have H1 := hide h1
  have K1 := hide k1
  clear h1 k1
  go_wp2_with fail
  go_ret
  exact ⟨rfl, H1.out, K1.out⟩

end De
end Go.Proofs.Ytocmdehpbipmlaa
/- Package deed: the reader's op, over this seat's program. -/
namespace Go.Proofs.Ytocmdehpbipmlaa
open Go.ChangeShapes Go.WideShapes Go.ChangeAt Go.RowKit
namespace De
open Ba Re

/-- the fields that a kind's bytes tell, read: after j of them -/
def rf (s : ByteArray) (f : Bool) : Nat → Int × Int × ByteArray × Bool
  | 0 => (0, 0, s, f)
  | 1 => ((rnum s f).1, 0, (rnum s f).2.1, (rnum s f).2.2)
  | _ => ((rnum s f).1, (rnum (rnum s f).2.1 (rnum s f).2.2).1, (rnum (rnum s f).2.1 (rnum s f).2.2).2.1, (rnum (rnum s f).2.1 (rnum s f).2.2).2.2)

/-- a case read -/
def rc (s : ByteArray) (f : Bool) : Cs × ByteArray × Bool :=
  (⟨(rup 1 s f).1 == 1, (rnum (rup 1 s f).2.1 (rup 1 s f).2.2).1, (rnum (rnum (rup 1 s f).2.1 (rup 1 s f).2.2).2.1 (rnum (rup 1 s f).2.1 (rup 1 s f).2.2).2.2).1⟩, (rnum (rnum (rup 1 s f).2.1 (rup 1 s f).2.2).2.1 (rnum (rup 1 s f).2.1 (rup 1 s f).2.2).2.2).2)
/-- so many cases read -/
def rcs (s : ByteArray) (f : Bool) : Nat → List Cs × ByteArray × Bool
  | 0 => ([], s, f)
  | n + 1 => ((rcs s f n).1 ++ [(rc (rcs s f n).2.1 (rcs s f n).2.2).1], (rc (rcs s f n).2.1 (rcs s f n).2.2).2)
theorem rcs_len (s : ByteArray) (f : Bool) (n : Nat) : (rcs s f n).1.length = n := by
  induction n with
  | zero => rfl
  | succ n ih => simp [rcs, ih]
/-- an operation read -/
def rop (s : ByteArray) (f : Bool) : OpD × ByteArray × Bool :=
  let p := rnum s f
  let q := rf p.2.1 p.2.2 (nf p.1)
  bif p.1 == 6 then
    let d := rup 1 q.2.2.1 q.2.2.2
    let n := rup 4 d.2.1 d.2.2
    let c := rcs n.2.1 n.2.2 n.1.toNat
    (⟨p.1, q.1, q.2.1, c.1, d.1 == 1⟩, c.2)
  else (⟨p.1, q.1, q.2.1, [], false⟩, q.2.2)

/-- what reading an operation keeps: the reader at R, the answer's room at Z, the operation at O -/
structure OS (w wr : World) (R Z O : Nat) (k a b : Int) (sl : Value) (d : Bool) (s : ByteArray) (f : Bool) : Prop where
  rd : RS wr R s f
  op : wr.heap[O]? = some (.cells #[.int .i64 k, .int .i64 a, .int .i64 b, sl, .bool d] 24 (0, 0))
  res : wr.heap[Z]? = some (.cells #[.int .i64 0, .int .i64 0, .int .i64 0, .slice none 0 0, .bool false] 24 (0, 0))
  kb : KB R w wr
  ne : R < w.heap.size ∧ w.heap.size ≤ Z ∧ Z < O
theorem OS.below {w wr wr' : World} {R Z O : Nat} {k a b : Int} {sl : Value} {d f : Bool} {s : ByteArray} (h : OS w wr R Z O k a b sl d s f) (hb : Below wr.heap.size wr wr') : OS w wr' R Z O k a b sl d s f :=
  ⟨heap_below h.rd hb, heap_below h.op hb, heap_below h.res hb, h.kb.trans (KB.of hb), h.ne⟩
theorem OS.reads {w wr wr' : World} {R Z O : Nat} {k a b : Int} {sl : Value} {d f f' : Bool} {s s' : ByteArray} (h : OS w wr R Z O k a b sl d s f) (hr : RS wr' R s' f') (hk : KB R wr wr') : OS w wr' R Z O k a b sl d s' f' :=
  ⟨hr, hk.heap h.op (by have := h.ne; omega), hk.heap h.res (by have := h.ne; omega), h.kb.trans hk, h.ne⟩
theorem kb_setCell {R O : Nat} {w a : World} (h : KB R w a) (hO : w.heap.size ≤ O) (i : Nat) (v : Value) : KB R w (a.setCell ⟨O, i, none⟩ v) :=
  ⟨h.os, h.tape, h.output, by show _ ≤ (a.setCell _ _).heap.size; simp [World.setCell]; exact h.size, fun x hx hr => (Below.heap_setCell _ _ _ _ (by show x ≠ O; omega)).trans (h.block x hx hr)⟩
theorem OS.set {w wr : World} {R Z O : Nat} {k a b : Int} {sl : Value} {d f : Bool} {s : ByteArray} (h : OS w wr R Z O k a b sl d s f) (i : Nat) (v : Value) {a' b' : Int} {sl' : Value} {d' : Bool} (he : (#[Value.int .i64 k, .int .i64 a, .int .i64 b, sl, .bool d] : Array Value).setIfInBounds i v = #[Value.int .i64 k, .int .i64 a', .int .i64 b', sl', .bool d']) : OS w (wr.setCell ⟨O, i, none⟩ v) R Z O k a' b' sl' d' s f := by
  have hn := h.ne
  refine ⟨?_, ?_, ?_, kb_setCell h.kb (by omega) _ _, hn⟩
  · exact (Below.heap_setCell _ _ _ _ (by show R ≠ O; omega)).trans h.rd
  · rw [Ba.heap_setCell_same h.op, he]
  · exact (Below.heap_setCell _ _ _ _ (by show Z ≠ O; omega)).trans h.res

theorem results_row1 {fn : Func} {p : Tmp} {ty : TypeId} (h : fn.results = #[.cell p ty]) (tmps : Array Value) (w : World) (g : Nat) (cs : Array Value)
    (hp : tmps.getD p undef = .pointer (some ⟨g, 0, none⟩)) (hl : (loadVar ty ⟨g, 0, none⟩).run Try.prog w = .ok (.agg cs) w) :
    (results fn tmps).run Try.prog w = .ok (.agg cs) w := by
  have hp' : tmps[p]?.getD undef = .pointer (some ⟨g, 0, none⟩) := by simpa using hp
  simp [results, h, hp', asAddr, hl]
theorem size_op : (Try.prog.info? 24).map (·.size) = some 5 := by kernel_rfl
theorem loadVar_op {w : World} {b : Nat} {c : Array Value} {t : TypeId} (h : w.heap[b]? = some (.cells c t (0, 0))) (hc : c.size = 5) : (loadVar 24 ⟨b, 0, none⟩).run Try.prog w = .ok (.agg c) w :=
  run_loadVar_row w b t _ _ _ _ h Try.underlying24 rfl (by rw [size_op, hc])
theorem five_set {w : World} {b : Nat} {x0 x1 x2 x3 x4 : Value} {t : TypeId} (h : w.heap[b]? = some (.cells #[x0, x1, x2, x3, x4] t (0, 0))) (u0 u1 u2 u3 u4 : Value) : (((((w.setCell ⟨b, 0, none⟩ u0).setCell ⟨b, 1, none⟩ u1).setCell ⟨b, 2, none⟩ u2).setCell ⟨b, 3, none⟩ u3).setCell ⟨b, 4, none⟩ u4).heap[b]? = some (.cells #[u0, u1, u2, u3, u4] t (0, 0)) := by
  rw [Ba.heap_setCell_same (Ba.heap_setCell_same (Ba.heap_setCell_same (Ba.heap_setCell_same (Ba.heap_setCell_same h u0) u1) u2) u3) u4]
  rfl
theorem five_other {w : World} (Z b : Nat) (h : b ≠ Z) (u0 u1 u2 u3 u4 : Value) : (((((w.setCell ⟨Z, 0, none⟩ u0).setCell ⟨Z, 1, none⟩ u1).setCell ⟨Z, 2, none⟩ u2).setCell ⟨Z, 3, none⟩ u3).setCell ⟨Z, 4, none⟩ u4).heap[b]? = w.heap[b]? := by
  rw [Below.heap_setCell _ _ _ _ h, Below.heap_setCell _ _ _ _ h, Below.heap_setCell _ _ _ _ h, Below.heap_setCell _ _ _ _ h, Below.heap_setCell _ _ _ _ h]
theorem kb_five {R Z : Nat} {w a : World} (h : KB R w a) (hZ : w.heap.size ≤ Z) (u0 u1 u2 u3 u4 : Value) : KB R w (((((a.setCell ⟨Z, 0, none⟩ u0).setCell ⟨Z, 1, none⟩ u1).setCell ⟨Z, 2, none⟩ u2).setCell ⟨Z, 3, none⟩ u3).setCell ⟨Z, 4, none⟩ u4) :=
  kb_setCell (kb_setCell (kb_setCell (kb_setCell (kb_setCell h hZ _ _) hZ _ _) hZ _ _) hZ _ _) hZ _ _
theorem RS.drew {w : World} {R : Nat} {s : ByteArray} {f : Bool} (h : RS w R s f) : RS w.drew R s f := h
theorem kb_drew {R : Nat} {w w' : World} (h : KB R w.drew w') : KB R w w' := ⟨h.os, h.tape, h.output, h.size, h.block⟩
theorem three_other {w : World} (C i0 i1 i2 b i : Nat) (h : b ≠ C) (u0 u1 u2 : Value) : (((w.setCell ⟨C, i0, none⟩ u0).setCell ⟨C, i1, none⟩ u1).setCell ⟨C, i2, none⟩ u2).cell? ⟨b, i, none⟩ = w.cell? ⟨b, i, none⟩ := by
  simp only [World.cell?]
  rw [Below.heap_setCell _ _ _ _ h, Below.heap_setCell _ _ _ _ h, Below.heap_setCell _ _ _ _ h]
theorem OS.three {w wr : World} {R Z O : Nat} {k a b : Int} {sl : Value} {d f : Bool} {s : ByteArray} (h : OS w wr R Z O k a b sl d s f) (C i0 i1 i2 : Nat) (u0 u1 u2 : Value) (hC : O < C) : OS w (((wr.setCell ⟨C, i0, none⟩ u0).setCell ⟨C, i1, none⟩ u1).setCell ⟨C, i2, none⟩ u2) R Z O k a b sl d s f := by
  have hn := h.ne
  have e : ∀ x, x ≠ C → (((wr.setCell ⟨C, i0, none⟩ u0).setCell ⟨C, i1, none⟩ u1).setCell ⟨C, i2, none⟩ u2).heap[x]? = wr.heap[x]? := fun x hx => by
    rw [Below.heap_setCell _ _ _ _ hx, Below.heap_setCell _ _ _ _ hx, Below.heap_setCell _ _ _ _ hx]
  exact ⟨(e R (by omega)).trans h.rd, (e O (by omega)).trans h.op, (e Z (by omega)).trans h.res, kb_setCell (kb_setCell (kb_setCell h.kb (by omega) _ _) (by omega) _ _) (by omega) _ _, hn⟩
theorem kb_cell {R b i : Nat} {w w' : World} {v : Value} (k : KB R w w') (h : w.cell? ⟨b, i, none⟩ = some v) (hb : b ≠ R) : w'.cell? ⟨b, i, none⟩ = some v := by
  have := World.block_lt_of_cell? w _ h
  rw [World.cell?] at h ⊢
  rw [k.block b this hb]
  exact h
/-- a case's cells -/
def cc (x : Cs) : List Value := [.bool x.send, .int .i64 x.ch, .int .i64 x.val]
/-- cases, and empty ones behind them -/
def cfill (l : List Cs) (n : Nat) : Array Value := (l.flatMap cc ++ (List.replicate (n - l.length) (cc ⟨false, 0, 0⟩)).flatten).toArray
theorem info_case : (Try.prog.info? 58).map (fun i => (i.zero, i.size, i.bytes)) = some (some (.agg #[.bool false, .int .i64 0, .int .i64 0]), 3, 24) := by kernel_rfl
theorem made_cases (n : Nat) (hn : n ≤ 4) : madeCells #[Value.bool false, .int .i64 0, .int .i64 0] (n * 3) = cfill [] n := by
  match n, hn with
  | 0, _ =>
    apply Array.toList_inj.1
    rw [madeCells, Array.toList_map, Array.toList_range]
    rfl
  | 1, _ =>
    apply Array.toList_inj.1
    rw [madeCells, Array.toList_map, Array.toList_range]
    rfl
  | 2, _ =>
    apply Array.toList_inj.1
    rw [madeCells, Array.toList_map, Array.toList_range]
    rfl
  | 3, _ =>
    apply Array.toList_inj.1
    rw [madeCells, Array.toList_map, Array.toList_range]
    rfl
  | 4, _ =>
    apply Array.toList_inj.1
    rw [madeCells, Array.toList_map, Array.toList_range]
    rfl
theorem run_mkc (w : World) (n : Nat) (hn : n ≤ 4) : (Instr.makeSlice 22 (.int .i64 (n : Int)) (.int .i64 (n : Int))).run Try.prog w = .ok (.slice (some ⟨w.heap.size, 0, none⟩) n n) (w.alloc (.cells (cfill [] n) 58)) := by
  obtain ⟨i0, hi, hz0, hz1, hz2⟩ := info_parts info_case
  have := run_make (P := Try.prog) w 22 58 i0 (.agg #[.bool false, .int .i64 0, .int .i64 0]) Try.underlying22 hi hz0 .i64 .i64 n n (by omega) (Int.le_refl _) (by rw [hz2]; omega) (by omega)
  rw [hz1, Int.toNat_natCast] at this
  rw [← made_cases n hn]
  exact this
theorem flat_cc_len (l : List Cs) : (l.flatMap cc).length = l.length * 3 := by
  induction l with
  | nil => rfl
  | cons x t ih => simp [cc] at ih ⊢; omega
theorem flat_cc_at (l : List Cs) (R : List Value) (k : Nat) (x : Cs) (h : l[k]? = some x) : (l.flatMap cc ++ R)[k * 3]? = some (.bool x.send) ∧ (l.flatMap cc ++ R)[k * 3 + 1]? = some (.int .i64 x.ch) ∧ (l.flatMap cc ++ R)[k * 3 + 2]? = some (.int .i64 x.val) := by
  induction l generalizing k with
  | nil => simp at h
  | cons y t ih =>
    cases k with
    | zero =>
      simp at h
      subst h
      simp [cc]
    | succ k =>
      simp at h
      have := ih k h
      rw [show (k + 1) * 3 = k * 3 + 3 by omega, List.flatMap_cons, List.append_assoc]
      have e : ∀ i, (cc y ++ (t.flatMap cc ++ R))[i + 3]? = (t.flatMap cc ++ R)[i]? := fun i => by
        rw [List.getElem?_append_right (by simp [cc])]
        simp [cc]
      rw [e, show k * 3 + 3 + 1 = k * 3 + 1 + 3 by omega, e, show k * 3 + 3 + 2 = k * 3 + 2 + 3 by omega, e]
      exact this
theorem cat_fill {w : World} {b n : Nat} {l : List Cs} {t : TypeId} (h : w.heap[b]? = some (.cells (cfill l n) t (0, 0))) : CAt w (some ⟨b, 0, none⟩) l := by
  intro k x hk
  obtain ⟨q0, q1, q2⟩ := flat_cc_at l (List.replicate (n - l.length) (cc ⟨false, 0, 0⟩)).flatten k x hk
  refine ⟨b, 0, rfl, ?_, ?_, ?_⟩
  · rw [Nat.zero_add, cell_of h]; simpa [cfill] using q0
  · rw [Nat.zero_add, cell_of h]; simpa [cfill] using q1
  · rw [Nat.zero_add, cell_of h]; simpa [cfill] using q2
theorem cfill_size (l : List Cs) (n : Nat) (h : l.length ≤ n) : (cfill l n).size = n * 3 := by
  have e : ∀ q, ((List.replicate q (cc ⟨false, 0, 0⟩)).flatten).length = q * 3 := fun q => by simp [cc]
  show (l.flatMap cc ++ (List.replicate (n - l.length) (cc ⟨false, 0, 0⟩)).flatten).toArray.size = _
  rw [List.size_toArray, List.length_append, flat_cc_len, e]
  omega
theorem fill_cells {w : World} {b n j : Nat} {l : List Cs} {t : TypeId} (h : w.heap[b]? = some (.cells (cfill l n) t (0, 0))) (hl : l.length ≤ n) (hj : j < n) : ∃ v0 v1 v2, w.cell? ⟨b, j * 3, none⟩ = some v0 ∧ w.cell? ⟨b, j * 3 + 1, none⟩ = some v1 ∧ w.cell? ⟨b, j * 3 + 2, none⟩ = some v2 ∧ w.frozen? ⟨b, j * 3, none⟩ = false ∧ w.frozen? ⟨b, j * 3 + 1, none⟩ = false ∧ w.frozen? ⟨b, j * 3 + 2, none⟩ = false := by
  have hs := cfill_size l n hl
  refine ⟨(cfill l n)[j * 3], (cfill l n)[j * 3 + 1], (cfill l n)[j * 3 + 2], ?_, ?_, ?_, frozen_of h _, frozen_of h _, frozen_of h _⟩
  · rw [cell_of h]; simp
  · rw [cell_of h]; simp
  · rw [cell_of h]; simp
theorem cfill_set (l : List Cs) (n : Nat) (x : Cs) (h : l.length < n) : (((cfill l n).setIfInBounds (l.length * 3) (.bool x.send)).setIfInBounds (l.length * 3 + 1) (.int .i64 x.ch)).setIfInBounds (l.length * 3 + 2) (.int .i64 x.val) = cfill (l ++ [x]) n := by
  apply Array.toList_inj.1
  obtain ⟨q, hq⟩ : ∃ q, n - l.length = q + 1 := ⟨n - l.length - 1, by omega⟩
  have e : n - (l ++ [x]).length = q := by simp; omega
  simp only [cfill, hq, e, List.replicate_succ, Array.toList_setIfInBounds, List.flatten_cons, List.flatMap_append]
  rw [← flat_cc_len l]
  generalize l.flatMap cc = A
  generalize (List.replicate q (cc ⟨false, 0, 0⟩)).flatten = B
  simp [cc]
theorem cfill_step (s : ByteArray) (f : Bool) (j m : Nat) (h : j < m) : (((cfill (rcs s f j).1 m).setIfInBounds (j * 3) (.bool (rc (rcs s f j).2.1 (rcs s f j).2.2).1.send)).setIfInBounds (j * 3 + 1) (.int .i64 (rc (rcs s f j).2.1 (rcs s f j).2.2).1.ch)).setIfInBounds (j * 3 + 2) (.int .i64 (rc (rcs s f j).2.1 (rcs s f j).2.2).1.val) = cfill (rcs s f (j + 1)).1 m := by
  have := cfill_set (rcs s f j).1 m (rc (rcs s f j).2.1 (rcs s f j).2.2).1 (by rw [rcs_len]; exact h)
  rw [rcs_len] at this
  exact this
theorem rnum_pos (s : ByteArray) (f : Bool) : 0 ≤ (rnum s f).1 := by
  cases f
  · cases h : tk (nbs s) with
    | none => rw [rnum_n h]; exact Int.le_refl _
    | some p => obtain ⟨n, k⟩ := p; rw [rnum_s h]; exact Int.natCast_nonneg _
  · rw [rnum_t]; exact Int.le_refl _
theorem rup_bd (m : Int) (hm : 0 ≤ m) (s : ByteArray) (f : Bool) : 0 ≤ (rup m s f).1 ∧ (rup m s f).1 ≤ m := by
  have h := rnum_pos s f
  unfold rup
  cases hd : decide (m < (rnum s f).1)
  · simp at hd
    exact ⟨h, hd⟩
  · exact ⟨Int.le_refl _, hm⟩

set_option maxRecDepth 100000 in
set_option maxHeartbeats 1600000 in
theorem op_reads_f (R : Nat) (s : ByteArray) (f : Bool) (w : World) (h : RS w R s f) :
    Calls Try.prog 27 #[.pointer (some ⟨R, 0, none⟩)] w fun r w' => (∃ oa c, r = .returned (.agg #[.int .i64 (rop s f).1.kind, .int .i64 (rop s f).1.a, .int .i64 (rop s f).1.b, .slice oa (rop s f).1.cases.length c, .bool (rop s f).1.def_]) ∧ CAt w' oa (rop s f).1.cases ∧ ∀ a, oa = some a → w.heap.size ≤ a.block) ∧ RS w' R (rop s f).2.1 (rop s f).2.2 ∧ KB R w w' := by
  have hR := heap_lt h
  have H0 := hide (heap_below h (below_alloc w (.cells #[.int .i64 0, .int .i64 0, .int .i64 0, .slice none 0 0, .bool false] 24)))
  have O0 := hide (heap_new w (.cells #[.int .i64 0, .int .i64 0, .int .i64 0, .slice none 0 0, .bool false] 24))
  have B0 := hide (below_alloc w (.cells #[.int .i64 0, .int .i64 0, .int .i64 0, .slice none 0 0, .bool false] 24))
  clear h
  go_enter Try.func27, Try.ntmps27
  go_wp2_with fail
  refine (number_any R s f _ H0.out).mono ?_
  obtain ⟨k, s1, f1, hp1⟩ : ∃ k s1 f1, rnum s f = (k, s1, f1) := ⟨_, _, _, rfl⟩
  have RP := hide hp1
  rw [hp1]
  clear hp1
  rintro r w1 ⟨rfl, h1, k1⟩
  have r1 := k1.heap O0.out (by omega)
  have z1 := heap_lt r1
  have S1 : Hid (OS w (w1.alloc (.cells #[.int .i64 k, .int .i64 0, .int .i64 0, .slice none 0 0, .bool false] 24)) R w.heap.size w1.heap.size k 0 0 (.slice none 0 0) false s1 f1) :=
    ⟨heap_below h1 (below_alloc _ _), heap_new _ _, heap_below r1 (below_alloc _ _), (KB.of B0.out).trans (k1.trans (KB.of (below_alloc _ _))), hR, Nat.le_refl _, z1⟩
  clear h1 k1 r1
  go_wp2_with fail
  refine (fields_any w1.heap.size k _ (by simp)).mono ?_
  rintro r w2 ⟨rfl, hw2⟩
  have S2 : Hid (OS w w2 R w.heap.size w1.heap.size k 0 0 (.slice none 0 0) false s1 f1) := by
    show OS _ _ _ _ _ _ _ _ _ _ _ _
    rw [hw2]
    exact S1.out.below (btr (below_alloc _ _) (bdrew1 _))
  have P2 : Hid (w2.heap[w1.heap.size + 1]? = some (.cells #[.pointer (some ⟨w1.heap.size, 1, none⟩), .pointer (some ⟨w1.heap.size, 2, none⟩)] 106 (0, 0))) := by
    show _ = _
    have := heap_below (heap_new (w1.alloc (.cells #[.int .i64 k, .int .i64 0, .int .i64 0, .slice none 0 0, .bool false] 24)) (.cells #[.pointer (some ⟨w1.heap.size, 1, none⟩), .pointer (some ⟨w1.heap.size, 2, none⟩)] 106)) (bdrew1 _)
    rw [World.size_alloc] at this
    rw [hw2]
    exact this
  clear hw2 S1
  have hnf := nf_le k
  go_wp2_with fail
  go_loopw [12] (fun i wr => ∃ j : Nat, j ≤ nf k ∧ i = .int .i64 (j : Int) ∧ OS w wr R w.heap.size w1.heap.size k (rf s1 f1 j).1 (rf s1 f1 j).2.1 (.slice none 0 0) false (rf s1 f1 j).2.2.1 (rf s1 f1 j).2.2.2 ∧ wr.heap[w1.heap.size + 1]? = some (.cells #[.pointer (some ⟨w1.heap.size, 1, none⟩), .pointer (some ⟨w1.heap.size, 2, none⟩)] 106 (0, 0))) (fun i _ => nf k - (intOf i).toNat)
  case atStart => exact ⟨0, Nat.zero_le _, rfl, S2.out, P2.out⟩
  case round =>
    clear S2 P2 H0 O0 B0
    obtain ⟨j, hj, rfl, hos, hp⟩ := hrel
    by_cases hjn : j < nf k
    · have hjn' : decide ((j : Int) < (nf k : Int)) = true := by simp; omega
      by_cases hj0 : j = 0
      · subst hj0
        have pc := cell_of hp 0
        have oc := cell_of hos.op 1
        have fc := frozen_of hos.op 1
        simp at pc oc
        have S3 := hide hos
        have P3 := hide hp
        clear hos hp
        go_wp2_with fail
        refine (number_any R s1 f1 _ S3.out.rd).mono ?_
        rintro r w3 ⟨rfl, h3, k3⟩
        have S4 := hide (S3.out.reads h3 k3)
        have P4 := hide (k3.heap P3.out (by have := S3.out.ne; omega))
        have oc2 := cell_of S4.out.op 1
        have fc2 := frozen_of S4.out.op 1
        simp at oc2
        clear h3 k3
        go_wp2_with fail
        go_roundw
        case rel => exact ⟨1, by omega, by go_num, S4.out.set 1 _ rfl, (Below.heap_setCell _ _ _ _ (by show w1.heap.size + 1 ≠ w1.heap.size; omega)).trans P4.out⟩
        case measure => simp [intOf]; omega
      · have hj1 : j = 1 := by omega
        subst hj1
        have pc := cell_of hp 1
        have oc := cell_of hos.op 2
        have fc := frozen_of hos.op 2
        simp at pc oc
        have S3 := hide hos
        have P3 := hide hp
        clear hos hp
        go_wp2_with fail
        refine (number_any R (rnum s1 f1).2.1 (rnum s1 f1).2.2 _ S3.out.rd).mono ?_
        rintro r w3 ⟨rfl, h3, k3⟩
        have S4 := hide (S3.out.reads h3 k3)
        have P4 := hide (k3.heap P3.out (by have := S3.out.ne; omega))
        have oc2 := cell_of S4.out.op 2
        have fc2 := frozen_of S4.out.op 2
        simp at oc2
        clear h3 k3
        go_wp2_with fail
        go_roundw
        case rel => exact ⟨2, by omega, by go_num, S4.out.set 2 _ rfl, (Below.heap_setCell _ _ _ _ (by show w1.heap.size + 1 ≠ w1.heap.size; omega)).trans P4.out⟩
        case measure => simp [intOf]; omega
    · have hjn' : decide ((j : Int) < (nf k : Int)) = false := by simp; omega
      have e : j = nf k := by omega
      subst e
      obtain ⟨a, b, s2, f2, hp2⟩ : ∃ a b s2 f2, rf s1 f1 (nf k) = (a, b, s2, f2) := ⟨_, _, _, _, rfl⟩
      have RQ := hide hp2
      rw [hp2] at hos
      clear hp2
      have oc := cell_of hos.op 0
      simp at oc
      have S3 := hide hos
      clear hos hp
      cases h6 : k == 6
      · have oc3 := cell_of S3.out.op 3
        have oc1 := cell_of S3.out.op 1
        have oc2 := cell_of S3.out.op 2
        have oc4 := cell_of S3.out.op 4
        have rc0 := cell_of S3.out.res 0
        have rc1 := cell_of S3.out.res 1
        have rc2 := cell_of S3.out.res 2
        have rc3 := cell_of S3.out.res 3
        have rc4 := cell_of S3.out.res 4
        have rf0 := frozen_of S3.out.res 0
        have rf1 := frozen_of S3.out.res 1
        have rf2 := frozen_of S3.out.res 2
        have rf3 := frozen_of S3.out.res 3
        have rf4 := frozen_of S3.out.res 4
        simp at oc3 oc1 oc2 oc4 rc0 rc1 rc2 rc3 rc4
        have ER : Hid (rop s f = (⟨k, a, b, [], false⟩, s2, f2)) := by
          show _ = _
          simp only [rop, RP.out, RQ.out, h6, cond_false]
        go_wp2_with fail
        refine wp_loop_rounds 1 ?_
        rw [rounds_succ]
        go_wp2_with fail
        have hne := S3.out.ne
        exact bodyPost_ret (results_row1 Try.results27 _ _ _ _ rfl (loadVar_op (five_set S3.out.res _ _ _ _ _) rfl)) rfl ⟨⟨none, 0, by rw [ER.out]; rfl, by rw [ER.out]; exact CAt.nil _ _, fun a e => by cases e⟩, by rw [ER.out]; exact (five_other _ _ (by omega) _ _ _ _ _).trans S3.out.rd, kb_five S3.out.kb (by omega) _ _ _ _ _⟩
      · obtain rfl : k = 6 := by simpa using h6
        clear h6
        go_wp2_with fail
        refine (bit_reads R s2 f2 _ S3.out.rd).mono ?_
        obtain ⟨dn, s3, f3, hp3⟩ : ∃ dn s3 f3, rup 1 s2 f2 = (dn, s3, f3) := ⟨_, _, _, rfl⟩
        have RD := hide hp3
        rw [hp3]
        clear hp3
        rintro r w3 ⟨rfl, h3, k3⟩
        have S4 := hide (S3.out.reads h3 k3)
        have oc4 := cell_of S4.out.op 4
        have fc4 := frozen_of S4.out.op 4
        simp at oc4
        clear h3 k3 S3 oc
        go_wp2_with fail
        have S5 := hide (S4.out.set 4 (.bool (dn == 1)) rfl)
        refine (upTo_reads R 4 s3 f3 _ S5.out.rd).mono ?_
        have hbd := rup_bd 4 (by decide) s3 f3
        obtain ⟨n, s4, f4, hp4⟩ : ∃ n s4 f4, rup 4 s3 f3 = (n, s4, f4) := ⟨_, _, _, rfl⟩
        have RN := hide hp4
        rw [hp4] at hbd ⊢
        clear hp4
        simp only at hbd
        obtain ⟨m, rfl⟩ : ∃ m : Nat, n = (m : Int) := Int.eq_ofNat_of_zero_le hbd.1
        have hm4 : m ≤ 4 := by omega
        clear hbd
        rintro r w4 ⟨rfl, h4, k4⟩
        have S6 := hide (S5.out.reads h4 k4)
        have mk := run_mkc w4 m hm4
        have oc3 := cell_of S6.out.op 3
        have fc3 := frozen_of S6.out.op 3
        have olt := heap_lt S6.out.op
        simp at oc3
        have hsz : (w4.setCell ⟨w1.heap.size, 3, none⟩ (.slice (some ⟨w4.heap.size, 0, none⟩) m m)).heap.size = w4.heap.size := by simp [World.setCell]
        have S7 := hide ((S6.out.set 3 (.slice (some ⟨w4.heap.size, 0, none⟩) m m) rfl).below (below_alloc _ (.cells (cfill [] m) 58)))
        have C7 := hide (heap_new (w4.setCell ⟨w1.heap.size, 3, none⟩ (.slice (some ⟨w4.heap.size, 0, none⟩) m m)) (.cells (cfill [] m) 58))
        rw [hsz] at C7
        clear hsz
        clear h4 k4 S5 S4 oc4 fc4
        go_wp2_with fail
        generalize (w4.setCell ⟨w1.heap.size, 3, none⟩ (.slice (some ⟨w4.heap.size, 0, none⟩) m m)).alloc (.cells (cfill [] m) 58) = W7 at S7 C7 ⊢
        clear S6 mk oc3 fc3
        go_loopw [34] (fun i wr => ∃ j : Nat, j ≤ m ∧ i = .int .i64 (j : Int) ∧ OS w wr R w.heap.size w1.heap.size 6 a b (.slice (some ⟨w4.heap.size, 0, none⟩) m m) (dn == 1) (rcs s4 f4 j).2.1 (rcs s4 f4 j).2.2 ∧ wr.heap[w4.heap.size]? = some (.cells (cfill (rcs s4 f4 j).1 m) 58 (0, 0))) (fun i _ => m - (intOf i).toNat)
        case atStart => exact ⟨0, Nat.zero_le _, rfl, S7.out, C7.out⟩
        case round =>
          clear S7 C7
          obtain ⟨j, hj, rfl, hos, hc⟩ := hrel
          by_cases hjm : j < m
          · have hjm' : decide ((j : Int) < (m : Int)) = true := by simp; omega
            have oc3 := cell_of hos.op 3
            simp at oc3
            have S8 := hide hos
            have C8 := hide hc
            have NE : Hid (w1.heap.size ≠ R) := by show _ ≠ _; have := hos.ne; omega
            have NC : Hid (w4.heap.size ≠ R) := by show _ ≠ _; have := hos.ne; omega
            have EL : Hid ((rcs s4 f4 j).1.length = j) := rcs_len _ _ _
            clear hos hc
            go_wp2_with fail
            go_region_held3 (fun w' => w'.cell? ⟨w1.heap.size, 3, none⟩ = some (.slice (some ⟨w4.heap.size, 0, none⟩) m m))
              (first
                | go_keep
                | exact (three_other _ _ _ _ _ _ (Nat.ne_of_lt olt) _ _ _).trans (by assumption)
                | exact kb_cell k3 (by assumption) NE.out
                | exact kb_cell k2 (by assumption) NE.out
                | exact kb_cell k1 (by assumption) NE.out)
              (first
                | (go_at_call 59; refine (bit_reads R (rcs s4 f4 j).2.1 (rcs s4 f4 j).2.2 _ S8.out.rd.drew).mono ?_; rintro r w5 ⟨rfl, h1, k1⟩)
                | (go_at_call 57; refine (number_any R _ _ _ h2).mono ?_; rintro r w7 ⟨rfl, h3, k3⟩; obtain ⟨v0, v1, v2, q0, q1, q2, g0, g1, g2⟩ := fill_cells (k3.heap (k2.heap ((kb_drew k1).heap C8.out NC.out) NC.out) NC.out) (by rw [EL.out]; omega) hjm)
                | (go_at_call 57; refine (number_any R _ _ _ h1).mono ?_; rintro r w6 ⟨rfl, h2, k2⟩))
            have S9 := hide (((S8.out.below (bdrew1 _)).reads h1 k1).reads h2 k2 |>.reads h3 k3)
            have C9 := hide (k3.heap (k2.heap ((kb_drew k1).heap C8.out NC.out) NC.out) NC.out)
            clear h1 h2 h3 k1 k2 k3 q0 q1 q2 g0 g1 g2
            go_wp2_with fail
            go_roundw
            case rel =>
              first
                | exact ⟨j + 1, by omega, by go_num, S9.out.three _ _ _ _ _ _ _ olt, by
                    rw [Ba.heap_setCell_same (Ba.heap_setCell_same (Ba.heap_setCell_same C9.out _) _) _]
                    exact congrArg (fun c => some (Obj.cells c _ _)) (cfill_step s4 f4 j m hjm)⟩
                | ((repeat apply Exists.intro); exact ⟨⟨j + 1, by omega, by go_num, S9.out.three _ _ _ _ _ _ _ olt, by
                    rw [Ba.heap_setCell_same (Ba.heap_setCell_same (Ba.heap_setCell_same C9.out _) _) _]
                    exact congrArg (fun c => some (Obj.cells c _ _)) (cfill_step s4 f4 j m hjm)⟩, rfl⟩)
            case measure => simp [intOf]; omega
          · have hjm' : decide ((j : Int) < (m : Int)) = false := by simp; omega
            have e : j = m := by omega
            subst e
            have S3 := hide hos
            have C3 := hide hc
            have oc0 := cell_of S3.out.op 0
            have oc1 := cell_of S3.out.op 1
            have oc2 := cell_of S3.out.op 2
            have oc3 := cell_of S3.out.op 3
            have oc4 := cell_of S3.out.op 4
            have rc0 := cell_of S3.out.res 0
            have rc1 := cell_of S3.out.res 1
            have rc2 := cell_of S3.out.res 2
            have rc3 := cell_of S3.out.res 3
            have rc4 := cell_of S3.out.res 4
            have rf0 := frozen_of S3.out.res 0
            have rf1 := frozen_of S3.out.res 1
            have rf2 := frozen_of S3.out.res 2
            have rf3 := frozen_of S3.out.res 3
            have rf4 := frozen_of S3.out.res 4
            simp at oc0 oc3 oc1 oc2 oc4 rc0 rc1 rc2 rc3 rc4
            have ER : Hid (rop s f = (⟨6, a, b, (rcs s4 f4 j).1, dn == 1⟩, (rcs s4 f4 j).2)) := by
              show _ = _
              simp only [rop, RP.out, RQ.out, RD.out, RN.out]
              rfl
            have EL : Hid ((rcs s4 f4 j).1.length = j) := rcs_len _ _ _
            clear hos hc
            go_wp2_with fail
            have hne := S3.out.ne
            exact bodyPost_ret (results_row1 Try.results27 _ _ _ _ rfl (loadVar_op (five_set S3.out.res _ _ _ _ _) rfl)) rfl ⟨⟨some ⟨w4.heap.size, 0, none⟩, j, by rw [ER.out]; simp only [EL.out], by rw [ER.out]; exact cat_fill ((five_other _ _ (by omega) _ _ _ _ _).trans C3.out), fun a e => by cases e; show w.heap.size ≤ w4.heap.size; omega⟩, by rw [ER.out]; exact (five_other _ _ (by omega) _ _ _ _ _).trans S3.out.rd, kb_five S3.out.kb (by omega) _ _ _ _ _⟩
theorem op_reads (R : Nat) (s : ByteArray) (f : Bool) (w : World) (h : RS w R s f) :
    Calls Try.prog 27 #[.pointer (some ⟨R, 0, none⟩)] w fun r w' => (∃ oa c, r = .returned (.agg #[.int .i64 (rop s f).1.kind, .int .i64 (rop s f).1.a, .int .i64 (rop s f).1.b, .slice oa (rop s f).1.cases.length c, .bool (rop s f).1.def_]) ∧ CAt w' oa (rop s f).1.cases) ∧ RS w' R (rop s f).2.1 (rop s f).2.2 ∧ KB R w w' := by
  refine (op_reads_f R s f w h).mono ?_
  rintro r w' ⟨⟨oa, c, hr, hA, _⟩, h1, h2⟩
  exact ⟨⟨oa, c, hr, hA⟩, h1, h2⟩
end De
end Go.Proofs.Ytocmdehpbipmlaa
/- Package deed: Decode, over this seat's program. -/
namespace Go.Proofs.Ytocmdehpbipmlaa
open Go.ChangeShapes Go.WideShapes Go.ChangeAt Go.RowKit
namespace De
open Ba Re

/-- what Decode answers: 0 and the operation and what is behind; or an error -/
def dec (s : ByteArray) (p : Int) : Int := bif okP p then (bif (rop s false).2.2 then 4 else bif chk (rop s false).1 p == 0 then 0 else 4) else 1

theorem results_row3 {fn : Func} {p u v : Tmp} {ty : TypeId} (h : fn.results = #[.cell p ty, .tmp u, .tmp v]) (tmps : Array Value) (w : World) (g : Nat) (cs : Array Value) (x y : Value)
    (hp : tmps.getD p undef = .pointer (some ⟨g, 0, none⟩)) (hx : tmps.getD u undef = x) (hy : tmps.getD v undef = y) (hl : (loadVar ty ⟨g, 0, none⟩).run Try.prog w = .ok (.agg cs) w) :
    (results fn tmps).run Try.prog w = .ok (.tuple #[.agg cs, x, y]) w := by
  subst hx hy
  have hp' : tmps[p]?.getD undef = .pointer (some ⟨g, 0, none⟩) := by simpa using hp
  simp [results, h, hp', asAddr, hl]

set_option maxRecDepth 100000 in
set_option maxHeartbeats 1600000 in
theorem decode_arg (s : ByteArray) (p : Int) (w : World) (h : okP p = false) :
    Calls Try.prog 9 #[.string s, .int .i64 p] w fun r w' => r = .returned (.tuple #[.agg #[.int .i64 0, .int .i64 0, .int .i64 0, .slice none 0 0, .bool false], .string (bs []), .int .i64 1]) ∧ Below w.heap.size w w' := by
  have H := hide h
  clear h
  go_enter Try.func9, Try.ntmps9
  go_wp2_with fail
  refine (isCount_any _ _).mono ?_
  rw [H.out]
  rintro r w1 ⟨rfl, rfl⟩
  go_wp2_with fail
  exact bodyPost_ret (results_row3 Try.results9 _ _ _ _ _ _ rfl rfl rfl (loadVar_op (heap_new _ _) rfl)) rfl ⟨rfl, below_alloc _ _⟩

theorem CAt.five {w : World} {oa : Option Addr} {l : List Cs} {Z : Nat} {x y z : Int} {t : Bool} {ty : TypeId} (h : CAt w oa l) (hZ : w.heap[Z]? = some (.cells #[.int .i64 x, .int .i64 y, .int .i64 z, .slice none 0 0, .bool t] ty (0, 0))) (u0 u1 u2 u3 u4 : Value) : CAt (((((w.setCell ⟨Z, 0, none⟩ u0).setCell ⟨Z, 1, none⟩ u1).setCell ⟨Z, 2, none⟩ u2).setCell ⟨Z, 3, none⟩ u3).setCell ⟨Z, 4, none⟩ u4) oa l := by
  intro k c hk
  obtain ⟨b, off, he, h1, h2, h3⟩ := h k c hk
  have hb : b ≠ Z := by
    intro e
    subst e
    rw [cell_of hZ] at h1 h2
    generalize off + k * 3 = i at h1 h2
    match i with
    | 0 => simp at h1
    | 1 => simp at h1
    | 2 => simp at h1
    | 3 => simp at h1
    | 4 => simp at h2
    | i + 5 => simp at h1
  have e : ∀ i, (((((w.setCell ⟨Z, 0, none⟩ u0).setCell ⟨Z, 1, none⟩ u1).setCell ⟨Z, 2, none⟩ u2).setCell ⟨Z, 3, none⟩ u3).setCell ⟨Z, 4, none⟩ u4).cell? ⟨b, i, none⟩ = w.cell? ⟨b, i, none⟩ := fun i => by
    simp only [World.cell?]
    rw [five_other Z b hb]
  exact ⟨b, off, he, (e _).trans h1, (e _).trans h2, (e _).trans h3⟩
theorem rop_len (s : ByteArray) (f : Bool) : (rop s f).1.cases.length ≤ 4 := by
  unfold rop
  cases h : (rnum s f).1 == 6
  · simp [h]
  · have := rup_bd 4 (by decide) (rup 1 (rf (rnum s f).2.1 (rnum s f).2.2 (nf (rnum s f).1)).2.2.1 (rf (rnum s f).2.1 (rnum s f).2.2 (nf (rnum s f).1)).2.2.2).2.1 (rup 1 (rf (rnum s f).2.1 (rnum s f).2.2 (nf (rnum s f).1)).2.2.1 (rf (rnum s f).2.1 (rnum s f).2.2 (nf (rnum s f).1)).2.2.2).2.2
    simp only [h, cond_true, rcs_len]
    omega

set_option maxRecDepth 100000 in
set_option maxHeartbeats 1600000 in
theorem decode_main_f (s : ByteArray) (p : Int) (w : World) (h : okP p = true) :
    Calls Try.prog 9 #[.string s, .int .i64 p] w fun r w' => (((rop s false).2.2 = true ∨ (chk (rop s false).1 p == 0) = false) ∧ r = .returned (.tuple #[.agg #[.int .i64 0, .int .i64 0, .int .i64 0, .slice none 0 0, .bool false], .string (bs []), .int .i64 4]) ∨ (rop s false).2.2 = false ∧ chk (rop s false).1 p = 0 ∧ ∃ oa c, r = .returned (.tuple #[.agg #[.int .i64 (rop s false).1.kind, .int .i64 (rop s false).1.a, .int .i64 (rop s false).1.b, .slice oa (rop s false).1.cases.length c, .bool (rop s false).1.def_], .string (rop s false).2.1, .int .i64 0]) ∧ CAt w' oa (rop s false).1.cases ∧ ∀ a, oa = some a → w.heap.size ≤ a.block) ∧ Below w.heap.size w w' := by
  have H := hide h
  clear h
  go_enter Try.func9, Try.ntmps9
  go_wp2_with fail
  refine (isCount_any _ _).mono ?_
  rw [H.out]
  rintro r w1 ⟨rfl, hw1⟩
  rw [hw1]
  clear hw1
  have R0 : Hid (RS ((w.alloc (.cells #[.int .i64 0, .int .i64 0, .int .i64 0, .slice none 0 0, .bool false] 24)).alloc (.cells #[.string s, .bool false] 61)) (w.heap.size + 1) s false) := by
    have := heap_new (w.alloc (.cells #[.int .i64 0, .int .i64 0, .int .i64 0, .slice none 0 0, .bool false] 24)) (.cells #[.string s, .bool false] 61)
    rw [World.size_alloc] at this
    exact this
  have Z0 := hide (heap_below (heap_new w (.cells #[.int .i64 0, .int .i64 0, .int .i64 0, .slice none 0 0, .bool false] 24)) (below_alloc (w.alloc (.cells #[.int .i64 0, .int .i64 0, .int .i64 0, .slice none 0 0, .bool false] 24)) (.cells #[.string s, .bool false] 61)))
  have B0 := hide (btr (below_alloc w (.cells #[.int .i64 0, .int .i64 0, .int .i64 0, .slice none 0 0, .bool false] 24)) (below_alloc (w.alloc (.cells #[.int .i64 0, .int .i64 0, .int .i64 0, .slice none 0 0, .bool false] 24)) (.cells #[.string s, .bool false] 61)))
  go_wp2_with fail
  refine (op_reads_f (w.heap.size + 1) s false _ R0.out).mono ?_
  obtain ⟨o, s1, f1, hp1⟩ : ∃ o s1 f1, rop s false = (o, s1, f1) := ⟨_, _, _, rfl⟩
  have RP := hide hp1
  rw [hp1]
  clear hp1
  rintro r w2 ⟨⟨oa, c, rfl, hA, hF⟩, hr, hk⟩
  have HF : Hid (∀ a, oa = some a → w.heap.size ≤ a.block) := fun a e => by have := hF a e; simp at this; omega
  clear hF
  have A2 := hide hA
  have R2 := hide hr
  have Z2 := hide (hk.heap Z0.out (by omega))
  have B2 := hide (KB.below B0.out hk (by omega))
  have rd1 := cell_of hr 1
  have rd0 := cell_of hr 0
  simp at rd1 rd0
  have rlt := heap_lt hr
  have zlt := heap_lt Z2.out
  have HL : Hid (o.cases.length ≤ maxLen) := by
    show _ ≤ _
    have := rop_len s false
    rw [RP.out] at this
    unfold maxLen
    simp only at this
    omega
  obtain ⟨k, a, b, cs, d⟩ := o
  simp only at A2 HL ⊢
  clear hA hr hk R0 Z0 B0
  have A3 := hide (A2.out.below (below_alloc w2 (.cells #[.int .i64 k, .int .i64 a, .int .i64 b, .slice oa cs.length c, .bool d] 24)))
  cases f1
  · go_wp2_with fail
    refine (check_any ⟨k, a, b, cs, d⟩ _ _ p _ A3.out HL.out).mono ?_
    rintro r w3 ⟨rfl, b3⟩
    have Z3 := hide (heap_below Z2.out (btr (below_alloc _ _) b3))
    have R3 := hide (heap_below R2.out (btr (below_alloc _ _) b3))
    have O3 := hide (heap_below (heap_new w2 (.cells #[.int .i64 k, .int .i64 a, .int .i64 b, .slice oa cs.length c, .bool d] 24)) b3)
    have A4 := hide (A3.out.below b3)
    have B3 := hide (btr B2.out (btr (below_alloc _ _) b3))
    have rc0 := cell_of Z3.out 0
    have rc1 := cell_of Z3.out 1
    have rc2 := cell_of Z3.out 2
    have rc3 := cell_of Z3.out 3
    have rc4 := cell_of Z3.out 4
    have rf0 := frozen_of Z3.out 0
    have rf1 := frozen_of Z3.out 1
    have rf2 := frozen_of Z3.out 2
    have rf3 := frozen_of Z3.out 3
    have rf4 := frozen_of Z3.out 4
    simp at rc0 rc1 rc2 rc3 rc4
    have sd0 := cell_of R3.out 0
    have od0 := cell_of O3.out 0
    have od1 := cell_of O3.out 1
    have od2 := cell_of O3.out 2
    have od3 := cell_of O3.out 3
    have od4 := cell_of O3.out 4
    simp at sd0 od0 od1 od2 od3 od4
    clear b3
    cases hc : chk ⟨k, a, b, cs, d⟩ p == 0
    · have hc' : (chk ⟨k, a, b, cs, d⟩ p != 0) = true := by simp [bne, hc]
      have HC := hide hc
      clear hc
      go_wp2_with fail
      exact bodyPost_ret (results_row3 Try.results9 _ _ _ _ _ _ rfl rfl rfl (loadVar_op (five_set Z3.out _ _ _ _ _) rfl)) rfl ⟨.inl ⟨.inr (by rw [RP.out]; exact HC.out), rfl⟩, (((((B3.out.setCell (Nat.le_refl _) _).setCell (Nat.le_refl _) _).setCell (Nat.le_refl _) _).setCell (Nat.le_refl _) _).setCell (Nat.le_refl _) _)⟩
    · have hc' : (chk ⟨k, a, b, cs, d⟩ p != 0) = false := by simp [bne, hc]
      have HC : Hid (chk ⟨k, a, b, cs, d⟩ p = 0) := by show _ = _; simpa using hc
      clear hc
      go_wp2_with fail
      go_region
      all_goals
        go_wp2_with fail
        exact bodyPost_ret (results_row3 Try.results9 _ _ _ _ _ _ rfl rfl rfl (loadVar_op (heap_below (five_set Z3.out _ _ _ _ _) (bdrew1 _)) rfl)) rfl ⟨.inr ⟨by rw [RP.out], by rw [RP.out]; exact HC.out, oa, c, by rw [RP.out]; rfl, by rw [RP.out]; exact (CAt.five A4.out Z3.out _ _ _ _ _).below (bdrew1 _), HF.out⟩, btr (((((B3.out.setCell (Nat.le_refl _) _).setCell (Nat.le_refl _) _).setCell (Nat.le_refl _) _).setCell (Nat.le_refl _) _).setCell (Nat.le_refl _) _) (bdrew1 _)⟩
  · have Z3 := hide (heap_below Z2.out (below_alloc w2 (.cells #[.int .i64 k, .int .i64 a, .int .i64 b, .slice oa cs.length c, .bool d] 24)))
    have rc0 := cell_of Z2.out 0
    have rc1 := cell_of Z2.out 1
    have rc2 := cell_of Z2.out 2
    have rc3 := cell_of Z2.out 3
    have rc4 := cell_of Z2.out 4
    have rf0 := frozen_of Z2.out 0
    have rf1 := frozen_of Z2.out 1
    have rf2 := frozen_of Z2.out 2
    have rf3 := frozen_of Z2.out 3
    have rf4 := frozen_of Z2.out 4
    simp at rc0 rc1 rc2 rc3 rc4
    go_wp2_with fail
    exact bodyPost_ret (results_row3 Try.results9 _ _ _ _ _ _ rfl rfl rfl (loadVar_op (heap_below (five_set Z2.out _ _ _ _ _) (below_alloc _ _)) rfl)) rfl ⟨.inl ⟨.inl (by rw [RP.out]), rfl⟩, btr (((((B2.out.setCell (Nat.le_refl _) _).setCell (Nat.le_refl _) _).setCell (Nat.le_refl _) _).setCell (Nat.le_refl _) _).setCell (Nat.le_refl _) _) (below_alloc _ _)⟩
theorem decode_main (s : ByteArray) (p : Int) (w : World) (h : okP p = true) :
    Calls Try.prog 9 #[.string s, .int .i64 p] w fun r w' => (((rop s false).2.2 = true ∨ (chk (rop s false).1 p == 0) = false) ∧ r = .returned (.tuple #[.agg #[.int .i64 0, .int .i64 0, .int .i64 0, .slice none 0 0, .bool false], .string (bs []), .int .i64 4]) ∨ (rop s false).2.2 = false ∧ chk (rop s false).1 p = 0 ∧ ∃ oa c, r = .returned (.tuple #[.agg #[.int .i64 (rop s false).1.kind, .int .i64 (rop s false).1.a, .int .i64 (rop s false).1.b, .slice oa (rop s false).1.cases.length c, .bool (rop s false).1.def_], .string (rop s false).2.1, .int .i64 0]) ∧ CAt w' oa (rop s false).1.cases) ∧ Below w.heap.size w w' := by
  refine (decode_main_f s p w h).mono ?_
  rintro r w' ⟨h1 | ⟨h1, h2, oa, c, h3, h4, _⟩, hb⟩
  · exact ⟨.inl h1, hb⟩
  · exact ⟨.inr ⟨h1, h2, oa, c, h3, h4⟩, hb⟩
end De
end Go.Proofs.Ytocmdehpbipmlaa
/- The laws' own Op, Releases and send(), over this seat's program. -/
namespace Go.Proofs.Ytocmdehpbipmlaa
open Go.ChangeShapes Go.WideShapes Go.ChangeAt Go.RowKit
namespace De
open Ba Re

theorem hp60 : Try.prog.stoodInHeld 58 = false := by kernel_rfl
theorem hm60 : Try.prog.eqGuardType Try.prog.depth 58 = false := by kernel_rfl
theorem part0 (b : Bool) (c v : Int) (w : World) : (part 4 #[.bool b, .int .i64 c, .int .i64 v] 0).run Try.prog w = .ok (.bool b) w := by kernel_rfl
theorem part1 (b : Bool) (c v : Int) (w : World) : (part 3 #[.bool b, .int .i64 c, .int .i64 v] 1).run Try.prog w = .ok (.int .i64 c) w := by kernel_rfl
theorem part2 (b : Bool) (c v : Int) (w : World) : (part 3 #[.bool b, .int .i64 c, .int .i64 v] 2).run Try.prog w = .ok (.int .i64 v) w := by kernel_rfl
theorem neq_case (x y : Cs) (w : World) : (binOp .neq 58 (.agg #[.bool x.send, .int .i64 x.ch, .int .i64 x.val]) (.agg #[.bool y.send, .int .i64 y.ch, .int .i64 y.val])).run Try.prog w = .ok (.bool (!(x.send == y.send && (x.ch == y.ch && x.val == y.val)))) w := by
  have hu := Try.underlying58
  have hf : Try.prog.fieldsOf 58 = #[⟨ "Send", 4, 0, false, "", "", 0⟩, ⟨ "Chan", 3, 1, false, "", "", 8⟩, ⟨ "Value", 3, 2, false, "", "", 16⟩] := by unfold Program.fieldsOf; rw [hu]
  have ht : Try.prog.underlying 58 = some (.struct (Try.prog.fieldsOf 58)) := by rw [hf]; exact hu
  rw [run_neq_struct, run_equalIn_agg w 9999 58 _ _ ht hp60, hf]
  have e0 := fun w => run_equalIn_bool' (P := Try.prog) w 9998 4 x.send y.send Try.underlying4
  have e1 := fun w => run_equalIn_int (P := Try.prog) w 9998 3 .i64 .i64 x.ch y.ch Try.underlying3
  have e2 := fun w => run_equalIn_int (P := Try.prog) w 9998 3 .i64 .i64 x.val y.val Try.underlying3
  cases h1 : x.send == y.send
  · simp [Op.eqFields, e0, h1, part0]
  · cases h2 : x.ch == y.ch
    · simp [Op.eqFields, e0, e1, h1, h2, part0, part1]
    · simp [Op.eqFields, e0, e1, e2, h1, h2, part0, part1, part2]
      by_cases h3 : x.val = y.val <;> simp [h3]
theorem cs_eq (x y : Cs) : ((!(x.send == y.send && (x.ch == y.ch && x.val == y.val))) = false) ↔ x = y := by
  obtain ⟨s1, c1, v1⟩ := x
  obtain ⟨s2, c2, v2⟩ := y
  simp

set_option maxRecDepth 100000 in
set_option maxHeartbeats 1600000 in
theorem plain_big (o1 o2 : OpD) (oa ob : Option Addr) (c1 c2 : Nat) (w : World) (hA : CAt w oa o1.cases) (hB : CAt w ob o2.cases) (hl : o1.cases.length ≤ 100000) (hm : o2.cases.length ≤ 100000) :
    Calls Try.prog 11 #[.agg #[.int .i64 o1.kind, .int .i64 o1.a, .int .i64 o1.b, .slice oa o1.cases.length c1, .bool o1.def_], .agg #[.int .i64 o2.kind, .int .i64 o2.a, .int .i64 o2.b, .slice ob o2.cases.length c2, .bool o2.def_]] w fun r w' => (∃ x, r = .returned (.bool x) ∧ (x = true ↔ o1 = o2)) ∧ Below w.heap.size w w' := by
  obtain ⟨k1, a1, b1, cs1, d1⟩ := o1
  obtain ⟨k2, a2, b2, cs2, d2⟩ := o2
  simp only at hA hB hl hm ⊢
  have HA := hide hA
  have HB := hide hB
  clear hA hB
  cases h1 : k1 == k2
  · have h1' : (k1 != k2) = true := by simp [bne, h1]
    have N1 : Hid (k1 ≠ k2) := by show _ ≠ _; simpa using h1
    clear h1
    go_enter Try.func11, Try.ntmps11
    go_wp2_with fail
    go_ret
    exact ⟨⟨false, rfl, by simp; intro e; exact absurd e N1.out⟩, btr (below_alloc _ _) (below_alloc _ _)⟩
  have h1' : (k1 != k2) = false := by simp [bne, h1]
  have E1 : Hid (k1 = k2) := by show _ = _; simpa using h1
  clear h1
  cases h2 : a1 == a2
  · have h2' : (a1 != a2) = true := by simp [bne, h2]
    have N1 : Hid (a1 ≠ a2) := by show _ ≠ _; simpa using h2
    clear h2
    go_enter Try.func11, Try.ntmps11
    go_wp2_with fail
    go_ret
    exact ⟨⟨false, rfl, by simp; intro _ e; exact absurd e N1.out⟩, btr (below_alloc _ _) (below_alloc _ _)⟩
  have h2' : (a1 != a2) = false := by simp [bne, h2]
  have E2 : Hid (a1 = a2) := by show _ = _; simpa using h2
  clear h2
  cases h3 : b1 == b2
  · have h3' : (b1 != b2) = true := by simp [bne, h3]
    have N1 : Hid (b1 ≠ b2) := by show _ ≠ _; simpa using h3
    clear h3
    go_enter Try.func11, Try.ntmps11
    go_wp2_with fail
    go_ret
    exact ⟨⟨false, rfl, by simp; intro _ _ e; exact absurd e N1.out⟩, btr (below_alloc _ _) (below_alloc _ _)⟩
  have h3' : (b1 != b2) = false := by simp [bne, h3]
  have E3 : Hid (b1 = b2) := by show _ = _; simpa using h3
  clear h3
  by_cases h4 : d1 = d2
  · subst h4
    by_cases h5 : cs1.length = cs2.length
    · have h5' : ((cs1.length : Int) != (cs2.length : Int)) = false := by simp; omega
      have E5 := hide h5
      clear h5
      go_enter Try.func11, Try.ntmps11
      have f1 : ((w.alloc (.cells #[.int .i64 k1, .int .i64 a1, .int .i64 b1, .slice oa cs1.length c1, .bool d1] 24)).alloc (.cells #[.int .i64 k2, .int .i64 a2, .int .i64 b2, .slice ob cs2.length c2, .bool d1] 24)).cell? ⟨w.heap.size, 3, none⟩ = some (.slice oa cs1.length c1) := cell_of (heap_below (heap_new w (.cells #[.int .i64 k1, .int .i64 a1, .int .i64 b1, .slice oa cs1.length c1, .bool d1] 24)) (below_alloc (w.alloc (.cells #[.int .i64 k1, .int .i64 a1, .int .i64 b1, .slice oa cs1.length c1, .bool d1] 24)) (.cells #[.int .i64 k2, .int .i64 a2, .int .i64 b2, .slice ob cs2.length c2, .bool d1] 24))) 3
      have f2 : ((w.alloc (.cells #[.int .i64 k1, .int .i64 a1, .int .i64 b1, .slice oa cs1.length c1, .bool d1] 24)).alloc (.cells #[.int .i64 k2, .int .i64 a2, .int .i64 b2, .slice ob cs2.length c2, .bool d1] 24)).cell? ⟨w.heap.size + 1, 3, none⟩ = some (.slice ob cs2.length c2) := by
        have := cell_of (heap_new (w.alloc (.cells #[.int .i64 k1, .int .i64 a1, .int .i64 b1, .slice oa cs1.length c1, .bool d1] 24)) (.cells #[.int .i64 k2, .int .i64 a2, .int .i64 b2, .slice ob cs2.length c2, .bool d1] 24)) 3
        rw [World.size_alloc] at this
        exact this
      have BW := btr (below_alloc w (.cells #[.int .i64 k1, .int .i64 a1, .int .i64 b1, .slice oa cs1.length c1, .bool d1] 24)) (below_alloc (w.alloc (.cells #[.int .i64 k1, .int .i64 a1, .int .i64 b1, .slice oa cs1.length c1, .bool d1] 24)) (.cells #[.int .i64 k2, .int .i64 a2, .int .i64 b2, .slice ob cs2.length c2, .bool d1] 24))
      have HBW := hide BW
      clear BW
      go_wp2_with fail
      generalize (w.alloc (.cells #[.int .i64 k1, .int .i64 a1, .int .i64 b1, .slice oa cs1.length c1, .bool d1] 24)).alloc (.cells #[.int .i64 k2, .int .i64 a2, .int .i64 b2, .slice ob cs2.length c2, .bool d1] 24) = W at f1 f2 HBW ⊢
      go_loopw [44] (fun i wr => ∃ j q : Nat, j ≤ cs1.length ∧ i = .int .i64 (j : Int) ∧ (∀ t, t < j → cs1[t]? = cs2[t]?) ∧ wr = W.drewN q) (fun i _ => cs1.length - (intOf i).toNat)
      case atStart => exact ⟨0, 0, Nat.zero_le _, rfl, fun t ht => absurd ht (Nat.not_lt_zero _), rfl⟩
      case round =>
        obtain ⟨j, q, hj, rfl, hall, rfl⟩ := hrel
        have HK := hide hall
        clear hall
        by_cases hlt : j < cs1.length
        · have hlt' : decide ((j : Int) < (cs1.length : Int)) = true := by simp; omega
          have hlt2 : (j : Int) < (cs1.length : Int) := by omega
          have hlt3 : (j : Int) < (cs2.length : Int) := by have := E5.out; omega
          obtain ⟨x, hx⟩ : ∃ x, cs1[j]? = some x := ⟨cs1[j], by simp [hlt]⟩
          obtain ⟨y, hy⟩ : ∃ y, cs2[j]? = some y := ⟨cs2[j]'(by have := E5.out; omega), by simp⟩
          obtain ⟨b', off, rfl, p1, p2, p3⟩ := (HA.out.below HBW.out) j x hx
          obtain ⟨b'', off', rfl, q1, q2, q3⟩ := (HB.out.below HBW.out) j y hy
          have HX := hide hx
          have HY := hide hy
          clear hx hy
          have ne := neq_case x y
          have hm := hm60
          cases he : !(x.send == y.send && (x.ch == y.ch && x.val == y.val))
          · rw [he] at ne
            have HE := hide ((cs_eq x y).1 he)
            clear he
            go_wp2_with fail
            go_quiet (fail)
            go_wp2_with fail
            go_roundw
            case rel => exact ⟨j + 1, _, by omega, by go_num, fun t ht => by
                by_cases e : t = j
                · subst e; rw [HX.out, HY.out, HE.out]
                · exact HK.out t (by omega), by first | rfl | rw [World.drewN_drewN]⟩
            case measure => simp [intOf]; omega
          · rw [he] at ne
            have HE : Hid (x ≠ y) := by
              intro e
              have := (cs_eq x y).2 e
              rw [he] at this
              cases this
            clear he
            go_wp2_with fail
            go_quiet (fail)
            go_wp2_with fail
            go_ret
            exact ⟨⟨false, rfl, by
              simp
              intro _ _ _ e
              have h1 := HX.out
              rw [e, HY.out] at h1
              simp at h1
              exact HE.out h1.symm⟩, btr HBW.out (by first | exact bdrew _ _ | (rw [World.drewN_drewN]; exact bdrew _ _))⟩
        · have hlt' : decide ((j : Int) < (cs1.length : Int)) = false := by simp; omega
          go_wp2_with fail
          go_ret
          exact ⟨⟨true, rfl, by
            simp
            exact ⟨E1.out, E2.out, E3.out, List.ext_getElem? fun t => by
              by_cases ht : t < j
              · exact HK.out t ht
              · have := E5.out
                rw [List.getElem?_eq_none (by omega), List.getElem?_eq_none (by omega)]⟩⟩, btr HBW.out (bdrew _ _)⟩
    · have h5' : ((cs1.length : Int) != (cs2.length : Int)) = true := by simp; omega
      have N1 : Hid (cs1 ≠ cs2) := by show _ ≠ _; intro e; exact h5 (by rw [e])
      clear h5
      cases d1
      · go_enter Try.func11, Try.ntmps11
        go_wp2_with fail
        go_ret
        exact ⟨⟨false, rfl, by simp; intro _ _ _ e; exact absurd e N1.out⟩, btr (below_alloc _ _) (below_alloc _ _)⟩
      · go_enter Try.func11, Try.ntmps11
        go_wp2_with fail
        go_ret
        exact ⟨⟨false, rfl, by simp; intro _ _ _ e; exact absurd e N1.out⟩, btr (below_alloc _ _) (below_alloc _ _)⟩
  · cases d1 <;> cases d2
    · exact absurd rfl h4
    · go_enter Try.func11, Try.ntmps11
      go_wp2_with fail
      go_ret
      exact ⟨⟨false, rfl, by simp⟩, btr (below_alloc _ _) (below_alloc _ _)⟩
    · go_enter Try.func11, Try.ntmps11
      go_wp2_with fail
      go_ret
      exact ⟨⟨false, rfl, by simp⟩, btr (below_alloc _ _) (below_alloc _ _)⟩
    · exact absurd rfl h4
theorem plain_any (o1 o2 : OpD) (oa ob : Option Addr) (c1 c2 : Nat) (w : World) (hA : CAt w oa o1.cases) (hB : CAt w ob o2.cases) (hl : o1.cases.length ≤ 1000) (hm : o2.cases.length ≤ 1000) :
    Calls Try.prog 11 #[.agg #[.int .i64 o1.kind, .int .i64 o1.a, .int .i64 o1.b, .slice oa o1.cases.length c1, .bool o1.def_], .agg #[.int .i64 o2.kind, .int .i64 o2.a, .int .i64 o2.b, .slice ob o2.cases.length c2, .bool o2.def_]] w fun r w' => (∃ x, r = .returned (.bool x) ∧ (x = true ↔ o1 = o2)) ∧ Below w.heap.size w w' :=
  plain_big o1 o2 oa ob c1 c2 w hA hB (Nat.le_trans hl (by decide)) (Nat.le_trans hm (by decide))
end De
end Go.Proofs.Ytocmdehpbipmlaa
