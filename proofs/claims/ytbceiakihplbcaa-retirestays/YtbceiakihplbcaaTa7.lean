/- Layer 20's laws, over this seat's program: large, settled; lists of lists among their arguments. -/
import Derived.Test.YtbceiakihplbcaaTa6
namespace Go.Proofs.Ytbceiakihplbcaa
open Go.ChangeShapes Go.WideShapes Go.ChangeAt Go.RowKit
namespace Rt
open Ck

theorem cells_ti : Try.prog.cellsOf 39 = 1 := by kernel_rfl
theorem li_el {H : Type} {enc : TypeId × Value → H} {w : World} (n : Nat) (cs : List Value) (x : DataW H × List MemPlace) (h : DataW.trod enc Try.prog w 0 (fun _ => true) true n 39 cs = some x) : ∃ z, LE w cs z := by
  have hs : ∃ oa len cap, cs = [.slice oa len cap] := by
    rcases Go.Deep.open_slice Try.underlying39 h with ⟨hcs, _⟩ | ⟨a, len, cap, m, n', D, Pl, hcs, _⟩
    · exact ⟨_, _, _, hcs⟩
    · exact ⟨_, _, _, hcs⟩
  obtain ⟨oa, len, cap, rfl⟩ := hs
  obtain ⟨l, rfl, hA, h1, h2⟩ := Ba.ints_open h
  exact ⟨l, oa, cap, rfl, hA, h1, h2⟩
theorem lists_open {H : Type} {enc : TypeId × Value → H} {w : World} {n : Nat} {oa : Option Addr} {len cap : Nat} {x : DataW H × List MemPlace} (h : DataW.trod enc Try.prog w 0 (fun _ => true) true n 22 [.slice oa len cap] = some x) : ∃ l : List (List Int), l.length = len ∧ Ba.GAt w oa 1 (LE w) l ∧ len ≤ cap ∧ cap ≤ maxLen :=
  Ba.grecs_open Try.underlying22 (by decide) cells_ti li_el h
theorem GAt.keep {w w' : World} {oa : Option Addr} {l : List (List Int)} (h : Ba.GAt w oa 1 (LE w) l) (b : Below w.heap.size w w') : Ba.GAt w' oa 1 (LE w') l := h.below b (fun _ _ q => q.below b)
/-- what large gives -/
def LgR (n m : Nat) (w : World) (r : Ending) (w' : World) : Prop := ∃ z : Bool, r = .returned (.bool z) ∧ (z = false → n ≤ 60 ∧ m ≤ 60) ∧ w' = w
theorem lg_t (n m : Nat) (w : World) : LgR n m w (.returned (.bool true)) w := ⟨true, rfl, fun e => (by cases e), rfl⟩
theorem lg_f {n m : Nat} (h : n ≤ 60 ∧ m ≤ 60) (w : World) : LgR n m w (.returned (.bool false)) w := ⟨false, rfl, fun _ => h, rfl⟩
set_option maxHeartbeats 1600000 in
theorem large_any (oa ob : Option Addr) (a b : List (List Int)) (n m c d : Nat) (hn : a.length = n) (hm : b.length = m) (w : World) (hA : Ba.GAt w oa 1 (LE w) a) (hB : Ba.GAt w ob 1 (LE w) b) (h1 : n ≤ maxLen) (h2 : m ≤ maxLen) :
    Calls Try.prog 7 #[.slice oa n c, .slice ob m d] w (LgR n m w) := by
  have h1' : n ≤ 9223372036854775807 := by simp only [maxLen] at h1; omega
  have h2' : m ≤ 9223372036854775807 := by simp only [maxLen] at h2; omega
  clear h1 h2
  by_cases q1 : 60 < n
  · have q1' : (60 : Int) < (n : Int) := by omega
    clear hA hB
    go_enter Try.func7, Try.ntmps7
    go_wp2_with fail
    go_ret
    exact lg_t _ _ _
  have q1' : ¬ ((60 : Int) < (n : Int)) := by omega
  by_cases q2 : 60 < m
  · have q2' : (60 : Int) < (m : Int) := by omega
    clear hA hB
    go_enter Try.func7, Try.ntmps7
    go_wp2_with fail
    go_ret
    exact lg_t _ _ _
  have q2' : ¬ ((60 : Int) < (m : Int)) := by omega
  have FIN : Hid (n ≤ 60 ∧ m ≤ 60) := ⟨by omega, by omega⟩
  have HA := hide hA
  have HB := hide hB
  clear hA hB q1 q2
  go_enter Try.func7, Try.ntmps7
  go_wp2_with fail
  go_loop [19] (fun i => ∃ k : Nat, k ≤ n ∧ i = .int .i64 (k : Int)) (fun i => n - (intOf i).toNat)
  case atStart => exact ⟨0, Nat.zero_le _, rfl⟩
  case round =>
    obtain ⟨k, hk, rfl⟩ := hrel
    by_cases hlt : k < n
    · have hlt' : (k : Int) < (n : Int) := by omega
      obtain ⟨x, hx⟩ : ∃ x, a[k]? = some x := ⟨_, List.getElem?_eq_getElem (by omega)⟩
      obtain ⟨b', off, cs, rfl, hcl, hcell, oc, cap, hcs, hAt, hc1, hc2⟩ := HA.out k x hx
      subst hcs
      have p0 := hcell 0 (by decide)
      simp at p0
      have hx2 : x.length ≤ 9223372036854775807 := by simp only [maxLen] at hc2; omega
      clear hx hcell hAt hcl hc1 hc2
      generalize x.length = nx at *
      by_cases q3 : 300 < nx
      · have q3' : (300 : Int) < (nx : Int) := by omega
        go_wp2_with fail
        go_ret
        exact lg_t _ _ _
      · have q3' : ¬ ((300 : Int) < (nx : Int)) := by omega
        go_wp2_with fail
        go_round
        case rel => exact ⟨k + 1, by omega, by go_num⟩
        case measure => simp [intOf]; omega
    · have hlt' : ¬ ((k : Int) < (n : Int)) := by omega
      obtain rfl : n = k := by omega
      go_wp2_with fail
      go_loop [29] (fun i => ∃ k : Nat, k ≤ m ∧ i = .int .i64 (k : Int)) (fun i => m - (intOf i).toNat)
      case atStart => exact ⟨0, Nat.zero_le _, rfl⟩
      case round =>
        obtain ⟨k, hk2, rfl⟩ := hrel
        by_cases hlt2 : k < m
        · have hlt' : (k : Int) < (m : Int) := by omega
          obtain ⟨x, hx⟩ : ∃ x, b[k]? = some x := ⟨_, List.getElem?_eq_getElem (by omega)⟩
          obtain ⟨b', off, cs, rfl, hcl, hcell, oc, cap, hcs, hAt, hc1, hc2⟩ := HB.out k x hx
          subst hcs
          have p0 := hcell 0 (by decide)
          simp at p0
          have hx2 : x.length ≤ 9223372036854775807 := by simp only [maxLen] at hc2; omega
          clear hx hcell hAt hcl hc1 hc2
          generalize x.length = nx at *
          by_cases q3 : 300 < nx
          · have q3' : (300 : Int) < (nx : Int) := by omega
            go_wp2_with fail
            go_ret
            exact lg_t _ _ _
          · have q3' : ¬ ((300 : Int) < (nx : Int)) := by omega
            go_wp2_with fail
            go_round
            case rel => exact ⟨k + 1, by omega, by go_num⟩
            case measure => simp [intOf]; omega
        · have hlt' : ¬ ((k : Int) < (m : Int)) := by omega
          go_wp2_with fail
          go_ret
          exact lg_f FIN.out _
/-- rows of clocks, as read -/
theorem row_kat {w : World} {B : Nat} {oa : Option Addr} {n c : Nat} {ks : List (Nat × List Int)} (h : w.ownsRow B 48 1 (.slice oa n c) ks.length (pts ks)) (hc : ∀ z ∈ ks, CK w z.1 z.2) : KAt w oa ks ∧ n = ks.length := by
  refine ⟨fun k z hk => ?_, ?_⟩
  · have hk2 : k < ks.length := (List.getElem?_eq_some_iff.1 hk).1
    rcases h.2 with ⟨e, q⟩ | ⟨g, cap, cr, e, -⟩
    · omega
    · cases e
      refine ⟨g, 0, rfl, ?_, hc z (List.mem_of_getElem? hk)⟩
      rw [Nat.zero_add, h.cellAt k (by omega)]
      simp [pts, hk]
  · rcases h.2 with ⟨e, q⟩ | ⟨g, cap, cr, e, -⟩
    · cases e; exact q.symm
    · cases e; rfl
theorem row_rat {w : World} {B : Nat} {oa : Option Addr} {n c : Nat} {Fs : List (Nat → Int)} (h : w.ownsRow B 35 256 (.slice oa n c) Fs.length (rcs Fs)) : RAt w oa Fs ∧ n = Fs.length := by
  refine ⟨fun k F hk => ?_, ?_⟩
  · have hk2 : k < Fs.length := (List.getElem?_eq_some_iff.1 hk).1
    rcases h.2 with ⟨e, q⟩ | ⟨g, cap, cr, e, -⟩
    · omega
    · cases e
      refine ⟨g, 0, rfl, fun j hj => ?_⟩
      rw [Nat.zero_add]
      refine ⟨?_, h.frozenAt (k * 256 + j)⟩
      rw [h.cellAt (k * 256 + j) (by omega)]
      exact rcs_at Fs k F j hk hj
  · rcases h.2 with ⟨e, q⟩ | ⟨g, cap, cr, e, -⟩
    · cases e; exact q.symm
    · cases e; rfl
theorem at_two (w : World) (a b : Int) : Ck.At (w.alloc (.cells #[.int .i64 a, .int .i64 b] 3)) (some ⟨w.heap.size, 0, none⟩) [a, b] := At.new w [a, b] 3
set_option maxRecDepth 100000 in
set_option maxHeartbeats 3200000 in
theorem settled_any (w : World) : Calls Try.prog 8 #[] w fun r w' => r = .returned (.bool true) ∧ Below w.heap.size w w' := by
  have O1 := hide (fun u (a b : Int) (hv : Valid [a, b]) => of_fresh (some ⟨u.heap.size, 0, none⟩) [a, b] 2 2 rfl (u.alloc (.cells #[.int .i64 a, .int .i64 b] 3)) (at_two u a b) (by decide) (by decide) (by decide) hv)
  have v1 : Valid [1, 3] := by intro k hk; match k, hk with | 0, _ => rfl | 1, _ => rfl
  have v2 : Valid [2, 3] := by intro k hk; match k, hk with | 0, _ => rfl | 1, _ => rfl
  have v3 : Valid [0, 2] := by intro k hk; match k, hk with | 0, _ => rfl | 1, _ => rfl
  have P1 := hide (O1.out w 1 3 v1)
  have P2 := hide (fun u => O1.out u 2 3 v2)
  have P3 := hide (fun u => O1.out u 0 2 v3)
  clear O1 v1 v2 v3
  go_enter Try.func8, Try.ntmps8
  go_wp2_with fail
  refine P1.out.mono ?_
  rintro r w1 ⟨A, rfl, f1⟩
  obtain ⟨G1, c1, r1, -, -, -, -, b1⟩ := f1
  rw [show trm [1, 3] = [1, 3] by decide] at r1
  have C1 := hide r1.ck
  have B1 := hide (btr (Ba.below_alloc w (.cells #[.int .i64 1, .int .i64 3] 3)) b1)
  clear r1 b1 P1
  go_wp2_with fail
  refine (P2.out w1).mono ?_
  rintro r w2 ⟨B, rfl, f2⟩
  obtain ⟨G2, c2, r2, -, -, -, -, b2⟩ := f2
  rw [show trm [2, 3] = [2, 3] by decide] at r2
  have C2 := hide r2.ck
  have C1 := hide (C1.out.below (btr (Ba.below_alloc w1 (.cells #[.int .i64 2, .int .i64 3] 3)) b2))
  have B2 := hide (btr B1.out (btr (Ba.below_alloc w1 (.cells #[.int .i64 2, .int .i64 3] 3)) b2))
  clear r2 b2 P2
  go_wp2_with fail
  refine (P3.out w2).mono ?_
  rintro r w3 ⟨C, rfl, f3⟩
  obtain ⟨G3, c3, r3, -, -, -, -, b3⟩ := f3
  rw [show trm [0, 2] = [0, 2] by decide] at r3
  have b23 := btr (Ba.below_alloc w2 (.cells #[.int .i64 0, .int .i64 2] 3)) b3
  have C3 := hide r3.ck
  have C1 := hide (C1.out.below b23)
  have C2 := hide (C2.out.below b23)
  have B3 := hide (btr B2.out b23)
  clear r3 b3 b23 P3
  have KA := fun u (b : Below w3.heap.size w3 u) (ks : List (Nat × List Int)) (hks : ∀ z ∈ ks, CK w3 z.1 z.2) (g : Nat) (cs : Array Value) (hg : u.heap[g]? = some (.cells cs 48 (0, 0))) (he : cs = (pts ks).toArray) => show KAt u (some ⟨g, 0, none⟩) ks from fun k z hk => by
    refine ⟨g, 0, rfl, ?_, (hks z (List.mem_of_getElem? hk)).below b⟩
    rw [Nat.zero_add, cell_of hg, he]
    simp [pts, hk]
  have KH := hide KA
  clear KA
  -- the two lists, then Of
  have H4 : (w3.alloc (.cells #[pt A, pt B] 48)).heap[w3.heap.size]? = some (.cells #[pt A, pt B] 48 (0, 0)) := heap_new _ _
  have H5 : ((w3.alloc (.cells #[pt A, pt B] 48)).alloc (.cells #[pt C] 48)).heap[w3.heap.size + 1]? = some (.cells #[pt C] 48 (0, 0)) := by
    have := heap_new (w3.alloc (.cells #[pt A, pt B] 48)) (.cells #[pt C] 48)
    rwa [World.size_alloc] at this
  have b4 := Ba.below_alloc w3 (.cells #[pt A, pt B] 48)
  have b5 := btr b4 (Ba.below_alloc _ (.cells #[pt C] 48))
  have cAB : ∀ z ∈ [(A, ([1, 3] : List Int)), (B, [2, 3])], CK w3 z.1 z.2 := by
    intro z hz
    simp at hz
    rcases hz with rfl | rfl
    · exact C1.out
    · exact C2.out
  have cC : ∀ z ∈ [(C, ([0, 2] : List Int))], CK w3 z.1 z.2 := by
    intro z hz
    simp at hz
    rw [hz]
    exact C3.out
  have cABC : ∀ z ∈ [(A, ([1, 3] : List Int)), (B, [2, 3]), (C, [0, 2])], CK w3 z.1 z.2 := by
    intro z hz
    simp at hz
    rcases hz with rfl | rfl | rfl
    · exact C1.out
    · exact C2.out
    · exact C3.out
  have Q1 := hide (of_any 1 (some ⟨w3.heap.size, 0, none⟩) (some ⟨w3.heap.size + 1, 0, none⟩) 2 1 2 1 [(A, [1, 3]), (B, [2, 3])] [(C, [0, 2])] rfl rfl _ (KH.out _ b5 _ cAB _ _ ((Ba.below_alloc _ _).block _ (Ba.heap_lt H4) |>.trans H4) rfl) (KH.out _ b5 _ cC _ _ H5 rfl) (by simp) (by simp))
  have e1 : cutOf 1 ([(A, ([1, 3] : List Int)), (B, [2, 3])].map Prod.snd) ([(C, ([0, 2] : List Int))].map Prod.snd) = some 3 := by
    show cutOf 1 [[1, 3], [2, 3]] [[0, 2]] = some 3
    decide
  rw [e1] at Q1
  have Q2 := hide (fun u (bu : Below w3.heap.size w3 u) => of_any 0 (some ⟨u.heap.size, 0, none⟩) none 2 0 2 0 [(A, [1, 3]), (B, [2, 3])] [] rfl rfl (u.alloc (.cells #[pt A, pt B] 48)) (KH.out _ (btr bu (Ba.below_alloc _ _)) _ cAB _ _ (heap_new _ _) rfl) (fun k z hk => by simp at hk) (by simp) (by simp))
  have e2 : cutOf 0 ([(A, ([1, 3] : List Int)), (B, [2, 3])].map Prod.snd) (([] : List (Nat × List Int)).map Prod.snd) = none := by
    show cutOf 0 [[1, 3], [2, 3]] [] = none
    decide
  rw [e2] at Q2
  have Q3 := hide (fun u (bu : Below w3.heap.size w3 u) => greatest_any 0 (some ⟨u.heap.size, 0, none⟩) 3 3 [(A, [1, 3]), (B, [2, 3]), (C, [0, 2])] rfl (u.alloc (.cells #[pt A, pt B, pt C] 48)) (KH.out _ (btr bu (Ba.below_alloc _ _)) _ cABC _ _ (heap_new _ _) rfl) (by simp))
  have e3 : grF 0 ([(A, ([1, 3] : List Int)), (B, [2, 3]), (C, [0, 2])].map Prod.snd) 0 = 2 := by
    show grF 0 [[1, 3], [2, 3], [0, 2]] 0 = 2
    decide
  rw [e3] at Q3
  have B5 := hide b5
  clear KH C1 C2 C3 H4 H5 b4 b5 cAB cC cABC e1 e2 e3
  unfold ofV at Q1 Q2
  unfold pt at Q1 Q2 Q3 B5
  simp only [Option.getD_some, Option.getD_none, Option.isSome_some, Option.isSome_none] at Q1 Q2
  go_wp2_with fail
  refine Q1.out.mono ?_
  rintro r w6 ⟨rfl, b6⟩
  have B6 := hide (btr B5.out b6)
  have Q2b := hide (Q2.out w6 B6.out)
  clear b6 Q1 Q2 B5
  go_wp2_with fail
  refine Q2b.out.mono ?_
  rintro r w7 ⟨rfl, b7⟩
  have B7 := hide (btr B6.out (btr (Ba.below_alloc w6 (.cells #[.pointer (some ⟨A, 0, none⟩), .pointer (some ⟨B, 0, none⟩)] 48)) b7))
  have Q3b := hide (Q3.out w7 B7.out)
  clear b7 Q2b Q3 B6
  go_wp2_with fail
  refine Q3b.out.mono ?_
  rintro r w8 ⟨rfl, e8⟩
  have B8 : Hid (Below w.heap.size w w8) := by rw [e8]; exact btr (btr B3.out B7.out) (Ba.below_alloc _ _)
  clear e8
  go_wp2_with fail
  go_ret
  exact ⟨rfl, B8.out⟩
end Rt
end Go.Proofs.Ytbceiakihplbcaa
