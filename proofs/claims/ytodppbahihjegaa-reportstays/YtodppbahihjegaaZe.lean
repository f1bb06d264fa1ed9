/- Package report, over this seat's program: New, Races. -/
import Derived.Test.YtodppbahihjegaaZd
import Derived.Maps.AppendAt
namespace Go.Proofs.Ytodppbahihjegaa
open Go.ChangeShapes Go.WideShapes Go.ChangeAt Go.RowKit
namespace Rep
open Ck Ce
open Ba (hide KF)
open Ep (tidOf clkOf ownB)

def cel0 : Obj := .cells #[.int .u64 0, .slice none 0 0, .bool false] 94
/-- while New goes on -/
structure NI (w W wr : World) (k : Nat) : Prop where
  sz : wr.heap.size = w.heap.size + 2 + k
  hd : wr.heap[w.heap.size + 1]? = some (.cells (hd9 (hp (w.heap.size + 2) k) w.heap.size) 113 (0, 0))
  ce : ∀ j, j < k → wr.heap[w.heap.size + 2 + j]? = some (.cells #[.int .u64 0, .slice none 0 0, .bool false] 94 (0, 0))
  ky : KY (fun x => x < w.heap.size + 1) W wr
theorem NI.step {w W wr : World} {k : Nat} (h : NI w W wr k) (hk : k < 8) : NI w W (((wr.drew).alloc (.cells #[.int .u64 0, .slice none 0 0, .bool false] 94)).setCell ⟨w.heap.size + 1, k, none⟩ (pt (w.heap.size + 2 + k))) (k + 1) := by
  have b1 : Below wr.heap.size wr (wr.drew.alloc (.cells #[.int .u64 0, .slice none 0 0, .bool false] 94)) := btr (Ba.bdrew1 wr) (Ba.below_alloc wr.drew _)
  have hs : wr.drew.heap.size = wr.heap.size := rfl
  have hz : (((wr.drew).alloc (.cells #[.int .u64 0, .slice none 0 0, .bool false] 94)).setCell ⟨w.heap.size + 1, k, none⟩ (pt (w.heap.size + 2 + k))).heap.size = wr.heap.size + 1 := by
    simp [World.setCell, World.size_alloc]
  have e1 := (b1.block (w.heap.size + 1) (by rw [h.sz]; omega)).trans h.hd
  refine ⟨by rw [hz, h.sz]; omega, ?_, fun j hj => ?_, ?_⟩
  · rw [Ba.heap_setCell_same e1, hd9_set _ _ _ hk, hp_succ]
  · rw [Below.heap_setCell _ _ _ _ (by show w.heap.size + 2 + j ≠ w.heap.size + 1; omega)]
    by_cases e : j = k
    · subst e
      have := heap_new wr.drew (.cells #[.int .u64 0, .slice none 0 0, .bool false] 94)
      rw [hs, h.sz] at this
      exact this
    · rw [b1.block _ (by rw [h.sz]; omega)]
      exact h.ce j (by omega)
  · exact h.ky.trans ((KY.of b1 (fun x (q : x < w.heap.size + 1) => by rw [h.sz]; omega)).trans (KY.set _ (by omega) _ _))
theorem NI.fin {w wr : World} (h : NI w ((w.alloc (.map #[] 0)).alloc (.cells (hd9 (hp (w.heap.size + 2) 0) w.heap.size) 113)) wr 8) : RX (Lw w) (w.heap.size + 1) wr S00 w.heap.size (.map []) (fun j => w.heap.size + 2 + j) (fun _ => .slice none 0 0) ∧ KY (Lw w) w wr := by
  have b1 := btr (Ba.below_alloc w (.map #[] 0)) (Ba.below_alloc _ (.cells (hd9 (hp (w.heap.size + 2) 0) w.heap.size) 113))
  have hsz := h.sz
  refine ⟨⟨?_, ?_, ⟨Maps.tidy_empty, fun g => rfl, fun g r z e => (by cases e)⟩, by omega, fun q => ?_, fun q => ?_, by omega, fun i hi => ?_, fun g e => by cases e⟩, ?_⟩
  · rw [h.hd]
    rfl
  · have o := (World.ownsMap_made (H := Unit) w Try.prog 3 mE).alloc (.cells (hd9 (hp (w.heap.size + 2) 0) w.heap.size) 113)
    exact map_same o (h.ky.block w.heap.size (by omega))
  · unfold Lw at q; omega
  · unfold Lw at q; omega
  · refine ⟨h.ce i hi, World.ownsRow_nil _ _ _ _, by simp [Value.ownBlock], ?_, by simp [Value.ownBlock], ?_, ⟨.inl rfl, by simp [S00, c00], srt_nil⟩⟩
    · rintro (q | q | q | ⟨j, hj, hne, q | q⟩)
      · unfold Lw at q; omega
      · omega
      · omega
      · simp only at q; omega
      · simp [Value.ownBlock] at q
    · rintro k (q | q | q | ⟨j, hj, hne, q | q⟩)
      · unfold Lw at q; omega
      · omega
      · omega
      · simp only at q; omega
      · simp [Value.ownBlock] at q
  · exact (KY.of b1 fun _ q => q).trans (h.ky.mono fun k q => Nat.lt_succ_of_lt q)
set_option maxRecDepth 100000 in
set_option maxHeartbeats 1600000 in
theorem new_any' (w : World) : Calls Try.prog 18 #[] w fun r w' => r = .returned (pt (w.heap.size + 1)) ∧ RX (Lw w) (w.heap.size + 1) w' S00 w.heap.size (.map []) (fun j => w.heap.size + 2 + j) (fun _ => .slice none 0 0) ∧ KY (Lw w) w w' := by
  have hmm := @run_makeMap Try.prog
  go_enter Try.func18, Try.ntmps18
  go_wp2_with fail
  clear hmm
  have N0 : Hid (NI w ((w.alloc (.map #[] 0)).alloc (.cells (hd9 (hp (w.heap.size + 2) 0) w.heap.size) 113)) ((w.alloc (.map #[] 0)).alloc (.cells (hd9 (hp (w.heap.size + 2) 0) w.heap.size) 113)) 0) := by
    refine ⟨by rw [World.size_alloc, World.size_alloc], ?_, fun j hj => absurd hj (Nat.not_lt_zero _), KY.refl _ _⟩
    have := heap_new (w.alloc (.map #[] 0)) (.cells (hd9 (hp (w.heap.size + 2) 0) w.heap.size) 113)
    rwa [World.size_alloc] at this
  have F8 := hide (fun wr h => @NI.fin w wr h)
  have e0 : Obj.cells (hd9 (hp (w.heap.size + 2) 0) w.heap.size) 113 = .cells #[.pointer none, .pointer none, .pointer none, .pointer none, .pointer none, .pointer none, .pointer none, .pointer none, .map (some w.heap.size)] 113 := rfl
  rw [e0] at N0 F8
  clear e0
  generalize (w.alloc (.map #[] 0)).alloc (.cells #[.pointer none, .pointer none, .pointer none, .pointer none, .pointer none, .pointer none, .pointer none, .pointer none, .map (some w.heap.size)] 113) = W at *
  go_loopw [6] (fun i wr => ∃ k : Nat, k ≤ 8 ∧ i = .int .i64 (k : Int) ∧ NI w W wr k) (fun i _ => 8 - (intOf i).toNat)
  case atStart => exact ⟨0, by decide, rfl, N0.out⟩
  case round =>
    clear N0
    obtain ⟨k, hk, rfl, n⟩ := hrel
    have NH := hide n
    by_cases hlt : k < 8
    · have hlt' : (k : Int) < 8 := by omega
      have N2 := hide (n.step hlt)
      have hx : (wr.drew.alloc (.cells #[.int .u64 0, .slice none 0 0, .bool false] 94)).heap[w.heap.size + 1]? = some (.cells (hd9 (hp (w.heap.size + 2) k) w.heap.size) 113 (0, 0)) := ((Ba.below_alloc wr.drew _).block _ (by show _ < wr.heap.size; rw [n.sz]; omega)).trans n.hd
      have y1 : (wr.drew.alloc (.cells #[.int .u64 0, .slice none 0 0, .bool false] 94)).cell? ⟨w.heap.size + 1, k, none⟩ = some (.pointer none) := by
        rw [cell_of hx, hd9_at _ _ _ hlt]
        unfold hp; rw [if_neg (by omega)]
      have y2 : (wr.drew.alloc (.cells #[.int .u64 0, .slice none 0 0, .bool false] 94)).frozen? ⟨w.heap.size + 1, k, none⟩ = false := Ba.frozen_of hx k
      have CN := hide (cnew_is wr.drew)
      have hs : wr.drew.heap.size = w.heap.size + 2 + k := n.sz
      rw [hs] at CN
      unfold pt at CN N2
      clear n hx hs
      generalize hWA : wr.drew.alloc (.cells #[.int .u64 0, .slice none 0 0, .bool false] 94) = WA at *
      clear hWA
      go_wp2_with fail
      go_region_with (go_at_call 7; refine CN.out.mono ?_; rintro r w1 ⟨rfl, rfl⟩)
      all_goals
        go_wp2_with fail
        go_roundw
        case rel => exact ⟨k + 1, by omega, by go_num, N2.out⟩
        case measure => simp [intOf]; omega
    · obtain rfl : k = 8 := by omega
      clear n
      go_wp2_with fail
      go_ret
      exact ⟨rfl, F8.out _ NH.out⟩
/-- the first races of the cells below k -/
def rl (f : Int → Option Rc) : Nat → List Rc
  | 0 => []
  | k + 1 => rl f k ++ (f (k : Int)).toList
def rcC (l : List Rc) : List Value := l.flatMap fun r => (ra5 r).toList
theorem rcC_app (l : List Rc) (r : Rc) : rcC (l ++ [r]) = rcC l ++ (ra5 r).toList := by simp [rcC]
theorem rl_len (f : Int → Option Rc) : ∀ k, (rl f k).length ≤ k
  | 0 => Nat.le_refl _
  | k + 1 => by
    have := rl_len f k
    unfold rl
    rw [List.length_append]
    cases f (k : Int) <;> simp <;> omega
theorem info_rc3 : (Try.prog.info? 70).map (fun i => (i.zero, i.size, i.bytes)) = some (some (rv r0), 5, 40) := by kernel_rfl
theorem cell_five (w : World) (a b c d e : Value) (t : TypeId) : ∀ j u, [a, b, c, d, e][j]? = some u → (w.alloc (.cells #[a, b, c, d, e] t)).cell? ((⟨w.heap.size, 0, none⟩ : Addr).add j) = some u := by
  intro j u hj
  match j, hj with
  | 0, hj | 1, hj | 2, hj | 3, hj | 4, hj =>
    simp at hj
    subst hj
    simp [Addr.add]
theorem one_five (r : Rc) : ∀ u ∈ (ra5 r).toList, u.oneCell' = true := by
  intro u hu
  simp [ra5] at hu
  rcases hu with rfl | rfl | rfl | rfl | rfl <;> rfl
theorem wf_small {g : Int} (h0 : 0 ≤ g) (h1 : g < 1000) : wfk g := by unfold wfk; simp [Lit.wf, IntKind.min, IntKind.max, IntKind.bits, IntKind.signed]; omega
/-- what Races gives -/
def RcR (w : World) (l : List Rc) (r : Ending) (w' : World) : Prop := ∃ v, r = .returned v ∧ w'.ownsRow w.heap.size 70 5 v l.length (rcC l) ∧ Below w.heap.size w w'
theorem races_nil (w : World) : Calls Try.prog 22 #[.pointer none] w (RcR w []) := by
  unfold RcR
  have FN := hide (fun g u => first_nil g u)
  unfold rv ra5 at FN
  go_enter Try.func22, Try.ntmps22
  go_wp2_with fail
  go_loopw [3, 7] (fun v i wr => ∃ k : Nat, k ≤ 8 ∧ v = .slice none 0 0 ∧ i = .int .i64 (k : Int) ∧ Below w.heap.size w wr) (fun _ i _ => 8 - (intOf i).toNat)
  case atStart => exact ⟨0, by decide, rfl, rfl, Below.refl _ _⟩
  case round =>
    obtain ⟨k, hk, rfl, rfl, b⟩ := hrel
    have BH := hide b
    clear b
    by_cases hlt : k < 8
    · have hlt' : (k : Int) < 8 := by omega
      go_wp2_with fail
      refine (FN.out _ _).mono ?_
      rintro r w1 ⟨rfl, b1⟩
      have B1 := hide (btr BH.out b1)
      clear b1
      go_wp2_with fail
      go_roundw
      case rel => exact ⟨k + 1, by omega, rfl, by go_num, btr B1.out (Ba.below_alloc _ _)⟩
      case measure => simp [intOf]; omega
    · obtain rfl : k = 8 := by omega
      go_wp2_with fail
      go_ret
      exact ⟨_, rfl, World.ownsRow_nil _ _ _ _, BH.out⟩
section
variable {Y : Nat → Prop} {X : Nat} {w : World} {S : Rst} {mb : Nat} {D : DataW Unit} {xs : Nat → Nat} {vs : Nat → Value}
set_option maxRecDepth 100000 in
set_option maxHeartbeats 1600000 in
theorem races_any' (s : RX Y X w S mb D xs vs) : Calls Try.prog 22 #[.pointer (some ⟨X, 0, none⟩)] w (RcR w (rl S.f 8)) := by
  unfold RcR
  have FI := hide (fun u (b : Below w.heap.size w u) g (hg : wfk g) => first_any (s.below b) g hg)
  unfold fV at FI
  obtain ⟨i1, hi1, hy1, hy2, hy3⟩ := info_parts info_rc3
  have INA := hide (And.intro hi1 (And.intro hy1 (And.intro hy2 hy3)))
  clear hi1 hy1 hy2 hy3 s
  go_enter Try.func22, Try.ntmps22
  go_wp2_with fail
  go_loopw [3, 7] (fun v i wr => ∃ k : Nat, k ≤ 8 ∧ i = .int .i64 (k : Int) ∧ wr.ownsRow w.heap.size 70 5 v (rl S.f k).length (rcC (rl S.f k)) ∧ Below w.heap.size w wr) (fun _ i _ => 8 - (intOf i).toNat)
  case atStart => exact ⟨0, by decide, rfl, World.ownsRow_nil _ _ _ _, Below.refl _ _⟩
  case round =>
    rename_i v
    obtain ⟨k, hk, rfl, o, b⟩ := hrel
    have OH := hide o
    have BH := hide b
    by_cases hlt : k < 8
    · have hlt' : (k : Int) < 8 := by omega
      have FK := hide (FI.out wr b (k : Int) (wf_small (by omega) (by omega)))
      have hE : rl S.f (k + 1) = rl S.f k ++ (S.f (k : Int)).toList := rfl
      have HE := hide hE
      have HL := hide (rl_len S.f k)
      clear o b hE
      generalize S.f (k : Int) = o at *
      cases o with
      | none =>
        simp only [Option.getD_none, Option.isSome_none] at FK
        unfold rv ra5 at FK
        go_wp2_with fail
        refine FK.out.mono ?_
        rintro r w1 ⟨rfl, b1⟩
        have O1 := hide (own_sm OH.out (fun g e => b1.block g (OH.out.lt g e).2))
        have B1 := hide (btr BH.out b1)
        clear b1 FK
        go_wp2_with fail
        go_roundw
        case rel => exact ⟨k + 1, by omega, by go_num, by rw [HE.out]; simp only [Option.toList_none, List.append_nil]; exact own_sm O1.out (fun g e => (Ba.below_alloc w1 _).block g (O1.out.lt g e).2), btr B1.out (Ba.below_alloc _ _)⟩
        case measure => simp [intOf]; omega
      | some rc =>
        simp only [Option.getD_some, Option.isSome_some] at FK
        unfold rv ra5 at FK
        go_wp2_with fail
        refine FK.out.mono ?_
        rintro r w1 ⟨rfl, b1⟩
        have b2 := btr (btr b1 (Ba.below_alloc w1 (.cells #[.int .i64 rc.c, .int .i64 rc.p, .int .i64 rc.g, .int .i64 rc.wi, .bool rc.wr] 70))) (Ba.below_alloc _ (.cells #[.int .i64 rc.c, .int .i64 rc.p, .int .i64 rc.g, .int .i64 rc.wi, .bool rc.wr] 70))
        have O2 := hide (own_sm OH.out (fun g e => b2.block g (OH.out.lt g e).2))
        have B2 := hide (btr BH.out b2)
        have CF := hide (cell_five (w1.alloc (.cells #[.int .i64 rc.c, .int .i64 rc.p, .int .i64 rc.g, .int .i64 rc.wi, .bool rc.wr] 70)) (.int .i64 rc.c) (.int .i64 rc.p) (.int .i64 rc.g) (.int .i64 rc.wi) (.bool rc.wr) 70)
        rw [World.size_alloc] at CF
        have ON := hide (one_five rc)
        have L2 := hide B2.out.size
        have hn1 : (rl S.f k).length + 1 ≤ maxLen := by have := HL.out; simp only [maxLen]; omega
        have hn2 : ((rl S.f k).length + 1) * 40 ≤ 140737488355328 := by have := HL.out; omega
        clear b1 b2 FK OH
        go_wp2_with (at_builtin; refine wpList_append_own_at _ rfl _ _ 62 rfl w.heap.size 70 i1 _ 5 40 Try.underlying62 INA.out.1 INA.out.2.1 INA.out.2.2.1 INA.out.2.2.2 rfl (by decide) _ _ _ rfl O2.out ⟨w1.heap.size + 1, 0, none⟩ 1 1 ((ra5 rc).toList) rfl rfl CF.out ON.out hn1 hn2 L2.out ?_)
        intro v' w' o' g' x' e'
        have O3 := hide o'
        have B3 : Hid (Below w.heap.size w w') := by
          refine ⟨g'.os.trans B2.out.os, g'.tape.trans B2.out.tape, g'.output.trans B2.out.output, Nat.le_trans B2.out.size g'.size, fun x hx => (g'.block x (Nat.lt_of_lt_of_le hx B2.out.size) (fun q => ?_)).trans (B2.out.block x hx)⟩
          have := (O2.out.lt x q.symm).1
          omega
        clear o' g' x' e' O2 B2 CF ON L2 hn1 hn2
        go_wp2_with fail
        go_roundw
        case rel => exact ⟨k + 1, by omega, by go_num, by rw [HE.out, Option.toList_some, rcC_app, List.length_append]; exact O3.out, B3.out⟩
        case measure => simp [intOf]; omega
    · obtain rfl : k = 8 := by omega
      clear o b
      go_wp2_with fail
      go_ret
      exact ⟨_, rfl, OH.out, BH.out⟩
end
end Rep
end Go.Proofs.Ytodppbahihjegaa
