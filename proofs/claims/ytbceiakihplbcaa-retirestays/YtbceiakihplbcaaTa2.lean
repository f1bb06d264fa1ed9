/- Package retire, over this seat's program: some, Of, Greatest. -/
import Derived.Test.YtbceiakihplbcaaTa1
namespace Go.Proofs.Ytbceiakihplbcaa
open Go.ChangeShapes Go.WideShapes Go.ChangeAt Go.RowKit
namespace Rt
open Ck
open Ba (hide)

theorem ist_yes (i : Int) (h0 : 0 ≤ i) (h1 : i < 256) (w : World) : Calls Try.prog 19 #[.int .i64 i] w fun r w' => r = .returned (.bool true) ∧ w' = w := by
  go_enter Try.func19, Try.ntmps19
  go_wp2_with fail
  go_ret
  exact ⟨rfl, rfl⟩
theorem ist_no (i : Int) (h : i < 0 ∨ 256 ≤ i) (w : World) : Calls Try.prog 19 #[.int .i64 i] w fun r w' => r = .returned (.bool false) ∧ w' = w := by
  by_cases h0 : i < 0
  · clear h
    go_enter Try.func19, Try.ntmps19
    go_wp2_with fail
    go_ret
    exact ⟨rfl, rfl⟩
  · have h1 : 256 ≤ i := by omega
    have h2 : ¬ (i < 256) := by omega
    clear h
    go_enter Try.func19, Try.ntmps19
    go_wp2_with fail
    go_ret
    exact ⟨by simp, rfl⟩
set_option maxHeartbeats 1600000 in
theorem some_any (f : FuncId) (caps : Array Value) (q : Int → Bool) (tid : Int) (oa : Option Addr) (c n : Nat) (ks : List (Nat × List Int)) (hk : ks.length = n) (w : World) (hA : KAt w oa ks) (hl : ks.length ≤ 100000)
    (hn : ∀ (a : Array Value) (u : World), (callFunc f a).run Try.prog u = .ok (.enter f a) u)
    (hq : ∀ n u, Below w.heap.size w u → Calls Try.prog f (#[.int .i64 n] ++ caps) u fun r w' => r = .returned (.bool (q n)) ∧ w' = u) :
    Calls Try.prog 22 #[.int .i64 tid, .slice oa n c, .func (.func f) #[] caps] w fun r w' => r = .returned (.bool (ks.any fun z => q (gt z.2 tid))) ∧ Below w.heap.size w w' := by
  subst hk
  have b1 := btr (Ba.below_alloc w (.cells #[.int .i64 tid] 3)) (Ba.below_alloc _ (.cells #[.func (.func f) #[] caps] 56))
  have hT : ((w.alloc (.cells #[.int .i64 tid] 3)).alloc (.cells #[.func (.func f) #[] caps] 56)).cell? ⟨w.heap.size, 0, none⟩ = some (.int .i64 tid) := by
    have : (w.alloc (.cells #[.int .i64 tid] 3)).heap[w.heap.size]? = some (.cells #[.int .i64 tid] 3 (0, 0)) := heap_new _ _
    exact cellB (cell_of this 0) (Ba.below_alloc _ _)
  have hP : ((w.alloc (.cells #[.int .i64 tid] 3)).alloc (.cells #[.func (.func f) #[] caps] 56)).cell? ⟨w.heap.size + 1, 0, none⟩ = some (.func (.func f) #[] caps) := by
    have := heap_new (w.alloc (.cells #[.int .i64 tid] 3)) (.cells #[.func (.func f) #[] caps] 56)
    rw [World.size_alloc] at this
    exact cell_of this 0
  have CO := hide (contains_any 28 #[.pointer (some ⟨w.heap.size + 1, 0, none⟩), .pointer (some ⟨w.heap.size, 0, none⟩)] enter_s1 (fun l => q (gt l tid)) oa c ks ((w.alloc (.cells #[.int .i64 tid] 3)).alloc (.cells #[.func (.func f) #[] caps] 56)) (hA.below b1) hl (by
    intro u bu k z hz
    obtain ⟨g, off, -, -, ck⟩ := (hA.below (btr b1 bu)) k z hz
    exact so1_any f caps q z.1 z.2 tid (w.heap.size + 1) w.heap.size u ck (cellB hP bu) (cellB hT bu) hn (fun n u' b' => hq n u' (btr (btr b1 bu) b'))))
  have B1 := hide b1
  clear hA hq hT hP b1
  generalize (ks.any fun z => q (gt z.2 tid)) = a at *
  go_enter Try.func22, Try.ntmps22
  go_wp2_with fail
  refine CO.out.mono ?_
  rintro r w1 ⟨rfl, b2⟩
  have B2 := hide (btr B1.out b2)
  clear b2
  go_wp2_with fail
  go_ret
  exact ⟨rfl, B2.out⟩
/-- a tid's cut: none, if it is not settled -/
def cutOf (tid : Int) (Ls Hs : List (List Int)) : Option Int :=
  if 0 ≤ tid ∧ tid < 256 then
    match Ls with
    | [] => none
    | l :: _ => if (Ls.any fun x => unl (gt l tid) (gt x tid)) || (Hs.any fun x => abv (gt l tid) (gt x tid)) then none else some (gt l tid)
  else none
def ofV (o : Option Int) : Value := .tuple #[.int .i64 (o.getD 0), .bool o.isSome]
theorem any_snd (ks : List (Nat × List Int)) (p : List Int → Bool) : (ks.any fun z => p z.2) = ((ks.map Prod.snd).any p) := by
  rw [List.any_map]; rfl
set_option maxRecDepth 100000 in
set_option maxHeartbeats 3200000 in
theorem of_any (tid : Int) (oa ob : Option Addr) (c d n m : Nat) (ks hs : List (Nat × List Int)) (hn : ks.length = n) (hm : hs.length = m) (w : World) (hA : KAt w oa ks) (hB : KAt w ob hs) (hl : ks.length ≤ 100000) (hl2 : hs.length ≤ 100000) :
    Calls Try.prog 10 #[.int .i64 tid, .slice oa n c, .slice ob m d] w fun r w' => r = .returned (ofV (cutOf tid (ks.map Prod.snd) (hs.map Prod.snd))) ∧ Below w.heap.size w w' := by
  unfold ofV
  by_cases ht : 0 ≤ tid ∧ tid < 256
  · have I := hide (ist_yes tid ht.1 ht.2 w)
    cases ks with
    | nil =>
      have e : cutOf tid (([] : List (Nat × List Int)).map Prod.snd) (hs.map Prod.snd) = none := by simp [cutOf]
      rw [e]
      simp only [List.length_nil] at hn
      subst hn
      clear ht hA hB e
      go_enter Try.func10, Try.ntmps10
      go_wp2_with fail
      refine I.out.mono ?_
      rintro r w1 ⟨rfl, e1⟩
      obtain rfl := e1.symm
      go_wp2_with fail
      go_ret2
      exact ⟨rfl, Below.refl _ _⟩
    | cons z ks' =>
      obtain ⟨g, off, rfl, c0, ck⟩ := hA 0 z rfl
      have c0' : w.cell? ⟨g, off, none⟩ = some (pt z.1) := by simpa using c0
      have GT := hide (get_any z.1 z.2 tid w ck)
      obtain ⟨cut, hcut⟩ : ∃ cut, gt z.2 tid = cut := ⟨_, rfl⟩
      rw [hcut] at GT
      have hn0 : 0 < n := by rw [← hn]; simp
      have hn0' : ¬ ((n : Int) = 0) := by omega
      have hn1 : ((n : Int) == 0) = false := by simp; omega
      have hn2 : n ≤ 100000 := by omega
      have hlt0 : (0 : Int) < (n : Int) := by omega
      have b1 := Ba.below_alloc w (.cells #[.int .i64 cut] 3)
      have hBx : (w.alloc (.cells #[.int .i64 cut] 3)).cell? ⟨w.heap.size, 0, none⟩ = some (.int .i64 cut) := by
        have : (w.alloc (.cells #[.int .i64 cut] 3)).heap[w.heap.size]? = some (.cells #[.int .i64 cut] 3 (0, 0)) := heap_new _ _
        exact cell_of this 0
      have S1 := hide (some_any 20 #[.pointer (some ⟨w.heap.size, 0, none⟩)] (unl cut) tid (some ⟨g, off, none⟩) c n (z :: ks') hn (w.alloc (.cells #[.int .i64 cut] 3)) (hA.below b1) hl enter_o1 (fun x u bu => unl_any x cut w.heap.size u (cellB hBx bu)))
      have S2 := hide (fun u (bu : Below _ (w.alloc (.cells #[.int .i64 cut] 3)) u) => some_any 21 #[.pointer (some ⟨w.heap.size, 0, none⟩)] (abv cut) tid ob d m hs hm u (hB.below (btr b1 bu)) hl2 enter_o2 (fun x u' bu' => abv_any x cut w.heap.size u' (cellB hBx (btr bu bu'))))
      have HX := hide (fun u (bu : Below _ (w.alloc (.cells #[.int .i64 cut] 3)) u) => cellB hBx bu)
      have B1 := hide b1
      rw [any_snd (z :: ks') (fun l => unl cut (gt l tid))] at S1
      rw [any_snd hs (fun l => abv cut (gt l tid))] at S2
      have EC : Hid (cutOf tid ((z :: ks').map Prod.snd) (hs.map Prod.snd) = if (((z :: ks').map Prod.snd).any fun x => unl cut (gt x tid)) || ((hs.map Prod.snd).any fun x => abv cut (gt x tid)) then none else some cut) := by
        show _ = _
        unfold cutOf
        rw [if_pos ht]
        simp only [List.map_cons]
        rw [hcut]
      rw [EC.out]
      clear EC hcut ck c0 hA hB ht hn hl hl2 b1 hBx
      generalize (((z :: ks').map Prod.snd).any fun x => unl cut (gt x tid)) = p1 at *
      generalize ((hs.map Prod.snd).any fun x => abv cut (gt x tid)) = p2 at *
      unfold pt at c0'
      cases p1
      · cases p2
        · go_enter Try.func10, Try.ntmps10
          go_wp2_with fail
          refine I.out.mono ?_
          rintro r w1 ⟨rfl, e1⟩
          obtain rfl := e1.symm
          go_wp2_with fail
          refine GT.out.mono ?_
          rintro r w1 ⟨rfl, e1⟩
          obtain rfl := e1.symm
          go_wp2_with fail
          refine S1.out.mono ?_
          rintro r w2 ⟨rfl, b2⟩
          have B2 := hide b2
          have S3 := hide (S2.out w2 b2)
          clear b2
          go_wp2_with fail
          refine S3.out.mono ?_
          rintro r w3 ⟨rfl, b3⟩
          have x3 := HX.out w3 (btr B2.out b3)
          have B3 := hide (btr (btr B1.out B2.out) b3)
          clear b3
          go_wp2_with fail
          go_ret2
          exact ⟨rfl, B3.out⟩
        · go_enter Try.func10, Try.ntmps10
          go_wp2_with fail
          refine I.out.mono ?_
          rintro r w1 ⟨rfl, e1⟩
          obtain rfl := e1.symm
          go_wp2_with fail
          refine GT.out.mono ?_
          rintro r w1 ⟨rfl, e1⟩
          obtain rfl := e1.symm
          go_wp2_with fail
          refine S1.out.mono ?_
          rintro r w2 ⟨rfl, b2⟩
          have B2 := hide b2
          have S3 := hide (S2.out w2 b2)
          clear b2
          go_wp2_with fail
          refine S3.out.mono ?_
          rintro r w3 ⟨rfl, b3⟩
          have B3 := hide (btr (btr B1.out B2.out) b3)
          clear b3
          go_wp2_with fail
          go_ret2
          exact ⟨rfl, B3.out⟩
      · go_enter Try.func10, Try.ntmps10
        go_wp2_with fail
        refine I.out.mono ?_
        rintro r w1 ⟨rfl, e1⟩
        obtain rfl := e1.symm
        go_wp2_with fail
        refine GT.out.mono ?_
        rintro r w1 ⟨rfl, e1⟩
        obtain rfl := e1.symm
        go_wp2_with fail
        refine S1.out.mono ?_
        rintro r w2 ⟨rfl, b2⟩
        have B2 := hide (btr B1.out b2)
        clear b2
        go_wp2_with fail
        go_ret2
        exact ⟨rfl, B2.out⟩
  · have I := hide (ist_no tid (by omega) w)
    have e : cutOf tid (ks.map Prod.snd) (hs.map Prod.snd) = none := by unfold cutOf; rw [if_neg ht]
    rw [e]
    clear ht hA hB e
    go_enter Try.func10, Try.ntmps10
    go_wp2_with fail
    refine I.out.mono ?_
    rintro r w1 ⟨rfl, e1⟩
    obtain rfl := e1.symm
    go_wp2_with fail
    go_ret2
    exact ⟨rfl, Below.refl _ _⟩
/-- the greatest number at a tid -/
def grF (tid : Int) : List (List Int) → Int → Int
  | [], x => x
  | l :: r, x => grF tid r (max x (gt l tid))
theorem grF_take (tid : Int) (Ls : List (List Int)) (k : Nat) (l : List Int) (h : Ls[k]? = some l) (x : Int) : grF tid (Ls.take (k + 1)) x = max (grF tid (Ls.take k) x) (gt l tid) := by
  induction Ls generalizing k x with
  | nil => simp at h
  | cons y r ih =>
    cases k with
    | zero => simp at h; subst h; rfl
    | succ k => exact ih k (by simpa using h) (max x (gt y tid))
set_option maxHeartbeats 1600000 in
theorem greatest_any (tid : Int) (oa : Option Addr) (c n : Nat) (ks : List (Nat × List Int)) (hn : ks.length = n) (w : World) (hA : KAt w oa ks) (hl : ks.length ≤ 100000) :
    Calls Try.prog 13 #[.int .i64 tid, .slice oa n c] w fun r w' => r = .returned (.int .i64 (grF tid (ks.map Prod.snd) 0)) ∧ w' = w := by
  have HA := hide hA
  have hn2 : n ≤ 9223372036854775807 := by omega
  have HN := hide hn
  clear hA
  go_enter Try.func13, Try.ntmps13
  go_wp2_with fail
  go_loop [5, 10] (fun x i => ∃ k : Nat, k ≤ n ∧ i = .int .i64 (k : Int) ∧ x = .int .i64 (grF tid ((ks.map Prod.snd).take k) 0)) (fun _ i => n - (intOf i).toNat)
  case atStart => exact ⟨0, Nat.zero_le _, rfl, rfl⟩
  case round =>
    obtain ⟨k, hk, rfl, rfl⟩ := hrel
    by_cases hlt : k < n
    · have hlt' : (k : Int) < (n : Int) := by omega
      obtain ⟨z, hz⟩ : ∃ z, ks[k]? = some z := ⟨_, List.getElem?_eq_getElem (by omega)⟩
      obtain ⟨g, off, rfl, c0, ck⟩ := HA.out k z hz
      have GT := hide (get_any z.1 z.2 tid w ck)
      have ES := hide (grF_take tid (ks.map Prod.snd) k z.2 (by rw [List.getElem?_map, hz]; rfl) 0)
      unfold pt at c0
      clear ck hz
      generalize gt z.2 tid = y at *
      generalize grF tid ((ks.map Prod.snd).take k) 0 = x at *
      go_wp2_with fail
      refine GT.out.mono ?_
      rintro r w1 ⟨rfl, e1⟩
      obtain rfl := e1.symm
      go_wp2_with fail
      go_round
      case rel => exact ⟨k + 1, by omega, by go_num, by rw [ES.out]; congr 1; omega⟩
      case measure => simp [intOf]; omega
    · have hlt' : ¬ ((k : Int) < (n : Int)) := by omega
      have ET : Hid ((ks.map Prod.snd).take k = ks.map Prod.snd) := by show _ = _; exact List.take_of_length_le (by simp; omega)
      rw [ET.out]
      go_wp2_with fail
      go_ret
      exact ⟨rfl, rfl⟩
end Rt
end Go.Proofs.Ytbceiakihplbcaa
