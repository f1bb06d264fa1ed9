/- Package remap, over this seat's program: BinarySearchFunc, IndexFunc, ContainsFunc over rows of records; find, taken. -/
import Derived.Test.YtledfepeoajgoaaUa3
import Derived.Lib.Slices
namespace Go.Proofs.Ytledfepeoajgoaa
open Go.ChangeShapes Go.WideShapes Go.ChangeAt Go.RowKit
namespace Rk
open Ba

set_option maxRecDepth 100000 in
set_option maxHeartbeats 3200000 in
theorem search_any (oa : Option Addr) (c : Nat) (l : List Rd) (g : Int) (w : World) (hA : RA w oa l) (hs0 : Srt l) (hl : l.length ≤ 100000) :
    Calls Try.prog 30 #[.slice oa l.length c, .int .i64 g, .func (.func 31) #[] #[]] w fun r w' => r = .returned (.tuple #[.int .i64 (ps l g : Nat), .bool (hs l g)]) ∧ Below w.heap.size w w' := by
  have HA := hide hA
  have HS := hide hs0
  clear hA hs0
  obtain ⟨P, hP⟩ : ∃ P, ps l g = P := ⟨_, rfl⟩
  obtain ⟨B, hB⟩ : ∃ B, hs l g = B := ⟨_, rfl⟩
  have HP := hide hP
  have HB := hide hB
  rw [hP, hB]
  clear hP hB
  obtain ⟨n, hn⟩ : ∃ n, l.length = n := ⟨_, rfl⟩
  have HN := hide hn
  rw [hn] at hl ⊢
  clear hn
  go_enter Try.func30, Try.ntmps30
  go_wp2_with fail
  go_loopw [9, 10] (fun a b wr => ∃ lo hi : Nat, a = .int .i64 (lo : Int) ∧ b = .int .i64 (hi : Int) ∧ lo ≤ hi ∧ hi ≤ n ∧ Below w.heap.size w wr ∧ Hid ((∀ (k : Nat) (x : Rd), k < lo → l[k]? = some x → x.g < g) ∧ ∀ (k : Nat) (x : Rd), hi ≤ k → l[k]? = some x → g ≤ x.g)) (fun a b _ => (intOf b).toNat - (intOf a).toNat)
  case atStart => exact ⟨0, n, rfl, rfl, Nat.zero_le _, Nat.le_refl _, Below.refl _ _, ⟨fun k x hk => absurd hk (Nat.not_lt_zero _), fun k x h1 h2 => by have := (List.getElem?_eq_some_iff.1 h2).1; rw [HN.out] at this; omega⟩⟩
  case round =>
    obtain ⟨lo, hi, rfl, rfl, hlh, hin, bl, I⟩ := hrel
    have BL := hide bl
    clear bl
    by_cases hlt : lo < hi
    · obtain ⟨m, hm⟩ : ∃ m : Nat, m = (lo + hi) / 2 := ⟨_, rfl⟩
      have hm1 : lo ≤ m ∧ m < hi := by omega
      have hml : m < n := by omega
      obtain ⟨x, hx⟩ : ∃ x, l[m]? = some x := ⟨_, List.getElem?_eq_getElem (by rw [HN.out]; exact hml)⟩
      obtain ⟨b, rfl, c0, c1, c2, c3, c4, c5⟩ := (HA.out.below BL.out) m x hx
      have hmi : ((lo : Int) + (hi : Int)) / 2 = (m : Int) := by omega
      have hmn : (lo + hi) / 2 = m := hm.symm
      have CL := hide (fd1_any x g wr)
      have hlt' : (lo : Int) < (hi : Int) := by omega
      have HX := hide hx
      unfold rv at CL
      clear hm hx
      by_cases hy : cmpI x.g g < 0
      · have hyT := hide (cmp_lt.1 hy)
        generalize cmpI x.g g = y at *
        go_wp2_with fail
        refine CL.out.mono ?_
        rintro r w1 ⟨rfl, b1⟩
        have B1 := hide (btr BL.out b1)
        clear b1
        go_wp2_with fail
        go_roundw
        case rel => exact ⟨m + 1, hi, by go_num, rfl, by omega, hin, B1.out, ⟨fun k z hk hz => by
            by_cases e : k = m
            · rw [e, HX.out] at hz; cases hz; exact hyT.out
            · have := HS.out k m z x (by omega) hz HX.out; have := hyT.out; omega, I.out.2⟩⟩
        case measure => simp [intOf]; omega
      · have hyT : Hid (g ≤ x.g) := by
          show g ≤ x.g
          have : ¬ x.g < g := fun h => hy (cmp_lt.2 h)
          omega
        generalize cmpI x.g g = y at *
        go_wp2_with fail
        refine CL.out.mono ?_
        rintro r w1 ⟨rfl, b1⟩
        have B1 := hide (btr BL.out b1)
        clear b1
        go_wp2_with fail
        go_roundw
        case rel => exact ⟨lo, m, rfl, rfl, by omega, by omega, B1.out, ⟨I.out.1, fun k z hk hz => by
            by_cases e : k = m
            · rw [e, HX.out] at hz; cases hz; exact hyT.out
            · have := HS.out m k x z (by omega) HX.out hz; have := hyT.out; omega⟩⟩
        case measure => simp [intOf]; omega
    · obtain rfl : hi = lo := by omega
      have hP : P = hi := HP.out.symm.trans (ps_is (by rw [HN.out]; exact hin) I.out.1 (fun x hx => I.out.2 hi x (Nat.le_refl _) hx))
      subst hP
      by_cases hn : P < n
      · have hn' : (P : Int) < (n : Int) := by omega
        obtain ⟨x, hx⟩ : ∃ x, l[P]? = some x := ⟨_, List.getElem?_eq_getElem (by rw [HN.out]; exact hn)⟩
        obtain ⟨b, rfl, c0, c1, c2, c3, c4, c5⟩ := (HA.out.below BL.out) P x hx
        have CL := hide (fd1_any x g wr)
        have HX := hide hx
        unfold rv at CL
        clear hx
        by_cases hy : cmpI x.g g = 0
        · have hB : B = true := HB.out.symm.trans (hs_iff.2 ⟨P, x, HX.out, cmp_eq.1 hy⟩)
          subst hB
          rw [hy] at CL
          clear hy
          go_wp2_with fail
          refine CL.out.mono ?_
          rintro r w1 ⟨rfl, b1⟩
          have B1 := hide (btr BL.out b1)
          clear b1
          go_wp2_with fail
          go_ret2
          exact ⟨rfl, B1.out⟩
        · have hB : B = false := by
            rw [← HB.out]
            cases hh : hs l g
            · rfl
            · obtain ⟨k, z, hz, e⟩ := hs_iff.1 hh
              exfalso
              rcases Nat.lt_trichotomy k P with q | q | q
              · have := I.out.1 k z q hz; omega
              · rw [q, HX.out] at hz; cases hz; exact hy (cmp_eq.2 e)
              · have := HS.out P k x z q HX.out hz
                have := I.out.2 P x (Nat.le_refl _) HX.out
                omega
          subst hB
          have hyb : (cmpI x.g g == 0) = false := beq_eq_false_iff_ne.2 hy
          clear hy
          generalize cmpI x.g g = y at *
          go_wp2_with fail
          refine CL.out.mono ?_
          rintro r w1 ⟨rfl, b1⟩
          have B1 := hide (btr BL.out b1)
          clear b1
          go_wp2_with fail
          go_ret2
          exact ⟨rfl, B1.out⟩
      · have hn' : ¬ ((P : Int) < (n : Int)) := by omega
        have hB : B = false := by
          rw [← HB.out]
          cases hh : hs l g
          · rfl
          · obtain ⟨k, z, hz, e⟩ := hs_iff.1 hh
            have hk := (List.getElem?_eq_some_iff.1 hz).1
            rw [HN.out] at hk
            have := I.out.1 k z (by omega) hz
            omega
        subst hB
        go_wp2_with fail
        go_ret2
        exact ⟨rfl, BL.out⟩
set_option maxHeartbeats 1600000 in
/-- whatever function is handed on -/
theorem index_any (n : FuncId) (caps : Array Value) (hn : ∀ (a : Array Value) (u : World), (callFunc n a).run Try.prog u = .ok (.enter n a) u) (p : Rd → Bool) (oa : Option Addr) (c : Nat) (ks : List Rd) (w : World) (hA : RA w oa ks) (hl : ks.length ≤ 100000)
    (hp : ∀ u, Below w.heap.size w u → ∀ (k : Nat) (z : Rd), ks[k]? = some z → Calls Try.prog n (#[rv z] ++ caps) u fun r w' => r = .returned (.bool (p z)) ∧ Below u.heap.size u w') :
    Calls Try.prog 38 #[.slice oa ks.length c, .func (.func n) #[] caps] w fun r w' => ∃ i : Int, r = .returned (.int .i64 i) ∧ (decide (0 ≤ i) = ks.any p) ∧ Below w.heap.size w w' := by
  have HA := hide hA
  have HP := hide hp
  have HK : Hid (∀ k, k ≤ ks.length → (∀ (j : Nat) (z : Rd), j < k → ks[j]? = some z → p z = false) → k = ks.length → ks.any p = false) := by
    intro k _ h e
    rw [List.any_eq_false]
    intro z hz
    obtain ⟨j, hj, rfl⟩ := List.getElem_of_mem hz
    have := h j ks[j] (by omega) (List.getElem?_eq_getElem hj)
    simp [this]
  clear hA hp
  obtain ⟨N, hN⟩ : ∃ N, ks.length = N := ⟨_, rfl⟩
  have HN := hide hN
  have hm2 : N ≤ 9223372036854775807 := by omega
  rw [hN] at HK hl ⊢
  clear hN
  go_enter Try.func38, Try.ntmps38
  go_wp2_with fail
  go_loopw [8] (fun i wr => ∃ k : Nat, k ≤ N ∧ i = .int .i64 k ∧ (∀ (j : Nat) (z : Rd), j < k → ks[j]? = some z → p z = false) ∧ Below w.heap.size w wr) (fun i _ => N - (intOf i).toNat)
  case atStart => exact ⟨0, Nat.zero_le _, rfl, fun j _ hj => absurd hj (Nat.not_lt_zero _), Below.refl _ _⟩
  case round =>
    obtain ⟨k, hk, rfl, hall, bl⟩ := hrel
    have HL := hide hall
    have BL := hide bl
    clear hall bl
    by_cases hlt : k < N
    · have hlt' : (k : Int) < (N : Int) := by omega
      obtain ⟨z, hz⟩ : ∃ z, ks[k]? = some z := ⟨_, List.getElem?_eq_getElem (by rw [HN.out]; exact hlt)⟩
      obtain ⟨g, rfl, c0, c1, c2, c3, c4, c5⟩ := (HA.out.below BL.out) k z hz
      have CL := hide (HP.out wr BL.out k z hz)
      have HZ := hide hz
      unfold rv at CL
      clear hz
      cases hpk : p z
      · have HK2 := hide hpk
        rw [hpk] at CL
        clear hpk
        go_wp2_with fail
        refine CL.out.mono ?_
        rintro r w1 ⟨rfl, b1⟩
        have B1 := hide (btr BL.out b1)
        clear b1
        go_wp2_with fail
        go_roundw
        case rel => exact ⟨k + 1, by omega, by go_num, fun j y hj hy => by
          by_cases e : j = k
          · rw [e, HZ.out] at hy; cases hy; exact HK2.out
          · exact HL.out j y (by omega) hy, B1.out⟩
        case measure => simp [intOf]; omega
      · have HK2 := hide hpk
        rw [hpk] at CL
        clear hpk
        go_wp2_with fail
        refine CL.out.mono ?_
        rintro r w1 ⟨rfl, b1⟩
        have B1 := hide (btr BL.out b1)
        clear b1
        have AN : Hid (ks.any p = true) := List.any_eq_true.2 ⟨z, List.mem_of_getElem? HZ.out, HK2.out⟩
        go_wp2_with fail
        go_ret
        exact ⟨(k : Int), rfl, by rw [AN.out]; simp, B1.out⟩
    · have hlt' : ¬ ((k : Int) < (N : Int)) := by omega
      have AN := hide (HK.out k (by omega) HL.out (by omega))
      go_wp2_with fail
      go_ret
      exact ⟨-1, rfl, by rw [AN.out]; simp, BL.out⟩
theorem contains_any (n : FuncId) (caps : Array Value) (hn : ∀ (a : Array Value) (u : World), (callFunc n a).run Try.prog u = .ok (.enter n a) u) (p : Rd → Bool) (oa : Option Addr) (c : Nat) (ks : List Rd) (w : World) (hA : RA w oa ks) (hl : ks.length ≤ 100000)
    (hp : ∀ u, Below w.heap.size w u → ∀ (k : Nat) (z : Rd), ks[k]? = some z → Calls Try.prog n (#[rv z] ++ caps) u fun r w' => r = .returned (.bool (p z)) ∧ Below u.heap.size u w') :
    Calls Try.prog 33 #[.slice oa ks.length c, .func (.func n) #[] caps] w fun r w' => r = .returned (.bool (ks.any p)) ∧ Below w.heap.size w w' := by
  have IX := hide (index_any n caps hn p oa c ks w hA hl hp)
  clear hA hp hn hl
  go_enter Try.func33, Try.ntmps33
  go_wp2_with fail
  refine IX.out.mono ?_
  rintro r w1 ⟨i, rfl, hi, b1⟩
  have B1 := hide b1
  have HI := hide hi
  clear b1 hi
  go_wp2_with fail
  go_ret
  exact ⟨ret_bool HI.out, B1.out⟩
abbrev PT (w : World) (B : Nat) (F : Nat → Prop) (l : List Rd) : Prop := Tq 53 32 w B F l
theorem find_nil (g : Int) (w : World) :
    Calls Try.prog 22 #[.pointer none, .int .i64 g] w fun r w' => r = .returned (.tuple #[.int .i64 0, .bool false]) ∧ w' = w := by
  go_enter Try.func22, Try.ntmps22
  go_wp2_with fail
  go_ret2
  exact ⟨rfl, rfl⟩
theorem find_any (B : Nat) (F : Nat → Prop) (oa : Option Addr) (c : Nat) (l : List Rd) (g : Int) (w : World) (h : Tb 53 32 w B F oa c l) (hs0 : Srt l) (hl : l.length ≤ 100000) :
    Calls Try.prog 22 #[.pointer (some ⟨B, 0, none⟩), .int .i64 g] w fun r w' => r = .returned (.tuple #[.int .i64 (ps l g : Nat), .bool (hs l g)]) ∧ Below w.heap.size w w' := by
  have y0 : w.cell? ⟨B, 0, none⟩ = some (.slice oa l.length c) := cell_of h.hp 0
  have SE := hide (search_any oa c l g w h.at.1 hs0 hl)
  clear h hs0 hl
  generalize ps l g = P at SE ⊢
  generalize hs l g = q at SE ⊢
  go_enter Try.func22, Try.ntmps22
  go_wp2_with fail
  refine SE.out.mono ?_
  rintro r w1 ⟨rfl, b1⟩
  have B1 := hide b1
  clear b1
  go_wp2_with fail
  go_ret2
  exact ⟨rfl, B1.out⟩
set_option maxHeartbeats 1600000 in
theorem taken_any (B : Nat) (F : Nat → Prop) (oa : Option Addr) (c : Nat) (l : List Rd) (t n : Int) (w : World) (h : Tb 53 32 w B F oa c l) (hl : l.length ≤ 100000) :
    Calls Try.prog 27 #[.pointer (some ⟨B, 0, none⟩), .int .i64 t, .int .i64 n] w fun r w' => r = .returned (.bool (tkn l t n)) ∧ Below w.heap.size w w' := by
  obtain ⟨W, hW⟩ : ∃ W, W = (w.alloc (.cells #[.int .i64 t] 3)).alloc (.cells #[.int .i64 n] 3) := ⟨_, rfl⟩
  have bW : Below w.heap.size w W := by rw [hW]; exact btr (below_alloc _ _) (below_alloc _ _)
  have sz : (w.alloc (.cells #[.int .i64 t] 3)).heap.size = w.heap.size + 1 := World.size_alloc _ _
  have c0 : W.cell? ⟨w.heap.size, 0, none⟩ = some (.int .i64 t) := by rw [hW]; exact cell_of (heap_below (heap_new w _) (below_alloc _ _)) 0
  have c1 : W.cell? ⟨w.heap.size + 1, 0, none⟩ = some (.int .i64 n) := by rw [hW, ← sz]; exact cell_of (heap_new _ _) 0
  have h' := h.below bW
  have y0 : w.cell? ⟨B, 0, none⟩ = some (.slice oa l.length c) := cell_of h.hp 0
  have hB := h.lt
  have HW := hide hW
  have CO := hide (contains_any 34 #[.pointer (some ⟨w.heap.size, 0, none⟩), .pointer (some ⟨w.heap.size + 1, 0, none⟩)] (fun a u => by kernel_rfl) (fun x => x.t == t && st x n) oa c l W h'.at.1 hl (fun u bu k z hz => tk1_any z t n _ _ u (cellB c0 bu) (cellB c1 bu)))
  have BW := hide bW
  clear h h' bW c0 c1 hW sz
  unfold tkn
  generalize (l.any fun x => x.t == t && st x n) = q at CO ⊢
  go_enter Try.func27, Try.ntmps27
  go_wp2_with fail
  rw [← HW.out]
  refine CO.out.mono ?_
  rintro r w1 ⟨rfl, b1⟩
  have B1 := hide (btr BW.out b1)
  clear b1
  go_wp2_with fail
  go_ret
  exact ⟨rfl, B1.out⟩
end Rk
end Go.Proofs.Ytledfepeoajgoaa
