/- Package reel: a number's bytes; spell, over this seat's program. -/
import Derived.Test.YtlcaelfkgillmaaBa
namespace Go.Proofs.Ytlcaelfkgillmaa
open Go.ChangeShapes Go.WideShapes Go.ChangeAt Go.RowKit
namespace Re
open Ba

/-- the k lowest bytes of n, the highest first -/
def dg : Nat → Nat → List Nat
  | 0, _ => []
  | k + 1, n => n / 256 ^ k % 256 :: dg k n
theorem dg_length (k n : Nat) : (dg k n).length = k := by induction k with | zero => rfl | succ k ih => simp [dg, ih]
/-- how many bytes hold it -/
def nb (n : Nat) : Nat := if n < 256 then 1 else if n < 65536 then 2 else if n < 16777216 then 3 else if n < 4294967296 then 4 else if n < 1099511627776 then 5 else 6
set_option maxRecDepth 100000 in
theorem nb_is (n j : Nat) (hj : j ≤ 5) (h1 : j = 0 ∨ 256 ^ j ≤ n) (h2 : n < 256 ^ (j + 1)) : nb n = j + 1 := by
  have p1 : 256 ^ 1 = 256 := rfl
  have p2 : 256 ^ (1 + 1) = 65536 := rfl
  have p3 : 256 ^ (2 + 1) = 16777216 := rfl
  have p4 : 256 ^ (3 + 1) = 4294967296 := rfl
  have p5 : 256 ^ (4 + 1) = 1099511627776 := rfl
  unfold nb
  match j, hj with
  | 0, _ => rw [Nat.zero_add, p1] at h2; rw [if_pos h2]
  | 1, _ => rw [p2] at h2; rw [p1] at h1; rw [if_neg (by omega), if_pos h2]
  | 2, _ => rw [p3] at h2; rw [show 256 ^ 2 = 65536 from rfl] at h1; rw [if_neg (by omega), if_neg (by omega), if_pos h2]
  | 3, _ => rw [p4] at h2; rw [show 256 ^ 3 = 16777216 from rfl] at h1; rw [if_neg (by omega), if_neg (by omega), if_neg (by omega), if_pos h2]
  | 4, _ => rw [p5] at h2; rw [show 256 ^ 4 = 4294967296 from rfl] at h1; rw [if_neg (by omega), if_neg (by omega), if_neg (by omega), if_neg (by omega), if_pos h2]
  | 5, _ => rw [show 256 ^ 5 = 1099511627776 from rfl] at h1; rw [if_neg (by omega), if_neg (by omega), if_neg (by omega), if_neg (by omega), if_neg (by omega)]
theorem nb_le (n : Nat) : nb n ≤ 6 := by unfold nb; repeat' split
                                         all_goals omega
theorem nb_pos (n : Nat) : 1 ≤ nb n := by unfold nb; repeat' split
                                          all_goals omega
/-- a number's bytes -/
def spl (n : Nat) : List Nat := bif decide (n < 240) then [n] else (240 + nb n) :: dg (nb n) n
theorem spl_lo (n : Nat) (h : n < 240) : spl n = [n] := by simp [spl, h]
theorem spl_hi (n : Nat) (h : 240 ≤ n) : spl n = (240 + nb n) :: dg (nb n) n := by
  have : ¬ n < 240 := by omega
  simp [spl, this]

theorem spl_len (n : Nat) : 1 ≤ (spl n).length ∧ (spl n).length ≤ 7 := by
  by_cases h : n < 240
  · rw [spl_lo n h]; exact ⟨Nat.le_refl _, by simp⟩
  · rw [spl_hi n (by omega), List.length_cons, dg_length]
    have := nb_le n
    omega

/-- seven bytes, L at their end -/
def rm (L : List Nat) : Array Value := (List.replicate (7 - L.length) (Value.int .u8 0) ++ L.map fun b : Nat => Value.int .u8 (b : Int)).toArray
theorem rm_size (L : List Nat) (h : L.length ≤ 7) : (rm L).size = 7 := by simp [rm]; omega
theorem rm_push (L : List Nat) (b : Nat) (h : L.length < 7) : (rm L).setIfInBounds (7 - L.length - 1) (.int .u8 (b : Int)) = rm (b :: L) := by
  apply Array.toList_inj.1
  have e : 7 - L.length = (7 - L.length - 1) + 1 := by omega
  generalize hq : 7 - L.length - 1 = q at e
  have e2 : 7 - (b :: L).length = q := by simp; omega
  simp only [rm, e, e2, Array.toList_setIfInBounds, List.replicate_succ']
  simp
theorem rm_at0 (L : List Nat) (q : Nat) (h : q < 7 - L.length) : (rm L)[q]? = some (.int .u8 0) := by
  simp [rm, List.getElem?_append, h]
theorem rm_one (L : List Nat) : (rm L).all (·.oneCell') = true := by
  simp only [rm, List.all_toArray, List.all_append, Bool.and_eq_true, List.all_eq_true]
  refine ⟨fun v hv => ?_, fun v hv => ?_⟩
  · rw [List.eq_of_mem_replicate hv]; rfl
  · obtain ⟨k, _, rfl⟩ := List.mem_map.1 hv; rfl
theorem rm_nil : (#[.int .u8 0, .int .u8 0, .int .u8 0, .int .u8 0, .int .u8 0, .int .u8 0, .int .u8 0] : Array Value) = rm [] := rfl

theorem size_room : (Try.prog.info? 83).map (·.size) = some 7 := by kernel_rfl
theorem loadVar_room {w : World} {b : Nat} {c : Array Value} {t : TypeId} (h : w.heap[b]? = some (.cells c t (0, 0))) (hc : c.size = 7) : (loadVar 83 ⟨b, 0, none⟩).run Try.prog w = .ok (.agg c) w :=
  run_loadVar_row w b t _ _ _ _ h Try.underlying83 rfl (by rw [size_room, hc])

/-- behind the last byte: the one ahead of them, if there are several, and the answer -/
theorem last (n j : Nat) (hj : j ≤ 5) (h1 : j = 0 ∨ 256 ^ j ≤ n) (h2 : n < 256 ^ (j + 1)) : (240 ≤ n → spl n = (240 + (j + 1)) :: dg (j + 1) n) ∧ (n < 240 → spl n = dg (j + 1) n) := by
  have e := nb_is n j hj h1 h2
  refine ⟨fun h => by rw [spl_hi n h, e], fun h => ?_⟩
  have j0 : j = 0 := by
    rcases h1 with h1 | h1
    · exact h1
    · by_cases q : j = 0
      · exact q
      · have : 256 ^ 1 ≤ 256 ^ j := Nat.pow_le_pow_right (by decide) (by omega)
        omega
  subst j0
  rw [spl_lo n h]
  simp [dg]
  omega

set_option maxRecDepth 100000 in
set_option maxHeartbeats 3200000 in
theorem spell_any (n : Nat) (h1 : n ≤ 1099511627776) (w : World) :
    Calls Try.prog 36 #[.int .i64 (n : Int)] w fun r w' => r = .returned (.tuple #[.agg (rm (spl n)), .int .i64 ((7 - (spl n).length : Nat) : Int)]) ∧ Below w.heap.size w w' := by
  go_enter Try.func36, Try.ntmps36
  go_wp2
  refine wp_scope_jumps 0 (fun a' w' => ∃ (j m q : Nat) (u5 u6 u7 u8 u9 u10 u11 u12 u13 u14 u15 u16 u17 u18 u19 u20 u21 u22 u23 u24 u25 u26 u27 u28 u29 : Value), a' = { tmps := #[.int .i64 (m : Int), undef, .pointer (some ⟨w.heap.size, 0, none⟩), .int .i64 ((q + 1 : Nat) : Int), .bool (decide (240 ≤ (n : Int))), u5, u6, u7, u8, u9, u10, u11, u12, u13, u14, u15, u16, u17, u18, u19, u20, u21, u22, u23, u24, u25, u26, u27, u28, u29], defers := [] } ∧ q + 1 + j = 7 ∧ m = n / 256 ^ j ∧ 1 ≤ m ∧ w'.heap[w.heap.size]? = some (.cells (rm (dg j n)) 83 (0, 0)) ∧ Below w.heap.size w w') (fun a' _ => (intOf (a'.tmps.getD 0 undef)).toNat) rfl ?_ ?_
  · have hb : Below w.heap.size w (w.alloc (.cells (rm []) 83)) := below_alloc _ _
    have hh := heap_new w (.cells (rm []) 83)
    rw [rm_nil]
    generalize w.alloc (.cells (rm []) 83) = w' at hb hh ⊢
    have c1 := (cell_of hh 6).trans (rm_at0 [] 6 (by decide))
    have f1 := frozen_of hh 6
    have HH := hide hh
    have HB := hide hb
    clear hh hb
    have hpush : ∀ v : Int, v = ((n % 256 : Nat) : Int) → (w'.setCell ⟨w.heap.size, 6, none⟩ (.int .u8 v)).heap[w.heap.size]? = some (.cells (rm (dg 1 n)) 83 (0, 0)) := by
      intro v hv
      have := rm_push [] (n % 256) (by decide)
      rw [Ba.heap_setCell_same HH.out, hv]
      simp at this
      simp [this, dg]
    have HP := hide hpush
    clear hpush
    by_cases hd : 1 ≤ n / 256
    · have hd' : decide (0 < (n : Int) / 256) = true := by simp; omega
      go_wp2
      go_step3
      go_wp2
      go_step3
      rw [show ((n : Int) / 256) = ((n / 256 : Nat) : Int) by omega]
      refine ⟨rfl, 1, n / 256, 5, _, _, _, _, _, _, _, _, _, _, _, _, _, _, _, _, _, _, _, _, _, _, _, _, _, rfl, by omega, by simp, hd, ?_, ?_⟩
      · exact HP.out _ (by omega)
      · exact HB.out.setCell (Nat.le_refl _) _
    · have hd' : decide (0 < (n : Int) / 256) = false := by simp; omega
      have hn256 : n < 256 := by omega
      have hW1 := HP.out (n : Int) (by omega)
      have LA := hide (last n 0 (by decide) (.inl rfl) (by simpa using hn256))
      by_cases h2 : 240 ≤ n
      · have h2' : decide (240 ≤ (n : Int)) = true := by simp; omega
        have es := LA.out.1 h2
        have c2 := (cell_of hW1 5).trans (rm_at0 (dg 1 n) 5 (by rw [dg_length]; omega))
        have f2 := frozen_of hW1 5
        have f3 := frozen_of HH.out 5
        have hW2 : ((w'.setCell ⟨w.heap.size, 6, none⟩ (.int .u8 (n : Int))).setCell ⟨w.heap.size, 5, none⟩ (.int .u8 241)).heap[w.heap.size]? = some (.cells (rm (spl n)) 83 (0, 0)) := by
          have := rm_push (dg 1 n) 241 (by rw [dg_length]; decide)
          rw [dg_length] at this
          rw [Ba.heap_setCell_same hW1, es]
          simp at this ⊢
          exact this
        have H2 := hide hW2
        have hsz : (rm (spl n)).size = 7 := rm_size _ (by rw [es, List.length_cons, dg_length]; omega)
        have SZ : Hid ((Try.prog.info? 83).map (·.size) = some (rm (spl n)).size) := by show _ = _; rw [size_room, hsz]
        have HS := hide hsz
        have E3 : Hid (((7 - (spl n).length : Nat) : Int) = 5) := by show _ = _; rw [es, List.length_cons, dg_length]; rfl
        clear hW1 hW2 es hsz
        go_wp2_with fail
        go_step3
        go_wp2_with (first | (refine wpList_load_row rfl 83 _ rfl _ rfl 83 _ (0, 0) _ H2.out Try.underlying83 rfl SZ.out ?_) | (refine wpList_store_row rfl 83 _ _ rfl _ _ rfl rfl 83 _ H2.out SZ.out rfl (rm_one _) ?_))
        simp only [Exit.jump]
        exact bodyPost_ret (results_row2 Try.results36 _ _ _ _ _ rfl rfl (loadVar_room (setRow_heap _ _ _ _ _ _ H2.out) HS.out)) rfl ⟨by rw [E3.out]; rfl, below_setRow ((HB.out.setCell (Nat.le_refl _) _).setCell (Nat.le_refl _) _) (Nat.le_refl _) _⟩
      · have h2' : decide (240 ≤ (n : Int)) = false := by simp; omega
        have es := LA.out.2 (by omega)
        rw [show dg 1 n = dg (0 + 1) n from rfl, ← es] at hW1
        have H2 := hide hW1
        have hsz : (rm (spl n)).size = 7 := rm_size _ (by rw [es, dg_length]; omega)
        have SZ : Hid ((Try.prog.info? 83).map (·.size) = some (rm (spl n)).size) := by show _ = _; rw [size_room, hsz]
        have HS := hide hsz
        have E3 : Hid (((7 - (spl n).length : Nat) : Int) = 6) := by show _ = _; rw [es, dg_length]; rfl
        clear hW1 es hsz
        go_wp2_with fail
        go_step3
        go_wp2_with (first | (refine wpList_load_row rfl 83 _ rfl _ rfl 83 _ (0, 0) _ H2.out Try.underlying83 rfl SZ.out ?_) | (refine wpList_store_row rfl 83 _ _ rfl _ _ rfl rfl 83 _ H2.out SZ.out rfl (rm_one _) ?_))
        simp only [Exit.jump]
        exact bodyPost_ret (results_row2 Try.results36 _ _ _ _ _ rfl rfl (loadVar_room (setRow_heap _ _ _ _ _ _ H2.out) HS.out)) rfl ⟨by rw [E3.out]; rfl, below_setRow (HB.out.setCell (Nat.le_refl _) _) (Nat.le_refl _) _⟩
  · rintro a' w' ⟨j, m, q, u5, u6, u7, u8, u9, u10, u11, u12, u13, u14, u15, u16, u17, u18, u19, u20, u21, u22, u23, u24, u25, u26, u27, u28, u29, rfl, hj, hm, hm1, hh, hb⟩
    have c1 := (cell_of hh q).trans (rm_at0 (dg j n) q (by rw [dg_length]; omega))
    have f1 := frozen_of hh q
    have HM := hide hm
    have HH := hide hh
    have HB := hide hb
    have hml : m ≤ 1099511627776 := by rw [hm]; exact Nat.le_trans (Nat.div_le_self _ _) h1
    clear hm hh hb
    have hpush : ∀ v : Int, v = ((n / 256 ^ j % 256 : Nat) : Int) → (w'.setCell ⟨w.heap.size, q, none⟩ (.int .u8 v)).heap[w.heap.size]? = some (.cells (rm (dg (j + 1) n)) 83 (0, 0)) := by
      intro v hv
      rw [Ba.heap_setCell_same HH.out, hv, show q = 7 - (dg j n).length - 1 by rw [dg_length]; omega, rm_push _ _ (by rw [dg_length]; omega)]
      rfl
    have HP := hide hpush
    clear hpush
    by_cases hd : 1 ≤ m / 256
    · have hd' : decide (0 < (m : Int) / 256) = true := by simp; omega
      have e4 : m / 256 = n / 256 ^ (j + 1) := by rw [HM.out, Nat.div_div_eq_div_mul, Nat.pow_succ]
      have hj5 : j + 1 ≤ 5 := by
        by_cases q5 : j + 1 ≤ 5
        · exact q5
        · exfalso
          have : 256 ^ 6 ≤ 256 ^ (j + 1) := Nat.pow_le_pow_right (by decide) (by omega)
          have h0 : n / 256 ^ (j + 1) = 0 := Nat.div_eq_of_lt (Nat.lt_of_lt_of_le (by rw [show 256 ^ 6 = 281474976710656 from rfl]; omega) this)
          omega
      have E4 := hide e4
      clear e4
      go_wp2
      go_step3
      rw [show ((m : Int) / 256) = ((m / 256 : Nat) : Int) by omega, show (q : Int) = ((q - 1 + 1 : Nat) : Int) by omega]
      refine ⟨rfl, ⟨j + 1, m / 256, q - 1, _, _, _, _, _, _, _, _, _, _, _, _, _, _, _, _, _, _, _, _, _, _, _, _, _, rfl, by omega, E4.out, hd, ?_, ?_⟩, ?_⟩
      · exact HP.out _ (by rw [← HM.out]; omega)
      · exact HB.out.setCell (Nat.le_refl _) _
      · simp [intOf]
        omega
    · have hd' : decide (0 < (m : Int) / 256) = false := by simp; omega
      have hm256 : m < 256 := by omega
      have hlt : n < 256 ^ (j + 1) := by
        have := (Nat.div_lt_iff_lt_mul (Nat.pow_pos (by decide : 0 < 256))).1 (HM.out ▸ hm256 : n / 256 ^ j < 256)
        rw [Nat.pow_succ]; omega
      have hge : 256 ^ j ≤ n := by
        have := (Nat.le_div_iff_mul_le (Nat.pow_pos (by decide : 0 < 256))).1 (HM.out ▸ hm1 : 1 ≤ n / 256 ^ j)
        omega
      have hj5 : j ≤ 5 := by
        by_cases q5 : j ≤ 5
        · exact q5
        · exfalso
          have : 256 ^ 6 ≤ 256 ^ j := Nat.pow_le_pow_right (by decide) (by omega)
          rw [show 256 ^ 6 = 281474976710656 from rfl] at this
          omega
      have hW1 := HP.out (m : Int) (by rw [← HM.out]; omega)
      have LA := hide (last n j hj5 (.inr hge) hlt)
      clear hlt hge
      by_cases h2 : 240 ≤ n
      · have h2' : decide (240 ≤ (n : Int)) = true := by simp; omega
        have es := LA.out.1 h2
        have c2 := (cell_of hW1 (q - 1)).trans (rm_at0 (dg (j + 1) n) (q - 1) (by rw [dg_length]; omega))
        have f2 := frozen_of hW1 (q - 1)
        have f3 := frozen_of HH.out (q - 1)
        have hW2 : ((w'.setCell ⟨w.heap.size, q, none⟩ (.int .u8 (m : Int))).setCell ⟨w.heap.size, q - 1, none⟩ (.int .u8 (240 + (7 - (q : Int))))).heap[w.heap.size]? = some (.cells (rm (spl n)) 83 (0, 0)) := by
          rw [Ba.heap_setCell_same hW1, show (240 + (7 - (q : Int))) = ((240 + (j + 1) : Nat) : Int) by omega, show q - 1 = 7 - (dg (j + 1) n).length - 1 by rw [dg_length]; omega, rm_push _ _ (by rw [dg_length]; omega), es]
        have H2 := hide hW2
        have hsz : (rm (spl n)).size = 7 := rm_size _ (by rw [es, List.length_cons, dg_length]; omega)
        have SZ : Hid ((Try.prog.info? 83).map (·.size) = some (rm (spl n)).size) := by show _ = _; rw [size_room, hsz]
        have HS := hide hsz
        have E3 : Hid (((7 - (spl n).length : Nat) : Int) = (q : Int) - 1) := by show _ = _; rw [es, List.length_cons, dg_length]; omega
        clear hW1 hW2 es hsz
        go_wp2_with (first | (refine wpList_load_row rfl 83 _ rfl _ rfl 83 _ (0, 0) _ H2.out Try.underlying83 rfl SZ.out ?_) | (refine wpList_store_row rfl 83 _ _ rfl _ _ rfl rfl 83 _ H2.out SZ.out rfl (rm_one _) ?_))
        simp only [Exit.jump]
        exact bodyPost_ret (results_row2 Try.results36 _ _ _ _ _ rfl rfl (loadVar_room (setRow_heap _ _ _ _ _ _ H2.out) HS.out)) rfl ⟨by rw [E3.out]; rfl, below_setRow ((HB.out.setCell (Nat.le_refl _) _).setCell (Nat.le_refl _) _) (Nat.le_refl _) _⟩
      · have h2' : decide (240 ≤ (n : Int)) = false := by simp; omega
        have es := LA.out.2 (by omega)
        rw [← es] at hW1
        have H2 := hide hW1
        have hsz : (rm (spl n)).size = 7 := rm_size _ (by rw [es, dg_length]; omega)
        have SZ : Hid ((Try.prog.info? 83).map (·.size) = some (rm (spl n)).size) := by show _ = _; rw [size_room, hsz]
        have HS := hide hsz
        have E3 : Hid (((7 - (spl n).length : Nat) : Int) = (q : Int)) := by show _ = _; rw [es, dg_length]; omega
        clear hW1 es hsz
        go_wp2_with (first | (refine wpList_load_row rfl 83 _ rfl _ rfl 83 _ (0, 0) _ H2.out Try.underlying83 rfl SZ.out ?_) | (refine wpList_store_row rfl 83 _ _ rfl _ _ rfl rfl 83 _ H2.out SZ.out rfl (rm_one _) ?_))
        simp only [Exit.jump]
        exact bodyPost_ret (results_row2 Try.results36 _ _ _ _ _ rfl rfl (loadVar_room (setRow_heap _ _ _ _ _ _ H2.out) HS.out)) rfl ⟨by rw [E3.out]; rfl, below_setRow (HB.out.setCell (Nat.le_refl _) _) (Nat.le_refl _) _⟩
end Re
end Go.Proofs.Ytlcaelfkgillmaa
