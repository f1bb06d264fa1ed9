import Derived.Test.YtocmdehpbipmlaaRows
import Derived.WalkKit
import Derived.ProofKit
import Derived.OpenShut
import Derived.WalkLawsBesides
import Derived.WalkSpells
import Derived.WalkMore
import Derived.ScopeJumps
import Derived.Below
import Derived.Laws.CopyOwn
import Derived.Laws.MakeOwn
import Derived.Deep.QuietTactic
import Derived.BigQuiet
import Derived.Deep.RegionHeld
import Derived.Laws.IdiomStrings
import Derived.LoopN
/- What lies in memory: lists of int, rows of cells, frames. -/
namespace Go.Proofs.Ytocmdehpbipmlaa
open Go.ChangeShapes Go.WideShapes Go.ChangeAt Go.RowKit
namespace Ba

theorem hide {p : Prop} (h : p) : Hid p := h

/-- the k'th number of a list, 0 behind its end -/
def nth (l : List Int) (k : Nat) : Int := l.getD k 0
theorem nth_out (l : List Int) (k : Nat) (h : l.length ≤ k) : nth l k = 0 := by simp [nth, h]
theorem nth_lt (l : List Int) (k : Nat) (h : k < l.length) : nth l k = l[k] := by simp [nth, h]
theorem nth_take (l : List Int) (n k : Nat) (h : k < n) : nth (l.take n) k = nth l k := by simp [nth, h]
theorem eq_of_nth {l m : List Int} (h : l.length = m.length) (hn : ∀ k, k < l.length → nth l k = nth m k) : l = m := by
  apply List.ext_getElem h
  intro i h1 h2
  have := hn i h1
  rw [nth_lt l i h1, nth_lt m i h2] at this
  exact this

/-- the cells from oa on hold l -/
def At (w : World) (oa : Option Addr) (l : List Int) : Prop :=
  ∀ k, k < l.length → ∃ b off, oa = some ⟨b, off, none⟩ ∧ w.cell? ⟨b, off + k, none⟩ = some (.int .i64 (nth l k))
theorem At.below {w w' : World} {oa : Option Addr} {l : List Int} (h : At w oa l) (hb : Below w.heap.size w w') : At w' oa l := by
  intro k hk
  obtain ⟨b, off, he, hc⟩ := h k hk
  exact ⟨b, off, he, (hb.cell (World.block_lt_of_cell? w _ hc)).trans hc⟩
theorem At.nil (w : World) (oa : Option Addr) : At w oa [] := fun _ hk => absurd hk (Nat.not_lt_zero _)

/-- a row of the numbers l -/
def row (l : List Int) : Array Value := (l.map (Value.int .i64)).toArray
theorem row_size (l : List Int) : (row l).size = l.length := by simp [row]
theorem row_at (l : List Int) (k : Nat) (h : k < l.length) : (row l)[k]? = some (.int .i64 (nth l k)) := by simp [row, nth, h]

theorem heap_new (w : World) (o : Obj) : (w.alloc o).heap[w.heap.size]? = some o := by
  show (w.heap.push o)[w.heap.size]? = some o
  simp
theorem setRow_new (w : World) (cur data : Array Value) (t : TypeId) : (w.alloc (.cells cur t)).setRow w.heap.size data = w.alloc (.cells data t) := by
  unfold World.setRow World.alloc
  congr 1
  apply Array.ext
  · simp
  · intro i h1 h2
    simp [Array.getElem_modify, Array.getElem_push]
    split
    · simp_all
    · have : i < w.heap.size := by simp at h1; omega
      simp [this]
theorem cell_of {w : World} {b : Nat} {cur : Array Value} {t : TypeId} {fr : Nat × Nat} (h : w.heap[b]? = some (.cells cur t fr)) (k : Nat) : w.cell? ⟨b, k, none⟩ = cur[k]? := by
  simp [World.cell?, h]
theorem frozen_of {w : World} {b : Nat} {cur : Array Value} {t : TypeId} (h : w.heap[b]? = some (.cells cur t (0, 0))) (k : Nat) : w.frozen? ⟨b, k, none⟩ = false := by
  simp [World.frozen?, h]
theorem heap_setCell_same {w : World} {b i : Nat} {cur : Array Value} {t : TypeId} {fr : Nat × Nat} (h : w.heap[b]? = some (.cells cur t fr)) (v : Value) : (w.setCell ⟨b, i, none⟩ v).heap[b]? = some (.cells (cur.setIfInBounds i v) t fr) := by
  rw [setCell_eq_setRow w b i cur t fr v h]
  exact setRow_heap w b cur _ t fr h
theorem At.new (w : World) (l : List Int) (t : TypeId) : At (w.alloc (.cells (row l) t)) (some ⟨w.heap.size, 0, none⟩) l := by
  intro k hk
  refine ⟨w.heap.size, 0, rfl, ?_⟩
  rw [Nat.zero_add, ← row_at l k hk]
  exact cell_of (heap_new _ _) k
theorem At.lit (w : World) (l : List Int) (t : TypeId) (c : Array Value) (h : c = row l) : At (w.alloc (.cells c t)) (some ⟨w.heap.size, 0, none⟩) l := by
  subst h
  exact At.new w l t

theorem btr {a b c : World} (h : Below a.heap.size a b) (k : Below b.heap.size b c) : Below a.heap.size a c := h.trans (k.mono h.size)
theorem below_alloc (w : World) (o : Obj) : Below w.heap.size w (w.alloc o) := (Below.refl _ _).alloc (Nat.le_refl _) _
theorem bdrew (w : World) (q : Nat) : Below w.heap.size w (w.drewN q) := ⟨rfl, rfl, rfl, Nat.le_refl _, fun _ _ => rfl⟩
theorem bdrew1 (w : World) : Below w.heap.size w w.drew := ⟨rfl, rfl, rfl, Nat.le_refl _, fun _ _ => rfl⟩
theorem heap_below {w w' : World} {b : Nat} {o : Obj} (h : w.heap[b]? = some o) (hb : Below w.heap.size w w') : w'.heap[b]? = some o := by
  have hl : b < w.heap.size := by
    rcases Nat.lt_or_ge b w.heap.size with q | q
    · exact q
    · rw [Array.getElem?_eq_none q] at h; cases h
  exact (hb.block b hl).trans h

theorem results_row2 {fn : Func} {p u : Tmp} {ty : TypeId} (h : fn.results = #[.cell p ty, .tmp u]) (tmps : Array Value) (w : World) (g : Nat) (cs : Array Value) (v : Value)
    (hp : tmps.getD p undef = .pointer (some ⟨g, 0, none⟩)) (hv : tmps.getD u undef = v) (hl : (loadVar ty ⟨g, 0, none⟩).run Try.prog w = .ok (.agg cs) w) :
    (results fn tmps).run Try.prog w = .ok (.tuple #[.agg cs, v]) w := by
  subst hv
  have hp' : tmps[p]?.getD undef = .pointer (some ⟨g, 0, none⟩) := by simpa using hp
  simp [results, h, hp', asAddr, hl]
theorem ret_bool {a b : Bool} (h : a = b) : Ending.returned (.bool a) = .returned (.bool b) := by rw [h]
theorem ret_int {a b : Int} (h : a = b) : Ending.returned (.int .i64 a) = .returned (.int .i64 b) := by rw [h]
end Ba
end Go.Proofs.Ytocmdehpbipmlaa
/- Package reel: a number's bytes; spell, over this seat's program. -/
namespace Go.Proofs.Ytocmdehpbipmlaa
open Go.ChangeShapes Go.WideShapes Go.ChangeAt Go.RowKit
namespace Re
open Ba

/-- the k lowest bytes of n, the highest first -/
def dg : Nat → Nat → List Nat
  | 0, _ => []
  | k + 1, n => n / 256 ^ k % 256 :: dg k n
theorem dg_length (k n : Nat) : (dg k n).length = k := by induction k with | zero => rfl | succ k ih => simp [dg, ih]
/-- how many bytes hold it -/
def nb (n : Nat) : Nat := if n < 256 then 1 else if n < 65536 then 2 else if n < 16777216 then 3 else if n < 4294967296 then 4 else if n < 1099511627776 then 5 else 6
set_option maxRecDepth 100000 in
theorem nb_is (n j : Nat) (hj : j ≤ 5) (h1 : j = 0 ∨ 256 ^ j ≤ n) (h2 : n < 256 ^ (j + 1)) : nb n = j + 1 := by
  have p1 : 256 ^ 1 = 256 := rfl
  have p2 : 256 ^ (1 + 1) = 65536 := rfl
  have p3 : 256 ^ (2 + 1) = 16777216 := rfl
  have p4 : 256 ^ (3 + 1) = 4294967296 := rfl
  have p5 : 256 ^ (4 + 1) = 1099511627776 := rfl
  unfold nb
  match j, hj with
  | 0, _ => rw [Nat.zero_add, p1] at h2; rw [if_pos h2]
  | 1, _ => rw [p2] at h2; rw [p1] at h1; rw [if_neg (by omega), if_pos h2]
  | 2, _ => rw [p3] at h2; rw [show 256 ^ 2 = 65536 from rfl] at h1; rw [if_neg (by omega), if_neg (by omega), if_pos h2]
  | 3, _ => rw [p4] at h2; rw [show 256 ^ 3 = 16777216 from rfl] at h1; rw [if_neg (by omega), if_neg (by omega), if_neg (by omega), if_pos h2]
  | 4, _ => rw [p5] at h2; rw [show 256 ^ 4 = 4294967296 from rfl] at h1; rw [if_neg (by omega), if_neg (by omega), if_neg (by omega), if_neg (by omega), if_pos h2]
  | 5, _ => rw [show 256 ^ 5 = 1099511627776 from rfl] at h1; rw [if_neg (by omega), if_neg (by omega), if_neg (by omega), if_neg (by omega), if_neg (by omega)]
theorem nb_le (n : Nat) : nb n ≤ 6 := by unfold nb; repeat' split
                                         all_goals omega
theorem nb_pos (n : Nat) : 1 ≤ nb n := by unfold nb; repeat' split
                                          all_goals omega
/-- a number's bytes -/
def spl (n : Nat) : List Nat := bif decide (n < 240) then [n] else (240 + nb n) :: dg (nb n) n
theorem spl_lo (n : Nat) (h : n < 240) : spl n = [n] := by simp [spl, h]
theorem spl_hi (n : Nat) (h : 240 ≤ n) : spl n = (240 + nb n) :: dg (nb n) n := by
  have : ¬ n < 240 := by omega
  simp [spl, this]

theorem spl_len (n : Nat) : 1 ≤ (spl n).length ∧ (spl n).length ≤ 7 := by
  by_cases h : n < 240
  · rw [spl_lo n h]; exact ⟨Nat.le_refl _, by simp⟩
  · rw [spl_hi n (by omega), List.length_cons, dg_length]
    have := nb_le n
    omega

/-- seven bytes, L at their end -/
def rm (L : List Nat) : Array Value := (List.replicate (7 - L.length) (Value.int .u8 0) ++ L.map fun b : Nat => Value.int .u8 (b : Int)).toArray
theorem rm_size (L : List Nat) (h : L.length ≤ 7) : (rm L).size = 7 := by simp [rm]; omega
theorem rm_push (L : List Nat) (b : Nat) (h : L.length < 7) : (rm L).setIfInBounds (7 - L.length - 1) (.int .u8 (b : Int)) = rm (b :: L) := by
  apply Array.toList_inj.1
  have e : 7 - L.length = (7 - L.length - 1) + 1 := by omega
  generalize hq : 7 - L.length - 1 = q at e
  have e2 : 7 - (b :: L).length = q := by simp; omega
  simp only [rm, e, e2, Array.toList_setIfInBounds, List.replicate_succ']
  simp
theorem rm_at0 (L : List Nat) (q : Nat) (h : q < 7 - L.length) : (rm L)[q]? = some (.int .u8 0) := by
  simp [rm, List.getElem?_append, h]
theorem rm_one (L : List Nat) : (rm L).all (·.oneCell') = true := by
  simp only [rm, List.all_toArray, List.all_append, Bool.and_eq_true, List.all_eq_true]
  refine ⟨fun v hv => ?_, fun v hv => ?_⟩
  · rw [List.eq_of_mem_replicate hv]; rfl
  · obtain ⟨k, _, rfl⟩ := List.mem_map.1 hv; rfl
theorem rm_nil : (#[.int .u8 0, .int .u8 0, .int .u8 0, .int .u8 0, .int .u8 0, .int .u8 0, .int .u8 0] : Array Value) = rm [] := rfl

theorem size_room : (Try.prog.info? 134).map (·.size) = some 7 := by kernel_rfl
theorem loadVar_room {w : World} {b : Nat} {c : Array Value} {t : TypeId} (h : w.heap[b]? = some (.cells c t (0, 0))) (hc : c.size = 7) : (loadVar 134 ⟨b, 0, none⟩).run Try.prog w = .ok (.agg c) w :=
  run_loadVar_row w b t _ _ _ _ h Try.underlying134 rfl (by rw [size_room, hc])

/-- behind the last byte: the one ahead of them, if there are several, and the answer -/
theorem last (n j : Nat) (hj : j ≤ 5) (h1 : j = 0 ∨ 256 ^ j ≤ n) (h2 : n < 256 ^ (j + 1)) : (240 ≤ n → spl n = (240 + (j + 1)) :: dg (j + 1) n) ∧ (n < 240 → spl n = dg (j + 1) n) := by
  have e := nb_is n j hj h1 h2
  refine ⟨fun h => by rw [spl_hi n h, e], fun h => ?_⟩
  have j0 : j = 0 := by
    rcases h1 with h1 | h1
    · exact h1
    · by_cases q : j = 0
      · exact q
      · have : 256 ^ 1 ≤ 256 ^ j := Nat.pow_le_pow_right (by decide) (by omega)
        omega
  subst j0
  rw [spl_lo n h]
  simp [dg]
  omega

set_option maxRecDepth 100000 in
set_option maxHeartbeats 3200000 in
theorem spell_any (n : Nat) (h1 : n ≤ 1099511627776) (w : World) :
    Calls Try.prog 78 #[.int .i64 (n : Int)] w fun r w' => r = .returned (.tuple #[.agg (rm (spl n)), .int .i64 ((7 - (spl n).length : Nat) : Int)]) ∧ Below w.heap.size w w' := by
  go_enter Try.func78, Try.ntmps78
  go_wp2
  refine wp_scope_jumps 0 (fun a' w' => ∃ (j m q : Nat) (u5 u6 u7 u8 u9 u10 u11 u12 u13 u14 u15 u16 u17 u18 u19 u20 u21 u22 u23 u24 u25 u26 u27 u28 u29 : Value), a' = { tmps := #[.int .i64 (m : Int), undef, .pointer (some ⟨w.heap.size, 0, none⟩), .int .i64 ((q + 1 : Nat) : Int), .bool (decide (240 ≤ (n : Int))), u5, u6, u7, u8, u9, u10, u11, u12, u13, u14, u15, u16, u17, u18, u19, u20, u21, u22, u23, u24, u25, u26, u27, u28, u29], defers := [] } ∧ q + 1 + j = 7 ∧ m = n / 256 ^ j ∧ 1 ≤ m ∧ w'.heap[w.heap.size]? = some (.cells (rm (dg j n)) 134 (0, 0)) ∧ Below w.heap.size w w') (fun a' _ => (intOf (a'.tmps.getD 0 undef)).toNat) rfl ?_ ?_
  · have hb : Below w.heap.size w (w.alloc (.cells (rm []) 134)) := below_alloc _ _
    have hh := heap_new w (.cells (rm []) 134)
    rw [rm_nil]
    generalize w.alloc (.cells (rm []) 134) = w' at hb hh ⊢
    have c1 := (cell_of hh 6).trans (rm_at0 [] 6 (by decide))
    have f1 := frozen_of hh 6
    have HH := hide hh
    have HB := hide hb
    clear hh hb
    have hpush : ∀ v : Int, v = ((n % 256 : Nat) : Int) → (w'.setCell ⟨w.heap.size, 6, none⟩ (.int .u8 v)).heap[w.heap.size]? = some (.cells (rm (dg 1 n)) 134 (0, 0)) := by
      intro v hv
      have := rm_push [] (n % 256) (by decide)
      rw [Ba.heap_setCell_same HH.out, hv]
      simp at this
      simp [this, dg]
    have HP := hide hpush
    clear hpush
    by_cases hd : 1 ≤ n / 256
    · have hd' : decide (0 < (n : Int) / 256) = true := by simp; omega
      go_wp2
      go_step3
      go_wp2
      go_step3
      rw [show ((n : Int) / 256) = ((n / 256 : Nat) : Int) by omega]
      refine ⟨rfl, 1, n / 256, 5, _, _, _, _, _, _, _, _, _, _, _, _, _, _, _, _, _, _, _, _, _, _, _, _, _, rfl, by omega, by simp, hd, ?_, ?_⟩
      · exact HP.out _ (by omega)
      · exact HB.out.setCell (Nat.le_refl _) _
    · have hd' : decide (0 < (n : Int) / 256) = false := by simp; omega
      have hn256 : n < 256 := by omega
      have hW1 := HP.out (n : Int) (by omega)
      have LA := hide (last n 0 (by decide) (.inl rfl) (by simpa using hn256))
      by_cases h2 : 240 ≤ n
      · have h2' : decide (240 ≤ (n : Int)) = true := by simp; omega
        have es := LA.out.1 h2
        have c2 := (cell_of hW1 5).trans (rm_at0 (dg 1 n) 5 (by rw [dg_length]; omega))
        have f2 := frozen_of hW1 5
        have f3 := frozen_of HH.out 5
        have hW2 : ((w'.setCell ⟨w.heap.size, 6, none⟩ (.int .u8 (n : Int))).setCell ⟨w.heap.size, 5, none⟩ (.int .u8 241)).heap[w.heap.size]? = some (.cells (rm (spl n)) 134 (0, 0)) := by
          have := rm_push (dg 1 n) 241 (by rw [dg_length]; decide)
          rw [dg_length] at this
          rw [Ba.heap_setCell_same hW1, es]
          simp at this ⊢
          exact this
        have H2 := hide hW2
        have hsz : (rm (spl n)).size = 7 := rm_size _ (by rw [es, List.length_cons, dg_length]; omega)
        have SZ : Hid ((Try.prog.info? 134).map (·.size) = some (rm (spl n)).size) := by show _ = _; rw [size_room, hsz]
        have HS := hide hsz
        have E3 : Hid (((7 - (spl n).length : Nat) : Int) = 5) := by show _ = _; rw [es, List.length_cons, dg_length]; rfl
        clear hW1 hW2 es hsz
        go_wp2_with fail
        go_step3
        go_wp2_with (first | (refine wpList_load_row rfl 134 _ rfl _ rfl 134 _ (0, 0) _ H2.out Try.underlying134 rfl SZ.out ?_) | (refine wpList_store_row rfl 134 _ _ rfl _ _ rfl rfl 134 _ H2.out SZ.out rfl (rm_one _) ?_))
        simp only [Exit.jump]
        exact bodyPost_ret (results_row2 Try.results78 _ _ _ _ _ rfl rfl (loadVar_room (setRow_heap _ _ _ _ _ _ H2.out) HS.out)) rfl ⟨by rw [E3.out]; rfl, below_setRow ((HB.out.setCell (Nat.le_refl _) _).setCell (Nat.le_refl _) _) (Nat.le_refl _) _⟩
      · have h2' : decide (240 ≤ (n : Int)) = false := by simp; omega
        have es := LA.out.2 (by omega)
        rw [show dg 1 n = dg (0 + 1) n from rfl, ← es] at hW1
        have H2 := hide hW1
        have hsz : (rm (spl n)).size = 7 := rm_size _ (by rw [es, dg_length]; omega)
        have SZ : Hid ((Try.prog.info? 134).map (·.size) = some (rm (spl n)).size) := by show _ = _; rw [size_room, hsz]
        have HS := hide hsz
        have E3 : Hid (((7 - (spl n).length : Nat) : Int) = 6) := by show _ = _; rw [es, dg_length]; rfl
        clear hW1 es hsz
        go_wp2_with fail
        go_step3
        go_wp2_with (first | (refine wpList_load_row rfl 134 _ rfl _ rfl 134 _ (0, 0) _ H2.out Try.underlying134 rfl SZ.out ?_) | (refine wpList_store_row rfl 134 _ _ rfl _ _ rfl rfl 134 _ H2.out SZ.out rfl (rm_one _) ?_))
        simp only [Exit.jump]
        exact bodyPost_ret (results_row2 Try.results78 _ _ _ _ _ rfl rfl (loadVar_room (setRow_heap _ _ _ _ _ _ H2.out) HS.out)) rfl ⟨by rw [E3.out]; rfl, below_setRow (HB.out.setCell (Nat.le_refl _) _) (Nat.le_refl _) _⟩
  · rintro a' w' ⟨j, m, q, u5, u6, u7, u8, u9, u10, u11, u12, u13, u14, u15, u16, u17, u18, u19, u20, u21, u22, u23, u24, u25, u26, u27, u28, u29, rfl, hj, hm, hm1, hh, hb⟩
    have c1 := (cell_of hh q).trans (rm_at0 (dg j n) q (by rw [dg_length]; omega))
    have f1 := frozen_of hh q
    have HM := hide hm
    have HH := hide hh
    have HB := hide hb
    have hml : m ≤ 1099511627776 := by rw [hm]; exact Nat.le_trans (Nat.div_le_self _ _) h1
    clear hm hh hb
    have hpush : ∀ v : Int, v = ((n / 256 ^ j % 256 : Nat) : Int) → (w'.setCell ⟨w.heap.size, q, none⟩ (.int .u8 v)).heap[w.heap.size]? = some (.cells (rm (dg (j + 1) n)) 134 (0, 0)) := by
      intro v hv
      rw [Ba.heap_setCell_same HH.out, hv, show q = 7 - (dg j n).length - 1 by rw [dg_length]; omega, rm_push _ _ (by rw [dg_length]; omega)]
      rfl
    have HP := hide hpush
    clear hpush
    by_cases hd : 1 ≤ m / 256
    · have hd' : decide (0 < (m : Int) / 256) = true := by simp; omega
      have e4 : m / 256 = n / 256 ^ (j + 1) := by rw [HM.out, Nat.div_div_eq_div_mul, Nat.pow_succ]
      have hj5 : j + 1 ≤ 5 := by
        by_cases q5 : j + 1 ≤ 5
        · exact q5
        · exfalso
          have : 256 ^ 6 ≤ 256 ^ (j + 1) := Nat.pow_le_pow_right (by decide) (by omega)
          have h0 : n / 256 ^ (j + 1) = 0 := Nat.div_eq_of_lt (Nat.lt_of_lt_of_le (by rw [show 256 ^ 6 = 281474976710656 from rfl]; omega) this)
          omega
      have E4 := hide e4
      clear e4
      go_wp2
      go_step3
      rw [show ((m : Int) / 256) = ((m / 256 : Nat) : Int) by omega, show (q : Int) = ((q - 1 + 1 : Nat) : Int) by omega]
      refine ⟨rfl, ⟨j + 1, m / 256, q - 1, _, _, _, _, _, _, _, _, _, _, _, _, _, _, _, _, _, _, _, _, _, _, _, _, _, rfl, by omega, E4.out, hd, ?_, ?_⟩, ?_⟩
      · exact HP.out _ (by rw [← HM.out]; omega)
      · exact HB.out.setCell (Nat.le_refl _) _
      · simp [intOf]
        omega
    · have hd' : decide (0 < (m : Int) / 256) = false := by simp; omega
      have hm256 : m < 256 := by omega
      have hlt : n < 256 ^ (j + 1) := by
        have := (Nat.div_lt_iff_lt_mul (Nat.pow_pos (by decide : 0 < 256))).1 (HM.out ▸ hm256 : n / 256 ^ j < 256)
        rw [Nat.pow_succ]; omega
      have hge : 256 ^ j ≤ n := by
        have := (Nat.le_div_iff_mul_le (Nat.pow_pos (by decide : 0 < 256))).1 (HM.out ▸ hm1 : 1 ≤ n / 256 ^ j)
        omega
      have hj5 : j ≤ 5 := by
        by_cases q5 : j ≤ 5
        · exact q5
        · exfalso
          have : 256 ^ 6 ≤ 256 ^ j := Nat.pow_le_pow_right (by decide) (by omega)
          rw [show 256 ^ 6 = 281474976710656 from rfl] at this
          omega
      have hW1 := HP.out (m : Int) (by rw [← HM.out]; omega)
      have LA := hide (last n j hj5 (.inr hge) hlt)
      clear hlt hge
      by_cases h2 : 240 ≤ n
      · have h2' : decide (240 ≤ (n : Int)) = true := by simp; omega
        have es := LA.out.1 h2
        have c2 := (cell_of hW1 (q - 1)).trans (rm_at0 (dg (j + 1) n) (q - 1) (by rw [dg_length]; omega))
        have f2 := frozen_of hW1 (q - 1)
        have f3 := frozen_of HH.out (q - 1)
        have hW2 : ((w'.setCell ⟨w.heap.size, q, none⟩ (.int .u8 (m : Int))).setCell ⟨w.heap.size, q - 1, none⟩ (.int .u8 (240 + (7 - (q : Int))))).heap[w.heap.size]? = some (.cells (rm (spl n)) 134 (0, 0)) := by
          rw [Ba.heap_setCell_same hW1, show (240 + (7 - (q : Int))) = ((240 + (j + 1) : Nat) : Int) by omega, show q - 1 = 7 - (dg (j + 1) n).length - 1 by rw [dg_length]; omega, rm_push _ _ (by rw [dg_length]; omega), es]
        have H2 := hide hW2
        have hsz : (rm (spl n)).size = 7 := rm_size _ (by rw [es, List.length_cons, dg_length]; omega)
        have SZ : Hid ((Try.prog.info? 134).map (·.size) = some (rm (spl n)).size) := by show _ = _; rw [size_room, hsz]
        have HS := hide hsz
        have E3 : Hid (((7 - (spl n).length : Nat) : Int) = (q : Int) - 1) := by show _ = _; rw [es, List.length_cons, dg_length]; omega
        clear hW1 hW2 es hsz
        go_wp2_with (first | (refine wpList_load_row rfl 134 _ rfl _ rfl 134 _ (0, 0) _ H2.out Try.underlying134 rfl SZ.out ?_) | (refine wpList_store_row rfl 134 _ _ rfl _ _ rfl rfl 134 _ H2.out SZ.out rfl (rm_one _) ?_))
        simp only [Exit.jump]
        exact bodyPost_ret (results_row2 Try.results78 _ _ _ _ _ rfl rfl (loadVar_room (setRow_heap _ _ _ _ _ _ H2.out) HS.out)) rfl ⟨by rw [E3.out]; rfl, below_setRow ((HB.out.setCell (Nat.le_refl _) _).setCell (Nat.le_refl _) _) (Nat.le_refl _) _⟩
      · have h2' : decide (240 ≤ (n : Int)) = false := by simp; omega
        have es := LA.out.2 (by omega)
        rw [← es] at hW1
        have H2 := hide hW1
        have hsz : (rm (spl n)).size = 7 := rm_size _ (by rw [es, dg_length]; omega)
        have SZ : Hid ((Try.prog.info? 134).map (·.size) = some (rm (spl n)).size) := by show _ = _; rw [size_room, hsz]
        have HS := hide hsz
        have E3 : Hid (((7 - (spl n).length : Nat) : Int) = (q : Int)) := by show _ = _; rw [es, dg_length]; omega
        clear hW1 es hsz
        go_wp2_with (first | (refine wpList_load_row rfl 134 _ rfl _ rfl 134 _ (0, 0) _ H2.out Try.underlying134 rfl SZ.out ?_) | (refine wpList_store_row rfl 134 _ _ rfl _ _ rfl rfl 134 _ H2.out SZ.out rfl (rm_one _) ?_))
        simp only [Exit.jump]
        exact bodyPost_ret (results_row2 Try.results78 _ _ _ _ _ rfl rfl (loadVar_room (setRow_heap _ _ _ _ _ _ H2.out) HS.out)) rfl ⟨by rw [E3.out]; rfl, below_setRow (HB.out.setCell (Nat.le_refl _) _) (Nat.le_refl _) _⟩
end Re
end Go.Proofs.Ytocmdehpbipmlaa
/- Package reel: Put and Size, over this seat's program. -/
namespace Go.Proofs.Ytocmdehpbipmlaa
open Go.ChangeShapes Go.WideShapes Go.ChangeAt Go.RowKit
namespace Re
open Ba

/-- bytes as a string -/
def bs (L : List Nat) : ByteArray := ⟨(L.map fun b => UInt8.ofNat b).toArray⟩
def okR (n : Int) : Bool := decide (0 ≤ n) && decide (n ≤ 1099511627776)
theorem okR_iff (n : Int) : okR n = true ↔ 0 ≤ n ∧ n ≤ 1099511627776 := by simp [okR]

set_option maxRecDepth 100000 in
theorem isNumber_any (n : Int) (w : World) :
    Calls Try.prog 77 #[.int .i64 n] w fun r w' => r = .returned (.bool (decide (0 ≤ n) && decide (n ≤ 1099511627776))) ∧ w' = w := by
  by_cases h1 : 0 ≤ n
  · have e : (decide (0 ≤ n) && decide (n ≤ 1099511627776)) = decide (n ≤ 1099511627776) := by simp [h1]
    rw [e]
    clear e
    go_enter Try.func77, Try.ntmps77
    go_wp2
    go_ret
    exact ⟨rfl, rfl⟩
  · have e : (decide (0 ≤ n) && decide (n ≤ 1099511627776)) = false := by simp [h1]
    rw [e]
    clear e
    go_enter Try.func77, Try.ntmps77
    go_wp2
    go_ret
    exact ⟨rfl, rfl⟩
theorem isNumber_is (n : Int) (x : Bool) (h : okR n = x) (w : World) :
    Calls Try.prog 77 #[.int .i64 n] w fun r w' => r = .returned (.bool x) ∧ w' = w := by
  have := isNumber_any n w
  unfold okR at h
  rw [h] at this
  exact this

theorem put_no (n : Int) (h : okR n = false) (w : World) :
    Calls Try.prog 67 #[.int .i64 n] w fun r w' => r = .returned (.tuple #[.string (bs []), .int .i64 1]) ∧ w' = w := by
  have H := hide h
  clear h
  go_enter Try.func67, Try.ntmps67
  go_wp2_with (go_at_call 77; refine (isNumber_is _ false H.out _).mono ?_; rintro r w' ⟨rfl, rfl⟩)
  go_ret2
  exact ⟨rfl, rfl⟩
theorem okR_nat (n : Nat) (h : n ≤ 1099511627776) : okR (n : Int) = true := by rw [okR_iff]; omega

theorem spell_at (n : Nat) (h : n ≤ 1099511627776) (w : World) :
    Calls Try.prog 78 #[.int .i64 (n : Int)] w fun r w' => ∃ a : Nat, r = .returned (.tuple #[.agg (rm (spl n)), .int .i64 (a : Int)]) ∧ a + (spl n).length = 7 ∧ Below w.heap.size w w' := by
  refine (spell_any n h w).mono ?_
  rintro r w' ⟨rfl, hb⟩
  exact ⟨_, rfl, by have := spl_len n; omega, hb⟩
/-- the bytes that a room holds from a on -/
theorem rm_from (L : List Nat) (a k : Nat) (ha : a + L.length = 7) (hk : k < L.length) (hL : ∀ b ∈ L, b < 256) : (rm L)[a + k]? = some (.int .u8 ((UInt8.ofNat L[k]).toNat : Int)) := by
  have e : 7 - L.length = a := by omega
  have hb := hL L[k] (List.getElem_mem hk)
  have e2 : (UInt8.ofNat L[k]).toNat = L[k] := by simp; omega
  rw [e2]
  simp [rm, e, hk]
theorem dg_lt (k n : Nat) : ∀ b ∈ dg k n, b < 256 := by
  induction k with
  | zero => intro b hb; simp [dg] at hb
  | succ k ih =>
    intro b hb
    simp [dg] at hb
    rcases hb with rfl | hb
    · exact Nat.mod_lt _ (by decide)
    · exact ih b hb
theorem spl_lt (n : Nat) : ∀ b ∈ spl n, b < 256 := by
  intro b hb
  by_cases h : n < 240
  · rw [spl_lo n h] at hb; simp at hb; omega
  · rw [spl_hi n (by omega)] at hb
    simp at hb
    have := nb_le n
    rcases hb with rfl | hb
    · omega
    · exact dg_lt _ _ b hb
theorem len_room : Try.prog.arrayLen 134 = 7 := by kernel_rfl
theorem elem_room : Try.prog.elem 134 = 5 := by kernel_rfl
theorem size_byte : (Try.prog.info? 5).map (·.size) = some 1 := by kernel_rfl
theorem sz_byte (w : World) : (sizeOf 5).run Try.prog w = .ok 1 w := by
  have := size_byte
  cases hq : Try.prog.info? 5 with
  | none => rw [hq] at this; simp at this
  | some i =>
    rw [hq] at this
    simp at this
    simp [sizeOf, typeInfo, hq, this]
theorem slice_room (b a : Nat) (ha : a < 7) (w : World) : (Instr.sliceAt 134 (.pointer (some ⟨b, 0, none⟩)) (some (.int .i64 (a : Int))) none none).run Try.prog w = .ok (.slice (some ⟨b, a, none⟩) (7 - a) (7 - a)) w := by
  have ht : Try.prog.underlying 134 = some (.array (Try.prog.arrayLen 134) (Try.prog.elem 134)) := by rw [len_room, elem_room]; exact Try.underlying134
  have := run_sliceAt_array_l (P := Try.prog) w 134 ⟨b, 0, none⟩ ht .i64 (a : Int) (by omega) (by rw [len_room]; omega)
  rw [this, elem_room, sz_byte, len_room]
  have hne : ¬ (7 = a) := by omega
  simp [slicedAt, hne, Addr.add]
  exact fun h => h.symm
theorem conv_room (w : World) (b a : Nat) (L : List Nat) (t : TypeId) (h : w.heap[b]? = some (.cells (rm L) t (0, 0))) (ha : a + L.length = 7) (hL : ∀ b ∈ L, b < 256) :
    (convert 71 9 (.slice (some ⟨b, a, none⟩) (7 - a) (7 - a))).run Try.prog w = .ok (.string (bs L)) w := by
  have := run_convert_bytes_back (P := Try.prog) w 71 9 5 ⟨b, a, none⟩ (7 - a) (L.map fun b => UInt8.ofNat b) Try.underlying71 Try.underlying5 Try.underlying9 (fun j hj => by
    simp at hj
    rw [Addr.add_lit, cell_of h, rm_from L a j ha hj hL]
    simp)
  rw [List.length_map, show L.length = 7 - a by omega] at this
  exact this

set_option maxHeartbeats 800000 in
theorem put_ok (n : Nat) (h : n ≤ 1099511627776) (w : World) :
    Calls Try.prog 67 #[.int .i64 (n : Int)] w fun r w' => r = .returned (.tuple #[.string (bs (spl n)), .int .i64 0]) ∧ Below w.heap.size w w' := by
  have H := hide (okR_nat n h)
  have H1 := hide h
  clear h
  go_enter Try.func67, Try.ntmps67
  go_wp2_with (go_at_call 77; refine (isNumber_is _ true H.out _).mono ?_; rintro r w' ⟨rfl, rfl⟩)
  refine (spell_at n H1.out _).mono ?_
  rintro r w1 ⟨a, rfl, ha, b1⟩
  have H2 := hide (heap_new w1 (.cells (rm []) 134))
  have hsz : (rm (spl n)).size = 7 := rm_size _ (by have := spl_len n; omega)
  have SZ : Hid ((Try.prog.info? 134).map (·.size) = some (rm (spl n)).size) := by show _ = _; rw [size_room, hsz]
  have SE : Hid ((rm []).size = (rm (spl n)).size) := hsz.symm
  have CV : Hid (∀ w, w.heap[w1.heap.size]? = some (.cells (rm (spl n)) 134 (0, 0)) → (convert 71 9 (.slice (some ⟨w1.heap.size, a, none⟩) (7 - a) (7 - a))).run Try.prog w = .ok (.string (bs (spl n))) w) := fun w hw => conv_room w _ a _ _ hw ha (spl_lt n)
  have h6 : a < 7 := by have := spl_len n; omega
  have HB := hide b1
  clear hsz ha b1
  have RN := hide (setRow_new w1 (rm []) (rm (spl n)) 134)
  have sr := slice_room w1.heap.size a h6
  have cv := CV.out _ (setRow_heap _ _ _ (rm (spl n)) _ _ H2.out)
  rw [← rm_nil] at cv
  go_wp2_with (refine wpList_store_row rfl 134 _ _ rfl _ _ rfl rfl 134 _ H2.out SZ.out SE.out (rm_one _) ?_)
  go_ret2
  exact ⟨rfl, btr HB.out (by rw [setRow_new]; exact below_alloc _ _)⟩

theorem size_no (n : Int) (h : okR n = false) (w : World) :
    Calls Try.prog 81 #[.int .i64 n] w fun r w' => r = .returned (.int .i64 0) ∧ w' = w := by
  have H := hide h
  clear h
  go_enter Try.func81, Try.ntmps81
  go_wp2_with (go_at_call 77; refine (isNumber_is _ false H.out _).mono ?_; rintro r w' ⟨rfl, rfl⟩)
  go_ret
  exact ⟨rfl, rfl⟩

set_option maxHeartbeats 800000 in
theorem size_ok (n : Nat) (h : n ≤ 1099511627776) (w : World) :
    Calls Try.prog 81 #[.int .i64 (n : Int)] w fun r w' => r = .returned (.int .i64 ((spl n).length : Int)) ∧ Below w.heap.size w w' := by
  have H := hide (okR_nat n h)
  have H1 := hide h
  clear h
  go_enter Try.func81, Try.ntmps81
  go_wp2_with (go_at_call 77; refine (isNumber_is _ true H.out _).mono ?_; rintro r w' ⟨rfl, rfl⟩)
  refine (spell_at n H1.out _).mono ?_
  rintro r w1 ⟨a, rfl, ha, b1⟩
  have H2 := hide (heap_new w1 (.cells (rm []) 134))
  have hsz : (rm (spl n)).size = 7 := rm_size _ (by have := spl_len n; omega)
  have SZ : Hid ((Try.prog.info? 134).map (·.size) = some (rm (spl n)).size) := by show _ = _; rw [size_room, hsz]
  have SE : Hid ((rm []).size = (rm (spl n)).size) := hsz.symm
  have HA := hide ha
  have h6 : a < 7 := by have := spl_len n; omega
  have HB := hide b1
  clear hsz ha b1
  go_wp2_with (refine wpList_store_row rfl 134 _ _ rfl _ _ rfl rfl 134 _ H2.out SZ.out SE.out (rm_one _) ?_)
  go_ret
  exact ⟨ret_int (by have := HA.out; omega), btr HB.out (by rw [setRow_new]; exact below_alloc _ _)⟩
end Re
end Go.Proofs.Ytocmdehpbipmlaa
/- The reference's Put, over this seat's program. -/
namespace Go.Proofs.Ytocmdehpbipmlaa
open Go.ChangeShapes Go.WideShapes Go.ChangeAt Go.RowKit
namespace Re
open Ba

set_option maxRecDepth 100000 in
set_option maxHeartbeats 800000 in
theorem rput_no (n : Int) (h : okR n = false) (w : World) :
    Calls Try.prog 70 #[.int .i64 n] w fun r w' => r = .returned (.tuple #[.string (bs []), .int .i64 1]) ∧ w' = w := by
  have h' : n < 0 ∨ 1099511627776 < n := by
    have : ¬ (okR n = true) := by rw [h]; simp
    rw [okR_iff] at this; omega
  clear h
  by_cases h0 : n < 0
  · clear h'
    go_enter Try.func70, Try.ntmps70
    go_wp2
    go_ret2
    exact ⟨rfl, rfl⟩
  · have h3 : 1099511627776 < n := by omega
    clear h'
    go_enter Try.func70, Try.ntmps70
    go_wp2
    go_ret2
    exact ⟨rfl, rfl⟩

theorem bs_cons (x : Nat) (L : List Nat) : bs [x] ++ bs L = bs (x :: L) := by
  unfold bs
  rw [ByteArray.mk_append_mk]
  simp
theorem bs_append (K L : List Nat) : bs K ++ bs L = bs (K ++ L) := by
  unfold bs
  rw [ByteArray.mk_append_mk]
  simp
theorem bs_size (L : List Nat) : (bs L).size = L.length := by
  show (List.toArray _).size = _
  simp
theorem conv_one (w : World) (x : Nat) (hx : x < 256) (v : Int) (hv : v = (x : Int)) :
    (convert 71 9 (.slice (some ⟨w.heap.size, 0, none⟩) 1 1)).run Try.prog (w.alloc (.cells #[.int .u8 v] 5)) = .ok (.string (bs [x])) (w.alloc (.cells #[.int .u8 v] 5)) := by
  subst hv
  have := run_convert_bytes_back (P := Try.prog) (w.alloc (.cells #[.int .u8 (x : Int)] 5)) 71 9 5 ⟨w.heap.size, 0, none⟩ 1 [UInt8.ofNat x] Try.underlying71 Try.underlying5 Try.underlying9 (fun j hj => by
    have e : j = 0 := by simp at hj; omega
    subst e
    have e2 : (UInt8.ofNat x).toNat = x := by simp; omega
    rw [Addr.add_lit, cell_of (heap_new _ _)]
    simp [e2])
  simpa [bs] using this
theorem add_str (a b : ByteArray) (w : World) (h : a.size + b.size ≤ 9223372036854775807) : (Op.stringOp .add a b).run Try.prog w = .ok (.string (a ++ b)) w := by
  exact run_string_add_sum w a b h

set_option maxRecDepth 100000 in
set_option maxHeartbeats 1600000 in
theorem rput_lo (n : Nat) (h2 : n < 240) (w : World) :
    Calls Try.prog 70 #[.int .i64 (n : Int)] w fun r w' => r = .returned (.tuple #[.string (bs [n]), .int .i64 0]) ∧ Below w.heap.size w w' := by
  have d1 : decide ((n : Int) < 0) = false := by simp
  have d2 : decide ((1099511627776 : Int) < (n : Int)) = false := by simp; omega
  have d3 : decide ((n : Int) < 240) = true := by simp; omega
  have cv := conv_one w n (by omega) (n : Int) rfl
  go_enter Try.func70, Try.ntmps70
  go_wp2_with fail
  go_ret2
  exact ⟨rfl, below_alloc _ _⟩

set_option maxRecDepth 100000 in
set_option maxHeartbeats 1600000 in
theorem rput_hi (n : Nat) (h : n ≤ 1099511627776) (h2 : 240 ≤ n) (w : World) :
    Calls Try.prog 70 #[.int .i64 (n : Int)] w fun r w' => r = .returned (.tuple #[.string (bs (spl n)), .int .i64 0]) ∧ Below w.heap.size w w' := by
  have d1 : decide ((n : Int) < 0) = false := by simp
  have d2 : decide ((1099511627776 : Int) < (n : Int)) = false := by simp; omega
  have d3 : decide ((n : Int) < 240) = false := by simp; omega
  go_enter Try.func70, Try.ntmps70
  go_wp2_with fail
  go_loopw [4, 5, 6] (fun s k m wr => ∃ j q : Nat, s = .string (bs (dg j n)) ∧ k = .int .i64 (j : Int) ∧ m = .int .i64 (q : Int) ∧ q = n / 256 ^ j ∧ j ≤ 6 ∧ (j = 0 ∨ 256 ^ (j - 1) ≤ n) ∧ Below w.heap.size w wr) (fun _ _ m _ => (intOf m).toNat)
  case atStart => exact ⟨0, n, rfl, rfl, rfl, by simp, by decide, .inl rfl, Below.refl _ _⟩
  case round =>
    obtain ⟨j, q, rfl, rfl, rfl, hq, hj, hge, hb⟩ := hrel
    have HQ := hide hq
    have HG := hide hge
    have HB := hide hb
    clear hq hge hb
    by_cases hz : 0 < q
    · have hz' : decide (0 < (q : Int)) = true := by simp; omega
      have hql : q ≤ 1099511627776 := by rw [HQ.out]; exact Nat.le_trans (Nat.div_le_self _ _) h
      have hge2 : 256 ^ j ≤ n := by
        have := (Nat.le_div_iff_mul_le (Nat.pow_pos (by decide : 0 < 256))).1 (HQ.out ▸ hz : 1 ≤ n / 256 ^ j)
        omega
      have hj5 : j ≤ 5 := by
        by_cases q5 : j ≤ 5
        · exact q5
        · exfalso
          have : 256 ^ 6 ≤ 256 ^ j := Nat.pow_le_pow_right (by decide) (by omega)
          rw [show 256 ^ 6 = 281474976710656 from rfl] at this
          omega
      have HG2 := hide hge2
      have cv := conv_one wr (q % 256) (Nat.mod_lt _ (by decide)) ((q : Int) % 256) (by omega)
      have ad : ∀ w, (Op.stringOp .add (bs [q % 256]) (bs (dg j n))).run Try.prog w = .ok (.string (bs (dg (j + 1) n))) w := fun w => by
        rw [add_str _ _ w (by rw [bs_size, bs_size, dg_length]; simp; omega), bs_cons, HQ.out]
        rfl
      clear hge2
      go_wp2_with fail
      go_roundw
      case rel => exact ⟨j + 1, q / 256, rfl, by go_num, by go_num, by rw [HQ.out, Nat.div_div_eq_div_mul, Nat.pow_succ], by omega, .inr HG2.out, btr HB.out (below_alloc _ _)⟩
      case measure => simp [intOf]; omega
    · have hz' : decide (0 < (q : Int)) = false := by simp; omega
      have hlt : n < 256 ^ j := by
        have q0 : n / 256 ^ j = 0 := by rw [← HQ.out]; omega
        rcases Nat.lt_or_ge n (256 ^ j) with r | r
        · exact r
        · have := Nat.div_pos r (Nat.pow_pos (by decide : 0 < 256)); omega
      have j1 : 1 ≤ j := by
        by_cases e : j = 0
        · subst e; simp at hlt; omega
        · omega
      have en : nb n = j := by
        have := nb_is n (j - 1) (by omega) (by
          rcases HG.out with e | e
          · omega
          · exact .inr e) (by rw [show j - 1 + 1 = j by omega]; exact hlt)
        omega
      have EN := hide en
      have cv := conv_one wr (240 + j) (by omega) (240 + (j : Int)) (by omega)
      have ad : ∀ w, (Op.stringOp .add (bs [240 + j]) (bs (dg j n))).run Try.prog w = .ok (.string (bs (spl n))) w := fun w => by
        rw [add_str _ _ w (by rw [bs_size, bs_size, dg_length]; simp; omega), bs_cons, spl_hi n h2, en]
      clear hlt en
      go_wp2_with fail
      go_ret2
      exact ⟨rfl, btr HB.out (below_alloc _ _)⟩

theorem rput_ok (n : Nat) (h : n ≤ 1099511627776) (w : World) :
    Calls Try.prog 70 #[.int .i64 (n : Int)] w fun r w' => r = .returned (.tuple #[.string (bs (spl n)), .int .i64 0]) ∧ Below w.heap.size w w' := by
  by_cases h2 : n < 240
  · rw [spl_lo n h2]
    exact rput_lo n h2 w
  · exact rput_hi n h (by omega) w
end Re
end Go.Proofs.Ytocmdehpbipmlaa
/- Package reel: Take, over this seat's program. -/
namespace Go.Proofs.Ytocmdehpbipmlaa
open Go.ChangeShapes Go.WideShapes Go.ChangeAt Go.RowKit
namespace Re
open Ba

/-- bytes as numbers -/
def nbs (s : ByteArray) : List Nat := s.data.toList.map UInt8.toNat
/-- the number of bytes, the highest first -/
def vl (L : List Nat) : Nat := L.foldl (fun a b => 256 * a + b) 0
def szn (n : Nat) : Nat := if n ≤ 1099511627776 then (spl n).length else 0
/-- the number with which bytes begin, and how many are its own -/
def tk : List Nat → Option (Nat × Nat)
  | [] => none
  | b :: t => if b < 240 then some (b, 1) else
      if 1 ≤ b - 240 ∧ b - 240 ≤ 6 ∧ b - 240 ≤ t.length ∧ szn (vl (t.take (b - 240))) = 1 + (b - 240) then some (vl (t.take (b - 240)), 1 + (b - 240)) else none

set_option maxHeartbeats 800000 in
theorem take_empty (w : World) :
    Calls Try.prog 72 #[.string (bs [])] w fun r w' => r = .returned (.tuple #[.int .i64 0, .string (bs []), .int .i64 4]) ∧ w' = w := by
  show Calls Try.prog 72 #[.string ⟨#[]⟩] w _
  go_enter Try.func72, Try.ntmps72
  go_wp2_with fail
  go_ret3
  exact ⟨rfl, rfl⟩

theorem toList_is (s : ByteArray) : s.toList = s.data.toList := ByteArray.toList_eq s
theorem ne_empty (s : ByteArray) (h : 0 < s.size) : s.toList.isEmpty = false := by
  rw [toList_is]
  have : 0 < s.data.toList.length := h
  cases hs : s.data.toList with
  | nil => rw [hs] at this; simp at this
  | cons a t => rfl
/-- the k'th byte of a string -/
theorem ix_str (s : ByteArray) (k b : Nat) (hk : (nbs s)[k]? = some b) (w : World) : (Instr.index 9 (.string s) (.int .i64 (k : Int))).run Try.prog w = .ok (.int .u8 (b : Int)) w := by
  have hl : k < s.size := by
    have := (List.getElem?_eq_some_iff.1 hk).1
    simpa [nbs] using this
  rw [run_index_string (P := Try.prog) w 9 s .i64 (k : Int) Try.underlying9, dif_pos ⟨by omega, by omega⟩]
  have e : s[k].toNat = b := by
    have := (List.getElem?_eq_some_iff.1 hk).2
    simp [nbs] at this
    exact this
  rw [← e]
  rfl
set_option maxRecDepth 100000 in
set_option maxHeartbeats 800000 in
theorem take_lo (s : ByteArray) (b : Nat) (h0 : 0 < s.size) (hb : b < 240) (hs : (nbs s)[0]? = some b) (w : World) :
    Calls Try.prog 72 #[.string s] w fun r w' => r = .returned (.tuple #[.int .i64 (b : Int), .string (s.extract 1 s.size), .int .i64 0]) ∧ Below w.heap.size w w' := by
  have ix := ix_str s 0 b hs
  have hne := ne_empty s h0
  simp at ix
  clear hs
  go_enter Try.func72, Try.ntmps72
  go_wp2_with fail
  go_region
  all_goals
    go_wp2
    go_ret3
    exact ⟨rfl, bdrew1 _⟩
end Re
end Go.Proofs.Ytocmdehpbipmlaa
/- Package reel: Take of more bytes, over this seat's program. -/
namespace Go.Proofs.Ytocmdehpbipmlaa
open Go.ChangeShapes Go.WideShapes Go.ChangeAt Go.RowKit
namespace Re
open Ba

set_option maxRecDepth 100000 in
set_option maxHeartbeats 800000 in
theorem take_bad (s : ByteArray) (b : Nat) (h0 : 0 < s.size) (hb : 240 ≤ b) (hb2 : b < 256) (hs : (nbs s)[0]? = some b) (h : b = 240 ∨ 246 < b ∨ (s.size : Int) ≤ (b : Int) - 240) (w : World) :
    Calls Try.prog 72 #[.string s] w fun r w' => r = .returned (.tuple #[.int .i64 0, .string (bs []), .int .i64 4]) ∧ w' = w := by
  have ix := ix_str s 0 b hs
  have hne := ne_empty s h0
  simp at ix
  have d0 : decide ((b : Int) < 240) = false := by simp; omega
  by_cases h1 : b = 240
  · have d1 : decide ((b : Int) - 240 < 1) = true := by simp; omega
    clear hs h
    go_enter Try.func72, Try.ntmps72
    go_wp2_with fail
    go_ret3
    exact ⟨rfl, rfl⟩
  have d1 : decide ((b : Int) - 240 < 1) = false := by simp; omega
  by_cases h2 : 246 < b
  · have d2 : decide (6 < (b : Int) - 240) = true := by simp; omega
    clear hs h
    go_enter Try.func72, Try.ntmps72
    go_wp2_with fail
    go_ret3
    exact ⟨rfl, rfl⟩
  have d2 : decide (6 < (b : Int) - 240) = false := by simp; omega
  have d3 : decide ((s.size : Int) ≤ (b : Int) - 240) = true := by simp; omega
  clear hs h
  go_enter Try.func72, Try.ntmps72
  go_wp2_with fail
  go_ret3
  exact ⟨rfl, rfl⟩

theorem nbs_length (s : ByteArray) : (nbs s).length = s.size := by
  show (s.data.toList.map _).length = s.data.size
  simp
theorem nbs_extract (s : ByteArray) (a b : Nat) : nbs (s.extract a b) = ((nbs s).take b).drop a := by
  simp [nbs, ByteArray.data_extract, Array.toList_extract, List.map_take, List.map_drop, List.drop_take]
theorem nbs_bs (L : List Nat) (h : ∀ b ∈ L, b < 256) : nbs (bs L) = L := by
  have e : L.map (UInt8.toNat ∘ fun b => UInt8.ofNat b) = L.map id := List.map_congr_left fun b hb => by
    have := h b hb
    simp
    omega
  simpa [nbs, bs] using e
theorem nbs_lt (s : ByteArray) : ∀ b ∈ nbs s, b < 256 := by
  intro b hb
  simp [nbs] at hb
  obtain ⟨x, _, rfl⟩ := hb
  exact x.toNat_lt
theorem nbs_inj {s t : ByteArray} (h : nbs s = nbs t) : s = t := by
  have : s.data.toList = t.data.toList := (List.map_inj_right (fun a b e => UInt8.toNat_inj.1 e)).1 h
  have : s.data = t.data := Array.toList_inj.1 this
  cases s; cases t; simp_all
theorem conv_bytes (t : ByteArray) (w : World) : ∃ C W, (convert 9 71 (.string t)).run Try.prog w = .ok (.slice (some ⟨w.heap.size, 0, none⟩) t.size C) W ∧ Below w.heap.size w W ∧ ∀ j b : Nat, (nbs t)[j]? = some b → W.cell? ⟨w.heap.size, j, none⟩ = some (.int .u8 (b : Int)) := by
  refine ⟨_, _, run_bytes_of_string (P := Try.prog) w 9 71 5 t Try.underlying9 Try.underlying71 Try.underlying5, btr (bdrew1 w) (below_alloc w.drew _), fun j b hj => ?_⟩
  have hl : j < t.data.size := by
    have := (List.getElem?_eq_some_iff.1 hj).1
    simpa [nbs] using this
  have := World.cell?_alloc_mark w.drew (bytesRow t (grownCap w t.size 0 5)) 5 ((bytesRow t (grownCap w t.size 0 5)).size, (bytesRow t (grownCap w t.size 0 5)).size + 1) j
  rw [bytesRow_at _ _ _ hl] at this
  refine this.trans ?_
  have e := (List.getElem?_eq_some_iff.1 hj).2
  simp [nbs] at e
  rw [e]

theorem or_byte (n b : Nat) (hn : n < 1099511627776) (hb : b < 256) : bits .or .i64 ((n : Int) * 256) (b : Int) = ((256 * n + b : Nat) : Int) := by
  have h1 : (BitVec.ofInt 64 ((n * 256 : Nat) : Int)).toNat = n * 256 := ofInt_u64 _ (by omega)
  have h2 : (BitVec.ofInt 64 (b : Int)).toNat = b := ofInt_u64 _ (by omega)
  have e : ((n : Int) * 256) = ((n * 256 : Nat) : Int) := by omega
  rw [e]
  have hj : n * 256 ||| b = n * 256 + b := nat_join 8 _ _ (by omega) hb
  show IntKind.i64.wrap ((BitVec.ofInt 64 ((n * 256 : Nat) : Int) ||| BitVec.ofInt 64 (b : Int)).toNat : Int) = _
  rw [BitVec.toNat_or, h1, h2, hj]
  rw [IntKind.wrap_i64]
  omega

theorem vl_snoc (L : List Nat) (b : Nat) : vl (L ++ [b]) = 256 * vl L + b := by simp [vl]
theorem vl_take (L : List Nat) (j b : Nat) (h : L[j]? = some b) : vl (L.take (j + 1)) = 256 * vl (L.take j) + b := by
  rw [List.take_add_one, h]
  exact vl_snoc _ _
theorem vl_lt (L : List Nat) (h : ∀ b ∈ L, b < 256) (j : Nat) : vl (L.take j) < 256 ^ j := by
  induction j with
  | zero => simp [vl]
  | succ j ih =>
    by_cases hj : j < L.length
    · rw [vl_take L j L[j] (by simp [hj]), Nat.pow_succ]
      have := h L[j] (List.getElem_mem hj)
      omega
    · rw [List.take_of_length_le (by omega)]
      rw [List.take_of_length_le (by omega)] at ih
      rw [Nat.pow_succ]
      omega

theorem szn_lo (n : Nat) (h : n ≤ 1099511627776) : szn n = (spl n).length := by simp [szn, h]
theorem szn_hi (n : Nat) (h : ¬ n ≤ 1099511627776) : szn n = 0 := by simp [szn, h]
theorem szn_le (n : Nat) : szn n ≤ 7 := by
  by_cases h : n ≤ 1099511627776
  · rw [szn_lo n h]; exact (spl_len n).2
  · rw [szn_hi n h]; omega
theorem size_any (n : Nat) (w : World) :
    Calls Try.prog 81 #[.int .i64 (n : Int)] w fun r w' => r = .returned (.int .i64 (szn n : Int)) ∧ Below w.heap.size w w' := by
  by_cases h : n ≤ 1099511627776
  · rw [szn_lo n h]
    exact size_ok n h w
  · rw [szn_hi n h]
    refine (size_no (n : Int) (by
      have : ¬ (okR (n : Int) = true) := by rw [okR_iff]; omega
      simpa using this) w).mono ?_
    rintro r w' ⟨rfl, rfl⟩
    exact ⟨rfl, Below.refl _ _⟩

set_option maxRecDepth 100000 in
set_option maxHeartbeats 1600000 in
theorem take_loop (s : ByteArray) (b k : Nat) (h1 : 1 ≤ k) (h6 : k ≤ 6) (hk : k < s.size) (hbk : b = 240 + k) (hs : (nbs s)[0]? = some b) (w : World) :
    Calls Try.prog 72 #[.string s] w fun r w' => r = .returned (bif szn (vl (nbs (s.extract 1 (1 + k)))) == 1 + k then .tuple #[.int .i64 (vl (nbs (s.extract 1 (1 + k))) : Int), .string (s.extract (1 + k) s.size), .int .i64 0] else .tuple #[.int .i64 0, .string (bs []), .int .i64 4]) ∧ Below w.heap.size w w' := by
  have ix := ix_str s 0 b hs
  have hne := ne_empty s (by omega)
  simp at ix
  have h1' : (1 : Int) ≤ (k : Int) := by omega
  have h6' : (k : Int) ≤ 6 := by omega
  have hk' : (k : Int) < (s.size : Int) := by omega
  have hb' : (b : Int) - 240 = (k : Int) := by omega
  have d0 : decide ((b : Int) < 240) = false := by simp; omega
  have d1 : decide ((k : Int) < 1) = false := by simp; omega
  have d2 : decide (6 < (k : Int)) = false := by simp; omega
  have d3 : decide ((s.size : Int) ≤ (k : Int)) = false := by simp; omega
  obtain ⟨C, W, cv, hW, hcell⟩ := conv_bytes (s.extract 1 (1 + k)) w
  have esz : (s.extract 1 (1 + k)).size = k := by rw [← nbs_length, nbs_extract, List.length_drop, List.length_take, nbs_length]; omega
  rw [esz] at cv
  have ES := hide esz
  have HW := hide hW
  have HC := hide hcell
  have HL := hide (nbs_lt (s.extract 1 (1 + k)))
  have HN := hide ((nbs_length (s.extract 1 (1 + k))).trans esz)
  generalize hD : nbs (s.extract 1 (1 + k)) = D at HC HL HN ⊢
  clear hs hbk hW hcell esz hD
  go_enter Try.func72, Try.ntmps72
  go_wp2_with fail
  go_loop [6, 41] (fun n i => ∃ j : Nat, j ≤ k ∧ i = .int .i64 (j : Int) ∧ n = .int .i64 ((vl (D.take j) : Nat) : Int)) (fun _ i => k - (intOf i).toNat)
  case atStart => exact ⟨0, Nat.zero_le _, rfl, rfl⟩
  case round =>
    obtain ⟨j, hj, rfl, rfl⟩ := hrel
    by_cases hjk : j < k
    · have hjk' : decide ((j : Int) < (k : Int)) = true := by simp; omega
      obtain ⟨x, hx⟩ : ∃ x, D[j]? = some x := ⟨D[j]'(by rw [HN.out]; exact hjk), by simp [HN.out, hjk]⟩
      have hx256 : x < 256 := HL.out x (List.mem_of_getElem? hx)
      have hcl := HC.out j x hx
      have hvl : vl (D.take j) < 1099511627776 := Nat.lt_of_lt_of_le (vl_lt D HL.out j) (by
        have : 256 ^ j ≤ 256 ^ 5 := Nat.pow_le_pow_right (by decide) (by omega)
        exact this)
      have hor := or_byte (vl (D.take j)) x hvl hx256
      have VT := hide (vl_take D j x hx)
      clear hx
      generalize vl (D.take j) = V at hvl hor VT ⊢
      go_wp2_with fail
      go_round
      case rel => exact ⟨j + 1, by omega, by go_num, by rw [VT.out]; simp⟩
      case measure => simp [intOf]; omega
    · have hjk' : decide ((j : Int) < (k : Int)) = false := by simp; omega
      have e : j = k := by omega
      subst e
      rw [List.take_of_length_le (by rw [HN.out]; exact Nat.le_refl _)]
      generalize hV : vl D = V
      have HV := hide hV
      clear hV
      have hz := szn_le V
      generalize hS : szn V = Z at hz ⊢
      have HS := hide hS
      clear hS
      go_wp2_with fail
      refine (size_any V _).mono ?_
      rw [HS.out]
      rintro r w1 ⟨rfl, hb1⟩
      have B1 := hide (btr HW.out hb1)
      clear hb1
      by_cases hZ : Z = 1 + j
      · have hz' : ((Z : Int) != 1 + (j : Int)) = false := by simp; omega
        have HZ : Hid ((Z == 1 + j) = true) := by show _ = _; simpa using hZ
        clear hZ
        go_wp2_with fail
        go_region
        all_goals
          go_wp2
          go_ret3
          exact ⟨by rw [HV.out, HS.out, HZ.out]; rfl, btr B1.out (bdrew1 _)⟩
      · have hz' : ((Z : Int) != 1 + (j : Int)) = true := by simp; omega
        have HZ : Hid ((Z == 1 + j) = false) := by show _ = _; simpa using hZ
        clear hZ
        go_wp2_with fail
        go_ret3
        exact ⟨by rw [HV.out, HS.out, HZ.out]; rfl, B1.out⟩

set_option maxRecDepth 100000 in
theorem take_any (s : ByteArray) (w : World) :
    Calls Try.prog 72 #[.string s] w fun r w' => r = .returned (match tk (nbs s) with | some (n, k) => .tuple #[.int .i64 (n : Int), .string (s.extract k s.size), .int .i64 0] | none => .tuple #[.int .i64 0, .string (bs []), .int .i64 4]) ∧ Below w.heap.size w w' := by
  cases hn : nbs s with
  | nil =>
    have e : s = bs [] := nbs_inj (by rw [hn, nbs_bs _ (by simp)])
    subst e
    refine (take_empty w).mono ?_
    rintro r w' ⟨rfl, rfl⟩
    exact ⟨rfl, Below.refl _ _⟩
  | cons b t =>
    have hb : (nbs s)[0]? = some b := by rw [hn]; rfl
    have hl : s.size = t.length + 1 := by rw [← nbs_length, hn]; rfl
    have hb2 : b < 256 := nbs_lt s b (by rw [hn]; simp)
    by_cases h : b < 240
    · refine (take_lo s b (by omega) h hb w).mono ?_
      rintro r w' ⟨rfl, h2⟩
      exact ⟨by simp [tk, h], h2⟩
    · by_cases h2 : 1 ≤ b - 240 ∧ b - 240 ≤ 6 ∧ b - 240 ≤ t.length
      · refine (take_loop s b (b - 240) h2.1 h2.2.1 (by omega) (by omega) hb w).mono ?_
        have e : nbs (s.extract 1 (1 + (b - 240))) = t.take (b - 240) := by
          rw [nbs_extract, hn, Nat.add_comm 1]
          rfl
        rw [e]
        rintro r w' ⟨rfl, h3⟩
        refine ⟨?_, h3⟩
        cases hz : szn (vl (t.take (b - 240))) == 1 + (b - 240)
        · have : ¬ (szn (vl (t.take (b - 240))) = 1 + (b - 240)) := by simpa using hz
          simp [tk, h, this]
        · have : szn (vl (t.take (b - 240))) = 1 + (b - 240) := by simpa using hz
          simp only [tk, if_neg h, h2.1, h2.2.1, h2.2.2, this, and_self, if_true, cond_true]
      · refine (take_bad s b (by omega) (by omega) hb2 hb (by omega) w).mono ?_
        rintro r w' ⟨rfl, rfl⟩
        refine ⟨?_, Below.refl _ _⟩
        have : ¬ (1 ≤ b - 240 ∧ b - 240 ≤ 6 ∧ b - 240 ≤ t.length ∧ szn (vl (t.take (b - 240))) = 1 + (b - 240)) := fun q => h2 ⟨q.1, q.2.1, q.2.2.1⟩
        simp only [tk, if_neg h, if_neg this]
theorem take_none (s : ByteArray) (h : tk (nbs s) = none) (w : World) :
    Calls Try.prog 72 #[.string s] w fun r w' => r = .returned (.tuple #[.int .i64 0, .string (bs []), .int .i64 4]) ∧ Below w.heap.size w w' := by
  have := take_any s w
  rw [h] at this
  exact this
theorem take_some (s : ByteArray) (n k : Nat) (h : tk (nbs s) = some (n, k)) (w : World) :
    Calls Try.prog 72 #[.string s] w fun r w' => r = .returned (.tuple #[.int .i64 (n : Int), .string (s.extract k s.size), .int .i64 0]) ∧ Below w.heap.size w w' := by
  have := take_any s w
  rw [h] at this
  exact this
end Re
end Go.Proofs.Ytocmdehpbipmlaa
/- The reference's Take, over this seat's program. -/
namespace Go.Proofs.Ytocmdehpbipmlaa
open Go.ChangeShapes Go.WideShapes Go.ChangeAt Go.RowKit
namespace Re
open Ba

theorem dg_snoc (k n : Nat) : dg (k + 1) n = dg k (n / 256) ++ [n % 256] := by
  induction k with
  | zero => simp [dg]
  | succ k ih =>
    rw [show dg (k + 1 + 1) n = n / 256 ^ (k + 1) % 256 :: dg (k + 1) n from rfl, ih, show dg (k + 1) (n / 256) = n / 256 / 256 ^ k % 256 :: dg k (n / 256) from rfl]
    rw [Nat.div_div_eq_div_mul, Nat.pow_succ, Nat.mul_comm]
    rfl
theorem dg_vl (k : Nat) : ∀ D : List Nat, D.length = k → (∀ b ∈ D, b < 256) → dg k (vl D) = D := by
  induction k with
  | zero => intro D h _; rw [List.eq_nil_of_length_eq_zero h]; rfl
  | succ k ih =>
    intro D h hD
    have hk : k < D.length := by omega
    have e : D = D.take k ++ [D[k]] := by
      rw [List.take_append_getElem]
      rw [List.take_of_length_le (by omega)]
    have hb := hD D[k] (List.getElem_mem hk)
    have h2 := ih (D.take k) (by simp; omega) (fun b hb => hD b (List.mem_of_mem_take hb))
    have hv : vl D = 256 * vl (D.take k) + D[k] := by
      have := vl_take D k D[k] (by simp [hk])
      rw [List.take_of_length_le (by omega)] at this
      exact this
    rw [dg_snoc, hv, show (256 * vl (D.take k) + D[k]) / 256 = vl (D.take k) by omega, show (256 * vl (D.take k) + D[k]) % 256 = D[k] by omega, h2, ← e]
/-- a number of k bytes more: whether they are as few as hold it -/
theorem fit_iff (D : List Nat) (k : Nat) (h1 : 1 ≤ k) (hD : D.length = k) (hb : ∀ b ∈ D, b < 256) : szn (vl D) = 1 + k ↔ vl D ≤ 1099511627776 ∧ spl (vl D) = (240 + k) :: D := by
  constructor
  · intro h
    have hn : vl D ≤ 1099511627776 := by
      by_cases q : vl D ≤ 1099511627776
      · exact q
      · rw [szn_hi _ q] at h; omega
    refine ⟨hn, ?_⟩
    rw [szn_lo _ hn] at h
    by_cases q : vl D < 240
    · rw [spl_lo _ q] at h; simp at h; omega
    · rw [spl_hi _ (by omega)] at h ⊢
      rw [List.length_cons, dg_length] at h
      have e : nb (vl D) = k := by omega
      rw [e, dg_vl k D hD hb]
  · rintro ⟨h, e⟩
    rw [szn_lo _ h, e, List.length_cons, hD]
    omega

theorem size_taken : (Try.prog.info? 113).map (·.size) = some 2 := by kernel_rfl
theorem loadVar_taken {w : World} {b : Nat} {c : Array Value} {t : TypeId} (h : w.heap[b]? = some (.cells c t (0, 0))) (hc : c.size = 2) : (loadVar 113 ⟨b, 0, none⟩).run Try.prog w = .ok (.agg c) w :=
  run_loadVar_row w b t _ _ _ _ h Try.underlying113 rfl (by rw [size_taken, hc])

set_option maxHeartbeats 800000 in
theorem rtake_empty (w : World) :
    Calls Try.prog 64 #[.string (bs [])] w fun r w' => r = .returned (.tuple #[.agg #[.int .i64 0, .int .i64 0], .int .i64 4]) ∧ Below w.heap.size w w' := by
  show Calls Try.prog 64 #[.string ⟨#[]⟩] w _
  go_enter Try.func64, Try.ntmps64
  go_wp2_with fail
  exact bodyPost_ret (results_row2 Try.results64 _ _ _ _ _ rfl rfl (loadVar_taken (heap_new _ _) rfl)) rfl ⟨rfl, below_alloc _ _⟩

set_option maxRecDepth 100000 in
set_option maxHeartbeats 800000 in
theorem rtake_lo (s : ByteArray) (b : Nat) (h0 : 0 < s.size) (hb : b < 240) (hs : (nbs s)[0]? = some b) (w : World) :
    Calls Try.prog 64 #[.string s] w fun r w' => r = .returned (.tuple #[.agg #[.int .i64 (b : Int), .int .i64 1], .int .i64 0]) ∧ Below w.heap.size w w' := by
  have ix := ix_str s 0 b hs
  have hne := ne_empty s h0
  have hb' : decide ((b : Int) < 240) = true := by simp; omega
  simp at ix
  clear hs
  go_enter Try.func64, Try.ntmps64
  go_wp2_with fail
  exact bodyPost_ret (results_row2 Try.results64 _ _ _ _ _ rfl rfl (loadVar_taken (heap_new _ _) rfl)) rfl ⟨rfl, below_alloc _ _⟩

set_option maxRecDepth 100000 in
set_option maxHeartbeats 800000 in
theorem rtake_bad (s : ByteArray) (b k : Nat) (h0 : 0 < s.size) (hbk : b = 240 + k) (hb2 : b < 256) (hs : (nbs s)[0]? = some b) (h : 6 < k ∨ s.size < 1 + k) (w : World) :
    Calls Try.prog 64 #[.string s] w fun r w' => r = .returned (.tuple #[.agg #[.int .i64 0, .int .i64 0], .int .i64 4]) ∧ Below w.heap.size w w' := by
  have ix := ix_str s 0 b hs
  have hne := ne_empty s h0
  simp at ix
  have hb' : (b : Int) - 240 = (k : Int) := by omega
  have d0 : decide ((b : Int) < 240) = false := by simp; omega
  have hk16 : (k : Int) < 16 := by omega
  by_cases h1 : 6 < k
  · have d1 : decide (6 < (k : Int)) = true := by simp; omega
    clear hs h hbk
    go_enter Try.func64, Try.ntmps64
    go_wp2_with fail
    exact bodyPost_ret (results_row2 Try.results64 _ _ _ _ _ rfl rfl (loadVar_taken (heap_new _ _) rfl)) rfl ⟨rfl, below_alloc _ _⟩
  · have d1 : decide (6 < (k : Int)) = false := by simp; omega
    have d2 : decide ((s.size : Int) < 1 + (k : Int)) = true := by simp; omega
    clear hs h hbk
    go_enter Try.func64, Try.ntmps64
    go_wp2_with fail
    exact bodyPost_ret (results_row2 Try.results64 _ _ _ _ _ rfl rfl (loadVar_taken (heap_new _ _) rfl)) rfl ⟨rfl, below_alloc _ _⟩

theorem eq_str (L : List Nat) (t : ByteArray) (x : Bool) (hL : ∀ b ∈ L, b < 256) (h : decide (L = nbs t) = x) : ((bs L).toList == t.toList) = x := by
  subst h
  rw [toList_is, toList_is]
  by_cases e : L = nbs t
  · have : bs L = t := nbs_inj (by rw [nbs_bs L hL, e])
    rw [this, beq_self_eq_true, decide_eq_true e]
  · have : ¬ ((bs L).data.toList = t.data.toList) := fun q => e (by
      have := congrArg (List.map UInt8.toNat) q
      rw [← nbs_bs L hL]
      exact this)
    rw [decide_eq_false e]
    exact beq_eq_false_iff_ne.2 this
theorem two_set {w : World} {b : Nat} {x y : Value} {t : TypeId} (h : w.heap[b]? = some (.cells #[x, y] t (0, 0))) (u v : Value) : ((w.setCell ⟨b, 0, none⟩ u).setCell ⟨b, 1, none⟩ v).heap[b]? = some (.cells #[u, v] t (0, 0)) := by
  rw [Ba.heap_setCell_same (Ba.heap_setCell_same h u) v]
  rfl

set_option maxRecDepth 100000 in
set_option maxHeartbeats 1600000 in
theorem rtake_loop (s : ByteArray) (b k : Nat) (h6 : k ≤ 6) (hk : k < s.size) (hbk : b = 240 + k) (hs : (nbs s)[0]? = some b) (w : World) :
    Calls Try.prog 64 #[.string s] w fun r w' => r = .returned (bif decide (vl (nbs (s.extract 1 (1 + k))) ≤ 1099511627776 ∧ spl (vl (nbs (s.extract 1 (1 + k)))) = nbs (s.extract 0 (1 + k))) then .tuple #[.agg #[.int .i64 (vl (nbs (s.extract 1 (1 + k))) : Int), .int .i64 (1 + (k : Int))], .int .i64 0] else .tuple #[.agg #[.int .i64 0, .int .i64 0], .int .i64 4]) ∧ Below w.heap.size w w' := by
  have ix := ix_str s 0 b hs
  have hne := ne_empty s (by omega)
  simp at ix
  have h6' : (k : Int) ≤ 6 := by omega
  have hk' : (k : Int) < (s.size : Int) := by omega
  have hb' : (b : Int) - 240 = (k : Int) := by omega
  have d0 : decide ((b : Int) < 240) = false := by simp; omega
  have d1 : decide (6 < (k : Int)) = false := by simp; omega
  have d2 : decide ((s.size : Int) < 1 + (k : Int)) = false := by simp; omega
  have esz : (s.extract 1 (1 + k)).size = k := by rw [← nbs_length, nbs_extract, List.length_drop, List.length_take, nbs_length]; omega
  have HL := hide (nbs_lt (s.extract 1 (1 + k)))
  have HN := hide ((nbs_length (s.extract 1 (1 + k))).trans esz)
  have HD : Hid (∀ j x : Nat, j < k → (nbs (s.extract 1 (1 + k)))[j]? = some x → (nbs s)[j + 1]? = some x) := fun j x hj hx => by
    rw [nbs_extract, List.getElem?_drop, List.getElem?_take] at hx
    rw [if_pos (by omega), Nat.add_comm] at hx
    exact hx
  generalize hDD : nbs (s.extract 1 (1 + k)) = D at HL HN HD ⊢
  clear hs hbk esz hDD
  go_enter Try.func64, Try.ntmps64
  go_wp2_with fail
  go_loop [6, 7] (fun n i => ∃ j : Nat, j ≤ k ∧ i = .int .i64 ((j : Int) + 1) ∧ n = .int .i64 ((vl (D.take j) : Nat) : Int)) (fun _ i => k + 1 - (intOf i).toNat)
  case atStart => exact ⟨0, Nat.zero_le _, rfl, rfl⟩
  case round =>
    obtain ⟨j, hj, rfl, rfl⟩ := hrel
    by_cases hjk : j < k
    · have hjk' : decide ((j : Int) + 1 ≤ (k : Int)) = true := by simp; omega
      obtain ⟨x, hx⟩ : ∃ x, D[j]? = some x := ⟨D[j]'(by rw [HN.out]; exact hjk), by simp [HN.out, hjk]⟩
      have hx256 : x < 256 := HL.out x (List.mem_of_getElem? hx)
      have hvl : vl (D.take j) < 1099511627776 := Nat.lt_of_lt_of_le (vl_lt D HL.out j) (by
        have : 256 ^ j ≤ 256 ^ 5 := Nat.pow_le_pow_right (by decide) (by omega)
        exact this)
      have ixj := ix_str s (j + 1) x (HD.out j x hjk hx)
      rw [show ((j + 1 : Nat) : Int) = (j : Int) + 1 by omega] at ixj
      have VT := hide (vl_take D j x hx)
      clear hx
      generalize vl (D.take j) = V at hvl VT ⊢
      go_wp2_with fail
      go_round
      case rel => exact ⟨j + 1, by omega, by go_num, by rw [VT.out]; simp⟩
      case measure => simp [intOf]; omega
    · have hjk' : decide ((j : Int) + 1 ≤ (k : Int)) = false := by simp; omega
      have e : j = k := by omega
      subst e
      rw [List.take_of_length_le (by rw [HN.out]; exact Nat.le_refl _)]
      generalize hV : vl D = V
      have HV := hide hV
      clear hV
      have H0 := hide (heap_new w (.cells #[.int .i64 0, .int .i64 0] 113))
      have B0 := hide (below_alloc w (.cells #[.int .i64 0, .int .i64 0] 113))
      generalize w.alloc (.cells #[.int .i64 0, .int .i64 0] 113) = W at H0 B0 ⊢
      by_cases hle : V ≤ 1099511627776
      · go_wp2_with fail
        refine (rput_ok V hle _).mono ?_
        rintro r w1 ⟨rfl, hb1⟩
        have H1 := hide (heap_below H0.out hb1)
        have c0 := cell_of H1.out 0
        have c1 := cell_of H1.out 1
        have f0 := frozen_of H1.out 0
        have f1 := frozen_of H1.out 1
        simp at c0 c1
        have B1 := hide (btr B0.out hb1)
        clear hb1
        by_cases hq : spl V = nbs (s.extract 0 (1 + j))
        · have es := eq_str (spl V) (s.extract 0 (1 + j)) true (spl_lt V) (by simpa using hq)
          have HQ : Hid (decide (V ≤ 1099511627776 ∧ spl V = nbs (s.extract 0 (1 + j))) = true) := by show _ = _; simp only [hle, hq, and_self, decide_true]
          clear hq
          go_wp2_with fail
          exact bodyPost_ret (results_row2 Try.results64 _ _ _ _ _ rfl rfl (loadVar_taken (two_set H1.out _ _) rfl)) rfl ⟨by rw [HV.out, HQ.out]; rfl, (B1.out.setCell (Nat.le_refl _) _).setCell (Nat.le_refl _) _⟩
        · have es := eq_str (spl V) (s.extract 0 (1 + j)) false (spl_lt V) (by simpa using hq)
          have HQ : Hid (decide (V ≤ 1099511627776 ∧ spl V = nbs (s.extract 0 (1 + j))) = false) := by show _ = _; simp only [hle, hq, and_false, decide_false]
          clear hq
          go_wp2_with fail
          exact bodyPost_ret (results_row2 Try.results64 _ _ _ _ _ rfl rfl (loadVar_taken (two_set H1.out _ _) rfl)) rfl ⟨by rw [HV.out, HQ.out]; rfl, (B1.out.setCell (Nat.le_refl _) _).setCell (Nat.le_refl _) _⟩
      · have HQ : Hid (decide (V ≤ 1099511627776 ∧ spl V = nbs (s.extract 0 (1 + j))) = false) := by show _ = _; simp only [hle, false_and, decide_false]
        have HO : Hid (okR (V : Int) = false) := by
          show _ = _
          have : ¬ (okR (V : Int) = true) := by rw [okR_iff]; omega
          simpa using this
        have c0 := cell_of H0.out 0
        have c1 := cell_of H0.out 1
        have f0 := frozen_of H0.out 0
        have f1 := frozen_of H0.out 1
        simp at c0 c1
        go_wp2_with fail
        refine (rput_no (V : Int) HO.out _).mono ?_
        rintro r w1 ⟨rfl, rfl⟩
        go_wp2_with fail
        exact bodyPost_ret (results_row2 Try.results64 _ _ _ _ _ rfl rfl (loadVar_taken (two_set H0.out _ _) rfl)) rfl ⟨by rw [HV.out, HQ.out]; rfl, (B0.out.setCell (Nat.le_refl _) _).setCell (Nat.le_refl _) _⟩

set_option maxRecDepth 100000 in
theorem rtake_any (s : ByteArray) (w : World) :
    Calls Try.prog 64 #[.string s] w fun r w' => r = .returned (match tk (nbs s) with | some (n, k) => .tuple #[.agg #[.int .i64 (n : Int), .int .i64 (k : Int)], .int .i64 0] | none => .tuple #[.agg #[.int .i64 0, .int .i64 0], .int .i64 4]) ∧ Below w.heap.size w w' := by
  cases hn : nbs s with
  | nil =>
    have e : s = bs [] := nbs_inj (by rw [hn, nbs_bs _ (by simp)])
    subst e
    exact rtake_empty w
  | cons b t =>
    have hb : (nbs s)[0]? = some b := by rw [hn]; rfl
    have hl : s.size = t.length + 1 := by rw [← nbs_length, hn]; rfl
    have hlt := nbs_lt s
    rw [hn] at hlt
    have hb2 : b < 256 := hlt b (by simp)
    by_cases h : b < 240
    · refine (rtake_lo s b (by omega) h hb w).mono ?_
      rintro r w' ⟨rfl, h2⟩
      exact ⟨by simp [tk, h], h2⟩
    · by_cases h2 : b - 240 ≤ 6 ∧ b - 240 ≤ t.length
      · refine (rtake_loop s b (b - 240) h2.1 (by omega) (by omega) hb w).mono ?_
        have e : nbs (s.extract 1 (1 + (b - 240))) = t.take (b - 240) := by
          rw [nbs_extract, hn, Nat.add_comm 1]
          rfl
        have e0 : nbs (s.extract 0 (1 + (b - 240))) = b :: t.take (b - 240) := by
          rw [nbs_extract, hn, Nat.add_comm 1]
          rfl
        rw [e, e0]
        rintro r w' ⟨rfl, h3⟩
        refine ⟨?_, h3⟩
        by_cases h1 : 1 ≤ b - 240
        · have hf := fit_iff (t.take (b - 240)) (b - 240) h1 (by simp; omega) (fun x hx => hlt x (by simp; exact .inr (List.mem_of_mem_take hx)))
          rw [show 240 + (b - 240) = b by omega] at hf
          cases hz : decide (vl (t.take (b - 240)) ≤ 1099511627776 ∧ spl (vl (t.take (b - 240))) = b :: t.take (b - 240))
          · have q : ¬ (szn (vl (t.take (b - 240))) = 1 + (b - 240)) := fun q => absurd (hf.1 q) (of_decide_eq_false hz)
            have : ¬ (1 ≤ b - 240 ∧ b - 240 ≤ 6 ∧ b - 240 ≤ t.length ∧ szn (vl (t.take (b - 240))) = 1 + (b - 240)) := fun p => q p.2.2.2
            simp only [tk, if_neg h, if_neg this, cond_false]
          · have q : szn (vl (t.take (b - 240))) = 1 + (b - 240) := hf.2 (of_decide_eq_true hz)
            have : 1 ≤ b - 240 ∧ b - 240 ≤ 6 ∧ b - 240 ≤ t.length ∧ szn (vl (t.take (b - 240))) = 1 + (b - 240) := ⟨h1, h2.1, h2.2, q⟩
            simp only [tk, if_neg h, if_pos this, cond_true]
            rfl
        · have eb : b = 240 := by omega
          subst eb
          rfl
      · refine (rtake_bad s b (b - 240) (by omega) (by omega) hb2 hb (by omega) w).mono ?_
        rintro r w' ⟨rfl, h3⟩
        refine ⟨?_, h3⟩
        have : ¬ (1 ≤ b - 240 ∧ b - 240 ≤ 6 ∧ b - 240 ≤ t.length ∧ szn (vl (t.take (b - 240))) = 1 + (b - 240)) := fun q => h2 ⟨q.2.1, q.2.2.1⟩
        simp only [tk, if_neg h, if_neg this]
theorem rtake_none (s : ByteArray) (h : tk (nbs s) = none) (w : World) :
    Calls Try.prog 64 #[.string s] w fun r w' => r = .returned (.tuple #[.agg #[.int .i64 0, .int .i64 0], .int .i64 4]) ∧ Below w.heap.size w w' := by
  have := rtake_any s w
  rw [h] at this
  exact this
theorem rtake_some (s : ByteArray) (n k : Nat) (h : tk (nbs s) = some (n, k)) (w : World) :
    Calls Try.prog 64 #[.string s] w fun r w' => r = .returned (.tuple #[.agg #[.int .i64 (n : Int), .int .i64 (k : Int)], .int .i64 0]) ∧ Below w.heap.size w w' := by
  have := rtake_any s w
  rw [h] at this
  exact this
end Re
end Go.Proofs.Ytocmdehpbipmlaa
/- The laws' own Ints, over this seat's program. -/
namespace Go.Proofs.Ytocmdehpbipmlaa
open Go.ChangeShapes Go.WideShapes Go.ChangeAt Go.RowKit
namespace Ba

set_option maxHeartbeats 1600000 in
theorem ints_any (oa ob : Option Addr) (l m : List Int) (c d : Nat) (w : World) (hA : At w oa l) (hB : At w ob m) (hl : l.length ≤ 1000000) (hm : m.length ≤ 1000000) :
    Calls Try.prog 24 #[.slice oa l.length c, .slice ob m.length d] w fun r w' => r = .returned (.bool (decide (l = m))) ∧ ∃ q, w' = w.drewN q := by
  have HA : Hid (At w oa l) := hA
  have HB : Hid (At w ob m) := hB
  clear hA hB
  go_enter Try.func24, Try.ntmps24
  go_wp2_with fail
  go_loopw [8] (fun i wr => ∃ k : Nat, k ≤ l.length ∧ i = .int .i64 k ∧ (k ≤ m.length ∧ ∀ j, j < k → nth l j = nth m j) ∧ ∃ q, wr = w.drewN q) (fun i _ => l.length - (intOf i).toNat)
  case atStart => exact ⟨0, Nat.zero_le _, rfl, ⟨Nat.zero_le _, fun j hj => absurd hj (Nat.not_lt_zero _)⟩, 0, rfl⟩
  case round =>
    obtain ⟨k, hk, rfl, ⟨hkm, hall⟩, q, rfl⟩ := hrel
    have HE : Hid (∀ j, j < k → nth l j = nth m j) := hall
    clear hall
    by_cases hlt : k < l.length
    · obtain ⟨b1, o1, rfl, hc1⟩ := HA.out k hlt
      have hlt' : (k : Int) < (l.length : Int) := by omega
      by_cases hlm : k < m.length
      · obtain ⟨b2, o2, rfl, hc2⟩ := HB.out k hlm
        have hlm' : (k : Int) < (m.length : Int) := by omega
        have hg : decide ((m.length : Int) ≤ (k : Int)) = false := by simp; omega
        by_cases he : nth l k = nth m k
        · have he' : (nth l k != nth m k) = false := by simpa using he
          have HX : Hid (nth l k = nth m k) := he
          clear he
          go_wp2_with fail
          go_quiet (fail)
          go_wp2
          go_roundw
          case rel => exact ⟨k + 1, by omega, by go_num, ⟨by omega, fun j hj => by
            by_cases e : j = k
            · subst e; exact HX.out
            · exact HE.out j (by omega)⟩, _, rfl⟩
          case measure => simp [intOf]; omega
        · have he' : (nth l k != nth m k) = true := by simpa using he
          have HX : Hid (l ≠ m) := fun e => he (by rw [e])
          clear he
          go_wp2_with fail
          go_quiet (fail)
          go_wp2
          go_ret
          exact ⟨ret_bool (by simpa using HX.out), by first | exact ⟨_, rfl⟩ | (rw [World.drewN_drewN]; exact ⟨_, rfl⟩)⟩
      · have HX : Hid (l ≠ m) := fun e => by subst e; exact hlm hlt
        have hg : decide ((m.length : Int) ≤ (k : Int)) = true := by simp; omega
        go_wp2_with fail
        go_quiet (fail)
        go_wp2
        go_ret
        exact ⟨ret_bool (by simpa using HX.out), by first | exact ⟨_, rfl⟩ | (rw [World.drewN_drewN]; exact ⟨_, rfl⟩)⟩
    · by_cases he : l.length = m.length
      · have he' : ((l.length : Int) == (m.length : Int)) = true := by simp; omega
        have HX : Hid (l = m) := eq_of_nth he fun j hj => HE.out j (by omega)
        clear he
        go_wp2
        go_ret
        exact ⟨ret_bool (by simpa using HX.out), by first | exact ⟨_, rfl⟩ | (rw [World.drewN_drewN]; exact ⟨_, rfl⟩)⟩
      · have he' : ((l.length : Int) == (m.length : Int)) = false := by simp; omega
        have HX : Hid (l ≠ m) := fun e => he (by rw [e])
        clear he
        go_wp2
        go_ret
        exact ⟨ret_bool (by simpa using HX.out), by first | exact ⟨_, rfl⟩ | (rw [World.drewN_drewN]; exact ⟨_, rfl⟩)⟩
theorem ints_is (oa ob : Option Addr) (l m : List Int) (n k c d : Nat) (x : Bool) (hx : decide (l = m) = x) (hn : l.length = n) (hk : m.length = k) (w : World) (hA : At w oa l) (hB : At w ob m) (hl : n ≤ 1000000) (hm : k ≤ 1000000) :
    Calls Try.prog 24 #[.slice oa n c, .slice ob k d] w fun r w' => r = .returned (.bool x) ∧ Below w.heap.size w w' := by
  subst hn hk hx
  refine (ints_any oa ob l m c d w hA hB hl hm).mono ?_
  rintro r w' ⟨rfl, q, rfl⟩
  exact ⟨rfl, bdrew _ _⟩
theorem owns_below {w w' : World} {base : Nat} {e : TypeId} {size : Nat} {v : Value} {n : Nat} {xs : List Value} (h : w.ownsRow base e size v n xs) (hb : Below w.heap.size w w') : w'.ownsRow base e size v n xs := by
  refine ⟨h.1, ?_⟩
  rcases h.2 with q | ⟨g, cap, cur, q1, q2, q3, q4⟩
  · exact .inl q
  · exact .inr ⟨g, cap, cur, q1, q2, heap_below q3 hb, q4⟩
theorem owns_at {w : World} {base : Nat} {e : TypeId} {v : Value} {l : List Int} (h : w.ownsRow base e 1 v l.length (l.map (Value.int .i64))) : ∃ oa c, v = .slice oa l.length c ∧ At w oa l := by
  rcases h.2 with ⟨rfl, h0⟩ | ⟨g, cap, cur, rfl, _, hg, _, _, hcs, htk⟩
  · refine ⟨none, 0, by rw [h0], fun k hk => by omega⟩
  · refine ⟨_, cap, rfl, fun k hk => ⟨g, 0, rfl, ?_⟩⟩
    rw [Nat.zero_add, cell_of hg k]
    have : (cur.toList.take (l.length * 1))[k]? = (l.map (Value.int .i64))[k]? := by rw [htk]
    rw [List.getElem?_take] at this
    simp [hk] at this
    rw [nth_lt l k hk]
    rw [← this]
theorem info_int : (Try.prog.info? 3).map (fun i => (i.zero, i.size, i.bytes)) = some (some (.int .i64 0), 1, 8) := by kernel_rfl
end Ba
end Go.Proofs.Ytocmdehpbipmlaa
/- Package deed: operations; isCount, upTo, reach, isCase, over this seat's program. -/
namespace Go.Proofs.Ytocmdehpbipmlaa
open Go.ChangeShapes Go.WideShapes Go.ChangeAt Go.RowKit
namespace De
open Ba Re

/-- a case -/
structure Cs where
  send : Bool
  ch : Int
  val : Int
/-- an operation -/
structure OpD where
  kind : Int
  a : Int
  b : Int
  cases : List Cs
  def_ : Bool
/-- the cells from oa on hold cases -/
def CAt (w : World) (oa : Option Addr) (l : List Cs) : Prop :=
  ∀ k, ∀ x, l[k]? = some x → ∃ b off, oa = some ⟨b, off, none⟩ ∧ w.cell? ⟨b, off + k * 3, none⟩ = some (.bool x.send) ∧ w.cell? ⟨b, off + k * 3 + 1, none⟩ = some (.int .i64 x.ch) ∧ w.cell? ⟨b, off + k * 3 + 2, none⟩ = some (.int .i64 x.val)
theorem CAt.below {w w' : World} {oa : Option Addr} {l : List Cs} (h : CAt w oa l) (hb : Below w.heap.size w w') : CAt w' oa l := by
  intro k x hk
  obtain ⟨b, off, he, h1, h2, h3⟩ := h k x hk
  exact ⟨b, off, he, (hb.cell (World.block_lt_of_cell? w _ h1)).trans h1, (hb.cell (World.block_lt_of_cell? w _ h2)).trans h2, (hb.cell (World.block_lt_of_cell? w _ h3)).trans h3⟩
theorem CAt.nil (w : World) (oa : Option Addr) : CAt w oa [] := fun k x hk => by simp at hk

def okP (p : Int) : Bool := decide (1 ≤ p) && decide (p ≤ 8)
theorem isCount_any (p : Int) (w : World) :
    Calls Try.prog 26 #[.int .i64 p] w fun r w' => r = .returned (.bool (okP p)) ∧ w' = w := by
  by_cases h1 : 1 ≤ p
  · have e : okP p = decide (p ≤ 8) := by simp [okP, h1]
    rw [e]
    clear e
    go_enter Try.func26, Try.ntmps26
    go_wp2
    go_ret
    exact ⟨rfl, rfl⟩
  · have e : okP p = false := by simp [okP, h1]
    rw [e]
    clear e
    go_enter Try.func26, Try.ntmps26
    go_wp2
    go_ret
    exact ⟨rfl, rfl⟩
def upB (n m : Int) : Bool := decide (0 ≤ n) && decide (n ≤ m)
theorem upTo_any (n m : Int) (w : World) :
    Calls Try.prog 62 #[.int .i64 n, .int .i64 m] w fun r w' => r = .returned (.bool (upB n m)) ∧ w' = w := by
  by_cases h1 : 0 ≤ n
  · have e : upB n m = decide (n ≤ m) := by simp [upB, h1]
    rw [e]
    clear e
    go_enter Try.func62, Try.ntmps62
    go_wp2
    go_ret
    exact ⟨rfl, rfl⟩
  · have e : upB n m = false := by simp [upB, h1]
    rw [e]
    clear e
    go_enter Try.func62, Try.ntmps62
    go_wp2
    go_ret
    exact ⟨rfl, rfl⟩

/-- how far A and B go -/
def mA (k p : Int) : Int := if k = 1 then p - 1 else if k = 2 ∨ k = 3 ∨ k = 4 ∨ k = 5 ∨ k = 7 ∨ k = 8 then 7 else 0
def mB (k : Int) : Int := if k = 2 then 4 else if k = 3 then 99 else 0
theorem reach_1 (p : Int) (h1 : 1 ≤ p) (h2 : p ≤ 8) (w : World) :
    Calls Try.prog 61 #[.int .i64 1, .int .i64 p] w fun r w' => r = .returned (.tuple #[.int .i64 (mA 1 p), .int .i64 (mB 1)]) ∧ w' = w := by
  have h1' := h1
  have h2' := h2
  go_enter Try.func61, Try.ntmps61
  go_wp2
  go_ret2
  exact ⟨rfl, rfl⟩
theorem reach_2 (p : Int) (h1 : 1 ≤ p) (h2 : p ≤ 8) (w : World) :
    Calls Try.prog 61 #[.int .i64 2, .int .i64 p] w fun r w' => r = .returned (.tuple #[.int .i64 (mA 2 p), .int .i64 (mB 2)]) ∧ w' = w := by
  have h1' := h1
  have h2' := h2
  go_enter Try.func61, Try.ntmps61
  go_wp2
  go_ret2
  exact ⟨rfl, rfl⟩
theorem reach_3 (p : Int) (h1 : 1 ≤ p) (h2 : p ≤ 8) (w : World) :
    Calls Try.prog 61 #[.int .i64 3, .int .i64 p] w fun r w' => r = .returned (.tuple #[.int .i64 (mA 3 p), .int .i64 (mB 3)]) ∧ w' = w := by
  have h1' := h1
  have h2' := h2
  go_enter Try.func61, Try.ntmps61
  go_wp2
  go_ret2
  exact ⟨rfl, rfl⟩
theorem reach_4 (p : Int) (h1 : 1 ≤ p) (h2 : p ≤ 8) (w : World) :
    Calls Try.prog 61 #[.int .i64 4, .int .i64 p] w fun r w' => r = .returned (.tuple #[.int .i64 (mA 4 p), .int .i64 (mB 4)]) ∧ w' = w := by
  have h1' := h1
  have h2' := h2
  go_enter Try.func61, Try.ntmps61
  go_wp2
  go_ret2
  exact ⟨rfl, rfl⟩
theorem reach_5 (p : Int) (h1 : 1 ≤ p) (h2 : p ≤ 8) (w : World) :
    Calls Try.prog 61 #[.int .i64 5, .int .i64 p] w fun r w' => r = .returned (.tuple #[.int .i64 (mA 5 p), .int .i64 (mB 5)]) ∧ w' = w := by
  have h1' := h1
  have h2' := h2
  go_enter Try.func61, Try.ntmps61
  go_wp2
  go_ret2
  exact ⟨rfl, rfl⟩
theorem reach_6 (p : Int) (h1 : 1 ≤ p) (h2 : p ≤ 8) (w : World) :
    Calls Try.prog 61 #[.int .i64 6, .int .i64 p] w fun r w' => r = .returned (.tuple #[.int .i64 (mA 6 p), .int .i64 (mB 6)]) ∧ w' = w := by
  have h1' := h1
  have h2' := h2
  go_enter Try.func61, Try.ntmps61
  go_wp2
  go_ret2
  exact ⟨rfl, rfl⟩
theorem reach_7 (p : Int) (h1 : 1 ≤ p) (h2 : p ≤ 8) (w : World) :
    Calls Try.prog 61 #[.int .i64 7, .int .i64 p] w fun r w' => r = .returned (.tuple #[.int .i64 (mA 7 p), .int .i64 (mB 7)]) ∧ w' = w := by
  have h1' := h1
  have h2' := h2
  go_enter Try.func61, Try.ntmps61
  go_wp2
  go_ret2
  exact ⟨rfl, rfl⟩
theorem reach_8 (p : Int) (h1 : 1 ≤ p) (h2 : p ≤ 8) (w : World) :
    Calls Try.prog 61 #[.int .i64 8, .int .i64 p] w fun r w' => r = .returned (.tuple #[.int .i64 (mA 8 p), .int .i64 (mB 8)]) ∧ w' = w := by
  have h1' := h1
  have h2' := h2
  go_enter Try.func61, Try.ntmps61
  go_wp2
  go_ret2
  exact ⟨rfl, rfl⟩
theorem reach_9 (p : Int) (h1 : 1 ≤ p) (h2 : p ≤ 8) (w : World) :
    Calls Try.prog 61 #[.int .i64 9, .int .i64 p] w fun r w' => r = .returned (.tuple #[.int .i64 (mA 9 p), .int .i64 (mB 9)]) ∧ w' = w := by
  have h1' := h1
  have h2' := h2
  go_enter Try.func61, Try.ntmps61
  go_wp2
  go_ret2
  exact ⟨rfl, rfl⟩
theorem kind_cases {k : Int} (h1 : 1 ≤ k) (h2 : k ≤ 9) : k = 1 ∨ k = 2 ∨ k = 3 ∨ k = 4 ∨ k = 5 ∨ k = 6 ∨ k = 7 ∨ k = 8 ∨ k = 9 := by omega
theorem reach_any (k p : Int) (hk1 : 1 ≤ k) (hk2 : k ≤ 9) (h1 : 1 ≤ p) (h2 : p ≤ 8) (w : World) :
    Calls Try.prog 61 #[.int .i64 k, .int .i64 p] w fun r w' => r = .returned (.tuple #[.int .i64 (mA k p), .int .i64 (mB k)]) ∧ w' = w := by
  rcases kind_cases hk1 hk2 with rfl | rfl | rfl | rfl | rfl | rfl | rfl | rfl | rfl
  · exact reach_1 p h1 h2 w
  · exact reach_2 p h1 h2 w
  · exact reach_3 p h1 h2 w
  · exact reach_4 p h1 h2 w
  · exact reach_5 p h1 h2 w
  · exact reach_6 p h1 h2 w
  · exact reach_7 p h1 h2 w
  · exact reach_8 p h1 h2 w
  · exact reach_9 p h1 h2 w

/-- a case is right -/
def okC (x : Cs) : Bool := upB x.ch 7 && upB x.val (bif x.send then 99 else 0)
theorem isCase_any (x : Cs) (w : World) :
    Calls Try.prog 63 #[.agg #[.bool x.send, .int .i64 x.ch, .int .i64 x.val]] w fun r w' => r = .returned (.bool (okC x)) ∧ Below w.heap.size w w' := by
  obtain ⟨s, c, v⟩ := x
  cases s <;> cases h : upB c 7
  all_goals
    have HC := hide h
    clear h
    go_enter Try.func63, Try.ntmps63
    go_wp2_with fail
    refine (upTo_any _ _ _).mono ?_
    rw [HC.out]
    rintro r w1 ⟨rfl, rfl⟩
    go_wp2_with (go_at_call 62; refine (upTo_any _ _ _).mono ?_; rintro r w1 ⟨rfl, rfl⟩)
    go_ret
    exact ⟨by simp [okC, HC.out], below_alloc _ _⟩

/-- an operation as a value, its cases at oa -/
def opA (o : OpD) (oa : Option Addr) (c : Nat) : Array Value := #[.int .i64 o.kind, .int .i64 o.a, .int .i64 o.b, .slice oa o.cases.length c, .bool o.def_]
/-- what Check answers -/
def chk (o : OpD) (p : Int) : Int :=
  if (okP p && (decide (1 ≤ o.kind) && decide (o.kind ≤ 9))) = false then 1
  else if 4 < o.cases.length then 2
  else if (upB o.a (mA o.kind p) && upB o.b (mB o.kind)) = false then 4
  else if o.kind ≠ 6 ∧ (o.def_ || decide (0 < o.cases.length)) = true then 4
  else if o.cases.all okC then 0 else 4

set_option maxHeartbeats 800000 in
theorem check_arg (o : OpD) (oa : Option Addr) (c : Nat) (p : Int) (w : World) (h : (okP p && (decide (1 ≤ o.kind) && decide (o.kind ≤ 9))) = false) :
    Calls Try.prog 28 #[.agg #[.int .i64 o.kind, .int .i64 o.a, .int .i64 o.b, .slice oa o.cases.length c, .bool o.def_], .int .i64 p] w fun r w' => r = .returned (.int .i64 1) ∧ Below w.heap.size w w' := by
  obtain ⟨k, a, b, cs, d⟩ := o
  cases hp : okP p
  · have HP := hide hp
    clear h hp
    go_enter Try.func28, Try.ntmps28
    go_wp2_with fail
    refine (isCount_any _ _).mono ?_
    rw [HP.out]
    rintro r w1 ⟨rfl, rfl⟩
    go_wp2_with fail
    go_ret
    exact ⟨rfl, below_alloc _ _⟩
  · have HP := hide hp
    have hk : k < 1 ∨ 9 < k := by
      rw [hp] at h
      simp at h
      by_cases q : 1 ≤ k
      · have := h q; omega
      · omega
    clear h hp
    by_cases h1 : k < 1
    · have d1 : decide (k < 1) = true := by simpa using h1
      clear hk
      go_enter Try.func28, Try.ntmps28
      go_wp2_with fail
      refine (isCount_any _ _).mono ?_
      rw [HP.out]
      rintro r w1 ⟨rfl, rfl⟩
      go_wp2_with fail
      go_ret
      exact ⟨rfl, below_alloc _ _⟩
    · have d1 : decide (k < 1) = false := by simpa using h1
      have d2 : decide (9 < k) = true := by simp; omega
      clear hk
      go_enter Try.func28, Try.ntmps28
      go_wp2_with fail
      refine (isCount_any _ _).mono ?_
      rw [HP.out]
      rintro r w1 ⟨rfl, rfl⟩
      go_wp2_with fail
      go_ret
      exact ⟨rfl, below_alloc _ _⟩
end De
end Go.Proofs.Ytocmdehpbipmlaa
/- Package deed: Check, over this seat's program. -/
namespace Go.Proofs.Ytocmdehpbipmlaa
open Go.ChangeShapes Go.WideShapes Go.ChangeAt Go.RowKit
namespace De
open Ba Re

theorem all_no {l : List Cs} {j : Nat} {x : Cs} (hx : l[j]? = some x) (h : okC x = false) : l.all okC = false := by
  rw [List.all_eq_false]
  exact ⟨x, List.mem_of_getElem? hx, by simp [h]⟩
theorem all_yes {l : List Cs} (h : ∀ (q : Nat) (x : Cs), l[q]? = some x → okC x = true) : l.all okC = true := by
  rw [List.all_eq_true]
  intro x hx
  obtain ⟨q, hq⟩ := List.getElem?_of_mem hx
  exact h q x hq
theorem okP_iff (p : Int) : okP p = true ↔ 1 ≤ p ∧ p ≤ 8 := by simp [okP]

set_option maxHeartbeats 800000 in
theorem check_long (o : OpD) (oa : Option Addr) (c : Nat) (p : Int) (w : World) (hp : okP p = true) (h1 : 1 ≤ o.kind) (h2 : o.kind ≤ 9) (hl : 4 < o.cases.length) (hm : o.cases.length ≤ maxLen) :
    Calls Try.prog 28 #[.agg #[.int .i64 o.kind, .int .i64 o.a, .int .i64 o.b, .slice oa o.cases.length c, .bool o.def_], .int .i64 p] w fun r w' => r = .returned (.int .i64 2) ∧ Below w.heap.size w w' := by
  obtain ⟨k, a, b, cs, d⟩ := o
  unfold maxLen at hm
  simp only at h1 h2 hl hm ⊢
  have HP := hide hp
  have d1 : decide (k < 1) = false := by simp; omega
  have d2 : decide (9 < k) = false := by simp; omega
  have d3 : decide ((4 : Int) < (cs.length : Int)) = true := by simp; omega
  clear hp
  go_enter Try.func28, Try.ntmps28
  go_wp2_with fail
  refine (isCount_any _ _).mono ?_
  rw [HP.out]
  rintro r w1 ⟨rfl, rfl⟩
  go_wp2_with fail
  go_ret
  exact ⟨rfl, below_alloc _ _⟩

set_option maxHeartbeats 1600000 in
theorem check_main (o : OpD) (oa : Option Addr) (c : Nat) (p : Int) (w : World) (hp : okP p = true) (h1 : 1 ≤ o.kind) (h2 : o.kind ≤ 9) (hl : o.cases.length ≤ 4) (hA : CAt w oa o.cases) (x1 x2 x3 x4 : Bool) (hx1 : upB o.a (mA o.kind p) = x1) (hx2 : upB o.b (mB o.kind) = x2) (hx3 : (o.kind == 6) = x3) (hx4 : (o.def_ || decide (0 < o.cases.length)) = x4) :
    Calls Try.prog 28 #[.agg #[.int .i64 o.kind, .int .i64 o.a, .int .i64 o.b, .slice oa o.cases.length c, .bool o.def_], .int .i64 p] w fun r w' => r = .returned (.int .i64 (bif x1 && x2 && (x3 || !x4) && o.cases.all okC then 0 else 4)) ∧ Below w.heap.size w w' := by
  obtain ⟨k, a, b, cs, d⟩ := o
  simp only at h1 h2 hl hA hx1 hx2 hx3 hx4 ⊢
  have HP := hide hp
  have HP2 := hide ((okP_iff p).1 hp)
  have HA := hide hA
  have X1 := hide hx1
  have X2 := hide hx2
  have d1 : decide (k < 1) = false := by simp; omega
  have d2 : decide (9 < k) = false := by simp; omega
  have d3 : decide ((4 : Int) < (cs.length : Int)) = false := by simp; omega
  have d4 : (k != 6) = !x3 := by rw [← hx3]; rfl
  clear hp hA hx1 hx2
  cases x1
  · clear hx3 hx4 d4
    go_enter Try.func28, Try.ntmps28
    go_wp2_with fail
    refine (isCount_any _ _).mono ?_
    rw [HP.out]
    rintro r w1 ⟨rfl, rfl⟩
    go_wp2_with fail
    refine (reach_any k p h1 h2 HP2.out.1 HP2.out.2 _).mono ?_
    rintro r w1 ⟨rfl, rfl⟩
    go_wp2_with fail
    refine (upTo_any _ _ _).mono ?_
    rw [X1.out]
    rintro r w1 ⟨rfl, rfl⟩
    go_wp2_with fail
    go_ret
    exact ⟨rfl, below_alloc _ _⟩
  cases x2
  · clear hx3 hx4 d4
    go_enter Try.func28, Try.ntmps28
    go_wp2_with fail
    refine (isCount_any _ _).mono ?_
    rw [HP.out]
    rintro r w1 ⟨rfl, rfl⟩
    go_wp2_with fail
    refine (reach_any k p h1 h2 HP2.out.1 HP2.out.2 _).mono ?_
    rintro r w1 ⟨rfl, rfl⟩
    go_wp2_with fail
    refine (upTo_any _ _ _).mono ?_
    rw [X1.out]
    rintro r w1 ⟨rfl, rfl⟩
    go_wp2_with fail
    refine (upTo_any _ _ _).mono ?_
    rw [X2.out]
    rintro r w1 ⟨rfl, rfl⟩
    go_wp2_with fail
    go_ret
    exact ⟨rfl, below_alloc _ _⟩
  go_enter Try.func28, Try.ntmps28
  go_wp2_with fail
  refine (isCount_any _ _).mono ?_
  rw [HP.out]
  rintro r w1 ⟨rfl, rfl⟩
  go_wp2_with fail
  refine (reach_any k p h1 h2 HP2.out.1 HP2.out.2 _).mono ?_
  rintro r w1 ⟨rfl, rfl⟩
  go_wp2_with fail
  refine (upTo_any _ _ _).mono ?_
  rw [X1.out]
  rintro r w1 ⟨rfl, rfl⟩
  go_wp2_with fail
  refine (upTo_any _ _ _).mono ?_
  rw [X2.out]
  rintro r w1 ⟨rfl, rfl⟩
  cases x3
  · cases x4
    · have hd : d = false := by
        cases d
        · rfl
        · simp at hx4
      have hc0 : cs = [] := by
        rw [hd] at hx4
        simpa using hx4
      subst hd hc0
      clear hx4 hx3
      go_wp2_with fail
      refine wp_loop_rounds 1 ?_
      rw [rounds_succ]
      go_wp2
      go_ret
      exact ⟨rfl, below_alloc _ _⟩
    · clear hx3
      cases d
      · obtain ⟨x, t, rfl⟩ : ∃ x t, cs = x :: t := by
          cases cs with
          | nil => simp at hx4
          | cons x t => exact ⟨x, t, rfl⟩
        clear hx4
        go_wp2_with fail
        go_ret
        exact ⟨rfl, below_alloc _ _⟩
      · clear hx4
        go_wp2_with fail
        go_ret
        exact ⟨rfl, below_alloc _ _⟩
  · clear hx4 hx3
    have B0 := hide (below_alloc w (.cells #[.int .i64 k, .int .i64 a, .int .i64 b, .slice oa cs.length c, .bool d] 24))
    go_wp2_with fail
    generalize w.alloc (.cells #[.int .i64 k, .int .i64 a, .int .i64 b, .slice oa cs.length c, .bool d] 24) = W at B0 ⊢
    go_loopw [61] (fun i wr => ∃ j : Nat, j ≤ cs.length ∧ i = .int .i64 (j : Int) ∧ (∀ q x, q < j → cs[q]? = some x → okC x = true) ∧ Below w.heap.size w wr) (fun i _ => cs.length - (intOf i).toNat)
    case atStart => exact ⟨0, Nat.zero_le _, rfl, fun q x hq => absurd hq (Nat.not_lt_zero _), B0.out⟩
    case round =>
      clear B0
      obtain ⟨j, hj, rfl, hall, hb⟩ := hrel
      have HK := hide hall
      have HB := hide hb
      clear hall hb
      by_cases hlt : j < cs.length
      · have hlt' : decide ((j : Int) < (cs.length : Int)) = true := by simp; omega
        obtain ⟨x, hx⟩ : ∃ x, cs[j]? = some x := ⟨cs[j], by simp [hlt]⟩
        obtain ⟨b', off, rfl, q1, q2, q3⟩ := (HA.out.below HB.out) j x hx
        have HX := hide hx
        clear hx
        cases hok : okC x
        · have HO := hide hok
          clear hok
          go_wp2_with fail
          refine (isCase_any x _).mono ?_
          rw [HO.out]
          rintro r w2 ⟨rfl, b2⟩
          have B2 := hide (btr (btr HB.out (below_alloc _ _)) b2)
          clear b2
          go_wp2_with fail
          go_ret
          exact ⟨by rw [all_no HX.out HO.out]; simp, B2.out⟩
        · have HO := hide hok
          clear hok
          go_wp2_with fail
          refine (isCase_any x _).mono ?_
          rw [HO.out]
          rintro r w2 ⟨rfl, b2⟩
          have B2 := hide (btr (btr HB.out (below_alloc _ _)) b2)
          clear b2
          go_wp2_with fail
          go_roundw
          case rel => exact ⟨j + 1, by omega, by go_num, fun q y hq hy => by
              by_cases e : q = j
              · subst e
                have := HX.out
                rw [hy] at this
                simp at this
                subst this
                exact HO.out
              · exact HK.out q y (by omega) hy, B2.out⟩
          case measure => simp [intOf]; omega
      · have hlt' : decide ((j : Int) < (cs.length : Int)) = false := by simp; omega
        go_wp2_with fail
        go_ret
        exact ⟨by rw [all_yes (fun q x hq => HK.out q x (by have := (List.getElem?_eq_some_iff.1 hq).1; omega) hq)]; rfl, HB.out⟩

theorem check_any (o : OpD) (oa : Option Addr) (c : Nat) (p : Int) (w : World) (hA : CAt w oa o.cases) (hm : o.cases.length ≤ maxLen) :
    Calls Try.prog 28 #[.agg #[.int .i64 o.kind, .int .i64 o.a, .int .i64 o.b, .slice oa o.cases.length c, .bool o.def_], .int .i64 p] w fun r w' => r = .returned (.int .i64 (chk o p)) ∧ Below w.heap.size w w' := by
  unfold chk
  by_cases h1 : (okP p && (decide (1 ≤ o.kind) && decide (o.kind ≤ 9))) = false
  · rw [if_pos h1]
    exact check_arg o oa c p w h1
  · rw [if_neg h1]
    have h1' : okP p = true ∧ 1 ≤ o.kind ∧ o.kind ≤ 9 := by simpa using h1
    obtain ⟨hp, hk1, hk2⟩ := h1'
    by_cases h2 : 4 < o.cases.length
    · rw [if_pos h2]
      exact check_long o oa c p w hp hk1 hk2 h2 hm
    · rw [if_neg h2]
      refine (check_main o oa c p w hp hk1 hk2 (by omega) hA _ _ _ _ rfl rfl rfl rfl).mono ?_
      rintro r w' ⟨rfl, hb⟩
      refine ⟨?_, hb⟩
      cases x1 : upB o.a (mA o.kind p) && upB o.b (mB o.kind)
      · simp
      · rw [if_neg (by simp)]
        by_cases h6 : o.kind = 6
        · rw [if_neg (fun q => q.1 h6)]
          have : (o.kind == 6) = true := by simpa using h6
          rw [this]
          cases o.cases.all okC <;> simp
        · have : (o.kind == 6) = false := by simpa using h6
          rw [this]
          cases h4 : (o.def_ || decide (0 < o.cases.length))
          · rw [if_neg (fun q => by simp at q)]
            cases o.cases.all okC <;> simp
          · rw [if_pos ⟨h6, rfl⟩]
            simp
end De
end Go.Proofs.Ytocmdehpbipmlaa
