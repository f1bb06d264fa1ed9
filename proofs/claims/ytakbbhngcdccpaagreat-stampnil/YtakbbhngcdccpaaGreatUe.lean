/- Package watch, over this seat's program: free and Spawn. -/
import Derived.Test.YtakbbhngcdccpaaGreatUd
namespace Go.Proofs.YtakbbhngcdccpaaGreat
open Go.ChangeShapes Go.WideShapes Go.ChangeAt Go.RowKit
namespace Wa
open Ck
open Go.Maps (Keyed int_keyed keyOf_int_mk)

/-- 256 marks -/
def tb (F : Nat → Bool) : Array Value := ((List.range 256).map fun k => Value.bool (F k)).toArray
theorem tb_size (F : Nat → Bool) : (tb F).size = 256 := by simp [tb]
theorem tb_at (F : Nat → Bool) (k : Nat) (h : k < 256) : (tb F)[k]? = some (.bool (F k)) := by simp [tb, h]
theorem tb_set (F : Nat → Bool) (k : Nat) (v : Bool) : (tb F).setIfInBounds k (.bool v) = tb fun j => if j = k then v else F j := by
  apply Array.ext'
  rw [Array.toList_setIfInBounds]
  apply List.ext_getElem?
  intro j
  simp only [tb, List.getElem?_set, List.getElem?_map]
  by_cases e : k = j
  · subst e
    by_cases hk : k < 256 <;> simp [hk]
  · by_cases hj : j < 256 <;> simp [e, hj, Ne.symm e]
theorem info_tb : (Tryz.prog.info? 145).map (fun i => (i.zero, i.size)) = some (some (.agg (tb fun _ => false)), 256) := by kernel_rfl
theorem zero_tb (w : World) : (zeroValue 145).run Tryz.prog w = .ok (.agg (tb fun _ => false)) w := (zero_of_info info_tb).1 w
/-- which tids are taken -/
def Used (f : Int → Option (Nat × Nat)) (t : Nat) : Prop := ∃ g b, f g = some (t, b)
theorem mV_inv {v : Value} {y : DataW Unit × List MemPlace} (h : mE v = some y) : ∃ c : Int × Option Addr, v = .agg #[.int .i64 c.1, .pointer c.2] := by
  rcases mE_inv h with ⟨rfl, -⟩ | ⟨t, b, rfl, -⟩
  · exact ⟨(0, none), rfl⟩
  · exact ⟨(t, some ⟨b, 0, none⟩), rfl⟩
theorem key_inv (key : Value) (k : Lit) (h : keyOf Tryz.prog 3 key = some k) : ∃ x : Int, key = .int .i64 x := by
  obtain ⟨x, rfl, -⟩ := Maps.keyOf_int_inv Tryz.underlying3 h
  exact ⟨x, rfl⟩
/-- what a step of a loop over the map brings -/
theorem step_is {D : DataW Unit} {f : Int → Option (Nat × Nat)} (mi : MI D f) {x : Int} {k : Lit} {c : Int × Option Addr} {y : DataW Unit × List MemPlace} (hk : keyOf Tryz.prog 3 (.int .i64 x) = some k) (hy : mE (.agg #[.int .i64 c.1, .pointer c.2]) = some y) (hat : ∀ zd, D.atKey k zd = y.1) :
    k = kl x ∧ ∃ t b : Nat, f x = some (t, b) ∧ c = ((t : Int), some ⟨b, 0, none⟩) := by
  obtain ⟨x', e, rfl, -⟩ := Maps.keyOf_int_inv Tryz.underlying3 hk
  cases e
  refine ⟨rfl, ?_⟩
  have hh : Maps.has D (kl x) = true := Maps.has_true_of_atKey hat
  rw [mi.has] at hh
  cases hf : f x with
  | none => rw [hf] at hh; cases hh
  | some p =>
    obtain ⟨t, b⟩ := p
    refine ⟨t, b, rfl, ?_⟩
    have := hat .nil
    rw [show Lit.int .i64 x = kl x from rfl, mi.at_ x t b .nil hf] at this
    rcases mE_inv hy with ⟨-, rfl⟩ | ⟨t', b', e, rfl⟩
    · cases this
    · obtain ⟨rfl, rfl⟩ := mD_inj this
      obtain ⟨c1, c2⟩ := c
      simp [mV] at e
      obtain ⟨rfl, rfl⟩ := e
      rfl
theorem sk (a b : Int) : (kl a).sameKey (kl b) = decide (a = b) := by
  by_cases h : a = b
  · subst h; simp [kl, Lit.sameKey]
  · rw [Maps.sameKey_ne (fun e => h (kl_inj e))]; simp [h]
set_option maxRecDepth 100000 in
set_option maxHeartbeats 6400000 in
theorem free_any {Y : Nat → Prop} {B : Nat} {w : World} {st : Wst} {h : Nat → Option (List Int)} {mb : Nat} {D : DataW Unit} (s : WX Y B w st h mb D) (t0 : Nat) (ht0 : t0 < 256) (hno : ¬ Used st.f t0) (hall : ∀ t, t < t0 → Used st.f t) :
    Calls Tryz.prog 79 #[.pointer (some ⟨B, 0, none⟩)] w fun r w' => r = .returned (.int .i64 (t0 : Int)) ∧ Below w.heap.size w w' := by
  have y2 : w.cell? ⟨B, 2, none⟩ = some (.map (some mb)) := cell_of s.hp 2
  have hlt := s.lt
  have OW := hide (s.ow.alloc (.cells (tb fun _ => false) 145))
  have MI0 := hide s.mi
  have TD := hide s.tid
  have HN := hide hno
  have HA := hide hall
  have hz := zero_tb
  have HML := hide s.ow.lt
  clear s hno hall
  go_enter Tryz.func79, Tryz.ntmps79
  go_wp2_with (at_range; refine wpList_range_own _ rfl _ 74 rfl 3 71 law Tryz.underlying74 mE mb NB D rfl OW.out ?_; intro w0 hrg0 hg0 hs0)
  have hml : mb < w.heap.size := HML.out
  have R0 : Hid (w0.ranges Tryz.prog 3 mE mb (w.heap.size + 1) NB D (Maps.has D) (Maps.size D)) := by
    rw [World.size_alloc] at hrg0
    exact hrg0
  have E0 : Hid (w0.heap[w.heap.size]? = some (.cells (tb fun _ => false) 145 (0, 0))) := (hg0.block w.heap.size (by rw [World.size_alloc]; omega) (by simp)).trans (heap_new w _)
  have B0 : Hid (Below w.heap.size w w0) := btr (below_alloc w _) ⟨hg0.os, hg0.tape, hg0.output, hg0.size, fun k hk => hg0.block k hk (by simp)⟩
  have hs0' : w0.heap.size = w.heap.size + 1 + 1 := by rw [hs0, World.size_alloc]
  clear hrg0 hg0 hs0 OW hz
  go_frame
  simp only [World.size_alloc]
  go_loopw [5] (fun _ wr => ∃ left cnt F, wr.ranges Tryz.prog 3 mE mb (w.heap.size + 1) NB D left cnt ∧ wr.heap[w.heap.size]? = some (.cells (tb F) 145 (0, 0)) ∧ (∀ t, F t = true ↔ ∃ g b, st.f g = some (t, b) ∧ left (kl g) = false) ∧ Below w.heap.size w wr) (fun _ wr => wr.rangeLeft mb (w.heap.size + 1))
  case atStart => exact ⟨_, _, _, R0.out, E0.out, fun t => ⟨fun e => (by cases e), fun ⟨g, b, e, q⟩ => (by rw [MI0.out.has, e] at q; cases q)⟩, B0.out⟩
  case round =>
    clear R0 E0 B0 hs0'
    obtain ⟨left, cnt, F, rg, hh, hF, hb⟩ := hrel
    have RG := hide rg
    have HH := hide hh
    have HF := hide hF
    have HB := hide hb
    have hTl : w.heap.size < wr.heap.size := (Array.getElem?_eq_some_iff.1 hh).1
    clear rg hh hF hb
    go_wp2_with (at_next; refine wpList_next_ranges _ rfl _ rfl 3 law mE (Value.int .i64) (fun c : Int × Option Addr => .agg #[.int .i64 c.1, .pointer c.2]) key_inv (fun v y hv => mV_inv hv) mb (w.heap.size + 1) NB D left cnt rfl RG.out ?_ ?_)
    · intro _ hl0
      have HU : Hid (∀ t, F t = true ↔ Used st.f t) := fun t => (HF.out t).trans ⟨fun ⟨g, b, e, _⟩ => ⟨g, b, e⟩, fun ⟨g, b, e⟩ => ⟨g, b, e, hl0 _⟩⟩
      clear hl0 HF RG
      go_wp2_with fail
      go_loopw [6] (fun i wz => ∃ k : Nat, k ≤ t0 ∧ i = .int .i64 (k : Int) ∧ wz = wr) (fun i _ => t0 - (intOf i).toNat)
      case atStart => exact ⟨0, Nat.zero_le _, rfl, rfl⟩
      case round =>
        obtain ⟨k, hk, rfl, rfl⟩ := hrel
        have hk256 : (k : Int) < 256 := by omega
        have hk256n : k < 256 := by omega
        have c0 := cell_of HH.out k
        rw [tb_at F k hk256n] at c0
        by_cases hkt : k < t0
        · have hFk : F k = true := (HU.out k).2 (HA.out k hkt)
          rw [hFk] at c0
          go_wp2_with fail
          go_roundw
          case rel => exact ⟨k + 1, by omega, by go_num, by first | rfl | trivial⟩
          case measure => simp [intOf]; omega
        · have hke : k = t0 := by omega
          subst hke
          have hFk : F k = false := by
            cases q : F k with
            | false => rfl
            | true => exact absurd ((HU.out k).1 q) HN.out
          rw [hFk] at c0
          go_wp2_with fail
          go_ret
          exact ⟨rfl, HB.out⟩
    · intro x c1 c2 k y1 y2' w1 cnt1 hkey hlk hv hat hrg1 hlt1 hg1 hs1 hen
      obtain ⟨rfl, t, b, hfx, hc12⟩ := step_is (c := (c1, c2)) (y := (y1, y2')) MI0.out hkey hv hat
      cases hc12
      have ht := TD.out x t b hfx
      have ht' : (t : Int) < 256 := by omega
      have HH1 := hide ((hg1.block w.heap.size hTl (by simp)).trans HH.out)
      have c0 : w1.cell? ⟨w.heap.size, t, none⟩ = some (.bool (F t)) := by rw [cell_of HH1.out]; exact tb_at F t ht
      have f0 : w1.frozen? ⟨w.heap.size, t, none⟩ = false := frozen_of HH1.out t
      have hTl1 : w.heap.size < w1.heap.size := by omega
      have RG1 := hide hrg1
      have HB1 : Hid (Below w.heap.size w w1) := ⟨hg1.os.trans HB.out.os, hg1.tape.trans HB.out.tape, hg1.output.trans HB.out.output, Nat.le_trans HB.out.size hg1.size, fun j hj => (hg1.block j (by omega) (by simp; omega)).trans (HB.out.block j hj)⟩
      have HLT := hide hlt1
      have HFX := hide hfx
      clear hkey hv hat hrg1 hlt1 hg1 hlk hfx
      go_wp2_with fail
      have GR : w1.grownBy (w1.setCell ⟨w.heap.size, t, none⟩ (.bool true)) (some w.heap.size) :=
        ⟨rfl, rfl, rfl, by simp [World.setCell], fun j hj hne => by
          have hne' : w.heap.size ≠ j := fun e => hne (by rw [e])
          simp [World.setCell, Array.getElem?_modify, hne']⟩
      have RG2 := hide ((RG1.out.kept GR (by simp; omega) (by simp)).alloc (.cells #[.int .i64 (t : Int), .pointer (some ⟨b, 0, none⟩)] 71))
      go_roundw
      case rel =>
        refine ⟨_, cnt1, fun j => if j = t then true else F j, RG2.out, ?_, fun t' => ?_, ?_⟩
        · rw [← tb_set]
          exact Ba.heap_below (Ba.heap_setCell_same HH1.out _) (below_alloc _ _)
        · change (if t' = t then true else F t') = true ↔ ∃ g b, st.f g = some (t', b) ∧ (left (kl g) && !(kl g).sameKey (kl x)) = false
          by_cases q : t' = t
          · subst q
            rw [if_pos rfl]
            exact ⟨fun _ => ⟨x, b, HFX.out, by rw [sk]; simp⟩, fun _ => rfl⟩
          · rw [if_neg q]
            refine (HF.out t').trans ⟨fun ⟨g, b', e, z⟩ => ⟨g, b', e, by rw [z]; rfl⟩, fun ⟨g, b', e, z⟩ => ⟨g, b', e, ?_⟩⟩
            by_cases qg : g = x
            · subst qg
              rw [HFX.out] at e
              cases e
              exact absurd rfl q
            · rw [sk] at z
              simpa [qg] using z
        · exact btr (HB1.out.setCell (Nat.le_refl _) _) (below_alloc _ _)
      case measure => rw [RG2.out.left_eq, RG.out.left_eq]; exact HLT.out
theorem upd_twice {α : Type} (h : Nat → Option α) (A : Nat) (l l' : α) : upd (upd h A l) A l' = upd h A l' := by
  funext j
  unfold upd
  by_cases e : j = A <;> simp [e]
set_option maxRecDepth 100000 in
set_option maxHeartbeats 6400000 in
theorem spawn_ok {Y : Nat → Prop} {B : Nat} {w : World} {st : Wst} {h : Nat → Option (List Int)} (s : WW Y B w st h) (p c : Int) (hp : (Lit.int .i64 p).wf = true) (hc : (Lit.int .i64 c).wf = true) (hc0 : 0 ≤ c) (tp bp t0 : Nat) (l : List Int) (hfp : st.f p = some (tp, bp)) (hfc : st.f c = none) (hl : h bp = some l) (hn : st.n < st.T)
    (ht0 : t0 < 256) (hno : ¬ Used st.f t0) (hall : ∀ t, t < t0 → Used st.f t) :
    Calls Tryz.prog 57 #[.pointer (some ⟨B, 0, none⟩), .int .i64 p, .int .i64 c] w fun r w' => r = .returned (.tuple #[.int .i64 (t0 : Int), .int .i64 0]) ∧ ∃ A l', h A = none ∧ IsSet l l' t0 1 ∧ WW Y B w' { st with n := st.n + 1, f := upf st.f c (some (t0, A)) } (upd h A l') ∧ Kp Y w w' := by
  obtain ⟨mb, D, s⟩ := s
  have F1 := hide (find_some s p hp tp bp hfp)
  have F2 := hide (fun u (q : Below w.heap.size w u) => find_none (s.below q) c hc hfc)
  have RM := hide (fun u (q : Below w.heap.size w u) => room_any (s.below q))
  have hd : decide (st.n < st.T) = true := decide_eq_true hn
  rw [hd] at RM
  have FR := hide (fun u (q : Below w.heap.size w u) => free_any (s.below q) t0 ht0 hno hall)
  unfold mV at F1
  unfold mZ at F2
  have HS := hide s
  have HL := hide hl
  have d0 : decide (c < 0) = false := decide_eq_false (by omega)
  have HFC := hide (And.intro hc hfc)
  have hn1 : st.n < 10000 := by have := s.bd; omega
  clear s hp hl hd hno hall hc hfc hn
  go_enter Tryz.func57, Tryz.ntmps57
  go_wp2_with fail
  refine F1.out.mono ?_
  rintro r w1 ⟨rfl, b1⟩
  have e1 := heap_new w1 (.cells #[.int .i64 (tp : Int), .pointer (some ⟨bp, 0, none⟩)] 71)
  have B1 := hide (btr b1 (below_alloc w1 (.cells #[.int .i64 (tp : Int), .pointer (some ⟨bp, 0, none⟩)] 71)))
  have E1 := hide e1
  have F2' := hide (F2.out _ B1.out)
  clear b1 e1 F1 F2
  go_wp2_with fail
  refine F2'.out.mono ?_
  rintro r w2 ⟨rfl, b2⟩
  have B2 := hide (btr (btr B1.out b2) (below_alloc w2 (.cells #[.int .i64 0, .pointer none] 71)))
  have E2 := hide (Ba.heap_below (Ba.heap_below E1.out b2) (below_alloc w2 (.cells #[.int .i64 0, .pointer none] 71)))
  have RM' := hide (RM.out _ B2.out)
  clear b2 F2' RM E1
  go_wp2_with fail
  refine RM'.out.mono ?_
  rintro r w3 ⟨rfl, b3⟩
  have B3 := hide (btr B2.out b3)
  have E3 := hide (Ba.heap_below E2.out b3)
  have FR' := hide (FR.out _ B3.out)
  clear b3 RM' FR E2
  go_wp2_with fail
  refine FR'.out.mono ?_
  rintro r w4 ⟨rfl, b4⟩
  have B4 := hide (btr B3.out b4)
  have E4 := hide (Ba.heap_below E3.out b4)
  have z1 : w4.cell? ⟨w1.heap.size, 1, none⟩ = some (.pointer (some ⟨bp, 0, none⟩)) := cell_of E4.out 1
  have CP := hide (copy_wx (HS.out.below B4.out) HL.out)
  clear b4 FR' E3
  go_wp2_with fail
  refine CP.out.mono ?_
  rintro r w5 ⟨A, rfl, hA, s5, k5⟩
  have HA := hide hA
  have K5 := hide ((Kp.of B4.out HS.out.ylt).trans (Kp.mono (Y := Y) k5 fun k q => .inl q))
  have BG := hide (begin_any s5 c HFC.out.1 t0 A l ht0 (upd_same _ _ _) HFC.out.2 (fun g' t' e => by
    obtain ⟨lx, q⟩ := HS.out.dom g' t' A e
    rw [hA] at q
    cases q) hn1)
  clear s5 k5 hA CP
  go_wp2_with fail
  refine BG.out.mono ?_
  rintro r w6 ⟨rfl, l', hl', s6, k6⟩
  rw [upd_twice] at s6
  have S6 := hide s6
  have L6 := hide hl'
  have K6 := hide (K5.out.trans k6)
  clear s6 hl' k6 BG
  go_wp2_with fail
  go_ret2
  exact ⟨rfl, A, l', HA.out, L6.out, S6.out, K6.out⟩
set_option maxRecDepth 100000 in
set_option maxHeartbeats 6400000 in
theorem spawn_full {Y : Nat → Prop} {B : Nat} {w : World} {st : Wst} {h : Nat → Option (List Int)} (s : WW Y B w st h) (p c : Int) (hp : (Lit.int .i64 p).wf = true) (hc : (Lit.int .i64 c).wf = true) (hc0 : 0 ≤ c) (tp bp : Nat) (hfp : st.f p = some (tp, bp)) (hfc : st.f c = none) (hn : st.T ≤ st.n) :
    Calls Tryz.prog 57 #[.pointer (some ⟨B, 0, none⟩), .int .i64 p, .int .i64 c] w fun r w' => r = .returned (.tuple #[.int .i64 0, .int .i64 5]) ∧ Below w.heap.size w w' := by
  obtain ⟨mb, D, s⟩ := s
  have F1 := hide (find_some s p hp tp bp hfp)
  have F2 := hide (fun u (q : Below w.heap.size w u) => find_none (s.below q) c hc hfc)
  have RM := hide (fun u (q : Below w.heap.size w u) => room_any (s.below q))
  have hd : decide (st.n < st.T) = false := decide_eq_false (by omega)
  rw [hd] at RM
  unfold mV at F1
  unfold mZ at F2
  have d0 : decide (c < 0) = false := decide_eq_false (by omega)
  clear s hp hd hc hfc hn
  go_enter Tryz.func57, Tryz.ntmps57
  go_wp2_with fail
  refine F1.out.mono ?_
  rintro r w1 ⟨rfl, b1⟩
  have B1 := hide (btr b1 (below_alloc w1 (.cells #[.int .i64 (tp : Int), .pointer (some ⟨bp, 0, none⟩)] 71)))
  have F2' := hide (F2.out _ B1.out)
  clear b1 F1 F2
  go_wp2_with fail
  refine F2'.out.mono ?_
  rintro r w2 ⟨rfl, b2⟩
  have B2 := hide (btr (btr B1.out b2) (below_alloc w2 (.cells #[.int .i64 0, .pointer none] 71)))
  have RM' := hide (RM.out _ B2.out)
  clear b2 F2' RM
  go_wp2_with fail
  refine RM'.out.mono ?_
  rintro r w3 ⟨rfl, b3⟩
  have B3 := hide (btr B2.out b3)
  clear b3 RM'
  go_wp2_with fail
  go_ret2
  exact ⟨rfl, B3.out⟩
end Wa
end Go.Proofs.YtakbbhngcdccpaaGreat
