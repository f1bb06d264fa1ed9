/- Layer 25 (matrix), over this seat's program: Copy. -/
import Derived.Test.YtdfjcmlafhannaaNa8
import Derived.Laws.IdiomCopy
namespace Go.Proofs.Ytdfjcmlafhannaa
open Go.ChangeShapes Go.WideShapes Go.ChangeAt Go.RowKit
namespace Mx
open Ba (KB btr heap_lt cell_of frozen_of ret_bool ret_int bdrew bdrew1 heap_new below_alloc heap_below own_below)

theorem setCells_kb (b : Nat) : ∀ (vs : List Value) (o : Nat) (w : World), KB b w (w.setCells b o vs) ∧ ∀ k, (w.setCells b o vs).frozen? ⟨b, k, none⟩ = w.frozen? ⟨b, k, none⟩
  | [], o, w => ⟨KB.refl _ _, fun _ => rfl⟩
  | v :: vs, o, w => by
    have h := setCells_kb b vs (o + 1) (w.setCell ⟨b, o, none⟩ v)
    refine ⟨((KB.refl b w).setCell o v).trans h.1, fun k => (h.2 k).trans (World.frozen?_setCell _ _ _ _)⟩
/-- a row's words -/
def wds (x L : Nat) : List Value := (List.range L).map fun j => .int .u64 (wd x j)
theorem wds_len (x L : Nat) : (wds x L).length = L := by simp [wds]
theorem wds_at (x L j : Nat) (h : j < L) : (wds x L)[j]? = some (.int .u64 (wd x j)) := by simp [wds, h]
theorem wds_one (x L : Nat) : ∀ v ∈ wds x L, v.oneCell' = true := by
  intro v hv
  obtain ⟨b, -, rfl⟩ := List.mem_map.1 hv
  rfl
theorem MW.putRow {w : World} {M R W n : Nat} {q : Rws} (m : MW w M R W n q) (k x : Nat) (hk : k < n) (hx : ∀ b, n ≤ b → x.testBit b = false) :
    MW (w.setCells W (k * ln n) (wds x (ln n))) M R W n (upd q k x) := by
  obtain ⟨kb, fz⟩ := setCells_kb W (wds x (ln n)) (k * ln n) w
  refine ⟨m.le, (kb.block M m.cell_lt m.mw).trans m.hd, fun i hi => (cell_kept (kb.block R m.rl m.rw) i).trans (m.row i hi), ?_, fun j => (fz j).trans (m.frz j), m.mw, m.rw, ?_, Nat.lt_of_lt_of_le m.rl kb.size, Nat.lt_of_lt_of_le m.wl kb.size⟩
  · intro i j hi hj
    by_cases e : i = k
    · subst e
      rw [upd_same]
      have := World.cell?_setCells_in W (wds x (ln n)) (i * ln n) w (fun j hj => by rw [wds_len] at hj; rw [m.wrd i j hi hj]; rfl) j (by rw [wds_len]; exact hj)
      rw [this]
      have h2 := wds_at x (ln n) j hj
      rw [List.getElem?_eq_getElem (by rw [wds_len]; exact hj)] at h2
      exact h2
    · rw [upd_ne _ _ _ _ e]
      rw [World.cell?_setCells_out W (wds x (ln n)) (k * ln n) w ⟨W, i * ln n + j, none⟩ (fun _ _ => by
        rw [wds_len]
        rcases Nat.lt_or_ge i k with h | h
        · left
          have : (i + 1) * ln n ≤ k * ln n := Nat.mul_le_mul_right _ h
          rw [Nat.succ_mul] at this
          show i * ln n + j < _
          omega
        · right
          have : (k + 1) * ln n ≤ i * ln n := Nat.mul_le_mul_right _ (by omega)
          rw [Nat.succ_mul] at this
          show _ ≤ i * ln n + j
          omega)]
      exact m.wrd i j hi hj
  · intro i b hb
    by_cases e : i = k
    · subst e; unfold hs; rw [upd_same]; exact hx b hb
    · unfold hs; rw [upd_ne _ _ _ _ e]; exact m.bd i b hb
/-- the first k rows -/
def fst (r : Rws) (k : Nat) : Rws := fun a => if a < k then r a else 0
theorem fst_zero (r : Rws) : fst r 0 = fun _ => 0 := by funext a; simp [fst]
theorem fst_succ (r : Rws) (k : Nat) : upd (fst r k) k (r k) = fst r (k + 1) := by
  funext a
  unfold upd fst
  by_cases e : a = k
  · subst e; simp
  · have : (a < k + 1) = (a < k) := by apply propext; omega
    simp only [e, if_false, this]
theorem MW.ext {w : World} {M R W n : Nat} {q r : Rws} (m : MW w M R W n q) (hb : Bd n r) (h : ∀ i, i < n → q i = r i) : MW w M R W n r :=
  ⟨m.le, m.hd, m.row, fun i j hi hj => by rw [← h i hi]; exact m.wrd i j hi hj, m.frz, m.mw, m.rw, hb, m.rl, m.wl⟩
theorem run_cpw {w : World} {b o a p L : Nat} (x : Nat) (ty : TypeId) (hs : ∀ j, j < L → w.cell? ⟨a, p + j, none⟩ = some (.int .u64 (wd x j))) (hd : ∀ j, j < L → (w.cell? ⟨b, o + j, none⟩).isSome = true) (hf : ∀ k, w.frozen? ⟨b, k, none⟩ = false) :
    (Builtin.copy_ #[45, 45] ty #[.slice (some ⟨b, o, none⟩) L L, .slice (some ⟨a, p, none⟩) L L]).run Try.prog w = .ok (goInt L) (w.setCells b o (wds x L)) := by
  have hsz : (Try.prog.info? 53).map (·.size) = some 1 := by
    obtain ⟨i0, hi, hz0, hz1, hz2⟩ := info_parts info_u
    simp [hi, hz1]
  have := run_copy_cells (P := Try.prog) w 45 45 ty 53 b o L L ⟨a, p, none⟩ L L (wds x L) Try.underlying45 hsz (by rw [wds_len]; simp) (fun j v hj => by
    have hjl : j < L := by have := (List.getElem?_eq_some_iff.1 hj).1; rwa [wds_len] at this
    rw [wds_at x L j hjl] at hj
    cases hj
    rw [Addr.add_lit]
    exact hs j hjl) (fun j hj => by rw [wds_len] at hj; exact hd j hj) (fun j _ => hf _) (wds_one x L)
  rw [wds_len] at this
  exact this
set_option maxHeartbeats 800000 in
theorem copy_nil (w : World) :
    Calls Try.prog 21 #[.pointer none] w fun e w' => e = .returned (.pointer none) ∧ w' = w := by
  go_enter Try.func21, Try.ntmps21
  go_wp2
  go_ret
  exact ⟨rfl, rfl⟩
set_option maxRecDepth 100000 in
set_option maxHeartbeats 1600000 in
theorem copy_any {w : World} {M R W n : Nat} {r : Rws} (m : MW w M R W n r) :
    Calls Try.prog 21 #[.pointer (some ⟨M, 0, none⟩)] w fun e w' => e = .returned (.pointer (some ⟨w.heap.size + 2, 0, none⟩)) ∧ MW w' (w.heap.size + 2) (w.heap.size + 1) w.heap.size n r ∧ Below w.heap.size w w' := by
  have hle := m.le
  have hl := ln_le hle
  have SZ := hide (size_any m)
  have NW := hide (new_ok n hle w)
  have MH := hide (fun u (b : Below w.heap.size w u) => m.below b)
  have BD := hide m.bd
  have hwl := m.wl
  clear m
  obtain ⟨N, hN⟩ : ∃ N, w.heap.size = N := ⟨_, rfl⟩
  rw [hN] at NW MH hwl ⊢
  have HN := hide hN
  clear hN
  go_enter Try.func21, Try.ntmps21
  go_wp2_with fail
  refine SZ.out.mono ?_
  rintro e w1 ⟨rfl, e1⟩
  obtain rfl := e1.symm
  go_wp2_with fail
  refine NW.out.mono ?_
  rintro e w1 ⟨rfl, m1, b1⟩
  have M1 := hide m1
  have B1 := hide b1
  have c0 := (MH.out _ b1).mcell
  clear m1 b1
  go_wp2_with fail
  go_loopw [20] (fun s wr => ∃ k : Nat, k ≤ n ∧ s = .int .i64 (k : Int) ∧ MW wr (N + 2) (N + 1) N n (fst r k) ∧ Below N w wr) (fun s _ => n - (intOf s).toNat)
  case atStart => exact ⟨0, Nat.zero_le _, rfl, by rw [fst_zero]; exact M1.out, B1.out⟩
  case round =>
    obtain ⟨k, hk, rfl, mk, bk⟩ := hrel
    clear M1 B1 c0
    by_cases hlt : k < n
    · have hlt' : (k : Int) < (n : Int) := by omega
      have om := MH.out _ bk
      have c0 := mk.mcell
      have c1 := mk.row k hlt
      have c2 := om.row k hlt
      have CP := run_cpw (w := wr) (b := N) (o := k * ln n) (a := W) (p := k * ln n) (L := ln n) (r k) 3 (fun j hj => om.wrd k j hlt hj) (fun j hj => by rw [mk.wrd k j hlt hj]; rfl) mk.frz
      have NX : Hid (MW (wr.setCells N (k * ln n) (wds (r k) (ln n))) (N + 2) (N + 1) N n (fst r (k + 1))) := by
        rw [← fst_succ]; exact mk.putRow k (r k) hlt (fun b hb => BD.out k b hb)
      have NB : Hid (Below N w (wr.setCells N (k * ln n) (wds (r k) (ln n)))) := by
        have := (setCells_kb N (wds (r k) (ln n)) (k * ln n) wr).1
        have b2 := bk
        rw [← HN.out] at b2 ⊢
        have this : KB w.heap.size wr (wr.setCells w.heap.size (k * ln n) (wds (r k) (ln n))) := by rw [HN.out]; exact this
        exact KB.below b2 this (Nat.le_refl _)
      clear mk bk om
      generalize wr.setCells N (k * ln n) (wds (r k) (ln n)) = W2 at *
      generalize k * ln n = kL at *
      generalize ln n = L at *
      go_wp2_with fail
      go_roundw
      case rel => exact ⟨k + 1, by omega, by go_num, NX.out, NB.out⟩
      case measure => simp [intOf]; omega
    · have hlt' : ¬ ((k : Int) < (n : Int)) := by omega
      obtain rfl : k = n := by omega
      have MK := hide (mk.ext BD.out (fun i hi => by simp [fst, hi]))
      have BK := hide bk
      clear mk bk
      go_wp2_with fail
      go_ret
      exact ⟨rfl, MK.out, BK.out⟩
end Mx
end Go.Proofs.Ytdfjcmlafhannaa
