/- Layer 16's reference, over this seat's program: records of 258 cells in rows; At. -/
import Derived.Test.YtfimfgffbfjkeaaUg
import Derived.Test.YtfimfgffbfjkeaaRz
import Derived.Deep.AppendSrc
import Derived.Deep.WholeRow
import Derived.Maps.AppendAt
namespace Go.Proofs.Ytfimfgffbfjkeaa
open Go.ChangeShapes Go.WideShapes Go.ChangeAt Go.RowKit
namespace Wq
open Ck
open Ba (KF Bd Nw)

section
variable {P : Program} {ops : Array Oper} {Q : Exit → Act → World → Prop} {o : Oper} {rest : List Oper} {a : Act} {w : World}
theorem wpL_load (hgd : o.guard = none) (ty : TypeId) (x : Operand) (ho : o.op = .load ty x) (ad : Addr) (v : Value) (hx : a.eval x = .pointer (some ad)) (hl : (loadVar ty ad).run P w = .ok v w) (h : wpList P ops Q rest (a.put o.dst v) w) : wpList P ops Q (o :: rest) a w :=
  wpList_plain hgd fun _ hK => by
    unfold Oper.wp execOp
    simp only [ho, hx, Instr.loadAt, Instr.sureAddr, Sem.run_bind, Sem.run_pure, Result.andThen_ok, hl]
    exact hK _ _ h
end
/-- a record -/
structure On where
  g : Int
  t : Nat
  F : Nat → Int
def onA (o : On) : Array Value := #[.int .i64 o.g, .int .i64 (o.t : Int)] ++ ra o.F
theorem on_size (o : On) : (onA o).size = 258 := by simp [onA, ra_size]
theorem on_0 (o : On) : (onA o)[0]? = some (.int .i64 o.g) := by unfold onA; rw [Array.getElem?_append_left (by simp)]; rfl
theorem on_1 (o : On) : (onA o)[1]? = some (.int .i64 (o.t : Int)) := by unfold onA; rw [Array.getElem?_append_left (by simp)]; rfl
theorem on_2 (o : On) (k : Nat) (h : k < 256) : (onA o)[2 + k]? = some (.int .i64 (o.F k)) := by
  unfold onA
  rw [Array.getElem?_append_right (by simp), show 2 + k - #[Value.int .i64 o.g, Value.int .i64 (o.t : Int)].size = k by simp]
  exact ra_at o.F k h
theorem on_one (o : On) : ∀ v ∈ (onA o).toList, v.oneCell' = true := by
  intro v hv
  unfold onA at hv
  rw [Array.toList_append, List.mem_append] at hv
  rcases hv with hv | hv
  · simp at hv
    rcases hv with rfl | rfl <;> rfl
  · exact (Array.all_eq_true_iff_forall_mem.1 (ra_one o.F)) v (by simpa using hv)
def ons (l : List On) : List Value := l.flatMap fun o => (onA o).toList
theorem on_len (o : On) : (onA o).toList.length = 258 := by rw [Array.length_toList]; exact on_size o
theorem ons_len : ∀ l : List On, (ons l).length = l.length * 258
  | [] => rfl
  | o :: l => by
    show ((onA o).toList ++ ons l).length = _
    rw [List.length_append, on_len, ons_len l, List.length_cons]
    omega
theorem ons_app (a b : List On) : ons (a ++ b) = ons a ++ ons b := by simp [ons]
theorem ons_one (o : On) : ons [o] = (onA o).toList := by simp [ons]
theorem ons_cells (l : List On) : ∀ u ∈ ons l, u.oneCell' = true := by
  intro u hu
  obtain ⟨o, -, h⟩ := List.mem_flatMap.1 hu
  exact on_one o u h
theorem ons_at : ∀ (l : List On) (k : Nat) (o : On) (j : Nat), l[k]? = some o → j < 258 → (ons l)[k * 258 + j]? = (onA o)[j]?
  | [], k, o, j, h, _ => by simp at h
  | x :: l, 0, o, j, h, hj => by
    cases h
    show ((onA x).toList ++ ons l)[0 * 258 + j]? = _
    rw [Nat.zero_mul, Nat.zero_add, List.getElem?_append_left (by rw [on_len]; exact hj), Array.getElem?_toList]
  | x :: l, k + 1, o, j, h, hj => by
    show ((onA x).toList ++ ons l)[(k + 1) * 258 + j]? = _
    rw [List.getElem?_append_right (by rw [on_len]; omega), on_len, show (k + 1) * 258 + j - 258 = k * 258 + j by omega]
    exact ons_at l k o j (by simpa using h) hj
def on0 : On := ⟨0, 0, nf⟩
set_option maxRecDepth 100000 in
theorem info_on : (Try.prog.info? 62).map (fun i => (i.zero, i.size, i.bytes)) = some (some (.agg (onA on0)), 258, 2064) := by kernel_rfl
theorem info_on2 : (Try.prog.info? 62).map (fun i => (i.zero, i.size)) = some (some (.agg (onA on0)), 258) := by
  have := info_on
  cases hi : Try.prog.info? 62 with
  | none => rw [hi] at this; cases this
  | some i =>
    rw [hi] at this
    simp only [Option.map_some, Option.some.injEq, Prod.mk.injEq] at this ⊢
    exact ⟨this.1, this.2.1⟩
theorem zero_on : ∀ w, (zeroValue 62).run Try.prog w = .ok (.agg (onA on0)) w := (zero_of_info info_on2).1
theorem size_on : (Try.prog.info? 62).map (·.size) = some 258 := (zero_of_info info_on2).2
/-- a record lies at a place -/
def RO (w : World) (b off : Nat) (o : On) : Prop := (∀ j, j < 258 → w.cell? ⟨b, off + j, none⟩ = (onA o)[j]?) ∧ ∀ j, w.frozen? ⟨b, j, none⟩ = false
theorem RO.g {w : World} {b off : Nat} {o : On} (h : RO w b off o) : w.cell? ⟨b, off, none⟩ = some (.int .i64 o.g) := (h.1 0 (by decide)).trans (on_0 o)
theorem RO.t {w : World} {b off : Nat} {o : On} (h : RO w b off o) : w.cell? ⟨b, off + 1, none⟩ = some (.int .i64 (o.t : Int)) := (h.1 1 (by decide)).trans (on_1 o)
theorem RO.F {w : World} {b off : Nat} {o : On} (h : RO w b off o) : RA w b (off + 2) o.F := fun k hk => by
  have := (h.1 (2 + k) (by omega)).trans (on_2 o k hk)
  rw [← Nat.add_assoc] at this
  exact ⟨this, h.2 _⟩
theorem ld_on {w : World} {b off : Nat} {o : On} (h : RO w b off o) : (loadCellsFrom ⟨b, off, none⟩ 0 258 #[]).run Try.prog w = .ok (onA o) w := by
  have := run_loadCells_list (P := Try.prog) w ⟨b, off, none⟩ (onA o).toList (fun j v hv => by
    have hj : j < 258 := by
      have := (List.getElem?_eq_some_iff.1 hv).1
      rwa [on_len] at this
    rw [Addr.add_lit, h.1 j hj]
    rw [Array.getElem?_toList] at hv
    exact hv)
  rw [on_len] at this
  simpa [loadCells] using this
theorem agg_on (w : World) : (isAgg 62).run Try.prog w = .ok true w := by
  unfold isAgg
  rw [Sem.run_bind, run_underlying Try.underlying62 w]
  rfl
theorem sz_on (w : World) : (sizeOf 62).run Try.prog w = .ok 258 w := by
  have := size_on
  cases hq : Try.prog.info? 62 with
  | none => rw [hq] at this; simp at this
  | some i =>
    rw [hq] at this
    simp at this
    simp [sizeOf, typeInfo, hq, this]
theorem ldv_on {w : World} {b off : Nat} {o : On} (h : RO w b off o) : (loadVar 62 ⟨b, off, none⟩).run Try.prog w = .ok (.agg (onA o)) w := by
  unfold loadVar
  simp only [Sem.run_bind, agg_on, sz_on, Result.andThen_ok, if_true, loadCells, ld_on h, Sem.run_pure]
theorem st_on {w : World} {b : Nat} {old : Array Value} {t : TypeId} (o : On) (h : w.heap[b]? = some (.cells old t (0, 0))) (ho : old.size = 258) : (storeCells ⟨b, 0, none⟩ (onA o).toList).run Try.prog w = .ok () (w.setRow b (onA o)) := by
  have := run_storeCells_from (P := Try.prog) b t (onA o).toList 0 old w h (by simp [on_size, ho]) (on_one o)
  simpa using this
/-- the reference's watch -/
structure Qst where
  T : Nat
  M : Nat
  L : List On
structure QX (w : World) (G : Nat) (st : Qst) (v : Value) : Prop where
  hp : w.heap[G]? = some (.cells #[.int .i64 (st.T : Int), .int .i64 (st.M : Int), v] 39 (0, 0))
  ow : w.ownsRow 0 62 258 v st.L.length (ons st.L)
  ne : v.ownBlock ≠ some G
def QB (G : Nat) (v : Value) : Nat → Prop := fun k => k = G ∨ v.ownBlock = some k
theorem own_blk {w w' : World} {e : TypeId} {size : Nat} {v : Value} {n : Nat} {xs : List Value} (h : w.ownsRow 0 e size v n xs) (hb : ∀ g, v.ownBlock = some g → w'.heap[g]? = w.heap[g]?) : w'.ownsRow 0 e size v n xs := by
  refine ⟨h.1, ?_⟩
  rcases h.2 with q | ⟨g, cap, cr, e, h0, hg, q⟩
  · exact .inl q
  · exact .inr ⟨g, cap, cr, e, h0, (hb g (by rw [e]; rfl)).trans hg, q⟩
section
variable {w w' : World} {G : Nat} {st : Qst} {v : Value}
theorem QX.lt (s : QX w G st v) : G < w.heap.size := (Array.getElem?_eq_some_iff.1 s.hp).1
theorem QX.blk (s : QX w G st v) (hb : ∀ k, QB G v k → w'.heap[k]? = w.heap[k]?) : QX w' G st v := ⟨(hb G (.inl rfl)).trans s.hp, own_blk s.ow fun g e => hb g (.inr e), s.ne⟩
theorem QX.rlt (s : QX w G st v) : ∀ k, QB G v k → k < w.heap.size := by
  rintro k (rfl | e)
  · exact s.lt
  · exact (s.ow.lt k e).2
theorem QX.below (s : QX w G st v) (b : Below w.heap.size w w') : QX w' G st v := s.blk fun k q => b.block k (s.rlt k q)
theorem QX.cells (s : QX w G st v) : w.cell? ⟨G, 0, none⟩ = some (.int .i64 (st.T : Int)) ∧ w.cell? ⟨G, 1, none⟩ = some (.int .i64 (st.M : Int)) ∧ w.cell? ⟨G, 2, none⟩ = some v := ⟨cell_of s.hp 0, cell_of s.hp 1, cell_of s.hp 2⟩
theorem own_sl {e : TypeId} {size : Nat} {n : Nat} {xs : List Value} (h : w.ownsRow 0 e size v n xs) : ∃ oa c, v = .slice oa n c := by
  rcases h.2 with ⟨rfl, rfl⟩ | ⟨g, cap, cr, rfl, -⟩
  · exact ⟨none, 0, rfl⟩
  · exact ⟨_, _, rfl⟩
theorem own_cap {e : TypeId} {size : Nat} {n c : Nat} {oa : Option Addr} {xs : List Value} (h : w.ownsRow 0 e size (.slice oa n c) n xs) : n ≤ c := by
  rcases h.2 with ⟨q, e⟩ | ⟨g, cap, cr, q, -, -, q2, -⟩
  · omega
  · cases q; exact q2
theorem row_ro {oa : Option Addr} {n c k : Nat} {l : List On} {o : On} (h : w.ownsRow 0 62 258 (.slice oa n c) l.length (ons l)) (hk : l[k]? = some o) : ∃ g, oa = some ⟨g, 0, none⟩ ∧ RO w g (k * 258) o := by
  have hl : k < l.length := (List.getElem?_eq_some_iff.1 hk).1
  rcases h.2 with ⟨-, q⟩ | ⟨g, cap, cur, q, -, hg, -⟩
  · omega
  · cases q
    refine ⟨g, rfl, fun j hj => ?_, fun j => frozen_of hg j⟩
    rw [h.cellAt (k * 258 + j) (by omega)]
    exact ons_at l k o j hk hj
end
/-- where a goroutine stands -/
def at_ (l : List On) (g : Int) : Int := match l.findIdx? fun o => o.g == g with
  | some i => (i : Int)
  | none => -1
theorem at_none {l : List On} {g : Int} (h : ∀ (k : Nat) (o : On), l[k]? = some o → (o.g == g) = false) : at_ l g = -1 := by
  have : l.findIdx? (fun o => o.g == g) = none := by
    rw [List.findIdx?_eq_none_iff]
    intro o ho
    obtain ⟨k, hk⟩ := List.getElem?_of_mem ho
    exact h k o hk
  simp [at_, this]
theorem at_some {l : List On} {g : Int} {k : Nat} {o : On} (hk : l[k]? = some o) (ho : (o.g == g) = true) (h : ∀ (j : Nat) (x : On), j < k → l[j]? = some x → (x.g == g) = false) : at_ l g = (k : Int) := by
  obtain ⟨hl, e⟩ := List.getElem?_eq_some_iff.1 hk
  have : l.findIdx? (fun o => o.g == g) = some k := by
    rw [List.findIdx?_eq_some_iff_getElem]
    refine ⟨hl, by rw [e]; exact ho, fun j hj => ?_⟩
    have := h j l[j] hj (List.getElem?_eq_getElem (by omega))
    simp [this]
  simp [at_, this]
theorem at_inv {l : List On} {g : Int} : (at_ l g = -1 ∧ ∀ o ∈ l, o.g ≠ g) ∨ ∃ (k : Nat) (o : On), at_ l g = (k : Int) ∧ l[k]? = some o ∧ o.g = g ∧ k < l.length := by
  unfold at_
  cases h : l.findIdx? fun o => o.g == g with
  | none =>
    refine .inl ⟨rfl, fun o ho e => ?_⟩
    have := List.findIdx?_eq_none_iff.1 h o ho
    rw [e] at this
    simp at this
  | some k =>
    obtain ⟨hl, hp, -⟩ := List.findIdx?_eq_some_iff_getElem.1 h
    exact .inr ⟨k, l[k], rfl, List.getElem?_eq_getElem hl, by simpa using hp, hl⟩
set_option maxRecDepth 100000 in
set_option maxHeartbeats 1600000 in
theorem at_any {w : World} {G : Nat} {st : Qst} {v : Value} (s : QX w G st v) (g : Int) (hl : st.L.length ≤ 100000) :
    Calls Try.prog 14 #[.pointer (some ⟨G, 0, none⟩), .int .i64 g] w fun r w' => r = .returned (.int .i64 (at_ st.L g)) ∧ Below w.heap.size w w' := by
  obtain ⟨oa, c, rfl⟩ := own_sl s.ow
  obtain ⟨-, -, y2⟩ := s.cells
  have hlt := s.lt
  have OW := hide s.ow
  have zo := zero_on
  have zs := on_size on0
  obtain ⟨n, hn⟩ : ∃ n, st.L.length = n := ⟨_, rfl⟩
  rw [hn] at y2 hl OW
  have HN := hide hn
  have hn2 : n ≤ 9223372036854775807 := by omega
  clear s hn
  go_enter Try.func14, Try.ntmps14
  go_wp2_with fail
  go_loopw [12] (fun i wr => ∃ k : Nat, k ≤ n ∧ i = .int .i64 (k : Int) ∧ Hid (∀ (j : Nat) (x : On), j < k → st.L[j]? = some x → (x.g == g) = false) ∧ Below w.heap.size w wr) (fun i _ => n - (intOf i).toNat)
  case atStart => exact ⟨0, Nat.zero_le _, rfl, fun j x h => absurd h (Nat.not_lt_zero _), Below.refl _ _⟩
  case round =>
    obtain ⟨k, hk, rfl, NO, bl⟩ := hrel
    have BL := hide bl
    clear bl y2
    by_cases hlt2 : k < n
    · have hlt' : (k : Int) < (n : Int) := by omega
      obtain ⟨o, ho⟩ : ∃ o, st.L[k]? = some o := ⟨_, List.getElem?_eq_getElem (by have := HN.out; omega)⟩
      have OW2 := own_blk OW.out (fun g e => BL.out.block g (OW.out.lt g e).2)
      rw [← HN.out] at OW2
      obtain ⟨b, rfl, ro⟩ := row_ro OW2 ho
      have LD := hide (ldv_on ro)
      have st1 := st_on o (heap_new wr (.cells (onA on0) 62)) (on_size on0)
      rw [setRow_new] at st1
      have g0 : (wr.alloc (.cells (onA o) 62)).cell? ⟨wr.heap.size, 0, none⟩ = some (.int .i64 o.g) := (cell_of (heap_new wr _) 0).trans (on_0 o)
      have os_ := on_size o
      have HO := hide ho
      clear OW2 ro ho
      obtain ⟨A, hA⟩ : ∃ A, onA o = A := ⟨_, rfl⟩
      obtain ⟨Z, hZ⟩ : ∃ Z, onA on0 = Z := ⟨_, rfl⟩
      rw [hA] at LD st1 g0 os_
      rw [hZ] at st1 zo zs
      have B2 := hide (btr BL.out (below_alloc wr (.cells A 62)))
      clear hA hZ
      cases hq : (o.g == g)
      · have hne : o.g ≠ g := by simpa using hq
        have N2 : Hid (∀ (j : Nat) (x : On), j < k + 1 → st.L[j]? = some x → (x.g == g) = false) := fun j x hj hx => by
          by_cases e : j = k
          · subst e; rw [HO.out] at hx; cases hx; exact hq
          · exact NO.out j x (by omega) hx
        go_wp2_with (refine wpL_load rfl 62 _ rfl _ _ rfl LD.out ?_)
        go_roundw
        case rel => exact ⟨k + 1, by omega, by go_num, N2.out, B2.out⟩
        case measure => simp [intOf]; omega
      · have he : o.g = g := by simpa using hq
        have EN := hide (at_some HO.out hq NO.out)
        subst he
        go_wp2_with (refine wpL_load rfl 62 _ rfl _ _ rfl LD.out ?_)
        go_ret
        exact ⟨by rw [EN.out]; rfl, B2.out⟩
    · have hlt' : ¬ ((k : Int) < (n : Int)) := by omega
      have EN := hide (at_none (l := st.L) (g := g) fun j x hx => NO.out j x (by have := (List.getElem?_eq_some_iff.1 hx).1; have := HN.out; omega) hx)
      go_wp2_with fail
      go_ret
      exact ⟨by rw [EN.out]; rfl, BL.out⟩
end Wq
end Go.Proofs.Ytfimfgffbfjkeaa
