/- The gauge's reader in memory: a channel's values in a row that may begin anywhere; the map of channels. -/
import Derived.Test.YtakbbhngcdccpaaGreatZkSn1
import Derived.Maps.RangeWalk
import Derived.Maps.Views
import Derived.Deep.WholeRow
namespace Go.Proofs.YtakbbhngcdccpaaGreat
open Go.ChangeShapes Go.WideShapes Go.ChangeAt Go.RowKit
namespace Gu
open En Ba
open Go.Maps (Keyed int_keyed keyOf_int_mk)

/-- a channel as it lies in the map -/
structure Sv where
  nil : Bool
  b : Nat
  o : Nat
  n : Nat
  c : Nat
  cap : Int
  cl : Bool
def svs (x : Sv) : Value := if x.nil = true then .slice none 0 0 else .slice (some ⟨x.b, x.o, none⟩) x.n x.c
def chV (x : Sv) : Value := .agg #[.int .i64 x.cap, svs x, .bool x.cl]
def chD (x : Sv) : DataW Unit := .agg [.lit (.int .i64 x.cap), .lit (.bool x.nil), .lit (.int .i64 (x.b : Int)), .lit (.int .i64 (x.o : Int)), .lit (.int .i64 (x.n : Int)), .lit (.int .i64 (x.c : Int)), .lit (.bool x.cl)]
def sv0 : Sv := ⟨true, 0, 0, 0, 0, 0, false⟩
def mE : Value → Option (DataW Unit × List MemPlace)
  | .agg a => match a.toList with
    | [.int .i64 cap, .slice none 0 0, .bool cl] => some (chD ⟨true, 0, 0, 0, 0, cap, cl⟩, [])
    | [.int .i64 cap, .slice (some ⟨b, o, none⟩) n c, .bool cl] => some (chD ⟨false, b, o, n, c, cap, cl⟩, [])
    | _ => none
  | _ => none
/-- a nil slice has no place -/
def Sn (x : Sv) : Prop := x.nil = true → x.b = 0 ∧ x.o = 0 ∧ x.n = 0 ∧ x.c = 0
theorem mE_v {x : Sv} (h : Sn x) : mE (chV x) = some (chD x, []) := by
  obtain ⟨nl, b, o, n, c, cap, cl⟩ := x
  cases nl
  · rfl
  · obtain ⟨rfl, rfl, rfl, rfl⟩ := h rfl
    rfl
theorem chD_inj {x y : Sv} (h : chD x = chD y) : x = y := by
  obtain ⟨nl, b, o, n, c, cap, cl⟩ := x
  obtain ⟨nl', b', o', n', c', cap', cl'⟩ := y
  unfold chD at h
  simp at h
  obtain ⟨h1, h2, h3, h4, h5, h6, h7⟩ := h
  simp only [Sv.mk.injEq]
  exact ⟨h2, by omega, by omega, by omega, by omega, h1, h7⟩
theorem mE_inv {v : Value} {x : Sv} {ps : List MemPlace} (h : mE v = some (chD x, ps)) : v = chV x ∧ Sn x := by
  unfold mE at h
  split at h
  · rename_i a
    split at h
    · rename_i cap cl he
      simp only [Option.some.injEq, Prod.mk.injEq] at h
      have := chD_inj h.1
      subst this
      refine ⟨?_, fun _ => ⟨rfl, rfl, rfl, rfl⟩⟩
      unfold chV svs
      congr 1
      exact Array.ext' (by rw [he]; rfl)
    · rename_i cap b o n c cl he
      simp only [Option.some.injEq, Prod.mk.injEq] at h
      have := chD_inj h.1
      subst this
      refine ⟨?_, fun h => by cases h⟩
      unfold chV svs
      congr 1
      exact Array.ext' (by rw [he]; rfl)
    · cases h
  · cases h
theorem law : Keyed Tryz.prog 3 := int_keyed Tryz.underlying3
theorem info_ch : (Tryz.prog.info? 116).map (fun i => (i.zero, i.size)) = some (some (chV sv0), 3) := by kernel_rfl
theorem zero_ch (w : World) : (zeroValue 116).run Tryz.prog w = .ok (chV sv0) w := (zero_of_info info_ch).1 w
theorem mE_z : mE (chV sv0) = some (chD sv0, []) := rfl
def kl (g : Int) : Lit := .int .i64 g
theorem kl_inj {a b : Int} (h : kl a = kl b) : a = b := by cases h; rfl
theorem key_kl {g : Int} (h : -1 ≤ g ∧ g ≤ 100000) : keyOf Tryz.prog 3 (.int .i64 g) = some (kl g) := keyOf_int_mk Tryz.underlying3 (by simp [Lit.wf, IntKind.min, IntKind.max, IntKind.signed, IntKind.bits]; omega)
theorem lit_key {g : Int} (h : -1 ≤ g ∧ g ≤ 100000) : WideAt.IsKeyLit (kl g) := law.key (key_kl h)
/-- the map reads as the channels -/
structure MI (D : DataW Unit) (cs : List Sv) : Prop where
  tidy : Maps.Tidy D
  has : ∀ g, Maps.has D (kl g) = decide (0 ≤ g ∧ g < cs.length)
  at_ : ∀ (i : Nat) x z, cs[i]? = some x → D.atKey (kl (i : Int)) z = chD x
  sz : Maps.size D = cs.length
theorem MI.no {D : DataW Unit} {cs : List Sv} (h : MI D cs) {g : Int} (e : ¬ (0 ≤ g ∧ g < cs.length)) (z : DataW Unit) : D.atKey (kl g) z = z := Maps.atKey_of_not_has (by rw [h.has]; exact decide_eq_false e) z
theorem MI.nil : MI (.map []) [] := ⟨Maps.tidy_empty, fun g => by
  rw [decide_eq_false (by simp)]; rfl, fun i x z h => by simp at h, rfl⟩
theorem MI.put {D : DataW Unit} {cs : List Sv} (h : MI D cs) {i : Nat} (hi : i ≤ cs.length) (hb : i ≤ 100000) (x : Sv) : MI (D.put (kl (i : Int)) (chD x)) (if i < cs.length then cs.set i x else cs ++ [x]) := by
  have hk : -1 ≤ (i : Int) ∧ (i : Int) ≤ 100000 := by omega
  have hl : (if i < cs.length then cs.set i x else cs ++ [x]).length = if i < cs.length then cs.length else cs.length + 1 := by split <;> simp
  refine ⟨h.tidy.put (lit_key hk) _, fun g => ?_, fun j y z e => ?_, ?_⟩
  · rw [hl]
    by_cases q : g = (i : Int)
    · subst q
      rw [Maps.has_put_same h.tidy.isMap (lit_key hk)]
      symm; apply decide_eq_true
      split <;> omega
    · rw [Maps.has_put_other (fun e => q (kl_inj e)), h.has, decide_eq_decide]
      split <;> omega
  · by_cases q : j = i
    · subst q
      rw [Maps.atKey_put_same h.tidy.isMap (lit_key hk)]
      congr 1
      split at e
      · rw [List.getElem?_set_self (by assumption)] at e; cases e; rfl
      · have : j = cs.length := by omega
        subst this
        simp at e; exact e
    · rw [Maps.atKey_put_other (fun e => q (by have := kl_inj e; omega))]
      refine h.at_ j y z ?_
      split at e
      · rwa [List.getElem?_set_ne (Ne.symm q)] at e
      · rwa [List.getElem?_append_left (by have := (List.getElem?_eq_some_iff.1 e).1; simp at this; omega)] at e
  · rw [hl, Maps.size_put h.tidy, h.has, h.sz]
    by_cases q : i < cs.length
    · rw [decide_eq_true (by omega), if_pos q]; rfl
    · rw [decide_eq_false (by omega), if_neg q]; rfl
/-- a channel's values in memory -/
structure VR (w : World) (N : Nat) (x : Sv) (L : List Int) : Prop where
  sn : Sn x
  len : x.n = L.length
  row : x.nil = false → N ≤ x.b ∧ ∃ cur, w.heap[x.b]? = some (.cells cur 3 (0, 0)) ∧ x.o + x.c ≤ cur.size ∧ x.n ≤ x.c ∧ x.c ≤ maxLen ∧ ∀ i v, L[i]? = some v → cur[x.o + i]? = some (.int .i64 v)
theorem VR.keep {w w' : World} {N : Nat} {x : Sv} {L : List Int} (h : VR w N x L) (hk : x.nil = false → w'.heap[x.b]? = w.heap[x.b]?) : VR w' N x L := by
  refine ⟨h.sn, h.len, fun hn => ?_⟩
  obtain ⟨h1, cur, h2, h3⟩ := h.row hn
  exact ⟨h1, cur, (hk hn).trans h2, h3⟩
theorem VR.zero (w : World) (N : Nat) (cap : Int) (cl : Bool) : VR w N ⟨true, 0, 0, 0, 0, cap, cl⟩ [] := ⟨fun _ => ⟨rfl, rfl, rfl, rfl⟩, rfl, fun h => by cases h⟩
theorem VR.nil_of {w : World} {N : Nat} {x : Sv} {L : List Int} (h : VR w N x L) (hn : x.nil = true) : L = [] := by
  have := h.sn hn
  have hl := h.len
  rw [this.2.2.1] at hl
  exact List.length_eq_zero_iff.1 hl.symm
/-- the same values, the first taken off -/
def tl (x : Sv) : Sv := ⟨x.nil, x.b, if x.c = 1 then x.o else x.o + 1, x.n - 1, x.c - 1, x.cap, x.cl⟩
theorem VR.tail {w : World} {N : Nat} {x : Sv} {y : Int} {r : List Int} (h : VR w N x (y :: r)) : x.nil = false ∧ VR w N (tl x) r := by
  have hn : x.nil = false := by
    cases hq : x.nil
    · rfl
    · have := h.nil_of hq; cases this
  refine ⟨hn, ⟨(fun q => by unfold tl at q; simp only at q; rw [hn] at q; cases q), (by have := h.len; unfold tl; simp at this ⊢; omega), fun _ => ?_⟩⟩
  obtain ⟨h1, cur, h2, h3, h4, h5, h6⟩ := h.row hn
  have hl := h.len
  simp at hl
  unfold tl
  refine ⟨h1, cur, h2, ?_, by simp only; omega, by simp only; omega, fun i v hv => ?_⟩
  · simp only
    split <;> omega
  · have hil : i < r.length := (List.getElem?_eq_some_iff.1 hv).1
    have := h6 (i + 1) v (by simpa using hv)
    simp only
    rw [if_neg (by omega), Nat.add_assoc, Nat.add_comm 1 i]
    exact this
set_option maxHeartbeats 1600000 in
theorem run_room {w : World} {g o n c : Nat} {cur : Array Value} (hg : w.heap[g]? = some (.cells cur 3 (0, 0))) (hn : n + 1 ≤ c) (hs : o + c ≤ cur.size) (ad : Addr) (m : Nat) (y : Int) (hy : w.cell? (ad.add 0) = some (.int .i64 y)) :
    (Builtin.append_ #[27, 27] 27 #[.slice (some ⟨g, o, none⟩) n c, .slice (some ad) 1 m]).run Tryz.prog w = .ok (.slice (some ⟨g, o, none⟩) (n + 1) c) (w.setCell ⟨g, o + n, none⟩ (.int .i64 y)) := by
  obtain ⟨i0, hi, hz0, hz1, hz2⟩ := info_parts info_int
  have hc : ∃ v, w.cell? ⟨g, o + n, none⟩ = some v := ⟨_, (cell_of hg (o + n)).trans (Array.getElem?_eq_getElem (by omega))⟩
  obtain ⟨v, hc⟩ := hc
  have hf := frozen_of hg (o + n)
  have hst : (store ⟨g, o + n, none⟩ (.int .i64 y)).run Tryz.prog w = .ok () (w.setCell ⟨g, o + n, none⟩ (.int .i64 y)) := by rw [run_store _ _ _ _ _ rfl, hc, hf]; rfl
  simp [Builtin.append_, run_underlying Tryz.underlying27, sizeOf, typeInfo, hi, hz1, Builtin.lenOf, Builtin.firstCells, loadCells, loadCellsFrom, storeCells, hy, hn, Addr.add_lit, hst]
end Gu
end Go.Proofs.YtakbbhngcdccpaaGreat
