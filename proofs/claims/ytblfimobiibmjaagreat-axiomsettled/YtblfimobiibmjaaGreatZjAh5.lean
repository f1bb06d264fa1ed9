import Derived.Test.YtblfimobiibmjaaGreatZjAh4
import Derived.Maps.RangeWalk
import Derived.Maps.Views
import Derived.Deep.WholeRow
namespace Go.Proofs.YtblfimobiibmjaaGreat
open Go.ChangeShapes Go.WideShapes Go.ChangeAt Go.RowKit
namespace Gu
open En Ba
open Go.Maps (Keyed int_keyed keyOf_int_mk)
structure Sv where
 nil : Bool
 b : Nat
 o : Nat
 n : Nat
 c : Nat
 cap : Int
 cl : Bool
def svs (x : Sv) : Value := if x.nil = true then .slice none 0 0 else .slice (some ⟨x.b, x.o, none⟩) x.n x.c
def chV (x : Sv) : Value := .agg #[.int .i64 x.cap, svs x, .bool x.cl]
def chD (x : Sv) : DataW Unit := .agg [.lit (.int .i64 x.cap), .lit (.bool x.nil), .lit (.int .i64 (x.b : Int)), .lit (.int .i64 (x.o : Int)), .lit (.int .i64 (x.n : Int)), .lit (.int .i64 (x.c : Int)), .lit (.bool x.cl)]
def sv0 : Sv := ⟨true, 0, 0, 0, 0, 0, false⟩
def mE : Value → Option (DataW Unit × List MemPlace)
 | .agg a => match a.toList with
   | [.int .i64 cap, .slice none 0 0, .bool cl] => some (chD ⟨true, 0, 0, 0, 0, cap, cl⟩, [])
   | [.int .i64 cap, .slice (some ⟨b, o, none⟩) n c, .bool cl] => some (chD ⟨false, b, o, n, c, cap, cl⟩, [])
   | _ => none
 | _ => none
def Sn (x : Sv) : Prop := x.nil = true → x.b = 0 ∧ x.o = 0 ∧ x.n = 0 ∧ x.c = 0
theorem mE_v {x : Sv} (h : Sn x) : mE (chV x) = some (chD x, []) := by
 obtain ⟨nl, b, o, n, c, cap, cl⟩ := x
 cases nl
 ·rfl
 ·obtain ⟨rfl, rfl, rfl, rfl⟩ := h rfl
  rfl
theorem chD_inj {x y : Sv} (h : chD x = chD y) : x = y := by
 obtain ⟨nl, b, o, n, c, cap, cl⟩ := x
 obtain ⟨nl', b', o', n', c', cap', cl'⟩ := y
 unfold chD at h
 simp at h
 obtain ⟨h1, h2, h3, h4, h5, h6, h7⟩ := h
 simp only [Sv.mk.injEq]
 exact ⟨h2, by omega, by omega, by omega, by omega, h1, h7⟩
theorem mE_inv {v : Value} {x : Sv} {ps : List MemPlace} (h : mE v = some (chD x, ps)) : v = chV x ∧ Sn x := by
 unfold mE at h
 split at h
 ·rename_i a
  split at h
  ·rename_i cap cl he
   simp only [Option.some.injEq, Prod.mk.injEq] at h
   have := chD_inj h.1
   subst this
   refine ⟨?_, fun _ => ⟨rfl, rfl, rfl, rfl⟩⟩
   unfold chV svs
   congr 1
   exact Array.ext' (by rw [he]; rfl)
  ·rename_i cap b o n c cl he
   simp only [Option.some.injEq, Prod.mk.injEq] at h
   have := chD_inj h.1
   subst this
   refine ⟨?_, fun h => by cases h⟩
   unfold chV svs
   congr 1
   exact Array.ext' (by rw [he]; rfl)
  ·cases h
 ·cases h
theorem law : Keyed Tryz.prog 3 := int_keyed Tryz.underlying3
theorem info_ch : (Tryz.prog.info? 223).map (fun i => (i.zero, i.size)) = some (some (chV sv0), 3) := by kernel_rfl
theorem zero_ch (w : World) : (zeroValue 223).run Tryz.prog w = .ok (chV sv0) w := (zero_of_info info_ch).1 w
theorem mE_z : mE (chV sv0) = some (chD sv0, []) := rfl
def kl (g : Int) : Lit := .int .i64 g
theorem kl_inj {a b : Int} (h : kl a = kl b) : a = b := by cases h; rfl
theorem key_kl {g : Int} (h : -1 ≤ g ∧ g ≤ 100000) : keyOf Tryz.prog 3 (.int .i64 g) = some (kl g) := keyOf_int_mk Tryz.underlying3 (by simp [Lit.wf, IntKind.min, IntKind.max, IntKind.signed, IntKind.bits]; omega)
theorem lit_key {g : Int} (h : -1 ≤ g ∧ g ≤ 100000) : WideAt.IsKeyLit (kl g) := law.key (key_kl h)
structure MI (D : DataW Unit) (cs : List Sv) : Prop where
 tidy : Maps.Tidy D
 has : ∀ g, Maps.has D (kl g) = decide (0 ≤ g ∧ g < cs.length)
 at_ : ∀ (i : Nat) x z, cs[i]? = some x → D.atKey (kl (i : Int)) z = chD x
 sz : Maps.size D = cs.length
theorem MI.no {D : DataW Unit} {cs : List Sv} (h : MI D cs) {g : Int} (e : ¬ (0 ≤ g ∧ g < cs.length)) (z : DataW Unit) : D.atKey (kl g) z = z := Maps.atKey_of_not_has (by rw [h.has]; exact decide_eq_false e) z
theorem MI.nil : MI (.map []) [] := ⟨Maps.tidy_empty, fun g => by
 rw [decide_eq_false (by simp)]; rfl, fun i x z h => by simp at h, rfl⟩
theorem MI.put {D : DataW Unit} {cs : List Sv} (h : MI D cs) {i : Nat} (hi : i ≤ cs.length) (hb : i ≤ 100000) (x : Sv) : MI (D.put (kl (i : Int)) (chD x)) (if i < cs.length then cs.set i x else cs ++ [x]) := by
 have hk : -1 ≤ (i : Int) ∧ (i : Int) ≤ 100000 := by omega
 have hl : (if i < cs.length then cs.set i x else cs ++ [x]).length = if i < cs.length then cs.length else cs.length + 1 := by split <;> simp
 refine ⟨h.tidy.put (lit_key hk) _, fun g => ?_, fun j y z e => ?_, ?_⟩
 ·rw [hl]
  by_cases q : g = (i : Int)
  ·subst q
   rw [Maps.has_put_same h.tidy.isMap (lit_key hk)]
   symm; apply decide_eq_true
   split <;> omega
  ·rw [Maps.has_put_other (fun e => q (kl_inj e)), h.has, decide_eq_decide]
   split <;> omega
 ·by_cases q : j = i
  ·subst q
   rw [Maps.atKey_put_same h.tidy.isMap (lit_key hk)]
   congr 1
   split at e
   ·rw [List.getElem?_set_self (by assumption)] at e; cases e; rfl
   ·have : j = cs.length := by omega
    subst this
    simp at e; exact e
  ·rw [Maps.atKey_put_other (fun e => q (by have := kl_inj e; omega))]
   refine h.at_ j y z ?_
   split at e
   ·rwa [List.getElem?_set_ne (Ne.symm q)] at e
   ·rwa [List.getElem?_append_left (by have := (List.getElem?_eq_some_iff.1 e).1; simp at this; omega)] at e
 ·rw [hl, Maps.size_put h.tidy, h.has, h.sz]
  by_cases q : i < cs.length
  ·rw [decide_eq_true (by omega), if_pos q]; rfl
  ·rw [decide_eq_false (by omega), if_neg q]; rfl
structure VR (w : World) (N : Nat) (x : Sv) (L : List Int) : Prop where
 sn : Sn x
 len : x.n = L.length
 row : x.nil = false → N ≤ x.b ∧ ∃ cur, w.heap[x.b]? = some (.cells cur 3 (0, 0)) ∧ x.o + x.c ≤ cur.size ∧ x.n ≤ x.c ∧ x.c ≤ maxLen ∧ ∀ i v, L[i]? = some v → cur[x.o + i]? = some (.int .i64 v)
theorem VR.keep {w w' : World} {N : Nat} {x : Sv} {L : List Int} (h : VR w N x L) (hk : x.nil = false → w'.heap[x.b]? = w.heap[x.b]?) : VR w' N x L := by
 refine ⟨h.sn, h.len, fun hn => ?_⟩
 obtain ⟨h1, cur, h2, h3⟩ := h.row hn
 exact ⟨h1, cur, (hk hn).trans h2, h3⟩
theorem VR.zero (w : World) (N : Nat) (cap : Int) (cl : Bool) : VR w N ⟨true, 0, 0, 0, 0, cap, cl⟩ [] := ⟨fun _ => ⟨rfl, rfl, rfl, rfl⟩, rfl, fun h => by cases h⟩
theorem VR.nil_of {w : World} {N : Nat} {x : Sv} {L : List Int} (h : VR w N x L) (hn : x.nil = true) : L = [] := by
 have := h.sn hn
 have hl := h.len
 rw [this.2.2.1] at hl
 exact List.length_eq_zero_iff.1 hl.symm
def tl (x : Sv) : Sv := ⟨x.nil, x.b, if x.c = 1 then x.o else x.o + 1, x.n - 1, x.c - 1, x.cap, x.cl⟩
theorem VR.tail {w : World} {N : Nat} {x : Sv} {y : Int} {r : List Int} (h : VR w N x (y :: r)) : x.nil = false ∧ VR w N (tl x) r := by
 have hn : x.nil = false := by
  cases hq : x.nil
  ·rfl
  ·have := h.nil_of hq; cases this
 refine ⟨hn, ⟨(fun q => by unfold tl at q; simp only at q; rw [hn] at q; cases q), (by have := h.len; unfold tl; simp at this ⊢; omega), fun _ => ?_⟩⟩
 obtain ⟨h1, cur, h2, h3, h4, h5, h6⟩ := h.row hn
 have hl := h.len
 simp at hl
 unfold tl
 refine ⟨h1, cur, h2, ?_, by simp only; omega, by simp only; omega, fun i v hv => ?_⟩
 ·simp only
  split <;> omega
 ·have hil : i < r.length := (List.getElem?_eq_some_iff.1 hv).1
  have := h6 (i + 1) v (by simpa using hv)
  simp only
  rw [if_neg (by omega), Nat.add_assoc, Nat.add_comm 1 i]
  exact this
set_option maxHeartbeats 1600000 in
theorem run_room {w : World} {g o n c : Nat} {cur : Array Value} (hg : w.heap[g]? = some (.cells cur 3 (0, 0))) (hn : n + 1 ≤ c) (hs : o + c ≤ cur.size) (ad : Addr) (m : Nat) (y : Int) (hy : w.cell? (ad.add 0) = some (.int .i64 y)) :
 (Builtin.append_ #[67, 67] 67 #[.slice (some ⟨g, o, none⟩) n c, .slice (some ad) 1 m]).run Tryz.prog w = .ok (.slice (some ⟨g, o, none⟩) (n + 1) c) (w.setCell ⟨g, o + n, none⟩ (.int .i64 y)) := by
 obtain ⟨i0, hi, hz0, hz1, hz2⟩ := info_parts info_int
 have hc : ∃ v, w.cell? ⟨g, o + n, none⟩ = some v := ⟨_, (cell_of hg (o + n)).trans (Array.getElem?_eq_getElem (by omega))⟩
 obtain ⟨v, hc⟩ := hc
 have hf := frozen_of hg (o + n)
 have hst : (store ⟨g, o + n, none⟩ (.int .i64 y)).run Tryz.prog w = .ok () (w.setCell ⟨g, o + n, none⟩ (.int .i64 y)) := by rw [run_store _ _ _ _ _ rfl, hc, hf]; rfl
 simp [Builtin.append_, run_underlying Tryz.underlying67, sizeOf, typeInfo, hi, hz1, Builtin.lenOf, Builtin.firstCells, loadCells, loadCellsFrom, storeCells, hy, hn, Addr.add_lit, hst]
end Gu
end Go.Proofs.YtblfimobiibmjaaGreat
namespace Go.Proofs.YtblfimobiibmjaaGreat
open Go.ChangeShapes Go.WideShapes Go.ChangeAt Go.RowKit
namespace Gu
open En Ba
theorem VR.app {w : World} {N : Nat} {x : Sv} {L : List Int} (h : VR w N x L) (hl : L.length ≤ 4000) (hN : N ≤ w.heap.size) (y : Int) :
 ∃ (x' : Sv) (w' : World), (Builtin.append_ #[67, 67] 67 #[svs x, .slice (some ⟨w.heap.size, 0, none⟩) 1 1]).run Tryz.prog (w.alloc (.cells #[.int .i64 y] 3)) = .ok (svs x') w' ∧ VR w' N x' (L ++ [y]) ∧ x'.nil = false ∧ x'.cap = x.cap ∧ x'.cl = x.cl ∧ (w.alloc (.cells #[.int .i64 y] 3)).grownBy w' (if x.nil = true then none else some x.b) ∧ ((x.nil = false ∧ x'.b = x.b) ∨ x'.b = w.heap.size + 1) ∧ VR w' N x L := by
 obtain ⟨i0, hi, hz0, hz1, hz2⟩ := info_parts info_int
 obtain ⟨nl, b, o, n, c, cap, cl⟩ := x
 have src := cell_one_new w (.int .i64 y) 3
 have hN1 : N ≤ (w.alloc (.cells #[.int .i64 y] 3)).heap.size := by rw [World.size_alloc]; omega
 cases nl
 ·obtain ⟨h1, cur, h2, h3, h4, h5, h6⟩ := h.row rfl
  have hn := h.len
  simp only at h1 h2 h3 h4 h5 h6 hn
  have h2' := heap_below h2 (below_alloc w (.cells #[.int .i64 y] 3))
  show ∃ (x' : Sv) (w' : World), (Builtin.append_ #[67, 67] 67 #[.slice (some ⟨b, o, none⟩) n c, .slice (some ⟨w.heap.size, 0, none⟩) 1 1]).run Tryz.prog (w.alloc (.cells #[.int .i64 y] 3)) = _ ∧ _
  by_cases hroom : n + 1 ≤ c
  ·have hr := run_room h2' hroom h3 ⟨w.heap.size, 0, none⟩ 1 y (src 0 _ rfl)
   refine ⟨⟨false, b, o, n + 1, c, cap, cl⟩, _, hr, ⟨(fun q => by cases q), (by simp [hn]), fun _ => ⟨h1, _, Ba.heap_setCell_same h2' _, by simpa using h3, hroom, h5, fun i v hv => ?_⟩⟩, rfl, rfl, rfl, ?_, .inl ⟨rfl, rfl⟩, ⟨(fun q => by cases q), hn, fun _ => ⟨h1, _, Ba.heap_setCell_same h2' _, by simpa using h3, h4, h5, fun i v hv => by
    show (cur.setIfInBounds (o + n) _)[o + i]? = _
    rw [Array.getElem?_setIfInBounds_ne (by have := (List.getElem?_eq_some_iff.1 hv).1; omega)]
    exact h6 i v hv⟩⟩⟩
   ·show (cur.setIfInBounds (o + n) _)[o + i]? = _
    by_cases hi' : i < L.length
    ·rw [List.getElem?_append_left hi'] at hv
     have := h6 i v hv
     rw [Array.getElem?_setIfInBounds_ne (by omega)]
     exact this
    ·have : i = L.length := by
      have := (List.getElem?_eq_some_iff.1 hv).1
      simp at this; omega
     subst this
     rw [List.getElem?_append_right (Nat.le_refl _), Nat.sub_self] at hv
     simp at hv
     subst hv
     rw [hn, Array.getElem?_setIfInBounds_self_of_lt (by omega)]
   ·refine ⟨rfl, rfl, rfl, by simp [World.setCell], fun k _ hk => ?_⟩
    exact Below.heap_setCell _ _ _ _ (by show k ≠ b; intro e; exact hk (by rw [e]; rfl))
  ·have hcn : c = n := by omega
   have holds : ∀ j u, (ic L)[j]? = some u → (w.alloc (.cells #[.int .i64 y] 3)).cell? ((⟨b, o, none⟩ : Addr).add j) = some u := by
    intro j u hj
    rw [Addr.add_lit, cell_of h2']
    unfold ic at hj
    rw [List.getElem?_map] at hj
    cases hq : L[j]? with
    | none => rw [hq] at hj; cases hj
    | some v => rw [hq] at hj; cases hj; exact h6 j v hq
   have hr := run_append_grow (P := Tryz.prog) (w.alloc (.cells #[.int .i64 y] 3)) 67 67 3 i0 (.int .i64 0) Tryz.underlying67 hi hz0 ⟨b, o, none⟩ n c (ic L) (by rw [ic_len, hz1, hn, Nat.mul_one]) holds ⟨w.heap.size, 0, none⟩ 1 1 [.int .i64 y] (by rw [hz1]; rfl) src (by omega) (by omega) (growslice_fits (by omega) (by rw [hz2]; omega))
   have hge := grownCap_ge (w.alloc (.cells #[.int .i64 y] 3)) (n + 1) c 3
   have hcm := grownCap_le_maxLen (w.alloc (.cells #[.int .i64 y] 3)) (n + 1) c 3 (by unfold maxLen; omega)
   refine ⟨⟨false, w.heap.size + 1, 0, n + 1, grownCap (w.alloc (.cells #[.int .i64 y] 3)) (n + 1) c 3, cap, cl⟩, (w.alloc (.cells #[.int .i64 y] 3)).drew.alloc (.cells ((ic L).toArray ++ [Value.int .i64 y].toArray ++ Builtin.zeroCells (Value.int .i64 0).cells (grownCap (w.alloc (.cells #[.int .i64 y] 3)) (n + 1) c 3 - (n + 1))) 3), hr.trans ?_, ⟨(fun q => by cases q), (by simp [hn]), fun _ => ⟨(by simp only; omega), (ic L).toArray ++ [Value.int .i64 y].toArray ++ Builtin.zeroCells (Value.int .i64 0).cells (grownCap (w.alloc (.cells #[.int .i64 y] 3)) (n + 1) c 3 - (n + 1)), ?_, ?_, hge, hcm, fun i v hv => ?_⟩⟩, rfl, rfl, rfl, ?_, .inr rfl, h.keep fun _ => (heap_below h2' (btr (bdrew1 _) (below_alloc _ _))).trans h2.symm⟩
   ·simp only [World.size_alloc]; rfl
   ·have := heap_alloc_new (w.alloc (.cells #[.int .i64 y] 3)).drew (.cells ((ic L).toArray ++ [Value.int .i64 y].toArray ++ Builtin.zeroCells (Value.int .i64 0).cells (grownCap (w.alloc (.cells #[.int .i64 y] 3)) (n + 1) c 3 - (n + 1))) 3)
    rw [show (w.alloc (.cells #[.int .i64 y] 3)).drew.heap.size = w.heap.size + 1 from World.size_alloc _ _] at this
    exact this
   ·simp only [Array.size_append, List.size_toArray, size_zeroCells, ic_len, List.length_singleton]
    show 0 + _ ≤ _ + 1 + _ * 1
    omega
   ·have e1 : (ic L).toArray ++ [Value.int .i64 y].toArray = (ic (L ++ [y])).toArray := by simp [ic]
    have hil : i < (L ++ [y]).length := (List.getElem?_eq_some_iff.1 hv).1
    simp only [Nat.zero_add]
    rw [e1, Array.getElem?_append_left (by simp [ic]; simpa using hil)]
    simp only [List.getElem?_toArray]
    unfold ic
    rw [List.getElem?_map, hv]
    rfl
   ·exact ⟨rfl, rfl, rfl, by simp, fun k hk _ => (below_alloc (w.alloc (.cells #[.int .i64 y] 3)).drew _).block k hk⟩
 ·obtain ⟨hb, ho, hn, hc⟩ := h.sn rfl
  simp only at hb ho hn hc
  subst hb ho hn hc
  have hL : L = [] := h.nil_of rfl
  subst hL
  obtain ⟨v', w', hr, ho, hg1, -, hat⟩ := run_append_own_at (P := Tryz.prog) (w.alloc (.cells #[.int .i64 y] 3)) N 67 67 3 i0 (.int .i64 0) 1 8 Tryz.underlying67 hi hz0 hz1 hz2 rfl (by decide) (.slice none 0 0) 0 [] (World.ownsRow_nil _ _ _ _) ⟨w.heap.size, 0, none⟩ 1 1 [.int .i64 y] rfl src (ic_one [y]) (by unfold maxLen; omega) (by omega) hN1
  rw [Nat.zero_add, List.nil_append] at ho
  rcases ho.2 with ⟨-, h⟩ | ⟨g, cp, cur, rfl, q1, q2, q3, q4, q5, q6⟩
  ·cases h
  ·refine ⟨⟨false, g, 0, 1, cp, cap, cl⟩, w', hr, ⟨(fun q => by cases q), rfl, fun _ => ⟨q1, cur, q2, by simp only; omega, q3, q4, fun i v hv => ?_⟩⟩, rfl, rfl, rfl, hg1, .inr ?_, h.keep fun q => by cases q⟩
   ·have hi0 : i = 0 := by have := (List.getElem?_eq_some_iff.1 hv).1; simp at this; exact this
    subst hi0
    simp at hv
    subst hv
    have e1 : ([Value.int .i64 y])[0]? = some (.int .i64 y) := rfl
    rw [← q6, List.getElem?_take, if_pos (by omega)] at e1
    simpa using e1
   ·rcases hat with q | q
    ·cases q
    ·simp only [Value.ownBlock, Option.some.injEq, World.size_alloc] at q
     exact q
structure GR (w : World) (N R mb : Nat) (ev vs : Value) (D : DataW Unit) (cs : List Sv) (s : Gs) : Prop where
 hN : N ≤ R ∧ N ≤ mb
 hR : w.heap[R]? = some (.cells #[ev, vs, .map (some mb), .bool s.pn, .int .i64 s.la.k, .int .i64 s.la.g, .int .i64 s.la.c, .int .i64 s.la.a, .int .i64 s.la.v, .int .i64 s.la.m, .bool s.la.s, .bool s.la.o] 173 (0, 0))
 st : w.ownsRow N 3 1 vs s.st.length (ic s.st)
 mp : w.ownsMap Tryz.prog 3 mE mb 100000 D
 mi : MI D cs
 len : cs.length = s.ch.length
 ch : ∀ (i : Nat) x c, cs[i]? = some x → s.ch[i]? = some c → VR w N x c.vs ∧ x.cap = c.cap ∧ x.cl = c.cl
 dj : ∀ (i j : Nat) x y, cs[i]? = some x → cs[j]? = some y → i ≠ j → x.nil = false → y.nil = false → x.b ≠ y.b
 dv : ∀ (i : Nat) x, cs[i]? = some x → x.nil = false → vs.ownBlock ≠ some x.b
def GW (w : World) (N R : Nat) (ev : Value) (s : Gs) : Prop := ∃ mb vs D cs, GR w N R mb ev vs D cs s
theorem mayDo_any (t k : Int) (w : World) :
 Calls Tryz.prog 158 #[.int .i64 t, .int .i64 k] w fun r w' => r = .returned (.bool (may t k)) ∧ w' = w := by
 unfold may
 by_cases h7 : k = 7
 ·have d7 : (k == 7) = true := by simp [h7]
  rw [if_pos h7]
  clear h7
  go_enter Tryz.func158, Tryz.ntmps158
  go_wp2_with fail
  go_ret
  exact ⟨ret_bool (by rw [Bool.eq_iff_iff]; simp), rfl⟩
 ·have d7 : (k == 7) = false := by simp [h7]
  rw [if_neg h7]
  by_cases h12 : k = 12
  ·have d12 : (k == 12) = true := by simp [h12]
   rw [if_pos h12]
   clear h7 h12
   go_enter Tryz.func158, Tryz.ntmps158
   go_wp2_with fail
   go_ret
   exact ⟨ret_bool (by rw [Bool.eq_iff_iff]; simp), rfl⟩
  ·have d12 : (k == 12) = false := by simp [h12]
   rw [if_neg h12]
   clear h7 h12
   go_enter Tryz.func158, Tryz.ntmps158
   go_wp2_with fail
   go_ret
   exact ⟨ret_bool (by rw [Bool.eq_iff_iff]; simp), rfl⟩
theorem owed_any {w : World} {N R : Nat} {ev : Value} {s : Gs} (h : GW w N R ev s) :
 Calls Tryz.prog 119 #[.pointer (some ⟨R, 0, none⟩)] w fun r w' => r = .returned (.bool (owed s.la)) ∧ w' = w := by
 obtain ⟨mb, vs, D, cs, h⟩ := h
 have c4 : w.cell? ⟨R, 4, none⟩ = some (.int .i64 s.la.k) := cell_of h.hR 4
 have c9 : w.cell? ⟨R, 9, none⟩ = some (.int .i64 s.la.m) := cell_of h.hR 9
 clear h
 unfold owed
 generalize s.la.k = k at *
 generalize s.la.m = m at *
 have e3 : decide (k = 3) = (k == 3) := by rw [Bool.eq_iff_iff]; simp
 have e4 : decide (k = 4) = (k == 4) := by rw [Bool.eq_iff_iff]; simp
 have em : decide (m ≠ -1) = (m != -1) := by rw [Bool.eq_iff_iff]; simp
 rw [e3, e4, em]
 clear e3 e4 em
 cases h3 : (k == 3)
 ·cases h4 : (k == 4)
  ·go_enter Tryz.func119, Tryz.ntmps119
   go_wp2_with fail
   go_ret
   exact ⟨rfl, rfl⟩
  ·go_enter Tryz.func119, Tryz.ntmps119
   go_wp2_with fail
   go_ret
   exact ⟨rfl, rfl⟩
 ·go_enter Tryz.func119, Tryz.ntmps119
  go_wp2_with fail
  go_ret
  exact ⟨rfl, rfl⟩
set_option maxHeartbeats 1600000 in
theorem pserves_any (s e : Ev) (w : World) :
 Calls Tryz.prog 159 #[evv s, evv e] w fun r w' => r = .returned (.bool (servP s e)) ∧ Below w.heap.size w w' := by
 have B2 := hide (btr (below_alloc w (.cells (evc s) 50)) (below_alloc _ (.cells (evc e) 50)))
 unfold evv evc at *
 unfold servP
 obtain ⟨k, g, c, a, v, m, z, o⟩ := s
 obtain ⟨k', g', c', a', v', m', z', o'⟩ := e
 simp only at B2 ⊢
 have key : ∀ b1 b2 b3 b4 : Bool, (k' != 7) = b1 → (g' != m) = b2 → (m' != g) = b3 → (c' != c) = b4 → Calls Tryz.prog 159 #[.agg #[.int .i64 k, .int .i64 g, .int .i64 c, .int .i64 a, .int .i64 v, .int .i64 m, .bool z, .bool o], .agg #[.int .i64 k', .int .i64 g', .int .i64 c', .int .i64 a', .int .i64 v', .int .i64 m', .bool z', .bool o']] w fun r w' => r = .returned (.bool (if (b1 || b2 || b3 || b4 || !o') = true then false else if k = 4 then z' else !z' && decide (v' = v))) ∧ Below w.heap.size w w' := by
  intro b1 b2 b3 b4 h1 h2 h3 h4
  cases b1
  ·cases b2
   ·cases b3
    ·cases b4
     ·cases o'
      ·go_enter Tryz.func159, Tryz.ntmps159
       go_wp2_with fail
       go_ret
       exact ⟨rfl, B2.out⟩
      ·by_cases hk : k = 4
       ·have d4 : (k == 4) = true := by simp [hk]
        have hR : (if (false || false || false || false || !true) = true then false else if k = 4 then z' else !z' && decide (v' = v)) = z' := by simp [hk]
        rw [hR]
        clear hk hR
        go_enter Tryz.func159, Tryz.ntmps159
        go_wp2_with fail
        go_ret
        exact ⟨rfl, B2.out⟩
       ·have d4 : (k == 4) = false := by simp [hk]
        have hR : (if (false || false || false || false || !true) = true then false else if k = 4 then z' else !z' && decide (v' = v)) = (!z' && (v' == v)) := by
         rw [if_neg (by simp), if_neg hk]
         congr 1
        rw [hR]
        clear hk hR
        cases z'
        ·go_enter Tryz.func159, Tryz.ntmps159
         go_wp2_with fail
         go_ret
         exact ⟨rfl, B2.out⟩
        ·go_enter Tryz.func159, Tryz.ntmps159
         go_wp2_with fail
         go_ret
         exact ⟨rfl, B2.out⟩
     ·go_enter Tryz.func159, Tryz.ntmps159
      go_wp2_with fail
      go_ret
      exact ⟨rfl, B2.out⟩
    ·go_enter Tryz.func159, Tryz.ntmps159
     go_wp2_with fail
     go_ret
     exact ⟨rfl, B2.out⟩
   ·go_enter Tryz.func159, Tryz.ntmps159
    go_wp2_with fail
    go_ret
    exact ⟨rfl, B2.out⟩
  ·go_enter Tryz.func159, Tryz.ntmps159
   go_wp2_with fail
   go_ret
   exact ⟨rfl, B2.out⟩
 have hK := key _ _ _ _ rfl rfl rfl rfl
 refine hK.mono ?_
 rintro r w' ⟨rfl, b⟩
 refine ⟨ret_bool ?_, b⟩
 congr 1
 apply propext
 simp [or_assoc]
set_option maxHeartbeats 1600000 in
theorem right_any {w : World} {N R c : Nat} {oa : Option Addr} {l : List Ev} {s : Gs} (h : GW w N R (.slice oa l.length c) s) (hA : EsAt w oa l) {i : Nat} {e : Ev} (hi : l[i]? = some e) :
 Calls Tryz.prog 113 #[.pointer (some ⟨R, 0, none⟩), .int .i64 (i : Int)] w fun r w' => r = .returned (.bool (!(decide (2000 ≤ i) || decide (chk e ≠ 0)))) ∧ Below w.heap.size w w' := by
 obtain ⟨mb, vs, D, cs, h⟩ := h
 have hil : i < l.length := (List.getElem?_eq_some_iff.1 hi).1
 obtain ⟨b1, o1, rfl, -⟩ := hA i e hi
 obtain ⟨p0, p1, p2, p3, p4, p5, p6, p7⟩ := hA.read hi
 have c0 : w.cell? ⟨R, 0, none⟩ = some (.slice (some ⟨b1, o1, none⟩) l.length c) := cell_of h.hR 0
 have CK := hide (check_any e w)
 unfold evv evc at CK
 have hiM : (i : Int) < (l.length : Int) := by omega
 obtain ⟨q, hq⟩ : ∃ q, chk e = q := ⟨_, rfl⟩
 rw [hq] at CK ⊢
 clear h hA hi hq
 generalize l.length = M at *
 by_cases h2 : i < 2000
 ·have d1 : decide ((i : Int) < 2000) = true := by simp; omega
  have d2 : decide (i < 2000) = true := by simp; omega
  have hR : (!(decide (2000 ≤ i) || decide (q ≠ 0))) = (q == 0) := by
   rw [show decide (2000 ≤ i) = false from by simp; omega]
   rw [Bool.eq_iff_iff]; simp
  rw [hR]
  clear hR h2
  go_enter Tryz.func113, Tryz.ntmps113
  go_wp2_with fail
  refine CK.out.mono ?_
  rintro r w1 ⟨rfl, b1⟩
  have B1 := hide b1
  clear b1
  go_wp2_with fail
  go_ret
  exact ⟨rfl, B1.out⟩
 ·have d1 : decide ((i : Int) < 2000) = false := by simp; omega
  have d2 : decide (i < 2000) = false := by simp; omega
  have hR : (!(decide (2000 ≤ i) || decide (q ≠ 0))) = false := by
   rw [show decide (2000 ≤ i) = true from by simp; omega]; rfl
  rw [hR]
  clear hR h2
  go_enter Tryz.func113, Tryz.ntmps113
  go_wp2_with fail
  go_ret
  exact ⟨rfl, Below.refl _ _⟩
end Gu
end Go.Proofs.YtblfimobiibmjaaGreat
namespace Go.Proofs.YtblfimobiibmjaaGreat
open Go.ChangeShapes Go.WideShapes Go.ChangeAt Go.RowKit
namespace Gu
open En Ba
section
variable {w w' : World} {N R mb : Nat} {ev vs : Value} {D : DataW Unit} {cs : List Sv} {s : Gs}
theorem GR.below (h : GR w N R mb ev vs D cs s) (b : Below w.heap.size w w') : GR w' N R mb ev vs D cs s := by
 refine ⟨h.hN, heap_below h.hR b, own_below h.st b, ?_, h.mi, h.len, fun i x c hx hc => ?_, h.dj, h.dv⟩
 ·obtain ⟨es, ck, hb, r⟩ := h.mp
  exact ⟨es, ck, heap_below hb b, r⟩
 ·obtain ⟨v, r⟩ := h.ch i x c hx hc
  refine ⟨v.keep fun hn => ?_, r⟩
  obtain ⟨-, cur, hb, -⟩ := v.row hn
  rw [heap_below hb b, hb]
theorem GR.noR (h : GR w N R mb ev vs D cs s) : vs.ownBlock ≠ some R ∧ R ≠ mb ∧ ∀ (i : Nat) x, cs[i]? = some x → x.nil = false → x.b ≠ R := by
 refine ⟨?_, ?_, fun i x hx hn e => ?_⟩
 ·rcases h.st.2 with ⟨rfl, -⟩ | ⟨g, cap, cur, rfl, -, q3, -⟩
  ·intro e; cases e
  ·intro e; cases e; have := h.hR; rw [q3] at this; cases this
 ·intro e
  obtain ⟨es, ck, hb, -⟩ := h.mp
  have := h.hR
  rw [e, hb] at this; cases this
 ·have hil : i < cs.length := (List.getElem?_eq_some_iff.1 hx).1
  obtain ⟨c, hc⟩ : ∃ c, s.ch[i]? = some c := ⟨_, List.getElem?_eq_getElem (by rw [← h.len]; exact hil)⟩
  obtain ⟨-, cur, hb, -⟩ := (h.ch i x c hx hc).1.row hn
  have := h.hR
  rw [← e, hb] at this; cases this
theorem GR.setR (h : GR w N R mb ev vs D cs s) (k : KB R w w') {s' : Gs} {vs' : Value} (hR : w'.heap[R]? = some (.cells #[ev, vs', .map (some mb), .bool s'.pn, .int .i64 s'.la.k, .int .i64 s'.la.g, .int .i64 s'.la.c, .int .i64 s'.la.a, .int .i64 s'.la.v, .int .i64 s'.la.m, .bool s'.la.s, .bool s'.la.o] 173 (0, 0))) (hv : vs' = vs) (hst : s'.st = s.st) (hch : s'.ch = s.ch) : GR w' N R mb ev vs' D cs s' := by
 subst hv
 obtain ⟨n1, n2, n3⟩ := h.noR
 refine ⟨h.hN, hR, by rw [hst]; exact own_kb h.st k n1, ?_, h.mi, by rw [hch]; exact h.len, fun i x c hx hc => ?_, h.dj, h.dv⟩
 ·obtain ⟨es, ck, hb, r⟩ := h.mp
  exact ⟨es, ck, k.heap hb (Ne.symm n2), r⟩
 ·rw [hch] at hc
  obtain ⟨v, r⟩ := h.ch i x c hx hc
  refine ⟨v.keep fun hn => ?_, r⟩
  obtain ⟨-, cur, hb, -⟩ := v.row hn
  rw [k.heap hb (n3 i x hx hn), hb]
theorem own_set_at {g cap : Nat} {L : List Int} (h : w.ownsRow N 3 1 (.slice (some ⟨g, 0, none⟩) L.length cap) L.length (ic L)) (j : Nat) (y : Int) : (w.setCell ⟨g, j, none⟩ (.int .i64 y)).ownsRow N 3 1 (.slice (some ⟨g, 0, none⟩) L.length cap) (L.set j y).length (ic (L.set j y)) := by
 rcases h.2 with ⟨e, -⟩ | ⟨g', cap', cur, e, q1, q2, q3, q4, q5, q6⟩
 ·cases e
 ·cases e
  refine ⟨by rw [ic_len, Nat.mul_one], .inr ⟨g, cap, _, by rw [List.length_set], q1, Ba.heap_setCell_same q2 _, by rw [List.length_set]; exact q3, q4, by simpa using q5, ?_⟩⟩
  rw [List.length_set]
  unfold ic
  rw [List.map_set]
  have : (cur.setIfInBounds j (.int .i64 y)).toList = cur.toList.set j (.int .i64 y) := by simp
  rw [this, List.take_set, q6]
  rfl
theorem own_st_cell {g cap : Nat} {L : List Int} (h : w.ownsRow N 3 1 (.slice (some ⟨g, 0, none⟩) L.length cap) L.length (ic L)) (j : Nat) (hj : j < L.length) : w.cell? ⟨g, j, none⟩ = some (.int .i64 (L.getD j 0)) ∧ w.frozen? ⟨g, j, none⟩ = false ∧ N ≤ g := by
 rcases h.2 with ⟨e, -⟩ | ⟨g', cap', cur, e, q1, q2, q3, q4, q5, q6⟩
 ·cases e
 ·cases e
  refine ⟨?_, frozen_of q2 j, q1⟩
  rw [cell_of q2]
  have e1 : (ic L)[j]? = some (.int .i64 (L.getD j 0)) := by simp [ic, List.getElem?_eq_getElem hj, List.getD_eq_getElem?_getD]
  rw [← q6, List.getElem?_take, if_pos (by omega)] at e1
  simpa using e1
theorem GR.set {g cap : Nat} (h : GR w N R mb ev (.slice (some ⟨g, 0, none⟩) s.st.length cap) D cs s) (j : Nat) (y : Int) : GR (w.setCell ⟨g, j, none⟩ (.int .i64 y)) N R mb ev (.slice (some ⟨g, 0, none⟩) s.st.length cap) D cs { s with st := s.st.set j y } := by
 have K := (KB.refl g w).setCell j (.int .i64 y)
 have nR : R ≠ g := fun e => h.noR.1 (by rw [e]; rfl)
 refine ⟨h.hN, K.heap h.hR nR, own_set_at h.st j y, ?_, h.mi, h.len, fun i x c hx hc => ?_, h.dj, h.dv⟩
 ·obtain ⟨es, ck, hb, r⟩ := h.mp
  refine ⟨es, ck, K.heap hb ?_, r⟩
  rintro rfl
  rcases h.st.2 with ⟨e, -⟩ | ⟨g', cap', cur, e, -, q3, -⟩
  ·cases e
  ·cases e; rw [hb] at q3; cases q3
 ·obtain ⟨v, r⟩ := h.ch i x c hx hc
  refine ⟨v.keep fun hn => ?_, r⟩
  obtain ⟨-, cur, hb, -⟩ := v.row hn
  have := h.dv i x hx hn
  rw [K.heap hb (fun e => this (by rw [e]; rfl)), hb]
theorem GR.row (h : GR w N R mb ev vs D cs s) {w1 : World} (hg : w.grownBy w1 vs.ownBlock) {v' : Value} {L : List Int} (ho : w1.ownsRow N 3 1 v' L.length (ic L)) (hat : v'.ownBlock = vs.ownBlock ∨ v'.ownBlock = some w.heap.size) : GR (w1.setCell ⟨R, 1, none⟩ v') N R mb ev v' D cs { s with st := L } := by
 obtain ⟨n1, n2, n3⟩ := h.noR
 have K := (KB.refl R w1).setCell 1 v'
 have g1 : ∀ {b : Nat} {o : Obj}, w.heap[b]? = some o → vs.ownBlock ≠ some b → w1.heap[b]? = some o := fun hb hn => (hg.block _ (heap_lt hb) (fun e => hn e.symm)).trans hb
 have hR1 := g1 h.hR n1
 have nv : v'.ownBlock ≠ some R := by
  rcases hat with q | q
  ·rw [q]; exact n1
  ·rw [q]; intro e; injection e with e; have := heap_lt h.hR; omega
 refine ⟨h.hN, Ba.heap_setCell_same hR1 _, own_kb ho K nv, ?_, h.mi, h.len, fun i x c hx hc => ?_, h.dj, fun i x hx hn => ?_⟩
 ·obtain ⟨es, ck, hb, r⟩ := h.mp
  refine ⟨es, ck, K.heap (g1 hb ?_) (Ne.symm n2), r⟩
  intro e
  rcases h.st.2 with ⟨rfl, -⟩ | ⟨g', cap', cur, rfl, -, q3, -⟩
  ·cases e
  ·cases e; rw [hb] at q3; cases q3
 ·obtain ⟨v, r⟩ := h.ch i x c hx hc
  refine ⟨v.keep fun hn => ?_, r⟩
  obtain ⟨-, cur, hb, -⟩ := v.row hn
  rw [K.heap (g1 hb (h.dv i x hx hn)) (n3 i x hx hn), hb]
 ·rcases hat with q | q
  ·rw [q]; exact h.dv i x hx hn
  ·rw [q]; intro e; injection e with e
   have hil : i < cs.length := (List.getElem?_eq_some_iff.1 hx).1
   obtain ⟨c, hc⟩ : ∃ c, s.ch[i]? = some c := ⟨_, List.getElem?_eq_getElem (by rw [← h.len]; exact hil)⟩
   obtain ⟨-, cur, hb, -⟩ := (h.ch i x c hx hc).1.row hn
   have := heap_lt hb
   omega
end
structure Fb (N : Nat) (w w' : World) : Prop where
 b : Below N w w'
 f : ∀ (k : Nat) (cc : Array Value), w.heap[k]? = some (.cells cc 95 (0, 0)) → w'.heap[k]? = some (.cells cc 95 (0, 0))
section
variable {w0 w w' : World} {N R mb : Nat} {ev vs : Value} {D : DataW Unit} {cs : List Sv} {s : Gs}
theorem Fb.of (h : Below w.heap.size w w') (hN : N ≤ w.heap.size) : Fb N w w' := ⟨h.mono hN, fun _ _ hk => heap_below hk h⟩
theorem Fb.trans (h : Fb N w0 w) (k : Fb N w w') : Fb N w0 w' := ⟨h.b.trans k.b, fun i cc hi => k.f i cc (h.f i cc hi)⟩
theorem Fb.size (h : Fb N w w') : w.heap.size ≤ w'.heap.size := h.b.size
theorem Fb.set {i k : Nat} {v : Value} {cc : Array Value} {t : TypeId} (h : Fb N w0 w) (hk : w.heap[k]? = some (.cells cc t (0, 0))) (ht : t ≠ 95) (hN : N ≤ k) : Fb N w0 (w.setCell ⟨k, i, none⟩ v) :=
 ⟨below_set h.b hN, fun j c2 hj => (Below.heap_setCell _ _ _ _ (by show j ≠ k; intro e; have := h.f j c2 hj; rw [e, hk] at this; cases this; exact ht rfl)).trans (h.f j c2 hj)⟩
theorem Fb.setR {i : Nat} {v : Value} (h : Fb N w0 w) (g : GR w N R mb ev vs D cs s) : Fb N w0 (w.setCell ⟨R, i, none⟩ v) := h.set g.hR (by decide) g.hN.1
theorem Fb.setS {i sg n c : Nat} {v : Value} (h : Fb N w0 w) (g : GR w N R mb ev (.slice (some ⟨sg, 0, none⟩) n c) D cs s) (hN : N ≤ sg) : Fb N w0 (w.setCell ⟨sg, i, none⟩ v) := by
 rcases g.st.2 with ⟨e, -⟩ | ⟨g', cap', cur, e, -, q3, -⟩
 ·cases e
 ·cases e
  exact h.set q3 (by decide) hN
theorem Fb.kb {C : Nat} {cc : Array Value} {t : TypeId} (h : Fb N w0 w) (k : KB C w w') (hC : N ≤ C) (hN : N ≤ w0.heap.size) (hk : w.heap[C]? = some (.cells cc t (0, 0))) (ht : t ≠ 95) : Fb N w0 w' := by
 refine ⟨⟨k.os.trans h.b.os, k.tape.trans h.b.tape, k.output.trans h.b.output, Nat.le_trans h.b.size k.size, fun j hj => (k.block j (by have := h.b.size; omega) (by omega)).trans (h.b.block j hj)⟩, fun j c2 hj => ?_⟩
 have h1 := h.f j c2 hj
 exact k.heap h1 (fun e => by rw [e, hk] at h1; cases h1; exact ht rfl)
theorem Fb.row {w1 : World} {v : Value} (h : Fb N w0 w) (g : GR w N R mb ev vs D cs s) (hg : w.grownBy w1 vs.ownBlock) (b : Below N w0 (w1.setCell ⟨R, 1, none⟩ v)) : Fb N w0 (w1.setCell ⟨R, 1, none⟩ v) := by
 refine ⟨b, fun j c2 hj => ?_⟩
 have h1 := h.f j c2 hj
 have h2 : w1.heap[j]? = some (.cells c2 95 (0, 0)) := (hg.block j (heap_lt h1) (fun e => by
  rcases g.st.2 with ⟨rfl, -⟩ | ⟨g', cap', cur, rfl, -, q3, -⟩
  ·cases e
  ·cases e; rw [q3] at h1; cases h1)).trans h1
 exact (Below.heap_setCell _ _ _ _ (by show j ≠ R; intro e; rw [e, g.hR] at h1; cases h1)).trans h2
end
def GoP (R2 : Option (List Int × Bool)) (N R : Nat) (ev : Value) (s : Gs) (w : World) (r : Ending) (w' : World) : Prop := ((R2 = none ∧ r = .returned (.bool false)) ∨ ∃ st pn, R2 = some (st, pn) ∧ r = .returned (.bool true) ∧ GW w' N R ev { s with st := st, pn := pn }) ∧ Fb N w w'
theorem GoP.no {R2 : Option (List Int × Bool)} {N R : Nat} {ev : Value} {s : Gs} {w w' : World} (h : R2 = none) (b : Fb N w w') : GoP R2 N R ev s w (.returned (.bool false)) w' := ⟨.inl ⟨h, rfl⟩, b⟩
theorem GoP.yes {R2 : Option (List Int × Bool)} {N R mb : Nat} {ev vs : Value} {D : DataW Unit} {cs : List Sv} {s : Gs} {w w' : World} {st : List Int} {pn : Bool} (h : R2 = some (st, pn)) (g : GR w' N R mb ev vs D cs { s with st := st, pn := pn }) (b : Fb N w w') : GoP R2 N R ev s w (.returned (.bool true)) w' := ⟨.inr ⟨st, pn, h, rfl, mb, vs, D, cs, g⟩, b⟩
set_option maxRecDepth 100000 in
set_option maxHeartbeats 12800000 in
theorem gor_any {w : World} {N R c : Nat} {oa : Option Addr} {l : List Ev} {s : Gs} (h : GW w N R (.slice oa l.length c) s) (hA : EsAt w oa l) {i : Nat} {e : Ev} (hi : l[i]? = some e) (hg : e.k ≠ 13 → 0 ≤ e.g) (hst : s.st.length ≤ 3000) (hNw : N ≤ w.heap.size) :
 Calls Tryz.prog 114 #[.pointer (some ⟨R, 0, none⟩), .int .i64 (i : Int)] w fun r w' => GoP (r2 s.st s.pn e) N R (.slice oa l.length c) s w r w' := by
 obtain ⟨mb, vs, D, cs, h⟩ := h
 have hil : i < l.length := (List.getElem?_eq_some_iff.1 hi).1
 obtain ⟨b1, o1, rfl, -⟩ := hA i e hi
 obtain ⟨p0, p1, p2, p3, p4, p5, p6, p7⟩ := hA.read hi
 have hiM : (i : Int) < (l.length : Int) := by omega
 clear hA hi
 generalize l.length = M at *
 obtain ⟨va, vc, rfl⟩ := own_sl h.st
 have H0 := hide h
 have H1 := hide (h.below (below_alloc w (.cells #[.int .i64 e.k, .int .i64 e.g, .int .i64 e.c, .int .i64 e.a, .int .i64 e.v, .int .i64 e.m, .bool e.s, .bool e.o] 50)))
 have E1 := hide (heap_new w (.cells #[.int .i64 e.k, .int .i64 e.g, .int .i64 e.c, .int .i64 e.a, .int .i64 e.v, .int .i64 e.m, .bool e.s, .bool e.o] 50))
 have B1 := hide (Fb.of (below_alloc w (.cells #[.int .i64 e.k, .int .i64 e.g, .int .i64 e.c, .int .i64 e.a, .int .i64 e.v, .int .i64 e.m, .bool e.s, .bool e.o] 50)) hNw)
 have hRw : R < w.heap.size := heap_lt h.hR
 have c0 : w.cell? ⟨R, 0, none⟩ = some (.slice (some ⟨b1, o1, none⟩) M c) := cell_of h.hR 0
 have RR : ∀ q, Hid (r2 s.st s.pn e = q) → Hid (r2 s.st s.pn e = q) := fun _ h => h
 clear RR
 obtain ⟨R2, hR2⟩ : ∃ R2, r2 s.st s.pn e = R2 := ⟨_, rfl⟩
 rw [hR2]
 unfold r2 at hR2
 clear h
 obtain ⟨E, hE⟩ : ∃ E, w.heap.size = E := ⟨_, rfl⟩
 go_enter Tryz.func114, Tryz.ntmps114
 go_upto_region 2 with fail
 rw [hE] at E1 hRw
 clear p0 p1 p2 p3 p4 p5 p6 p7 hE c0
 generalize w.alloc (.cells #[.int .i64 e.k, .int .i64 e.g, .int .i64 e.c, .int .i64 e.a, .int .i64 e.v, .int .i64 e.m, .bool e.s, .bool e.o] 50) = W1 at *
 have c0 : W1.cell? ⟨R, 0, none⟩ = some (.slice (some ⟨b1, o1, none⟩) M c) := cell_of H1.out.hR 0
 have c1 : W1.cell? ⟨R, 1, none⟩ = some (.slice va s.st.length vc) := cell_of H1.out.hR 1
 have c3 : W1.cell? ⟨R, 3, none⟩ = some (.bool s.pn) := cell_of H1.out.hR 3
 have v0 : W1.cell? ⟨E, 0, none⟩ = some (.int .i64 e.k) := cell_of E1.out 0
 have v1 : W1.cell? ⟨E, 1, none⟩ = some (.int .i64 e.g) := cell_of E1.out 1
 have v5 : W1.cell? ⟨E, 5, none⟩ = some (.int .i64 e.m) := cell_of E1.out 5
 cases hpn : s.pn
 case true =>
  rw [hpn] at hR2 c3
  rw [if_pos rfl] at hR2
  go_wp2_with fail
  go_ret
  exact GoP.no hR2.symm B1.out
 rw [hpn] at hR2 c3
 rw [if_neg (by simp)] at hR2
 by_cases h13 : e.k = 13
 ·rw [if_pos h13] at hR2
  have d13 : (e.k == 13) = true := by simp [h13]
  go_wp2_with fail
  go_ret
  have hse : ({ s with st := s.st, pn := false } : Gs) = s := by rw [← hpn]
  exact GoP.yes hR2.symm (by rw [hse]; exact H1.out) B1.out
 have d13 : (e.k == 13) = false := by simp [h13]
 have g0 := hg h13
 rw [if_neg h13] at hR2
 by_cases hge : (s.st.length : Int) ≤ e.g
 ·rw [if_pos hge] at hR2
  have dge : decide ((s.st.length : Int) ≤ e.g) = true := decide_eq_true hge
  clear hg
  generalize s.st.length = SL at *
  go_wp2_with fail
  go_quiet (fail)
  go_wp2_with fail
  go_ret
  exact GoP.no hR2.symm (B1.out.trans (Fb.of (bdrew _ _) (by have := B1.out.size; omega)))
 have dge : decide ((s.st.length : Int) ≤ e.g) = false := decide_eq_false hge
 rw [if_neg hge] at hR2
 obtain ⟨j, hj⟩ : ∃ j : Nat, e.g = (j : Int) := ⟨e.g.toNat, by omega⟩
 rw [hj] at v1 hR2 dge
 rw [Int.toNat_natCast] at hR2
 have hjl : j < s.st.length := by omega
 have hjl' : (j : Int) < (s.st.length : Int) := by omega
 obtain ⟨sg, rfl⟩ : ∃ sg, va = some ⟨sg, 0, none⟩ := by
  rcases H1.out.st.2 with ⟨e0, h0⟩ | ⟨g, cap, cur, e0, -⟩
  ·omega
  ·cases e0; exact ⟨g, rfl⟩
 obtain ⟨sc, sf, sN⟩ := own_st_cell H1.out.st j hjl
 have HL := hide hjl
 have MY := hide (fun q => mayDo_any (s.st.getD j 0) e.k (W1.drewN q))
 obtain ⟨my, hmy⟩ : ∃ my, may (s.st.getD j 0) e.k = my := ⟨_, rfl⟩
 rw [hmy] at hR2 MY
 obtain ⟨tv, htv⟩ : ∃ tv, s.st.getD j 0 = tv := ⟨_, rfl⟩
 rw [htv] at sc MY
 obtain ⟨SL, hSL⟩ : ∃ SL, s.st.length = SL := ⟨_, rfl⟩
 have HSL := hide hSL
 rw [hSL] at c1 dge hjl hjl' hR2 hst
 have dgeN : decide (SL ≤ j) = false := by simp; omega
 have HJ := hide hj
 have HTV := hide htv
 clear hmy htv hj hg hge g0 h13 hSL
 go_upto_region 6 with fail
 go_cut [41] (fun s41 wc => s41 = .bool (!my) ∧ ∃ q, wc = W1.drewN q)
 case first =>
  go_quiet ((go_at_call 158; exact Calls.quiet_of_same (MY.out _)))
  go_wp2_with fail
  go_meet
  case rel => exact ⟨rfl, _, rfl⟩
 case rest =>
 obtain ⟨rfl, q1, e1⟩ := hcut
 have K1 : Below W1.heap.size W1 wc := by rw [e1]; exact bdrew _ _
 have H2 := hide (H1.out.below K1)
 have E2 := hide (heap_below E1.out K1)
 have B2 := hide (B1.out.trans (Fb.of K1 (by have := B1.out.size; omega)))
 clear e1 K1 c0 c1 c3 v0 v1 v5 sc sf H1 E1 B1 MY
 rename World => W2
 have c1 : W2.cell? ⟨R, 1, none⟩ = some (.slice (some ⟨sg, 0, none⟩) SL vc) := by rw [← HSL.out]; exact cell_of H2.out.hR 1
 have c3 : W2.cell? ⟨R, 3, none⟩ = some (.bool false) := by rw [← hpn]; exact cell_of H2.out.hR 3
 have v0 : W2.cell? ⟨E, 0, none⟩ = some (.int .i64 e.k) := cell_of E2.out 0
 have v5 : W2.cell? ⟨E, 5, none⟩ = some (.int .i64 e.m) := cell_of E2.out 5
 have v1 : W2.cell? ⟨E, 1, none⟩ = some (.int .i64 (j : Int)) := by rw [← HJ.out]; exact cell_of E2.out 1
 obtain ⟨sc0, sf, -⟩ := own_st_cell H2.out.st j HL.out
 have sc : W2.cell? ⟨sg, j, none⟩ = some (.int .i64 tv) := by rw [← HTV.out]; exact sc0
 have SAME : Hid (∀ (u : World) (st : List Int) (vv : Value), GR u N R mb (.slice (some ⟨b1, o1, none⟩) M c) vv D cs { s with st := st } → GR u N R mb (.slice (some ⟨b1, o1, none⟩) M c) vv D cs { s with st := st, pn := false }) := fun u st vv h => by rw [← hpn]; exact h
 clear sc0
 cases my
 ·rw [if_pos rfl] at hR2
  go_wp2_with fail
  go_ret
  exact GoP.no hR2.symm B2.out
 rw [if_neg (by simp)] at hR2
 by_cases k1 : e.k = 1
 ·rw [if_pos k1] at hR2
  have d1 : (e.k == 1) = true := by simp [k1]
  clear k1
  by_cases hmm : e.m = (SL : Int)
  case neg =>
   rw [if_pos hmm] at hR2
   have dm : (e.m != (SL : Int)) = true := by simp [hmm]
   go_wp2_with fail
   go_quiet (fail)
   go_wp2_with fail
   go_ret
   exact GoP.no hR2.symm (B2.out.trans (Fb.of (bdrew _ _) (by have := B2.out.size; omega)))
  rw [if_neg (by simp [hmm])] at hR2
  have dm : (e.m != (SL : Int)) = false := by simp [hmm]
  clear hmm
  obtain ⟨i0, hi0, hz0, hz1, hz2⟩ := info_parts info_int
  have INF := hide (And.intro hi0 (And.intro hz0 (And.intro hz1 hz2)))
  clear hi0 hz0 hz1 hz2
  go_upto_region 10 with fail
  go_cut [53] (fun s53 wc => s53 = .bool false ∧ ∃ q, wc = W2.drewN q)
  case first =>
   go_quiet (fail)
   go_wp2_with fail
   go_meet
   case rel => exact ⟨rfl, _, rfl⟩
  case rest =>
  obtain ⟨rfl, q2, e2⟩ := hcut
  have K2 : Below W2.heap.size W2 wc := by rw [e2]; exact bdrew _ _
  have H3 := hide (H2.out.below K2)
  have B3 := hide (B2.out.trans (Fb.of K2 (by have := B2.out.size; omega)))
  clear e2 K2 c1 c3 v0 v5 v1 sc sf H2 E2 B2
  rename World => W3
  have c1 : W3.cell? ⟨R, 1, none⟩ = some (.slice (some ⟨sg, 0, none⟩) SL vc) := by rw [← HSL.out]; exact cell_of H3.out.hR 1
  have H4 := hide (H3.out.below (below_alloc W3 (.cells #[.int .i64 0] 3)))
  have B4 := hide (B3.out.trans (Fb.of (below_alloc W3 (.cells #[.int .i64 0] 3)) (by have := B3.out.size; omega)))
  have SRC := hide (cell_one_new W3 (.int .i64 0) 3)
  have OW : Hid ((W3.alloc (.cells #[.int .i64 0] 3)).ownsRow N 3 1 (.slice (some ⟨sg, 0, none⟩) SL vc) SL (ic s.st)) := by rw [← HSL.out]; exact H4.out.st
  go_wp2_with (at_builtin; refine wpList_append_own_at _ rfl _ _ 67 rfl N 3 i0 (.int .i64 0) 1 8 Tryz.underlying67 INF.out.1 INF.out.2.1 INF.out.2.2.1 INF.out.2.2.2 rfl (by decide) _ _ _ rfl OW.out ⟨W3.heap.size, 0, none⟩ 1 1 [.int .i64 0] rfl rfl ?c1 ?c2 ?c3 ?c4 ?c5 ?_)
  case c1 => exact SRC.out
  case c2 => exact ic_one [0]
  case c3 => unfold maxLen; omega
  case c4 => omega
  case c5 => have := B4.out.size; omega
  intro v' w4 ho hg4 _ hat
  have O4 : Hid (w4.ownsRow N 3 1 v' (s.st ++ [0]).length (ic (s.st ++ [0]))) := by
   show World.ownsRow _ _ _ _ _ _ _
   rw [ic_app, List.length_append, HSL.out]; exact ho
  obtain ⟨oa4, cc4, rfl⟩ := own_sl O4.out
  have H5 := hide (H4.out.row hg4 O4.out (hat.imp id (fun q => by rw [World.size_alloc]; exact q)))
  have B5 := hide (Fb.row B4.out H4.out (by rw [HSL.out]; exact hg4) (below_set (i := 1) (v := .slice oa4 (s.st ++ [0]).length cc4) (B4.out.b.grown hg4 (by have := B4.out.size; omega) (fun x hx => (OW.out.lt x hx).1)) H3.out.hN.1))
  have hR4 : w4.heap[R]? = _ := (hg4.block R (heap_lt H4.out.hR) (fun e => H4.out.noR.1 e.symm)).trans H4.out.hR
  have e1 : w4.cell? ⟨R, 1, none⟩ = some (.slice (some ⟨sg, 0, none⟩) s.st.length vc) := cell_of hR4 1
  have z1 := frozen_of hR4 1
  obtain ⟨LL, hLL⟩ : ∃ LL, (s.st ++ [0]).length = LL := ⟨_, rfl⟩
  rw [hLL] at H5 B5 ⊢
  clear ho hg4 hat hR4 hLL O4
  go_wp2_with fail
  go_ret
  exact GoP.yes hR2.symm (SAME.out _ _ _ H5.out) B5.out
 have d1 : (e.k == 1) = false := by simp [k1]
 rw [if_neg k1] at hR2
 by_cases k6 : e.k = 6
 ·rw [if_pos k6] at hR2
  have d6 : (e.k == 6) = true := by simp [k6]
  have H3 := hide ((H2.out.below (bdrew1 _)).set j 1)
  have B3 := hide (Fb.setS (i := j) (v := .int .i64 1) (B2.out.trans (Fb.of (bdrew1 W2) (by have := B2.out.size; omega))) (H2.out.below (bdrew1 _)) sN)
  have c1' : W2.drew.cell? ⟨R, 1, none⟩ = some (.slice (some ⟨sg, 0, none⟩) SL vc) := c1
  have v1' : W2.drew.cell? ⟨E, 1, none⟩ = some (.int .i64 (j : Int)) := v1
  have sc' : W2.drew.cell? ⟨sg, j, none⟩ = some (.int .i64 tv) := sc
  have sf' : W2.drew.frozen? ⟨sg, j, none⟩ = false := sf
  clear k6
  go_upto_region 14 with fail
  go_region
  all_goals
   go_wp2_with fail
   go_ret
   exact GoP.yes hR2.symm (SAME.out _ _ _ H3.out) B3.out
 have d6 : (e.k == 6) = false := by simp [k6]
 rw [if_neg k6] at hR2
 by_cases k7 : e.k = 7
 ·rw [if_pos k7] at hR2
  have d7 : (e.k == 7) = true := by simp [k7]
  have H3 := hide ((H2.out.below (bdrew1 _)).set j 0)
  have B3 := hide (Fb.setS (i := j) (v := .int .i64 0) (B2.out.trans (Fb.of (bdrew1 W2) (by have := B2.out.size; omega))) (H2.out.below (bdrew1 _)) sN)
  have c1' : W2.drew.cell? ⟨R, 1, none⟩ = some (.slice (some ⟨sg, 0, none⟩) SL vc) := c1
  have v1' : W2.drew.cell? ⟨E, 1, none⟩ = some (.int .i64 (j : Int)) := v1
  have sc' : W2.drew.cell? ⟨sg, j, none⟩ = some (.int .i64 tv) := sc
  have sf' : W2.drew.frozen? ⟨sg, j, none⟩ = false := sf
  clear k7
  go_upto_region 16 with fail
  go_region
  all_goals
   go_wp2_with fail
   go_ret
   exact GoP.yes hR2.symm (SAME.out _ _ _ H3.out) B3.out
 have d7 : (e.k == 7) = false := by simp [k7]
 rw [if_neg k7] at hR2
 by_cases k11 : e.k = 11
 ·rw [if_pos k11] at hR2
  have d11 : (e.k == 11) = true := by simp [k11]
  have H3 := hide ((H2.out.below (bdrew1 _)).set j 2)
  have B3 := hide (Fb.setS (i := j) (v := .int .i64 2) (B2.out.trans (Fb.of (bdrew1 W2) (by have := B2.out.size; omega))) (H2.out.below (bdrew1 _)) sN)
  have c1' : W2.drew.cell? ⟨R, 1, none⟩ = some (.slice (some ⟨sg, 0, none⟩) SL vc) := c1
  have v1' : W2.drew.cell? ⟨E, 1, none⟩ = some (.int .i64 (j : Int)) := v1
  have sc' : W2.drew.cell? ⟨sg, j, none⟩ = some (.int .i64 tv) := sc
  have sf' : W2.drew.frozen? ⟨sg, j, none⟩ = false := sf
  clear k11
  go_upto_region 18 with fail
  go_region
  all_goals
   go_wp2_with fail
   go_ret
   exact GoP.yes hR2.symm (SAME.out _ _ _ H3.out) B3.out
 have d11 : (e.k == 11) = false := by simp [k11]
 rw [if_neg k11] at hR2
 by_cases k12 : e.k = 12
 ·rw [if_pos k12] at hR2
  have d12 : (e.k == 12) = true := by simp [k12]
  have z3 := frozen_of H2.out.hR 3
  have H3 := hide (H2.out.setR ((KB.refl R W2).setCell 3 (.bool true)) (s' := { s with pn := true }) (Ba.heap_setCell_same H2.out.hR _) rfl rfl rfl)
  have B3 := hide (Fb.setR (i := 3) (v := .bool true) B2.out H2.out)
  clear k12
  go_wp2_with fail
  go_ret
  exact GoP.yes hR2.symm H3.out B3.out
 have d12 : (e.k == 12) = false := by simp [k12]
 rw [if_neg k12] at hR2
 go_wp2_with fail
 go_ret
 exact GoP.yes hR2.symm (SAME.out _ _ _ H2.out) B2.out
end Gu
end Go.Proofs.YtblfimobiibmjaaGreat
namespace Go.Proofs.YtblfimobiibmjaaGreat
open Go.ChangeShapes Go.WideShapes Go.ChangeAt Go.RowKit
namespace Gu
open En Ba
theorem own_tight {w : World} {mb n m : Nat} {D : DataW Unit} (h : w.ownsMap Tryz.prog 3 mE mb n D) (hm : Maps.size D ≤ m) : w.ownsMap Tryz.prog 3 mE mb m D := by
 obtain ⟨es, ck, hb, F, hs, rfl⟩ := h
 refine ⟨es, ck, hb, F, ?_, rfl⟩
 rw [Maps.size_eq, length_read] at hm
 exact hm
section
variable {w w' : World} {N R mb : Nat} {ev vs : Value} {D : DataW Unit} {cs : List Sv} {s : Gs}
theorem GR.noM (h : GR w N R mb ev vs D cs s) : vs.ownBlock ≠ some mb ∧ ∀ (i : Nat) x, cs[i]? = some x → x.nil = false → x.b ≠ mb := by
 obtain ⟨es, ck, hb, -⟩ := h.mp
 refine ⟨?_, fun i x hx hn e => ?_⟩
 ·intro e
  rcases h.st.2 with ⟨rfl, -⟩ | ⟨g', cap', cur, rfl, -, q3, -⟩
  ·cases e
  ·cases e; rw [hb] at q3; cases q3
 ·have hil : i < cs.length := (List.getElem?_eq_some_iff.1 hx).1
  obtain ⟨c, hc⟩ : ∃ c, s.ch[i]? = some c := ⟨_, List.getElem?_eq_getElem (by rw [← h.len]; exact hil)⟩
  obtain ⟨-, cur, hb', -⟩ := (h.ch i x c hx hc).1.row hn
  rw [e, hb] at hb'; cases hb'
def upl {α : Type} (l : List α) (i : Nat) (x : α) : List α := if i < l.length then l.set i x else l ++ [x]
theorem upl_at {α : Type} (l : List α) {i : Nat} (hi : i ≤ l.length) (x : α) (j : Nat) (y : α) (h : (upl l i x)[j]? = some y) : (j = i ∧ y = x) ∨ (j ≠ i ∧ l[j]? = some y) := by
 unfold upl at h
 by_cases e : j = i
 ·subst e
  left
  refine ⟨rfl, ?_⟩
  split at h
  ·rw [List.getElem?_set_self (by assumption)] at h; cases h; rfl
  ·have : j = l.length := by omega
   subst this
   simp at h; exact h.symm
 ·right
  refine ⟨e, ?_⟩
  split at h
  ·rwa [List.getElem?_set_ne (Ne.symm e)] at h
  ·rwa [List.getElem?_append_left (by have := (List.getElem?_eq_some_iff.1 h).1; simp at this; omega)] at h
theorem upl_len {α β : Type} (l : List α) (m : List β) (h : l.length = m.length) (i : Nat) (x : α) (y : β) : (upl l i x).length = (upl m i y).length := by
 unfold upl
 rw [h]
 split <;> simp [h]
theorem GR.put (h : GR w N R mb ev vs D cs s) {i : Nat} (hi : i ≤ cs.length) (hb : cs.length ≤ 4000) (x : Sv) (c : Chn) (hv : VR w N x c.vs) (hcap : x.cap = c.cap) (hcl : x.cl = c.cl)
 (hd : ∀ (j : Nat) y, cs[j]? = some y → j ≠ i → x.nil = false → y.nil = false → x.b ≠ y.b) (hdv : x.nil = false → vs.ownBlock ≠ some x.b) (hm : x.nil = false → x.b ≠ mb) :
 ∃ w', (Instr.mapUpdate 171 (.map (some mb)) (.int .i64 (i : Int)) (chV x)).run Tryz.prog w = .ok () w' ∧ GR w' N R mb ev vs (D.put (kl (i : Int)) (chD x)) (upl cs i x) { s with ch := upl s.ch i c } ∧ Fb N w w' ∧ w.grownBy w' (some mb) := by
 have hk : -1 ≤ (i : Int) ∧ (i : Int) ≤ 100000 := by omega
 obtain ⟨w', hrun, ho, hg⟩ := (own_tight h.mp (m := cs.length) (by rw [h.mi.sz]; exact Nat.le_refl _)).update law Tryz.underlying171 (by unfold maxLen; omega) (key_kl hk) (mE_v hv.sn)
 have MI' := h.mi.put hi (by omega) x
 have ho' : w'.ownsMap Tryz.prog 3 mE mb 100000 (D.put (kl (i : Int)) (chD x)) := ho.mono (by omega)
 have g1 : ∀ {b : Nat} {o : Obj}, w.heap[b]? = some o → b ≠ mb → w'.heap[b]? = some o := fun hb hn => (hg.block _ (heap_lt hb) (fun e => hn (by cases e; rfl))).trans hb
 obtain ⟨m1, m2⟩ := h.noM
 obtain ⟨-, n2, -⟩ := h.noR
 refine ⟨w', hrun, ⟨h.hN, g1 h.hR n2, h.st.kept hg (.inr m1), ho', MI', by
  show (upl cs i x).length = (upl s.ch i c).length
  exact upl_len cs s.ch h.len i x c, fun j y d hy hd' => ?_, fun j k y z hy hz hjk hyn hzn => ?_, fun j y hy hyn => ?_⟩, ⟨⟨hg.os, hg.tape, hg.output, hg.size, fun k hk' => hg.block k (by have := h.mp.lt; have := h.hN.2; omega) (fun e => by cases e; have := h.hN.2; omega)⟩, fun k cc hk => g1 hk (fun e => by obtain ⟨es, ck, hb, -⟩ := h.mp; rw [e, hb] at hk; cases hk)⟩, hg⟩
 ·have hyc : ∀ y d, VR w N y d → (y.nil = false → y.b ≠ mb) → VR w' N y d := fun y d v hn => v.keep fun hq => by
   obtain ⟨-, cur, hb', -⟩ := v.row hq
   rw [g1 hb' (hn hq), hb']
  rcases upl_at cs hi x j y hy with ⟨rfl, rfl⟩ | ⟨hne, hy'⟩
  ·rcases upl_at s.ch (by rw [← h.len]; exact hi) c j d hd' with ⟨-, rfl⟩ | ⟨hne, -⟩
   ·exact ⟨hyc _ _ hv hm, hcap, hcl⟩
   ·exact absurd rfl hne
  ·rcases upl_at s.ch (by rw [← h.len]; exact hi) c j d hd' with ⟨e, -⟩ | ⟨-, hd''⟩
   ·exact absurd e hne
   ·obtain ⟨v, r⟩ := h.ch j y d hy' hd''
    exact ⟨hyc _ _ v (m2 j y hy'), r⟩
 ·rcases upl_at cs hi x j y hy with ⟨rfl, rfl⟩ | ⟨hne, hy'⟩
  ·rcases upl_at cs hi y k z hz with ⟨rfl, rfl⟩ | ⟨hne', hz'⟩
   ·exact absurd rfl hjk
   ·exact hd k z hz' hne' hyn hzn
  ·rcases upl_at cs hi x k z hz with ⟨rfl, rfl⟩ | ⟨hne', hz'⟩
   ·exact fun e => hd j y hy' hne hzn hyn e.symm
   ·exact h.dj j k y z hy' hz' hjk hyn hzn
 ·rcases upl_at cs hi x j y hy with ⟨rfl, rfl⟩ | ⟨-, hy'⟩
  ·exact hdv hyn
  ·exact h.dv j y hy' hyn
theorem GR.len_run (h : GR w N R mb ev vs D cs s) (ty : TypeId) : (Builtin.len_ #[171] ty #[.map (some mb)]).run Tryz.prog w = .ok (.int .i64 (s.ch.length : Int)) w := by
 have := h.mp.len Tryz.underlying171 ty
 rw [h.mi.sz, h.len] at this
 exact this
end
def ChP (R3 : Option (List Chn)) (N R : Nat) (ev : Value) (s : Gs) (w : World) (r : Ending) (w' : World) : Prop := ((R3 = none ∧ r = .returned (.bool false)) ∨ ∃ ch, R3 = some ch ∧ r = .returned (.bool true) ∧ GW w' N R ev { s with ch := ch }) ∧ Fb N w w'
theorem ChP.no {R3 : Option (List Chn)} {N R : Nat} {ev : Value} {s : Gs} {w w' : World} (h : R3 = none) (b : Fb N w w') : ChP R3 N R ev s w (.returned (.bool false)) w' := ⟨.inl ⟨h, rfl⟩, b⟩
theorem ChP.yes {R3 : Option (List Chn)} {N R mb : Nat} {ev vs : Value} {D : DataW Unit} {cs : List Sv} {s : Gs} {w w' : World} {ch : List Chn} (h : R3 = some ch) (g : GR w' N R mb ev vs D cs { s with ch := ch }) (b : Fb N w w') : ChP R3 N R ev s w (.returned (.bool true)) w' := ⟨.inr ⟨ch, h, rfl, mb, vs, D, cs, g⟩, b⟩
set_option maxRecDepth 100000 in
set_option maxHeartbeats 6400000 in
theorem numb_any {w : World} {N R c : Nat} {oa : Option Addr} {l : List Ev} {s : Gs} (h : GW w N R (.slice oa l.length c) s) (hA : EsAt w oa l) {i : Nat} {e : Ev} (hi : l[i]? = some e) (hch : s.ch.length ≤ 3000) (hNw : N ≤ w.heap.size) :
 Calls Tryz.prog 115 #[.pointer (some ⟨R, 0, none⟩), .int .i64 (i : Int)] w fun r w' => ChP (r3 s.ch e) N R (.slice oa l.length c) s w r w' := by
 obtain ⟨mb, vs, D, cs, h⟩ := h
 have hil : i < l.length := (List.getElem?_eq_some_iff.1 hi).1
 obtain ⟨b1, o1, rfl, -⟩ := hA i e hi
 obtain ⟨p0, p1, p2, p3, p4, p5, p6, p7⟩ := hA.read hi
 have hiM : (i : Int) < (l.length : Int) := by omega
 clear hA hi
 generalize l.length = M at *
 have H1 := hide (h.below (below_alloc w (.cells #[.int .i64 e.k, .int .i64 e.g, .int .i64 e.c, .int .i64 e.a, .int .i64 e.v, .int .i64 e.m, .bool e.s, .bool e.o] 50)))
 have E1 := hide (heap_new w (.cells #[.int .i64 e.k, .int .i64 e.g, .int .i64 e.c, .int .i64 e.a, .int .i64 e.v, .int .i64 e.m, .bool e.s, .bool e.o] 50))
 have B1 := hide (Fb.of (below_alloc w (.cells #[.int .i64 e.k, .int .i64 e.g, .int .i64 e.c, .int .i64 e.a, .int .i64 e.v, .int .i64 e.m, .bool e.s, .bool e.o] 50)) hNw)
 have c0 : w.cell? ⟨R, 0, none⟩ = some (.slice (some ⟨b1, o1, none⟩) M c) := cell_of h.hR 0
 have hRw : R < w.heap.size := heap_lt h.hR
 obtain ⟨R3, hR3⟩ : ∃ R3, r3 s.ch e = R3 := ⟨_, rfl⟩
 rw [hR3]
 unfold r3 at hR3
 clear h
 obtain ⟨E, hE⟩ : ∃ E, w.heap.size = E := ⟨_, rfl⟩
 go_enter Tryz.func115, Tryz.ntmps115
 go_upto_region 2 with fail
 rw [hE] at E1 hRw
 clear p0 p1 p2 p3 p4 p5 p6 p7 hE c0
 generalize w.alloc (.cells #[.int .i64 e.k, .int .i64 e.g, .int .i64 e.c, .int .i64 e.a, .int .i64 e.v, .int .i64 e.m, .bool e.s, .bool e.o] 50) = W1 at *
 have c2 : W1.cell? ⟨R, 2, none⟩ = some (.map (some mb)) := cell_of H1.out.hR 2
 have v0 : W1.cell? ⟨E, 0, none⟩ = some (.int .i64 e.k) := cell_of E1.out 0
 have v2 : W1.cell? ⟨E, 2, none⟩ = some (.int .i64 e.c) := cell_of E1.out 2
 have v4 : W1.cell? ⟨E, 4, none⟩ = some (.int .i64 e.v) := cell_of E1.out 4
 have LN : ∀ q ty, (Builtin.len_ #[171] ty #[.map (some mb)]).run Tryz.prog (W1.drewN q) = .ok (.int .i64 (s.ch.length : Int)) (W1.drewN q) := fun q ty => (H1.out.below (bdrew W1 q)).len_run ty
 obtain ⟨n, hn⟩ : ∃ n, s.ch.length = n := ⟨_, rfl⟩
 have HNn := hide hn
 rw [hn] at LN hR3 hch
 clear hn
 by_cases h2 : e.k = 2
 ·rw [if_pos h2] at hR3
  have d2 : (e.k == 2) = true := by simp [h2]
  clear h2
  by_cases hc : e.c = (n : Int)
  case neg =>
   rw [if_pos hc] at hR3
   have dc : (e.c != (n : Int)) = true := by simp [hc]
   go_wp2_with fail
   go_quiet (fail)
   go_wp2_with fail
   go_ret
   exact ChP.no hR3.symm (B1.out.trans (Fb.of (bdrew _ _) (by have := B1.out.size; omega)))
  rw [if_neg (by simp [hc])] at hR3
  have dc : (e.c != (n : Int)) = false := by simp [hc]
  rw [hc] at v2 dc
  have hcl : cs.length = n := by rw [H1.out.len, HNn.out]
  go_upto_region 3 with fail
  go_cut [23] (fun s23 wc => s23 = .bool false ∧ ∃ q, wc = W1.drewN q)
  case first =>
   go_quiet (fail)
   go_wp2_with fail
   go_meet
   case rel => exact ⟨by simp, _, rfl⟩
  case rest =>
  obtain ⟨rfl, q2, e2⟩ := hcut
  have K2 : Below W1.heap.size W1 wc := by rw [e2]; exact bdrew _ _
  have H2 := hide (H1.out.below K2)
  have E2 := hide (heap_below E1.out K2)
  have B2 := hide (B1.out.trans (Fb.of K2 (by have := B1.out.size; omega)))
  clear e2 K2 c2 v0 v2 v4 LN H1 E1 B1
  rename World => W2
  have c2' : W2.drew.cell? ⟨R, 2, none⟩ = some (.map (some mb)) := cell_of H2.out.hR 2
  have v2' : W2.drew.cell? ⟨E, 2, none⟩ = some (.int .i64 (n : Int)) := by rw [← hc]; exact cell_of E2.out 2
  have v4' : W2.drew.cell? ⟨E, 4, none⟩ = some (.int .i64 e.v) := cell_of E2.out 4
  obtain ⟨w3, mu, g3, b3, gr3⟩ := (H2.out.below (bdrew1 W2)).put (i := n) (by omega) (by omega) ⟨true, 0, 0, 0, 0, e.v, false⟩ ⟨e.v, [], false⟩ (VR.zero _ _ _ _) rfl rfl (fun _ _ _ _ q => by cases q) (fun q => by cases q) (fun q => by cases q)
  have MU : (Instr.mapUpdate 171 (.map (some mb)) (.int .i64 (n : Int)) (.agg #[.int .i64 e.v, .slice none 0 0, .bool false])).run Tryz.prog W2.drew = .ok () w3 := mu
  have hup : upl s.ch n ⟨e.v, [], false⟩ = s.ch ++ [⟨e.v, [], false⟩] := by unfold upl; rw [if_neg (by rw [HNn.out]; omega)]
  rw [hup] at g3
  have G3 := hide g3
  have E3 := hide ((gr3.block E (heap_lt (show W2.drew.heap[E]? = _ from E2.out)) (fun e => by injection e with e; have := heap_lt E2.out; obtain ⟨es, ck, hb, -⟩ := H2.out.mp; rw [← e, E2.out] at hb; cases hb)).trans (show W2.drew.heap[E]? = _ from E2.out))
  have B3 := hide ((B2.out.trans (Fb.of (bdrew1 W2) (by have := B2.out.size; omega))).trans b3)
  have LN3 : ∀ q ty, (Builtin.len_ #[171] ty #[.map (some mb)]).run Tryz.prog (w3.drewN q) = .ok (.int .i64 ((n : Int) + 1)) (w3.drewN q) := fun q ty => by
   have := (G3.out.below (bdrew w3 q)).len_run ty
   simp only [List.length_append, List.length_singleton, HNn.out] at this
   exact this
  have x2 : w3.cell? ⟨R, 2, none⟩ = some (.map (some mb)) := cell_of G3.out.hR 2
  have y2 : w3.cell? ⟨E, 2, none⟩ = some (.int .i64 (n : Int)) := by rw [← hc]; exact cell_of E3.out 2
  have dl : decide ((n : Int) < (n : Int) + 1) = true := by simp; omega
  clear mu b3 gr3 g3 hup
  go_upto_region 5 with fail
  go_cut [] (fun wc => wc = w3)
  case first =>
   go_region
   all_goals
    go_wp2_with fail
    go_meet
    case rel => rfl
  case rest =>
  obtain rfl := hcut
  clear MU c2' v2' v4'
  go_wp2_with fail
  go_quiet (fail)
  go_wp2_with fail
  go_ret
  exact ChP.yes hR3.symm (G3.out.below (bdrew _ _)) (B3.out.trans (Fb.of (bdrew _ _) (by have := B3.out.size; omega)))
 ·rw [if_neg h2] at hR3
  have d2 : (e.k == 2) = false := by simp [h2]
  clear h2
  by_cases hc : e.c < (n : Int)
  ·rw [if_pos hc] at hR3
   have dc : decide (e.c < (n : Int)) = true := decide_eq_true hc
   go_wp2_with fail
   go_quiet (fail)
   go_wp2_with fail
   go_ret
   exact ChP.yes hR3.symm (show GR _ N R mb _ vs D cs { s with ch := s.ch } from H1.out.below (bdrew _ _)) (B1.out.trans (Fb.of (bdrew _ _) (by have := B1.out.size; omega)))
  ·rw [if_neg hc] at hR3
   have dc : decide (e.c < (n : Int)) = false := decide_eq_false hc
   go_wp2_with fail
   go_quiet (fail)
   go_wp2_with fail
   go_ret
   exact ChP.no hR3.symm (B1.out.trans (Fb.of (bdrew _ _) (by have := B1.out.size; omega)))
end Gu
end Go.Proofs.YtblfimobiibmjaaGreat
namespace Go.Proofs.YtblfimobiibmjaaGreat
open Go.ChangeShapes Go.WideShapes Go.ChangeAt Go.RowKit
namespace Gu
open En Ba
def setEv (w : World) (R : Nat) (e : Ev) : World := ((((((((w.setCell ⟨R, 4, none⟩ (.int .i64 e.k)).setCell ⟨R, 5, none⟩ (.int .i64 e.g)).setCell ⟨R, 6, none⟩ (.int .i64 e.c)).setCell ⟨R, 7, none⟩ (.int .i64 e.a)).setCell ⟨R, 8, none⟩ (.int .i64 e.v)).setCell ⟨R, 9, none⟩ (.int .i64 e.m)).setCell ⟨R, 10, none⟩ (.bool e.s)).setCell ⟨R, 11, none⟩ (.bool e.o))
theorem setEv_heap {w : World} {R : Nat} {a0 a1 a2 a3 b0 b1 b2 b3 b4 b5 b6 b7 : Value} {T : TypeId} (h : w.heap[R]? = some (.cells #[a0, a1, a2, a3, b0, b1, b2, b3, b4, b5, b6, b7] T (0, 0))) (e : Ev) : (setEv w R e).heap[R]? = some (.cells #[a0, a1, a2, a3, .int .i64 e.k, .int .i64 e.g, .int .i64 e.c, .int .i64 e.a, .int .i64 e.v, .int .i64 e.m, .bool e.s, .bool e.o] T (0, 0)) := by
 unfold setEv
 have h0 := Ba.heap_setCell_same (i := 4) h (.int .i64 e.k)
 have h1 := Ba.heap_setCell_same (i := 5) h0 (.int .i64 e.g)
 have h2 := Ba.heap_setCell_same (i := 6) h1 (.int .i64 e.c)
 have h3 := Ba.heap_setCell_same (i := 7) h2 (.int .i64 e.a)
 have h4 := Ba.heap_setCell_same (i := 8) h3 (.int .i64 e.v)
 have h5 := Ba.heap_setCell_same (i := 9) h4 (.int .i64 e.m)
 have h6 := Ba.heap_setCell_same (i := 10) h5 (.bool e.s)
 have h7 := Ba.heap_setCell_same (i := 11) h6 (.bool e.o)
 rw [h7]
 simp
theorem setEv_kb (w : World) (R : Nat) (e : Ev) : KB R w (setEv w R e) := by
 unfold setEv
 have h0 := (KB.refl R w).setCell 4 (.int .i64 e.k)
 have h1 := h0.setCell 5 (.int .i64 e.g)
 have h2 := h1.setCell 6 (.int .i64 e.c)
 have h3 := h2.setCell 7 (.int .i64 e.a)
 have h4 := h3.setCell 8 (.int .i64 e.v)
 have h5 := h4.setCell 9 (.int .i64 e.m)
 have h6 := h5.setCell 10 (.bool e.s)
 exact h6.setCell 11 (.bool e.o)
theorem cellB3 {w w' : World} {a : Addr} {v : Value} (h : w.drew.cell? a = some v) (b : Below w.heap.size w w') : w'.drew.cell? a = some v := (b.cell (World.block_lt_of_cell? w _ h)).trans h
def SeP (R4 : Option Ev) (N R : Nat) (ev : Value) (s : Gs) (w : World) (r : Ending) (w' : World) : Prop := ((R4 = none ∧ r = .returned (.bool false)) ∨ ∃ la, R4 = some la ∧ r = .returned (.bool true) ∧ GW w' N R ev { s with la := la }) ∧ Fb N w w'
theorem SeP.no {R4 : Option Ev} {N R : Nat} {ev : Value} {s : Gs} {w w' : World} (h : R4 = none) (b : Fb N w w') : SeP R4 N R ev s w (.returned (.bool false)) w' := ⟨.inl ⟨h, rfl⟩, b⟩
theorem SeP.yes {R4 : Option Ev} {N R mb : Nat} {ev vs : Value} {D : DataW Unit} {cs : List Sv} {s : Gs} {w w' : World} {la : Ev} (h : R4 = some la) (g : GR w' N R mb ev vs D cs { s with la := la }) (b : Fb N w w') : SeP R4 N R ev s w (.returned (.bool true)) w' := ⟨.inr ⟨la, h, rfl, mb, vs, D, cs, g⟩, b⟩
set_option maxRecDepth 100000 in
set_option maxHeartbeats 6400000 in
theorem serv_any {w : World} {N R c : Nat} {oa : Option Addr} {l : List Ev} {s : Gs} (h : GW w N R (.slice oa l.length c) s) (hA : EsAt w oa l) {i : Nat} {e : Ev} (hi : l[i]? = some e) (hNw : N ≤ w.heap.size) :
 Calls Tryz.prog 116 #[.pointer (some ⟨R, 0, none⟩), .int .i64 (i : Int)] w fun r w' => SeP (r4 s.la e) N R (.slice oa l.length c) s w r w' := by
 obtain ⟨mb, vs, D, cs, h⟩ := h
 have hil : i < l.length := (List.getElem?_eq_some_iff.1 hi).1
 obtain ⟨b1, o1, rfl, -⟩ := hA i e hi
 have hA' := hA.below (bdrew1 w)
 obtain ⟨p0, p1, p2, p3, p4, p5, p6, p7⟩ := hA'.read hi
 have hiM : (i : Int) < (l.length : Int) := by omega
 have H0 := hide h
 have hRd : w.drew.heap[R]? = _ := h.hR
 have d4 : w.drew.cell? ⟨R, 4, none⟩ = some (.int .i64 s.la.k) := cell_of hRd 4
 have d5 : w.drew.cell? ⟨R, 5, none⟩ = some (.int .i64 s.la.g) := cell_of hRd 5
 have d6 : w.drew.cell? ⟨R, 6, none⟩ = some (.int .i64 s.la.c) := cell_of hRd 6
 have d7 : w.drew.cell? ⟨R, 7, none⟩ = some (.int .i64 s.la.a) := cell_of hRd 7
 have d8 : w.drew.cell? ⟨R, 8, none⟩ = some (.int .i64 s.la.v) := cell_of hRd 8
 have d9 : w.drew.cell? ⟨R, 9, none⟩ = some (.int .i64 s.la.m) := cell_of hRd 9
 have d10 : w.drew.cell? ⟨R, 10, none⟩ = some (.bool s.la.s) := cell_of hRd 10
 have d11 : w.drew.cell? ⟨R, 11, none⟩ = some (.bool s.la.o) := cell_of hRd 11
 have d0 : w.drew.cell? ⟨R, 0, none⟩ = some (.slice (some ⟨b1, o1, none⟩) l.length c) := cell_of hRd 0
 have nR0 : R ≠ w.heap.size := by have := heap_lt h.hR; omega
 have nR1 : R ≠ w.heap.size + 1 := by have := heap_lt h.hR; omega
 have nb0 : b1 ≠ w.heap.size := by have := World.block_lt_of_cell? w _ p0; simp only at this; omega
 have nb1 : b1 ≠ w.heap.size + 1 := by have := World.block_lt_of_cell? w _ p0; simp only at this; omega
 clear hA hA' hi hRd
 generalize l.length = M at *
 obtain ⟨R4, hR4⟩ : ∃ R4, r4 s.la e = R4 := ⟨_, rfl⟩
 rw [hR4]
 unfold r4 at hR4
 clear h
 go_enter Tryz.func116, Tryz.ntmps116
 go_upto_region 1 with fail
 have KEEP : ∀ o, (w.alloc o).drew.cell? ⟨R, 4, none⟩ = some (.int .i64 s.la.k) ∧ (w.alloc o).drew.cell? ⟨R, 5, none⟩ = some (.int .i64 s.la.g) ∧ (w.alloc o).drew.cell? ⟨R, 6, none⟩ = some (.int .i64 s.la.c) ∧ (w.alloc o).drew.cell? ⟨R, 7, none⟩ = some (.int .i64 s.la.a) ∧ (w.alloc o).drew.cell? ⟨R, 8, none⟩ = some (.int .i64 s.la.v) ∧ (w.alloc o).drew.cell? ⟨R, 9, none⟩ = some (.int .i64 s.la.m) ∧ (w.alloc o).drew.cell? ⟨R, 10, none⟩ = some (.bool s.la.s) ∧ (w.alloc o).drew.cell? ⟨R, 11, none⟩ = some (.bool s.la.o) ∧ (w.alloc o).drew.cell? ⟨R, 0, none⟩ = some (.slice (some ⟨b1, o1, none⟩) M c) ∧ (w.alloc o).drew.cell? ⟨b1, o1 + i * 8, none⟩ = some (.int .i64 e.k) ∧ (w.alloc o).drew.cell? ⟨b1, o1 + i * 8 + 1, none⟩ = some (.int .i64 e.g) ∧ (w.alloc o).drew.cell? ⟨b1, o1 + i * 8 + 2, none⟩ = some (.int .i64 e.c) ∧ (w.alloc o).drew.cell? ⟨b1, o1 + i * 8 + 3, none⟩ = some (.int .i64 e.a) ∧ (w.alloc o).drew.cell? ⟨b1, o1 + i * 8 + 4, none⟩ = some (.int .i64 e.v) ∧ (w.alloc o).drew.cell? ⟨b1, o1 + i * 8 + 5, none⟩ = some (.int .i64 e.m) ∧ (w.alloc o).drew.cell? ⟨b1, o1 + i * 8 + 6, none⟩ = some (.bool e.s) ∧ (w.alloc o).drew.cell? ⟨b1, o1 + i * 8 + 7, none⟩ = some (.bool e.o) := fun o => by
  refine ⟨?_, ?_, ?_, ?_, ?_, ?_, ?_, ?_, ?_, ?_, ?_, ?_, ?_, ?_, ?_, ?_, ?_⟩ <;> (refine cellB3 ?_ (below_alloc w o); assumption)
 have KEEP2 : ∀ o o', ((w.alloc o).alloc o').drew.cell? ⟨R, 4, none⟩ = some (.int .i64 s.la.k) ∧ ((w.alloc o).alloc o').drew.cell? ⟨R, 5, none⟩ = some (.int .i64 s.la.g) ∧ ((w.alloc o).alloc o').drew.cell? ⟨R, 6, none⟩ = some (.int .i64 s.la.c) ∧ ((w.alloc o).alloc o').drew.cell? ⟨R, 7, none⟩ = some (.int .i64 s.la.a) ∧ ((w.alloc o).alloc o').drew.cell? ⟨R, 8, none⟩ = some (.int .i64 s.la.v) ∧ ((w.alloc o).alloc o').drew.cell? ⟨R, 9, none⟩ = some (.int .i64 s.la.m) ∧ ((w.alloc o).alloc o').drew.cell? ⟨R, 10, none⟩ = some (.bool s.la.s) ∧ ((w.alloc o).alloc o').drew.cell? ⟨R, 11, none⟩ = some (.bool s.la.o) ∧ ((w.alloc o).alloc o').drew.cell? ⟨R, 0, none⟩ = some (.slice (some ⟨b1, o1, none⟩) M c) ∧ ((w.alloc o).alloc o').drew.cell? ⟨b1, o1 + i * 8, none⟩ = some (.int .i64 e.k) ∧ ((w.alloc o).alloc o').drew.cell? ⟨b1, o1 + i * 8 + 1, none⟩ = some (.int .i64 e.g) ∧ ((w.alloc o).alloc o').drew.cell? ⟨b1, o1 + i * 8 + 2, none⟩ = some (.int .i64 e.c) ∧ ((w.alloc o).alloc o').drew.cell? ⟨b1, o1 + i * 8 + 3, none⟩ = some (.int .i64 e.a) ∧ ((w.alloc o).alloc o').drew.cell? ⟨b1, o1 + i * 8 + 4, none⟩ = some (.int .i64 e.v) ∧ ((w.alloc o).alloc o').drew.cell? ⟨b1, o1 + i * 8 + 5, none⟩ = some (.int .i64 e.m) ∧ ((w.alloc o).alloc o').drew.cell? ⟨b1, o1 + i * 8 + 6, none⟩ = some (.bool e.s) ∧ ((w.alloc o).alloc o').drew.cell? ⟨b1, o1 + i * 8 + 7, none⟩ = some (.bool e.o) := fun o o' => by
  refine ⟨?_, ?_, ?_, ?_, ?_, ?_, ?_, ?_, ?_, ?_, ?_, ?_, ?_, ?_, ?_, ?_, ?_⟩ <;> (refine cellB3 ?_ (btr (below_alloc w o) (below_alloc _ o')); assumption)
 go_cut [5, 6] (fun s5 s6 wc => ∃ A B, s5 = .pointer (some ⟨A, 0, none⟩) ∧ s6 = .pointer (some ⟨B, 0, none⟩) ∧ wc.heap[A]? = some (.cells #[.int .i64 e.k, .int .i64 e.g, .int .i64 e.c, .int .i64 e.a, .int .i64 e.v, .int .i64 e.m, .bool e.s, .bool e.o] 50) ∧ wc.heap[B]? = some (.cells #[.int .i64 s.la.k, .int .i64 s.la.g, .int .i64 s.la.c, .int .i64 s.la.a, .int .i64 s.la.v, .int .i64 s.la.m, .bool s.la.s, .bool s.la.o] 50) ∧ Below w.heap.size w wc)
 case first =>
  go_region_held3 (fun w' => w'.cell? ⟨R, 4, none⟩ = some (.int .i64 s.la.k) ∧ w'.cell? ⟨R, 5, none⟩ = some (.int .i64 s.la.g) ∧ w'.cell? ⟨R, 6, none⟩ = some (.int .i64 s.la.c) ∧ w'.cell? ⟨R, 7, none⟩ = some (.int .i64 s.la.a) ∧ w'.cell? ⟨R, 8, none⟩ = some (.int .i64 s.la.v) ∧ w'.cell? ⟨R, 9, none⟩ = some (.int .i64 s.la.m) ∧ w'.cell? ⟨R, 10, none⟩ = some (.bool s.la.s) ∧ w'.cell? ⟨R, 11, none⟩ = some (.bool s.la.o) ∧ w'.cell? ⟨R, 0, none⟩ = some (.slice (some ⟨b1, o1, none⟩) M c) ∧ w'.cell? ⟨b1, o1 + i * 8, none⟩ = some (.int .i64 e.k) ∧ w'.cell? ⟨b1, o1 + i * 8 + 1, none⟩ = some (.int .i64 e.g) ∧ w'.cell? ⟨b1, o1 + i * 8 + 2, none⟩ = some (.int .i64 e.c) ∧ w'.cell? ⟨b1, o1 + i * 8 + 3, none⟩ = some (.int .i64 e.a) ∧ w'.cell? ⟨b1, o1 + i * 8 + 4, none⟩ = some (.int .i64 e.v) ∧ w'.cell? ⟨b1, o1 + i * 8 + 5, none⟩ = some (.int .i64 e.m) ∧ w'.cell? ⟨b1, o1 + i * 8 + 6, none⟩ = some (.bool e.s) ∧ w'.cell? ⟨b1, o1 + i * 8 + 7, none⟩ = some (.bool e.o))
   (first | exact KEEP _ | exact KEEP2 _ _ | (go_keep; done))
   (fail)
  all_goals
   go_wp2_with fail
   go_meet
   case rel =>
    first
     | exact ⟨w.heap.size, w.heap.size + 1, rfl, rfl, heap_below (heap_new w (.cells #[.int .i64 e.k, .int .i64 e.g, .int .i64 e.c, .int .i64 e.a, .int .i64 e.v, .int .i64 e.m, .bool e.s, .bool e.o] 50)) (btr (below_alloc _ (.cells #[.int .i64 s.la.k, .int .i64 s.la.g, .int .i64 s.la.c, .int .i64 s.la.a, .int .i64 s.la.v, .int .i64 s.la.m, .bool s.la.s, .bool s.la.o] 50)) (bdrew1 _)), (by have := heap_new (w.alloc (.cells #[.int .i64 e.k, .int .i64 e.g, .int .i64 e.c, .int .i64 e.a, .int .i64 e.v, .int .i64 e.m, .bool e.s, .bool e.o] 50)) (.cells #[.int .i64 s.la.k, .int .i64 s.la.g, .int .i64 s.la.c, .int .i64 s.la.a, .int .i64 s.la.v, .int .i64 s.la.m, .bool s.la.s, .bool s.la.o] 50); rw [World.size_alloc] at this; exact heap_below this (bdrew1 _)), btr (btr (below_alloc _ _) (below_alloc _ _)) (bdrew1 _)⟩
     | exact ⟨w.heap.size + 1, w.heap.size, rfl, rfl, (by have := heap_new (w.alloc (.cells #[.int .i64 s.la.k, .int .i64 s.la.g, .int .i64 s.la.c, .int .i64 s.la.a, .int .i64 s.la.v, .int .i64 s.la.m, .bool s.la.s, .bool s.la.o] 50)) (.cells #[.int .i64 e.k, .int .i64 e.g, .int .i64 e.c, .int .i64 e.a, .int .i64 e.v, .int .i64 e.m, .bool e.s, .bool e.o] 50); rw [World.size_alloc] at this; exact heap_below this (bdrew1 _)), heap_below (heap_new w (.cells #[.int .i64 s.la.k, .int .i64 s.la.g, .int .i64 s.la.c, .int .i64 s.la.a, .int .i64 s.la.v, .int .i64 s.la.m, .bool s.la.s, .bool s.la.o] 50)) (btr (below_alloc _ (.cells #[.int .i64 e.k, .int .i64 e.g, .int .i64 e.c, .int .i64 e.a, .int .i64 e.v, .int .i64 e.m, .bool e.s, .bool e.o] 50)) (bdrew1 _)), btr (btr (below_alloc _ _) (below_alloc _ _)) (bdrew1 _)⟩
 case rest =>
 obtain ⟨A, B, rfl, rfl, ea, eb, bl⟩ := hcut
 have EA := hide ea
 have EB := hide eb
 have H2 := hide (H0.out.below bl)
 have B2 := hide (Fb.of bl hNw)
 have nAR : A ≠ R := fun q => by rw [q, H2.out.hR] at ea; cases ea
 have nBR : B ≠ R := fun q => by rw [q, H2.out.hR] at eb; cases eb
 clear p0 p1 p2 p3 p4 p5 p6 p7 d0 d4 d5 d6 d7 d8 d9 d10 d11 ea eb bl H0
 rename World => W2
 have c4 : W2.cell? ⟨R, 4, none⟩ = some (.int .i64 s.la.k) := cell_of H2.out.hR 4
 have z4 := frozen_of H2.out.hR 4
 have c5 : W2.cell? ⟨R, 5, none⟩ = some (.int .i64 s.la.g) := cell_of H2.out.hR 5
 have z5 := frozen_of H2.out.hR 5
 have c6 : W2.cell? ⟨R, 6, none⟩ = some (.int .i64 s.la.c) := cell_of H2.out.hR 6
 have z6 := frozen_of H2.out.hR 6
 have c7 : W2.cell? ⟨R, 7, none⟩ = some (.int .i64 s.la.a) := cell_of H2.out.hR 7
 have z7 := frozen_of H2.out.hR 7
 have c8 : W2.cell? ⟨R, 8, none⟩ = some (.int .i64 s.la.v) := cell_of H2.out.hR 8
 have z8 := frozen_of H2.out.hR 8
 have c9 : W2.cell? ⟨R, 9, none⟩ = some (.int .i64 s.la.m) := cell_of H2.out.hR 9
 have z9 := frozen_of H2.out.hR 9
 have c10 : W2.cell? ⟨R, 10, none⟩ = some (.bool s.la.s) := cell_of H2.out.hR 10
 have z10 := frozen_of H2.out.hR 10
 have c11 : W2.cell? ⟨R, 11, none⟩ = some (.bool s.la.o) := cell_of H2.out.hR 11
 have z11 := frozen_of H2.out.hR 11
 have a0 : W2.cell? ⟨A, 0, none⟩ = some (.int .i64 e.k) := cell_of EA.out 0
 have a1 : W2.cell? ⟨A, 1, none⟩ = some (.int .i64 e.g) := cell_of EA.out 1
 have a2 : W2.cell? ⟨A, 2, none⟩ = some (.int .i64 e.c) := cell_of EA.out 2
 have a3 : W2.cell? ⟨A, 3, none⟩ = some (.int .i64 e.a) := cell_of EA.out 3
 have a4 : W2.cell? ⟨A, 4, none⟩ = some (.int .i64 e.v) := cell_of EA.out 4
 have a5 : W2.cell? ⟨A, 5, none⟩ = some (.int .i64 e.m) := cell_of EA.out 5
 have a6 : W2.cell? ⟨A, 6, none⟩ = some (.bool e.s) := cell_of EA.out 6
 have a7 : W2.cell? ⟨A, 7, none⟩ = some (.bool e.o) := cell_of EA.out 7
 have lb0 : W2.cell? ⟨B, 0, none⟩ = some (.int .i64 s.la.k) := cell_of EB.out 0
 have lb1 : W2.cell? ⟨B, 1, none⟩ = some (.int .i64 s.la.g) := cell_of EB.out 1
 have lb2 : W2.cell? ⟨B, 2, none⟩ = some (.int .i64 s.la.c) := cell_of EB.out 2
 have lb3 : W2.cell? ⟨B, 3, none⟩ = some (.int .i64 s.la.a) := cell_of EB.out 3
 have lb4 : W2.cell? ⟨B, 4, none⟩ = some (.int .i64 s.la.v) := cell_of EB.out 4
 have lb5 : W2.cell? ⟨B, 5, none⟩ = some (.int .i64 s.la.m) := cell_of EB.out 5
 have lb6 : W2.cell? ⟨B, 6, none⟩ = some (.bool s.la.s) := cell_of EB.out 6
 have lb7 : W2.cell? ⟨B, 7, none⟩ = some (.bool s.la.o) := cell_of EB.out 7
 have OW := hide (owed_any ⟨mb, vs, D, cs, H2.out⟩)
 have SETL : Hid (GR (setEv W2 R e) N R mb (.slice (some ⟨b1, o1, none⟩) M c) vs D cs { s with la := e }) := H2.out.setR (setEv_kb W2 R e) (s' := { s with la := e }) (setEv_heap H2.out.hR e) rfl rfl rfl
 have KK := hide (setEv_kb W2 R e)
 have SETB := hide (B2.out.kb KK.out H2.out.hN.1 hNw H2.out.hR (by decide))
 unfold setEv at SETL KK SETB
 obtain ⟨ow, how⟩ : ∃ ow, owed s.la = ow := ⟨_, rfl⟩
 rw [how] at OW hR4
 clear how
 go_wp2_with fail
 refine OW.out.mono ?_
 rintro r w3 ⟨rfl, e3⟩
 obtain rfl := e3.symm
 clear e3
 cases ow
 ·rw [if_neg (by simp)] at hR4
  by_cases h7 : e.k = 7
  case neg =>
   rw [if_pos h7] at hR4
   have d7 : (e.k != 7) = true := by simp [h7]
   clear h7
   go_wp2_with fail
   go_ret
   exact SeP.yes hR4.symm SETL.out SETB.out
  rw [if_neg (by simp [h7])] at hR4
  have d7 : (e.k != 7) = false := by simp [h7]
  clear h7 SETL SETB KK
  have hcp : closeP s.la e = ((s.la.k == 5) && (e.m == s.la.g) && (e.c == s.la.c) && !e.s && !e.o) := by
   unfold closeP
   rw [show decide (s.la.k = 5) = (s.la.k == 5) from by rw [Bool.eq_iff_iff]; simp, show decide (e.m = s.la.g) = (e.m == s.la.g) from by rw [Bool.eq_iff_iff]; simp, show decide (e.c = s.la.c) = (e.c == s.la.c) from by rw [Bool.eq_iff_iff]; simp]
  rw [hcp] at hR4
  clear hcp
  have YES : Hid (GR W2 N R mb (.slice (some ⟨b1, o1, none⟩) M c) vs D cs { s with la := s.la }) := H2.out
  cases q1 : (s.la.k == 5)
  ·rw [q1] at hR4
   simp only [Bool.false_and, Bool.false_eq_true, if_false] at hR4
   go_wp2_with fail
   go_ret
   exact SeP.no hR4.symm B2.out
  cases q2 : (e.m == s.la.g)
  ·rw [q1, q2] at hR4
   simp only [Bool.and_false, Bool.false_and, Bool.false_eq_true, if_false] at hR4
   go_wp2_with fail
   go_ret
   exact SeP.no hR4.symm B2.out
  cases q3 : (e.c == s.la.c)
  ·rw [q1, q2, q3] at hR4
   simp only [Bool.and_false, Bool.false_and, Bool.false_eq_true, if_false] at hR4
   go_wp2_with fail
   go_ret
   exact SeP.no hR4.symm B2.out
  cases q4 : e.s
  ·rw [q4] at a6 hR4
   cases q5 : e.o
   ·rw [q1, q2, q3, q5] at hR4
    rw [q5] at a7
    simp only [Bool.and_self, Bool.not_false, if_true] at hR4
    go_wp2_with fail
    go_ret
    exact SeP.yes hR4.symm YES.out B2.out
   ·rw [q1, q2, q3, q5] at hR4
    rw [q5] at a7
    simp only [Bool.and_false, Bool.not_true, Bool.false_eq_true, if_false] at hR4
    go_wp2_with fail
    go_ret
    exact SeP.no hR4.symm B2.out
  ·rw [q1, q2, q3, q4] at hR4
   rw [q4] at a6
   simp only [Bool.and_false, Bool.not_true, Bool.false_and, Bool.false_eq_true, if_false] at hR4
   go_wp2_with fail
   go_ret
   exact SeP.no hR4.symm B2.out
 ·rw [if_pos rfl] at hR4
  have PS := hide (fun u => pserves_any s.la e u)
  unfold evv evc at PS
  obtain ⟨sp, hsp⟩ : ∃ sp, servP s.la e = sp := ⟨_, rfl⟩
  rw [hsp] at PS hR4
  clear hsp
  go_upto_region 4 with fail
  have EA3 := hide (KK.out.heap EA.out nAR)
  have EB3 := hide (KK.out.heap EB.out nBR)
  clear c4 z4 a0 lb0 c5 z5 a1 lb1 c6 z6 a2 lb2 c7 z7 a3 lb3 c8 z8 a4 lb4 c9 z9 a5 lb5 c10 z10 a6 lb6 c11 z11 a7 lb7 KK
  generalize ((((((((W2.setCell ⟨R, 4, none⟩ (.int .i64 e.k)).setCell ⟨R, 5, none⟩ (.int .i64 e.g)).setCell ⟨R, 6, none⟩ (.int .i64 e.c)).setCell ⟨R, 7, none⟩ (.int .i64 e.a)).setCell ⟨R, 8, none⟩ (.int .i64 e.v)).setCell ⟨R, 9, none⟩ (.int .i64 e.m)).setCell ⟨R, 10, none⟩ (.bool e.s)).setCell ⟨R, 11, none⟩ (.bool e.o)) = W3 at *
  have a0 : W3.cell? ⟨A, 0, none⟩ = some (.int .i64 e.k) := cell_of EA3.out 0
  have lb0 : W3.cell? ⟨B, 0, none⟩ = some (.int .i64 s.la.k) := cell_of EB3.out 0
  have a1 : W3.cell? ⟨A, 1, none⟩ = some (.int .i64 e.g) := cell_of EA3.out 1
  have lb1 : W3.cell? ⟨B, 1, none⟩ = some (.int .i64 s.la.g) := cell_of EB3.out 1
  have a2 : W3.cell? ⟨A, 2, none⟩ = some (.int .i64 e.c) := cell_of EA3.out 2
  have lb2 : W3.cell? ⟨B, 2, none⟩ = some (.int .i64 s.la.c) := cell_of EB3.out 2
  have a3 : W3.cell? ⟨A, 3, none⟩ = some (.int .i64 e.a) := cell_of EA3.out 3
  have lb3 : W3.cell? ⟨B, 3, none⟩ = some (.int .i64 s.la.a) := cell_of EB3.out 3
  have a4 : W3.cell? ⟨A, 4, none⟩ = some (.int .i64 e.v) := cell_of EA3.out 4
  have lb4 : W3.cell? ⟨B, 4, none⟩ = some (.int .i64 s.la.v) := cell_of EB3.out 4
  have a5 : W3.cell? ⟨A, 5, none⟩ = some (.int .i64 e.m) := cell_of EA3.out 5
  have lb5 : W3.cell? ⟨B, 5, none⟩ = some (.int .i64 s.la.m) := cell_of EB3.out 5
  have a6 : W3.cell? ⟨A, 6, none⟩ = some (.bool e.s) := cell_of EA3.out 6
  have lb6 : W3.cell? ⟨B, 6, none⟩ = some (.bool s.la.s) := cell_of EB3.out 6
  have a7 : W3.cell? ⟨A, 7, none⟩ = some (.bool e.o) := cell_of EA3.out 7
  have lb7 : W3.cell? ⟨B, 7, none⟩ = some (.bool s.la.o) := cell_of EB3.out 7
  go_wp2_with fail
  refine (PS.out _).mono ?_
  rintro r w4 ⟨rfl, b4⟩
  have G4 := hide (SETL.out.below b4)
  have B4 := hide (SETB.out.trans (Fb.of b4 (by have := SETB.out.size; omega)))
  clear b4
  cases sp
  ·rw [if_neg (by simp)] at hR4
   go_wp2_with fail
   go_ret
   exact SeP.no hR4.symm B4.out
  ·rw [if_pos rfl] at hR4
   go_wp2_with fail
   go_ret
   exact SeP.yes hR4.symm G4.out B4.out
end Gu
end Go.Proofs.YtblfimobiibmjaaGreat
namespace Go.Proofs.YtblfimobiibmjaaGreat
open Go.ChangeShapes Go.WideShapes Go.ChangeAt Go.RowKit
namespace Gu
open En Ba
theorem chk_c {e : Ev} (h : chk e = 0) : -1 ≤ e.c ∧ e.c ≤ 511 := by
 have hk : ¬ (e.k < 1 ∨ 13 < e.k) := fun q => by simp [chk, q] at h
 have hb : (ff e && okF e) = true := by
  apply Classical.byContradiction
  intro q
  simp [chk, hk, q] at h
 have hf : ff e = true := by revert hb; cases ff e <;> simp
 have ho : okF e = true := by revert hb; rw [hf]; simp
 have o1 := okF_at ho 1 (by decide)
 obtain ⟨k, g, c, a, v, m, s, o⟩ := e
 simp only at hk
 have hc : k = 1 ∨ k = 2 ∨ k = 3 ∨ k = 4 ∨ k = 5 ∨ k = 6 ∨ k = 7 ∨ k = 8 ∨ k = 9 ∨ k = 10 ∨ k = 11 ∨ k = 12 ∨ k = 13 := by omega
 clear h hk hb ho hf
 rcases hc with rfl | rfl | rfl | rfl | rfl | rfl | rfl | rfl | rfl | rfl | rfl | rfl | rfl <;>
  simp [okA, spn, fl, Ba.nth, inS, ml, mh] at o1 <;>
  (try (by_cases ha : a = -1 <;> simp [ha] at o1)) <;>
  (simp only; omega)
section
variable {w w' : World} {N R mb : Nat} {ev vs : Value} {D : DataW Unit} {cs : List Sv} {s : Gs}
theorem GR.look (h : GR w N R mb ev vs D cs s) (g : Int) (hg : -1 ≤ g ∧ g ≤ 100000) : ∃ x, (∀ u, Below w.heap.size w u → (Instr.lookup 171 (.map (some mb)) (.int .i64 g) false).run Tryz.prog u = .ok (chV x) u) ∧ ((0 ≤ g ∧ g < cs.length) → cs[g.toNat]? = some x) ∧ Sn x := by
 have key : ∀ u, Below w.heap.size w u → ∃ v, (Instr.lookup 171 (.map (some mb)) (.int .i64 g) false).run Tryz.prog u = .ok v u ∧ ∃ ps, mE v = some (D.atKey (kl g) (chD sv0), ps) := fun u b => by
  obtain ⟨v, ps, h1, h2⟩ := (h.below b).mp.lookup law Tryz.underlying171 (zero_ch u) mE_z (key_kl hg)
  exact ⟨v, h1, ps, h2⟩
 by_cases hin : 0 ≤ g ∧ g < cs.length
 ·obtain ⟨x, hx⟩ : ∃ x, cs[g.toNat]? = some x := ⟨_, List.getElem?_eq_getElem (by omega)⟩
  have hat : D.atKey (kl g) (chD sv0) = chD x := by
   have := h.mi.at_ g.toNat x (chD sv0) hx
   rwa [show ((g.toNat : Nat) : Int) = g from by omega] at this
  obtain ⟨v0, -, ps0, h0⟩ := key w (Below.refl _ _)
  rw [hat] at h0
  refine ⟨x, fun u b => ?_, fun _ => hx, (mE_inv h0).2⟩
  obtain ⟨v, h1, ps, h2⟩ := key u b
  rw [hat] at h2
  rw [h1, (mE_inv h2).1]
 ·have hat : D.atKey (kl g) (chD sv0) = chD sv0 := h.mi.no hin _
  refine ⟨sv0, fun u b => ?_, fun q => absurd q hin, fun _ => ⟨rfl, rfl, rfl, rfl⟩⟩
  obtain ⟨v, h1, ps, h2⟩ := key u b
  rw [hat] at h2
  rw [h1, (mE_inv h2).1]
theorem GR.kb (h : GR w N R mb ev vs D cs s) {C : Nat} {cc : Array Value} (hC : w.heap[C]? = some (.cells cc 223 (0, 0))) (k : KB C w w') : GR w' N R mb ev vs D cs s := by
 have nC : ∀ {b : Nat} {o : Obj}, w.heap[b]? = some o → o ≠ .cells cc 223 (0, 0) → w'.heap[b]? = some o := fun hb ho => k.heap hb (fun q => by rw [q, hC] at hb; cases hb; exact ho rfl)
 refine ⟨h.hN, nC h.hR (fun q => by cases q), own_kb h.st k ?_, ?_, h.mi, h.len, fun i x c hx hc => ?_, h.dj, h.dv⟩
 ·rcases h.st.2 with ⟨rfl, -⟩ | ⟨g, cap, cur, rfl, -, q3, -⟩
  ·intro e; cases e
  ·intro e; cases e; rw [q3] at hC; cases hC
 ·obtain ⟨es, ck, hb, r⟩ := h.mp
  exact ⟨es, ck, nC hb (fun q => by cases q), r⟩
 ·obtain ⟨v, r⟩ := h.ch i x c hx hc
  refine ⟨v.keep fun hn => ?_, r⟩
  obtain ⟨-, cur, hb, -⟩ := v.row hn
  rw [nC hb (fun q => by cases q), hb]
theorem svs_sl (x : Sv) (h : Sn x) : ∃ so sc, svs x = .slice so x.n sc := by
 unfold svs
 cases hn : x.nil
 ·exact ⟨_, _, rfl⟩
 ·obtain ⟨-, -, h3, -⟩ := h hn
  exact ⟨none, 0, by rw [h3]; rfl⟩
end
theorem upl_set {α : Type} {l : List α} {i : Nat} (h : i < l.length) (x : α) : upl l i x = l.set i x := by unfold upl; rw [if_pos h]
set_option maxRecDepth 100000 in
set_option maxHeartbeats 6400000 in
theorem clos_any {w : World} {N R c : Nat} {oa : Option Addr} {l : List Ev} {s : Gs} (h : GW w N R (.slice oa l.length c) s) (hA : EsAt w oa l) {i : Nat} {e : Ev} (hi : l[i]? = some e) (hc : -1 ≤ e.c ∧ e.c ≤ 511) (hin : e.k = 3 ∨ e.k = 4 ∨ e.k = 5 → 0 ≤ e.c ∧ e.c < s.ch.length) (hch : s.ch.length ≤ 3000) (hvs : ∀ (j : Nat) d, s.ch[j]? = some d → d.vs.length ≤ 3000) (hNw : N ≤ w.heap.size) :
 Calls Tryz.prog 118 #[.pointer (some ⟨R, 0, none⟩), .int .i64 (i : Int)] w fun r w' => ChP (r6 s.ch e) N R (.slice oa l.length c) s w r w' := by
 obtain ⟨mb, vs, D, cs, h⟩ := h
 have hil : i < l.length := (List.getElem?_eq_some_iff.1 hi).1
 obtain ⟨b1, o1, rfl, -⟩ := hA i e hi
 obtain ⟨p0, p1, p2, p3, p4, p5, p6, p7⟩ := hA.read hi
 have hiM : (i : Int) < (l.length : Int) := by omega
 clear hA hi
 generalize l.length = M at *
 have H1 := hide (h.below (below_alloc w (.cells #[.int .i64 e.k, .int .i64 e.g, .int .i64 e.c, .int .i64 e.a, .int .i64 e.v, .int .i64 e.m, .bool e.s, .bool e.o] 50)))
 have E1 := hide (heap_new w (.cells #[.int .i64 e.k, .int .i64 e.g, .int .i64 e.c, .int .i64 e.a, .int .i64 e.v, .int .i64 e.m, .bool e.s, .bool e.o] 50))
 have B1 := hide (Fb.of (below_alloc w (.cells #[.int .i64 e.k, .int .i64 e.g, .int .i64 e.c, .int .i64 e.a, .int .i64 e.v, .int .i64 e.m, .bool e.s, .bool e.o] 50)) hNw)
 have c0 : w.cell? ⟨R, 0, none⟩ = some (.slice (some ⟨b1, o1, none⟩) M c) := cell_of h.hR 0
 have hRw : R < w.heap.size := heap_lt h.hR
 obtain ⟨R6, hR6⟩ : ∃ R6, r6 s.ch e = R6 := ⟨_, rfl⟩
 rw [hR6]
 unfold r6 at hR6
 simp only at hR6
 clear h
 obtain ⟨E, hE⟩ : ∃ E, w.heap.size = E := ⟨_, rfl⟩
 go_enter Tryz.func118, Tryz.ntmps118
 go_upto_region 2 with fail
 rw [hE] at E1 hRw
 clear p0 p1 p2 p3 p4 p5 p6 p7 hE c0
 generalize w.alloc (.cells #[.int .i64 e.k, .int .i64 e.g, .int .i64 e.c, .int .i64 e.a, .int .i64 e.v, .int .i64 e.m, .bool e.s, .bool e.o] 50) = W1 at *
 obtain ⟨x, lk, hx, hsn⟩ := H1.out.look e.c (by omega)
 obtain ⟨so, sc, hsv⟩ := svs_sl x hsn
 have LK0 : (Instr.lookup 171 (.map (some mb)) (.int .i64 e.c) false).run Tryz.prog W1.drew = .ok (.agg #[.int .i64 x.cap, .slice so x.n sc, .bool x.cl]) W1.drew := by rw [lk _ (bdrew1 _)]; unfold chV; rw [hsv]
 have LK1 : ∀ o, (Instr.lookup 171 (.map (some mb)) (.int .i64 e.c) false).run Tryz.prog (W1.alloc o).drew = .ok (.agg #[.int .i64 x.cap, .slice so x.n sc, .bool x.cl]) (W1.alloc o).drew := fun o => by rw [lk _ (btr (below_alloc W1 o) (bdrew1 _))]; unfold chV; rw [hsv]
 have c2 : W1.drew.cell? ⟨R, 2, none⟩ = some (.map (some mb)) := cell_of H1.out.hR 2
 have c2' : ∀ o, (W1.alloc o).drew.cell? ⟨R, 2, none⟩ = some (.map (some mb)) := fun o => cellB3 c2 (below_alloc _ o)
 have v2 : W1.drew.cell? ⟨E, 2, none⟩ = some (.int .i64 e.c) := cell_of E1.out 2
 have v2' : ∀ o, (W1.alloc o).drew.cell? ⟨E, 2, none⟩ = some (.int .i64 e.c) := fun o => cellB3 v2 (below_alloc _ o)
 have LKX := hide lk
 clear lk
 go_cut [6] (fun s6 wc => ∃ C, s6 = .pointer (some ⟨C, 0, none⟩) ∧ wc.heap[C]? = some (.cells #[.int .i64 x.cap, .slice so x.n sc, .bool x.cl] 223 (0, 0)) ∧ W1.heap.size ≤ C ∧ Below W1.heap.size W1 wc)
 case first =>
  go_region
  all_goals
   go_wp2_with fail
   go_meet
   case rel => exact ⟨W1.heap.size, rfl, heap_below (heap_new W1 _) (bdrew1 _), Nat.le_refl _, btr (below_alloc _ _) (bdrew1 _)⟩
 case rest =>
 obtain ⟨C, rfl, ec, hCs, bl⟩ := hcut
 have hCN : N ≤ C := by have := B1.out.size; omega
 have H2 := hide (H1.out.below bl)
 have E2 := hide (heap_below E1.out bl)
 have C2 := hide ec
 have B2 := hide (B1.out.trans (Fb.of bl (by have := B1.out.size; omega)))
 clear LK0 LK1 c2 c2' v2 v2' ec bl H1 E1 B1 LKX
 rename World => W2
 have v0 : W2.cell? ⟨E, 0, none⟩ = some (.int .i64 e.k) := cell_of E2.out 0
 have v2 : W2.cell? ⟨E, 2, none⟩ = some (.int .i64 e.c) := cell_of E2.out 2
 have v5 : W2.cell? ⟨E, 5, none⟩ = some (.int .i64 e.m) := cell_of E2.out 5
 have v7 : W2.cell? ⟨E, 7, none⟩ = some (.bool e.o) := cell_of E2.out 7
 have y0 : W2.cell? ⟨C, 0, none⟩ = some (.int .i64 x.cap) := cell_of C2.out 0
 have y1 : W2.cell? ⟨C, 1, none⟩ = some (.slice so x.n sc) := cell_of C2.out 1
 have y2 : W2.cell? ⟨C, 2, none⟩ = some (.bool x.cl) := cell_of C2.out 2
 have f2 := frozen_of C2.out 2
 have SAME : Hid (GR W2 N R mb (.slice (some ⟨b1, o1, none⟩) M c) vs D cs { s with ch := s.ch }) := H2.out
 by_cases hk : e.k = 3 ∨ e.k = 4 ∨ e.k = 5
 case neg =>
  have k3 : ¬ e.k = 3 := fun q => hk (.inl q)
  have k4 : ¬ e.k = 4 := fun q => hk (.inr (.inl q))
  have k5 : ¬ e.k = 5 := fun q => hk (.inr (.inr q))
  rw [if_neg k5, if_neg k3, if_neg k4] at hR6
  have d3 : (e.k == 3) = false := by simp [k3]
  have d4 : (e.k == 4) = false := by simp [k4]
  have d5 : (e.k == 5) = false := by simp [k5]
  clear hk k3 k4 k5 hin
  go_wp2_with fail
  go_ret
  exact ChP.yes hR6.symm SAME.out B2.out
 obtain ⟨g0, g1⟩ := hin hk
 obtain ⟨j, hj⟩ : ∃ j : Nat, e.c = (j : Int) := ⟨e.c.toNat, by omega⟩
 have hjl : j < s.ch.length := by omega
 have hxj : cs[j]? = some x := by have := hx ⟨g0, by rw [H2.out.len]; exact g1⟩; rwa [hj, Int.toNat_natCast] at this
 obtain ⟨d, hd⟩ : ∃ d, s.ch[j]? = some d := ⟨_, List.getElem?_eq_getElem hjl⟩
 obtain ⟨vr, hcap, hcl⟩ := H2.out.ch j x d hxj hd
 have hgd : s.ch.getD e.c.toNat chz = d := by rw [hj, Int.toNat_natCast, List.getD_eq_getElem?_getD, hd]; rfl
 rw [hgd] at hR6
 have hxn : x.n = d.vs.length := vr.len
 have hnb : d.vs.length ≤ 3000 := hvs j d hd
 by_cases k5 : e.k = 5
 ·rw [if_pos k5] at hR6
  have d5 : (e.k == 5) = true := by simp [k5]
  cases hq : d.cl
  case true =>
   rw [hq, if_pos rfl] at hR6
   rw [hcl, hq] at y2
   clear k5 hk
   go_wp2_with fail
   go_ret
   exact ChP.no hR6.symm B2.out
  rw [hq, if_neg (by simp)] at hR6
  have hxc : x.cl = false := by rw [hcl, hq]
  rw [hxc] at y2
  have C3 := hide (Ba.heap_setCell_same (i := 2) C2.out (.bool true))
  have K3 := (KB.refl C W2).setCell 2 (.bool true)
  have E3 := hide (K3.heap E2.out (fun q => by have := E2.out; rw [q, C2.out] at this; simp at this))
  have H3 := hide (H2.out.kb C2.out K3)
  have B3 := hide (B2.out.kb K3 hCN hNw C2.out (by decide))
  have z2 : (W2.setCell ⟨C, 2, none⟩ (.bool true)).drew.cell? ⟨R, 2, none⟩ = some (.map (some mb)) := cell_of H3.out.hR 2
  have u2 : (W2.setCell ⟨C, 2, none⟩ (.bool true)).drew.cell? ⟨E, 2, none⟩ = some (.int .i64 (j : Int)) := by rw [← hj]; exact cell_of E3.out 2
  have w0 : (W2.setCell ⟨C, 2, none⟩ (.bool true)).drew.cell? ⟨C, 0, none⟩ = some (.int .i64 x.cap) := cell_of C3.out 0
  have w1 : (W2.setCell ⟨C, 2, none⟩ (.bool true)).drew.cell? ⟨C, 1, none⟩ = some (.slice so x.n sc) := cell_of C3.out 1
  have w2 : (W2.setCell ⟨C, 2, none⟩ (.bool true)).drew.cell? ⟨C, 2, none⟩ = some (.bool true) := cell_of C3.out 2
  clear K3 C3 E3
  go_upto_region 8 with fail
  generalize W2.setCell ⟨C, 2, none⟩ (.bool true) = W3 at *
  have H4 := H3.out.below (bdrew1 W3)
  obtain ⟨vr, -, -⟩ := H4.ch j x d hxj hd
  obtain ⟨w4, mu, g4, b4, gr4⟩ := H4.put (i := j) (by rw [H4.len]; omega) (by rw [H4.len]; omega) ⟨x.nil, x.b, x.o, x.n, x.c, x.cap, true⟩ ⟨d.cap, d.vs, true⟩ ⟨vr.sn, vr.len, vr.row⟩ hcap rfl (fun k y hy hne q1 q2 => H4.dj j k x y hxj hy (Ne.symm hne) q1 q2) (fun q => H4.dv j x hxj q) (fun q => H4.noM.2 j x hxj q)
  have MU : (Instr.mapUpdate 171 (.map (some mb)) (.int .i64 (j : Int)) (.agg #[.int .i64 x.cap, .slice so x.n sc, .bool true])).run Tryz.prog W3.drew = .ok () w4 := by rw [← hsv]; exact mu
  rw [upl_set hjl] at g4
  rw [hj, Int.toNat_natCast] at hR6
  have G4 := hide g4
  have B4 := hide ((B3.out.trans (Fb.of (bdrew1 W3) (by have := B3.out.size; omega))).trans b4)
  clear mu g4 b4 gr4 H4 vr H3 B3 hcap hxn hcl hgd
  go_region
  all_goals
   go_wp2_with fail
   go_ret
   exact ChP.yes hR6.symm G4.out B4.out
 rw [if_neg k5] at hR6
 have d5 : (e.k == 5) = false := by simp [k5]
 by_cases k3 : e.k = 3
 ·rw [if_pos k3] at hR6
  have d3 : (e.k == 3) = true := by simp [k3]
  rw [hcl] at y2
  clear k3 k5 hk
  cases hq : d.cl
  ·rw [hq] at hR6 y2
   rw [if_neg (by simp)] at hR6
   go_wp2_with fail
   go_ret
   exact ChP.yes hR6.symm SAME.out B2.out
  ·rw [hq] at hR6 y2
   rw [if_pos rfl] at hR6
   go_wp2_with fail
   go_ret
   exact ChP.no hR6.symm B2.out
 rw [if_neg k3] at hR6
 have d3 : (e.k == 3) = false := by simp [k3]
 have k4 : e.k = 4 := by omega
 rw [if_pos k4] at hR6
 have d4 : (e.k == 4) = true := by simp [k4]
 rw [hcl] at y2
 clear k3 k5 k4 hk
 cases ho : e.o
 ·rw [ho] at v7
  rw [if_pos ho] at hR6
  cases hq : d.cl
  ·rw [hq] at hR6 y2
   rw [if_neg (by simp)] at hR6
   go_wp2_with fail
   go_ret
   exact ChP.no hR6.symm B2.out
  ·rw [hq] at hR6 y2
   rw [hxn] at y1
   obtain ⟨n, hn⟩ : ∃ n, d.vs.length = n := ⟨_, rfl⟩
   rw [hn] at y1 hnb
   by_cases hn0 : n = 0
   ·have hz : ((n : Int) == 0) = true := by simp [hn0]
    have hz2 : (n == 0) = true := by simp [hn0]
    rw [if_pos (by rw [Bool.true_and, List.isEmpty_iff, ← List.length_eq_zero_iff, hn, hn0])] at hR6
    clear hn0 hn
    go_wp2_with fail
    go_ret
    exact ChP.yes hR6.symm SAME.out B2.out
   ·have hz : ((n : Int) == 0) = false := by simp; omega
    have hz2 : (n == 0) = false := by simp [hn0]
    rw [if_neg (by simp; intro q; rw [q] at hn; exact hn0 hn.symm)] at hR6
    clear hn0 hn
    go_wp2_with fail
    go_ret
    exact ChP.no hR6.symm B2.out
 ·rw [ho] at v7
  rw [if_neg (by simp [ho])] at hR6
  by_cases hm1 : e.m = -1
  ·have dm : (e.m == -1) = true := by simp [hm1]
   rw [if_pos (.inl hm1)] at hR6
   clear hm1
   go_wp2_with fail
   go_ret
   exact ChP.yes hR6.symm SAME.out B2.out
  ·have dm : (e.m == -1) = false := by simp [hm1]
   cases hq : d.cl
   ·rw [hq] at hR6 y2
    rw [if_pos (.inr rfl)] at hR6
    clear hm1
    go_wp2_with fail
    go_ret
    exact ChP.yes hR6.symm SAME.out B2.out
   ·rw [hq] at hR6 y2
    rw [if_neg (by simp [hm1])] at hR6
    clear hm1
    go_wp2_with fail
    go_ret
    exact ChP.no hR6.symm B2.out
end Gu
end Go.Proofs.YtblfimobiibmjaaGreat
