/- Package sheet: Decode, over this seat's program. -/
import Derived.Test.YtgnhophlnbpcgaaHh
import Derived.Deep.DeepCutAuto
import Derived.Deep.RegionWith
namespace Go.Proofs.Ytgnhophlnbpcgaa
open Go.ChangeShapes Go.WideShapes Go.ChangeAt Go.RowKit
namespace Sh
open De Ba Re

/-- so many programs from z on, of p programs, and where one stands behind them -/
def rprogs (p : Int) (s : ByteArray) (z : Nat) : Nat → Option (List (List OpD) × Nat)
  | 0 => some ([], z)
  | n + 1 => match rprogs p s z n with
    | none => none
    | some (l, y) => match rprog p s y with
      | none => none
      | some (q, y') => some (l ++ [q], y')
theorem rprogs_stop {p : Int} {s : ByteArray} {z j : Nat} {l : List (List OpD)} {y : Nat} (h : rprogs p s z j = some (l, y)) (hd : rprog p s y = none) : ∀ n, j < n → rprogs p s z n = none := by
  intro n hn
  obtain ⟨d, rfl⟩ : ∃ d, n = j + 1 + d := ⟨n - (j + 1), by omega⟩
  clear hn
  induction d with
  | zero => simp [rprogs, h, hd]
  | succ d ih => rw [← Nat.add_assoc, rprogs, ih]
theorem rprogs_next {p : Int} {s : ByteArray} {z j : Nat} {l : List (List OpD)} {y y' : Nat} {q : List OpD} (h : rprogs p s z j = some (l, y)) (hd : rprog p s y = some (q, y')) : rprogs p s z (j + 1) = some (l ++ [q], y') := by
  simp [rprogs, h, hd]
theorem rprogs_len {p : Int} {s : ByteArray} {z j : Nat} {l : List (List OpD)} {y : Nat} (h : rprogs p s z j = some (l, y)) : l.length = j := by
  induction j generalizing l y with
  | zero => simp [rprogs] at h; simp [h.1.symm]
  | succ j ih =>
    unfold rprogs at h
    split at h
    · cases h
    · rename_i l' y' h'
      split at h
      · cases h
      · simp at h
        rw [← h.1]
        simp [ih h']
/-- a script's head -/
def shead (s : ByteArray) : Option (Nat × Nat × Nat × Nat) := match up1 256 (nbs s) with
  | none => none
  | some (t, k1) => match up1 1048576 ((nbs s).drop k1) with
    | none => none
    | some (m, k2) => match up1 8 ((nbs s).drop (k1 + k2)) with
      | none => none
      | some (n, k3) => some (t, m, n, k1 + k2 + k3)
/-- the script that bytes are -/
def sdec (s : ByteArray) : Option Sc := match shead s with
  | none => none
  | some (t, m, n, z3) => match rprogs n s z3 n with
    | none => none
    | some (ps, z) => match tl ((nbs s).drop z) 200 with
      | .error _ => none
      | .ok (xs, k5) => match tl ((nbs s).drop (z + k5)) 64 with
        | .error _ => none
        | .ok (ys, k6) => if z + k5 + k6 = s.size ∧ schk ⟨t, m, ps, mv (-1) xs, ys⟩ = 0 then some ⟨t, m, ps, mv (-1) xs, ys⟩ else none
theorem up1_le {m : Int} {L : List Nat} {n k : Nat} (h : up1 m L = some (n, k)) : (n : Int) ≤ m ∧ k ≤ L.length := by
  unfold up1 at h
  split at h
  · cases h
  · rename_i n' k' ht
    split at h
    · simp at h
      obtain ⟨rfl, rfl⟩ := h
      exact ⟨by assumption, (Re.tk_le ht).2⟩
    · cases h
theorem ul3 (s : ByteArray) : (∃ (t m : Int) (z : Nat), ul s [256, 1048576, 8] 0 false = ([t, m, 0], z, true) ∧ shead s = none) ∨ (∃ t m n z : Nat, ul s [256, 1048576, 8] 0 false = ([(t : Int), (m : Int), (n : Int)], z, false) ∧ shead s = some (t, m, n, z) ∧ n ≤ 8) := by
  cases h1 : up1 256 (nbs s) with
  | none => exact .inl ⟨0, 0, 0, by rw [ul_n s 256 [1048576, 8] 0 false (by rw [List.drop_zero]; exact h1)]; rfl, by simp [shead, h1]⟩
  | some q1 =>
    obtain ⟨t, k1⟩ := q1
    have e1 := ul_s s 256 [1048576, 8] 0 t k1 (by rw [List.drop_zero]; exact h1)
    rw [Nat.zero_add] at e1
    cases h2 : up1 1048576 ((nbs s).drop k1) with
    | none =>
      have e2 := ul_n s 1048576 [8] k1 false h2
      exact .inl ⟨(t : Int), 0, k1, by rw [e1, e2]; rfl, by simp [shead, h1, h2]⟩
    | some q2 =>
      obtain ⟨m, k2⟩ := q2
      have e2 := ul_s s 1048576 [8] k1 m k2 h2
      cases h3 : up1 8 ((nbs s).drop (k1 + k2)) with
      | none =>
        have e3 := ul_n s 8 [] (k1 + k2) false h3
        exact .inl ⟨(t : Int), (m : Int), k1 + k2, by rw [e1, e2, e3]; rfl, by simp [shead, h1, h2, h3]⟩
      | some q3 =>
        obtain ⟨n, k3⟩ := q3
        have e3 := ul_s s 8 [] (k1 + k2) n k3 h3
        exact .inr ⟨t, m, n, k1 + k2 + k3, by rw [e1, e2, e3]; rfl, by simp [shead, h1, h2, h3], by have := (up1_le h3).1; omega⟩

theorem info_pr : (Try.prog.info? 56).map (fun i => (i.zero, i.size, i.bytes)) = some (some (.slice none 0 0), 1, 24) := by kernel_rfl
/-- what Decode keeps: the answer's room at Z, the reader at R, the programs at G, the script at B -/
theorem sx0' (s : ByteArray) : s.extract 0 s.size = s := nbs_inj (by rw [nbs_sfx]; rfl)
structure DC (w wr : World) (R G B : Nat) (s : ByteArray) (z : Nat) (f : Bool) (T M : Int) (n : Nat) (arr : Array Value) (v3 v4 : Value) : Prop where
  res : wr.heap[w.heap.size]? = some (.cells #[.int .i64 0, .int .i64 0, .slice none 0 0, .slice none 0 0, .slice none 0 0] 38 (0, 0))
  rd : RD2 wr R s z f
  sc : wr.heap[B]? = some (.cells #[.int .i64 T, .int .i64 M, .slice (some ⟨G, 0, none⟩) n n, v3, v4] 38 (0, 0))
  pr : wr.heap[G]? = some (.cells arr 56 (0, 0))
  sz : arr.size = n
  bel : Below w.heap.size w wr
  ne : w.heap.size < R ∧ R < G ∧ R < B ∧ G ≠ B
theorem DC.kb {w wr wr' : World} {R G B : Nat} {s : ByteArray} {z z' : Nat} {f f' : Bool} {T M : Int} {n : Nat} {arr : Array Value} {v3 v4 : Value} (h : DC w wr R G B s z f T M n arr v3 v4) (k : De.KB R wr wr') (hr : RD2 wr' R s z' f') : DC w wr' R G B s z' f' T M n arr v3 v4 := by
  have hn := h.ne
  exact ⟨k.heap h.res (by omega), hr, k.heap h.sc (by omega), k.heap h.pr (by omega), h.sz, De.KB.below h.bel k (by omega), hn⟩
theorem DC.below {w wr wr' : World} {R G B : Nat} {s : ByteArray} {z : Nat} {f : Bool} {T M : Int} {n : Nat} {arr : Array Value} {v3 v4 : Value} (h : DC w wr R G B s z f T M n arr v3 v4) (hb : Below wr.heap.size wr wr') : DC w wr' R G B s z f T M n arr v3 v4 :=
  ⟨heap_below h.res hb, heap_below h.rd hb, heap_below h.sc hb, heap_below h.pr hb, h.sz, btr h.bel hb, h.ne⟩

theorem DC.start {w w1 w2 : World} {G B : Nat} {s : ByteArray} {z : Nat} {f : Bool} {T M : Int} {n : Nat} {MC : Array Value} (hz : w1.heap[w.heap.size]? = some (.cells #[.int .i64 0, .int .i64 0, .slice none 0 0, .slice none 0 0, .slice none 0 0] 38 (0, 0))) (hr : RD2 w1 (w.heap.size + 1) s z f) (hb : Below w.heap.size w w1) (hm : MC.size = n) (h12 : Below w1.heap.size w1 w2) (hG : w2.heap[G]? = some (.cells MC 56 (0, 0))) (hB : w2.heap[B]? = some (.cells #[.int .i64 T, .int .i64 M, .slice (some ⟨G, 0, none⟩) n n, .slice none 0 0, .slice none 0 0] 38 (0, 0))) (hn : w.heap.size + 1 < G ∧ w.heap.size + 1 < B ∧ G ≠ B) : DC w w2 (w.heap.size + 1) G B s z f T M n MC (.slice none 0 0) (.slice none 0 0) :=
  ⟨heap_below hz h12, heap_below hr h12, hB, hG, hm, btr hb h12, by omega, hn⟩
theorem DC.store {w wr : World} {R G B : Nat} {s : ByteArray} {z : Nat} {f : Bool} {T M : Int} {n : Nat} {arr : Array Value} {v3 v4 : Value} (h : DC w wr R G B s z f T M n arr v3 v4) (k : Nat) (v : Value) : DC w (wr.setCell ⟨G, k, none⟩ v) R G B s z f T M n (arr.setIfInBounds k v) v3 v4 := by
  have hn := h.ne
  refine ⟨?_, ?_, ?_, Ba.heap_setCell_same h.pr v, by rw [Array.size_setIfInBounds]; exact h.sz, h.bel.setCell (by show w.heap.size ≤ G; omega) _, hn⟩
  · exact (Below.heap_setCell _ _ _ _ (by show w.heap.size ≠ G; omega)).trans h.res
  · exact (Below.heap_setCell _ _ _ _ (by show R ≠ G; omega)).trans h.rd
  · exact (Below.heap_setCell _ _ _ _ (by show B ≠ G; omega)).trans h.sc
theorem DC.set3 {w wr : World} {R G B : Nat} {s : ByteArray} {z : Nat} {f : Bool} {T M : Int} {n : Nat} {arr : Array Value} {v3 v4 : Value} (h : DC w wr R G B s z f T M n arr v3 v4) (v : Value) : DC w (wr.setCell ⟨B, 3, none⟩ v) R G B s z f T M n arr v v4 := by
  have hn := h.ne
  refine ⟨?_, ?_, Ba.heap_setCell_same h.sc v, ?_, h.sz, h.bel.setCell (by show w.heap.size ≤ B; omega) _, hn⟩
  · exact (Below.heap_setCell _ _ _ _ (by show w.heap.size ≠ B; omega)).trans h.res
  · exact (Below.heap_setCell _ _ _ _ (by show R ≠ B; omega)).trans h.rd
  · exact (Below.heap_setCell _ _ _ _ (by show G ≠ B; omega)).trans h.pr
theorem DC.set4 {w wr : World} {R G B : Nat} {s : ByteArray} {z : Nat} {f : Bool} {T M : Int} {n : Nat} {arr : Array Value} {v3 v4 : Value} (h : DC w wr R G B s z f T M n arr v3 v4) (v : Value) : DC w (wr.setCell ⟨B, 4, none⟩ v) R G B s z f T M n arr v3 v := by
  have hn := h.ne
  refine ⟨?_, ?_, Ba.heap_setCell_same h.sc v, ?_, h.sz, h.bel.setCell (by show w.heap.size ≤ B; omega) _, hn⟩
  · exact (Below.heap_setCell _ _ _ _ (by show w.heap.size ≠ B; omega)).trans h.res
  · exact (Below.heap_setCell _ _ _ _ (by show R ≠ B; omega)).trans h.rd
  · exact (Below.heap_setCell _ _ _ _ (by show G ≠ B; omega)).trans h.pr
/-- programs in a row of slices: each in a block of its own, from N on -/
def PF (w : World) (N : Nat) (arr : Array Value) (ps : List (List OpD)) : Prop :=
  ∀ (t : Nat) (q : List OpD), ps[t]? = some q → ∃ (g c : Nat), arr[t]? = some (.slice (some ⟨g, 0, none⟩) q.length c) ∧ OF w (g + 1) g q ∧ N ≤ g ∧ q.length ≤ 1000
theorem PF.kb {w w' : World} {N R : Nat} {arr : Array Value} {ps : List (List OpD)} (h : PF w N arr ps) (k : De.KB R w w') (hR : R < N) : PF w' N arr ps := by
  intro t q ht
  obtain ⟨g, c, h1, h2, h3, h4⟩ := h t q ht
  exact ⟨g, c, h1, h2.kb k (by omega) (by omega), h3, h4⟩
theorem PF.store {w : World} {N : Nat} {arr : Array Value} {ps : List (List OpD)} (h : PF w N arr ps) (k : Nat) (hk : ps.length = k) (hs : k < arr.size) (g c : Nat) (q : List OpD) (hq : OF w (g + 1) g q) (hN : N ≤ g) (h32 : q.length ≤ 1000) : PF w N (arr.setIfInBounds k (.slice (some ⟨g, 0, none⟩) q.length c)) (ps ++ [q]) := by
  intro t x ht
  by_cases e : t < ps.length
  · rw [List.getElem?_append_left e] at ht
    obtain ⟨g', c', h1, h2, h3, h4⟩ := h t x ht
    exact ⟨g', c', by rw [Array.getElem?_setIfInBounds_ne (by omega)]; exact h1, h2, h3, h4⟩
  · have hl := (List.getElem?_eq_some_iff.1 ht).1
    rw [List.length_append, List.length_cons, List.length_nil] at hl
    have : t = k := by omega
    subst this
    rw [List.getElem?_append_right (by omega), hk, Nat.sub_self] at ht
    simp at ht
    subst ht
    exact ⟨g, c, by rw [Array.getElem?_setIfInBounds_self_of_lt hs], hq, hN, h32⟩
theorem PF.at {w : World} {N G : Nat} {arr : Array Value} {ps : List (List OpD)} {t : TypeId} (h : PF w N arr ps) (hg : w.heap[G]? = some (.cells arr t (0, 0))) : PAt w (some ⟨G, 0, none⟩) ps := by
  intro k q hk
  obtain ⟨g, c, h1, h2, _, h4⟩ := h k q hk
  exact ⟨G, 0, _, _, rfl, by rw [Nat.zero_add, cell_of hg]; exact h1, h2.at, by unfold maxLen; omega⟩
/-- what the reader's program leaves, its slice apart -/
def PRS (w : World) (R : Nat) (s : ByteArray) (z : Nat) (f : Bool) (p : Int) (oa : Option Addr) (m c : Nat) (w' : World) : Prop :=
  ((f = true ∨ rprog p s z = none) ∧ m = 0 ∧ ∃ y, y ≤ s.size ∧ RD2 w' R s y true) ∨
  (f = false ∧ ∃ q y g, rprog p s z = some (q, y) ∧ (oa = some ⟨g, 0, none⟩ ∧ m = q.length ∧ c = c) ∧ (OF w' (g + 1) g q ∧ w.heap.size ≤ g ∧ q.length ≤ 32) ∧ y ≤ s.size ∧ RD2 w' R s y false)
theorem PR.slice {w : World} {R : Nat} {s : ByteArray} {z : Nat} {f : Bool} {p : Int} {r : Ending} {w' : World} (h : PR w R s z f p r w') : ∃ oa m c, r = .returned (.slice oa m c) ∧ PRS w R s z f p oa m c w' := by
  rcases h with ⟨h1, ⟨oa, c, h2⟩, h3⟩ | ⟨h1, q, y, g, c, h2, h3, h4⟩
  · exact ⟨oa, 0, c, h2, .inl ⟨h1, rfl, h3⟩⟩
  · exact ⟨_, _, c, h3, .inr ⟨h1, q, y, g, h2, ⟨rfl, rfl, rfl⟩, h4⟩⟩
/-- what the head has told -/
def HD (s : ByteArray) (T M : Int) (n z : Nat) (f : Bool) : Prop := (f = true ∧ sdec s = none) ∨ (f = false ∧ ∃ t m : Nat, T = t ∧ M = m ∧ shead s = some (t, m, n, z))
/-- how far programs are read -/
def LP (s : ByteArray) (T M : Int) (n z k y : Nat) (f : Bool) (w : World) (N : Nat) (arr : Array Value) (ps : List (List OpD)) : Prop := (f = true ∧ sdec s = none) ∨ (f = false ∧ (∃ t m : Nat, T = t ∧ M = m ∧ shead s = some (t, m, n, z)) ∧ rprogs n s z k = some (ps, y) ∧ PF w N arr ps)
/-- what Decode answers -/
def DRes (s : ByteArray) (r : Ending) (w' : World) : Prop :=
  (sdec s = none ∧ r = .returned (.tuple #[.agg #[.int .i64 0, .int .i64 0, .slice none 0 0, .slice none 0 0, .slice none 0 0], .int .i64 4])) ∨
  ∃ T M ps pl dr pa la da pc lc dc, sdec s = some ⟨T, M, ps, pl, dr⟩ ∧ r = .returned (.tuple #[.agg #[.int .i64 T, .int .i64 M, .slice pa ps.length pc, .slice la pl.length lc, .slice da dr.length dc], .int .i64 0]) ∧ SAt w' ⟨T, M, ps, pl, dr⟩ pa la da
theorem tst_bd {L : List Nat} : ∀ {i : Nat} {xs : List Int} {o : Nat}, tst L i = some (xs, o) → ∀ x ∈ xs, 0 ≤ x ∧ x ≤ 1099511627776
  | 0, xs, o, h => by
    simp [tst] at h
    obtain ⟨rfl, rfl⟩ := h
    intro x hx
    cases hx
  | i + 1, xs, o, h => by
    unfold tst at h
    split at h
    · cases h
    · rename_i ys o' hq
      split at h
      · cases h
      · rename_i x k ht
        simp at h
        obtain ⟨rfl, rfl⟩ := h
        intro y hy
        rw [List.mem_append] at hy
        rcases hy with hy | hy
        · exact tst_bd hq y hy
        · simp at hy
          subst hy
          have := Re.tk_bound ht
          omega
theorem tl_bd {L : List Nat} {most : Int} {xs : List Int} {z : Nat} (h : tl L most = .ok (xs, z)) : (∀ x ∈ xs, 0 ≤ x ∧ x ≤ 1099511627776) ∧ (xs.length : Int) ≤ most := by
  unfold tl at h
  cases ht : tk L with
  | none => rw [ht] at h; simp at h
  | some p =>
    obtain ⟨n, k⟩ := p
    rw [ht] at h
    simp only at h
    by_cases hm : most < (n : Int)
    · rw [if_pos hm] at h; simp at h
    · rw [if_neg hm] at h
      cases hq : tst (L.drop k) n with
      | none => rw [hq] at h; simp at h
      | some p =>
        obtain ⟨ys, o⟩ := p
        rw [hq] at h
        simp at h
        obtain ⟨rfl, rfl⟩ := h
        have hl := (tst_some hq).1
        exact ⟨tst_bd hq, by omega⟩
theorem sx_end (s : ByteArray) (z : Nat) (h : z ≤ s.size) : (s.extract z s.size).toList.isEmpty = decide (z = s.size) := by
  rw [toList_is]
  have h1 : (s.extract z s.size).data.toList.length = s.size - z := by
    show (s.extract z s.size).size = _
    rw [ByteArray.size_extract]
    omega
  cases hl : (s.extract z s.size).data.toList with
  | nil =>
    rw [hl] at h1
    simp at h1
    simp
    omega
  | cons a t =>
    rw [hl] at h1
    simp at h1
    simp
    omega
theorem size_sc : (Try.prog.info? 38).map (·.size) = some 5 := by kernel_rfl
theorem loadVar_sc {w : World} {b : Nat} {c : Array Value} {t : TypeId} (h : w.heap[b]? = some (.cells c t (0, 0))) (hc : c.size = 5) : (loadVar 38 ⟨b, 0, none⟩).run Try.prog w = .ok (.agg c) w :=
  run_loadVar_row w b t _ _ _ _ h Try.underlying38 rfl (by rw [size_sc, hc])
theorem sdec_head {s : ByteArray} (h : shead s = none) : sdec s = none := by simp [sdec, h]
theorem sdec_progs {s : ByteArray} {t m n z : Nat} (h : shead s = some (t, m, n, z)) (hp : rprogs n s z n = none) : sdec s = none := by simp [sdec, h, hp]
theorem sdec_plan {s : ByteArray} {t m n z y : Nat} {ps : List (List OpD)} {e : Int} (h : shead s = some (t, m, n, z)) (hp : rprogs n s z n = some (ps, y)) (hl : tl ((nbs s).drop y) 200 = .error e) : sdec s = none := by simp [sdec, h, hp, hl]
theorem sdec_draws {s : ByteArray} {t m n z y k : Nat} {ps : List (List OpD)} {xs : List Int} {e : Int} (h : shead s = some (t, m, n, z)) (hp : rprogs n s z n = some (ps, y)) (hl : tl ((nbs s).drop y) 200 = .ok (xs, k)) (hd : tl ((nbs s).drop (y + k)) 64 = .error e) : sdec s = none := by simp [sdec, h, hp, hl, hd]
theorem sdec_end {s : ByteArray} {t m n z y k k' : Nat} {ps : List (List OpD)} {xs ys : List Int} (h : shead s = some (t, m, n, z)) (hp : rprogs n s z n = some (ps, y)) (hl : tl ((nbs s).drop y) 200 = .ok (xs, k)) (hd : tl ((nbs s).drop (y + k)) 64 = .ok (ys, k')) : sdec s = if y + k + k' = s.size ∧ schk ⟨t, m, ps, mv (-1) xs, ys⟩ = 0 then some ⟨t, m, ps, mv (-1) xs, ys⟩ else none := by simp only [sdec, h, hp, hl, hd]

theorem scheck_len (T M : Int) (ps : List (List OpD)) (pl dr : List Int) (pa la da : Option Addr) (pc lc dc n xl yl : Nat) (hn : ps.length = n) (hx : pl.length = xl) (hy : dr.length = yl) (w : World) (hS : SAt w ⟨T, M, ps, pl, dr⟩ pa la da) :
    Calls Try.prog 17 #[.agg #[.int .i64 T, .int .i64 M, .slice pa n pc, .slice la xl lc, .slice da yl dc]] w fun r w' => r = .returned (.int .i64 (schk ⟨T, M, ps, pl, dr⟩)) ∧ Below w.heap.size w w' := by
  subst hn hx hy
  exact scheck_any T M ps pl dr pa la da pc lc dc w hS
theorem LP.next {w wr w2 : World} {R G B N : Nat} {s : ByteArray} {y zz k n : Nat} {fk : Bool} {T M : Int} {arr : Array Value} {ps : List (List OpD)} {oa : Option Addr} {m c : Nat} {v3 v4 : Value} (D1 : DC w wr R G B s y fk T M n arr v3 v4) (hNw : N ≤ wr.heap.size) (hNG : G < N) (hNR : R < N) (L1 : LP s T M n zz k y fk wr N arr ps) (K2 : De.KB R wr w2) (Q2 : PRS wr.drew R s y fk n oa m c w2) (hk : k < n) :
    ∃ y' f' ps', y' ≤ s.size ∧ DC w (w2.setCell ⟨G, k, none⟩ (.slice oa m c)) R G B s y' f' T M n (arr.setIfInBounds k (.slice oa m c)) v3 v4 ∧ N ≤ (w2.setCell ⟨G, k, none⟩ (.slice oa m c)).heap.size ∧ LP s T M n zz (k + 1) y' f' (w2.setCell ⟨G, k, none⟩ (.slice oa m c)) N (arr.setIfInBounds k (.slice oa m c)) ps' := by
  have hs2 : N ≤ (w2.setCell ⟨G, k, none⟩ (.slice oa m c)).heap.size := Nat.le_trans hNw (Nat.le_trans K2.size ((De.KB.refl G w2).setCell k (.slice oa m c)).size)
  rcases Q2 with ⟨hf, rfl, y', hy', hr⟩ | ⟨hf, q, y', g, hp, ⟨rfl, rfl, _⟩, ⟨hof, hg, h32⟩, hy', hr⟩
  · refine ⟨y', true, [], hy', (D1.kb K2 hr).store k _, hs2, .inl ⟨rfl, ?_⟩⟩
    rcases L1 with ⟨_, hn⟩ | ⟨hff, ⟨t, m', _, _, hh⟩, hrp, _⟩
    · exact hn
    · rcases hf with hf | hf
      · rw [hff] at hf; cases hf
      · exact sdec_progs hh (rprogs_stop hrp hf n hk)
  · rcases L1 with ⟨hff, _⟩ | ⟨_, hh, hrp, hpf⟩
    · rw [hf] at hff; cases hff
    · refine ⟨y', false, ps ++ [q], hy', (D1.kb K2 hr).store k _, hs2, .inr ⟨rfl, hh, rprogs_next hrp hp, ?_⟩⟩
      exact ((hpf.kb K2 hNR).store k (rprogs_len hrp) (by rw [D1.sz]; exact hk) g c q hof (Nat.le_trans hNw hg) (Nat.le_trans h32 (by decide))).kb ((De.KB.refl G w2).setCell k _) hNG

set_option maxRecDepth 100000 in
set_option maxHeartbeats 3200000 in
theorem sdecode_any (s : ByteArray) (w : World) (hs : s.size ≤ 5000000) :
    Calls Try.prog 19 #[.string s] w fun r w' => DRes s r w' ∧ Below w.heap.size w w' := by
  have R0 : Hid (RD2 ((w.alloc (.cells #[.int .i64 0, .int .i64 0, .slice none 0 0, .slice none 0 0, .slice none 0 0] 38)).alloc (.cells #[.string s, .bool false] 88)) (w.heap.size + 1) s 0 false) := by
    have := heap_new (w.alloc (.cells #[.int .i64 0, .int .i64 0, .slice none 0 0, .slice none 0 0, .slice none 0 0] 38)) (.cells #[.string s, .bool false] 88)
    rw [World.size_alloc] at this
    show _ = _
    rw [sx0']
    exact this
  have Z0 := hide (heap_below (heap_new w (.cells #[.int .i64 0, .int .i64 0, .slice none 0 0, .slice none 0 0, .slice none 0 0] 38)) (below_alloc (w.alloc (.cells #[.int .i64 0, .int .i64 0, .slice none 0 0, .slice none 0 0, .slice none 0 0] 38)) (.cells #[.string s, .bool false] 88)))
  have B0 := hide (btr (below_alloc w (.cells #[.int .i64 0, .int .i64 0, .slice none 0 0, .slice none 0 0, .slice none 0 0] 38)) (below_alloc (w.alloc (.cells #[.int .i64 0, .int .i64 0, .slice none 0 0, .slice none 0 0, .slice none 0 0] 38)) (.cells #[.string s, .bool false] 88)))
  go_enter Try.func19, Try.ntmps19
  go_wp2_with fail
  generalize hW0 : (w.alloc (.cells #[.int .i64 0, .int .i64 0, .slice none 0 0, .slice none 0 0, .slice none 0 0] 38)).alloc (.cells #[.string s, .bool false] 88) = W0 at R0 Z0 B0 ⊢
  have sW : W0.heap.size = w.heap.size + 1 + 1 := by rw [← hW0, World.size_alloc, World.size_alloc]
  have HSW := hide sW
  clear hW0 sW
  have A1 : Hid (At (W0.alloc (.cells #[.int .i64 256, .int .i64 1048576, .int .i64 8] 3)) (some ⟨w.heap.size + 1 + 1, 0, none⟩) [256, 1048576, 8]) := by
    have := At.lit W0 [256, 1048576, 8] 3 #[.int .i64 256, .int .i64 1048576, .int .i64 8] rfl
    rw [HSW.out] at this
    exact this
  have R1 := hide (heap_below R0.out (below_alloc W0 (.cells #[.int .i64 256, .int .i64 1048576, .int .i64 8] 3)))
  have Z1 := hide (heap_below Z0.out (below_alloc W0 (.cells #[.int .i64 256, .int .i64 1048576, .int .i64 8] 3)))
  have B1 := hide (btr B0.out (below_alloc W0 (.cells #[.int .i64 256, .int .i64 1048576, .int .i64 8] 3)))
  refine (upTo_any (w.heap.size + 1) s 0 false _ [256, 1048576, 8] 3 _ R1.out A1.out (fun a e => by cases e; show w.heap.size + 1 + 1 ≠ w.heap.size + 1; omega) (Nat.le_refl 3) (Nat.zero_le _)).mono ?_
  rw [World.size_alloc, HSW.out]
  rintro r w1 ⟨rfl, g1, ⟨r1, z1⟩, k1⟩
  have R2 := hide r1
  have G2 := hide g1
  have Z2 := hide (k1.heap Z1.out (by omega))
  have B2 := hide (De.KB.below B1.out k1 (by omega))
  have sw1 := De.heap_lt g1
  clear r1 g1 k1 R0 Z0 B0 R1 Z1 B1 A1
  obtain ⟨i0, hi, hz0, hz1, hz2⟩ := info_parts info_pr
  obtain ⟨T, M, n, zz, f, hul, hn8, hhd⟩ : ∃ (T M : Int) (n : Nat) (zz : Nat) (f : Bool), ul s [256, 1048576, 8] 0 false = ([T, M, (n : Int)], zz, f) ∧ n ≤ 8 ∧ HD s T M n zz f := by
    rcases ul3 s with ⟨t, m, z, h, h2⟩ | ⟨t, m, n, z, h, h2, h8⟩
    · exact ⟨t, m, 0, z, true, h, by decide, .inl ⟨rfl, sdec_head h2⟩⟩
    · exact ⟨t, m, n, z, false, h, h8, .inr ⟨rfl, t, m, rfl, rfl, h2⟩⟩
  have HH := hide hhd
  clear hhd
  rw [hul] at R2 G2 z1
  simp only at R2 z1
  have c0 := cell_of G2.out 0
  have c1 := cell_of G2.out 1
  have c2 := cell_of G2.out 2
  simp [row] at c0 c1 c2
  have hm := fun w => run_mkG Try.underlying35 hi hz0 w n (by rw [hz2]; omega) (by omega)
  have hMC : (madeCells (Value.cells (.slice none 0 0)) (n * i0.size)).size = n := by rw [size_madeCells, hz1, Nat.mul_one]
  generalize madeCells (Value.cells (.slice none 0 0)) (n * i0.size) = MC at hm hMC
  clear hul hi hz0 hz1 hz2
  have c0a : ∀ o1, (w1.alloc o1).cell? ⟨w.heap.size + 1 + 1 + 1, 0, none⟩ = some (.int .i64 T) := fun o1 => cellB c0 (below_alloc _ _)
  have c1a : ∀ o1, (w1.alloc o1).cell? ⟨w.heap.size + 1 + 1 + 1, 1, none⟩ = some (.int .i64 M) := fun o1 => cellB c1 (below_alloc _ _)
  have c2a : ∀ o1, (w1.alloc o1).cell? ⟨w.heap.size + 1 + 1 + 1, 2, none⟩ = some (.int .i64 (n : Int)) := fun o1 => cellB c2 (below_alloc _ _)
  have c0b : ∀ o1 o2, ((w1.alloc o1).alloc o2).cell? ⟨w.heap.size + 1 + 1 + 1, 0, none⟩ = some (.int .i64 T) := fun o1 o2 => cellB (c0a o1) (below_alloc _ _)
  have c1b : ∀ o1 o2, ((w1.alloc o1).alloc o2).cell? ⟨w.heap.size + 1 + 1 + 1, 1, none⟩ = some (.int .i64 M) := fun o1 o2 => cellB (c1a o1) (below_alloc _ _)
  have c2b : ∀ o1 o2, ((w1.alloc o1).alloc o2).cell? ⟨w.heap.size + 1 + 1 + 1, 2, none⟩ = some (.int .i64 (n : Int)) := fun o1 o2 => cellB (c2a o1) (below_alloc _ _)
  go_wp2_with fail
  go_cut [6] (fun s6 wc => ∃ G B, s6 = .pointer (some ⟨B, 0, none⟩) ∧ DC w wc (w.heap.size + 1) G B s zz f T M n MC (.slice none 0 0) (.slice none 0 0))
  case first =>
    go_region
    all_goals
      go_wp2_with fail
      go_meet
      case rel =>
        first
          | exact ⟨w1.heap.size, w1.heap.size + 1, rfl, DC.start Z2.out R2.out B2.out hMC (btr (btr (below_alloc _ _) (below_alloc _ _)) (bdrew1 _)) (heap_below (heap_new w1 (.cells MC 56)) (btr (below_alloc _ _) (bdrew1 _))) (by
              have := heap_new (w1.alloc (.cells MC 56)) (.cells #[.int .i64 T, .int .i64 M, .slice (some ⟨w1.heap.size, 0, none⟩) n n, .slice none 0 0, .slice none 0 0] 38)
              rw [World.size_alloc] at this
              exact heap_below this (bdrew1 _)) (by omega)⟩
          | exact ⟨w1.heap.size + 1, w1.heap.size, rfl, DC.start Z2.out R2.out B2.out hMC (btr (btr (below_alloc _ _) (below_alloc _ _)) (bdrew1 _)) (by
              have := heap_new (w1.alloc (.cells #[.int .i64 T, .int .i64 M, .slice (some ⟨w1.heap.size + 1, 0, none⟩) n n, .slice none 0 0, .slice none 0 0] 38)) (.cells MC 56)
              rw [World.size_alloc] at this
              exact heap_below this (bdrew1 _)) (heap_below (heap_new w1 (.cells #[.int .i64 T, .int .i64 M, .slice (some ⟨w1.heap.size + 1, 0, none⟩) n n, .slice none 0 0, .slice none 0 0] 38)) (btr (below_alloc _ _) (bdrew1 _))) (by omega)⟩
  case rest =>
    clear c0 c1 c2 c0a c1a c2a c0b c1b c2b hm R2 G2 Z2 B2 sw1 HSW
    obtain ⟨G, B, rfl, dc⟩ := hcut
    have D0 := hide dc
    have hGB := dc.ne
    have lG := De.heap_lt dc.pr
    have lB := De.heap_lt dc.sc
    obtain ⟨N, hN⟩ : ∃ N, N = max G B + 1 := ⟨_, rfl⟩
    have hNG : G < N ∧ B < N := by omega
    have hNw : N ≤ wc.heap.size := by omega
    obtain ⟨x0, x1, x2, x3, x4⟩ := sc_cells dc.sc
    have L0 : Hid (LP s T M n zz 0 zz f wc N MC []) := by
      rcases HH.out with h | ⟨h1, h2⟩
      · exact .inl h
      · exact .inr ⟨h1, h2, rfl, fun t q ht => by simp at ht⟩
    clear dc hN hMC
    go_wp2_with fail
    go_loopw [26] (fun i wr => ∃ (k y : Nat) (fk : Bool) (arr : Array Value) (ps : List (List OpD)), k ≤ n ∧ i = .int .i64 k ∧ y ≤ s.size ∧ DC w wr (w.heap.size + 1) G B s y fk T M n arr (.slice none 0 0) (.slice none 0 0) ∧ N ≤ wr.heap.size ∧ LP s T M n zz k y fk wr N arr ps) (fun i _ => n - (intOf i).toNat)
    case atStart => exact ⟨0, zz, f, MC, [], Nat.zero_le _, rfl, z1, D0.out, hNw, L0.out⟩
    case round =>
      clear x0 x1 x2 x3 x4 D0 L0 hNw lG lB
      obtain ⟨k, y, fk, arr, ps, hk, rfl, hy, d1, hNw, l1⟩ := hrel
      have D1 := hide d1
      have L1 := hide l1
      obtain ⟨x0, x1, x2, x3, x4⟩ := sc_cells d1.sc
      clear d1 l1
      by_cases hkn : k < n
      · have hkn' : (k : Int) < (n : Int) := by omega
        have okn : okP (n : Int) = true := (okP_iff _).2 (by omega)
        have OKN := hide okn
        clear okn
        go_wp2_with fail
        go_region_with (go_at_call 47; refine (program_any (w.heap.size + 1) s y fk (n : Int) _ (heap_below D1.out.rd (bdrew1 _)) hy OKN.out).mono ?_; rintro r w2 ⟨hpr, k2⟩; obtain ⟨oa, m, c, rfl, hq⟩ := hpr.slice; have Q2 := hide hq; have K2 := hide ((De.KB.of (R := w.heap.size + 1) (bdrew1 wr)).trans k2); have S2 := hide (K2.out.heap D1.out.sc (by omega)); have P2 := hide (K2.out.heap D1.out.pr (by omega)); obtain ⟨y0, y1, y2, y3, y4⟩ := sc_cells S2.out; have fz := frozen_of P2.out k; obtain ⟨vk, hvk⟩ : ∃ v, w2.cell? ⟨G, k, none⟩ = some v := ⟨_, (cell_of P2.out k).trans (Array.getElem?_eq_getElem (by rw [D1.out.sz]; exact hkn))⟩; clear hpr hq k2)
        all_goals
          go_wp2_with fail
          go_roundw
          case rel =>
            obtain ⟨y', f', ps', h1, h2, h3, h4⟩ := LP.next D1.out hNw hNG.1 (by omega) L1.out K2.out Q2.out hkn
            exact ⟨k + 1, y', f', _, ps', by omega, by go_num, h1, h2, h3, h4⟩
          case measure => simp [intOf]; omega
      · have hkn' : ¬ ((k : Int) < (n : Int)) := by omega
        obtain rfl : k = n := by omega
        rcases L1.out with ⟨hft, hnone⟩ | ⟨hff, ⟨t, m, rfl, rfl, hsh⟩, hrp, hpf⟩
        · subst hft
          have NN := hide hnone
          clear L1 HH hnone
          go_wp2_with fail
          refine (list_no (w.heap.size + 1) s y true 200 _ D1.out.rd hs (.inl rfl)).mono ?_
          rintro r w2 ⟨rfl, rr2, k2⟩
          have D2 := hide (D1.out.kb k2 rr2)
          clear k2 rr2
          go_wp2_with fail
          refine (moved_any none [] 0 (-1) _ (At.nil _ _) (Nat.zero_le _) (by decide) (fun j hj => absurd hj (Nat.not_lt_zero _))).mono ?_
          rintro r w3 ⟨rfl, -, b3⟩
          have D3 := hide (D2.out.below b3)
          obtain ⟨y0, y1, y2, y3, y4⟩ := sc_cells D3.out.sc
          have fz3 := frozen_of D3.out.sc 3
          have D4 := hide (D3.out.set3 (.slice (some ⟨w2.heap.size, 0, none⟩) 0 0))
          clear b3
          go_wp2_with fail
          refine (list_no (w.heap.size + 1) s y true 64 _ D4.out.rd hs (.inl rfl)).mono ?_
          rintro r w5 ⟨rfl, rr5, k5⟩
          have D5 := hide (D4.out.kb k5 rr5)
          obtain ⟨u0, u1, u2, u3, u4⟩ := sc_cells D5.out.sc
          have fz4 := frozen_of D5.out.sc 4
          have D6 := hide (D5.out.set4 (.slice none 0 0))
          obtain ⟨⟨t0, t1⟩, -, -⟩ := rd_cells D6.out.rd
          obtain ⟨r0, r1, r2, r3, r4⟩ := sc_cells D6.out.res
          have q0 := frozen_of D6.out.res 0
          have q1 := frozen_of D6.out.res 1
          have q2 := frozen_of D6.out.res 2
          have q3 := frozen_of D6.out.res 3
          have q4 := frozen_of D6.out.res 4
          clear k5 rr5
          go_wp2_with fail
          exact bodyPost_ret (results_row2 Try.results19 _ _ _ _ _ rfl rfl (loadVar_sc (five_set D6.out.res _ _ _ _ _) rfl)) rfl ⟨.inl ⟨NN.out, rfl⟩, (((((D6.out.bel.setCell (Nat.le_refl _) _).setCell (Nat.le_refl _) _).setCell (Nat.le_refl _) _).setCell (Nat.le_refl _) _).setCell (Nat.le_refl _) _)⟩

        · subst hff
          have SH := hide hsh
          have RP := hide hrp
          have PFh := hide hpf
          clear L1 HH hsh hrp hpf
          cases ht2 : tl ((nbs s).drop y) 200 with
          | error e =>
            have NN := hide (sdec_plan SH.out RP.out ht2)
            have HT2 := hide ht2
            clear ht2
            go_wp2_with fail
            refine (list_no (w.heap.size + 1) s y false 200 _ D1.out.rd hs (.inr ⟨e, HT2.out⟩)).mono ?_
            rintro r w2 ⟨rfl, rr2, k2⟩
            have D2 := hide (D1.out.kb k2 rr2)
            clear k2 rr2
            go_wp2_with fail
            refine (moved_any none [] 0 (-1) _ (At.nil _ _) (Nat.zero_le _) (by decide) (fun j hj => absurd hj (Nat.not_lt_zero _))).mono ?_
            rintro r w3 ⟨rfl, -, b3⟩
            have D3 := hide (D2.out.below b3)
            obtain ⟨y0, y1, y2, y3, y4⟩ := sc_cells D3.out.sc
            have fz3 := frozen_of D3.out.sc 3
            have D4 := hide (D3.out.set3 (.slice (some ⟨w2.heap.size, 0, none⟩) 0 0))
            clear b3
            go_wp2_with fail
            refine (list_no (w.heap.size + 1) s y true 64 _ D4.out.rd hs (.inl rfl)).mono ?_
            rintro r w5 ⟨rfl, rr5, k5⟩
            have D5 := hide (D4.out.kb k5 rr5)
            obtain ⟨u0, u1, u2, u3, u4⟩ := sc_cells D5.out.sc
            have fz4 := frozen_of D5.out.sc 4
            have D6 := hide (D5.out.set4 (.slice none 0 0))
            obtain ⟨⟨t0, t1⟩, -, -⟩ := rd_cells D6.out.rd
            obtain ⟨r0, r1, r2, r3, r4⟩ := sc_cells D6.out.res
            have q0 := frozen_of D6.out.res 0
            have q1 := frozen_of D6.out.res 1
            have q2 := frozen_of D6.out.res 2
            have q3 := frozen_of D6.out.res 3
            have q4 := frozen_of D6.out.res 4
            clear k5 rr5
            go_wp2_with fail
            exact bodyPost_ret (results_row2 Try.results19 _ _ _ _ _ rfl rfl (loadVar_sc (five_set D6.out.res _ _ _ _ _) rfl)) rfl ⟨.inl ⟨NN.out, rfl⟩, (((((D6.out.bel.setCell (Nat.le_refl _) _).setCell (Nat.le_refl _) _).setCell (Nat.le_refl _) _).setCell (Nat.le_refl _) _).setCell (Nat.le_refl _) _)⟩

          | ok px =>
            obtain ⟨xs, k5⟩ := px
            have HT2 := hide ht2
            have bd := tl_bd ht2
            have sz2 := (Re.tl_size ht2).2
            rw [List.length_drop, nbs_length] at sz2
            have BD := hide bd.1
            have xl := bd.2
            clear ht2 bd
            go_wp2_with fail
            refine (list_ok (w.heap.size + 1) s y 200 xs k5 _ D1.out.rd hs HT2.out).mono ?_
            rintro r w2 ⟨b2, rfl, a2, lb2, rr2, k2⟩
            have D2 := hide (D1.out.kb k2 rr2)
            have P2 := hide (PFh.out.kb k2 (by omega))
            have A2 := hide a2
            have s2 := k2.size
            clear k2 rr2 a2
            go_wp2_with fail
            refine (moved_any _ xs xs.length (-1) _ A2.out (by omega) (by decide) (fun j hj => by
              have := BD.out (nth xs j) (by rw [nth_lt xs j hj]; exact List.getElem_mem hj)
              omega)).mono ?_
            rintro r w3 ⟨rfl, a3, b3⟩
            have s3 := b3.size
            have D3 := hide (D2.out.below b3)
            have P3 := hide (P2.out.kb (De.KB.of (R := w.heap.size + 1) b3) (by omega))
            obtain ⟨y0, y1, y2, y3, y4⟩ := sc_cells D3.out.sc
            have fz3 := frozen_of D3.out.sc 3
            have D4 := hide (D3.out.set3 (.slice (some ⟨w2.heap.size, 0, none⟩) xs.length xs.length))
            have P4 := hide (P3.out.kb ((De.KB.refl B w3).setCell 3 (.slice (some ⟨w2.heap.size, 0, none⟩) xs.length xs.length)) hNG.2)
            have A4 := hide (kb_at ((De.KB.refl B w3).setCell 3 (.slice (some ⟨w2.heap.size, 0, none⟩) xs.length xs.length)) a3 (fun a e => by cases e; show w2.heap.size ≠ B; omega))
            have s4 := ((De.KB.refl B w3).setCell 3 (.slice (some ⟨w2.heap.size, 0, none⟩) xs.length xs.length)).size
            clear b3 a3
            cases ht3 : tl ((nbs s).drop (y + k5)) 64 with
            | error e =>
              have NN := hide (sdec_draws SH.out RP.out HT2.out ht3)
              have HT3 := hide ht3
              clear ht3
              go_wp2_with fail
              refine (list_no (w.heap.size + 1) s (y + k5) false 64 _ D4.out.rd hs (.inr ⟨e, HT3.out⟩)).mono ?_
              rintro r w5 ⟨rfl, rr5, k5'⟩
              have D5 := hide (D4.out.kb k5' rr5)
              obtain ⟨u0, u1, u2, u3, u4⟩ := sc_cells D5.out.sc
              have fz4 := frozen_of D5.out.sc 4
              have D6 := hide (D5.out.set4 (.slice none 0 0))
              obtain ⟨⟨t0, t1⟩, -, -⟩ := rd_cells D6.out.rd
              obtain ⟨r0, r1, r2, r3, r4⟩ := sc_cells D6.out.res
              have q0 := frozen_of D6.out.res 0
              have q1 := frozen_of D6.out.res 1
              have q2 := frozen_of D6.out.res 2
              have q3 := frozen_of D6.out.res 3
              have q4 := frozen_of D6.out.res 4

              clear k5' rr5
              go_wp2_with fail
              exact bodyPost_ret (results_row2 Try.results19 _ _ _ _ _ rfl rfl (loadVar_sc (five_set D6.out.res _ _ _ _ _) rfl)) rfl ⟨.inl ⟨NN.out, rfl⟩, (((((D6.out.bel.setCell (Nat.le_refl _) _).setCell (Nat.le_refl _) _).setCell (Nat.le_refl _) _).setCell (Nat.le_refl _) _).setCell (Nat.le_refl _) _)⟩
            | ok py =>
              obtain ⟨ys, k6⟩ := py
              have SE := hide (sdec_end SH.out RP.out HT2.out ht3)
              have HT3 := hide ht3
              have sz3 := (Re.tl_size ht3).2
              have yl := (tl_bd ht3).2
              rw [List.length_drop, nbs_length] at sz3
              clear ht3
              go_wp2_with fail
              refine (list_ok (w.heap.size + 1) s (y + k5) 64 ys k6 _ D4.out.rd hs HT3.out).mono ?_
              rintro r w5 ⟨b5, rfl, a5, lb5, rr5, k5'⟩
              have s5 := k5'.size
              have D5 := hide (D4.out.kb k5' rr5)
              have P5 := hide (P4.out.kb k5' (by omega))
              have A5 := hide (kb_at k5' A4.out (fun a e => by cases e; show w2.heap.size ≠ w.heap.size + 1; omega))
              obtain ⟨u0, u1, u2, u3, u4⟩ := sc_cells D5.out.sc
              have fz4 := frozen_of D5.out.sc 4
              have D6 := hide (D5.out.set4 (.slice (some ⟨b5, 0, none⟩) ys.length ys.length))
              have P6 := hide (P5.out.kb ((De.KB.refl B w5).setCell 4 (.slice (some ⟨b5, 0, none⟩) ys.length ys.length)) hNG.2)
              have A6 := hide (kb_at ((De.KB.refl B w5).setCell 4 (.slice (some ⟨b5, 0, none⟩) ys.length ys.length)) A5.out (fun a e => by cases e; show w2.heap.size ≠ B; omega))
              have Y6 := hide (kb_at ((De.KB.refl B w5).setCell 4 (.slice (some ⟨b5, 0, none⟩) ys.length ys.length)) a5 (fun a e => by cases e; show b5 ≠ B; omega))
              obtain ⟨⟨t0, t1⟩, -, -⟩ := rd_cells D6.out.rd
              obtain ⟨v0, v1, v2, v3, v4⟩ := sc_cells D6.out.sc
              obtain ⟨r0, r1, r2, r3, r4⟩ := sc_cells D6.out.res
              have q0 := frozen_of D6.out.res 0
              have q1 := frozen_of D6.out.res 1
              have q2 := frozen_of D6.out.res 2
              have q3 := frozen_of D6.out.res 3
              have q4 := frozen_of D6.out.res 4

              have he := sx_end s (y + k5 + k6) (by omega)
              clear k5' rr5 a5
              by_cases hend : y + k5 + k6 = s.size
              · have he2 : decide (y + k5 + k6 = s.size) = true := by simpa using hend
                rw [he2] at he
                have LN := hide (rprogs_len RP.out)
                have S6 : Hid (SAt (w5.setCell ⟨B, 4, none⟩ (.slice (some ⟨b5, 0, none⟩) ys.length ys.length)) ⟨(t : Int), (m : Int), ps, mv (-1) xs, ys⟩ (some ⟨G, 0, none⟩) (some ⟨w2.heap.size, 0, none⟩) (some ⟨b5, 0, none⟩)) :=
                  ⟨P6.out.at D6.out.pr, A6.out, Y6.out, by show ps.length ≤ _; rw [LN.out]; unfold maxLen; omega, by show (mv (-1) xs).length ≤ _; rw [mv_len]; unfold maxLen; omega, by show ys.length ≤ _; unfold maxLen; omega⟩
                have HE := hide hend
                clear he2 hend
                go_wp2_with fail
                refine (scheck_len t m ps (mv (-1) xs) ys _ _ _ _ _ _ _ _ _ LN.out (mv_len _ _) rfl _ S6.out).mono ?_
                rintro r w7 ⟨rfl, b7⟩
                have D7 := hide (D6.out.below b7)
                have S7 := hide (S6.out.below b7)
                have P7 := hide (P6.out.kb (De.KB.of (R := w.heap.size + 1) b7) (by omega))
                have A7 := hide (A6.out.below b7)
                have Y7 := hide (Y6.out.below b7)
                obtain ⟨v0, v1, v2, v3, v4⟩ := sc_cells D7.out.sc
                obtain ⟨r0, r1, r2, r3, r4⟩ := sc_cells D7.out.res
                have q0 := frozen_of D7.out.res 0
                have q1 := frozen_of D7.out.res 1
                have q2 := frozen_of D7.out.res 2
                have q3 := frozen_of D7.out.res 3
                have q4 := frozen_of D7.out.res 4

                clear b7
                cases hc : schk ⟨(t : Int), (m : Int), ps, mv (-1) xs, ys⟩ == 0
                · have hc' : (schk ⟨(t : Int), (m : Int), ps, mv (-1) xs, ys⟩ != 0) = true := by simp [bne, hc]
                  have NN : Hid (sdec s = none) := by
                    show _ = _
                    rw [SE.out, if_neg]
                    rintro ⟨_, e⟩
                    rw [e] at hc
                    cases hc
                  clear hc
                  go_wp2_with fail
                  exact bodyPost_ret (results_row2 Try.results19 _ _ _ _ _ rfl rfl (loadVar_sc (five_set D7.out.res _ _ _ _ _) rfl)) rfl ⟨.inl ⟨NN.out, rfl⟩, (((((D7.out.bel.setCell (Nat.le_refl _) _).setCell (Nat.le_refl _) _).setCell (Nat.le_refl _) _).setCell (Nat.le_refl _) _).setCell (Nat.le_refl _) _)⟩
                · have hc' : (schk ⟨(t : Int), (m : Int), ps, mv (-1) xs, ys⟩ != 0) = false := by simp [bne, hc]
                  have SS : Hid (sdec s = some ⟨(t : Int), (m : Int), ps, mv (-1) xs, ys⟩) := by
                    show _ = _
                    rw [SE.out, if_pos ⟨HE.out, by simpa using hc⟩]
                  clear hc
                  go_wp2_with fail
                  refine bodyPost_ret (results_row2 Try.results19 _ _ _ _ _ rfl rfl (loadVar_sc (five_set D7.out.res _ _ _ _ _) rfl)) rfl ⟨.inr ⟨(t : Int), (m : Int), ps, mv (-1) xs, ys, some ⟨G, 0, none⟩, some ⟨w2.heap.size, 0, none⟩, some ⟨b5, 0, none⟩, _, xs.length, ys.length, SS.out, by rw [mv_len, LN.out]; rfl, ?_⟩, (((((D7.out.bel.setCell (Nat.le_refl _) _).setCell (Nat.le_refl _) _).setCell (Nat.le_refl _) _).setCell (Nat.le_refl _) _).setCell (Nat.le_refl _) _)⟩
                  have KZ := fun (u0 u1 u2 u3 u4 : Value) => (((((De.KB.refl w.heap.size w7).setCell 0 u0).setCell 1 u1).setCell 2 u2).setCell 3 u3).setCell 4 u4
                  exact ⟨(P7.out.kb (KZ _ _ _ _ _) (by omega)).at ((five_other w.heap.size G (by omega) _ _ _ _ _).trans D7.out.pr), kb_at (KZ _ _ _ _ _) A7.out (fun a e => by cases e; show w2.heap.size ≠ w.heap.size; omega), kb_at (KZ _ _ _ _ _) Y7.out (fun a e => by cases e; show b5 ≠ w.heap.size; omega), S7.out.h1, S7.out.h2, S7.out.h3⟩
              · have he2 : decide (y + k5 + k6 = s.size) = false := by simpa using hend
                rw [he2] at he
                have NN : Hid (sdec s = none) := by
                  show _ = _
                  rw [SE.out, if_neg]
                  rintro ⟨e, _⟩
                  exact hend e
                clear he2 hend
                go_wp2_with fail
                exact bodyPost_ret (results_row2 Try.results19 _ _ _ _ _ rfl rfl (loadVar_sc (five_set D6.out.res _ _ _ _ _) rfl)) rfl ⟨.inl ⟨NN.out, rfl⟩, (((((D6.out.bel.setCell (Nat.le_refl _) _).setCell (Nat.le_refl _) _).setCell (Nat.le_refl _) _).setCell (Nat.le_refl _) _).setCell (Nat.le_refl _) _)⟩
end Sh
end Go.Proofs.Ytgnhophlnbpcgaa
