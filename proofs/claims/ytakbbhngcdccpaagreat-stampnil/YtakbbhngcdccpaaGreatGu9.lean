/- The gauge's reader in memory: a value put behind a channel's; the reader's record; mayDo, owed, serves, right. -/
import Derived.Test.YtakbbhngcdccpaaGreatGu8
namespace Go.Proofs.YtakbbhngcdccpaaGreat
open Go.ChangeShapes Go.WideShapes Go.ChangeAt Go.RowKit
namespace Gu
open En Ba

/-- a value is put behind a channel's values -/
theorem VR.app {w : World} {N : Nat} {x : Sv} {L : List Int} (h : VR w N x L) (hl : L.length ≤ 4000) (hN : N ≤ w.heap.size) (y : Int) :
    ∃ (x' : Sv) (w' : World), (Builtin.append_ #[27, 27] 27 #[svs x, .slice (some ⟨w.heap.size, 0, none⟩) 1 1]).run Tryz.prog (w.alloc (.cells #[.int .i64 y] 3)) = .ok (svs x') w' ∧ VR w' N x' (L ++ [y]) ∧ x'.nil = false ∧ x'.cap = x.cap ∧ x'.cl = x.cl ∧ (w.alloc (.cells #[.int .i64 y] 3)).grownBy w' (if x.nil = true then none else some x.b) ∧ ((x.nil = false ∧ x'.b = x.b) ∨ x'.b = w.heap.size + 1) ∧ VR w' N x L := by
  obtain ⟨i0, hi, hz0, hz1, hz2⟩ := info_parts info_int
  obtain ⟨nl, b, o, n, c, cap, cl⟩ := x
  have src := cell_one_new w (.int .i64 y) 3
  have hN1 : N ≤ (w.alloc (.cells #[.int .i64 y] 3)).heap.size := by rw [World.size_alloc]; omega
  cases nl
  · obtain ⟨h1, cur, h2, h3, h4, h5, h6⟩ := h.row rfl
    have hn := h.len
    simp only at h1 h2 h3 h4 h5 h6 hn
    have h2' := heap_below h2 (below_alloc w (.cells #[.int .i64 y] 3))
    show ∃ (x' : Sv) (w' : World), (Builtin.append_ #[27, 27] 27 #[.slice (some ⟨b, o, none⟩) n c, .slice (some ⟨w.heap.size, 0, none⟩) 1 1]).run Tryz.prog (w.alloc (.cells #[.int .i64 y] 3)) = _ ∧ _
    by_cases hroom : n + 1 ≤ c
    · have hr := run_room h2' hroom h3 ⟨w.heap.size, 0, none⟩ 1 y (src 0 _ rfl)
      refine ⟨⟨false, b, o, n + 1, c, cap, cl⟩, _, hr, ⟨(fun q => by cases q), (by simp [hn]), fun _ => ⟨h1, _, Ba.heap_setCell_same h2' _, by simpa using h3, hroom, h5, fun i v hv => ?_⟩⟩, rfl, rfl, rfl, ?_, .inl ⟨rfl, rfl⟩, ⟨(fun q => by cases q), hn, fun _ => ⟨h1, _, Ba.heap_setCell_same h2' _, by simpa using h3, h4, h5, fun i v hv => by
          show (cur.setIfInBounds (o + n) _)[o + i]? = _
          rw [Array.getElem?_setIfInBounds_ne (by have := (List.getElem?_eq_some_iff.1 hv).1; omega)]
          exact h6 i v hv⟩⟩⟩
      · show (cur.setIfInBounds (o + n) _)[o + i]? = _
        by_cases hi' : i < L.length
        · rw [List.getElem?_append_left hi'] at hv
          have := h6 i v hv
          rw [Array.getElem?_setIfInBounds_ne (by omega)]
          exact this
        · have : i = L.length := by
            have := (List.getElem?_eq_some_iff.1 hv).1
            simp at this; omega
          subst this
          rw [List.getElem?_append_right (Nat.le_refl _), Nat.sub_self] at hv
          simp at hv
          subst hv
          rw [hn, Array.getElem?_setIfInBounds_self_of_lt (by omega)]
      · refine ⟨rfl, rfl, rfl, by simp [World.setCell], fun k _ hk => ?_⟩
        exact Below.heap_setCell _ _ _ _ (by show k ≠ b; intro e; exact hk (by rw [e]; rfl))
    · have hcn : c = n := by omega
      have holds : ∀ j u, (ic L)[j]? = some u → (w.alloc (.cells #[.int .i64 y] 3)).cell? ((⟨b, o, none⟩ : Addr).add j) = some u := by
        intro j u hj
        rw [Addr.add_lit, cell_of h2']
        unfold ic at hj
        rw [List.getElem?_map] at hj
        cases hq : L[j]? with
        | none => rw [hq] at hj; cases hj
        | some v => rw [hq] at hj; cases hj; exact h6 j v hq
      have hr := run_append_grow (P := Tryz.prog) (w.alloc (.cells #[.int .i64 y] 3)) 27 27 3 i0 (.int .i64 0) Tryz.underlying27 hi hz0 ⟨b, o, none⟩ n c (ic L) (by rw [ic_len, hz1, hn, Nat.mul_one]) holds ⟨w.heap.size, 0, none⟩ 1 1 [.int .i64 y] (by rw [hz1]; rfl) src (by omega) (by omega) (growslice_fits (by omega) (by rw [hz2]; omega))
      have hge := grownCap_ge (w.alloc (.cells #[.int .i64 y] 3)) (n + 1) c 3
      have hcm := grownCap_le_maxLen (w.alloc (.cells #[.int .i64 y] 3)) (n + 1) c 3 (by unfold maxLen; omega)
      refine ⟨⟨false, w.heap.size + 1, 0, n + 1, grownCap (w.alloc (.cells #[.int .i64 y] 3)) (n + 1) c 3, cap, cl⟩, (w.alloc (.cells #[.int .i64 y] 3)).drew.alloc (.cells ((ic L).toArray ++ [Value.int .i64 y].toArray ++ Builtin.zeroCells (Value.int .i64 0).cells (grownCap (w.alloc (.cells #[.int .i64 y] 3)) (n + 1) c 3 - (n + 1))) 3), hr.trans ?_, ⟨(fun q => by cases q), (by simp [hn]), fun _ => ⟨(by simp only; omega), (ic L).toArray ++ [Value.int .i64 y].toArray ++ Builtin.zeroCells (Value.int .i64 0).cells (grownCap (w.alloc (.cells #[.int .i64 y] 3)) (n + 1) c 3 - (n + 1)), ?_, ?_, hge, hcm, fun i v hv => ?_⟩⟩, rfl, rfl, rfl, ?_, .inr rfl, h.keep fun _ => (heap_below h2' (btr (bdrew1 _) (below_alloc _ _))).trans h2.symm⟩
      · simp only [World.size_alloc]; rfl
      · have := heap_alloc_new (w.alloc (.cells #[.int .i64 y] 3)).drew (.cells ((ic L).toArray ++ [Value.int .i64 y].toArray ++ Builtin.zeroCells (Value.int .i64 0).cells (grownCap (w.alloc (.cells #[.int .i64 y] 3)) (n + 1) c 3 - (n + 1))) 3)
        rw [show (w.alloc (.cells #[.int .i64 y] 3)).drew.heap.size = w.heap.size + 1 from World.size_alloc _ _] at this
        exact this
      · simp only [Array.size_append, List.size_toArray, size_zeroCells, ic_len, List.length_singleton]
        show 0 + _ ≤ _ + 1 + _ * 1
        omega
      · have e1 : (ic L).toArray ++ [Value.int .i64 y].toArray = (ic (L ++ [y])).toArray := by simp [ic]
        have hil : i < (L ++ [y]).length := (List.getElem?_eq_some_iff.1 hv).1
        simp only [Nat.zero_add]
        rw [e1, Array.getElem?_append_left (by simp [ic]; simpa using hil)]
        simp only [List.getElem?_toArray]
        unfold ic
        rw [List.getElem?_map, hv]
        rfl
      · exact ⟨rfl, rfl, rfl, by simp, fun k hk _ => (below_alloc (w.alloc (.cells #[.int .i64 y] 3)).drew _).block k hk⟩
  · obtain ⟨hb, ho, hn, hc⟩ := h.sn rfl
    simp only at hb ho hn hc
    subst hb ho hn hc
    have hL : L = [] := h.nil_of rfl
    subst hL
    obtain ⟨v', w', hr, ho, hg1, -, hat⟩ := run_append_own_at (P := Tryz.prog) (w.alloc (.cells #[.int .i64 y] 3)) N 27 27 3 i0 (.int .i64 0) 1 8 Tryz.underlying27 hi hz0 hz1 hz2 rfl (by decide) (.slice none 0 0) 0 [] (World.ownsRow_nil _ _ _ _) ⟨w.heap.size, 0, none⟩ 1 1 [.int .i64 y] rfl src (ic_one [y]) (by unfold maxLen; omega) (by omega) hN1
    rw [Nat.zero_add, List.nil_append] at ho
    rcases ho.2 with ⟨-, h⟩ | ⟨g, cp, cur, rfl, q1, q2, q3, q4, q5, q6⟩
    · cases h
    · refine ⟨⟨false, g, 0, 1, cp, cap, cl⟩, w', hr, ⟨(fun q => by cases q), rfl, fun _ => ⟨q1, cur, q2, by simp only; omega, q3, q4, fun i v hv => ?_⟩⟩, rfl, rfl, rfl, hg1, .inr ?_, h.keep fun q => by cases q⟩
      · have hi0 : i = 0 := by have := (List.getElem?_eq_some_iff.1 hv).1; simp at this; exact this
        subst hi0
        simp at hv
        subst hv
        have e1 : ([Value.int .i64 y])[0]? = some (.int .i64 y) := rfl
        rw [← q6, List.getElem?_take, if_pos (by omega)] at e1
        simpa using e1
      · rcases hat with q | q
        · cases q
        · simp only [Value.ownBlock, Option.some.injEq, World.size_alloc] at q
          exact q
/-- the channels lie apart -/
structure GR (w : World) (N R mb : Nat) (ev vs : Value) (D : DataW Unit) (cs : List Sv) (s : Gs) : Prop where
  hN : N ≤ R ∧ N ≤ mb
  hR : w.heap[R]? = some (.cells #[ev, vs, .map (some mb), .bool s.pn, .int .i64 s.la.k, .int .i64 s.la.g, .int .i64 s.la.c, .int .i64 s.la.a, .int .i64 s.la.v, .int .i64 s.la.m, .bool s.la.s, .bool s.la.o] 87 (0, 0))
  st : w.ownsRow N 3 1 vs s.st.length (ic s.st)
  mp : w.ownsMap Tryz.prog 3 mE mb 100000 D
  mi : MI D cs
  len : cs.length = s.ch.length
  ch : ∀ (i : Nat) x c, cs[i]? = some x → s.ch[i]? = some c → VR w N x c.vs ∧ x.cap = c.cap ∧ x.cl = c.cl
  dj : ∀ (i j : Nat) x y, cs[i]? = some x → cs[j]? = some y → i ≠ j → x.nil = false → y.nil = false → x.b ≠ y.b
  dv : ∀ (i : Nat) x, cs[i]? = some x → x.nil = false → vs.ownBlock ≠ some x.b
/-- the reader in memory -/
def GW (w : World) (N R : Nat) (ev : Value) (s : Gs) : Prop := ∃ mb vs D cs, GR w N R mb ev vs D cs s
theorem mayDo_any (t k : Int) (w : World) :
    Calls Tryz.prog 73 #[.int .i64 t, .int .i64 k] w fun r w' => r = .returned (.bool (may t k)) ∧ w' = w := by
  unfold may
  by_cases h7 : k = 7
  · have d7 : (k == 7) = true := by simp [h7]
    rw [if_pos h7]
    clear h7
    go_enter Tryz.func73, Tryz.ntmps73
    go_wp2_with fail
    go_ret
    exact ⟨ret_bool (by rw [Bool.eq_iff_iff]; simp), rfl⟩
  · have d7 : (k == 7) = false := by simp [h7]
    rw [if_neg h7]
    by_cases h12 : k = 12
    · have d12 : (k == 12) = true := by simp [h12]
      rw [if_pos h12]
      clear h7 h12
      go_enter Tryz.func73, Tryz.ntmps73
      go_wp2_with fail
      go_ret
      exact ⟨ret_bool (by rw [Bool.eq_iff_iff]; simp), rfl⟩
    · have d12 : (k == 12) = false := by simp [h12]
      rw [if_neg h12]
      clear h7 h12
      go_enter Tryz.func73, Tryz.ntmps73
      go_wp2_with fail
      go_ret
      exact ⟨ret_bool (by rw [Bool.eq_iff_iff]; simp), rfl⟩
theorem owed_any {w : World} {N R : Nat} {ev : Value} {s : Gs} (h : GW w N R ev s) :
    Calls Tryz.prog 55 #[.pointer (some ⟨R, 0, none⟩)] w fun r w' => r = .returned (.bool (owed s.la)) ∧ w' = w := by
  obtain ⟨mb, vs, D, cs, h⟩ := h
  have c4 : w.cell? ⟨R, 4, none⟩ = some (.int .i64 s.la.k) := cell_of h.hR 4
  have c9 : w.cell? ⟨R, 9, none⟩ = some (.int .i64 s.la.m) := cell_of h.hR 9
  clear h
  unfold owed
  generalize s.la.k = k at *
  generalize s.la.m = m at *
  have e3 : decide (k = 3) = (k == 3) := by rw [Bool.eq_iff_iff]; simp
  have e4 : decide (k = 4) = (k == 4) := by rw [Bool.eq_iff_iff]; simp
  have em : decide (m ≠ -1) = (m != -1) := by rw [Bool.eq_iff_iff]; simp
  rw [e3, e4, em]
  clear e3 e4 em
  cases h3 : (k == 3)
  · cases h4 : (k == 4)
    · go_enter Tryz.func55, Tryz.ntmps55
      go_wp2_with fail
      go_ret
      exact ⟨rfl, rfl⟩
    · go_enter Tryz.func55, Tryz.ntmps55
      go_wp2_with fail
      go_ret
      exact ⟨rfl, rfl⟩
  · go_enter Tryz.func55, Tryz.ntmps55
    go_wp2_with fail
    go_ret
    exact ⟨rfl, rfl⟩
set_option maxHeartbeats 1600000 in
theorem pserves_any (s e : Ev) (w : World) :
    Calls Tryz.prog 74 #[evv s, evv e] w fun r w' => r = .returned (.bool (servP s e)) ∧ Below w.heap.size w w' := by
  have B2 := hide (btr (below_alloc w (.cells (evc s) 23)) (below_alloc _ (.cells (evc e) 23)))
  unfold evv evc at *
  unfold servP
  obtain ⟨k, g, c, a, v, m, z, o⟩ := s
  obtain ⟨k', g', c', a', v', m', z', o'⟩ := e
  simp only at B2 ⊢
  have key : ∀ b1 b2 b3 b4 : Bool, (k' != 7) = b1 → (g' != m) = b2 → (m' != g) = b3 → (c' != c) = b4 → Calls Tryz.prog 74 #[.agg #[.int .i64 k, .int .i64 g, .int .i64 c, .int .i64 a, .int .i64 v, .int .i64 m, .bool z, .bool o], .agg #[.int .i64 k', .int .i64 g', .int .i64 c', .int .i64 a', .int .i64 v', .int .i64 m', .bool z', .bool o']] w fun r w' => r = .returned (.bool (if (b1 || b2 || b3 || b4 || !o') = true then false else if k = 4 then z' else !z' && decide (v' = v))) ∧ Below w.heap.size w w' := by
    intro b1 b2 b3 b4 h1 h2 h3 h4
    cases b1
    · cases b2
      · cases b3
        · cases b4
          · cases o'
            · go_enter Tryz.func74, Tryz.ntmps74
              go_wp2_with fail
              go_ret
              exact ⟨rfl, B2.out⟩
            · by_cases hk : k = 4
              · have d4 : (k == 4) = true := by simp [hk]
                have hR : (if (false || false || false || false || !true) = true then false else if k = 4 then z' else !z' && decide (v' = v)) = z' := by simp [hk]
                rw [hR]
                clear hk hR
                go_enter Tryz.func74, Tryz.ntmps74
                go_wp2_with fail
                go_ret
                exact ⟨rfl, B2.out⟩
              · have d4 : (k == 4) = false := by simp [hk]
                have hR : (if (false || false || false || false || !true) = true then false else if k = 4 then z' else !z' && decide (v' = v)) = (!z' && (v' == v)) := by
                  rw [if_neg (by simp), if_neg hk]
                  congr 1
                rw [hR]
                clear hk hR
                cases z'
                · go_enter Tryz.func74, Tryz.ntmps74
                  go_wp2_with fail
                  go_ret
                  exact ⟨rfl, B2.out⟩
                · go_enter Tryz.func74, Tryz.ntmps74
                  go_wp2_with fail
                  go_ret
                  exact ⟨rfl, B2.out⟩
          · go_enter Tryz.func74, Tryz.ntmps74
            go_wp2_with fail
            go_ret
            exact ⟨rfl, B2.out⟩
        · go_enter Tryz.func74, Tryz.ntmps74
          go_wp2_with fail
          go_ret
          exact ⟨rfl, B2.out⟩
      · go_enter Tryz.func74, Tryz.ntmps74
        go_wp2_with fail
        go_ret
        exact ⟨rfl, B2.out⟩
    · go_enter Tryz.func74, Tryz.ntmps74
      go_wp2_with fail
      go_ret
      exact ⟨rfl, B2.out⟩
  have hK := key _ _ _ _ rfl rfl rfl rfl
  refine hK.mono ?_
  rintro r w' ⟨rfl, b⟩
  refine ⟨ret_bool ?_, b⟩
  congr 1
  apply propext
  simp [or_assoc]
set_option maxHeartbeats 1600000 in
theorem right_any {w : World} {N R c : Nat} {oa : Option Addr} {l : List Ev} {s : Gs} (h : GW w N R (.slice oa l.length c) s) (hA : EsAt w oa l) {i : Nat} {e : Ev} (hi : l[i]? = some e) :
    Calls Tryz.prog 49 #[.pointer (some ⟨R, 0, none⟩), .int .i64 (i : Int)] w fun r w' => r = .returned (.bool (!(decide (2000 ≤ i) || decide (chk e ≠ 0)))) ∧ Below w.heap.size w w' := by
  obtain ⟨mb, vs, D, cs, h⟩ := h
  have hil : i < l.length := (List.getElem?_eq_some_iff.1 hi).1
  obtain ⟨b1, o1, rfl, -⟩ := hA i e hi
  obtain ⟨p0, p1, p2, p3, p4, p5, p6, p7⟩ := hA.read hi
  have c0 : w.cell? ⟨R, 0, none⟩ = some (.slice (some ⟨b1, o1, none⟩) l.length c) := cell_of h.hR 0
  have CK := hide (check_any e w)
  unfold evv evc at CK
  have hiM : (i : Int) < (l.length : Int) := by omega
  obtain ⟨q, hq⟩ : ∃ q, chk e = q := ⟨_, rfl⟩
  rw [hq] at CK ⊢
  clear h hA hi hq
  generalize l.length = M at *
  by_cases h2 : i < 2000
  · have d1 : decide ((i : Int) < 2000) = true := by simp; omega
    have d2 : decide (i < 2000) = true := by simp; omega
    have hR : (!(decide (2000 ≤ i) || decide (q ≠ 0))) = (q == 0) := by
      rw [show decide (2000 ≤ i) = false from by simp; omega]
      rw [Bool.eq_iff_iff]; simp
    rw [hR]
    clear hR h2
    go_enter Tryz.func49, Tryz.ntmps49
    go_wp2_with fail
    refine CK.out.mono ?_
    rintro r w1 ⟨rfl, b1⟩
    have B1 := hide b1
    clear b1
    go_wp2_with fail
    go_ret
    exact ⟨rfl, B1.out⟩
  · have d1 : decide ((i : Int) < 2000) = false := by simp; omega
    have d2 : decide (i < 2000) = false := by simp; omega
    have hR : (!(decide (2000 ≤ i) || decide (q ≠ 0))) = false := by
      rw [show decide (2000 ≤ i) = true from by simp; omega]; rfl
    rw [hR]
    clear hR h2
    go_enter Tryz.func49, Tryz.ntmps49
    go_wp2_with fail
    go_ret
    exact ⟨rfl, Below.refl _ _⟩
end Gu
end Go.Proofs.YtakbbhngcdccpaaGreat
