/- Package entry: Read, over this seat's program. -/
import Derived.Test.YtlcaelfkgillmaaOa
namespace Go.Proofs.Ytlcaelfkgillmaa
open Go.ChangeShapes Go.WideShapes Go.ChangeAt Go.RowKit
namespace En
open Ba Re

def evs (l : List Ev) : List Value := l.flatMap fun e => (evc e).toList
theorem evs_cons (e : Ev) (l : List Ev) : evs (e :: l) = (evc e).toList ++ evs l := by simp [evs]
theorem evs_app (l m : List Ev) : evs (l ++ m) = evs l ++ evs m := by simp [evs]
theorem evc_len (e : Ev) : (evc e).toList.length = 8 := rfl
theorem evs_len (l : List Ev) : (evs l).length = l.length * 8 := by
  induction l with
  | nil => rfl
  | cons e l ih => rw [evs_cons, List.length_append, ih, evc_len, List.length_cons]; omega
theorem evs_at : ∀ (l : List Ev) (k : Nat) (e : Ev) (j : Nat), l[k]? = some e → j < 8 → (evs l)[k * 8 + j]? = (evc e)[j]?
  | [], _, _, _, h, _ => by simp at h
  | y :: l, 0, e, j, h, hj => by
    simp at h
    subst h
    rw [evs_cons, Nat.zero_mul, Nat.zero_add, List.getElem?_append_left (by rw [evc_len]; exact hj), Array.getElem?_toList]
  | y :: l, k + 1, e, j, h, hj => by
    rw [evs_cons, List.getElem?_append_right (by rw [evc_len]; omega), evc_len, show (k + 1) * 8 + j - 8 = k * 8 + j by omega]
    exact evs_at l k e j (by simpa using h) hj
theorem evs_one (l : List Ev) : ∀ u ∈ evs l, u.oneCell' = true := by
  intro u hu
  simp only [evs, List.mem_flatMap] at hu
  obtain ⟨e, _, hu⟩ := hu
  simp [evc] at hu
  rcases hu with rfl | rfl | rfl | rfl | rfl | rfl | rfl | rfl <;> rfl
theorem own_es {w : World} {base : Nat} {v : Value} {l : List Ev} (h : w.ownsRow base 23 8 v l.length (evs l)) : ∃ oa c, v = .slice oa l.length c ∧ EsAt w oa l ∧ l.length ≤ c := by
  rcases h.2 with ⟨rfl, h0⟩ | ⟨g, cap, cur, rfl, _, hg, hc, _, hcs, htk⟩
  · refine ⟨none, 0, by rw [h0], ?_, by omega⟩
    obtain rfl := List.eq_nil_of_length_eq_zero h0
    exact EsAt.nil _ _
  · refine ⟨_, cap, rfl, ?_, hc⟩
    intro k e hk
    have hkl := (List.getElem?_eq_some_iff.1 hk).1
    refine ⟨g, 0, rfl, fun j hj => ?_⟩
    have q := evs_at l k e j hk hj
    rw [← htk, List.getElem?_take_of_lt (by omega)] at q
    rw [Nat.zero_add, cell_of hg, ← q, Array.getElem?_toList]
theorem srcE (w : World) (e : Ev) (t : TypeId) : ∀ j u, (evs [e])[j]? = some u → (w.alloc (.cells (evc e) t)).cell? ((⟨w.heap.size, 0, none⟩ : Addr).add j) = some u := by
  intro j u hj
  rw [Addr.add_lit, Nat.zero_add, cell_of (heap_new _ _)]
  rw [evs_cons, show evs [] = [] from rfl, List.append_nil, Array.getElem?_toList] at hj
  exact hj
theorem info_ev : (Try.prog.info? 23).map (fun i => (i.zero, i.size, i.bytes)) = some (some (evv e0), 8, 56) := by kernel_rfl
/-- the events that bytes are -/
def rdf : Nat → List Nat → Option (List Ev)
  | 0, _ => some []
  | n + 1, L => if L = [] then some [] else match dec L with
    | none => none
    | some (e, z) => (rdf n (L.drop z)).map (e :: ·)
def rd (L : List Nat) : Option (List Ev) := rdf L.length L
theorem rdf_more : ∀ (n : Nat) (L : List Nat), L.length ≤ n → rdf n L = rdf L.length L
  | 0, L, h => by
    have : L.length = 0 := by omega
    rw [this]
  | n + 1, L, h => by
    by_cases hL : L = []
    · subst hL
      rfl
    · obtain ⟨m, hm⟩ : ∃ m, L.length = m + 1 := ⟨L.length - 1, by have := List.length_pos_iff.2 hL; omega⟩
      rw [hm]
      simp only [rdf, if_neg hL]
      cases hd : dec L with
      | none => rfl
      | some p =>
        obtain ⟨e, z⟩ := p
        have hz := dec_le hd
        simp only
        have hl : (L.drop z).length ≤ m := by rw [List.length_drop]; omega
        rw [rdf_more n (L.drop z) (by omega), rdf_more m (L.drop z) hl]
theorem rd_nil : rd [] = some [] := rfl
theorem rd_cons {L : List Nat} {e : Ev} {z : Nat} (h : dec L = some (e, z)) : rd L = (rd (L.drop z)).map (e :: ·) := by
  have hz := dec_le h
  have hL : L ≠ [] := by
    intro q
    subst q
    simp at hz
    omega
  obtain ⟨m, hm⟩ : ∃ m, L.length = m + 1 := ⟨L.length - 1, by omega⟩
  unfold rd
  rw [hm]
  simp only [rdf, if_neg hL, h]
  rw [rdf_more m (L.drop z) (by rw [List.length_drop]; omega)]
theorem rd_bad {L : List Nat} (hL : L ≠ []) (h : dec L = none) : rd L = none := by
  obtain ⟨m, hm⟩ : ∃ m, L.length = m + 1 := ⟨L.length - 1, by have := List.length_pos_iff.2 hL; omega⟩
  unfold rd
  rw [hm]
  simp only [rdf, if_neg hL, h]
/-- how far Read is: es are read, bytes are left from z on -/
def Rds (L : List Nat) (z : Nat) (es : List Ev) : Prop := rd L = (rd (L.drop z)).map (es ++ ·) ∧ z ≤ L.length ∧ es.length * 7 ≤ z
theorem Rds.start (L : List Nat) : Rds L 0 [] := by
  refine ⟨?_, Nat.zero_le _, by simp⟩
  rw [List.drop_zero]
  cases rd L <;> simp
theorem Rds.step {L : List Nat} {z : Nat} {es : List Ev} {e : Ev} {q : Nat} (h : Rds L z es) (hd : dec (L.drop z) = some (e, q)) : Rds L (z + q) (es ++ [e]) := by
  have hq := dec_le hd
  rw [List.length_drop] at hq
  refine ⟨?_, by have := h.2.1; omega, ?_⟩
  · rw [h.1, rd_cons hd, List.drop_drop]
    cases rd (L.drop (z + q)) <;> simp
  · have := h.2.2
    rw [List.length_append, List.length_singleton]
    omega
theorem Rds.bad {L : List Nat} {z : Nat} {es : List Ev} (h : Rds L z es) (hz : L.drop z ≠ []) (hd : dec (L.drop z) = none) : rd L = none := by
  rw [h.1, rd_bad hz hd]
  rfl
theorem Rds.done {L : List Nat} {z : Nat} {es : List Ev} (h : Rds L z es) (hz : L.drop z = []) : rd L = some es := by
  rw [h.1, hz, rd_nil]
  simp
def strlen : Value → Nat
  | .string b => b.size
  | _ => 0
/-- what Read answers -/
def rdE (L : List Nat) : Int := match rd L with
  | none => 4
  | some es => if es.length ≤ 2000 then 0 else 2
def rdL (L : List Nat) : List Ev := match rd L with
  | none => []
  | some es => if es.length ≤ 2000 then es else []
set_option maxRecDepth 100000 in
set_option maxHeartbeats 3200000 in
theorem read_any (s : ByteArray) (w : World) :
    Calls Try.prog 18 #[.string s] w fun r w' => (∃ oa c, r = .returned (.tuple #[.slice oa (rdL (nbs s)).length c, .int .i64 (rdE (nbs s))]) ∧ EsAt w' oa (rdL (nbs s))) ∧ Below w.heap.size w w' := by
  cases hi : Try.prog.info? 23 with
  | none => have := info_ev; rw [hi] at this; cases this
  | some i0 =>
  have hx2 := info_ev
  rw [hi] at hx2
  simp at hx2
  have INF := hide (And.intro hi hx2)
  clear hx2 hi
  have HZ := hide (sfx_zero s)
  go_enter Try.func18, Try.ntmps18
  go_wp2_with fail
  go_loopw [0, 4, 5] (fun sv lv bv wr => ∃ (z : Nat) (es : List Ev), sv = .string (s.extract z s.size) ∧ bv = .bool (decide (2000 < es.length)) ∧ Rds (nbs s) z es ∧ wr.ownsRow w.heap.size 23 8 lv (es.take 2000).length (evs (es.take 2000)) ∧ Below w.heap.size w wr) (fun sv _ _ _ => strlen sv)
  case atStart => exact ⟨0, [], by rw [HZ.out], rfl, Rds.start _, World.ownsRow_nil _ _ _ _, Below.refl _ _⟩
  case round =>
    obtain ⟨z, es, rfl, rfl, hr, ho, hb⟩ := hrel
    have HR := hide hr
    have HO := hide ho
    have HB := hide hb
    have hzl := hr.2.1
    rw [nbs_length] at hzl
    have hnum := hr.2.2
    clear hr ho hb
    obtain ⟨oa, ca, hlv, hAt, hca⟩ := own_es HO.out
    subst hlv
    have HAT := hide hAt
    have htk : (es.take 2000).length = min 2000 es.length := List.length_take
    clear hAt
    by_cases hz : z = s.size
    · have hempty : (s.extract z s.size) = ByteArray.empty := nbs_inj (by rw [nbs_sfx, hz]; exact List.drop_eq_nil_of_le (by rw [nbs_length]; omega))
      have DN := hide (HR.out.done (by rw [hz]; exact List.drop_eq_nil_of_le (by rw [nbs_length]; omega)))
      rw [hempty]
      clear hempty
      by_cases h2 : 2000 < es.length
      · have RE : Hid (rdE (nbs s) = 2 ∧ rdL (nbs s) = []) := by
          unfold rdE rdL
          rw [DN.out]
          simp only
          rw [if_neg (by omega), if_neg (by omega)]
          exact ⟨rfl, rfl⟩
        have d2 : decide (2000 < es.length) = true := decide_eq_true h2
        rw [d2]
        clear d2 h2
        generalize (es.take 2000).length = tn at *
        go_wp2_with fail
        go_ret2
        exact ⟨⟨none, 0, by rw [RE.out.1, RE.out.2]; rfl, by rw [RE.out.2]; exact EsAt.nil _ _⟩, HB.out⟩
      · have RE : Hid (rdE (nbs s) = 0 ∧ rdL (nbs s) = es) := by
          unfold rdE rdL
          rw [DN.out]
          simp only
          rw [if_pos (by omega), if_pos (by omega)]
          exact ⟨rfl, rfl⟩
        have d2 : decide (2000 < es.length) = false := decide_eq_false h2
        rw [d2]
        have TK : Hid (es.take 2000 = es) := List.take_of_length_le (by omega)
        rw [TK.out] at HAT ⊢
        clear d2 h2 htk hca
        go_wp2_with fail
        go_ret2
        exact ⟨⟨oa, ca, by rw [RE.out.1, RE.out.2]; rfl, by rw [RE.out.2]; exact HAT.out⟩, HB.out⟩
    · have hzs : z < s.size := by omega
      have hts : (s.extract z s.size).size = s.size - z := by simp
      have hne := ne_empty (s.extract z s.size) (by omega)
      have hdr : (nbs s).drop z ≠ [] := by
        intro q
        have := congrArg List.length q
        rw [List.length_drop, nbs_length] at this
        simp at this
        omega
      have HDR := hide hdr
      clear hdr
      have HSE := hide (nbs_sfx s z)
      cases hd : dec (nbs (s.extract z s.size)) with
      | none =>
        have DE := hide fun u => decode_none (s.extract z s.size) u hd
        rw [HSE.out] at hd
        have BD := hide (HR.out.bad HDR.out hd)
        have RE : Hid (rdE (nbs s) = 4 ∧ rdL (nbs s) = []) := by
          unfold rdE rdL
          rw [BD.out]
          exact ⟨rfl, rfl⟩
        unfold evv evc at DE
        simp only [e0] at DE
        clear hd hts
        generalize s.extract z s.size = t at *
        go_wp2_with fail
        refine (DE.out _).mono ?_
        rintro r w3 ⟨rfl, b3⟩
        have B3 := hide (btr (btr HB.out b3) (below_alloc w3 (.cells #[.int .i64 0, .int .i64 0, .int .i64 0, .int .i64 0, .int .i64 0, .int .i64 0, .bool false, .bool false] 23)))
        clear b3
        go_wp2_with fail
        go_ret2
        exact ⟨⟨none, 0, by rw [RE.out.1, RE.out.2]; rfl, by rw [RE.out.2]; exact EsAt.nil _ _⟩, B3.out⟩
      | some p =>
        obtain ⟨x, q⟩ := p
        have DE := hide fun u => decode_some (s.extract z s.size) u x q hd
        have hq := dec_le hd
        rw [nbs_length, hts] at hq
        rw [HSE.out] at hd
        have R2 := hide (HR.out.step hd)
        rw [sfx_sfx] at DE
        have hts2 : (s.extract (z + q) s.size).size = s.size - (z + q) := by simp
        unfold evv evc at DE
        have ML : Hid (strlen (.string (s.extract (z + q) s.size)) < strlen (.string (s.extract z s.size))) := by
          show (s.extract (z + q) s.size).size < (s.extract z s.size).size
          omega
        clear hd hts hts2 HSE
        by_cases h2 : es.length < 2000
        · have TK : Hid (es.take 2000 = es) := List.take_of_length_le (by omega)
          have TK2 : Hid ((es ++ [x]).take 2000 = es ++ [x]) := List.take_of_length_le (by rw [List.length_append, List.length_singleton]; omega)
          have d2 : decide (2000 < es.length) = false := decide_eq_false (by omega)
          have D3 : Hid (decide (2000 < (es ++ [x]).length) = false) := decide_eq_false (by rw [List.length_append, List.length_singleton]; omega)
          rw [d2]
          clear htk
          rw [TK.out] at HO hca ⊢
          have e2 : (((es.length : Nat) : Int) == 2000) = false := by rw [beq_eq_false_iff_ne]; omega
          clear d2 HAT
          generalize s.extract z s.size = t at *
          generalize hT' : s.extract (z + q) s.size = t' at *
          have HT' := hide hT'
          clear hT'
          go_wp2_with fail
          refine (DE.out _).mono ?_
          rintro r w3 ⟨rfl, b3⟩
          have b4 := below_alloc w3 (.cells #[.int .i64 x.k, .int .i64 x.g, .int .i64 x.c, .int .i64 x.a, .int .i64 x.v, .int .i64 x.m, .bool x.s, .bool x.o] 23)
          have b5 := below_alloc (w3.alloc (.cells #[.int .i64 x.k, .int .i64 x.g, .int .i64 x.c, .int .i64 x.a, .int .i64 x.v, .int .i64 x.m, .bool x.s, .bool x.o] 23)) (.cells #[.int .i64 x.k, .int .i64 x.g, .int .i64 x.c, .int .i64 x.a, .int .i64 x.v, .int .i64 x.m, .bool x.s, .bool x.o] 23)
          have HB5 := hide (btr (btr (btr HB.out b3) b4) b5)
          have O5 := hide (own_below (own_below (own_below HO.out b3) b4) b5)
          have SR := srcE (w3.alloc (.cells #[.int .i64 x.k, .int .i64 x.g, .int .i64 x.c, .int .i64 x.a, .int .i64 x.v, .int .i64 x.m, .bool x.s, .bool x.o] 23)) x 23
          rw [World.size_alloc] at SR
          have SRC := hide SR
          have XN := hide (heap_new w3 (.cells #[.int .i64 x.k, .int .i64 x.g, .int .i64 x.c, .int .i64 x.a, .int .i64 x.v, .int .i64 x.m, .bool x.s, .bool x.o] 23))
          clear b3 b4 b5 SR
          go_wp2_with (at_builtin; refine wpList_append_own _ rfl _ _ 40 rfl w.heap.size 23 i0 (evv e0) 8 56 Try.underlying40 INF.out.1 INF.out.2.1 INF.out.2.2.1 INF.out.2.2.2 rfl (by decide) _ _ _ rfl O5.out ⟨w3.heap.size + 1, 0, none⟩ 1 1 (evs [x]) rfl rfl ?c1 ?c2 ?c3 ?c4 ?c5 ?_)
          case c1 => first | exact SRC.out | exact fun j u hj => hj
          case c2 => exact evs_one _
          case c3 => unfold maxLen; omega
          case c4 => omega
          case c5 => first | exact HB5.out.size | (have := HB5.out.size; rw [World.size_alloc, World.size_alloc] at this; exact this)
          intro v' w6 ho hg6 _
          have B6 : Hid (Below w.heap.size w w6) := HB5.out.grown hg6 HB5.out.size (fun x hx => (O5.out.lt x hx).1)
          have O6 : Hid (w6.ownsRow w.heap.size 23 8 v' ((es ++ [x]).take 2000).length (evs ((es ++ [x]).take 2000))) := by
            show World.ownsRow _ _ _ _ _ _ _
            rw [TK2.out, evs_app, List.length_append]
            exact ho
          clear ho hg6
          go_wp2_with fail
          go_roundw
          case rel =>
            first
              | exact ⟨z + q, es ++ [x], by rw [HT'.out], by rw [D3.out], R2.out, O6.out, B6.out⟩
              | ((repeat apply Exists.intro); exact ⟨⟨z + q, es ++ [x], by rw [HT'.out], by rw [D3.out], R2.out, O6.out, B6.out⟩, rfl⟩)
          case measure => exact ML.out
        · have hl2 : (es.take 2000).length = 2000 := by omega
          have TK2 : Hid ((es ++ [x]).take 2000 = es.take 2000) := List.take_append_of_le_length (by omega)
          have D3 : Hid (decide (2000 < (es ++ [x]).length) = true) := decide_eq_true (by rw [List.length_append, List.length_singleton]; omega)
          have O6 := hide HO.out
          rw [← TK2.out] at O6
          have HL2 := hide hl2
          rw [hl2]
          clear hl2 htk hca HAT
          generalize decide (2000 < es.length) = d0
          generalize s.extract z s.size = t at *
          generalize hT' : s.extract (z + q) s.size = t' at *
          have HT' := hide hT'
          clear hT'
          go_wp2_with fail
          refine (DE.out _).mono ?_
          rintro r w3 ⟨rfl, b3⟩
          have b4 := below_alloc w3 (.cells #[.int .i64 x.k, .int .i64 x.g, .int .i64 x.c, .int .i64 x.a, .int .i64 x.v, .int .i64 x.m, .bool x.s, .bool x.o] 23)
          have HB5 := hide (btr (btr HB.out b3) b4)
          have O7 := hide (own_below (own_below O6.out b3) b4)
          clear b3 b4
          go_wp2_with fail
          go_roundw
          case rel => exact ⟨z + q, es ++ [x], by rw [HT'.out], by rw [D3.out], R2.out, by
            have q7 := O7.out
            rw [TK2.out, HL2.out] at q7
            rw [TK2.out, HL2.out]
            exact q7, HB5.out⟩
          case measure => exact ML.out
end En
end Go.Proofs.Ytlcaelfkgillmaa
