/- The reference's Read, over this seat's program. -/
import Derived.Test.YtlcaelfkgillmaaOf
import Derived.Test.YtlcaelfkgillmaaOb
namespace Go.Proofs.Ytlcaelfkgillmaa
open Go.ChangeShapes Go.WideShapes Go.ChangeAt Go.RowKit
namespace En
open Ba Re

theorem own_ne' {w : World} {base size : Nat} {e : TypeId} {v : Value} {n g : Nat} {xs : List Value} {c : Array Value} {t : TypeId} {fr : Nat × Nat} (h : w.ownsRow base e size v n xs) (hg : w.heap[g]? = some (.cells c t fr)) (ht : t ≠ e) : some g ≠ v.ownBlock := by
  intro q
  rcases h.2 with ⟨rfl, _⟩ | ⟨b, cap, cur, rfl, _, hb, _⟩
  · simp [Value.ownBlock] at q
  · simp [Value.ownBlock] at q
    subst q
    rw [hg] at hb
    simp at hb
    exact ht hb.2.1
set_option maxRecDepth 100000 in
set_option maxHeartbeats 3200000 in
theorem rread_any (s : ByteArray) (w : World) (hs : s.size ≤ 20000) :
    Calls Try.prog 19 #[.string s] w fun r w' => (∃ oa c, r = .returned (.tuple #[.slice oa (rdL (nbs s)).length c, .int .i64 (rdE (nbs s))]) ∧ EsAt w' oa (rdL (nbs s))) ∧ Below w.heap.size w w' := by
  cases hi : Try.prog.info? 23 with
  | none => have := info_ev; rw [hi] at this; cases this
  | some i0 =>
  have hx2 := info_ev
  rw [hi] at hx2
  simp at hx2
  have INF := hide (And.intro hi hx2)
  clear hx2 hi
  go_enter Try.func19, Try.ntmps19
  go_wp2_with fail
  go_loopw [4, 5] (fun lv av wr => ∃ (z : Nat) (es : List Ev), av = .int .i64 z ∧ Rds (nbs s) z es ∧ wr.ownsRow w.heap.size 23 8 lv es.length (evs es) ∧ Below w.heap.size w wr) (fun _ av _ => s.size - (intOf av).toNat)
  case atStart => exact ⟨0, [], rfl, Rds.start _, World.ownsRow_nil _ _ _ _, Below.refl _ _⟩
  case round =>
    obtain ⟨z, es, rfl, hr, ho, hb⟩ := hrel
    have HR := hide hr
    have HO := hide ho
    have HB := hide hb
    have hzl := hr.2.1
    rw [nbs_length] at hzl
    have hnum := hr.2.2
    clear hr ho hb
    obtain ⟨oa, ca, hlv, hAt, hca⟩ := own_es HO.out
    subst hlv
    have HAT := hide hAt
    clear hAt
    by_cases hz : z = s.size
    · have DN := hide (HR.out.done (by rw [hz]; exact List.drop_eq_nil_of_le (by rw [nbs_length]; omega)))
      have hzi : ¬ ((z : Int) < (s.size : Int)) := by omega
      by_cases h2 : 2000 < es.length
      · have RE : Hid (rdE (nbs s) = 2 ∧ rdL (nbs s) = []) := by
          unfold rdE rdL
          rw [DN.out]
          simp only
          rw [if_neg (by omega), if_neg (by omega)]
          exact ⟨rfl, rfl⟩
        have h2i : (2000 : Int) < (es.length : Int) := by omega
        go_wp2_with fail
        go_ret2
        first
          | exact ⟨⟨none, 0, by rw [RE.out.1, RE.out.2]; rfl, by rw [RE.out.2]; exact EsAt.nil _ _⟩, HB.out⟩
          | exact ⟨⟨none, ⟨0, by rw [RE.out.1, RE.out.2]; rfl⟩, by rw [RE.out.2]; exact EsAt.nil _ _⟩, HB.out⟩
      · have RE : Hid (rdE (nbs s) = 0 ∧ rdL (nbs s) = es) := by
          unfold rdE rdL
          rw [DN.out]
          simp only
          rw [if_pos (by omega), if_pos (by omega)]
          exact ⟨rfl, rfl⟩
        have h2i : ¬ ((2000 : Int) < (es.length : Int)) := by omega
        go_wp2_with fail
        go_ret2
        first
          | exact ⟨⟨oa, ca, by rw [RE.out.1, RE.out.2]; rfl, by rw [RE.out.2]; exact HAT.out⟩, HB.out⟩
          | exact ⟨⟨oa, ⟨ca, by rw [RE.out.1, RE.out.2]; rfl⟩, by rw [RE.out.2]; exact HAT.out⟩, HB.out⟩
    · have hzs : z < s.size := by omega
      have hzi : (z : Int) < (s.size : Int) := by omega
      have hzi2 : (z : Int) ≤ (s.size : Int) := by omega
      have hts : (s.extract z s.size).size = s.size - z := by simp
      have hdr : (nbs s).drop z ≠ [] := by
        intro q
        have := congrArg List.length q
        rw [List.length_drop, nbs_length] at this
        simp at this
        omega
      have HDR := hide hdr
      clear hdr
      have HSE := hide (nbs_sfx s z)
      have hml : (s.extract z s.size).size ≤ maxLen := by unfold maxLen; omega
      cases hd : dec (nbs (s.extract z s.size)) with
      | none =>
        have DE := hide fun u => rdecode_none (s.extract z s.size) u hml hd
        rw [HSE.out] at hd
        have BD := hide (HR.out.bad HDR.out hd)
        have RE : Hid (rdE (nbs s) = 4 ∧ rdL (nbs s) = []) := by
          unfold rdE rdL
          rw [BD.out]
          exact ⟨rfl, rfl⟩
        unfold gz at DE
        clear hd hts hml HSE HDR HO HAT
        go_wp2_with fail
        refine (DE.out _).mono ?_
        rintro r w3 ⟨rfl, b3⟩
        have B3 := hide (btr (btr HB.out b3) (below_alloc w3 (.cells #[.int .i64 0, .int .i64 0, .int .i64 0, .int .i64 0, .int .i64 0, .int .i64 0, .bool false, .bool false, .int .i64 0] 36)))
        clear b3
        go_wp2_with fail
        go_ret2
        exact ⟨⟨none, 0, by rw [RE.out.1, RE.out.2]; rfl, by rw [RE.out.2]; exact EsAt.nil _ _⟩, B3.out⟩
      | some p =>
        obtain ⟨x, q⟩ := p
        have DE := hide fun u => rdecode_some (s.extract z s.size) u hml x q hd
        have hq := dec_le hd
        rw [nbs_length, hts] at hq
        rw [HSE.out] at hd
        have R2 := hide (HR.out.step hd)
        unfold gotc at DE
        clear hd hts hml HSE HDR HAT
        go_wp2_with fail
        refine (DE.out _).mono ?_
        rintro r w3 ⟨rfl, b3⟩
        have b4 := below_alloc w3 (.cells #[.int .i64 x.k, .int .i64 x.g, .int .i64 x.c, .int .i64 x.a, .int .i64 x.v, .int .i64 x.m, .bool x.s, .bool x.o, .int .i64 (q : Int)] 36)
        have b5 := below_alloc (w3.alloc (.cells #[.int .i64 x.k, .int .i64 x.g, .int .i64 x.c, .int .i64 x.a, .int .i64 x.v, .int .i64 x.m, .bool x.s, .bool x.o, .int .i64 (q : Int)] 36)) (.cells #[.int .i64 x.k, .int .i64 x.g, .int .i64 x.c, .int .i64 x.a, .int .i64 x.v, .int .i64 x.m, .bool x.s, .bool x.o] 23)
        have HB5 := hide (btr (btr (btr HB.out b3) b4) b5)
        have O5 := hide (own_below (own_below (own_below HO.out b3) b4) b5)
        have SR := srcE (w3.alloc (.cells #[.int .i64 x.k, .int .i64 x.g, .int .i64 x.c, .int .i64 x.a, .int .i64 x.v, .int .i64 x.m, .bool x.s, .bool x.o, .int .i64 (q : Int)] 36)) x 23
        rw [World.size_alloc] at SR
        have SRC := hide SR
        have XN := hide (heap_new w3 (.cells #[.int .i64 x.k, .int .i64 x.g, .int .i64 x.c, .int .i64 x.a, .int .i64 x.v, .int .i64 x.m, .bool x.s, .bool x.o, .int .i64 (q : Int)] 36))
        have X5 := hide (heap_below XN.out b5)
        clear b3 b4 b5 SR
        have g0 : (w3.alloc (.cells #[.int .i64 x.k, .int .i64 x.g, .int .i64 x.c, .int .i64 x.a, .int .i64 x.v, .int .i64 x.m, .bool x.s, .bool x.o, .int .i64 (q : Int)] 36)).cell? ⟨w3.heap.size, 0, none⟩ = some (.int .i64 x.k) := cell_of XN.out 0
        have g1 : (w3.alloc (.cells #[.int .i64 x.k, .int .i64 x.g, .int .i64 x.c, .int .i64 x.a, .int .i64 x.v, .int .i64 x.m, .bool x.s, .bool x.o, .int .i64 (q : Int)] 36)).cell? ⟨w3.heap.size, 1, none⟩ = some (.int .i64 x.g) := cell_of XN.out 1
        have g2 : (w3.alloc (.cells #[.int .i64 x.k, .int .i64 x.g, .int .i64 x.c, .int .i64 x.a, .int .i64 x.v, .int .i64 x.m, .bool x.s, .bool x.o, .int .i64 (q : Int)] 36)).cell? ⟨w3.heap.size, 2, none⟩ = some (.int .i64 x.c) := cell_of XN.out 2
        have g3 : (w3.alloc (.cells #[.int .i64 x.k, .int .i64 x.g, .int .i64 x.c, .int .i64 x.a, .int .i64 x.v, .int .i64 x.m, .bool x.s, .bool x.o, .int .i64 (q : Int)] 36)).cell? ⟨w3.heap.size, 3, none⟩ = some (.int .i64 x.a) := cell_of XN.out 3
        have g4 : (w3.alloc (.cells #[.int .i64 x.k, .int .i64 x.g, .int .i64 x.c, .int .i64 x.a, .int .i64 x.v, .int .i64 x.m, .bool x.s, .bool x.o, .int .i64 (q : Int)] 36)).cell? ⟨w3.heap.size, 4, none⟩ = some (.int .i64 x.v) := cell_of XN.out 4
        have g5 : (w3.alloc (.cells #[.int .i64 x.k, .int .i64 x.g, .int .i64 x.c, .int .i64 x.a, .int .i64 x.v, .int .i64 x.m, .bool x.s, .bool x.o, .int .i64 (q : Int)] 36)).cell? ⟨w3.heap.size, 5, none⟩ = some (.int .i64 x.m) := cell_of XN.out 5
        have g6 : (w3.alloc (.cells #[.int .i64 x.k, .int .i64 x.g, .int .i64 x.c, .int .i64 x.a, .int .i64 x.v, .int .i64 x.m, .bool x.s, .bool x.o, .int .i64 (q : Int)] 36)).cell? ⟨w3.heap.size, 6, none⟩ = some (.bool x.s) := cell_of XN.out 6
        have g7 : (w3.alloc (.cells #[.int .i64 x.k, .int .i64 x.g, .int .i64 x.c, .int .i64 x.a, .int .i64 x.v, .int .i64 x.m, .bool x.s, .bool x.o, .int .i64 (q : Int)] 36)).cell? ⟨w3.heap.size, 7, none⟩ = some (.bool x.o) := cell_of XN.out 7
        go_wp2_with (at_builtin; refine wpList_append_own _ rfl _ _ 40 rfl w.heap.size 23 i0 (evv e0) 8 56 Try.underlying40 INF.out.1 INF.out.2.1 INF.out.2.2.1 INF.out.2.2.2 rfl (by decide) _ _ _ rfl O5.out ⟨w3.heap.size + 1, 0, none⟩ 1 1 (evs [x]) rfl rfl ?c1 ?c2 ?c3 ?c4 ?c5 ?_)
        case c1 => first | exact SRC.out | exact fun j u hj => hj
        case c2 => exact evs_one _
        case c3 => unfold maxLen; omega
        case c4 => omega
        case c5 => first | exact HB5.out.size | (have := HB5.out.size; rw [World.size_alloc, World.size_alloc] at this; exact this)
        intro v' w6 ho hg6 _
        have B6 : Hid (Below w.heap.size w w6) := HB5.out.grown hg6 HB5.out.size (fun x hx => (O5.out.lt x hx).1)
        have O6 : Hid (w6.ownsRow w.heap.size 23 8 v' (es ++ [x]).length (evs (es ++ [x]))) := by
          show World.ownsRow _ _ _ _ _ _ _
          rw [evs_app, List.length_append]
          exact ho
        have X6 : w6.cell? ⟨w3.heap.size, 8, none⟩ = some (.int .i64 (q : Int)) := cell_of ((hg6.block _ (heap_lt X5.out) (own_ne' O5.out X5.out (by decide))).trans X5.out) 8
        clear ho hg6 g0 g1 g2 g3 g4 g5 g6 g7
        go_wp2_with fail
        go_roundw
        case rel => exact ⟨z + q, es ++ [x], by go_num, R2.out, O6.out, B6.out⟩
        case measure => simp [intOf]; omega
end En
end Go.Proofs.Ytlcaelfkgillmaa
