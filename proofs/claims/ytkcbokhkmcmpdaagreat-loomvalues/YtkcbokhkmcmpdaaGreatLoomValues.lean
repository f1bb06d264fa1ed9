/- Of each channel the values that come out are those that went in, in their order. -/
import Derived.Test.YtkcbokhkmcmpdaaGreatZjLoom10
import Derived.Test.YtkcbokhkmcmpdaaGreatQj
import Derived.Test.YtkcbokhkmcmpdaaGreatLv
import Derived.Test.YtkcbokhkmcmpdaaGreatHr
import Derived.ShutString
import Derived.ChangeOld
import Derived.Below
namespace Go.Proofs.YtkcbokhkmcmpdaaGreat.loomValues
open Go.ChangeShapes Go.WideShapes Go.ChangeAt Go.RowKit
open Go.ChangeMaps (open_string shut_string)
open Lo Ba Sh

theorem own : ownKnob Tryz.prog.godebug = none := by kernel_rfl
theorem laidOut : laidOutB Tryz.prog = true := by kernel_rfl

/-- what comes back of a run of either kind -/
def RunV (w : World) (r : Ending) (w' : World) : Prop := ∃ (ob : Option Addr) (d : Nat) (tr : List Ev) (v : Int), r = .returned (.tuple #[.slice ob tr.length d, .int .i64 v]) ∧ EsAt w' ob tr ∧ tr.length ≤ 80400 ∧ (∀ c, ∃ l, ins c tr = outs c tr ++ l) ∧ Below w.heap.size w w'
theorem run_v (T M : Int) (ps : List (List De.OpD)) (pl dr : List Int) (pa la da : Option Addr) (pc lc dc : Nat) (w : World) (hS : Sh.SAt w ⟨T, M, ps, pl, dr⟩ pa la da) :
    Calls Tryz.prog 11 #[.agg #[.int .i64 T, .int .i64 M, .slice pa ps.length pc, .slice la pl.length lc, .slice da dr.length dc]] w (RunV w) := by
  by_cases hx : Sh.schk ⟨T, M, ps, pl, dr⟩ = 0
  · refine (run_yes T M ps pl dr pa la da pc lc dc w hS hx _ rfl).mono ?_
    rintro r w1 ⟨ob, d, rfl, es, -, b1⟩
    refine ⟨ob, d, _, _, rfl, es, ?_, values hx, b1⟩
    obtain ⟨k, -, i, -⟩ := Inv.steps hx pl.length
    have h1 := kn_le (i.n200 hx)
    have h2 := i.b.bw.tn
    have h3 : (stepsF pl.length (newS ⟨T, M, ps, pl, dr⟩)).tr.length = (runF ⟨T, M, ps, pl, dr⟩).tr.length := rfl
    omega
  · refine (run_no T M ps pl dr pa la da pc lc dc w hS hx).mono ?_
    rintro r w1 ⟨rfl, b1⟩
    exact ⟨none, 0, [], 0, rfl, EsAt.nil _ _, by decide, fun _ => ⟨[], rfl⟩, b1⟩
theorem at_pre {w : World} {oa : Option Addr} {l m : List Int} (h : At w oa (l ++ m)) : At w oa l := by
  intro k hk
  have hk2 : k < (l ++ m).length := by rw [List.length_append]; omega
  obtain ⟨b, off, e, hc⟩ := h k hk2
  refine ⟨b, off, e, ?_⟩
  rw [hc, nth_lt _ k hk2, nth_lt _ k hk, List.getElem_append_left hk]
set_option maxRecDepth 100000 in
set_option maxHeartbeats 6400000 in
theorem core {w : World} (T M : Int) (ps : List (List De.OpD)) (pl dr : List Int) (pa la da : Option Addr) (pc lc dc : Nat) (hS : Sh.SAt w ⟨T, M, ps, pl, dr⟩ pa la da) (hH : Sh.Held ps) :
    Calls Tryz.prog 7 #[.agg #[.int .i64 T, .int .i64 M, .slice pa ps.length pc, .slice la pl.length lc, .slice da dr.length dc]] w fun r w' => r = .returned (.bool true) ∧ Below w.heap.size w w' := by
  have LG := hide (large13 T M ps pl dr pa la da pc lc dc (w.alloc (.cells #[.int .i64 T, .int .i64 M, .slice pa ps.length pc, .slice la pl.length lc, .slice da dr.length dc] 25)) (hS.below (below_alloc _ _)) hH)
  have HS := hide hS
  clear hS hH
  obtain ⟨i0, hi, hz0, hz1, hz2⟩ := info_parts Rp.info_i
  have INF := hide (And.intro hi (And.intro hz0 (And.intro hz1 hz2)))
  clear hi hz0 hz1 hz2
  go_enter Tryz.func7, Tryz.ntmps7
  go_wp2_with fail
  refine LG.out.mono ?_
  rintro r w1 ⟨⟨b, rfl, hb⟩, b1⟩
  have E1 := hide (heap_below (heap_new w (.cells #[.int .i64 T, .int .i64 M, .slice pa ps.length pc, .slice la pl.length lc, .slice da dr.length dc] 25)) b1)
  have B1 := hide (btr (below_alloc w (.cells #[.int .i64 T, .int .i64 M, .slice pa ps.length pc, .slice la pl.length lc, .slice da dr.length dc] 25)) b1)
  have x0 := cell_of E1.out 0
  have x1 := cell_of E1.out 1
  have x2 := cell_of E1.out 2
  have x3 := cell_of E1.out 3
  have x4 := cell_of E1.out 4
  simp at x0 x1 x2 x3 x4
  clear b1 LG hb
  cases b
  case true =>
    go_wp2_with fail
    refine (hands_any _).mono ?_
    rintro r w2 ⟨rfl, b2⟩
    have B2 := hide (btr B1.out b2)
    clear b2
    go_wp2_with fail
    go_ret
    exact ⟨rfl, B2.out⟩
  case false =>
    have RN := hide (run_v T M ps pl dr pa la da pc lc dc w1 (HS.out.below B1.out))
    go_wp2_with fail
    refine RN.out.mono ?_
    rintro r w2 ⟨ob, d, tr, v, rfl, es2, hlen, hval, b2⟩
    have B2 := hide (btr B1.out b2)
    have EZ := hide es2
    have VA := hide hval
    clear b2 es2 hval RN x0 x1 x2 x3 x4 E1 HS
    go_wp2_with fail
    go_loopw [5] (fun i wr => ∃ (cc : Nat), cc ≤ 200 ∧ i = .int .i64 cc ∧ Below w2.heap.size w2 wr) (fun i _ => 200 - (intOf i).toNat)
    case atStart => exact ⟨0, Nat.zero_le _, rfl, Below.refl _ _⟩
    case round =>
      rename World => w5
      obtain ⟨cc, hc, rfl, b5⟩ := hrel
      have B5 := hide b5
      have EZ5 := hide (EZ.out.below b5)
      clear b5
      by_cases hc2 : cc < 200
      · have hc2' : (cc : Int) < 200 := by omega
        go_wp2_with fail
        go_loopw [6, 7, 24] (fun s6 s7 i wr => ∃ (k : Nat), k ≤ tr.length ∧ i = .int .i64 k ∧ Ro w5 wr s6 s7 (ins (cc : Int) (tr.take k)) (outs (cc : Int) (tr.take k))) (fun _ _ i _ => tr.length - (intOf i).toNat)
        case atStart => exact ⟨0, Nat.zero_le _, rfl, Ro.nil w5⟩
        case round =>
          obtain ⟨k, hk, rfl, ro⟩ := hrel
          have li := ins_len (cc : Int) (tr.take k)
          have lo := outs_len (cc : Int) (tr.take k)
          rw [List.length_take] at li lo
          obtain ⟨o6, c6, e6, A6, p6⟩ := Rp.own_at ro.rs
          obtain ⟨o7, c7, e7, A7, p7⟩ := Rp.own_at ro.rv
          subst e6
          subst e7
          have RO := hide ro
          have AA := hide (And.intro A6 A7)
          clear ro A6 A7
          by_cases hlt : k < tr.length
          · have hlt' : (k : Int) < (tr.length : Int) := by omega
            clear AA p6 p7
            obtain ⟨x, hx⟩ : ∃ x, tr[k]? = some x := ⟨_, List.getElem?_eq_getElem hlt⟩
            obtain ⟨b', off', hob, -⟩ := EZ5.out k x hx
            subst hob
            obtain ⟨p0, p1, p2, p3, p4, p5, p6, p7⟩ := (EZ5.out.below RO.out.b).read hx
            have IT := hide (ins_take (c := (cc : Int)) hx)
            have OT := hide (outs_take (c := (cc : Int)) hx)
            clear hx
            obtain ⟨xk, xg, xc, xa, xv, xm, xs, xo⟩ := x
            simp only at p0 p1 p2 p3 p4 p5 p6 p7
            by_cases hcc : xc = (cc : Int)
            case neg =>
              have hcc' : (xc != (cc : Int)) = true := by simp [hcc]
              have hi1 : inB (cc : Int) (⟨xk, xg, xc, xa, xv, xm, xs, xo⟩ : Ev) = false := by simp [inB, hcc]
              have ho1 : outB (cc : Int) (⟨xk, xg, xc, xa, xv, xm, xs, xo⟩ : Ev) = false := by simp [outB, hcc]
              have TI : Hid (ins (cc : Int) (tr.take (k + 1)) = ins (cc : Int) (tr.take k) ++ []) := by
                show _ = _
                rw [IT.out, hi1]
                rfl
              have TO : Hid (outs (cc : Int) (tr.take (k + 1)) = outs (cc : Int) (tr.take k) ++ []) := by
                show _ = _
                rw [OT.out, ho1]
                rfl
              have R1 := hide (RO.out.below (below_alloc wr (.cells #[.int .i64 xk, .int .i64 xg, .int .i64 xc, .int .i64 xa, .int .i64 xv, .int .i64 xm, .bool xs, .bool xo] 66)))
              clear hi1 ho1 IT OT RO

              go_wp2_with fail
              go_roundw
              case rel => exact ⟨k + 1, by omega, by go_num, by rw [TI.out, TO.out, List.append_nil, List.append_nil]; exact R1.out⟩
              case measure => simp [intOf]; omega

            case pos =>
              subst hcc
              by_cases h3 : xk = 3
              · subst h3
                have hi2 : inB (cc : Int) (⟨3, xg, (cc : Int), xa, xv, xm, xs, xo⟩ : Ev) = true := by simp [inB]
                have ho2 : outB (cc : Int) (⟨3, xg, (cc : Int), xa, xv, xm, xs, xo⟩ : Ev) = false := by simp [outB]
                have TI : Hid (ins (cc : Int) (tr.take (k + 1)) = ins (cc : Int) (tr.take k) ++ [xv]) := by
                  show _ = _
                  rw [IT.out, hi2]
                  rfl
                have TO : Hid (outs (cc : Int) (tr.take (k + 1)) = outs (cc : Int) (tr.take k) ++ []) := by
                  show _ = _
                  rw [OT.out, ho2]
                  rfl
                have R1 := hide (RO.out.below (below_alloc wr (.cells #[.int .i64 3, .int .i64 xg, .int .i64 (cc : Int), .int .i64 xa, .int .i64 xv, .int .i64 xm, .bool xs, .bool xo] 66)))
                clear hi2 ho2 IT OT RO

                have R2 := hide (R1.out.below (below_alloc (wr.alloc (.cells #[.int .i64 3, .int .i64 xg, .int .i64 (cc : Int), .int .i64 xa, .int .i64 xv, .int .i64 xm, .bool xs, .bool xo] 66)) (.cells #[.int .i64 xv] 3)))
                have X2 := hide (heap_below (heap_new wr (.cells #[.int .i64 3, .int .i64 xg, .int .i64 (cc : Int), .int .i64 xa, .int .i64 xv, .int .i64 xm, .bool xs, .bool xo] 66)) (below_alloc (wr.alloc (.cells #[.int .i64 3, .int .i64 xg, .int .i64 (cc : Int), .int .i64 xa, .int .i64 xv, .int .i64 xm, .bool xs, .bool xo] 66)) (.cells #[.int .i64 xv] 3)))
                have src2 := cell_one_new (wr.alloc (.cells #[.int .i64 3, .int .i64 xg, .int .i64 (cc : Int), .int .i64 xa, .int .i64 xv, .int .i64 xm, .bool xs, .bool xo] 66)) (.int .i64 xv) 3
                rw [World.size_alloc] at src2
                have SRC := hide src2
                have hsz2 : ((wr.alloc (.cells #[.int .i64 3, .int .i64 xg, .int .i64 (cc : Int), .int .i64 xa, .int .i64 xv, .int .i64 xm, .bool xs, .bool xo] 66)).alloc (.cells #[.int .i64 xv] 3)).heap.size = wr.heap.size + 1 + 1 := by rw [World.size_alloc, World.size_alloc]
                clear src2 R1
                go_wp2_with (at_builtin; refine wpList_append_own_at _ rfl _ _ 23 rfl w5.heap.size 3 i0 (.int .i64 0) 1 8 Tryz.underlying23 INF.out.1 INF.out.2.1 INF.out.2.2.1 INF.out.2.2.2 rfl (by decide) _ _ _ rfl R2.out.rs ⟨wr.heap.size + 1, 0, none⟩ 1 1 [.int .i64 xv] rfl rfl ?a2 ?b2 ?c2 ?d2 ?e2 ?_)
                case a2 => exact SRC.out
                case b2 => exact Rp.ic_one [xv]
                case c2 => unfold maxLen; omega
                case d2 => omega
                case e2 => exact R2.out.b.size
                intro v6 w6 r6 g6 _ h6
                have R6 := hide (R2.out.appS r6 g6 h6 (by first | rfl | rw [hsz2]))

                have Q6 := hide (R2.out.keepS g6 X2.out (by decide))
                have q0 := cell_of Q6.out 0
                have q6 := cell_of Q6.out 6
                have q7 := cell_of Q6.out 7
                simp at q0 q6 q7

                clear r6 g6 h6 R2 X2 SRC
                go_wp2_with fail
                go_roundw
                case rel => exact ⟨k + 1, by omega, by go_num, by rw [TI.out, TO.out]; simpa using R6.out⟩
                case measure => simp [intOf]; omega

              by_cases h7 : xk = 7
              · subst h7
                cases xs
                · cases xo
                  · skip
                    have hi3 : inB (cc : Int) (⟨7, xg, (cc : Int), xa, xv, xm, false, false⟩ : Ev) = false := by simp [inB]
                    have ho3 : outB (cc : Int) (⟨7, xg, (cc : Int), xa, xv, xm, false, false⟩ : Ev) = false := by simp [outB]
                    have TI : Hid (ins (cc : Int) (tr.take (k + 1)) = ins (cc : Int) (tr.take k) ++ []) := by
                      show _ = _
                      rw [IT.out, hi3]
                      rfl
                    have TO : Hid (outs (cc : Int) (tr.take (k + 1)) = outs (cc : Int) (tr.take k) ++ []) := by
                      show _ = _
                      rw [OT.out, ho3]
                      rfl
                    have R1 := hide (RO.out.below (below_alloc wr (.cells #[.int .i64 7, .int .i64 xg, .int .i64 (cc : Int), .int .i64 xa, .int .i64 xv, .int .i64 xm, .bool false, .bool false] 66)))
                    clear hi3 ho3 IT OT RO

                    go_wp2_with fail
                    go_roundw
                    case rel => exact ⟨k + 1, by omega, by go_num, by rw [TI.out, TO.out, List.append_nil, List.append_nil]; exact R1.out⟩
                    case measure => simp [intOf]; omega

                  · skip
                    have hi4 : inB (cc : Int) (⟨7, xg, (cc : Int), xa, xv, xm, false, true⟩ : Ev) = false := by simp [inB]
                    have ho4 : outB (cc : Int) (⟨7, xg, (cc : Int), xa, xv, xm, false, true⟩ : Ev) = true := by simp [outB]
                    have TI : Hid (ins (cc : Int) (tr.take (k + 1)) = ins (cc : Int) (tr.take k) ++ []) := by
                      show _ = _
                      rw [IT.out, hi4]
                      rfl
                    have TO : Hid (outs (cc : Int) (tr.take (k + 1)) = outs (cc : Int) (tr.take k) ++ [xv]) := by
                      show _ = _
                      rw [OT.out, ho4]
                      rfl
                    have R1 := hide (RO.out.below (below_alloc wr (.cells #[.int .i64 7, .int .i64 xg, .int .i64 (cc : Int), .int .i64 xa, .int .i64 xv, .int .i64 xm, .bool false, .bool true] 66)))
                    clear hi4 ho4 IT OT RO

                    have R2 := hide (R1.out.below (below_alloc (wr.alloc (.cells #[.int .i64 7, .int .i64 xg, .int .i64 (cc : Int), .int .i64 xa, .int .i64 xv, .int .i64 xm, .bool false, .bool true] 66)) (.cells #[.int .i64 xv] 3)))
                    have X2 := hide (heap_below (heap_new wr (.cells #[.int .i64 7, .int .i64 xg, .int .i64 (cc : Int), .int .i64 xa, .int .i64 xv, .int .i64 xm, .bool false, .bool true] 66)) (below_alloc (wr.alloc (.cells #[.int .i64 7, .int .i64 xg, .int .i64 (cc : Int), .int .i64 xa, .int .i64 xv, .int .i64 xm, .bool false, .bool true] 66)) (.cells #[.int .i64 xv] 3)))
                    have src4 := cell_one_new (wr.alloc (.cells #[.int .i64 7, .int .i64 xg, .int .i64 (cc : Int), .int .i64 xa, .int .i64 xv, .int .i64 xm, .bool false, .bool true] 66)) (.int .i64 xv) 3
                    rw [World.size_alloc] at src4
                    have SRC := hide src4
                    have hsz4 : ((wr.alloc (.cells #[.int .i64 7, .int .i64 xg, .int .i64 (cc : Int), .int .i64 xa, .int .i64 xv, .int .i64 xm, .bool false, .bool true] 66)).alloc (.cells #[.int .i64 xv] 3)).heap.size = wr.heap.size + 1 + 1 := by rw [World.size_alloc, World.size_alloc]
                    clear src4 R1
                    go_wp2_with (at_builtin; refine wpList_append_own_at _ rfl _ _ 23 rfl w5.heap.size 3 i0 (.int .i64 0) 1 8 Tryz.underlying23 INF.out.1 INF.out.2.1 INF.out.2.2.1 INF.out.2.2.2 rfl (by decide) _ _ _ rfl R2.out.rv ⟨wr.heap.size + 1, 0, none⟩ 1 1 [.int .i64 xv] rfl rfl ?a4 ?b4 ?c4 ?d4 ?e4 ?_)
                    case a4 => exact SRC.out
                    case b4 => exact Rp.ic_one [xv]
                    case c4 => unfold maxLen; omega
                    case d4 => omega
                    case e4 => exact R2.out.b.size
                    intro v6 w6 r6 g6 _ h6
                    have R6 := hide (R2.out.appV r6 g6 h6 (by first | rfl | rw [hsz4]))

                    clear r6 g6 h6 R2 X2 SRC
                    go_wp2_with fail
                    go_roundw
                    case rel => exact ⟨k + 1, by omega, by go_num, by rw [TI.out, TO.out]; simpa using R6.out⟩
                    case measure => simp [intOf]; omega

                · skip
                  have hi5 : inB (cc : Int) (⟨7, xg, (cc : Int), xa, xv, xm, true, xo⟩ : Ev) = true := by simp [inB]
                  have ho5 : outB (cc : Int) (⟨7, xg, (cc : Int), xa, xv, xm, true, xo⟩ : Ev) = false := by simp [outB]
                  have TI : Hid (ins (cc : Int) (tr.take (k + 1)) = ins (cc : Int) (tr.take k) ++ [xv]) := by
                    show _ = _
                    rw [IT.out, hi5]
                    rfl
                  have TO : Hid (outs (cc : Int) (tr.take (k + 1)) = outs (cc : Int) (tr.take k) ++ []) := by
                    show _ = _
                    rw [OT.out, ho5]
                    rfl
                  have R1 := hide (RO.out.below (below_alloc wr (.cells #[.int .i64 7, .int .i64 xg, .int .i64 (cc : Int), .int .i64 xa, .int .i64 xv, .int .i64 xm, .bool true, .bool xo] 66)))
                  clear hi5 ho5 IT OT RO

                  have R2 := hide (R1.out.below (below_alloc (wr.alloc (.cells #[.int .i64 7, .int .i64 xg, .int .i64 (cc : Int), .int .i64 xa, .int .i64 xv, .int .i64 xm, .bool true, .bool xo] 66)) (.cells #[.int .i64 xv] 3)))
                  have X2 := hide (heap_below (heap_new wr (.cells #[.int .i64 7, .int .i64 xg, .int .i64 (cc : Int), .int .i64 xa, .int .i64 xv, .int .i64 xm, .bool true, .bool xo] 66)) (below_alloc (wr.alloc (.cells #[.int .i64 7, .int .i64 xg, .int .i64 (cc : Int), .int .i64 xa, .int .i64 xv, .int .i64 xm, .bool true, .bool xo] 66)) (.cells #[.int .i64 xv] 3)))
                  have src5 := cell_one_new (wr.alloc (.cells #[.int .i64 7, .int .i64 xg, .int .i64 (cc : Int), .int .i64 xa, .int .i64 xv, .int .i64 xm, .bool true, .bool xo] 66)) (.int .i64 xv) 3
                  rw [World.size_alloc] at src5
                  have SRC := hide src5
                  have hsz5 : ((wr.alloc (.cells #[.int .i64 7, .int .i64 xg, .int .i64 (cc : Int), .int .i64 xa, .int .i64 xv, .int .i64 xm, .bool true, .bool xo] 66)).alloc (.cells #[.int .i64 xv] 3)).heap.size = wr.heap.size + 1 + 1 := by rw [World.size_alloc, World.size_alloc]
                  clear src5 R1
                  go_wp2_with (at_builtin; refine wpList_append_own_at _ rfl _ _ 23 rfl w5.heap.size 3 i0 (.int .i64 0) 1 8 Tryz.underlying23 INF.out.1 INF.out.2.1 INF.out.2.2.1 INF.out.2.2.2 rfl (by decide) _ _ _ rfl R2.out.rs ⟨wr.heap.size + 1, 0, none⟩ 1 1 [.int .i64 xv] rfl rfl ?a5 ?b5 ?c5 ?d5 ?e5 ?_)
                  case a5 => exact SRC.out
                  case b5 => exact Rp.ic_one [xv]
                  case c5 => unfold maxLen; omega
                  case d5 => omega
                  case e5 => exact R2.out.b.size
                  intro v6 w6 r6 g6 _ h6
                  have R6 := hide (R2.out.appS r6 g6 h6 (by first | rfl | rw [hsz5]))

                  have Q6 := hide (R2.out.keepS g6 X2.out (by decide))
                  have q0 := cell_of Q6.out 0
                  have q6 := cell_of Q6.out 6
                  have q7 := cell_of Q6.out 7
                  simp at q0 q6 q7

                  clear r6 g6 h6 R2 X2 SRC
                  go_wp2_with fail
                  go_roundw
                  case rel => exact ⟨k + 1, by omega, by go_num, by rw [TI.out, TO.out]; simpa using R6.out⟩
                  case measure => simp [intOf]; omega

              by_cases h4 : xk = 4
              · subst h4
                cases xo
                · skip
                  have hi6 : inB (cc : Int) (⟨4, xg, (cc : Int), xa, xv, xm, xs, false⟩ : Ev) = false := by simp [inB]
                  have ho6 : outB (cc : Int) (⟨4, xg, (cc : Int), xa, xv, xm, xs, false⟩ : Ev) = false := by simp [outB]
                  have TI : Hid (ins (cc : Int) (tr.take (k + 1)) = ins (cc : Int) (tr.take k) ++ []) := by
                    show _ = _
                    rw [IT.out, hi6]
                    rfl
                  have TO : Hid (outs (cc : Int) (tr.take (k + 1)) = outs (cc : Int) (tr.take k) ++ []) := by
                    show _ = _
                    rw [OT.out, ho6]
                    rfl
                  have R1 := hide (RO.out.below (below_alloc wr (.cells #[.int .i64 4, .int .i64 xg, .int .i64 (cc : Int), .int .i64 xa, .int .i64 xv, .int .i64 xm, .bool xs, .bool false] 66)))
                  clear hi6 ho6 IT OT RO

                  go_wp2_with fail
                  go_roundw
                  case rel => exact ⟨k + 1, by omega, by go_num, by rw [TI.out, TO.out, List.append_nil, List.append_nil]; exact R1.out⟩
                  case measure => simp [intOf]; omega

                · skip
                  have hi7 : inB (cc : Int) (⟨4, xg, (cc : Int), xa, xv, xm, xs, true⟩ : Ev) = false := by simp [inB]
                  have ho7 : outB (cc : Int) (⟨4, xg, (cc : Int), xa, xv, xm, xs, true⟩ : Ev) = true := by simp [outB]
                  have TI : Hid (ins (cc : Int) (tr.take (k + 1)) = ins (cc : Int) (tr.take k) ++ []) := by
                    show _ = _
                    rw [IT.out, hi7]
                    rfl
                  have TO : Hid (outs (cc : Int) (tr.take (k + 1)) = outs (cc : Int) (tr.take k) ++ [xv]) := by
                    show _ = _
                    rw [OT.out, ho7]
                    rfl
                  have R1 := hide (RO.out.below (below_alloc wr (.cells #[.int .i64 4, .int .i64 xg, .int .i64 (cc : Int), .int .i64 xa, .int .i64 xv, .int .i64 xm, .bool xs, .bool true] 66)))
                  clear hi7 ho7 IT OT RO

                  have R2 := hide (R1.out.below (below_alloc (wr.alloc (.cells #[.int .i64 4, .int .i64 xg, .int .i64 (cc : Int), .int .i64 xa, .int .i64 xv, .int .i64 xm, .bool xs, .bool true] 66)) (.cells #[.int .i64 xv] 3)))
                  have X2 := hide (heap_below (heap_new wr (.cells #[.int .i64 4, .int .i64 xg, .int .i64 (cc : Int), .int .i64 xa, .int .i64 xv, .int .i64 xm, .bool xs, .bool true] 66)) (below_alloc (wr.alloc (.cells #[.int .i64 4, .int .i64 xg, .int .i64 (cc : Int), .int .i64 xa, .int .i64 xv, .int .i64 xm, .bool xs, .bool true] 66)) (.cells #[.int .i64 xv] 3)))
                  have src7 := cell_one_new (wr.alloc (.cells #[.int .i64 4, .int .i64 xg, .int .i64 (cc : Int), .int .i64 xa, .int .i64 xv, .int .i64 xm, .bool xs, .bool true] 66)) (.int .i64 xv) 3
                  rw [World.size_alloc] at src7
                  have SRC := hide src7
                  have hsz7 : ((wr.alloc (.cells #[.int .i64 4, .int .i64 xg, .int .i64 (cc : Int), .int .i64 xa, .int .i64 xv, .int .i64 xm, .bool xs, .bool true] 66)).alloc (.cells #[.int .i64 xv] 3)).heap.size = wr.heap.size + 1 + 1 := by rw [World.size_alloc, World.size_alloc]
                  clear src7 R1
                  go_wp2_with (at_builtin; refine wpList_append_own_at _ rfl _ _ 23 rfl w5.heap.size 3 i0 (.int .i64 0) 1 8 Tryz.underlying23 INF.out.1 INF.out.2.1 INF.out.2.2.1 INF.out.2.2.2 rfl (by decide) _ _ _ rfl R2.out.rv ⟨wr.heap.size + 1, 0, none⟩ 1 1 [.int .i64 xv] rfl rfl ?a7 ?b7 ?c7 ?d7 ?e7 ?_)
                  case a7 => exact SRC.out
                  case b7 => exact Rp.ic_one [xv]
                  case c7 => unfold maxLen; omega
                  case d7 => omega
                  case e7 => exact R2.out.b.size
                  intro v6 w6 r6 g6 _ h6
                  have R6 := hide (R2.out.appV r6 g6 h6 (by first | rfl | rw [hsz7]))

                  clear r6 g6 h6 R2 X2 SRC
                  go_wp2_with fail
                  go_roundw
                  case rel => exact ⟨k + 1, by omega, by go_num, by rw [TI.out, TO.out]; simpa using R6.out⟩
                  case measure => simp [intOf]; omega

              have k3 : (xk == 3) = false := by simp [h3]
              have k7 : (xk == 7) = false := by simp [h7]
              have k4 : (xk == 4) = false := by simp [h4]
              have hi8 : inB (cc : Int) (⟨xk, xg, (cc : Int), xa, xv, xm, xs, xo⟩ : Ev) = false := by simp [inB, k3, k7]
              have ho8 : outB (cc : Int) (⟨xk, xg, (cc : Int), xa, xv, xm, xs, xo⟩ : Ev) = false := by simp [outB, k7, k4]
              have TI : Hid (ins (cc : Int) (tr.take (k + 1)) = ins (cc : Int) (tr.take k) ++ []) := by
                show _ = _
                rw [IT.out, hi8]
                rfl
              have TO : Hid (outs (cc : Int) (tr.take (k + 1)) = outs (cc : Int) (tr.take k) ++ []) := by
                show _ = _
                rw [OT.out, ho8]
                rfl
              have R1 := hide (RO.out.below (below_alloc wr (.cells #[.int .i64 xk, .int .i64 xg, .int .i64 (cc : Int), .int .i64 xa, .int .i64 xv, .int .i64 xm, .bool xs, .bool xo] 66)))
              clear hi8 ho8 IT OT RO

              go_wp2_with fail
              go_roundw
              case rel => exact ⟨k + 1, by omega, by go_num, by rw [TI.out, TO.out, List.append_nil, List.append_nil]; exact R1.out⟩
              case measure => simp [intOf]; omega

          · have hlt' : ¬ ((k : Int) < (tr.length : Int)) := by omega
            have hfull : tr.take k = tr := List.take_of_length_le (by omega)
            rw [hfull] at RO AA li lo p6 p7 ⊢
            obtain ⟨lx, hlx⟩ := VA.out (cc : Int)
            have A6 : Hid (At wr o6 (outs (cc : Int) tr)) := at_pre (m := lx) (by rw [← hlx]; exact AA.out.1)
            have A7 := hide AA.out.2
            have B6 := hide RO.out.b
            have hle : (outs (cc : Int) tr).length ≤ (ins (cc : Int) tr).length := by rw [hlx, List.length_append]; omega
            have IN := hide (fun d e (q : True) => ints_is o7 o6 (outs (cc : Int) tr) (outs (cc : Int) tr) (outs (cc : Int) tr).length (outs (cc : Int) tr).length d e true (by simp) rfl rfl wr A7.out A6.out (by omega) (by omega))
            clear hlx AA RO A6 A7 hfull
            generalize (outs (cc : Int) tr).length = no at *
            generalize (ins (cc : Int) tr).length = ni at *
            have g1 : decide ((ni : Int) < (no : Int)) = false := by simp; omega
            have g2 : (no : Int) ≤ (c6 : Int) := by omega
            go_wp2_with fail
            refine (IN.out _ _ trivial).mono ?_
            rintro r w7 ⟨rfl, b7⟩
            have B7 := hide (btr B5.out (btr B6.out b7))
            clear b7 IN
            go_wp2_with fail
            go_roundw
            case rel => exact ⟨cc + 1, by omega, by go_num, B7.out⟩
            case measure => simp [intOf]; omega
      · have hc2' : ¬ ((cc : Int) < 200) := by omega
        go_wp2_with fail
        refine (hands_any _).mono ?_
        rintro r w8 ⟨rfl, b8⟩
        have B8 := hide (btr B2.out (btr B5.out b8))
        clear b8
        go_wp2_with fail
        go_ret
        exact ⟨rfl, B8.out⟩

/-! ### the row -/
set_option maxRecDepth 100000 in
theorem lifted (os : Os) (started : os.Started) (H : Type) (enc : TypeId × Value → H) :
    ReturnsInHanded {} Tryz.checked os 7 .any (Rows.loomValuesSpec.pre6 enc Tryz.prog Tryz.f7 Rows.loomValuesRow.domain false) (Rows.loomValuesSpec.post enc Tryz.prog Tryz.f7 false true false false) := by
  refine returnsInHanded_of_change_sized (C := Tryz.checked) own started (by kernel_rfl) Tryz.func7
    (ChangeSpec.witness6 (enc := enc) (C := Tryz.checked) false ⟨#[], #[.agg #[.int .i64 0, .int .i64 0, .slice none 0 0, .slice none 0 0, .slice none 0 0]], []⟩ 8 (by kernel_rfl) (by kernel_rfl) (by kernel_rfl) (by kernel_rfl)) ?_
  intro W base args ds gs before hval0 hW hcnd hsz0 _
  have hval : ∀ (j : Nat) t v, Tryz.f7.params[j]? = some t → args[j]? = some v → Value.okWide Tryz.prog W .any base t v := hval0
  have hW' := hW
  obtain ⟨p, q, hA0, hV, rfl, hfz, hnd⟩ := hW
  have hA : DataW.TrodAll enc Tryz.prog W 0 (fun _ => true) true Tryz.f7.params.toList args.toList ds p := hA0
  rw [Tryz.params7] at hA hval
  have hsz : (DataW.weightsEach Tryz.prog (Tryz.f7.params.toList ++ Rows.loomValuesSpec.plain.varTypes Tryz.prog) (ds ++ gs)).all (· ≤ reachBytes) = true := hsz0
  clear hsz0
  rw [Tryz.params7] at hsz
  obtain ⟨v0, vs0, d0, ds0, p0, q0, hargs, rfl, rfl, h0, r0⟩ := trodAll_cons hA
  obtain ⟨rfl, rfl, rfl⟩ := trodAll_nil r0
  obtain rfl : args = #[v0] := by cases args; simp_all
  obtain ⟨rfl, rfl⟩ := trodVars_none hV
  have k0 := h0
  have lt0 : ∀ x ∈ p0, x.block < W.heap.size := by obtain ⟨m, hm⟩ := k0; exact DataW.trod_lt m _ _ _ hm
  have z0 : WL 25 d0 := fun m hm => by
    have := List.all_eq_true.1 hsz _ (DataW.weights_mem_each (j := 0) (t := 25) (d := d0) rfl rfl m hm)
    simpa using this
  obtain ⟨T0, M0, ps0, pl0, dr0, pa0, la0, da0, pc0, lc0, dc0, rfl, S0, H0⟩ := h0.elim fun _ hf => script_open hf z0
  clear hA0 hval0
  refine (core (w := W) T0 M0 ps0 pl0 dr0 pa0 la0 da0 pc0 lc0 dc0 S0 H0).mono fun e W' ⟨he, bel⟩ => ?_
  subst he
  exact ⟨_, rfl, _, _, _, [], _, [], hW', trodAll_mk1 (shut_bool Tryz.underlying4 _), (trodAll_cons_mk (Below.trod laidOut (by kernel_rfl) (of_decide_eq_true (by kernel_rfl)) k0 bel lt0) trodAll_mk0), rfl, bel.frame _, fun h => by cases h⟩

theorem over : Rows.loomValuesRow.holds Tryz.pinned (OpenSpec.ofChange Rows.loomValuesSpec) :=
  OpenClaim.holds_of_wide 7 Tryz.f7 rfl rfl rfl rfl rfl rfl rfl ⟨rfl, rfl, rfl, rfl, rfl⟩ rfl rfl rfl rfl rfl (by kernel_rfl) Tryz.func7 (by kernel_rfl)
    (of_decide_eq_true (by kernel_rfl)) (by unfold Func.isWrapper; first | (rw [if_pos (by decide +kernel)]; kernel_rfl) | (rw [if_neg (by decide +kernel)]; exact ⟨rfl, rfl⟩))
    (fun os started H enc _ => lifted os started H enc)

/-- the statement -/
theorem proved : Rows.LoomValuesSaid := over
#print axioms proved
end Go.Proofs.YtkcbokhkmcmpdaaGreat.loomValues
