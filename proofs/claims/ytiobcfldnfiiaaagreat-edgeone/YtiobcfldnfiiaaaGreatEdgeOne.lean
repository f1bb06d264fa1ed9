/- EdgeOne: of layer 24. -/
import Derived.Test.YtiobcfldnfiiaaaGreatZjEg15
import Derived.Deep.Cut
import Derived.Deep.QuietTactic
import Derived.BigQuiet
import Derived.ShutString
import Derived.ChangeOld
import Derived.Below
namespace Go.Proofs.YtiobcfldnfiiaaaGreat.edgeOne
open Go.ChangeShapes Go.WideShapes Go.ChangeAt Go.RowKit
open Go.ChangeMaps (open_string shut_string)
open Eg En Ba

theorem own : ownKnob Tryz.prog.godebug = none := by kernel_rfl
theorem laidOut : laidOutB Tryz.prog = true := by kernel_rfl

/-- so many edges lead to an event -/
def cn (R : List Ed) (i : Nat) : Nat := R.countP fun y => decide (y.t = i)
theorem cn_take {R : List Ed} {j : Nat} {x : Ed} (hx : R[j]? = some x) (i : Nat) : cn (R.take (j + 1)) i = cn (R.take j) i + if x.t = i then 1 else 0 := by
  unfold cn
  rw [List.take_add_one, hx]
  simp only [Option.toList_some, List.countP_append, List.countP_cons, List.countP_nil, decide_eq_true_eq]
  omega
theorem cn_le (R : List Ed) (i j : Nat) : cn (R.take j) i ≤ R.length := by
  unfold cn
  have := List.countP_le_length (p := fun y : Ed => decide (y.t = i)) (l := R.take j)
  rw [List.length_take] at this
  omega
theorem mem3 {l : List Ev} (h : Tok l) (y : Ed) : y ∈ ((allS l).filter fun x => !ofR 3 x) ↔ isD l y ∧ y.r = 3 := by
  rw [List.mem_filter, allS_mem h]
  unfold ofR
  simp
  omega
theorem cn_one {l : List Ev} (h : Tok l) (i : Nat) : cn ((allS l).filter fun x => !ofR 3 x) i ≤ 1 := by
  unfold cn
  exact count_le (List.Pairwise.filter _ (allS_srt l)) fun x hx y hy hxi hyi => one3 h ((mem3 h x).1 hx).1 ((mem3 h y).1 hy).1 ((mem3 h x).1 hx).2 ((mem3 h y).1 hy).2 (hxi.trans hyi.symm)
theorem cn_pos {l : List Ev} (h : Tok l) {i : Nat} {x : Ev} (hx : l[i]? = some x) (hr : rcvs x) : cn ((allS l).filter fun x => !ofR 3 x) i = 1 ∨ (cn ((allS l).filter fun x => !ofR 3 x) i = 0 ∧ i + 1 = l.length ∧ 0 ≤ x.m) := by
  have c1 := cn_one h i
  rcases rcvs_edge h hx hr with ⟨y, h1, h2, h3⟩ | q
  · have : 0 < cn ((allS l).filter fun x => !ofR 3 x) i := by
      unfold cn
      rw [List.countP_pos_iff]
      exact ⟨y, (mem3 h y).2 ⟨h1, h2⟩, by simp [h3]⟩
    exact .inl (by omega)
  · rcases Nat.eq_zero_or_pos (cn ((allS l).filter fun x => !ofR 3 x) i) with z | z
    · exact .inr ⟨z, q⟩
    · exact .inl (by omega)
theorem cn_zero {l : List Ev} (h : Tok l) {i : Nat} {x : Ev} (hx : l[i]? = some x) (hr : ¬ rcvs x) : cn ((allS l).filter fun x => !ofR 3 x) i = 0 := by
  unfold cn
  rw [List.countP_eq_zero]
  intro y hy
  obtain ⟨h1, h2⟩ := (mem3 h y).1 hy
  obtain ⟨z, hz, q⟩ := edge_rcvs h h1 h2
  simp only [decide_eq_true_eq]
  rintro rfl
  rw [hx] at hz
  cases hz
  exact hr q
set_option maxRecDepth 100000 in
set_option maxHeartbeats 3200000 in
theorem big {w : World} (oa : Option Addr) (n c : Nat) (hm : n ≤ maxLen) (h : 200 < n) :
    Calls Tryz.prog 8 #[.slice oa n c] w fun e w' => e = .returned (.bool true) ∧ Below w.heap.size w w' := by
  unfold maxLen at hm
  have FV := Ba.hide (five_any w)
  have d1 : decide ((200 : Int) < (n : Int)) = true := by simp; omega
  have d2 : decide (200 < n) = true := by simp; omega
  go_enter Tryz.func8, Tryz.ntmps8
  go_wp2_with fail
  refine FV.out.mono ?_
  rintro r w1 ⟨rfl, b1⟩
  have B1 := Ba.hide b1
  clear b1
  go_wp2_with fail
  go_ret
  exact ⟨rfl, B1.out⟩
set_option maxRecDepth 100000 in
set_option maxHeartbeats 12800000 in
theorem core {w : World} (oa : Option Addr) (l : List Ev) (c : Nat) (hA : Gu.EsAt w oa l ∧ l.length ≤ c) (hm : l.length ≤ maxLen) :
    Calls Tryz.prog 8 #[.slice oa l.length c] w fun e w' => e = .returned (.bool true) ∧ Below w.heap.size w w' := by
  by_cases hb : 200 < l.length
  · exact big oa l.length c hm hb
  obtain ⟨hA, -⟩ := hA
  have FV := Ba.hide (fun u => five_any u)
  cases ht : tokB l
  · have C1 := Ba.hide (Of_no oa l c 3 w hA (by omega) ht)
    obtain ⟨M, hM⟩ : ∃ M, l.length = M := ⟨_, rfl⟩
    rw [hM] at C1 hb ⊢
    have d1 : decide ((200 : Int) < (M : Int)) = false := by simp; omega
    have d2 : decide (200 < M) = false := by simp; omega
    clear hA hm hb ht hM
    go_enter Tryz.func8, Tryz.ntmps8
    go_wp2_with fail
    refine C1.out.mono ?_
    rintro r w1 ⟨rfl, b1⟩
    have B1 := Ba.hide b1
    clear b1 C1
    go_wp2_with fail
    refine (FV.out _).mono ?_
    rintro r w2 ⟨rfl, b2⟩
    have B2 := Ba.hide (Ba.btr B1.out b2)
    clear b2
    go_wp2_with fail
    go_ret
    exact ⟨rfl, B2.out⟩
  have hT := tokB_iff.1 ht
  have AL : (allS l).length ≤ 100000000 := by
    have e : (allS l).Perm (allE l) := by
      refine (List.perm_ext_iff_of_nodup ?_ ?_).2 fun x => by rw [allS_mem hT, all_mem hT]
      · exact (allS_srt l).imp fun {a b} (q : ltE a b) (e : a = b) => ltE_irrefl b (by rw [e] at q; exact q)
      · exact nd_all hT
    rw [e.length_eq]
    unfold allE
    have h1 := prog_len l l.length
    have h2 := ce_len l l.length
    have h3 := chs_len l (mkN l)
    have h4 := mkN_le l
    have h5 : mkN l * (2 * l.length) ≤ 200 * 400 := Nat.mul_le_mul (by omega) (by omega)
    unfold chs at h3
    rw [List.length_append, List.length_append]
    omega
  have C1 := Ba.hide (Of_yes oa l c 3 w hA (by omega) ht AL)
  have HA := Ba.hide hA
  have POS := Ba.hide (fun (i : Nat) (x : Ev) (hx : l[i]? = some x) (hr : rcvs x) => cn_pos hT hx hr)
  have ZER := Ba.hide (fun (i : Nat) (x : Ev) (hx : l[i]? = some x) (hr : ¬ rcvs x) => cn_zero hT hx hr)
  have RL : ((allS l).filter fun x => !ofR 3 x).length ≤ 100000000 := Nat.le_trans (List.length_filter_le _ _) AL
  obtain ⟨R, hR⟩ : ∃ R, ((allS l).filter fun x => !ofR 3 x) = R := ⟨_, rfl⟩
  rw [hR] at C1 POS ZER RL
  obtain ⟨M, hM⟩ : ∃ M, l.length = M := ⟨_, rfl⟩
  have HM := Ba.hide hM
  rw [hM] at C1 POS hb ⊢
  have d1 : decide ((200 : Int) < (M : Int)) = false := by simp; omega
  have d2 : decide (200 < M) = false := by simp; omega
  have hM2 : M ≤ 200 := by omega
  clear hA hm hb ht hM hT hR AL
  go_enter Tryz.func8, Tryz.ntmps8
  go_wp2_with fail
  refine C1.out.mono ?_
  rintro r w1 ⟨va, rfl, o1, b1⟩
  have B1 := Ba.hide b1
  obtain ⟨ea, ca, rfl, hca, hcm⟩ := o1.sl
  have O1 := Ba.hide o1
  obtain ⟨n, hn⟩ : ∃ n, R.length = n := ⟨_, rfl⟩
  have HN := Ba.hide hn
  have hnm : n ≤ 100000000 := by rw [← hn]; exact RL
  rw [hn] at hca O1 ⊢
  clear b1 o1 C1 hn hca hcm d1 d2 RL
  go_wp2_with fail
  go_loopw [31] (fun iv wr => ∃ k : Nat, k ≤ M ∧ iv = .int .i64 k ∧ Below w1.heap.size w1 wr) (fun iv _ => M - (intOf iv).toNat)
  case atStart => exact ⟨0, Nat.zero_le _, rfl, Below.refl _ _⟩
  case round =>
    obtain ⟨k, hk, rfl, hb⟩ := hrel
    have HB := Ba.hide hb
    clear hb
    by_cases hlt : k < M
    · have hlt' : (k : Int) < (M : Int) := by omega
      have k0 : (0 : Int) ≤ (k : Int) := by omega
      obtain ⟨e, he⟩ : ∃ e, l[k]? = some e := ⟨_, List.getElem?_eq_getElem (by rw [HM.out]; omega)⟩
      have EA := Ba.hide (HA.out.below (Ba.btr B1.out HB.out))
      obtain ⟨bb, oo, rfl, -⟩ := EA.out k e he
      obtain ⟨p0, p1, p2, p3, p4, p5, p6, p7⟩ := EA.out.read he
      have HE := Ba.hide he
      clear he
      go_upto_region 9 with fail
      have XB := Ba.hide (heap_new wr ((.cells #[.int .i64 e.k, .int .i64 e.g, .int .i64 e.c, .int .i64 e.a, .int .i64 e.v, .int .i64 e.m, .bool e.s, .bool e.o] 42)))
      have BX := Ba.hide (Ba.btr HB.out (below_alloc wr ((.cells #[.int .i64 e.k, .int .i64 e.g, .int .i64 e.c, .int .i64 e.a, .int .i64 e.v, .int .i64 e.m, .bool e.s, .bool e.o] 42))))
      generalize wr.alloc ((.cells #[.int .i64 e.k, .int .i64 e.g, .int .i64 e.c, .int .i64 e.a, .int .i64 e.v, .int .i64 e.m, .bool e.s, .bool e.o] 42)) = w2 at *
      clear p0 p1 p2 p3 p4 p5 p6 p7
      go_wp2_with fail
      go_loopw [7, 38] (fun nv jv w3 => ∃ j : Nat, j ≤ n ∧ jv = .int .i64 j ∧ nv = .int .i64 ((cn (R.take j) k : Nat) : Int) ∧ Below w2.heap.size w2 w3) (fun _ jv _ => n - (intOf jv).toNat)
      case atStart => exact ⟨0, Nat.zero_le _, rfl, rfl, Below.refl _ _⟩
      case round =>
        rename World => w3
        obtain ⟨j, hj, rfl, rfl, hb3⟩ := hrel
        have HB3 := Ba.hide hb3
        have CL := cn_le R k j
        rw [HN.out] at CL
        clear hb3
        by_cases hjn : j < n
        · have hjn' : (j : Int) < (n : Int) := by omega
          have j0 : (0 : Int) ≤ (j : Int) := by omega
          obtain ⟨x, hx⟩ : ∃ x, R[j]? = some x := ⟨_, List.getElem?_eq_getElem (by rw [HN.out]; omega)⟩
          have O1c : Ow w3 w.heap.size (.slice ea R.length ca) R := by rw [HN.out]; exact (O1.out.below (BX.out)).below HB3.out
          obtain ⟨g, rfl, x0, x1, x2⟩ := O1c.cell hx
          have CT := Ba.hide (cn_take hx k)
          obtain ⟨q, hq⟩ : ∃ q, cn (R.take j) k = q := ⟨_, rfl⟩
          rw [hq] at CT CL ⊢
          have BA := Ba.hide (below_alloc w3 ((.cells #[.int .i64 (x.f : Int), .int .i64 (x.t : Int), .int .i64 (x.r : Int)] 39)))
          clear hx O1c hq
          by_cases hxt : x.t = k
          · have t1 : ((x.t : Int) == (k : Int)) = true := by simp; omega
            have t2 : (x.t == k) = true := by simp; omega
            have CT2 := Ba.hide (CT.out.trans (by rw [if_pos hxt]))
            clear hxt
            go_wp2_with fail
            go_roundw
            case measure => simp [intOf]; omega
            case rel => exact ⟨j + 1, by omega, by simp, by rw [CT2.out]; simp, Ba.btr HB3.out BA.out⟩
          · have t1 : ((x.t : Int) == (k : Int)) = false := by simp; omega
            have t2 : (x.t == k) = false := by simp; omega
            have CT2 := Ba.hide (CT.out.trans (by rw [if_neg hxt]))
            clear hxt
            go_wp2_with fail
            go_roundw
            case measure => simp [intOf]; omega
            case rel => exact ⟨j + 1, by omega, by simp, by rw [CT2.out]; simp, Ba.btr HB3.out BA.out⟩
        · have dl : decide ((j : Int) < (n : Int)) = false := by simp; omega
          have dl2 : decide (j < n) = false := by simp; omega
          have hjn2 : j = n := by omega
          have CE : cn (R.take j) k = cn R k := by rw [hjn2, ← HN.out, List.take_length]
          rw [CE]
          obtain ⟨q, hq⟩ : ∃ q, cn R k = q := ⟨_, rfl⟩
          have POSk := POS.out k e HE.out
          have ZERk := ZER.out k e HE.out
          rw [hq] at POSk ZERk ⊢
          have XB3 := Ba.hide (heap_below XB.out HB3.out)
          have p0 : w3.cell? ⟨wr.heap.size, 0, none⟩ = some (.int .i64 e.k) := cell_of XB3.out 0
          have p5 : w3.cell? ⟨wr.heap.size, 5, none⟩ = some (.int .i64 e.m) := cell_of XB3.out 5
          have p6 : w3.cell? ⟨wr.heap.size, 6, none⟩ = some (.bool e.s) := cell_of XB3.out 6
          have p7 : w3.cell? ⟨wr.heap.size, 7, none⟩ = some (.bool e.o) := cell_of XB3.out 7
          obtain ⟨M1, hM1⟩ : ∃ M1, M = M1 + 1 := ⟨M - 1, by omega⟩
          have m1 : (M : Int) - 1 = (M1 : Int) := by omega
          have BB3 := Ba.hide (Ba.btr BX.out HB3.out)
          unfold rcvs at POSk ZERk
          clear CE hq hjn hjn2 CL
          cases ho : e.o
          · rw [ho] at p7
            by_cases h4 : e.k = 4
            · have b4 : (e.k == 4) = true := by simp [h4]
              have b7 : (e.k == 7) = false := by simp [h4]
              obtain rfl := ZERk (by rw [ho]; simp)
              by_cases hl : k = M1
              · have l1 : ((k : Int) == (M1 : Int)) = true := by simp; omega
                have l2 : (k == M1) = true := by simp; omega
                by_cases hm0 : 0 ≤ e.m
                · have l3 : decide (e.m ≥ 0) = true := by simp; omega
                  clear POSk ho h4 hl hm0 hM1
                  go_wp2_with fail
                  go_roundw
                  case measure => simp [intOf]; omega
                  case rel => exact ⟨k + 1, by omega, by simp, BB3.out⟩
                · have l3 : decide (e.m ≥ 0) = false := by simp; omega
                  clear POSk ho h4 hl hm0 hM1
                  go_wp2_with fail
                  go_roundw
                  case measure => simp [intOf]; omega
                  case rel => exact ⟨k + 1, by omega, by simp, BB3.out⟩
              · have l1 : ((k : Int) == (M1 : Int)) = false := by simp; omega
                have l2 : (k == M1) = false := by simp; omega
                clear POSk ho h4 hl hM1
                go_wp2_with fail
                go_roundw
                case measure => simp [intOf]; omega
                case rel => exact ⟨k + 1, by omega, by simp, BB3.out⟩
            · have b4 : (e.k == 4) = false := by simp [h4]
              by_cases h7 : e.k = 7
              · have b7 : (e.k == 7) = true := by simp [h7]
                obtain rfl := ZERk (by rw [ho]; simp)
                by_cases hl : k = M1
                · have l1 : ((k : Int) == (M1 : Int)) = true := by simp; omega
                  have l2 : (k == M1) = true := by simp; omega
                  by_cases hm0 : 0 ≤ e.m
                  · have l3 : decide (e.m ≥ 0) = true := by simp; omega
                    clear POSk ho h4 h7 hl hm0 hM1
                    go_wp2_with fail
                    go_roundw
                    case measure => simp [intOf]; omega
                    case rel => exact ⟨k + 1, by omega, by simp, BB3.out⟩
                  · have l3 : decide (e.m ≥ 0) = false := by simp; omega
                    clear POSk ho h4 h7 hl hm0 hM1
                    go_wp2_with fail
                    go_roundw
                    case measure => simp [intOf]; omega
                    case rel => exact ⟨k + 1, by omega, by simp, BB3.out⟩
                · have l1 : ((k : Int) == (M1 : Int)) = false := by simp; omega
                  have l2 : (k == M1) = false := by simp; omega
                  clear POSk ho h4 h7 hl hM1
                  go_wp2_with fail
                  go_roundw
                  case measure => simp [intOf]; omega
                  case rel => exact ⟨k + 1, by omega, by simp, BB3.out⟩
              · have b7 : (e.k == 7) = false := by simp [h7]
                obtain rfl := ZERk (by rw [ho]; simp)
                by_cases hl : k = M1
                · have l1 : ((k : Int) == (M1 : Int)) = true := by simp; omega
                  have l2 : (k == M1) = true := by simp; omega
                  by_cases hm0 : 0 ≤ e.m
                  · have l3 : decide (e.m ≥ 0) = true := by simp; omega
                    clear POSk ho h4 h7 hl hm0 hM1
                    go_wp2_with fail
                    go_roundw
                    case measure => simp [intOf]; omega
                    case rel => exact ⟨k + 1, by omega, by simp, BB3.out⟩
                  · have l3 : decide (e.m ≥ 0) = false := by simp; omega
                    clear POSk ho h4 h7 hl hm0 hM1
                    go_wp2_with fail
                    go_roundw
                    case measure => simp [intOf]; omega
                    case rel => exact ⟨k + 1, by omega, by simp, BB3.out⟩
                · have l1 : ((k : Int) == (M1 : Int)) = false := by simp; omega
                  have l2 : (k == M1) = false := by simp; omega
                  clear POSk ho h4 h7 hl hM1
                  go_wp2_with fail
                  go_roundw
                  case measure => simp [intOf]; omega
                  case rel => exact ⟨k + 1, by omega, by simp, BB3.out⟩
          · rw [ho] at p7
            by_cases h4 : e.k = 4
            · have b4 : (e.k == 4) = true := by simp [h4]
              rcases POSk (.inl ⟨h4, ho⟩) with hq | ⟨hq, hq2, hq3⟩
              · subst hq
                by_cases hl : k = M1
                · have l1 : ((k : Int) == (M1 : Int)) = true := by simp; omega
                  have l2 : (k == M1) = true := by simp; omega
                  by_cases hm0 : 0 ≤ e.m
                  · have l3 : decide (e.m ≥ 0) = true := by simp; omega
                    clear POSk ZERk ho h4 hl hm0 hM1
                    go_wp2_with fail
                    go_roundw
                    case measure => simp [intOf]; omega
                    case rel => exact ⟨k + 1, by omega, by simp, BB3.out⟩
                  · have l3 : decide (e.m ≥ 0) = false := by simp; omega
                    clear POSk ZERk ho h4 hl hm0 hM1
                    go_wp2_with fail
                    go_roundw
                    case measure => simp [intOf]; omega
                    case rel => exact ⟨k + 1, by omega, by simp, BB3.out⟩
                · have l1 : ((k : Int) == (M1 : Int)) = false := by simp; omega
                  have l2 : (k == M1) = false := by simp; omega
                  clear POSk ZERk ho h4 hl hM1
                  go_wp2_with fail
                  go_roundw
                  case measure => simp [intOf]; omega
                  case rel => exact ⟨k + 1, by omega, by simp, BB3.out⟩
              · subst hq
                have l1 : ((k : Int) == (M1 : Int)) = true := by simp; omega
                have l2 : (k == M1) = true := by simp; omega
                have l3 : decide (e.m ≥ 0) = true := by simp; omega
                clear POSk ZERk hq2 hq3 hM1 ho h4
                go_wp2_with fail
                go_roundw
                case measure => simp [intOf]; omega
                case rel => exact ⟨k + 1, by omega, by simp, BB3.out⟩
            · have b4 : (e.k == 4) = false := by simp [h4]
              by_cases h7 : e.k = 7
              · have b7 : (e.k == 7) = true := by simp [h7]
                cases hs : e.s
                · rw [hs] at p6
                  rcases POSk (.inr ⟨h7, ho, hs⟩) with hq | ⟨hq, hq2, hq3⟩
                  · subst hq
                    by_cases hl : k = M1
                    · have l1 : ((k : Int) == (M1 : Int)) = true := by simp; omega
                      have l2 : (k == M1) = true := by simp; omega
                      by_cases hm0 : 0 ≤ e.m
                      · have l3 : decide (e.m ≥ 0) = true := by simp; omega
                        clear POSk ZERk ho h4 h7 hs hl hm0 hM1
                        go_wp2_with fail
                        go_roundw
                        case measure => simp [intOf]; omega
                        case rel => exact ⟨k + 1, by omega, by simp, BB3.out⟩
                      · have l3 : decide (e.m ≥ 0) = false := by simp; omega
                        clear POSk ZERk ho h4 h7 hs hl hm0 hM1
                        go_wp2_with fail
                        go_roundw
                        case measure => simp [intOf]; omega
                        case rel => exact ⟨k + 1, by omega, by simp, BB3.out⟩
                    · have l1 : ((k : Int) == (M1 : Int)) = false := by simp; omega
                      have l2 : (k == M1) = false := by simp; omega
                      clear POSk ZERk ho h4 h7 hs hl hM1
                      go_wp2_with fail
                      go_roundw
                      case measure => simp [intOf]; omega
                      case rel => exact ⟨k + 1, by omega, by simp, BB3.out⟩
                  · subst hq
                    have l1 : ((k : Int) == (M1 : Int)) = true := by simp; omega
                    have l2 : (k == M1) = true := by simp; omega
                    have l3 : decide (e.m ≥ 0) = true := by simp; omega
                    clear POSk ZERk hq2 hq3 hM1 ho h4 h7 hs
                    go_wp2_with fail
                    go_roundw
                    case measure => simp [intOf]; omega
                    case rel => exact ⟨k + 1, by omega, by simp, BB3.out⟩
                · rw [hs] at p6
                  obtain rfl := ZERk (by rw [hs]; simp [h4])
                  by_cases hl : k = M1
                  · have l1 : ((k : Int) == (M1 : Int)) = true := by simp; omega
                    have l2 : (k == M1) = true := by simp; omega
                    by_cases hm0 : 0 ≤ e.m
                    · have l3 : decide (e.m ≥ 0) = true := by simp; omega
                      clear POSk ho h4 h7 hs hl hm0 hM1
                      go_wp2_with fail
                      go_roundw
                      case measure => simp [intOf]; omega
                      case rel => exact ⟨k + 1, by omega, by simp, BB3.out⟩
                    · have l3 : decide (e.m ≥ 0) = false := by simp; omega
                      clear POSk ho h4 h7 hs hl hm0 hM1
                      go_wp2_with fail
                      go_roundw
                      case measure => simp [intOf]; omega
                      case rel => exact ⟨k + 1, by omega, by simp, BB3.out⟩
                  · have l1 : ((k : Int) == (M1 : Int)) = false := by simp; omega
                    have l2 : (k == M1) = false := by simp; omega
                    clear POSk ho h4 h7 hs hl hM1
                    go_wp2_with fail
                    go_roundw
                    case measure => simp [intOf]; omega
                    case rel => exact ⟨k + 1, by omega, by simp, BB3.out⟩
              · have b7 : (e.k == 7) = false := by simp [h7]
                obtain rfl := ZERk (by simp [h4, h7])
                by_cases hl : k = M1
                · have l1 : ((k : Int) == (M1 : Int)) = true := by simp; omega
                  have l2 : (k == M1) = true := by simp; omega
                  by_cases hm0 : 0 ≤ e.m
                  · have l3 : decide (e.m ≥ 0) = true := by simp; omega
                    clear POSk ho h4 h7 hl hm0 hM1
                    go_wp2_with fail
                    go_roundw
                    case measure => simp [intOf]; omega
                    case rel => exact ⟨k + 1, by omega, by simp, BB3.out⟩
                  · have l3 : decide (e.m ≥ 0) = false := by simp; omega
                    clear POSk ho h4 h7 hl hm0 hM1
                    go_wp2_with fail
                    go_roundw
                    case measure => simp [intOf]; omega
                    case rel => exact ⟨k + 1, by omega, by simp, BB3.out⟩
                · have l1 : ((k : Int) == (M1 : Int)) = false := by simp; omega
                  have l2 : (k == M1) = false := by simp; omega
                  clear POSk ho h4 h7 hl hM1
                  go_wp2_with fail
                  go_roundw
                  case measure => simp [intOf]; omega
                  case rel => exact ⟨k + 1, by omega, by simp, BB3.out⟩
    · have dl : decide ((k : Int) < (M : Int)) = false := by simp; omega
      have dl2 : decide (k < M) = false := by simp; omega
      go_wp2_with fail
      refine (FV.out _).mono ?_
      rintro r w2 ⟨rfl, b2⟩
      have B2 := Ba.hide (Ba.btr (Ba.btr B1.out HB.out) b2)
      clear b2
      go_wp2_with fail
      go_ret
      exact ⟨rfl, B2.out⟩

/-! ### the row -/
set_option maxRecDepth 100000 in
theorem lifted (os : Os) (started : os.Started) (H : Type) (enc : TypeId × Value → H) :
    ReturnsInHanded {} Tryz.checked os 8 .any (Rows.edgeOneSpec.pre6 enc Tryz.prog Tryz.f8 Rows.edgeOneRow.domain false) (Rows.edgeOneSpec.post enc Tryz.prog Tryz.f8 false true false false) := by
  refine returnsInHanded_of_change (C := Tryz.checked) own started (by kernel_rfl) Tryz.func8
    (ChangeSpec.witness6 (enc := enc) (C := Tryz.checked) false ⟨#[], #[.slice none 0 0], []⟩ 8 (by kernel_rfl) (by kernel_rfl) (by kernel_rfl) (by kernel_rfl)) ?_
  intro W base args ds gs before hval0 hW hcnd _
  have hval : ∀ (j : Nat) t v, Tryz.f8.params[j]? = some t → args[j]? = some v → Value.okWide Tryz.prog W .any base t v := hval0
  have hW' := hW
  obtain ⟨p, q, hA0, hV, rfl, hfz, hnd⟩ := hW
  have hA : DataW.TrodAll enc Tryz.prog W 0 (fun _ => true) true Tryz.f8.params.toList args.toList ds p := hA0
  rw [Tryz.params8] at hA hval
  obtain ⟨v0, vs0, d0, ds0, p0, q0, hargs, rfl, rfl, h0, r0⟩ := trodAll_cons hA
  obtain ⟨rfl, rfl, rfl⟩ := trodAll_nil r0
  obtain rfl : args = #[v0] := by cases args; simp_all
  obtain ⟨rfl, rfl⟩ := trodVars_none hV
  obtain ⟨oa0, n0, c0, rfl⟩ := okWide_slice Tryz.underlying22 (hval 0 22 v0 rfl rfl)
  have k0 := h0
  have lt0 : ∀ x ∈ p0, x.block < W.heap.size := by obtain ⟨m, hm⟩ := k0; exact DataW.trod_lt m _ _ _ hm
  obtain ⟨l0, rfl, A0, C0, M0⟩ := h0.elim fun _ hf => Gu.events_openC hf
  clear hA0 hval0
  refine (core (w := W) oa0 l0 c0 A0 (Nat.le_trans C0 M0)).mono fun e W' ⟨he, bel⟩ => ?_
  subst he
  exact ⟨_, rfl, _, _, _, [], _, [], hW', trodAll_mk1 (shut_bool Tryz.underlying4 _), (trodAll_cons_mk (Below.trod laidOut (by kernel_rfl) (of_decide_eq_true (by kernel_rfl)) k0 bel lt0) trodAll_mk0), rfl, bel.frame _, fun h => by cases h⟩

theorem over : Rows.edgeOneRow.holds Tryz.pinned (OpenSpec.ofChange Rows.edgeOneSpec) :=
  OpenClaim.holds_of_wide 8 Tryz.f8 rfl rfl rfl rfl rfl rfl rfl ⟨rfl, rfl, rfl, rfl, rfl⟩ rfl rfl rfl rfl rfl (by kernel_rfl) Tryz.func8 (by kernel_rfl)
    (of_decide_eq_true (by kernel_rfl)) (by unfold Func.isWrapper; first | (rw [if_pos (by decide +kernel)]; kernel_rfl) | (rw [if_neg (by decide +kernel)]; exact ⟨rfl, rfl⟩))
    (fun os started H enc _ => lifted os started H enc)

/-- the statement -/
theorem proved : Rows.EdgeOneSaid := over
#print axioms proved
end Go.Proofs.YtiobcfldnfiiaaaGreat.edgeOne
