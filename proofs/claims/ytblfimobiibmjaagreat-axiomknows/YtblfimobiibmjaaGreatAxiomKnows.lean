/- An event's number, and up to which number it knows a goroutine, are what the document says, for each trace of up to 28 events. -/
import Derived.Test.YtblfimobiibmjaaGreatZjAh19
import Derived.Test.YtblfimobiibmjaaGreatAxd
import Derived.Deep.Cut
import Derived.Deep.QuietTactic
import Derived.BigQuiet
import Derived.ShutString
import Derived.ChangeOld
import Derived.Below
namespace Go.Proofs.YtblfimobiibmjaaGreat.axiomKnows
open Go.ChangeShapes Go.WideShapes Go.ChangeAt Go.RowKit
open Go.ChangeMaps (open_string shut_string)
open Ax Eg En Ba

theorem own : ownKnob Tryz.prog.godebug = none := by kernel_rfl
theorem laidOut : laidOutB Tryz.prog = true := by kernel_rfl

set_option maxRecDepth 100000 in
set_option maxHeartbeats 3200000 in
theorem big {w : World} (oa : Option Addr) (n c : Nat) (i g : Int) (hm : n ≤ maxLen) (h : 28 < n) :
    Calls Tryz.prog 6 #[.slice oa n c, .int .i64 i, .int .i64 g] w fun e w' => e = .returned (.bool true) ∧ Below w.heap.size w w' := by
  unfold maxLen at hm
  have FV := Ba.hide (write_any w)
  have d1 : decide ((28 : Int) < (n : Int)) = true := by simp; omega
  have d2 : decide (28 < n) = true := by simp; omega
  go_enter Tryz.func6, Tryz.ntmps6
  go_wp2_with fail
  refine FV.out.mono ?_
  rintro r w1 ⟨rfl, b1⟩
  have B1 := Ba.hide b1
  clear b1
  go_wp2_with fail
  go_ret
  exact ⟨rfl, B1.out⟩
set_option maxRecDepth 100000 in
set_option maxHeartbeats 12800000 in
theorem core {w : World} (oa : Option Addr) (l : List Ev) (c : Nat) (hA : Gu.EsAt w oa l ∧ l.length ≤ c) (hm : l.length ≤ maxLen) (i g : Int) :
    Calls Tryz.prog 6 #[.slice oa l.length c, .int .i64 i, .int .i64 g] w fun e w' => e = .returned (.bool true) ∧ Below w.heap.size w w' := by
  by_cases hb : 28 < l.length
  · exact big oa l.length c i g hm hb
  obtain ⟨hA, hc⟩ := hA
  have FV := Ba.hide (fun u => write_any u)
  have RG := Ba.hide (fun u (b : Below w.heap.size w u) => right_any24 oa l c u (hA.below b) (by omega) hc)
  have HE := Ba.hide hA
  cases ht : tokB l
  · have N1 := Ba.hide (number_no oa l c i w hA (by omega) ht)
    have K1 := Ba.hide (fun u (b : Below w.heap.size w u) => knows_no oa l c i g u (hA.below b) (by omega) ht)
    rw [ht] at RG
    obtain ⟨M, hM⟩ : ∃ M, l.length = M := ⟨_, rfl⟩
    rw [hM] at N1 K1 RG hb ⊢
    have d1 : decide ((28 : Int) < (M : Int)) = false := by simp; omega
    have d2 : decide (28 < M) = false := by simp; omega
    clear hA hm hb ht hM hc
    go_enter Tryz.func6, Tryz.ntmps6
    go_wp2_with fail
    refine N1.out.mono ?_
    rintro r w1 ⟨rfl, b1⟩
    have B1 := Ba.hide b1
    have K2 := Ba.hide (K1.out _ b1)
    clear b1
    go_wp2_with fail
    refine K2.out.mono ?_
    rintro r w2 ⟨rfl, b2⟩
    have B2 := Ba.hide (Ba.btr B1.out b2)
    clear b2
    go_wp2_with fail
    refine (RG.out _ B2.out).mono ?_
    rintro r w3 ⟨rfl, b3⟩
    have B3 := Ba.hide (Ba.btr B2.out b3)
    clear b3
    go_wp2_with fail
    refine (FV.out _).mono ?_
    rintro r w9 ⟨rfl, b9⟩
    have B9 := Ba.hide (Ba.btr B3.out b9)
    clear b9
    go_wp2_with fail
    go_ret
    exact ⟨rfl, B9.out⟩
  have hT := tokB_iff.1 ht
  have N1 := Ba.hide (number_yes oa l c i w hA (by omega) ht)
  have K1 := Ba.hide (fun u (b : Below w.heap.size w u) => knows_yes oa l c i g u (hA.below b) (by omega) ht)
  have OF := Ba.hide (fun u (b : Below w.heap.size w u) => of_any oa l c u (hA.below b) hT (by omega))
  rw [ht] at RG
  by_cases q0 : i < 0
  · have qa : askB l i = false := by unfold askB; simp; omega
    unfold numA askE at N1
    unfold knA askE at K1
    rw [qa] at N1 K1
    simp only [Bool.false_eq_true, if_false] at N1 K1
    obtain ⟨M, hM⟩ : ∃ M, l.length = M := ⟨_, rfl⟩
    rw [hM] at N1 K1 RG hb ⊢
    have d1 : decide ((28 : Int) < (M : Int)) = false := by simp; omega
    have d2 : decide (28 < M) = false := by simp; omega
    clear hA hm hb ht hM hc qa OF
    go_enter Tryz.func6, Tryz.ntmps6
    go_wp2_with fail
    refine N1.out.mono ?_
    rintro r w1 ⟨rfl, b1⟩
    have B1 := Ba.hide b1
    have K2 := Ba.hide (K1.out _ b1)
    clear b1
    go_wp2_with fail
    refine K2.out.mono ?_
    rintro r w2 ⟨rfl, b2⟩
    have B2 := Ba.hide (Ba.btr B1.out b2)
    clear b2
    go_wp2_with fail
    refine (RG.out _ B2.out).mono ?_
    rintro r w3 ⟨rfl, b3⟩
    have B3 := Ba.hide (Ba.btr B2.out b3)
    clear b3
    go_wp2_with fail
    refine (FV.out _).mono ?_
    rintro r w9 ⟨rfl, b9⟩
    have B9 := Ba.hide (Ba.btr B3.out b9)
    clear b9
    go_wp2_with fail
    go_ret
    exact ⟨rfl, B9.out⟩
  by_cases q1 : (l.length : Int) ≤ i
  · have qa : askB l i = false := by unfold askB; simp; omega
    unfold numA askE at N1
    unfold knA askE at K1
    rw [qa] at N1 K1
    simp only [Bool.false_eq_true, if_false] at N1 K1
    obtain ⟨M, hM⟩ : ∃ M, l.length = M := ⟨_, rfl⟩
    rw [hM] at N1 K1 RG hb q1 ⊢
    have d1 : decide ((28 : Int) < (M : Int)) = false := by simp; omega
    have d2 : decide (28 < M) = false := by simp; omega
    have q3 : i ≥ (M : Int) := by omega
    clear hA hm hb ht hM hc qa OF
    go_enter Tryz.func6, Tryz.ntmps6
    go_wp2_with fail
    refine N1.out.mono ?_
    rintro r w1 ⟨rfl, b1⟩
    have B1 := Ba.hide b1
    have K2 := Ba.hide (K1.out _ b1)
    clear b1
    go_wp2_with fail
    refine K2.out.mono ?_
    rintro r w2 ⟨rfl, b2⟩
    have B2 := Ba.hide (Ba.btr B1.out b2)
    clear b2
    go_wp2_with fail
    refine (RG.out _ B2.out).mono ?_
    rintro r w3 ⟨rfl, b3⟩
    have B3 := Ba.hide (Ba.btr B2.out b3)
    clear b3
    go_wp2_with fail
    refine (FV.out _).mono ?_
    rintro r w9 ⟨rfl, b9⟩
    have B9 := Ba.hide (Ba.btr B3.out b9)
    clear b9
    go_wp2_with fail
    go_ret
    exact ⟨rfl, B9.out⟩
  obtain ⟨k, rfl⟩ : ∃ k : Nat, i = (k : Int) := ⟨i.toNat, by omega⟩
  have hk : k < l.length := by omega
  obtain ⟨e, he⟩ := get_lt hk
  obtain ⟨b1, o1, rfl, -⟩ := hA k e he
  have EK : Hid (∀ u, Below w.heap.size w u → u.cell? ⟨b1, o1 + k * 8, none⟩ = some (.int .i64 e.k)) := fun u b => ((HE.out.below b).read he).1
  cases q2 : (e.k == 13)
  · have lv : live l k = true := (live_at he).2 (by simpa using q2)
    have qa : askB l (k : Int) = true := by unfold askB; simp [lv, hk]
    unfold numA askE at N1
    unfold knA askE at K1
    rw [qa] at N1 K1
    simp only [if_true, Int.toNat_natCast] at N1 K1
    have NR := Ba.hide (fun u G (t : TR u w.heap.size G (some ⟨b1, o1, none⟩) l) => rnum_any u w.heap.size G (some ⟨b1, o1, none⟩) l c k t (by omega) hk)
    have KR := Ba.hide (fun u G (t : TR u w.heap.size G (some ⟨b1, o1, none⟩) l) => rkn_any u w.heap.size G (some ⟨b1, o1, none⟩) l c k g t (by omega) hk)
    have TB := Ba.hide (fun (u v : World) G (t : TR u w.heap.size G (some ⟨b1, o1, none⟩) l) (b : Below u.heap.size u v) => t.below b)
    unfold nuF at N1
    rw [if_pos lv] at N1
    generalize (num l k (gof l k) : Int) = z1 at N1 NR
    generalize (knF (Ax.hA l) l k g : Int) = z2 at K1 KR
    have OG := Ba.hide (fun u (b : Below w.heap.size w u) => (OF.out u b).mono (R' := fun r w' => ∃ G, r = .returned (.agg #[.slice (some ⟨b1, o1, none⟩) l.length c, .pointer (some ⟨G, 0, none⟩)]) ∧ TR w' w.heap.size G (some ⟨b1, o1, none⟩) l ∧ Below u.heap.size u w') fun r w' ⟨G, h1, h2, h3⟩ => ⟨G, h1, tr_base h2 b.size, h3⟩)
    obtain ⟨M, hM⟩ : ∃ M, l.length = M := ⟨_, rfl⟩
    rw [hM] at N1 K1 RG NR KR OG hb hk ⊢
    have d1 : decide ((28 : Int) < (M : Int)) = false := by simp; omega
    have d2 : decide (28 < M) = false := by simp; omega
    have k0 : (0 : Int) ≤ (k : Int) := by omega
    have k1 : (k : Int) < (M : Int) := by omega
    have k2 : ¬ ((k : Int) ≥ (M : Int)) := by omega
    clear hA hm hb ht hM hc qa OF lv he q0 q1
    go_enter Tryz.func6, Tryz.ntmps6
    go_wp2_with fail
    refine N1.out.mono ?_
    rintro r w1 ⟨rfl, b1⟩
    have B1 := Ba.hide b1
    have K2 := Ba.hide (K1.out _ b1)
    clear b1
    go_wp2_with fail
    refine K2.out.mono ?_
    rintro r w2 ⟨rfl, b2⟩
    have B2 := Ba.hide (Ba.btr B1.out b2)
    clear b2
    go_wp2_with fail
    refine (RG.out _ B2.out).mono ?_
    rintro r w3 ⟨rfl, b3⟩
    have B3 := Ba.hide (Ba.btr B2.out b3)
    have e0 := EK.out w3 B3.out
    clear b3
    go_wp2_with fail
    refine (OG.out _ B3.out).mono ?_
    rintro r w4 ⟨G, rfl, t4, b4⟩
    have bx := Ba.below_alloc w4 (.cells #[.slice (some ⟨b1, o1, none⟩) M c, .pointer (some ⟨G, 0, none⟩)] 44)
    have X4 := Ba.hide (Ba.heap_new w4 (.cells #[.slice (some ⟨b1, o1, none⟩) M c, .pointer (some ⟨G, 0, none⟩)] 44))
    have B4 := Ba.hide (Ba.btr (Ba.btr B3.out b4) bx)
    have T4 := Ba.hide (TB.out _ _ _ t4 bx)
    clear b4 t4 bx e0
    go_upto_region 10 with fail
    obtain ⟨w5, hw5⟩ : ∃ x, w4.alloc (.cells #[.slice (some ⟨b1, o1, none⟩) M c, .pointer (some ⟨G, 0, none⟩)] 44) = x := ⟨_, rfl⟩
    rw [hw5] at X4 B4 T4 ⊢
    obtain ⟨A, hAA⟩ : ∃ A, w4.heap.size = A := ⟨_, rfl⟩
    rw [hAA] at X4 ⊢
    clear hw5 hAA
    have t0 := cell_of X4.out 0
    have t1 := cell_of X4.out 1
    simp at t0 t1
    have N5 := Ba.hide (NR.out w5 G T4.out)
    go_wp2_with fail
    refine N5.out.mono ?_
    rintro r w6 ⟨rfl, b6⟩
    have B6 := Ba.hide (Ba.btr B4.out b6)
    have X6 := Ba.hide (Ba.heap_below X4.out b6)
    have K6 := Ba.hide (KR.out w6 G (TB.out _ _ _ T4.out b6))
    clear t0 t1 b6
    have t0 := cell_of X6.out 0
    have t1 := cell_of X6.out 1
    simp at t0 t1
    go_wp2_with fail
    refine K6.out.mono ?_
    rintro r w7 ⟨rfl, b7⟩
    have B7 := Ba.hide (Ba.btr B6.out b7)
    clear b7 t0 t1
    go_wp2_with fail
    refine (FV.out _).mono ?_
    rintro r w9 ⟨rfl, b9⟩
    have B9 := Ba.hide (Ba.btr B7.out b9)
    clear b9
    go_wp2_with fail
    go_ret
    exact ⟨rfl, B9.out⟩
  · have lv : live l k = false := by
      unfold live
      rw [he]
      simpa using q2
    have qa : askB l (k : Int) = false := by unfold askB; simp [lv]
    unfold numA askE at N1
    unfold knA askE at K1
    rw [qa] at N1 K1
    simp only [Bool.false_eq_true, if_false] at N1 K1
    obtain ⟨M, hM⟩ : ∃ M, l.length = M := ⟨_, rfl⟩
    rw [hM] at N1 K1 RG hb hk ⊢
    have d1 : decide ((28 : Int) < (M : Int)) = false := by simp; omega
    have d2 : decide (28 < M) = false := by simp; omega
    have k0 : (0 : Int) ≤ (k : Int) := by omega
    have k1 : (k : Int) < (M : Int) := by omega
    have k2 : ¬ ((k : Int) ≥ (M : Int)) := by omega
    clear hA hm hb ht hM hc qa OF lv he q0 q1
    go_enter Tryz.func6, Tryz.ntmps6
    go_wp2_with fail
    refine N1.out.mono ?_
    rintro r w1 ⟨rfl, b1⟩
    have B1 := Ba.hide b1
    have K2 := Ba.hide (K1.out _ b1)
    clear b1
    go_wp2_with fail
    refine K2.out.mono ?_
    rintro r w2 ⟨rfl, b2⟩
    have B2 := Ba.hide (Ba.btr B1.out b2)
    clear b2
    go_wp2_with fail
    refine (RG.out _ B2.out).mono ?_
    rintro r w3 ⟨rfl, b3⟩
    have B3 := Ba.hide (Ba.btr B2.out b3)
    have e0 := EK.out w3 B3.out
    clear b3
    go_wp2_with fail
    refine (FV.out _).mono ?_
    rintro r w9 ⟨rfl, b9⟩
    have B9 := Ba.hide (Ba.btr B3.out b9)
    clear b9
    go_wp2_with fail
    go_ret
    exact ⟨rfl, B9.out⟩


/-! ### the row -/
set_option maxRecDepth 100000 in
theorem lifted (os : Os) (started : os.Started) (H : Type) (enc : TypeId × Value → H) :
    ReturnsInHanded {} Tryz.checked os 6 .any (Rows.axiomKnowsSpec.pre6 enc Tryz.prog Tryz.f6 Rows.axiomKnowsRow.domain false) (Rows.axiomKnowsSpec.post enc Tryz.prog Tryz.f6 false true false false) := by
  refine returnsInHanded_of_change (C := Tryz.checked) own started (by kernel_rfl) Tryz.func6
    (ChangeSpec.witness6 (enc := enc) (C := Tryz.checked) false ⟨#[], #[.slice none 0 0, .int .i64 0, .int .i64 0], []⟩ 8 (by kernel_rfl) (by kernel_rfl) (by kernel_rfl) (by kernel_rfl)) ?_
  intro W base args ds gs before hval0 hW hcnd _
  have hval : ∀ (j : Nat) t v, Tryz.f6.params[j]? = some t → args[j]? = some v → Value.okWide Tryz.prog W .any base t v := hval0
  have hW' := hW
  obtain ⟨p, q, hA0, hV, rfl, hfz, hnd⟩ := hW
  have hA : DataW.TrodAll enc Tryz.prog W 0 (fun _ => true) true Tryz.f6.params.toList args.toList ds p := hA0
  rw [Tryz.params6] at hA hval
  obtain ⟨v0, vs0, d0, ds0, p0, q0, hargs, rfl, rfl, h0, r0⟩ := trodAll_cons hA
  obtain ⟨v1, vs1, d1, ds1, p1, q1, rfl, rfl, rfl, h1, r1⟩ := trodAll_cons r0
  obtain ⟨v2, vs2, d2, ds2, p2, q2, rfl, rfl, rfl, h2, r2⟩ := trodAll_cons r1
  obtain ⟨rfl, rfl, rfl⟩ := trodAll_nil r2
  obtain rfl : args = #[v0, v1, v2] := by cases args; simp_all
  obtain ⟨rfl, rfl⟩ := trodVars_none hV
  obtain ⟨oa0, n0, c0, rfl⟩ := okWide_slice Tryz.underlying22 (hval 0 22 v0 rfl rfl)
  have k0 := h0
  have lt0 : ∀ x ∈ p0, x.block < W.heap.size := by obtain ⟨m, hm⟩ := k0; exact DataW.trod_lt m _ _ _ hm
  obtain ⟨l0, rfl, A0, C0, M0⟩ := h0.elim fun _ hf => Gu.events_openC hf
  obtain ⟨a1, rfl, rfl, rfl, w1⟩ := open_int Tryz.underlying3 (hval 1 3 v1 rfl rfl) h1
  obtain ⟨a2, rfl, rfl, rfl, w2⟩ := open_int Tryz.underlying3 (hval 2 3 v2 rfl rfl) h2
  clear hA0 hval0
  refine (core (w := W) oa0 l0 c0 A0 (Nat.le_trans C0 M0) a1 a2).mono fun e W' ⟨he, bel⟩ => ?_
  subst he
  exact ⟨_, rfl, _, _, _, [], _, [], hW', trodAll_mk1 (shut_bool Tryz.underlying4 _), (trodAll_cons_mk (Below.trod laidOut (by kernel_rfl) (of_decide_eq_true (by kernel_rfl)) k0 bel lt0) (trodAll_cons_mk (shut_int Tryz.underlying3 w1) (trodAll_cons_mk (shut_int Tryz.underlying3 w2) trodAll_mk0))), rfl, bel.frame _, fun h => by cases h⟩

theorem over : Rows.axiomKnowsRow.holds Tryz.pinned (OpenSpec.ofChange Rows.axiomKnowsSpec) :=
  OpenClaim.holds_of_wide 6 Tryz.f6 rfl rfl rfl rfl rfl rfl rfl ⟨rfl, rfl, rfl, rfl, rfl⟩ rfl rfl rfl rfl rfl (by kernel_rfl) Tryz.func6 (by kernel_rfl)
    (of_decide_eq_true (by kernel_rfl)) (by unfold Func.isWrapper; first | (rw [if_pos (by decide +kernel)]; kernel_rfl) | (rw [if_neg (by decide +kernel)]; exact ⟨rfl, rfl⟩))
    (fun os started H enc _ => lifted os started H enc)

/-- the statement -/
theorem proved : Rows.AxiomKnowsSaid := over
#print axioms proved
end Go.Proofs.YtblfimobiibmjaaGreat.axiomKnows
