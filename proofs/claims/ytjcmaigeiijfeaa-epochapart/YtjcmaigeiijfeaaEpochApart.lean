/- For every two pairs of a tid and a clock, the law EpochApart returns true, so unlike tids and clocks have unlike epochs, none of which is None or Tail: under no condition. -/
import Derived.Test.YtjcmaigeiijfeaaRows
import Derived.WalkKit
import Derived.ProofKit
import Derived.OpenShut
import Derived.WalkLawsBesides
import Derived.WalkSpells
import Derived.Lib.SmallJoins
import Derived.Test.YtjcmaigeiijfeaaEp
namespace Go.Proofs.Ytjcmaigeiijfeaa.epochApart
open Go.ChangeShapes Go.WideShapes Go.ChangeAt Go.RowKit
open Go.Joins
open Ep

theorem own : ownKnob Try.prog.godebug = none := by kernel_rfl
theorem cellsPair : Try.prog.cellsOf 48 = 2 := by kernel_rfl

set_option maxHeartbeats 1600000 in
theorem walk (a b c d : Int) (w : World) :
    Calls Try.prog 8 #[.agg #[.int .i64 a, .int .i64 b], .agg #[.int .i64 c, .int .i64 d]] w fun e w' => e = .returned (.bool true) ∧ Grown w w' := by
  by_cases h : 0 ≤ a ∧ a < 256 ∧ 1 ≤ b ∧ b ≤ 1048576
  · obtain ⟨h0, h1, h2, h3⟩ := h
    by_cases g : 0 ≤ c ∧ c < 256 ∧ 1 ≤ d ∧ d ≤ 1048576
    · obtain ⟨g0, g1, g2, g3⟩ := g
      have n0 : ((a + 1) * 4294967296 + b != 0) = true := by simp; omega
      have n1 : ((a + 1) * 4294967296 + b != 18446744073709551615) = true := by simp; omega
      by_cases hac : a = c
      · subst hac
        by_cases hbd : b = d
        · subst hbd
          go_enter Try.func8, Try.ntmps8
          go_wp2_with fail
          refine (pack_ok a b h0 h1 h2 h3 _).mono ?_
          rintro r w' ⟨rfl, rfl⟩
          go_wp2_with fail
          refine (pack_ok a b h0 h1 h2 h3 _).mono ?_
          rintro r w' ⟨rfl, rfl⟩
          go_wp2_with (go_at_call 11; refine (two_any _).mono ?_; rintro r w' ⟨rfl, rfl⟩)
          go_ret
          exact ⟨rfl, by repeat (first | exact Grown.refl _ | apply Grown.drew | apply Grown.alloc)⟩
        · have k1 : (b == d) = false := by simp; omega
          have k2 : ((a + 1) * 4294967296 + b == (a + 1) * 4294967296 + d) = false := by simp; omega
          go_enter Try.func8, Try.ntmps8
          go_wp2_with fail
          refine (pack_ok a b h0 h1 h2 h3 _).mono ?_
          rintro r w' ⟨rfl, rfl⟩
          go_wp2_with fail
          refine (pack_ok a d g0 g1 g2 g3 _).mono ?_
          rintro r w' ⟨rfl, rfl⟩
          go_wp2_with (go_at_call 11; refine (two_any _).mono ?_; rintro r w' ⟨rfl, rfl⟩)
          go_ret
          exact ⟨rfl, by repeat (first | exact Grown.refl _ | apply Grown.drew | apply Grown.alloc)⟩
      · have k1 : (a == c) = false := by simp; omega
        have k2 : ((a + 1) * 4294967296 + b == (c + 1) * 4294967296 + d) = false := by simp; omega
        go_enter Try.func8, Try.ntmps8
        go_wp2_with fail
        refine (pack_ok a b h0 h1 h2 h3 _).mono ?_
        rintro r w' ⟨rfl, rfl⟩
        go_wp2_with fail
        refine (pack_ok c d g0 g1 g2 g3 _).mono ?_
        rintro r w' ⟨rfl, rfl⟩
        go_wp2_with (go_at_call 11; refine (two_any _).mono ?_; rintro r w' ⟨rfl, rfl⟩)
        go_ret
        exact ⟨rfl, by repeat (first | exact Grown.refl _ | apply Grown.drew | apply Grown.alloc)⟩
    · have G : Hid (c < 0 ∨ 256 ≤ c ∨ d < 1 ∨ 1048576 < d) := by show _ ∨ _; omega
      clear g
      go_enter Try.func8, Try.ntmps8
      go_wp2_with fail
      refine (pack_ok a b h0 h1 h2 h3 _).mono ?_
      rintro r w' ⟨rfl, rfl⟩
      go_wp2_with fail
      refine (pack_no c d G.out _).mono ?_
      rintro r w' ⟨rfl, rfl⟩
      go_wp2_with (go_at_call 11; refine (two_any _).mono ?_; rintro r w' ⟨rfl, rfl⟩)
      go_ret
      exact ⟨rfl, by repeat (first | exact Grown.refl _ | apply Grown.drew | apply Grown.alloc)⟩
  · have H : Hid (a < 0 ∨ 256 ≤ a ∨ b < 1 ∨ 1048576 < b) := by show _ ∨ _; omega
    clear h
    by_cases g : 0 ≤ c ∧ c < 256 ∧ 1 ≤ d ∧ d ≤ 1048576
    · obtain ⟨g0, g1, g2, g3⟩ := g
      go_enter Try.func8, Try.ntmps8
      go_wp2_with fail
      refine (pack_no a b H.out _).mono ?_
      rintro r w' ⟨rfl, rfl⟩
      go_wp2_with fail
      refine (pack_ok c d g0 g1 g2 g3 _).mono ?_
      rintro r w' ⟨rfl, rfl⟩
      go_wp2_with (go_at_call 11; refine (two_any _).mono ?_; rintro r w' ⟨rfl, rfl⟩)
      go_ret
      exact ⟨rfl, by repeat (first | exact Grown.refl _ | apply Grown.drew | apply Grown.alloc)⟩
    · have G : Hid (c < 0 ∨ 256 ≤ c ∨ d < 1 ∨ 1048576 < d) := by show _ ∨ _; omega
      clear g
      go_enter Try.func8, Try.ntmps8
      go_wp2_with fail
      refine (pack_no a b H.out _).mono ?_
      rintro r w' ⟨rfl, rfl⟩
      go_wp2_with fail
      refine (pack_no c d G.out _).mono ?_
      rintro r w' ⟨rfl, rfl⟩
      go_wp2_with (go_at_call 11; refine (two_any _).mono ?_; rintro r w' ⟨rfl, rfl⟩)
      go_ret
      exact ⟨rfl, by repeat (first | exact Grown.refl _ | apply Grown.drew | apply Grown.alloc)⟩

set_option maxRecDepth 100000 in
theorem lifted (os : Os) (started : os.Started) (H : Type) (enc : TypeId × Value → H) :
    ReturnsInHanded {} Try.checked os 8 .any (Rows.epochApartSpec.pre6 enc Try.prog Try.f8 Rows.epochApartRow.domain false) (Rows.epochApartSpec.post enc Try.prog Try.f8 false true false false) := by
  refine returnsInHanded_of_change (C := Try.checked) own started (by kernel_rfl) Try.func8
    (ChangeSpec.witness6 (enc := enc) (C := Try.checked) false ⟨#[], #[.agg #[.int .i64 0, .int .i64 0], .agg #[.int .i64 0, .int .i64 0]], []⟩ 8 (by kernel_rfl) (by kernel_rfl) (by kernel_rfl) (by kernel_rfl)) ?_
  intro W base args ds gs before hval0 hW _ _
  have hval : ∀ (j : Nat) t v, Try.f8.params[j]? = some t → args[j]? = some v → Value.okWide Try.prog W .any base t v := hval0
  have hW' := hW
  obtain ⟨p, q, hA0, hV, rfl, _, _⟩ := hW
  have hA : DataW.TrodAll enc Try.prog W 0 (fun _ => true) true Try.f8.params.toList args.toList ds p := hA0
  rw [Try.params8] at hA hval
  obtain ⟨v0, v1, d0, d1, p0, p1, rfl, rfl, rfl, h0, h1⟩ := trodAll_two hA
  obtain ⟨rfl, rfl⟩ := trodVars_none hV
  obtain ⟨c0, c1, y0, y1, m, rfl, rfl, rfl, hy0, hy1⟩ := open_agg2 Try.underlying48 (by kernel_rfl) cellsPair (hval 0 48 v0 rfl rfl) h0
  obtain ⟨a, e0, rfl, wa⟩ := DataW.trod_int Try.underlying3 hy0
  obtain ⟨b, e1, rfl, wb⟩ := DataW.trod_int Try.underlying3 hy1
  simp at e0 e1
  subst e0 e1
  obtain ⟨c2, c3, y2, y3, m2, rfl, rfl, rfl, hy2, hy3⟩ := open_agg2 Try.underlying48 (by kernel_rfl) cellsPair (hval 1 48 v1 rfl rfl) h1
  obtain ⟨c, e2, rfl, wc⟩ := DataW.trod_int Try.underlying3 hy2
  obtain ⟨d, e3, rfl, wd⟩ := DataW.trod_int Try.underlying3 hy3
  simp at e2 e3
  subst e2 e3
  clear hA0 hval0
  simp only [List.append_nil] at hW'
  have structReads : ∀ (x y : Int), (Lit.int .i64 x).wf = true → (Lit.int .i64 y).wf = true → ∀ (W' : World) (sp : Nat → Bool), DataW.Trod enc Try.prog W' 0 sp true 48 (.agg #[.int .i64 x, .int .i64 y]) (.agg [.lit (.int .i64 x), .lit (.int .i64 y)]) [] := fun x y wx wy W' sp =>
    shut_agg2 (y0 := (.lit (.int .i64 x), [])) (y1 := (.lit (.int .i64 y), [])) Try.underlying48 (by kernel_rfl) cellsPair ⟨1, by simp [DataW.trod, Try.underlying3, wx]⟩ ⟨1, by simp [DataW.trod, Try.underlying3, wy]⟩
  refine (walk a b c d W).mono fun e W' ⟨he, hg⟩ => ?_
  subst he
  exact ⟨_, rfl, post_of_same (pa := []) (pv := []) hW' (fun _ _ _ => trodAll_mk1 (shut_bool Try.underlying4 _)) (fun sp _ => trodAll_mk2 (structReads a b wa wb _ sp) (structReads c d wc wd _ sp)) (fun _ _ => rfl) rfl (hg.frame _) hg.2.1 (ok_one (by kernel_rfl) rfl (okWide_bool_mk Try.underlying4 _))⟩

theorem over : Rows.epochApartRow.holds Try.pinned (OpenSpec.ofChange Rows.epochApartSpec) :=
  OpenClaim.holds_of_wide 8 Try.f8 rfl rfl rfl rfl rfl rfl rfl ⟨rfl, rfl, rfl, rfl, rfl⟩ rfl rfl rfl rfl rfl (by kernel_rfl) Try.func8 (by kernel_rfl)
    (of_decide_eq_true (by kernel_rfl)) (by unfold Func.isWrapper; first | (rw [if_pos (by decide +kernel)]; kernel_rfl) | (rw [if_neg (by decide +kernel)]; exact ⟨rfl, rfl⟩))
    (fun os started H enc _ => lifted os started H enc)

theorem proved : Rows.EpochApartSaid :=
  over
#print axioms proved
end Go.Proofs.Ytjcmaigeiijfeaa.epochApart
