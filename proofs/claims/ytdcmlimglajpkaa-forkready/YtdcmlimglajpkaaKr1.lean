/- ForkReady's walk. -/
import Derived.Test.YtdcmlimglajpkaaKa1
namespace Go.Proofs.Ytdcmlimglajpkaa
open Go.ChangeShapes Go.WideShapes Go.ChangeAt Go.RowKit
namespace Fk
open Ba Pe _root_.Go.Proofs.Ytdcmlimglajpkaa.Pi Rp

theorem one_case {w : World} {K : Nat} {c : Ca} {ty : TypeId} (h : w.heap[K]? = some (.cells #[.bool c.sd, .int .i64 c.ch, .int .i64 c.v] ty (0, 0))) : CaAt w (some ⟨K, 0, none⟩) [c] := by
  intro k x hk
  match k, hk with
  | 0, hk => simp at hk; subst hk; exact ⟨K, 0, rfl, cell_of h 0, cell_of h 1, cell_of h 2⟩
  | k + 1, hk => simp at hk
set_option maxRecDepth 100000 in
set_option maxHeartbeats 6400000 in
theorem forkReady_core (w : World) (oz : Option Addr) (sizes : List Int) (cz : Nat) (ol : Option Addr) (L : List Ac) (cl : Nat) (c : Ca) (hA : At w oz sizes) (hL : AAt w ol L) (hs : sizes.length ≤ maxLen) (hl : L.length ≤ maxLen) :
    Calls Try.prog 5 #[.slice oz sizes.length cz, .slice ol L.length cl, cv c] w fun r w' => r = .returned (.bool true) ∧ Below w.heap.size w w' := by
  have b1 := below_alloc w (.cells #[.bool c.sd, .int .i64 c.ch, .int .i64 c.v] 32)
  have C1 := hide (heap_new w (.cells #[.bool c.sd, .int .i64 c.ch, .int .i64 c.v] 32))
  have B1 := hide b1
  have A1 := hide (hA.below b1)
  have L1 := hide (hL.below b1)
  have HLl := hide hl
  unfold maxLen at hs hl
  clear hA hL b1
  unfold cv
  by_cases h20 : 20 < sizes.length
  · have h20' : (20 : Int) < (sizes.length : Int) := by omega
    go_enter Try.func5, Try.ntmps5
    go_wp2_with fail
    refine (one_any _).mono ?_
    rintro r w5 ⟨rfl, b5⟩
    have B5 := hide (btr B1.out b5)
    clear b5
    go_wp2_with fail
    go_ret
    exact ⟨rfl, B5.out⟩
  have h20' : ¬ (20 : Int) < (sizes.length : Int) := by omega
  have LG := hide (large_any ol L cl _ L1.out HLl.out)
  go_enter Try.func5, Try.ntmps5
  go_wp2_with fail
  generalize w.alloc (.cells #[.bool c.sd, .int .i64 c.ch, .int .i64 c.v] 32) = W1 at C1 B1 A1 L1 LG ⊢
  refine LG.out.mono ?_
  rintro r w2 ⟨bb, rfl, hf, b2⟩
  cases bb
  · have FEW := hide (hf rfl)
    have C2 := hide (heap_below C1.out b2)
    have B2 := hide (btr B1.out b2)
    have L2 := hide (L1.out.below b2)
    have PP := hide (pipes_any w2 oz sizes cz (A1.out.below b2) (by omega))
    clear hf b2 LG C1 B1 A1 L1
    go_wp2_with fail
    refine PP.out.mono ?_
    rintro r w3 ⟨oa, cp, bs, Fs, ob, cq, gs, Gs, rfl, hb, hg, t3⟩
    have hb20 : bs.length ≤ 1000 := by omega
    have W4 : Hid (Lw w2 (w3.alloc (.cells #[.slice oa bs.length cp, .slice ob gs.length cq] 29)) w3.heap.size (.cells #[.slice oa bs.length cp, .slice ob gs.length cq] 29) oa bs ob gs 0 Fs Gs (sizes.map capS)) := ⟨t3.below (below_alloc _ _), heap_new _ _, new_not t3 (Nat.le_refl _), cap_cn sizes⟩
    clear t3 PP hb hg
    go_wp2_with fail
    generalize w3.alloc (.cells #[.slice oa bs.length cp, .slice ob gs.length cq] 29) = U4 at W4 ⊢
    generalize w3.heap.size = D at W4 ⊢
    go_loopw [25] (fun i wr => ∃ (k : Nat) (Fs Gs : Nat → Nat → Prop) (s : List (Option St)), k ≤ L.length ∧ i = .int .i64 k ∧ Lw w2 wr D (.cells #[.slice oa bs.length cp, .slice ob gs.length cq] 29) oa bs ob gs k Fs Gs s) (fun i _ => L.length - (intOf i).toNat)
    case atStart => exact ⟨0, Fs, Gs, _, Nat.zero_le _, rfl, W4.out⟩
    case round =>
      clear W4
      obtain ⟨k, F5, G5, s, hk, rfl, lw⟩ := hrel
      have LW := hide lw
      clear lw
      have hk150 : k ≤ 150 := Nat.le_trans hk FEW.out.1
      by_cases hlt : k < L.length
      · have hlt' : (k : Int) < (L.length : Int) := by omega
        obtain ⟨x, hx⟩ : ∃ x, L[k]? = some x := ⟨_, List.getElem?_eq_getElem hlt⟩
        obtain ⟨b, off, la, lc, rfl, h0, h1, h2, h3, h4, h5, hC, -⟩ := L2.out k x hx
        have up : ∀ {i : Nat} {v : Value}, w2.cell? ⟨b, i, none⟩ = some v → wr.cell? ⟨b, i, none⟩ = some v := fun q => (LW.out.t.b.cell (World.block_lt_of_cell? w2 _ q)).trans q
        have q0 := up h0
        have q1 := up h1
        have q2 := up h2
        have q3 := up h3
        have q4 := up h4
        have q5 := up h5
        have LX := hide (LW.out.below (below_alloc wr (.cells #[.int .i64 x.what, .int .i64 x.g, .bool x.c.sd, .int .i64 x.c.ch, .int .i64 x.c.v, .slice la x.l.length lc] 35)))
        have AC := hide (acts_any w2 _ x.what x.g x.c x.l la lc oa bs cp F5 ob gs cq G5 s k LX.out.t (hC.below LX.out.t.b) (LX.out.out hC) LX.out.c (by omega) hb20)
        have d0 : (wr.alloc (.cells #[.int .i64 x.what, .int .i64 x.g, .bool x.c.sd, .int .i64 x.c.ch, .int .i64 x.c.v, .slice la x.l.length lc] 35)).cell? ⟨D, 0, none⟩ = some (.slice oa bs.length cp) := cell_of LX.out.d 0
        have d1 : (wr.alloc (.cells #[.int .i64 x.what, .int .i64 x.g, .bool x.c.sd, .int .i64 x.c.ch, .int .i64 x.c.v, .slice la x.l.length lc] 35)).cell? ⟨D, 1, none⟩ = some (.slice ob gs.length cq) := cell_of LX.out.d 1
        have dd0 : wr.cell? ⟨D, 0, none⟩ = some (.slice oa bs.length cp) := cell_of LW.out.d 0
        have dd1 : wr.cell? ⟨D, 1, none⟩ = some (.slice ob gs.length cq) := cell_of LW.out.d 1
        clear hx h0 h1 h2 h3 h4 h5 hC up LW
        go_wp2_with fail
        refine AC.out.mono ?_
        rintro r w6 ⟨rfl, p6⟩
        obtain ⟨F6, G6, lw6⟩ := LX.out.act p6
        have L6 := hide lw6
        clear lw6 p6 AC d0 d1 dd0 dd1 q0 q1 q2 q3 q4 q5
        go_wp2_with fail
        go_roundw
        case rel => exact ⟨k + 1, F6, G6, _, by omega, by go_num, L6.out⟩
        case measure => simp [intOf]; omega
      · have hlt' : ¬ ((k : Int) < (L.length : Int)) := by omega
        have C5 := hide (heap_below C2.out LW.out.t.b)
        have e0 : wr.cell? ⟨w.heap.size, 0, none⟩ = some (.bool c.sd) := cell_of C5.out 0
        have e1 : wr.cell? ⟨w.heap.size, 1, none⟩ = some (.int .i64 c.ch) := cell_of C5.out 1
        have e2 : wr.cell? ⟨w.heap.size, 2, none⟩ = some (.int .i64 c.v) := cell_of C5.out 2
        have b6 := below_alloc wr (.cells #[.bool c.sd, .int .i64 c.ch, .int .i64 c.v] 32)
        have L6 := hide (LW.out.below b6)
        have C6 := hide (heap_below C5.out b6)
        have d0 : (wr.alloc (.cells #[.bool c.sd, .int .i64 c.ch, .int .i64 c.v] 32)).cell? ⟨D, 0, none⟩ = some (.slice oa bs.length cp) := cell_of L6.out.d 0
        have RD := hide (fready_any (some ⟨wr.heap.size, 0, none⟩) [c] 1 oa bs cp F5 s _ (one_case (heap_new wr (.cells #[.bool c.sd, .int .i64 c.ch, .int .i64 c.v] 32))) L6.out.t.p (by simp))
        rw [rdyL_one] at RD
        simp only [List.length_cons, List.length_nil] at RD
        have SM := hide (LW.out.c.sml (by omega))
        have TR := hide (try_rdy s c)
        have TE := hide (try_err s c)
        clear b6
        obtain ⟨nr, hnr⟩ : ∃ nr : Nat, nr = if crdy s c = true then 1 else 0 := ⟨_, rfl⟩
        rw [← hnr] at RD
        have NR := hide hnr
        clear hnr
        go_wp2_with fail
        generalize wr.alloc (.cells #[.bool c.sd, .int .i64 c.ch, .int .i64 c.v] 32) = U6 at L6 C6 d0 RD ⊢
        refine RD.out.mono ?_
        rintro r w7 ⟨o7, d7, rfl, -, b7⟩
        have L7 := hide (L6.out.below b7)
        have C7 := hide (heap_below C6.out b7)
        have d0 : w7.cell? ⟨D, 0, none⟩ = some (.slice oa bs.length cp) := cell_of L7.out.d 0
        have e0 : w7.cell? ⟨w.heap.size, 0, none⟩ = some (.bool c.sd) := cell_of C7.out 0
        have e1 : w7.cell? ⟨w.heap.size, 1, none⟩ = some (.int .i64 c.ch) := cell_of C7.out 1
        have e2 : w7.cell? ⟨w.heap.size, 2, none⟩ = some (.int .i64 c.v) := cell_of C7.out 2
        have TY := hide (ftry_any c oa bs cp F5 s w7 L7.out.t.p SM.out)
        clear b7 RD
        generalize tryE s c = ee at TY TR TE
        generalize tryG s c = gg at TY TR TE
        obtain ⟨rd, ok, wk, v, ⟨mg, mc, mv⟩⟩ := gg
        unfold cv gv at TY
        simp only at TY TR TE
        go_wp2_with fail
        refine TY.out.mono ?_
        rintro r w8 ⟨rfl, rz⟩
        obtain ⟨F8, t8, r8⟩ := L7.out.t.stepP rz
        have b9 := below_alloc w8 (.cells #[.bool rd, .bool ok, .bool wk, .int .i64 v, .int .i64 mg, .int .i64 mc, .int .i64 mv] 51)
        have hw2 : w.heap.size < w2.heap.size := heap_lt C2.out
        have C9 := hide (heap_below (heap_below C2.out t8.b) b9)
        have B9 := hide (btr (btr B2.out t8.b) b9)
        have G9 := hide (heap_new w8 (.cells #[.bool rd, .bool ok, .bool wk, .int .i64 v, .int .i64 mg, .int .i64 mc, .int .i64 mv] 51))
        clear rz t8 r8 b9 TY d0 e0 e1 e2
        have g0 : (w8.alloc (.cells #[.bool rd, .bool ok, .bool wk, .int .i64 v, .int .i64 mg, .int .i64 mc, .int .i64 mv] 51)).cell? ⟨w8.heap.size, 0, none⟩ = some (.bool rd) := cell_of G9.out 0
        have e0 : (w8.alloc (.cells #[.bool rd, .bool ok, .bool wk, .int .i64 v, .int .i64 mg, .int .i64 mc, .int .i64 mv] 51)).cell? ⟨w.heap.size, 0, none⟩ = some (.bool c.sd) := cell_of C9.out 0
        by_cases h0 : ee = 0
        · subst h0
          have hcr : crdy s c = rd := by rw [TR.out]; cases rd <;> rfl
          cases rd
          · obtain rfl : nr = 0 := by rw [NR.out, hcr]; rfl
            clear hcr
            go_wp2_with fail
            refine (one_any _).mono ?_
            rintro r w10 ⟨rfl, b10⟩
            have B10 := hide (btr B9.out b10)
            clear b10
            go_wp2_with fail
            go_ret
            exact ⟨rfl, B10.out⟩
          · obtain rfl : nr = 1 := by rw [NR.out, hcr]; rfl
            clear hcr
            go_wp2_with fail
            refine (one_any _).mono ?_
            rintro r w10 ⟨rfl, b10⟩
            have B10 := hide (btr B9.out b10)
            clear b10
            go_wp2_with fail
            go_ret
            exact ⟨rfl, B10.out⟩
        · obtain ⟨h1, h2⟩ := TE.out.resolve_left h0
          subst h1
          rw [h2] at e0
          have n0 : decide (ee = 0) = false := decide_eq_false h0
          by_cases h9 : ee = 90
          · subst h9
            obtain rfl : nr = 1 := by rw [NR.out, TR.out]; rfl
            clear h0 n0
            go_wp2_with fail
            refine (one_any _).mono ?_
            rintro r w10 ⟨rfl, b10⟩
            have B10 := hide (btr B9.out b10)
            clear b10
            go_wp2_with fail
            go_ret
            exact ⟨rfl, B10.out⟩
          · have n9 : decide (ee = 90) = false := decide_eq_false h9
            obtain rfl : nr = 0 := by rw [NR.out, TR.out, n9]; rfl
            go_wp2_with fail
            refine (one_any _).mono ?_
            rintro r w10 ⟨rfl, b10⟩
            have B10 := hide (btr B9.out b10)
            clear b10
            go_wp2_with fail
            go_ret
            exact ⟨ret_bool (by simp [h9]), B10.out⟩
  · clear hf
    have B2 := hide (btr B1.out b2)
    clear b2
    go_wp2_with fail
    refine (one_any _).mono ?_
    rintro r w5 ⟨rfl, b5⟩
    have B5 := hide (btr B2.out b5)
    clear b5
    go_wp2_with fail
    go_ret
    exact ⟨rfl, B5.out⟩
end Fk
end Go.Proofs.Ytdcmlimglajpkaa
