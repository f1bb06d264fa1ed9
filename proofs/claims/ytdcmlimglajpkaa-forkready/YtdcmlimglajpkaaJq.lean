/- The laws' own acts(): one tries, one closes. -/
import Derived.Test.YtdcmlimglajpkaaJp
namespace Go.Proofs.Ytdcmlimglajpkaa
open Go.ChangeShapes Go.WideShapes Go.ChangeAt Go.RowKit
namespace Fk
open Ba Pe _root_.Go.Proofs.Ytdcmlimglajpkaa.Pi Rp

set_option maxRecDepth 100000 in
set_option maxHeartbeats 6400000 in
theorem acts0 (w u : World) (what g : Int) (c : Ca) (l : List Ca) (la : Option Addr) (lc : Nat) (oa : Option Addr) (bs : List (Option Nat)) (cp : Nat) (Fs : Nat → Nat → Prop) (ob : Option Addr) (gs : List (Option Nat)) (cq : Nat) (Gs : Nat → Nat → Prop) (s : List (Option St)) (h : Tw w u oa bs Fs ob gs Gs s s) (hs : Sml s) (hw : what = 0) :
    Calls Try.prog 9 #[(.agg #[.slice oa bs.length cp, .slice ob gs.length cq]), (.agg #[.int .i64 what, .int .i64 g, .bool c.sd, .int .i64 c.ch, .int .i64 c.v, .slice la l.length lc])] u fun r w' => r = .returned (.bool true) ∧ AcP w u w' oa bs Fs ob gs Gs (tryS s c) := by
  subst hw
  have b1 := below_alloc u (.cells #[.slice oa bs.length cp, .slice ob gs.length cq] 29)
  have b2 := below_alloc (u.alloc (.cells #[.slice oa bs.length cp, .slice ob gs.length cq] 29)) (.cells #[.int .i64 0, .int .i64 g, .bool c.sd, .int .i64 c.ch, .int .i64 c.v, .slice la l.length lc] 35)
  have BB := hide (btr b1 b2)
  have X2 := hide (heap_below (heap_new u (.cells #[.slice oa bs.length cp, .slice ob gs.length cq] 29)) b2)
  have hy := heap_new (u.alloc (.cells #[.slice oa bs.length cp, .slice ob gs.length cq] 29)) (.cells #[.int .i64 0, .int .i64 g, .bool c.sd, .int .i64 c.ch, .int .i64 c.v, .slice la l.length lc] 35)
  rw [World.size_alloc] at hy
  have Y2 := hide hy
  have T2 := hide (h.below BB.out)
  have NX := hide (new_not h (Nat.le_refl _))
  have NY := hide (new_not h (Nat.le_succ _))
  have HS := hide hs
  have PT := hide (ftry_any c oa bs cp Fs s _ T2.out.p hs)
  have RT : Hid (∀ z G1, Qs Rr z ob gs G1 s → Calls Try.prog 21 #[cv c, .slice ob gs.length cq] z fun r w' => r = .returned (.tuple #[gv (tryG s c), .int .i64 (tryE s c)]) ∧ Rz Rr z w' ob gs G1 (tryS s c)) := fun z G1 hz => rtry_any c ob gs cq G1 s z hz hs
  clear b1 b2 hy hs h
  generalize tryE s c = ee at PT RT
  generalize tryG s c = gg at PT RT
  obtain ⟨rd, ok, wk, v, ⟨mg, mc, mv⟩⟩ := gg
  unfold cv gv at PT RT
  have RF : Hid (∀ z, Calls Try.prog 22 #[wv ⟨mg, mc, mv⟩] z fun r w' => r = .returned (wv ⟨mg, mc, mv⟩) ∧ Below z.heap.size z w') := fun z => ref_any _ z
  unfold wv at RF
  go_enter Try.func9, Try.ntmps9
  go_wp2_with fail
  generalize (u.alloc (.cells #[.slice oa bs.length cp, .slice ob gs.length cq] 29)).alloc (.cells #[.int .i64 0, .int .i64 g, .bool c.sd, .int .i64 c.ch, .int .i64 c.v, .slice la l.length lc] 35) = U2 at BB X2 Y2 T2 PT ⊢
  refine PT.out.mono ?_
  rintro r w3 ⟨rfl, rz3⟩
  obtain ⟨F3, t3, r3⟩ := T2.out.stepP rz3
  have ba := below_alloc w3 (.cells #[.bool rd, .bool ok, .bool wk, .int .i64 v, .int .i64 mg, .int .i64 mc, .int .i64 mv] 51)
  have X3 := hide (heap_below (r3.heap X2.out NX.out.1 NX.out.2) ba)
  have Y3 := hide (heap_below (r3.heap Y2.out NY.out.1 NY.out.2) ba)
  have A3 := hide (heap_new w3 (.cells #[.bool rd, .bool ok, .bool wk, .int .i64 v, .int .i64 mg, .int .i64 mc, .int .i64 mv] 51))
  have NA := hide (new_not t3 (Nat.le_refl _))
  have T3 := hide (t3.below ba)
  have R3 := hide (((Rest.below (Fs := Fs) (Gs := Gs) BB.out).trans r3).trans (Rest.below ba))
  have x1 : (w3.alloc (.cells #[.bool rd, .bool ok, .bool wk, .int .i64 v, .int .i64 mg, .int .i64 mc, .int .i64 mv] 51)).cell? ⟨u.heap.size, 1, none⟩ = some (.slice ob gs.length cq) := cell_of X3.out 1
  have y2 : (w3.alloc (.cells #[.bool rd, .bool ok, .bool wk, .int .i64 v, .int .i64 mg, .int .i64 mc, .int .i64 mv] 51)).cell? ⟨u.heap.size + 1, 2, none⟩ = some (.bool c.sd) := cell_of Y3.out 2
  have y3 : (w3.alloc (.cells #[.bool rd, .bool ok, .bool wk, .int .i64 v, .int .i64 mg, .int .i64 mc, .int .i64 mv] 51)).cell? ⟨u.heap.size + 1, 3, none⟩ = some (.int .i64 c.ch) := cell_of Y3.out 3
  have y4 : (w3.alloc (.cells #[.bool rd, .bool ok, .bool wk, .int .i64 v, .int .i64 mg, .int .i64 mc, .int .i64 mv] 51)).cell? ⟨u.heap.size + 1, 4, none⟩ = some (.int .i64 c.v) := cell_of Y3.out 4
  clear t3 r3 rz3 PT ba
  go_wp2_with fail
  generalize w3.alloc (.cells #[.bool rd, .bool ok, .bool wk, .int .i64 v, .int .i64 mg, .int .i64 mc, .int .i64 mv] 51) = U3 at X3 Y3 A3 T3 R3 x1 y2 y3 y4 ⊢
  generalize w3.heap.size = A at A3 NA ⊢
  refine (RT.out _ _ T3.out.r).mono ?_
  rintro r w4 ⟨rfl, rz4⟩
  obtain ⟨G4, t4, r4⟩ := T3.out.stepR rz4
  have bb := below_alloc w4 (.cells #[.bool rd, .bool ok, .bool wk, .int .i64 v, .int .i64 mg, .int .i64 mc, .int .i64 mv] 64)
  have A4 := hide (heap_below (r4.heap A3.out NA.out.1 NA.out.2) bb)
  have Q4 := hide (heap_new w4 (.cells #[.bool rd, .bool ok, .bool wk, .int .i64 v, .int .i64 mg, .int .i64 mc, .int .i64 mv] 64))
  have FIN : Hid (AcP w u (w4.alloc (.cells #[.bool rd, .bool ok, .bool wk, .int .i64 v, .int .i64 mg, .int .i64 mc, .int .i64 mv] 64)) oa bs Fs ob gs Gs (tryS s c)) := ⟨F3, G4, t4.below bb, (R3.out.trans r4).trans (Rest.below bb)⟩
  clear rz4 t4 r4 x1 y2 y3 y4 bb
  go_wp2_with fail
  generalize w4.alloc (.cells #[.bool rd, .bool ok, .bool wk, .int .i64 v, .int .i64 mg, .int .i64 mc, .int .i64 mv] 64) = W3 at A4 Q4 FIN ⊢
  generalize w4.heap.size = Q at Q4 ⊢
  have a0 : W3.cell? ⟨A, 0, none⟩ = some (.bool rd) := cell_of A4.out 0
  have c0 : W3.cell? ⟨Q, 0, none⟩ = some (.bool rd) := cell_of Q4.out 0
  have a1 : W3.cell? ⟨A, 1, none⟩ = some (.bool ok) := cell_of A4.out 1
  have c1 : W3.cell? ⟨Q, 1, none⟩ = some (.bool ok) := cell_of Q4.out 1
  have a2 : W3.cell? ⟨A, 2, none⟩ = some (.bool wk) := cell_of A4.out 2
  have c2 : W3.cell? ⟨Q, 2, none⟩ = some (.bool wk) := cell_of Q4.out 2
  have a3 : W3.cell? ⟨A, 3, none⟩ = some (.int .i64 v) := cell_of A4.out 3
  have c3 : W3.cell? ⟨Q, 3, none⟩ = some (.int .i64 v) := cell_of Q4.out 3
  have a4 : W3.cell? ⟨A, 4, none⟩ = some (.int .i64 mg) := cell_of A4.out 4
  have c4 : W3.cell? ⟨Q, 4, none⟩ = some (.int .i64 mg) := cell_of Q4.out 4
  have a5 : W3.cell? ⟨A, 5, none⟩ = some (.int .i64 mc) := cell_of A4.out 5
  have c5 : W3.cell? ⟨Q, 5, none⟩ = some (.int .i64 mc) := cell_of Q4.out 5
  have a6 : W3.cell? ⟨A, 6, none⟩ = some (.int .i64 mv) := cell_of A4.out 6
  have c6 : W3.cell? ⟨Q, 6, none⟩ = some (.int .i64 mv) := cell_of Q4.out 6
  (try simp only [List.append_eq, List.cons_append, List.nil_append])
  go_region_held3 (fun w' => w'.cell? ⟨A, 0, none⟩ = some (.bool rd) ∧ w'.cell? ⟨A, 1, none⟩ = some (.bool ok) ∧ w'.cell? ⟨A, 2, none⟩ = some (.bool wk) ∧ w'.cell? ⟨A, 3, none⟩ = some (.int .i64 v) ∧ w'.cell? ⟨A, 4, none⟩ = some (.int .i64 mg) ∧ w'.cell? ⟨A, 5, none⟩ = some (.int .i64 mc) ∧ w'.cell? ⟨A, 6, none⟩ = some (.int .i64 mv) ∧ w'.cell? ⟨Q, 0, none⟩ = some (.bool rd) ∧ w'.cell? ⟨Q, 1, none⟩ = some (.bool ok) ∧ w'.cell? ⟨Q, 2, none⟩ = some (.bool wk) ∧ w'.cell? ⟨Q, 3, none⟩ = some (.int .i64 v) ∧ w'.cell? ⟨Q, 4, none⟩ = some (.int .i64 mg) ∧ w'.cell? ⟨Q, 5, none⟩ = some (.int .i64 mc) ∧ w'.cell? ⟨Q, 6, none⟩ = some (.int .i64 mv))
    (first
      | go_keep
      | (go_split_ands
         refine ⟨?_, ?_, ?_, ?_, ?_, ?_, ?_, ?_, ?_, ?_, ?_, ?_, ?_, ?_⟩ <;> (refine cellB ?_ k4; assumption)))
    ((go_at_call 22; refine (RF.out _).mono ?_; rintro r w5 ⟨rfl, k4⟩))
  have FF : Hid (AcP w u w5 oa bs Fs ob gs Gs (tryS s c)) := by
    obtain ⟨F5, G5, t5, r5⟩ := FIN.out
    exact ⟨F5, G5, t5.below (btr (bdrew1 _) k4), r5.trans (Rest.below (btr (bdrew1 _) k4))⟩
  clear k4
  go_wp2_with fail
  go_ret
  exact ⟨rfl, FF.out⟩
theorem bs_at {s : List (Option Nat)} {c : Int} {B : Nat} (h : nmB s c = some B) : 0 ≤ c ∧ c < (s.length : Int) ∧ s[c.toNat]? = some (some B) := by
  unfold nmB at h
  split at h
  · cases h
  · cases e : s[c.toNat]? with
    | none => rw [e] at h; cases h
    | some o => rw [e] at h; exact ⟨by omega, by omega, congrArg some h⟩
end Fk
end Go.Proofs.Ytdcmlimglajpkaa
