/- The laws' own acts(): one leaves. -/
import Derived.Test.YtdcmlimglajpkaaJq
namespace Go.Proofs.Ytdcmlimglajpkaa
open Go.ChangeShapes Go.WideShapes Go.ChangeAt Go.RowKit
namespace Fk
open Ba Pe _root_.Go.Proofs.Ytdcmlimglajpkaa.Pi Rp

/-- the channels of both, and two blocks of the law's -/
structure Hd (w u : World) (X Y : Nat) (ox oy : Obj) (oa : Option Addr) (bs : List (Option Nat)) (ob : Option Addr) (gs : List (Option Nat)) (Fs Gs : Nat → Nat → Prop) (z : World) (F G : Nat → Nat → Prop) (sp sr : List (Option St)) : Prop where
  t : Tw w z oa bs F ob gs G sp sr
  x : z.heap[X]? = some ox
  y : z.heap[Y]? = some oy
  nx : ¬ All F X ∧ ¬ All G X
  ny : ¬ All F Y ∧ ¬ All G Y
  r : Rest u z Fs Gs F G
theorem Hd.below {w u : World} {X Y : Nat} {ox oy : Obj} {oa : Option Addr} {bs : List (Option Nat)} {ob : Option Addr} {gs : List (Option Nat)} {Fs Gs : Nat → Nat → Prop} {z v : World} {F G : Nat → Nat → Prop} {sp sr : List (Option St)} (h : Hd w u X Y ox oy oa bs ob gs Fs Gs z F G sp sr) (hb : Below z.heap.size z v) : Hd w u X Y ox oy oa bs ob gs Fs Gs v F G sp sr :=
  ⟨h.t.below hb, heap_below h.x hb, heap_below h.y hb, h.nx, h.ny, h.r.trans (Rest.below hb)⟩
theorem Hd.stepP {w u : World} {X Y : Nat} {ox oy : Obj} {oa : Option Addr} {bs : List (Option Nat)} {ob : Option Addr} {gs : List (Option Nat)} {Fs Gs : Nat → Nat → Prop} {z v : World} {F G : Nat → Nat → Prop} {sp sr sp' : List (Option St)} (h : Hd w u X Y ox oy oa bs ob gs Fs Gs z F G sp sr) (rz : Rz Pp z v oa bs F sp') : ∃ F', Hd w u X Y ox oy oa bs ob gs Fs Gs v F' G sp' sr := by
  obtain ⟨F', t, r⟩ := h.t.stepP rz
  exact ⟨F', t, r.heap h.x h.nx.1 h.nx.2, r.heap h.y h.ny.1 h.ny.2, (r.2 X (heap_lt h.x) h.nx.1 h.nx.2).2, (r.2 Y (heap_lt h.y) h.ny.1 h.ny.2).2, h.r.trans r⟩
theorem Hd.stepR {w u : World} {X Y : Nat} {ox oy : Obj} {oa : Option Addr} {bs : List (Option Nat)} {ob : Option Addr} {gs : List (Option Nat)} {Fs Gs : Nat → Nat → Prop} {z v : World} {F G : Nat → Nat → Prop} {sp sr sr' : List (Option St)} (h : Hd w u X Y ox oy oa bs ob gs Fs Gs z F G sp sr) (rz : Rz Rr z v ob gs G sr') : ∃ G', Hd w u X Y ox oy oa bs ob gs Fs Gs v F G' sp sr' := by
  obtain ⟨G', t, r⟩ := h.t.stepR rz
  exact ⟨G', t, r.heap h.x h.nx.1 h.nx.2, r.heap h.y h.ny.1 h.ny.2, (r.2 X (heap_lt h.x) h.nx.1 h.nx.2).2, (r.2 Y (heap_lt h.y) h.ny.1 h.ny.2).2, h.r.trans r⟩
theorem Hd.start {w u : World} {oa : Option Addr} {bs : List (Option Nat)} {Fs : Nat → Nat → Prop} {ob : Option Addr} {gs : List (Option Nat)} {Gs : Nat → Nat → Prop} {s : List (Option St)} (h : Tw w u oa bs Fs ob gs Gs s s) (ox oy : Obj) : Hd w u u.heap.size (u.heap.size + 1) ox oy oa bs ob gs Fs Gs ((u.alloc ox).alloc oy) Fs Gs s s := by
  have BB := btr (below_alloc u ox) (below_alloc (u.alloc ox) oy)
  exact ⟨h.below BB, heap_below (heap_new u ox) (below_alloc _ _), heap_new2 _ _ _, new_not h (Nat.le_refl _), new_not h (Nat.le_succ _), Rest.below BB⟩
set_option maxRecDepth 100000 in
set_option maxHeartbeats 6400000 in
theorem acts3 (w u : World) (what g : Int) (c : Ca) (l : List Ca) (la : Option Addr) (lc : Nat) (oa : Option Addr) (bs : List (Option Nat)) (cp : Nat) (Fs : Nat → Nat → Prop) (ob : Option Addr) (gs : List (Option Nat)) (cq : Nat) (Gs : Nat → Nat → Prop) (s : List (Option St)) (h : Tw w u oa bs Fs ob gs Gs s s) (hb : bs.length ≤ 1000) (hw : what = 3) :
    Calls Try.prog 9 #[(.agg #[.slice oa bs.length cp, .slice ob gs.length cq]), (.agg #[.int .i64 what, .int .i64 g, .bool c.sd, .int .i64 c.ch, .int .i64 c.v, .slice la l.length lc])] u fun r w' => r = .returned (.bool true) ∧ AcP w u w' oa bs Fs ob gs Gs (leaveS g s) := by
  subst hw
  have hgb : gs.length ≤ 1000 := by
    rw [h.r.len, ← h.p.len]
    exact hb
  have H2 := hide (Hd.start h (.cells #[.slice oa bs.length cp, .slice ob gs.length cq] 29) (.cells #[.int .i64 3, .int .i64 g, .bool c.sd, .int .i64 c.ch, .int .i64 c.v, .slice la l.length lc] 35))
  have LP : Hid (∀ z G1 sr1, Hd w u u.heap.size (u.heap.size + 1) (.cells #[.slice oa bs.length cp, .slice ob gs.length cq] 29) (.cells #[.int .i64 3, .int .i64 g, .bool c.sd, .int .i64 c.ch, .int .i64 c.v, .slice la l.length lc] 35) oa bs ob gs Fs Gs z Fs G1 s sr1 → Calls Try.prog 14 #[.int .i64 g, .slice oa bs.length cp] z fun r w' => r = .returned (.int .i64 (leaveN g s)) ∧ ∃ F1, Hd w u u.heap.size (u.heap.size + 1) (.cells #[.slice oa bs.length cp, .slice ob gs.length cq] 29) (.cells #[.int .i64 3, .int .i64 g, .bool c.sd, .int .i64 c.ch, .int .i64 c.v, .slice la l.length lc] 35) oa bs ob gs Fs Gs w' F1 G1 (leaveS g s) sr1) := by
    intro z G1 sr1 hz
    refine (leave_any g oa bs cp Fs s z hz.t.p hb).mono ?_
    rintro r v ⟨e, rz⟩
    exact ⟨e, hz.stepP rz⟩
  have LR : Hid (∀ z F1 sp1, Hd w u u.heap.size (u.heap.size + 1) (.cells #[.slice oa bs.length cp, .slice ob gs.length cq] 29) (.cells #[.int .i64 3, .int .i64 g, .bool c.sd, .int .i64 c.ch, .int .i64 c.v, .slice la l.length lc] 35) oa bs ob gs Fs Gs z F1 Gs sp1 s → Calls Try.prog 15 #[.int .i64 g, .slice ob gs.length cq] z fun r w' => r = .returned (.int .i64 (leaveN g s)) ∧ ∃ G1, Hd w u u.heap.size (u.heap.size + 1) (.cells #[.slice oa bs.length cp, .slice ob gs.length cq] 29) (.cells #[.int .i64 3, .int .i64 g, .bool c.sd, .int .i64 c.ch, .int .i64 c.v, .slice la l.length lc] 35) oa bs ob gs Fs Gs w' F1 G1 sp1 (leaveS g s)) := by
    intro z F1 sp1 hz
    refine (rleave_any g ob gs cq Gs s z hz.t.r hgb).mono ?_
    rintro r v ⟨e, rz⟩
    exact ⟨e, hz.stepR rz⟩
  generalize leaveN g s = nn at LP LR
  clear h
  go_enter Try.func9, Try.ntmps9
  go_wp2_with fail
  generalize (u.alloc (.cells #[.slice oa bs.length cp, .slice ob gs.length cq] 29)).alloc (.cells #[.int .i64 3, .int .i64 g, .bool c.sd, .int .i64 c.ch, .int .i64 c.v, .slice la l.length lc] 35) = U2 at H2 ⊢
  generalize hX : u.heap.size = X at H2 LP LR ⊢
  have x0 : U2.cell? ⟨X, 0, none⟩ = some (.slice oa bs.length cp) := cell_of H2.out.x 0
  have x1 : U2.cell? ⟨X, 1, none⟩ = some (.slice ob gs.length cq) := cell_of H2.out.x 1
  have y1 : U2.cell? ⟨X + 1, 1, none⟩ = some (.int .i64 g) := cell_of H2.out.y 1
  have H3 := hide (H2.out.below (bdrew1 _))
  clear H2 hX
  go_region_held3 (fun w' => w'.cell? ⟨X, 0, none⟩ = some (.slice oa bs.length cp) ∧ w'.cell? ⟨X, 1, none⟩ = some (.slice ob gs.length cq) ∧ w'.cell? ⟨X + 1, 1, none⟩ = some (.int .i64 g))
    (first
      | go_keep
      | exact ⟨cell_of tP.x 0, cell_of tP.x 1, cell_of tP.y 1⟩
      | exact ⟨cell_of tR.x 0, cell_of tR.x 1, cell_of tR.y 1⟩)
    (first
      | (go_at_call 14; (first | refine (LP.out _ _ _ H3.out).mono ?_ | refine (LP.out _ _ _ tR).mono ?_); rintro r z1 ⟨rfl, F1, tP⟩)
      | (go_at_call 15; (first | refine (LR.out _ _ _ H3.out).mono ?_ | refine (LR.out _ _ _ tP).mono ?_); rintro r z2 ⟨rfl, G1, tR⟩))
  have FIN : Hid (AcP w u z2 oa bs Fs ob gs Gs (leaveS g s)) := ⟨_, _, tR.t, tR.r⟩
  clear tP tR LP LR H3 x0 x1 y1
  go_wp2_with fail
  go_ret
  exact ⟨ret_bool (by simp), FIN.out⟩
end Fk
end Go.Proofs.Ytdcmlimglajpkaa
