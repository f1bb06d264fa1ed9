/- The laws' own acts(), act by act: one parks, one closes, one looks. -/
import Derived.Test.YtdcmlimglajpkaaJo
namespace Go.Proofs.Ytdcmlimglajpkaa
open Go.ChangeShapes Go.WideShapes Go.ChangeAt Go.RowKit
namespace Fk
open Ba Pe _root_.Go.Proofs.Ytdcmlimglajpkaa.Pi Rp

/-- what an act leaves -/
def actS (what g : Int) (c : Ca) (l : List Ca) (s : List (Option St)) : List (Option St) :=
  if what = 0 then tryS s c
  else if what = 1 then (match nmB s c.ch with | none => s | some st => s.set c.ch.toNat (some (waitS st c.sd ⟨g, -1, c.v⟩)))
  else if what = 2 then pkA g l s
  else if what = 3 then leaveS g s
  else if what = 4 then (match nmB s c.ch with | none => s | some st => s.set c.ch.toNat (some (closeS st)))
  else s
def AcP (w u w' : World) (oa : Option Addr) (bs : List (Option Nat)) (Fs : Nat → Nat → Prop) (ob : Option Addr) (gs : List (Option Nat)) (Gs : Nat → Nat → Prop) (s' : List (Option St)) : Prop := ∃ Fs' Gs', Tw w w' oa bs Fs' ob gs Gs' s' s' ∧ Rest u w' Fs Gs Fs' Gs'
def Out (Fs Gs : Nat → Nat → Prop) (la : Option Addr) (l : List Ca) : Prop := 0 < l.length → ∀ a, la = some a → ¬ All Fs a.block ∧ ¬ All Gs a.block
theorem CaAt.rest {u v : World} {Fs Gs Fs' Gs' : Nat → Nat → Prop} {la : Option Addr} {l : List Ca} (h : CaAt u la l) (r : Rest u v Fs Gs Fs' Gs') (hn : Out Fs Gs la l) : CaAt v la l := by
  intro k x hk
  have hl : 0 < l.length := Nat.lt_of_le_of_lt (Nat.zero_le _) (List.getElem?_eq_some_iff.1 hk).1
  obtain ⟨b, off, e, h0, h1, h2⟩ := h k x hk
  have q := (r.2 b (World.block_lt_of_cell? u _ h0) (hn hl _ e).1 (hn hl _ e).2).1
  refine ⟨b, off, e, ?_, ?_, ?_⟩
  · rw [← h0]; simp only [World.cell?, q]
  · rw [← h1]; simp only [World.cell?, q]
  · rw [← h2]; simp only [World.cell?, q]
theorem Out.rest {u v : World} {Fs Gs Fs' Gs' : Nat → Nat → Prop} {la : Option Addr} {l : List Ca} (h : CaAt u la l) (r : Rest u v Fs Gs Fs' Gs') (hn : Out Fs Gs la l) : Out Fs' Gs' la l := fun hl a e => (r.2 a.block (h.lt hl a e) (hn hl a e).1 (hn hl a e).2).2
theorem new_not {w u : World} {oa : Option Addr} {bs : List (Option Nat)} {Fs : Nat → Nat → Prop} {ob : Option Addr} {gs : List (Option Nat)} {Gs : Nat → Nat → Prop} {sp sr : List (Option St)} (h : Tw w u oa bs Fs ob gs Gs sp sr) {x : Nat} (hx : u.heap.size ≤ x) : ¬ All Fs x ∧ ¬ All Gs x :=
  ⟨fun e => by have := all_bd h.p e; omega, fun e => by have := all_bd h.r e; omega⟩
set_option maxRecDepth 100000 in
set_option maxHeartbeats 6400000 in
theorem acts2 (w u : World) (what g : Int) (c : Ca) (l : List Ca) (la : Option Addr) (lc : Nat) (oa : Option Addr) (bs : List (Option Nat)) (cp : Nat) (Fs : Nat → Nat → Prop) (ob : Option Addr) (gs : List (Option Nat)) (cq : Nat) (Gs : Nat → Nat → Prop) (s : List (Option St)) (h : Tw w u oa bs Fs ob gs Gs s s) (hC : CaAt u la l) (hO : Out Fs Gs la l) (hle : ∀ (i : Nat) (st : St), s[i]? = some (some st) → ∀ b, (own st b).length ≤ 1000) (hw : what = 2) :
    Calls Try.prog 9 #[(.agg #[.slice oa bs.length cp, .slice ob gs.length cq]), (.agg #[.int .i64 what, .int .i64 g, .bool c.sd, .int .i64 c.ch, .int .i64 c.v, .slice la l.length lc])] u fun r w' => r = .returned (.bool true) ∧ AcP w u w' oa bs Fs ob gs Gs (pkA g l s) := by
  subst hw
  have b1 := below_alloc u (.cells #[.slice oa bs.length cp, .slice ob gs.length cq] 29)
  have b2 := below_alloc (u.alloc (.cells #[.slice oa bs.length cp, .slice ob gs.length cq] 29)) (.cells #[.int .i64 2, .int .i64 g, .bool c.sd, .int .i64 c.ch, .int .i64 c.v, .slice la l.length lc] 35)
  have BB := hide (btr b1 b2)
  have X2 := hide (heap_below (heap_new u (.cells #[.slice oa bs.length cp, .slice ob gs.length cq] 29)) b2)
  have hy := heap_new (u.alloc (.cells #[.slice oa bs.length cp, .slice ob gs.length cq] 29)) (.cells #[.int .i64 2, .int .i64 g, .bool c.sd, .int .i64 c.ch, .int .i64 c.v, .slice la l.length lc] 35)
  rw [World.size_alloc] at hy
  have Y2 := hide hy
  have T2 := hide (h.below BB.out)
  have C2 := hide (hC.below BB.out)
  have NX := hide (new_not h (Nat.le_refl _))
  have NY := hide (new_not h (Nat.le_succ _))
  have HO := hide hO
  have HLE := hide hle
  have PK := hide (park_any g la l lc oa bs cp Fs s _ C2.out (fun hl a e => (hO hl a e).1) T2.out.p hle)
  clear b1 b2 hy hC hO hle h
  go_enter Try.func9, Try.ntmps9
  go_wp2_with fail
  generalize (u.alloc (.cells #[.slice oa bs.length cp, .slice ob gs.length cq] 29)).alloc (.cells #[.int .i64 2, .int .i64 g, .bool c.sd, .int .i64 c.ch, .int .i64 c.v, .slice la l.length lc] 35) = U2 at BB X2 Y2 T2 C2 PK ⊢
  refine PK.out.mono ?_
  rintro r w3 ⟨rfl, rz3⟩
  obtain ⟨F3, t3, r3⟩ := T2.out.stepP rz3
  have X3 := hide (r3.heap X2.out NX.out.1 NX.out.2)
  have Y3 := hide (r3.heap Y2.out NY.out.1 NY.out.2)
  have PR3 := hide (rpark_any g la l lc ob gs cq Gs s _ (C2.out.rest r3 HO.out) (fun hl a e => (HO.out hl a e).2) t3.r HLE.out)
  have T3 := hide t3
  have R3 := hide ((Rest.below (Fs := Fs) (Gs := Gs) BB.out).trans r3)
  have x0 : w3.cell? ⟨u.heap.size, 0, none⟩ = some (.slice oa bs.length cp) := cell_of X3.out 0
  have x1 : w3.cell? ⟨u.heap.size, 1, none⟩ = some (.slice ob gs.length cq) := cell_of X3.out 1
  have y1 : w3.cell? ⟨u.heap.size + 1, 1, none⟩ = some (.int .i64 g) := cell_of Y3.out 1
  have y5 : w3.cell? ⟨u.heap.size + 1, 5, none⟩ = some (.slice la l.length lc) := cell_of Y3.out 5
  clear t3 r3 rz3 PK
  generalize pkN g l s = n3 at PR3
  generalize pkE g l s = e3 at PR3
  go_wp2_with fail
  refine PR3.out.mono ?_
  rintro r w4 ⟨rfl, rz4⟩
  obtain ⟨G4, t4, r4⟩ := T3.out.stepR rz4
  have FIN : Hid (AcP w u w4 oa bs Fs ob gs Gs (pkA g l s)) := ⟨F3, G4, t4, R3.out.trans r4⟩
  clear rz4 t4 r4 PR3 x0 x1 y1 y5
  go_wp2_with fail
  go_ret
  exact ⟨ret_bool (by simp), FIN.out⟩
set_option maxRecDepth 100000 in
set_option maxHeartbeats 6400000 in
theorem acts5 (w u : World) (what g : Int) (c : Ca) (l : List Ca) (la : Option Addr) (lc : Nat) (oa : Option Addr) (bs : List (Option Nat)) (cp : Nat) (Fs : Nat → Nat → Prop) (ob : Option Addr) (gs : List (Option Nat)) (cq : Nat) (Gs : Nat → Nat → Prop) (s : List (Option St)) (h : Tw w u oa bs Fs ob gs Gs s s) (h0 : what ≠ 0) (h1 : what ≠ 1) (h2 : what ≠ 2) (h3 : what ≠ 3) (h4 : what ≠ 4) :
    Calls Try.prog 9 #[(.agg #[.slice oa bs.length cp, .slice ob gs.length cq]), (.agg #[.int .i64 what, .int .i64 g, .bool c.sd, .int .i64 c.ch, .int .i64 c.v, .slice la l.length lc])] u fun r w' => r = .returned (.bool true) ∧ AcP w u w' oa bs Fs ob gs Gs s := by
  have b1 := below_alloc u (.cells #[.slice oa bs.length cp, .slice ob gs.length cq] 29)
  have b2 := below_alloc (u.alloc (.cells #[.slice oa bs.length cp, .slice ob gs.length cq] 29)) (.cells #[.int .i64 what, .int .i64 g, .bool c.sd, .int .i64 c.ch, .int .i64 c.v, .slice la l.length lc] 35)
  have BB := btr b1 b2
  have FIN : Hid (AcP w u ((u.alloc (.cells #[.slice oa bs.length cp, .slice ob gs.length cq] 29)).alloc (.cells #[.int .i64 what, .int .i64 g, .bool c.sd, .int .i64 c.ch, .int .i64 c.v, .slice la l.length lc] 35)) oa bs Fs ob gs Gs s) := ⟨Fs, Gs, h.below BB, Rest.below BB⟩
  have d0 : decide (what = 0) = false := decide_eq_false h0
  have d1 : decide (what = 1) = false := decide_eq_false h1
  have d2 : decide (what = 2) = false := decide_eq_false h2
  have d3 : decide (what = 3) = false := decide_eq_false h3
  have d4 : decide (what = 4) = false := decide_eq_false h4
  clear b1 b2 BB h
  go_enter Try.func9, Try.ntmps9
  go_wp2_with fail
  go_ret
  exact ⟨rfl, FIN.out⟩
end Fk
end Go.Proofs.Ytdcmlimglajpkaa
