/- ForkBack's walk. -/
import Derived.Test.YtipimagajnocjaaZjFork8
import Derived.Deep.RegionHeld3
namespace Go.Proofs.Ytipimagajnocjaa
open Go.ChangeShapes Go.WideShapes Go.ChangeAt Go.RowKit
namespace Fk
open Ba Pe _root_.Go.Proofs.Ytipimagajnocjaa.Pi Rp

/-- the channels of both sides, and a block of the law's -/
structure Lx (w u : World) (D : Nat) (od : Obj) (oa : Option Addr) (bs : List (Option Nat)) (ob : Option Addr) (gs : List (Option Nat)) (Fs Gs : Nat → Nat → Prop) (sp sr : List (Option St)) : Prop where
  t : Tw w u oa bs Fs ob gs Gs sp sr
  d : u.heap[D]? = some od
  nd : ¬ All Fs D ∧ ¬ All Gs D
/-- a block that is none of the channels' -/
structure Hl (u : World) (Fs Gs : Nat → Nat → Prop) (X : Nat) (ox : Obj) : Prop where
  h : u.heap[X]? = some ox
  n : ¬ All Fs X ∧ ¬ All Gs X
section
variable {w u v : World} {D X : Nat} {od ox : Obj} {oa : Option Addr} {bs : List (Option Nat)} {ob : Option Addr} {gs : List (Option Nat)} {Fs Gs Fs' Gs' : Nat → Nat → Prop} {sp sr sp' sr' : List (Option St)}
theorem Hl.below (h : Hl u Fs Gs X ox) (hb : Below u.heap.size u v) : Hl v Fs Gs X ox := ⟨heap_below h.h hb, h.n⟩
theorem Hl.rest (h : Hl u Fs Gs X ox) (r : Rest u v Fs Gs Fs' Gs') : Hl v Fs' Gs' X ox := ⟨r.heap h.h h.n.1 h.n.2, (r.2 X (heap_lt h.h) h.n.1 h.n.2).2⟩
theorem Lx.below (h : Lx w u D od oa bs ob gs Fs Gs sp sr) (hb : Below u.heap.size u v) : Lx w v D od oa bs ob gs Fs Gs sp sr := ⟨h.t.below hb, heap_below h.d hb, h.nd⟩
theorem Lx.p (h : Lx w u D od oa bs ob gs Fs Gs sp sr) (rz : Rz Pp u v oa bs Fs sp') : ∃ F', Lx w v D od oa bs ob gs F' Gs sp' sr ∧ Rest u v Fs Gs F' Gs := by
  obtain ⟨F', t, r⟩ := h.t.stepP rz
  exact ⟨F', ⟨t, r.heap h.d h.nd.1 h.nd.2, (r.2 D (heap_lt h.d) h.nd.1 h.nd.2).2⟩, r⟩
theorem Lx.r (h : Lx w u D od oa bs ob gs Fs Gs sp sr) (rz : Rz Rr u v ob gs Gs sr') : ∃ G', Lx w v D od oa bs ob gs Fs G' sp sr' ∧ Rest u v Fs Gs Fs G' := by
  obtain ⟨G', t, r⟩ := h.t.stepR rz
  exact ⟨G', ⟨t, r.heap h.d h.nd.1 h.nd.2, (r.2 D (heap_lt h.d) h.nd.1 h.nd.2).2⟩, r⟩
theorem Lx.fresh (h : Lx w u D od oa bs ob gs Fs Gs sp sr) (ox : Obj) : Hl (u.alloc ox) Fs Gs u.heap.size ox := ⟨heap_new _ _, new_not h.t (Nat.le_refl _)⟩
/-- a row of numbers that is none of the channels' -/
structure Rw (u : World) (Fs Gs : Nat → Nat → Prop) (v : Value) (l : List Int) : Prop where
  o : u.ownsRow 0 3 1 v l.length (ic l)
  n : ∀ g, v.ownBlock = some g → ¬ All Fs g ∧ ¬ All Gs g
theorem Rw.below {x : Value} {l : List Int} (h : Rw u Fs Gs x l) (hb : Below u.heap.size u v) : Rw v Fs Gs x l := ⟨own_below h.o hb, h.n⟩
theorem Rw.rest {x : Value} {l : List Int} (h : Rw u Fs Gs x l) (r : Rest u v Fs Gs Fs' Gs') : Rw v Fs' Gs' x l := by
  have key : ∀ g, x.ownBlock = some g → g < u.heap.size := fun g e => by
    obtain ⟨_, cur, q⟩ := own_blk h.o g e
    exact heap_lt q
  exact ⟨own_keep h.o fun g e => (r.2 g (key g e) (h.n g e).1 (h.n g e).2).1, fun g e => (r.2 g (key g e) (h.n g e).1 (h.n g e).2).2⟩
theorem Rw.new {x : Value} {l : List Int} (h : Lx w u D od oa bs ob gs Fs Gs sp sr) (ho : v.ownsRow u.heap.size 3 1 x l.length (ic l)) : Rw v Fs Gs x l :=
  ⟨own_base ho (Nat.zero_le _), fun g e => new_not h.t (own_blk ho g e).1⟩
end
theorem cn_own {m : Nat} {s : List (Option St)} (h : Cn m s) (hm : m ≤ 250) : ∀ (i : Nat) (st : St), s[i]? = some (some st) → ∀ b, (own st b).length ≤ 1000 := by
  intro i st hi b
  have := h i st hi
  cases b
  · show st.rcv.length ≤ 1000
    omega
  · show st.snd.length ≤ 1000
    omega
theorem pk_cases (g : Int) (l : List Ca) (s : List (Option St)) : (pkE g l s ≠ 0 ∧ pkN g l s = 0) ∨ (pkE g l s = 0 ∧ (rdyL l s).length = 0) := by
  unfold pkE pkN
  cases pkBad g l
  · simp only [Bool.false_eq_true, if_false]
    by_cases hr : 0 < (rdyL l s).length
    · rw [if_pos hr, if_pos hr]
      exact .inl ⟨by decide, rfl⟩
    · rw [if_neg hr]
      exact .inr ⟨rfl, by omega⟩
  · exact .inl ⟨by simp, by simp⟩
theorem pkN_b (g : Int) (l : List Ca) (s : List (Option St)) : 0 ≤ pkN g l s := by
  unfold pkN
  split
  · exact Int.le_refl _
  split
  · exact Int.le_refl _
  · exact Int.natCast_nonneg _
set_option maxRecDepth 100000 in
set_option maxHeartbeats 12800000 in
theorem forkBack_core (w : World) (oz : Option Addr) (sizes : List Int) (cz : Nat) (ol : Option Addr) (L : List Ac) (cl : Nat) (g : Int) (hA : At w oz sizes) (hL : AAt w ol L) (hs : sizes.length ≤ maxLen) (hl : L.length ≤ maxLen) :
    Calls Try.prog 4 #[.slice oz sizes.length cz, .slice ol L.length cl, .int .i64 g] w fun r w' => r = .returned (.bool true) ∧ Below w.heap.size w w' := by
  have A1 := hide hA
  have L1 := hide hL
  have HLl := hide hl
  unfold maxLen at hs hl
  clear hA hL
  by_cases h20 : 20 < sizes.length
  · have h20' : (20 : Int) < (sizes.length : Int) := by omega
    go_enter Try.func4, Try.ntmps4
    go_wp2_with fail
    refine (one_any _).mono ?_
    rintro r w5 ⟨rfl, b5⟩
    have B5 := hide b5
    clear b5
    go_wp2_with fail
    go_ret
    exact ⟨rfl, B5.out⟩
  have h20' : ¬ (20 : Int) < (sizes.length : Int) := by omega
  have LG := hide (large_any ol L cl _ L1.out HLl.out)
  go_enter Try.func4, Try.ntmps4
  go_wp2_with fail
  refine LG.out.mono ?_
  rintro r w2 ⟨bb, rfl, hf, b2⟩
  cases bb
  · have FEW := hide (hf rfl)
    have B2 := hide b2
    have L2 := hide (L1.out.below b2)
    have PP := hide (pipes_any w2 oz sizes cz (A1.out.below b2) (by omega))
    clear hf b2 LG A1 L1
    go_wp2_with fail
    refine PP.out.mono ?_
    rintro r w3 ⟨oa, cp, bs, Fs, ob, cq, gs, Gs, rfl, hb, hg, t3⟩
    have hb20 : bs.length ≤ 1000 := by omega
    have W4 : Hid (Lw w2 (w3.alloc (.cells #[.slice oa bs.length cp, .slice ob gs.length cq] 29)) w3.heap.size (.cells #[.slice oa bs.length cp, .slice ob gs.length cq] 29) oa bs ob gs 0 Fs Gs (sizes.map capS)) := ⟨t3.below (below_alloc _ _), heap_new _ _, new_not t3 (Nat.le_refl _), cap_cn sizes⟩
    clear t3 PP hb hg
    go_wp2_with fail
    generalize w3.alloc (.cells #[.slice oa bs.length cp, .slice ob gs.length cq] 29) = U4 at W4 ⊢
    generalize w3.heap.size = D at W4 ⊢
    go_loopw [27] (fun i wr => ∃ (k : Nat) (Fs Gs : Nat → Nat → Prop) (s : List (Option St)), k ≤ L.length ∧ i = .int .i64 k ∧ Lw w2 wr D (.cells #[.slice oa bs.length cp, .slice ob gs.length cq] 29) oa bs ob gs k Fs Gs s) (fun i _ => L.length - (intOf i).toNat)
    case atStart => exact ⟨0, Fs, Gs, _, Nat.zero_le _, rfl, W4.out⟩
    case round =>
      clear W4
      obtain ⟨k, F5, G5, s, hk, rfl, lw⟩ := hrel
      have LW := hide lw
      clear lw
      have hk150 : k ≤ 150 := Nat.le_trans hk FEW.out.1
      by_cases hlt : k < L.length
      · have hlt' : (k : Int) < (L.length : Int) := by omega
        obtain ⟨x, hx⟩ : ∃ x, L[k]? = some x := ⟨_, List.getElem?_eq_getElem hlt⟩
        have hxl : x.l.length ≤ 50 := FEW.out.2 x (List.mem_of_getElem? hx)
        obtain ⟨b, off, la, lc, rfl, h0, h1, h2, h3, h4, h5, hC, -⟩ := L2.out k x hx
        have up : ∀ {i : Nat} {v : Value}, w2.cell? ⟨b, i, none⟩ = some v → wr.cell? ⟨b, i, none⟩ = some v := fun q => (LW.out.t.b.cell (World.block_lt_of_cell? w2 _ q)).trans q
        have q0 := up h0
        have q1 := up h1
        have q2 := up h2
        have q3 := up h3
        have q4 := up h4
        have q5 := up h5
        have HC := hide hC
        clear hx h0 h1 h2 h3 h4 h5 hC up
        have LX := hide (LW.out.below (below_alloc wr (.cells #[.int .i64 x.what, .int .i64 x.g, .bool x.c.sd, .int .i64 x.c.ch, .int .i64 x.c.v, .slice la x.l.length lc] 35)))
        have AC := hide (acts_any w2 _ x.what x.g x.c x.l la lc oa bs cp F5 ob gs cq G5 s k LX.out.t (HC.out.below LX.out.t.b) (LX.out.out HC.out) LX.out.c (by omega) hb20)
        have d0 : (wr.alloc (.cells #[.int .i64 x.what, .int .i64 x.g, .bool x.c.sd, .int .i64 x.c.ch, .int .i64 x.c.v, .slice la x.l.length lc] 35)).cell? ⟨D, 0, none⟩ = some (.slice oa bs.length cp) := cell_of LX.out.d 0
        have d1 : (wr.alloc (.cells #[.int .i64 x.what, .int .i64 x.g, .bool x.c.sd, .int .i64 x.c.ch, .int .i64 x.c.v, .slice la x.l.length lc] 35)).cell? ⟨D, 1, none⟩ = some (.slice ob gs.length cq) := cell_of LX.out.d 1
        have dd0 : wr.cell? ⟨D, 0, none⟩ = some (.slice oa bs.length cp) := cell_of LW.out.d 0
        have dd1 : wr.cell? ⟨D, 1, none⟩ = some (.slice ob gs.length cq) := cell_of LW.out.d 1
        clear LW
        go_wp2_with fail
        refine AC.out.mono ?_
        rintro r w6 ⟨rfl, p6⟩
        obtain ⟨F6, G6, lw6⟩ := LX.out.act p6
        have L6 := hide lw6
        clear lw6 p6 AC d0 d1 dd0 dd1 q0 q1 q2 q3 q4 q5
        go_wp2_with fail
        go_roundw
        case rel => exact ⟨k + 1, F6, G6, _, by omega, by go_num, L6.out⟩
        case measure => simp [intOf]; omega
      · have hlt' : ¬ ((k : Int) < (L.length : Int)) := by omega
        have hgb : gs.length ≤ 1000 := by
          rw [LW.out.t.r.len, ← LW.out.t.p.len]
          exact hb20
        have X1 : Hid (Lx w2 wr D (.cells #[.slice oa bs.length cp, .slice ob gs.length cq] 29) oa bs ob gs F5 G5 s s) := ⟨LW.out.t, LW.out.d, LW.out.nd⟩
        have C2 : Hid (Cn (k + 1) (leaveS g s)) := act_cn LW.out.c 3 g ⟨false, 0, 0⟩ []
        have NG := hide (leave_leave g s)
        have LP := hide (leave_any g oa bs cp F5 s wr LW.out.t.p hb20)
        have LR := hide (fun v G (h : Qs Rr v ob gs G s) => rleave_any g ob gs cq G s v h hgb)
        have d0 : wr.cell? ⟨D, 0, none⟩ = some (.slice oa bs.length cp) := cell_of LW.out.d 0
        generalize leaveS g s = s1 at C2 NG LP LR
        generalize leaveN g s = n1 at LP LR
        clear LW
        rename World => wz
        go_wp2_with fail
        refine LP.out.mono ?_
        rintro r w6 ⟨rfl, rz⟩
        obtain ⟨F6, x6, -⟩ := X1.out.p rz
        have X6 := hide x6
        clear rz x6 X1 LP d0
        have d1 : w6.cell? ⟨D, 1, none⟩ = some (.slice ob gs.length cq) := cell_of X6.out.d 1
        go_wp2_with fail
        refine (LR.out _ _ X6.out.t.r).mono ?_
        rintro r w7 ⟨rfl, rz⟩
        obtain ⟨G7, x7, -⟩ := X6.out.r rz
        have X7 := hide x7
        clear rz x7 X6 LR d1
        have hle : ∀ (i : Nat) (st : St), s1[i]? = some (some st) → ∀ b, (own st b).length ≤ 1000 := cn_own C2.out (by omega)
        have HLE := hide hle
        clear hle C2
        go_wp2_with fail
        go_loopw [45] (fun i wr => ∃ (q : Nat) (Fs Gs : Nat → Nat → Prop), q ≤ L.length ∧ i = .int .i64 q ∧ Lx w2 wr D (.cells #[.slice oa bs.length cp, .slice ob gs.length cq] 29) oa bs ob gs Fs Gs s1 s1) (fun i _ => L.length - (intOf i).toNat)
        case atStart => exact ⟨0, F6, G7, Nat.zero_le _, rfl, X7.out⟩
        case round =>
          clear X7
          obtain ⟨k, F8, G8, hk8, rfl, x8⟩ := hrel
          have LW := hide x8
          clear x8
          by_cases hlt : k < L.length
          · have hlt' : (k : Int) < (L.length : Int) := by omega
            obtain ⟨x, hx⟩ : ∃ x, L[k]? = some x := ⟨_, List.getElem?_eq_getElem hlt⟩
            have hxl : x.l.length ≤ 50 := FEW.out.2 x (List.mem_of_getElem? hx)
            obtain ⟨b, off, la, lc, rfl, h0, h1, h2, h3, h4, h5, hC, -⟩ := L2.out k x hx
            have up : ∀ {i : Nat} {v : Value}, w2.cell? ⟨b, i, none⟩ = some v → wr.cell? ⟨b, i, none⟩ = some v := fun q => (LW.out.t.b.cell (World.block_lt_of_cell? w2 _ q)).trans q
            have q0 := up h0
            have q1 := up h1
            have q2 := up h2
            have q3 := up h3
            have q4 := up h4
            have q5 := up h5
            have HC := hide hC
            clear hx h0 h1 h2 h3 h4 h5 hC up
            have LX := hide (LW.out.below (below_alloc wr (.cells #[.int .i64 x.what, .int .i64 x.g, .bool x.c.sd, .int .i64 x.c.ch, .int .i64 x.c.v, .slice la x.l.length lc] 35)))
            have AX := hide (LW.out.fresh (.cells #[.int .i64 x.what, .int .i64 x.g, .bool x.c.sd, .int .i64 x.c.ch, .int .i64 x.c.v, .slice la x.l.length lc] 35))
            have PC := hide (pk_cases g x.l s1)
            have PB := hide (park_back (l := x.l) NG.out HLE.out)
            have RD := hide (fun v F G (lv : Lx w2 v D (.cells #[.slice oa bs.length cp, .slice ob gs.length cq] 29) oa bs ob gs F G s1 s1) => fready_any la x.l lc oa bs cp F s1 v (HC.out.below lv.t.b) lv.t.p (by omega))
            have PK := hide (fun v F G (lv : Lx w2 v D (.cells #[.slice oa bs.length cp, .slice ob gs.length cq] 29) oa bs ob gs F G s1 s1) => park_any g la x.l lc oa bs cp F s1 v (HC.out.below lv.t.b) (fun h0 a e => fun q => by
              have h1 := HC.out.lt h0 a e
              have h2 := lv.t.lf _ q
              omega) lv.t.p HLE.out)
            have LV := hide (fun v F G (lv : Lx w2 v D (.cells #[.slice oa bs.length cp, .slice ob gs.length cq] 29) oa bs ob gs F G (pkA g x.l s1) s1) => leave_any g oa bs cp F (pkA g x.l s1) v lv.t.p hb20)
            rw [PB.out.1, PB.out.2] at LV
            have AK := hide (fun v F G (lv : Lx w2 v D (.cells #[.slice oa bs.length cp, .slice ob gs.length cq] 29) oa bs ob gs F G s1 s1) => alike_any v oa bs cp F ob gs cq G s1 lv.t.p lv.t.r hb20)
            have hrl := rdyL_len x.l s1
            have hpn := pkN_b g x.l s1
            generalize rdyL x.l s1 = rl at RD PC hrl
            generalize pkA g x.l s1 = s2 at PK LV
            generalize pkE g x.l s1 = ee at PK PC
            generalize pkN g x.l s1 = nn at PK PC LV hpn
            clear PB
            have d0 : (wr.alloc (.cells #[.int .i64 x.what, .int .i64 x.g, .bool x.c.sd, .int .i64 x.c.ch, .int .i64 x.c.v, .slice la x.l.length lc] 35)).cell? ⟨D, 0, none⟩ = some (.slice oa bs.length cp) := cell_of LX.out.d 0
            have dd0 : wr.cell? ⟨D, 0, none⟩ = some (.slice oa bs.length cp) := cell_of LW.out.d 0
            have e5 : (wr.alloc (.cells #[.int .i64 x.what, .int .i64 x.g, .bool x.c.sd, .int .i64 x.c.ch, .int .i64 x.c.v, .slice la x.l.length lc] 35)).cell? ⟨wr.heap.size, 5, none⟩ = some (.slice la x.l.length lc) := cell_of AX.out.h 5
            go_wp2_with fail
            generalize wr.alloc (.cells #[.int .i64 x.what, .int .i64 x.g, .bool x.c.sd, .int .i64 x.c.ch, .int .i64 x.c.v, .slice la x.l.length lc] 35) = W5 at LX AX d0 e5 ⊢
            generalize wr.heap.size = A at AX e5 ⊢
            refine (RD.out _ _ _ LX.out).mono ?_
            rintro r u1 ⟨o3, n3, rfl, a3, c3⟩
            have R1 := hide (Rw.new LX.out a3)
            have X1 := hide (LX.out.below c3)
            have A1 := hide (AX.out.below c3)
            clear a3 c3 LX AX d0 dd0 e5 LW q0 q1 q2 q3 q4 q5
            have d0 : u1.cell? ⟨D, 0, none⟩ = some (.slice oa bs.length cp) := cell_of X1.out.d 0
            have e5 : u1.cell? ⟨A, 5, none⟩ = some (.slice la x.l.length lc) := cell_of A1.out.h 5
            go_wp2_with fail
            refine (PK.out _ _ _ X1.out).mono ?_
            rintro r u2 ⟨rfl, rz⟩
            obtain ⟨F2, x2, r2⟩ := X1.out.p rz
            have X2 := hide x2
            have A2 := hide (A1.out.rest r2)
            have R2 := hide (R1.out.rest r2)
            clear rz x2 r2 X1 A1 R1 d0 e5 PK
            have d0 : u2.cell? ⟨D, 0, none⟩ = some (.slice oa bs.length cp) := cell_of X2.out.d 0
            have LVX := hide (LV.out _ _ _ X2.out)
            clear LV
            rcases PC.out with ⟨z1, z2⟩ | ⟨z1, z2⟩
            · have z1' : (ee != 0) = true := by simpa using z1
              have z1b : (ee == 0) = false := by simpa using z1
              subst z2
              clear z1 PC
              go_wp2_with fail
              refine LVX.out.mono ?_
              rintro r u3 ⟨rfl, rz⟩
              obtain ⟨F3, x3, r3⟩ := X2.out.p rz
              have X3 := hide x3
              have A3 := hide (A2.out.rest r3)
              have R3 := hide (R2.out.rest r3)
              clear rz x3 r3 X2 A2 R2 d0 LVX
              have d0 : u3.cell? ⟨D, 0, none⟩ = some (.slice oa bs.length cp) := cell_of X3.out.d 0
              have d1 : u3.cell? ⟨D, 1, none⟩ = some (.slice ob gs.length cq) := cell_of X3.out.d 1
              go_wp2_with fail
              refine (AK.out _ _ _ X3.out).mono ?_
              rintro r u4 ⟨rfl, c4⟩
              have X4 := hide (X3.out.below c4)
              have A4 := hide (A3.out.below c4)
              have R4 := hide (R3.out.below c4)
              clear c4 X3 A3 R3 d0 d1 AK
              have d0 : u4.cell? ⟨D, 0, none⟩ = some (.slice oa bs.length cp) := cell_of X4.out.d 0
              have e5 : u4.cell? ⟨A, 5, none⟩ = some (.slice la x.l.length lc) := cell_of A4.out.h 5
              go_wp2_with fail
              refine (RD.out _ _ _ X4.out).mono ?_
              rintro r u5 ⟨o5, n5, rfl, a5, c5⟩
              have X5 := hide (X4.out.below c5)
              have IN := hide (ints_is o5 o3 rl rl rl.length rl.length n5 n3 true (by simp) rfl rfl u5 (row_at2 a5) (row_at2 (R4.out.below c5).o) (by omega) (by omega))
              clear c5 a5 X4 A4 R4 d0 e5 RD
              go_wp2_with fail
              refine IN.out.mono ?_
              rintro r u6 ⟨rfl, c6⟩
              have X6 := hide (X5.out.below c6)
              clear c6 IN X5
              go_wp2_with fail
              go_roundw
              case rel => exact ⟨k + 1, _, _, by omega, by go_num, X6.out⟩
              case measure => simp [intOf]; omega
            · subst z1
              have z2' : rl = [] := List.eq_nil_of_length_eq_zero z2
              subst z2'
              clear PC z2
              go_wp2_with fail
              refine LVX.out.mono ?_
              rintro r u3 ⟨rfl, rz⟩
              obtain ⟨F3, x3, r3⟩ := X2.out.p rz
              have X3 := hide x3
              have A3 := hide (A2.out.rest r3)
              have R3 := hide (R2.out.rest r3)
              clear rz x3 r3 X2 A2 R2 d0 LVX
              have d0 : u3.cell? ⟨D, 0, none⟩ = some (.slice oa bs.length cp) := cell_of X3.out.d 0
              have d1 : u3.cell? ⟨D, 1, none⟩ = some (.slice ob gs.length cq) := cell_of X3.out.d 1
              go_wp2_with fail
              refine (AK.out _ _ _ X3.out).mono ?_
              rintro r u4 ⟨rfl, c4⟩
              have X4 := hide (X3.out.below c4)
              have A4 := hide (A3.out.below c4)
              have R4 := hide (R3.out.below c4)
              clear c4 X3 A3 R3 d0 d1 AK
              have d0 : u4.cell? ⟨D, 0, none⟩ = some (.slice oa bs.length cp) := cell_of X4.out.d 0
              have e5 : u4.cell? ⟨A, 5, none⟩ = some (.slice la x.l.length lc) := cell_of A4.out.h 5
              go_wp2_with fail
              refine (RD.out _ _ _ X4.out).mono ?_
              rintro r u5 ⟨o5, n5, rfl, a5, c5⟩
              have X5 := hide (X4.out.below c5)
              have IN := hide (ints_is o5 o3 [] [] 0 0 n5 n3 true (by simp) rfl rfl u5 (row_at2 a5) (row_at2 (R4.out.below c5).o) (by omega) (by omega))
              clear c5 a5 X4 A4 R4 d0 e5 RD
              go_wp2_with fail
              refine IN.out.mono ?_
              rintro r u6 ⟨rfl, c6⟩
              have X6 := hide (X5.out.below c6)
              clear c6 IN X5
              go_wp2_with fail
              go_roundw
              case rel => exact ⟨k + 1, _, _, by omega, by go_num, X6.out⟩
              case measure => simp [intOf]; omega
          · have hlt' : ¬ ((k : Int) < (L.length : Int)) := by omega
            go_wp2_with fail
            refine (one_any _).mono ?_
            rintro r w9 ⟨rfl, b9⟩
            have B9 := hide (btr (btr B2.out LW.out.t.b) b9)
            clear b9
            go_wp2_with fail
            go_ret
            exact ⟨rfl, B9.out⟩
  · clear hf
    have B2 := hide b2
    clear b2
    go_wp2_with fail
    refine (one_any _).mono ?_
    rintro r w5 ⟨rfl, b5⟩
    have B5 := hide (btr B2.out b5)
    clear b5
    go_wp2_with fail
    go_ret
    exact ⟨rfl, B5.out⟩
end Fk
end Go.Proofs.Ytipimagajnocjaa
