/- Package watch, over this seat's program: Retire. -/
import Derived.Test.YtakbbhngcdccpaaGreatUe
namespace Go.Proofs.YtakbbhngcdccpaaGreat
open Go.ChangeShapes Go.WideShapes Go.ChangeAt Go.RowKit
namespace Wa
open Ck
open Go.Maps (Keyed int_keyed keyOf_int_mk)

theorem ranges_kp {X : Nat → Prop} {w w' : World} {b r n : Nat} {D : DataW Unit} {left : Lit → Bool} {cnt : Nat} (h : w.ranges Tryz.prog 3 mE b r n D left cnt) (k : Kp X w w') (hb : X b) (hr : X r) : w'.ranges Tryz.prog 3 mE b r n D left cnt := by
  obtain ⟨es, clock, since, seen, c0, e1, F, hs, hD, e2, rest⟩ := h
  exact ⟨es, clock, since, seen, c0, (k.block b hb).trans e1, F, hs, hD, (k.block r hr).trans e2, rest⟩
/-- one is gone from the map -/
theorem WX.gone {Y : Nat → Prop} {B : Nat} {w w' : World} {st : Wst} {h : Nat → Option (List Int)} {mb : Nat} {D : DataW Unit} (s : WX Y B w st h mb D) (g : Int) (tb : Nat × Nat) (hf : st.f g = some tb) (ho : w'.ownsMap Tryz.prog 3 mE mb NB (D.del (kl g))) (hg : w.grownBy w' (some mb)) :
    WX Y B w' { st with n := st.n - 1, f := upf st.f g none } h mb (D.del (kl g)) ∧ Kp Y w w' := by
  have hsz := Maps.size_del (k := kl g) s.mi.tidy
  rw [s.mi.has, hf, s.sz] at hsz
  have hsz' : Maps.size (D.del (kl g)) = st.n - 1 := by simp at hsz; omega
  have sub : ∀ g' t b, upf st.f g none g' = some (t, b) → st.f g' = some (t, b) := fun g' t b e => by
    by_cases q : g' = g
    · subst q; rw [upf_same] at e; cases e
    · rwa [upf_other _ _ _ _ q] at e
  refine ⟨⟨(hg.block B s.lt (fun e => s.ne (by cases e; rfl))).trans s.hp, ho, s.mi.del g, hsz', s.ne, s.yb, s.ym, Cx.other s.cx hg.size (fun k hk hn => hg.block k hk (fun e => hn (.inr (.inr (by cases e; rfl))))), fun g' t b e => s.dom g' t b (sub g' t b e), fun g1 g2 t1 t2 b e1 e2 => s.inj g1 g2 t1 t2 b (sub g1 t1 b e1) (sub g2 t2 b e2), fun g' t b e => s.tid g' t b (sub g' t b e), ?_⟩, ⟨hg.os, hg.tape, hg.output, hg.size, fun k hk => hg.block k (s.ylt k hk) (fun e => s.ym (by cases e; exact hk))⟩⟩
  have := s.bd
  exact ⟨this.1, this.2.1, this.2.2.1, by show st.n - 1 ≤ 10000; omega⟩
/-- what has become of the clocks, while some are still to come -/
structure Fo (f : Int → Option (Nat × Nat)) (tg : Nat) (left : Lit → Bool) (h hk : Nat → Option (List Int)) : Prop where
  mem : ∀ g t b l, f g = some (t, b) → h b = some l → if left (kl g) then hk b = some l else ∃ l2, IsSet l l2 tg 0 ∧ hk b = some l2
  oth : ∀ b l, h b = some l → (∀ g t, f g ≠ some (t, b)) → hk b = some l
def Y2 (Y : Nat → Prop) (a b : Nat) : Nat → Prop := fun k => Y k ∨ k = a ∨ k = b
set_option maxRecDepth 100000 in
set_option maxHeartbeats 6400000 in
theorem retire_ok {Y : Nat → Prop} {B : Nat} {w : World} {st : Wst} {h : Nat → Option (List Int)} (s : WW Y B w st h) (g : Int) (hg : (Lit.int .i64 g).wf = true) (tg bg : Nat) (hf : st.f g = some (tg, bg)) :
    Calls Tryz.prog 21 #[.pointer (some ⟨B, 0, none⟩), .int .i64 g] w fun r w' => r = .returned (.int .i64 0) ∧ ∃ h', Fo (upf st.f g none) tg (fun _ => false) h h' ∧ WW Y B w' { st with n := st.n - 1, f := upf st.f g none } h' ∧ Kp Y w w' := by
  obtain ⟨mb, D, s⟩ := s
  have F1 := hide (find_some s g hg tg bg hf)
  unfold mV at F1
  have HS := hide s
  have htg := s.tid g tg bg hf
  have HK := hide (key_kl g hg)
  have HF := hide hf
  have hBlt := s.lt
  have hmlt := s.ow.lt
  clear s hg hf
  go_enter Tryz.func21, Tryz.ntmps21
  go_wp2_with fail
  refine F1.out.mono ?_
  rintro r w1 ⟨rfl, b1⟩
  have e1 := heap_new w1 (.cells #[.int .i64 (tg : Int), .pointer (some ⟨bg, 0, none⟩)] 71)
  have bb := btr b1 (below_alloc w1 (.cells #[.int .i64 (tg : Int), .pointer (some ⟨bg, 0, none⟩)] 71))
  have hz1 := b1.size
  have S2 : Hid (WX (Y1 Y w1.heap.size) B (w1.alloc (.cells #[.int .i64 (tg : Int), .pointer (some ⟨bg, 0, none⟩)] 71)) st h mb D) := HS.out.more bb (fun k q => by rcases q with q | q; exact .inl q; exact .inr (by omega)) (fun k q => by
    rcases q with q | q
    · exact Nat.lt_of_lt_of_le (HS.out.ylt k q) bb.size
    · rw [q, World.size_alloc]; omega)
  have K2 := hide (Kp.of (X := Y) bb HS.out.ylt)
  have E2 := hide e1
  have OW := hide S2.out.ow
  have zb2 : (w1.alloc (.cells #[.int .i64 (tg : Int), .pointer (some ⟨bg, 0, none⟩)] 71)).cell? ⟨B, 2, none⟩ = some (.map (some mb)) := cell_of S2.out.hp 2
  clear b1 F1 bb e1
  go_wp2_with (first
    | (at_delete; refine wpList_delete_own _ rfl _ _ 74 3 rfl 71 law Tryz.underlying74 mE mb NB D rfl OW.out _ _ rfl HK.out ?_; intro w3 hown3 hturn3; have g3 := hturn3.grown; obtain ⟨s3, k3⟩ := S2.out.gone g _ HF.out hown3 g3; have zb3 : w3.cell? ⟨B, 2, none⟩ = some (.map (some mb)) := cell_of s3.hp 2; have OW3 := hide hown3; have S3 := hide s3; have K23 := hide k3; have G3 := hide g3; clear hown3 hturn3 g3 s3 k3)
    | (at_range; refine wpList_range_own _ rfl _ 74 rfl 3 71 law Tryz.underlying74 mE mb NB (D.del (kl g)) rfl OW3.out ?_; intro w4 hrg4 hg4 hs4))
  have E3 := hide ((G3.out.block w1.heap.size (by rw [World.size_alloc]; omega) (by simp; omega)).trans E2.out)
  have K3 := hide (K2.out.trans (Kp.mono K23.out fun k q => .inl q))
  have hz3 : w1.heap.size < w3.heap.size := by have := G3.out.size; rw [World.size_alloc] at this; omega
  have b4 : Below w3.heap.size w3 w4 := ⟨hg4.os, hg4.tape, hg4.output, hg4.size, fun k hk => hg4.block k hk (by simp)⟩
  have S4 : Hid (WX (Y2 Y w1.heap.size w3.heap.size) B w4 { st with n := st.n - 1, f := upf st.f g none } h mb (D.del (kl g))) := S3.out.more b4 (fun k q => by
    rcases q with q | q | q
    · exact .inl (.inl q)
    · exact .inl (.inr q)
    · exact .inr (by omega)) (fun k q => by
    rcases q with q | q | q
    · have := S3.out.ylt k (.inl q); omega
    · omega
    · omega)
  have E4 := hide (Ba.heap_below E3.out b4)
  have K4 := hide (K3.out.trans (Kp.of b4 fun k q => S3.out.ylt k (.inl q)))
  have R4 := hide hrg4
  have NE : Hid (w3.heap.size ≠ B ∧ w3.heap.size ≠ mb) := ⟨by omega, by omega⟩
  clear hrg4 hg4 hs4 b4 S3 E3 K3 K23 G3 OW3 zb3 S2 E2 OW zb2
  generalize hf' : upf st.f g none = f' at *
  go_frame
  go_loopw [8] (fun _ wr => ∃ left cnt hk, wr.ranges Tryz.prog 3 mE mb w3.heap.size NB (D.del (kl g)) left cnt ∧ Fo f' tg left h hk ∧ WX (Y2 Y w1.heap.size w3.heap.size) B wr { st with n := st.n - 1, f := f' } hk mb (D.del (kl g)) ∧ Kp (Y1 Y w1.heap.size) w4 wr) (fun _ wr => wr.rangeLeft mb w3.heap.size)
  case atStart =>
    refine ⟨_, _, h, R4.out, ⟨fun g1 t b l e1 e2 => ?_, fun b l e _ => e⟩, S4.out, Kp.refl _ _⟩
    rw [S4.out.mi.has, if_pos (by show (f' g1).isSome = true; rw [e1]; rfl)]
    exact e2
  case round =>
    clear S4 R4
    obtain ⟨left, cnt, hk, rg, fo, s5, k5⟩ := hrel
    have RG := hide rg
    have FO := hide fo
    have S5 := hide s5
    have K5 := hide k5
    have z0 : wr.cell? ⟨w1.heap.size, 0, none⟩ = some (.int .i64 (tg : Int)) := cell_of (kp_heap k5 E4.out (.inr rfl)) 0
    have hz5 : w1.heap.size < wr.heap.size := s5.ylt _ (.inr (.inl rfl))
    clear rg fo s5 k5
    go_wp2_with (at_next; refine wpList_next_ranges _ rfl _ rfl 3 law mE (Value.int .i64) (fun c : Int × Option Addr => .agg #[.int .i64 c.1, .pointer c.2]) key_inv (fun v y hv => mV_inv hv) mb w3.heap.size NB (D.del (kl g)) left cnt rfl RG.out ?_ ?_)
    · intro _ hl0
      have HL0 := hide hl0
      clear hl0
      go_wp2_with fail
      go_ret
      rw [hf']
      refine ⟨rfl, hk, ⟨fun g1 t b l e1 e2 => ?_, FO.out.oth⟩, ⟨_, _, S5.out.less fun k q => .inl q⟩, K4.out.trans (Kp.mono K5.out fun k q => .inl q)⟩
      have := FO.out.mem g1 t b l e1 e2
      rw [HL0.out] at this
      exact this
    · intro x c1 c2 k y1 y2' w5 cnt5 hkey hlk hv hat hrg5 hlt5 hg5 hs5 hen
      obtain ⟨rfl, t, b, hfx, hc12⟩ := step_is (c := (c1, c2)) (y := (y1, y2')) S5.out.mi hkey hv hat
      cases hc12
      have hfx' : f' x = some (t, b) := hfx
      obtain ⟨l, hl⟩ : ∃ l, h b = some l := by
        refine HS.out.dom x t b ?_
        rw [← hf'] at hfx'
        by_cases q : x = g
        · subst q; rw [upf_same] at hfx'; cases hfx'
        · rwa [upf_other _ _ _ _ q] at hfx'
      have hkb : hk b = some l := by
        have := FO.out.mem x t b l hfx' hl
        rw [hlk] at this
        exact this
      have S6 : Hid (WX (Y2 Y w1.heap.size w3.heap.size) B w5 { st with n := st.n - 1, f := f' } hk mb (D.del (kl g))) := by
        have s5 := S5.out
        refine ⟨(hg5.block B s5.lt (by simp; have := NE.out; omega)).trans s5.hp, hrg5.owns, s5.mi, s5.sz, s5.ne, s5.yb, s5.ym, Cx.other s5.cx hg5.size (fun j hj hn => hg5.block j hj (fun e => hn (.inl (.inr (.inr (by cases e; rfl)))))), s5.dom, s5.inj, s5.tid, s5.bd⟩
      have KY : Hid (Kp (Y1 Y w1.heap.size) w4 w5) := K5.out.trans ⟨hg5.os, hg5.tape, hg5.output, hg5.size, fun j hj => hg5.block j (S5.out.ylt j (by rcases hj with q | q; exact .inl q; exact .inr (.inl q))) (fun e => by
        cases e
        rcases hj with q | q
        · have := HS.out.ylt _ q; omega
        · omega)⟩
      have z05 : w5.cell? ⟨w1.heap.size, 0, none⟩ = some (.int .i64 (tg : Int)) := cell_of (kp_heap KY.out E4.out (.inr rfl)) 0
      have hz55 : w1.heap.size < w5.heap.size := by omega
      have S7 := hide (S6.out.below (below_alloc w5 (.cells #[.int .i64 (t : Int), .pointer (some ⟨b, 0, none⟩)] 71)))
      have R7 := hide (hrg5.alloc (.cells #[.int .i64 (t : Int), .pointer (some ⟨b, 0, none⟩)] 71))
      have K7 := hide (kp_b KY.out (below_alloc w5 (.cells #[.int .i64 (t : Int), .pointer (some ⟨b, 0, none⟩)] 71)) (fun j q => S6.out.ylt j (by rcases q with q | q; exact .inl q; exact .inr (.inl q))))
      have CS := hide (cx_set S7.out.cx (hx_at hkb) tg 0 htg (by decide))
      have HX := hide (And.intro hfx' (And.intro hl hlk))
      have HLT := hide hlt5
      clear hkey hv hat hrg5 hlt5 hg5 hfx hfx' hl hkb hlk S6 KY z0
      go_wp2_with fail
      refine CS.out.mono ?_
      rintro r w8 ⟨rfl, l2, c8, v8, n8, cx8, k8⟩
      have S8 : Hid (WX (Y2 Y w1.heap.size w3.heap.size) B w8 { st with n := st.n - 1, f := f' } (upd hk b l2) mb (D.del (kl g))) := S7.out.clk (by rw [← hx_upd]; exact cx8) k8 (fun b' l' e => by
        by_cases q : b' = b
        · exact ⟨_, by rw [q]; exact upd_same _ _ _⟩
        · exact ⟨l', by rw [upd_other _ _ _ _ q]; exact e⟩)
      have R8 := hide (ranges_kp R7.out k8 (.inr (.inr rfl)) (.inl (.inr (.inr rfl))))
      have K8 := hide (K7.out.trans (Kp.mono (Y := Y1 Y w1.heap.size) k8 (fun j q => by rcases q with q | q; exact .inl (.inl q); exact .inl (.inr (.inl q)))))
      have L8 : Hid (IsSet l l2 tg 0) := ⟨c8, v8, n8⟩
      clear c8 v8 n8 cx8 k8 CS
      go_wp2_with fail
      go_roundw
      case rel =>
        refine ⟨_, cnt5, _, R8.out, ⟨fun g1 t1 b1 l1 e1 e2 => ?_, fun b1 l1 e1 hne => ?_⟩, S8.out, K8.out⟩
        · by_cases q : g1 = x
          · subst q
            rw [HX.out.1] at e1
            cases e1
            rw [HX.out.2.1] at e2
            cases e2
            rw [sk]
            simp only [decide_true, Bool.not_true, Bool.and_false, Bool.false_eq_true, if_false]
            exact ⟨l2, L8.out, upd_same _ _ _⟩
          · have hb1 : b1 ≠ b := fun e => by
              subst e
              exact q (S8.out.inj g1 x t1 t b1 e1 HX.out.1)
            rw [upd_other _ _ _ _ hb1, sk]
            simp only [q, decide_false, Bool.not_false, Bool.and_true]
            exact FO.out.mem g1 t1 b1 l1 e1 e2
        · have hb1 : b1 ≠ b := fun e => by
            subst e
            exact hne x t HX.out.1
          rw [upd_other _ _ _ _ hb1]
          exact FO.out.oth b1 l1 e1 hne
      case measure => rw [R8.out.left_eq, RG.out.left_eq]; exact HLT.out
end Wa
end Go.Proofs.YtakbbhngcdccpaaGreat
