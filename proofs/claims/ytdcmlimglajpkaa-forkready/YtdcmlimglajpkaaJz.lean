/- The laws' own pipes(), walked. -/
import Derived.Test.YtdcmlimglajpkaaJy
namespace Go.Proofs.Ytdcmlimglajpkaa
open Go.ChangeShapes Go.WideShapes Go.ChangeAt Go.RowKit
namespace Fk
open Ba Pe _root_.Go.Proofs.Ytdcmlimglajpkaa.Pi Rp

def PiP (w : World) (sizes : List Int) (r : Ending) (w' : World) : Prop := ∃ oa cp bs Fs ob cq gs Gs, r = .returned (.agg #[.slice oa bs.length cp, .slice ob gs.length cq]) ∧ bs.length = sizes.length ∧ gs.length = sizes.length ∧ Tw w w' oa bs Fs ob gs Gs (sizes.map capS) (sizes.map capS)
theorem size_pipes : (Try.prog.info? 29).map (·.size) = some 2 := by kernel_rfl
theorem loadVar_pipes {w : World} {b : Nat} {c : Array Value} {t : TypeId} (h : w.heap[b]? = some (.cells c t (0, 0))) (hc : c.size = 2) : (loadVar 29 ⟨b, 0, none⟩).run Try.prog w = .ok (.agg c) w :=
  run_loadVar_row w b t _ _ _ _ h Try.underlying29 rfl (by rw [size_pipes, hc])
/-- how far the loop is -/
structure Pz (w : World) (sizes : List Int) (k : Nat) (wr : World) (vP vW : Value) (bs : List (Option Nat)) (Fs : Nat → Nat → Prop) (gs : List (Option Nat)) (Gs : Nat → Nat → Prop) : Prop where
  po : Po w wr (w.heap.size + 1) vP vW bs gs bs Fs gs Gs ((sizes.take k).map capS)
  lb : bs.length = k
  lg : gs.length = k
  y : wr.heap[w.heap.size]? = some (.cells #[.slice none 0 0, .slice none 0 0] 29)
  ny : ¬ All Fs w.heap.size ∧ ¬ All Gs w.heap.size
set_option maxRecDepth 100000 in
set_option maxHeartbeats 6400000 in
theorem pipes_any (w : World) (oz : Option Addr) (sizes : List Int) (cz : Nat) (hA : At w oz sizes) (hl : sizes.length ≤ 20) :
    Calls Try.prog 8 #[.slice oz sizes.length cz] w fun r w' => PiP w sizes r w' := by
  cases hi : Try.prog.info? 55 with
  | none => have := info_pp; rw [hi] at this; cases this
  | some ip =>
  cases hj : Try.prog.info? 59 with
  | none => have := info_rp; rw [hj] at this; cases this
  | some ir =>
  have hp2 := info_pp
  rw [hi] at hp2
  simp at hp2
  have hr2 := info_rp
  rw [hj] at hr2
  simp at hr2
  have IP := hide (And.intro hi hp2)
  have IR := hide (And.intro hj hr2)
  clear hp2 hr2 hi hj
  have HA := hide hA
  clear hA
  have b1 := below_alloc w (.cells #[.slice none 0 0, .slice none 0 0] 29)
  have b2 := below_alloc (w.alloc (.cells #[.slice none 0 0, .slice none 0 0] 29)) (.cells #[.slice none 0 0, .slice none 0 0] 29)
  have P0 : Hid (Pz w sizes 0 ((w.alloc (.cells #[.slice none 0 0, .slice none 0 0] 29)).alloc (.cells #[.slice none 0 0, .slice none 0 0] 29)) (.slice none 0 0) (.slice none 0 0) [] (fun _ _ => False) [] (fun _ _ => False)) :=
    ⟨⟨heap_new2 _ _ _, World.ownsRow_nil _ _ _ _, World.ownsRow_nil _ _ _ _, Hf.nil _ _, Hf.nil _ _, (fun _ ⟨_, h⟩ => h.elim), (fun _ h => by cases h), (fun _ h => by cases h), ⟨(fun ⟨_, h⟩ => h), (fun ⟨_, h⟩ => h)⟩, btr b1 b2, Nat.le_succ _⟩, rfl, rfl, heap_below (heap_new _ _) b2, ⟨(fun ⟨_, h⟩ => h), (fun ⟨_, h⟩ => h)⟩⟩
  clear b1 b2
  go_enter Try.func8, Try.ntmps8
  go_wp2_with fail
  go_loopw [13] (fun i wr => ∃ (k : Nat) (vP vW : Value) (bs : List (Option Nat)) (Fs : Nat → Nat → Prop) (gs : List (Option Nat)) (Gs : Nat → Nat → Prop), k ≤ sizes.length ∧ i = .int .i64 k ∧ Pz w sizes k wr vP vW bs Fs gs Gs) (fun i _ => sizes.length - (intOf i).toNat)
  case atStart => exact ⟨0, _, _, [], _, [], _, Nat.zero_le _, rfl, P0.out⟩
  case round =>
    clear P0
    obtain ⟨k, vP, vW, bs, Fs, gs, Gs, hk, rfl, pz⟩ := hrel
    have PZ := hide pz
    clear pz
    by_cases hlt : k < sizes.length
    · have hlt' : (k : Int) < (sizes.length : Int) := by omega
      obtain ⟨b, off, eo, q⟩ := HA.out.below PZ.out.po.b k hlt
      subst eo
      obtain ⟨n, hn⟩ : ∃ n, n = nth sizes k := ⟨_, rfl⟩
      rw [← hn] at q
      have TK : Hid ((sizes.take (k + 1)).map capS = (sizes.take k).map capS ++ [capS n]) := by
        show _ = _
        rw [List.take_succ_eq_append_getElem hlt, List.map_append, hn, nth_lt _ _ hlt]
        rfl
      have hbl : bs.length ≤ 20 := by have := PZ.out.lb; omega
      have hgl : gs.length ≤ 20 := by have := PZ.out.lg; omega
      clear hn
      by_cases hsz : n < 0 ∨ 4 < n
      · have CN : Hid (capS n = none) := by show _ = _; unfold capS; rw [if_neg (by omega)]
        have Q1 := hide (PZ.out.po.below (below_alloc wr (.cells #[.pointer none] 55)))
        have z0 : wr.cell? ⟨w.heap.size + 1, 0, none⟩ = some vP := cell_of PZ.out.po.z 0
        have z1 : wr.cell? ⟨w.heap.size + 1, 1, none⟩ = some vW := cell_of PZ.out.po.z 1
        go_wp2_with fail
        refine (Pi.new_err n _ hsz).mono ?_
        rintro r w1 ⟨rfl, rfl⟩
        go_wp2_with fail
        refine (rnew_err n _ hsz).mono ?_
        rintro r w2 ⟨rfl, rfl⟩
        go_wp2_with (at_builtin; refine wpList_append_own_at _ rfl _ _ 26 rfl w.heap.size 55 ip (.pointer none) 1 8 Try.underlying26 IP.out.1 IP.out.2.1 IP.out.2.2.1 IP.out.2.2.2 rfl (by decide) _ _ _ rfl Q1.out.rp ⟨w2.heap.size, 0, none⟩ 1 1 [.pointer none] rfl rfl ?c1 ?c2 ?c3 ?c4 ?c5 ?_)
        case c1 => exact cell_one_new _ _ _
        case c2 => intro u hu; rw [List.mem_singleton] at hu; rw [hu]; rfl
        case c3 => unfold maxLen; omega
        case c4 => omega
        case c5 => exact Q1.out.b.size
        intro v1 w4 ho hg3 _ ha3
        obtain ⟨z4, p4⟩ := Q1.out.app1 (o := none) ho hg3 (by rw [World.size_alloc]; exact ha3)
        obtain ⟨o1, k1, e1, -, -⟩ := own_pr p4.rp
        have P4 := hide p4
        have y3 := heap_below PZ.out.y (below_alloc w2 (.cells #[.pointer none] 55))
        have Y5 := hide ((Below.heap_setCell w4 ⟨w.heap.size + 1, 0, none⟩ v1 _ (show w.heap.size ≠ w.heap.size + 1 by omega)).trans ((hg3.block _ (heap_lt y3) (own_ty Q1.out.rp y3 ne_types.1)).trans y3))
        have a0 := cell_of z4 0
        have a1 := cell_of z4 1
        have f0 := frozen_of z4 0
        clear ho hg3 ha3 z0 z1 p4 y3 Q1 z4
        subst e1
        obtain ⟨L1, hL1⟩ : ∃ L1, (bs ++ [none]).length = L1 := ⟨_, rfl⟩
        rw [hL1] at P4 Y5 ⊢
        have sz5 : (w4.setCell ⟨w.heap.size + 1, 0, none⟩ (.slice o1 L1 k1)).heap.size = w4.heap.size := by simp [World.setCell]
        have SZ := hide sz5
        have Q2 := hide (P4.out.below (below_alloc _ (.cells #[.pointer none] 59)))
        have Y6 := hide (heap_below Y5.out (below_alloc _ (.cells #[.pointer none] 59)))
        clear sz5 hL1
        go_wp2_with (at_builtin; refine wpList_append_own_at _ rfl _ _ 27 rfl w.heap.size 59 ir (.pointer none) 1 8 Try.underlying27 IR.out.1 IR.out.2.1 IR.out.2.2.1 IR.out.2.2.2 rfl (by decide) _ _ _ rfl Q2.out.rw ⟨w4.heap.size, 0, none⟩ 1 1 [.pointer none] rfl rfl ?c1 ?c2 ?c3 ?c4 ?c5 ?_)
        case c1 =>
          have q := cell_one_new (w4.setCell ⟨w.heap.size + 1, 0, none⟩ (.slice o1 L1 k1)) (.pointer none) 59
          rw [SZ.out] at q
          exact q
        case c2 => intro u hu; rw [List.mem_singleton] at hu; rw [hu]; rfl
        case c3 => unfold maxLen; omega
        case c4 => omega
        case c5 => exact Q2.out.b.size
        intro v2 w7 ho hg3 _ ha3
        obtain ⟨z7, p7⟩ := Q2.out.app2 (o := none) ho hg3 (by rw [World.size_alloc, SZ.out]; exact ha3)
        obtain ⟨o2, k2, e2, -, -⟩ := own_pr p7.rw
        have Y8 := hide ((Below.heap_setCell w7 ⟨w.heap.size + 1, 1, none⟩ v2 _ (show w.heap.size ≠ w.heap.size + 1 by omega)).trans ((hg3.block _ (heap_lt Y6.out) (own_ty Q2.out.rw Y6.out ne_types.2.1)).trans Y6.out))
        have a4 := cell_of z7 0
        have a5 := cell_of z7 1
        have f5 := frozen_of z7 1
        have NXT : Hid (Pz w sizes (k + 1) (w7.setCell ⟨w.heap.size + 1, 1, none⟩ v2) (.slice o1 L1 k1) v2 (bs ++ [none]) Fs (gs ++ [none]) Gs) := by
          refine ⟨?_, by simp [PZ.out.lb], by simp [PZ.out.lg], Y8.out, PZ.out.ny⟩
          rw [TK.out, CN.out]
          exact ⟨p7.z, p7.rp, p7.rw, p7.p.addN, p7.r.addN, p7.ap, p7.np, p7.nw, p7.nz, p7.b, p7.hz⟩
        clear ho hg3 ha3 p7 z7 Q2 Y6 P4 Y5 a0 a1 f0 Y8
        subst e2
        obtain ⟨L2, hL2⟩ : ∃ L2, (gs ++ [none]).length = L2 := ⟨_, rfl⟩
        rw [hL2] at NXT ⊢
        clear hL2
        go_wp2_with fail
        go_roundw
        case rel => exact ⟨k + 1, _, _, _, _, _, _, by omega, by go_num, NXT.out⟩
        case measure => simp [intOf]; omega
      · obtain ⟨m, rfl⟩ := Int.eq_ofNat_of_zero_le (show 0 ≤ n by omega)
        have hm : m ≤ 4 := by omega
        have CN : Hid (capS (m : Int) = some (st0 m)) := by show _ = _; unfold capS; rw [if_pos (by omega)]; rfl
        clear hsz
        go_wp2_with fail
        refine (Pi.new_ok m _ hm).mono ?_
        rintro r w1 ⟨B, F, rfl, p1, l1, b1⟩
        have P1 := hide p1
        have L1' := hide l1
        have B1 := hide b1
        clear p1 l1 b1
        go_wp2_with fail
        refine (rnew_ok m _ hm).mono ?_
        rintro r w2 ⟨G, R, rfl, r2, l2, b2⟩
        have PA : Hid (∃ F1 G1, Po w w2 (w.heap.size + 1) vP vW bs gs (bs ++ [some B]) F1 (gs ++ [some G]) G1 ((sizes.take k).map capS ++ [some (st0 m)]) ∧ (¬ All F1 w.heap.size ∧ ¬ All G1 w.heap.size)) := by
          have h := PZ.out.po
          have BB := btr B1.out b2
          have h2 := h.below BB
          have s1 := B1.out.size
          have s0 := h.b.size
          have fF : ∀ x, F x → wr.heap.size ≤ x ∧ x < w1.heap.size := fun x hx => ⟨L1'.out x hx, P1.out.bd x hx⟩
          have fR : ∀ x, R x → w1.heap.size ≤ x := l2
          have old : ∀ x, x < wr.heap.size → ¬ All Fs x ∧ ¬ All Gs x → ¬ All (up Fs bs.length F) x ∧ ¬ All (up Gs gs.length R) x := by
            intro x hx hn
            refine ⟨fun q => ?_, fun q => ?_⟩
            · rcases all_up q with z | z
              · have := fF x z
                omega
              · exact hn.1 z
            · rcases all_up q with z | z
              · have := fR x z
                omega
              · exact hn.2 z
          refine ⟨up Fs bs.length F, up Gs gs.length R, ⟨h2.z, h2.rp, h2.rw, h2.p.addS (P1.out.below b2) (P1.out.below b2).bd (fun x hx q => ?_) (fun x hx => ?_), h2.r.addS r2 r2.bd (fun x hx q => ?_) (fun x hx => ?_), ?_, fun x hx => old x (own_lt h.rp hx).2 (h.np x hx), fun x hx => old x (own_lt h.rw hx).2 (h.nw x hx), old _ (heap_lt h.z) h.nz, h2.b, h2.hz⟩, old _ (heap_lt PZ.out.y) PZ.out.ny⟩
          · have := (fF x hx).1
            have := h.p.bdA q
            omega
          · have := (fF x hx).1
            omega
          · have := fR x hx
            have := h.r.bdA q
            omega
          · have := fR x hx
            omega
          · intro x hx hy
            rcases all_up hx with z | z
            · rcases all_up hy with z' | z'
              · have := fF x z
                have := fR x z'
                omega
              · have := fF x z
                have := h.r.bdA z'
                omega
            · rcases all_up hy with z' | z'
              · have := h.p.bdA z
                have := fR x z'
                omega
              · exact h.ap x z z'
        obtain ⟨F1, G1, pa, nya⟩ := PA.out
        have NYA := hide nya
        have YA := hide (heap_below PZ.out.y (btr B1.out b2))
        have Q1 := hide (pa.below (below_alloc w2 (.cells #[.pointer (some ⟨B, 0, none⟩)] 55)))
        have z0 : w2.cell? ⟨w.heap.size + 1, 0, none⟩ = some vP := cell_of pa.z 0
        have z1 : w2.cell? ⟨w.heap.size + 1, 1, none⟩ = some vW := cell_of pa.z 1
        clear PA pa nya r2 l2 b2 P1 L1' B1 q
        go_wp2_with (at_builtin; refine wpList_append_own_at _ rfl _ _ 26 rfl w.heap.size 55 ip (.pointer none) 1 8 Try.underlying26 IP.out.1 IP.out.2.1 IP.out.2.2.1 IP.out.2.2.2 rfl (by decide) _ _ _ rfl Q1.out.rp ⟨w2.heap.size, 0, none⟩ 1 1 [.pointer (some ⟨B, 0, none⟩)] rfl rfl ?c1 ?c2 ?c3 ?c4 ?c5 ?_)
        case c1 => exact cell_one_new _ _ _
        case c2 => intro u hu; rw [List.mem_singleton] at hu; rw [hu]; rfl
        case c3 => unfold maxLen; omega
        case c4 => omega
        case c5 => exact Q1.out.b.size
        intro v1 w4 ho hg3 _ ha3
        obtain ⟨z4, p4⟩ := Q1.out.app1 (o := some B) ho hg3 (by rw [World.size_alloc]; exact ha3)
        obtain ⟨o1, k1, e1, -, -⟩ := own_pr p4.rp
        have P4 := hide p4
        have y3 := heap_below YA.out (below_alloc w2 (.cells #[.pointer (some ⟨B, 0, none⟩)] 55))
        have Y5 := hide ((Below.heap_setCell w4 ⟨w.heap.size + 1, 0, none⟩ v1 _ (show w.heap.size ≠ w.heap.size + 1 by omega)).trans ((hg3.block _ (heap_lt y3) (own_ty Q1.out.rp y3 ne_types.1)).trans y3))
        have a0 := cell_of z4 0
        have a1 := cell_of z4 1
        have f0 := frozen_of z4 0
        clear ho hg3 ha3 z0 z1 p4 y3 Q1 z4
        subst e1
        obtain ⟨L1, hL1⟩ : ∃ L1, (bs ++ [some B]).length = L1 := ⟨_, rfl⟩
        rw [hL1] at P4 Y5 ⊢
        have sz5 : (w4.setCell ⟨w.heap.size + 1, 0, none⟩ (.slice o1 L1 k1)).heap.size = w4.heap.size := by simp [World.setCell]
        have SZ := hide sz5
        have Q2 := hide (P4.out.below (below_alloc _ (.cells #[.pointer (some ⟨G, 0, none⟩)] 59)))
        have Y6 := hide (heap_below Y5.out (below_alloc _ (.cells #[.pointer (some ⟨G, 0, none⟩)] 59)))
        clear sz5 hL1
        go_wp2_with (at_builtin; refine wpList_append_own_at _ rfl _ _ 27 rfl w.heap.size 59 ir (.pointer none) 1 8 Try.underlying27 IR.out.1 IR.out.2.1 IR.out.2.2.1 IR.out.2.2.2 rfl (by decide) _ _ _ rfl Q2.out.rw ⟨w4.heap.size, 0, none⟩ 1 1 [.pointer (some ⟨G, 0, none⟩)] rfl rfl ?c1 ?c2 ?c3 ?c4 ?c5 ?_)
        case c1 =>
          have q := cell_one_new (w4.setCell ⟨w.heap.size + 1, 0, none⟩ (.slice o1 L1 k1)) (.pointer (some ⟨G, 0, none⟩)) 59
          rw [SZ.out] at q
          exact q
        case c2 => intro u hu; rw [List.mem_singleton] at hu; rw [hu]; rfl
        case c3 => unfold maxLen; omega
        case c4 => omega
        case c5 => exact Q2.out.b.size
        intro v2 w7 ho hg3 _ ha3
        obtain ⟨z7, p7⟩ := Q2.out.app2 (o := some G) ho hg3 (by rw [World.size_alloc, SZ.out]; exact ha3)
        obtain ⟨o2, k2, e2, -, -⟩ := own_pr p7.rw
        have Y8 := hide ((Below.heap_setCell w7 ⟨w.heap.size + 1, 1, none⟩ v2 _ (show w.heap.size ≠ w.heap.size + 1 by omega)).trans ((hg3.block _ (heap_lt Y6.out) (own_ty Q2.out.rw Y6.out ne_types.2.1)).trans Y6.out))
        have a4 := cell_of z7 0
        have a5 := cell_of z7 1
        have f5 := frozen_of z7 1
        have NXT : Hid (Pz w sizes (k + 1) (w7.setCell ⟨w.heap.size + 1, 1, none⟩ v2) (.slice o1 L1 k1) v2 (bs ++ [some B]) F1 (gs ++ [some G]) G1) := by
          refine ⟨?_, by simp [PZ.out.lb], by simp [PZ.out.lg], Y8.out, NYA.out⟩
          rw [TK.out, CN.out]
          exact p7
        clear ho hg3 ha3 p7 z7 Q2 Y6 P4 Y5 a0 a1 f0 Y8
        subst e2
        obtain ⟨L2, hL2⟩ : ∃ L2, (gs ++ [some G]).length = L2 := ⟨_, rfl⟩
        rw [hL2] at NXT ⊢
        clear hL2
        go_wp2_with fail
        go_roundw
        case rel => exact ⟨k + 1, _, _, _, _, _, _, by omega, by go_num, NXT.out⟩
        case measure => simp [intOf]; omega
    · have hlt' : ¬ ((k : Int) < (sizes.length : Int)) := by omega
      obtain rfl : k = sizes.length := by omega
      have hb' : bs.length = sizes.length := PZ.out.lb
      have hg' : gs.length = sizes.length := PZ.out.lg
      obtain ⟨oa, cp, e1, pr, o1⟩ := own_pr PZ.out.po.rp
      obtain ⟨ob, cq, e2, rr, o2⟩ := own_pr PZ.out.po.rw
      subst e1
      subst e2
      have z0 : wr.cell? ⟨w.heap.size + 1, 0, none⟩ = some (.slice oa bs.length cp) := cell_of PZ.out.po.z 0
      have z1 : wr.cell? ⟨w.heap.size + 1, 1, none⟩ = some (.slice ob gs.length cq) := cell_of PZ.out.po.z 1
      have y0 : wr.cell? ⟨w.heap.size, 0, none⟩ = some (.slice none 0 0) := cell_of PZ.out.y 0
      have y1 : wr.cell? ⟨w.heap.size, 1, none⟩ = some (.slice none 0 0) := cell_of PZ.out.y 1
      have f0 := frozen_of PZ.out.y 0
      have f1 := frozen_of PZ.out.y 1
      have FIN : Hid (∀ v, (∀ x, x ≠ w.heap.size → v.heap[x]? = wr.heap[x]?) → Below w.heap.size w v → wr.heap.size ≤ v.heap.size → Tw w v oa bs Fs ob gs Gs (sizes.map capS) (sizes.map capS)) := by
        intro v hv bv sv
        have hpo := PZ.out.po
        rw [List.take_length] at hpo
        have kp : ∀ x, All Fs x → v.heap[x]? = wr.heap[x]? := fun x hx => hv x (fun e => PZ.out.ny.1 (e ▸ hx))
        have kr : ∀ x, All Gs x → v.heap[x]? = wr.heap[x]? := fun x hx => hv x (fun e => PZ.out.ny.2 (e ▸ hx))
        have qa : ∀ a, oa = some a → v.heap[a.block]? = wr.heap[a.block]? := fun a e => hv _ (fun q => own_ty hpo.rp PZ.out.y ne_types.1 (by rw [(o1 a e).1, q]))
        have qb : ∀ a, ob = some a → v.heap[a.block]? = wr.heap[a.block]? := fun a e => hv _ (fun q => own_ty hpo.rw PZ.out.y ne_types.2.1 (by rw [(o2 a e).1, q]))
        refine ⟨(hpo.p.sm frP kp).qs (pr.keep (fun a e _ => qa a e)) (fun a e => (hpo.np _ (o1 a e).1).1), (hpo.r.sm frR kr).qs (rr.keep (fun a e _ => qb a e)) (fun a e => (hpo.nw _ (o2 a e).1).2), hpo.ap, fun a e => ⟨Nat.lt_of_lt_of_le (o1 a e).2 sv, (hpo.np _ (o1 a e).1).2⟩, fun a e => ⟨Nat.lt_of_lt_of_le (o2 a e).2 sv, (hpo.nw _ (o2 a e).1).1⟩, bv, hpo.p.lo, hpo.r.lo⟩
      have HB := hide hb'
      have HG := hide hg'
      have BD : Hid (∀ v0 v1, Below w.heap.size w ((wr.setCell ⟨w.heap.size, 0, none⟩ v0).setCell ⟨w.heap.size, 1, none⟩ v1)) := fun v0 v1 => (PZ.out.po.b.setCell (p := ⟨w.heap.size, 0, none⟩) (Nat.le_refl _) v0).setCell (p := ⟨w.heap.size, 1, none⟩) (Nat.le_refl _) v1
      have YY := hide PZ.out.y
      clear pr rr o1 o2 hb' hg'
      go_wp2_with fail
      refine bodyPost_ret (results_row1 Try.results8 _ _ _ _ rfl (loadVar_pipes (Ba.heap_setCell_same (Ba.heap_setCell_same YY.out _) _) rfl)) rfl ⟨oa, cp, bs, Fs, ob, cq, gs, Gs, rfl, HB.out, HG.out, FIN.out _ (fun x hx => ?_) (BD.out _ _) ?_⟩
      · rw [Below.heap_setCell _ _ _ _ hx, Below.heap_setCell _ _ _ _ hx]
      · simp [World.setCell]
end Fk
end Go.Proofs.Ytdcmlimglajpkaa
