/- The reference's slots: Held, over this seat's program. -/
import Derived.Test.YtekdcfdjohlfcaaTt
namespace Go.Proofs.Ytekdcfdjohlfcaa
open Go.ChangeShapes Go.WideShapes Go.ChangeAt Go.RowKit
namespace Sl
open Ck
open Ba (KF Bd Nw)

/-- a row of clocks that was made since w0 -/
structure OutOk (w0 wr : World) (v : Value) (Fs : List (Nat → Int)) : Prop where
  own : wr.ownsRow 0 39 256 v Fs.length (rcs Fs)
  new : ∀ x, v.ownBlock = some x → w0.heap.size ≤ x
  bl : Below w0.heap.size w0 wr
theorem OutOk.below {w0 wr w' : World} {v : Value} {Fs : List (Nat → Int)} (h : OutOk w0 wr v Fs) (b : Below wr.heap.size wr w') : OutOk w0 w' v Fs := ⟨own_below' h.own b, h.new, btr h.bl b⟩
theorem out_app {w0 wr : World} {v : Value} {Fs : List (Nat → Int)} (h : OutOk w0 wr v Fs) (F : Nat → Int) (hl : Fs.length ≤ 1000000) :
    ∃ oa n c w5, (Builtin.append_ #[94, 94] 94 #[v, .slice (some ⟨wr.heap.size, 0, none⟩) 1 1]).run Try.prog (wr.alloc (.cells (ra F) 39)) = .ok (.slice oa n c) w5 ∧ OutOk w0 w5 (.slice oa n c) (Fs ++ [F]) := by
  obtain ⟨v', w5, hr5, ho5, hg5, hat5⟩ := rapp F wr.heap.size (own_below' h.own (below_alloc _ (.cells (ra F) 39))) (heap_new wr _) hl
  obtain ⟨oa', ca', rfl⟩ := own_sl' ho5
  have h2 := h.bl.size
  have b1 := btr h.bl (below_alloc wr (.cells (ra F) 39))
  have hs : (wr.alloc (.cells (ra F) 39)).heap.size = wr.heap.size + 1 := World.size_alloc _ _
  refine ⟨_, _, _, w5, hr5, ho5, fun x e => ?_, ?_⟩
  · rcases hat5 with q | q
    · exact h.new x (q.symm.trans e)
    · have e' : (wr.alloc (.cells (ra F) 39)).heap.size = x := by simpa using q.symm.trans e
      omega
  · have g := grown_below hg5 (B := w0.heap.size) (by omega) h.new
    exact ⟨g.os.trans b1.os, g.tape.trans b1.tape, g.output.trans b1.output, Nat.le_trans b1.size g.size, fun k hk => (g.block k hk).trans (b1.block k hk)⟩
def rh2 (st : Rst) (k : Nat) : List (Nat → Int) := if 0 < st.sz then (st.recd.take k).drop (st.sent.length - st.sz) else []
def rheld (st : Rst) : List (Nat → Int) := st.sent.drop st.recd.length ++ rh2 st st.recd.length ++ (if st.closed then [st.clg] else [])
theorem rh2_yes {st : Rst} {k : Nat} {F : Nat → Int} (h : 0 < st.sz ∧ st.sent.length ≤ k + st.sz) (hF : st.recd[k]? = some F) : rh2 st (k + 1) = rh2 st k ++ [F] := by
  have hk := (List.getElem?_eq_some_iff.1 hF).1
  unfold rh2
  rw [if_pos h.1, if_pos h.1, List.take_add_one, hF]
  exact List.drop_append_of_le_length (by rw [List.length_take]; omega)
theorem rh2_no {st : Rst} {k : Nat} (h : ¬ (0 < st.sz ∧ st.sent.length ≤ k + st.sz)) : rh2 st (k + 1) = rh2 st k := by
  unfold rh2
  by_cases q : 0 < st.sz
  · rw [if_pos q, if_pos q, List.drop_eq_nil_of_le (by rw [List.length_take]; omega), List.drop_eq_nil_of_le (by rw [List.length_take]; omega)]
  · rw [if_neg q, if_neg q]
theorem rh2_len (st : Rst) (k : Nat) : (rh2 st k).length ≤ st.recd.length := by
  unfold rh2
  by_cases q : 0 < st.sz
  · rw [if_pos q, List.length_drop, List.length_take]; omega
  · rw [if_neg q]; exact Nat.zero_le _
set_option maxRecDepth 100000 in
set_option maxHeartbeats 3200000 in
theorem rheld_any {w : World} {G : Nat} {st : Rst} {vs vr : Value} (s : RX w G st vs vr) (hr : st.recd.length ≤ st.sent.length) (hl : st.sent.length ≤ 100000) (hz : st.sz ≤ 4) :
    Calls Try.prog 48 #[.pointer (some ⟨G, 0, none⟩)] w fun r w' => ∃ v, r = .returned v ∧ OutOk w w' v (rheld st) := by
  obtain ⟨oa, ca, rfl⟩ := own_sl' s.os
  obtain ⟨ob, cb, rfl⟩ := own_sl' s.or_
  obtain ⟨y0, y1, y2, y3⟩ := s.cells
  have hlt0 := s.lt
  have HS := hide s
  clear s
  have RL := hide (rh2_len st)
  have HE : Hid (rheld st = st.sent.drop st.recd.length ++ rh2 st st.recd.length ++ (if st.closed then [st.clg] else [])) := rfl
  generalize hna : st.sent.length = a at *
  generalize hnb : st.recd.length = b at *
  have as_ : ∀ F, (ra F).size = 256 := ra_size
  have zc := zero_ref
  have HFO := hide fold_r
  have z0s := ra_size nf
  generalize hZ0 : ra nf = Z0 at zc z0s
  obtain ⟨RG, hrg⟩ : ∃ RG, Array.range 256 = RG := ⟨_, rfl⟩
  have FO : Hid (∀ F, Array.foldl (fun cs x => cs.setIfInBounds x.snd x.fst) (Array.map (fun x => Z0[x % 256]!) RG) (ra F).zipIdx 0 256 = ra F) := fun F => by rw [← hZ0, ← hrg]; exact HFO.out F
  clear HFO hZ0 as_
  go_enter Try.func48, Try.ntmps48
  go_wp2_with fail
  go_loopw [3, 4] (fun o i wr => ∃ (k : Nat) (v : Value), b ≤ k ∧ k ≤ a ∧ i = .int .i64 k ∧ o = v ∧ OutOk w wr v ((st.sent.drop b).take (k - b))) (fun _ i _ => a - (intOf i).toNat)
  case atStart => exact ⟨b, _, Nat.le_refl _, hr, rfl, rfl, ⟨by rw [Nat.sub_self, List.take_zero]; exact ⟨rfl, .inl ⟨rfl, rfl⟩⟩, fun x e => (by cases e), Below.refl _ _⟩⟩
  case round =>
    obtain ⟨k, v, hbk, hka, rfl, hov, oo⟩ := hrel
    replace hov := hov.symm
    subst hov
    have OO := hide oo
    clear oo
    have R1 := hide (HS.out.below OO.out.bl)
    have x1 : wr.cell? ⟨G, 1, none⟩ = some (.slice oa a ca) := R1.out.cells.2.1
    have x2 : wr.cell? ⟨G, 2, none⟩ = some (.slice ob b cb) := R1.out.cells.2.2.1
    have hG1 := R1.out.lt
    by_cases hlt : k < a
    · have hlt' : (k : Int) < (a : Int) := by omega
      obtain ⟨F, hF⟩ : ∃ F, st.sent[k]? = some F := ⟨_, List.getElem?_eq_getElem (by omega)⟩
      have hrow := R1.out.os
      rw [hna] at hrow
      obtain ⟨g, rfl⟩ := own_g' hrow (by omega)
      have LD := hide (ldv_ref (row_ra hrow hF))
      obtain ⟨o9, n9, c9, w5, hr5, oo5⟩ := out_app OO.out F (by rw [List.length_take, List.length_drop]; omega)
      have HR := hide hr5
      have O5 : Hid (OutOk w w5 (.slice o9 n9 c9) ((st.sent.drop b).take (k + 1 - b))) := by
        have e : (st.sent.drop b).take (k + 1 - b) = (st.sent.drop b).take (k - b) ++ [F] := by
          rw [show k + 1 - b = (k - b) + 1 by omega, List.take_add_one, List.getElem?_drop, show b + (k - b) = k by omega, hF]
          rfl
        rw [e]; exact oo5
      have as_ := ra_size F
      have fo := FO.out F
      clear hrow hF hr5 oo5
      generalize ra F = V at *
      go_wp2_with (first | refine wpL_load rfl 39 _ rfl _ _ rfl LD.out ?_ | (at_builtin; refine Lib.wpList_append_run _ rfl _ _ 94 94 rfl _ _ rfl rfl _ _ HR.out ?_))
      go_roundw
      case rel => exact ⟨k + 1, _, by omega, by omega, by go_num, rfl, O5.out⟩
      case measure => simp [intOf]; omega
    · have hlt' : ¬ ((k : Int) < (a : Int)) := by omega
      have hk : a = k := by omega
      subst hk
      have O0 : Hid (OutOk w wr v (st.sent.drop b ++ rh2 st 0)) := by
        have e0 : rh2 st 0 = [] := by unfold rh2; by_cases q : 0 < st.sz <;> simp [q]
        have := OO.out
        rw [List.take_of_length_le (by rw [List.length_drop]; omega)] at this
        rw [e0, List.append_nil]
        exact this
      clear OO R1
      go_wp2_with fail
      go_loopw [3, 35] (fun o i wr => ∃ (k : Nat) (v : Value), k ≤ b ∧ i = .int .i64 k ∧ o = v ∧ OutOk w wr v (st.sent.drop b ++ rh2 st k)) (fun _ i _ => b - (intOf i).toNat)
      case atStart => exact ⟨0, _, Nat.zero_le _, rfl, rfl, O0.out⟩
      case round =>
        obtain ⟨k, v, hkb, rfl, hov, oo⟩ := hrel
        replace hov := hov.symm
        subst hov
        have OO := hide oo
        clear oo
        have R1 := hide (HS.out.below OO.out.bl)
        obtain ⟨z, hz'⟩ : ∃ z : Int, (st.sz : Int) = z := ⟨_, rfl⟩
        have hz0 : 0 ≤ z ∧ z ≤ 4 := by omega
        have x0 : wr.cell? ⟨G, 0, none⟩ = some (.int .i64 z) := by rw [← hz']; exact R1.out.cells.1
        have x1 : wr.cell? ⟨G, 1, none⟩ = some (.slice oa a ca) := R1.out.cells.2.1
        have x2 : wr.cell? ⟨G, 2, none⟩ = some (.slice ob b cb) := R1.out.cells.2.2.1
        have hG1 := R1.out.lt
        by_cases hlt : k < b
        · have hlt' : (k : Int) < (b : Int) := by omega
          obtain ⟨F, hF⟩ : ∃ F, st.recd[k]? = some F := ⟨_, List.getElem?_eq_getElem (by omega)⟩
          by_cases hc : 0 < st.sz ∧ a ≤ k + st.sz
          · have d1 : decide (0 < z) = true := decide_eq_true (by omega)
            have d2 : decide ((a : Int) ≤ (k : Int) + z) = true := decide_eq_true (by omega)
            have hrow := (R1.out.below (Ba.bdrew1 wr)).or_
            rw [hnb] at hrow
            obtain ⟨g, rfl⟩ := own_g' hrow (by omega)
            have LD := hide (ldv_ref (row_ra hrow hF))
            obtain ⟨o9, n9, c9, w5, hr5, oo5⟩ := out_app (OO.out.below (Ba.bdrew1 wr)) F (by rw [List.length_append, List.length_drop]; have := RL.out k; omega)
            have HR := hide hr5
            have O5 : Hid (OutOk w w5 (.slice o9 n9 c9) (st.sent.drop b ++ rh2 st (k + 1))) := by
              rw [rh2_yes (by rw [hna]; exact hc) hF, ← List.append_assoc]; exact oo5
            have as_ := ra_size F
            have fo := FO.out F
            clear hrow hF hr5 oo5 hc hz'
            generalize ra F = V at *
            go_wp2_with fail
            go_region
            all_goals
              go_wp2_with (first | refine wpL_load rfl 39 _ rfl _ _ rfl LD.out ?_ | (at_builtin; refine Lib.wpList_append_run _ rfl _ _ 94 94 rfl _ _ rfl rfl _ _ HR.out ?_))
              go_roundw
              case rel => exact ⟨k + 1, _, by omega, by go_num, rfl, O5.out⟩
              case measure => simp [intOf]; omega
          · have O5 : Hid (OutOk w wr.drew v (st.sent.drop b ++ rh2 st (k + 1))) := by
              rw [rh2_no (by rw [hna]; exact hc)]; exact OO.out.below (Ba.bdrew1 wr)
            have key : ∀ (Gl : Prop), (decide (0 < z) = false → Gl) → (decide (0 < z) = true → decide ((a : Int) ≤ (k : Int) + z) = false → Gl) → Gl := by
              intro Gl g1 g2
              by_cases q : 0 < z
              · exact g2 (decide_eq_true q) (decide_eq_false (by omega))
              · exact g1 (decide_eq_false q)
            refine key _ (fun d1 => ?_) (fun d1 d2 => ?_)
            all_goals
              clear key hF hc hz'
              go_wp2_with fail
              go_region
              all_goals
                go_wp2_with fail
                go_roundw
                case rel => exact ⟨k + 1, _, by omega, by go_num, rfl, O5.out⟩
                case measure => simp [intOf]; omega
        · have hlt' : ¬ ((k : Int) < (b : Int)) := by omega
          have hk : b = k := by omega
          subst hk
          have x3 : wr.cell? ⟨G, 3, none⟩ = some (.bool st.closed) := R1.out.cells.2.2.2
          cases hcl : st.closed with
          | false =>
            rw [hcl] at x3 HE
            have FIN : Hid (OutOk w wr v (rheld st)) := by rw [HE.out]; show OutOk _ _ _ _; simpa using OO.out
            go_wp2_with fail
            go_ret
            exact ⟨_, rfl, FIN.out⟩
          | true =>
            rw [hcl] at x3 HE
            have LD := hide (ldv_ref R1.out.clg)
            obtain ⟨o9, n9, c9, w5, hr5, oo5⟩ := out_app OO.out st.clg (by rw [List.length_append, List.length_drop]; have := RL.out b; omega)
            have HR := hide hr5
            have FIN : Hid (OutOk w w5 (.slice o9 n9 c9) (rheld st)) := by rw [HE.out]; show OutOk _ _ _ _; simpa using oo5
            have as_ := ra_size st.clg
            have fo := FO.out st.clg
            clear hr5 oo5 R1 OO
            generalize ra st.clg = V at *
            go_wp2_with (first | refine wpL_load rfl 39 _ rfl _ _ rfl LD.out ?_ | (at_builtin; refine Lib.wpList_append_run _ rfl _ _ 94 94 rfl _ _ rfl rfl _ _ HR.out ?_))
            go_ret
            exact ⟨_, rfl, FIN.out⟩
end Sl
end Go.Proofs.Ytekdcfdjohlfcaa
