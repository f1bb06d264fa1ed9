/- gauge.Check, over this seat's program. -/
import Derived.Test.YtakbbhngcdccpaaGreatGuf
import Derived.Test.YtakbbhngcdccpaaGreatZkSn1
namespace Go.Proofs.YtakbbhngcdccpaaGreat
open Go.ChangeShapes Go.WideShapes Go.ChangeAt Go.RowKit
namespace Gu
open En Ba

theorem put_few (L : List Int) (e : Ev) (nx : Option Ev) : (put L e nx).length ≤ L.length + 1 := by
  unfold put
  split
  · simp
  · split
    · cases nx <;> simp
    · simp
theorem ins_few (s : In) (c : Int) (e : Ev) (nx : Option Ev) : (ins s c e nx).L.length ≤ s.L.length + 1 := by
  unfold ins
  split
  · exact Nat.le_succ _
  · split
    · have := put_few s.L e nx
      unfold mov
      split
      · split
        · rename_i v r hq
          rw [hq] at this
          simp at this ⊢
          omega
        · simp
      · exact this
    · exact Nat.le_succ _
theorem inn_few (l : List Ev) (k : Nat) (c : Int) : (inn l k c).L.length ≤ k := by
  induction k with
  | zero => simp [inn, in0]
  | succ k ih =>
    unfold inn
    split
    · exact Nat.le_trans (ins_few _ _ _ _) (by omega)
    · omega
theorem IG.bn {l : List Ev} {k : Nat} {s : Gs} (I : IG l k s) (hk : k ≤ 2000) : Bn s 2900 := by
  have h1 : ∀ (p : Ev → Bool), (l.take k).countP p ≤ k := fun p => Nat.le_trans List.countP_le_length (by simp; omega)
  refine ⟨?_, ?_, fun j d hd => ?_⟩
  · have := I.c.len
    have := h1 (fun x => decide (x.k = 1))
    unfold there at *
    omega
  · have := I.m.len
    have := h1 (fun x => decide (x.k = 2))
    omega
  · have hl : j < s.ch.length := (List.getElem?_eq_some_iff.1 hd).1
    have h2 := (I.m.at_ j hl).1
    rw [List.getD_eq_getElem?_getD, hd] at h2
    have h3 : d.vs = (inn l k (j : Int)).L := congrArg Chn.vs h2
    have := inn_few l k (j : Int)
    rw [h3]
    omega
theorem gw0 (w : World) (oa : Option Addr) (n c : Nat) : GW (((w.alloc (.cells #[.int .i64 0] 3)).alloc (.map #[] 0)).alloc (.cells #[.slice oa n c, .slice (some ⟨w.heap.size, 0, none⟩) 1 1, .map (some (w.heap.size + 1)), .bool false, .int .i64 0, .int .i64 0, .int .i64 0, .int .i64 0, .int .i64 0, .int .i64 0, .bool false, .bool false] 87)) w.heap.size (w.heap.size + 1 + 1) (.slice oa n c) gs0 := by
  have hR := heap_new ((w.alloc (.cells #[.int .i64 0] 3)).alloc (.map #[] 0)) (.cells #[.slice oa n c, .slice (some ⟨w.heap.size, 0, none⟩) 1 1, .map (some (w.heap.size + 1)), .bool false, .int .i64 0, .int .i64 0, .int .i64 0, .int .i64 0, .int .i64 0, .int .i64 0, .bool false, .bool false] 87)
  rw [World.size_alloc, World.size_alloc] at hR
  have hS := heap_below (heap_below (heap_new w (.cells #[.int .i64 0] 3)) (below_alloc _ (.map #[] 0))) (below_alloc _ (.cells #[.slice oa n c, .slice (some ⟨w.heap.size, 0, none⟩) 1 1, .map (some (w.heap.size + 1)), .bool false, .int .i64 0, .int .i64 0, .int .i64 0, .int .i64 0, .int .i64 0, .int .i64 0, .bool false, .bool false] 87))
  have hM := ((World.ownsMap_made (w.alloc (.cells #[.int .i64 0] 3)) Tryz.prog 3 mE).alloc (.cells #[.slice oa n c, .slice (some ⟨w.heap.size, 0, none⟩) 1 1, .map (some (w.heap.size + 1)), .bool false, .int .i64 0, .int .i64 0, .int .i64 0, .int .i64 0, .int .i64 0, .int .i64 0, .bool false, .bool false] 87)).mono (Nat.zero_le 100000)
  rw [World.size_alloc] at hM
  exact ⟨w.heap.size + 1, .slice (some ⟨w.heap.size, 0, none⟩) 1 1, .map [], [], ⟨by omega, by omega⟩, hR, ⟨rfl, .inr ⟨w.heap.size, 1, #[.int .i64 0], rfl, Nat.le_refl _, hS, Nat.le_refl _, by unfold maxLen; omega, by simp, by simp [ic, gs0]⟩⟩, hM, MI.nil, rfl, (fun i x c hx => by simp at hx), (fun i j x y hx => by simp at hx), (fun i x hx => by simp at hx)⟩
theorem hmf : ∀ (fn : Fn) (first cap : Array Value) (w : World), (Instr.makeFunc fn first cap).run Tryz.prog w = .ok (.func fn first cap) w := fun _ _ _ _ => rfl
set_option maxRecDepth 100000 in
set_option maxHeartbeats 6400000 in
theorem gcheck_any (oa : Option Addr) (l : List Ev) (c : Nat) (w : World) (hA : EsAt w oa l) (hl : l.length ≤ 2000) :
    Calls Tryz.prog 27 #[.slice oa l.length c] w fun r w' => (∃ n a, r = .returned (.tuple #[.int .i64 n, .int .i64 a]) ∧ Chk l n a) ∧ Below w.heap.size w w' := by
  have HA := hide hA
  have HL := hide hl
  have hmm := @run_makeMap Tryz.prog
  obtain ⟨M, hM⟩ : ∃ M, l.length = M := ⟨_, rfl⟩
  have HM := hide hM
  obtain ⟨ev, hev⟩ : ∃ ev, Value.slice oa l.length c = ev := ⟨_, rfl⟩
  have HEV := hide hev
  have G0 := hide (gw0 w oa l.length c)
  have B0 := hide (btr (btr (below_alloc w (.cells #[.int .i64 0] 3)) (below_alloc _ (.map #[] 0))) (below_alloc _ (.cells #[.slice oa l.length c, .slice (some ⟨w.heap.size, 0, none⟩) 1 1, .map (some (w.heap.size + 1)), .bool false, .int .i64 0, .int .i64 0, .int .i64 0, .int .i64 0, .int .i64 0, .int .i64 0, .bool false, .bool false] 87)))
  rw [hM] at hl G0 B0 ⊢
  clear hA hM hev
  go_enter Tryz.func27, Tryz.ntmps27
  go_upto_region 3 with fail
  clear hmm
  generalize ((w.alloc (.cells #[.int .i64 0] 3)).alloc (.map #[] 0)).alloc (.cells #[.slice oa M c, .slice (some ⟨w.heap.size, 0, none⟩) 1 1, .map (some (w.heap.size + 1)), .bool false, .int .i64 0, .int .i64 0, .int .i64 0, .int .i64 0, .int .i64 0, .int .i64 0, .bool false, .bool false] 87) = W0 at *
  obtain ⟨R, hR⟩ : ∃ R, w.heap.size + 1 + 1 = R := ⟨_, rfl⟩
  rw [hR] at G0 ⊢
  clear hR
  go_loopw [13] (fun i wr => ∃ (k : Nat) (s : Gs), k ≤ M ∧ i = .int .i64 (k : Int) ∧ IG l k s ∧ (∀ j, j < k → ∀ x, l[j]? = some x → ruleD l j x = 0) ∧ GW wr w.heap.size R (.slice oa M c) s ∧ Fb w.heap.size w wr) (fun i _ => M - (intOf i).toNat)
  case atStart => exact ⟨0, gs0, Nat.zero_le _, rfl, IG.nil l, fun j hj => absurd hj (Nat.not_lt_zero _), G0.out, Fb.of B0.out (Nat.le_refl _)⟩
  case round =>
    obtain ⟨k, s, hk, rfl, ig, hall, g, fb⟩ := hrel
    have IG0 := hide ig
    have ALL := hide hall
    have HG := hide g
    have FB := hide fb
    clear ig hall g fb G0 B0
    by_cases hlt : k < M
    · have hlt' : (k : Int) < (M : Int) := by omega
      obtain ⟨e, he⟩ : ∃ e, l[k]? = some e := ⟨_, List.getElem?_eq_getElem (by rw [HM.out]; omega)⟩
      have HE := hide he
      have BN := hide (IG0.out.bn (by omega))
      have AL := below_alloc wr (.cells #[.func (.func 49) #[.pointer (some ⟨R, 0, none⟩)] #[], .func (.func 50) #[.pointer (some ⟨R, 0, none⟩)] #[], .func (.func 51) #[.pointer (some ⟨R, 0, none⟩)] #[], .func (.func 52) #[.pointer (some ⟨R, 0, none⟩)] #[], .func (.func 53) #[.pointer (some ⟨R, 0, none⟩)] #[], .func (.func 54) #[.pointer (some ⟨R, 0, none⟩)] #[]] 43)
      have FB1 := hide (FB.out.trans (Fb.of AL (by have := FB.out.size; omega)))
      have CT : Hid (Calls Tryz.prog 48 #[.int .i64 (k : Int), .slice (some ⟨wr.heap.size, 0, none⟩) 6 6] (wr.alloc (.cells #[.func (.func 49) #[.pointer (some ⟨R, 0, none⟩)] #[], .func (.func 50) #[.pointer (some ⟨R, 0, none⟩)] #[], .func (.func 51) #[.pointer (some ⟨R, 0, none⟩)] #[], .func (.func 52) #[.pointer (some ⟨R, 0, none⟩)] #[], .func (.func 53) #[.pointer (some ⟨R, 0, none⟩)] #[], .func (.func 54) #[.pointer (some ⟨R, 0, none⟩)] #[]] 43)) fun r w' => BrP k e l[k + 1]? s w.heap.size R (.slice oa M c) (wr.alloc (.cells #[.func (.func 49) #[.pointer (some ⟨R, 0, none⟩)] #[], .func (.func 50) #[.pointer (some ⟨R, 0, none⟩)] #[], .func (.func 51) #[.pointer (some ⟨R, 0, none⟩)] #[], .func (.func 52) #[.pointer (some ⟨R, 0, none⟩)] #[], .func (.func 53) #[.pointer (some ⟨R, 0, none⟩)] #[], .func (.func 54) #[.pointer (some ⟨R, 0, none⟩)] #[]] 43)) r w') := by
        show Calls _ _ _ _ _
        have g := HG.out
        rw [← HM.out] at g ⊢
        have hg : GW (wr.alloc (.cells #[.func (.func 49) #[.pointer (some ⟨R, 0, none⟩)] #[], .func (.func 50) #[.pointer (some ⟨R, 0, none⟩)] #[], .func (.func 51) #[.pointer (some ⟨R, 0, none⟩)] #[], .func (.func 52) #[.pointer (some ⟨R, 0, none⟩)] #[], .func (.func 53) #[.pointer (some ⟨R, 0, none⟩)] #[], .func (.func 54) #[.pointer (some ⟨R, 0, none⟩)] #[]] 43)) w.heap.size R (.slice oa l.length c) s := by obtain ⟨mb, vs, D, cs, g⟩ := g; exact ⟨mb, vs, D, cs, g.below AL⟩
        exact bro_any hg HA.out rfl FB1.out.b HE.out BN.out (by have := HL.out; omega) (heap_new wr (.cells #[.func (.func 49) #[.pointer (some ⟨R, 0, none⟩)] #[], .func (.func 50) #[.pointer (some ⟨R, 0, none⟩)] #[], .func (.func 51) #[.pointer (some ⟨R, 0, none⟩)] #[], .func (.func 52) #[.pointer (some ⟨R, 0, none⟩)] #[], .func (.func 53) #[.pointer (some ⟨R, 0, none⟩)] #[], .func (.func 54) #[.pointer (some ⟨R, 0, none⟩)] #[]] 43))
      clear AL he
      have mf := hmf
      go_wp2_with fail
      refine CT.out.mono ?_
      rintro r w1 ⟨⟨n, hst, rfl⟩ | ⟨s', hst, rfl, g1⟩, fb1⟩
      · rcases stepG_is IG0.out HE.out with ⟨n', hn0, hrd, hq⟩ | ⟨-, t, hq, -⟩
        · rw [hst] at hq
          injection hq with hq
          subst hq
          have dn : (n != 0) = true := by simp [hn0]
          have FIN : Hid (Chk l n (k : Int)) := .inl ⟨k, e, HE.out, by rw [hrd]; exact hn0, hrd.symm, rfl, ALL.out⟩
          have FB2 := hide (FB1.out.trans fb1)
          clear hst hn0 hrd fb1 mf
          go_wp2_with fail
          go_ret2
          exact ⟨⟨_, _, rfl, FIN.out⟩, FB2.out.b⟩
        · rw [hst] at hq; cases hq
      · rcases stepG_is IG0.out HE.out with ⟨n', hn0, hrd, hq⟩ | ⟨hrd, t, hq, ig'⟩
        · rw [hst] at hq; cases hq
        · rw [hst] at hq
          injection hq with hq
          subst hq
          have IG1 := hide ig'
          have G1 := hide g1
          have FB2 := hide (FB1.out.trans fb1)
          have AL1 : Hid (∀ j, j < k + 1 → ∀ x, l[j]? = some x → ruleD l j x = 0) := fun j hj x hx => by
            by_cases hjk : j = k
            · subst hjk; rw [HE.out] at hx; cases hx; exact hrd
            · exact ALL.out j (by omega) x hx
          clear hst hrd fb1 ig' g1 mf
          go_wp2_with fail
          go_roundw
          case measure => simp [intOf]; omega
          case rel => exact ⟨k + 1, s', by omega, by simp, IG1.out, AL1.out, G1.out, FB2.out⟩
    · have hge : k = M := by omega
      have dl : decide ((k : Int) < (M : Int)) = false := by simp; omega
      have dl2 : decide (k < M) = false := by simp; omega
      have IG1 : Hid (IG l l.length s) := by show IG _ _ _; rw [HM.out, ← hge]; exact IG0.out
      have AL1 : Hid (∀ j x, l[j]? = some x → ruleD l j x = 0) := fun j x hx => ALL.out j (by have := (List.getElem?_eq_some_iff.1 hx).1; have := HM.out; omega) x hx
      have OW := hide (owed_any HG.out)
      have OI := hide IG1.out.owed
      obtain ⟨ow, how⟩ : ∃ ow, owed s.la = ow := ⟨_, rfl⟩
      rw [how] at OW OI
      clear hge how hlt
      go_wp2_with fail
      refine OW.out.mono ?_
      rintro r w1 ⟨rfl, rfl⟩
      cases ow
      · have FIN : Hid (Chk l 0 0) := .inr ⟨AL1.out, by rw [← OI.out]; rfl⟩
        go_wp2_with fail
        go_ret2
        exact ⟨⟨_, _, rfl, FIN.out⟩, FB.out.b⟩
      · have FIN : Hid (Chk l 4 (M : Int)) := .inr ⟨AL1.out, by rw [← OI.out, HM.out]; rfl⟩
        go_wp2_with fail
        go_ret2
        exact ⟨⟨_, _, rfl, FIN.out⟩, FB.out.b⟩
end Gu
end Go.Proofs.YtakbbhngcdccpaaGreat
