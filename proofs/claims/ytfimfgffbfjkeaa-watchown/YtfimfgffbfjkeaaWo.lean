/- Layer 16's law: does, of Know and Tell, over this seat's program. -/
import Derived.Test.YtfimfgffbfjkeaaWn
import Derived.Test.YtfimfgffbfjkeaaRo
import Derived.Deep.Cut
import Derived.Deep.DeepCutAuto
import Derived.Deep.RegionHeld3
namespace Go.Proofs.Ytfimfgffbfjkeaa
open Go.ChangeShapes Go.WideShapes Go.ChangeAt Go.RowKit
namespace Wq
open Ck
open Ba (KF Bd Nw)
open Wa (Wst IsSet Ext upf upf_same upf_other Used Fo WW WX)

theorem valid_trm {l : List Int} (h : Valid l) : Valid (trm l) := by
  intro k hk
  rw [nth_trm]
  rw [trm_length] at hk
  exact h k (Nat.lt_of_lt_of_le hk (tlen_le l))
theorem rlist_l {b off : Nat} (l : List Int) (n : Nat) (F : Nat → Int) (w : World) (h : RA w b off F) (hn : l.length = n) (hs : ∀ k, k < 256 → nth l k = F k) (hv : Valid l) (hc : Canon l) (hl : l.length ≤ 256) :
    Calls Try.prog 32 #[.pointer (some ⟨b, off, none⟩)] w fun r w' => ∃ oa c, r = .returned (.slice oa n c) ∧ Ck.At w' oa l ∧ Below w.heap.size w w' := by
  subst hn
  refine (rlist_any b off F w h (fun k hk => by rw [← hs k hk]; exact nth_nonneg hv k)).mono ?_
  rintro r w' ⟨L, oa, c, rfl, hat, hlen, hcan, hnth, hb⟩
  have e : L = l := canon_eq hcan hc fun k => by
    by_cases q : k < 256
    · rw [hnth k q, hs k q]
    · rw [nth_out _ _ (by omega), nth_out _ _ (by omega)]
  subst e
  exact ⟨oa, c, rfl, hat, hb⟩
section
variable {Y0 : Nat → Prop} {B G : Nat} {w : World} {st : Wst} {h : Nat → Option (List Int)} {qs : Qst}
theorem ofW (j : JW Y0 B G w st h qs) (oa : Option Addr) (l : List Int) (n c : Nat) (hn : l.length = n) (hA : Ck.At w oa l) (hlc : n ≤ c) (hc : c ≤ maxLen) (hl : n ≤ 256) (hv : Valid l) :
    Calls Try.prog 28 #[.slice oa n c] w fun r w' => ∃ A h', r = .returned (.tuple #[.pointer (some ⟨A, 0, none⟩), .int .i64 0]) ∧ Ext h h' ∧ h' A = some (trm l) ∧ JW Y0 B G w' st h' qs ∧ Below w.heap.size w w' := by
  obtain ⟨v, ⟨mb, D, s⟩, x, n'⟩ := j
  refine (of_fresh oa l n c hn w hA hl hlc hc hv).mono ?_
  rintro r w' ⟨A, rfl, G', cap, r1, a1, a2, a3, a4, b1⟩
  have hA0 : h A = none := by
    cases e : h A with
    | none => rfl
    | some l0 => have := (s.cx.get (Wa.hx_at e)).1.lt; omega
  refine ⟨A, upd h A (trm l), rfl, Wa.Ext.upd hA0, upd_same _ _ _, ⟨v, ⟨mb, D, s.clk ?_ (Wa.Kp.of b1 s.cx.base) fun b l' e => ⟨l', Wa.Ext.upd hA0 b l' e⟩⟩, x.below b1, n'⟩, b1⟩
  rw [← Wa.hx_upd]
  exact s.cx.fresh r1 a1 (fun x e => by cases e; exact a2) b1 (canon_trm l) (valid_trm hv) A
set_option maxRecDepth 100000 in
set_option maxHeartbeats 3200000 in
theorem does_know (j : JW Y0 B G w st h qs) (r : Rw st h qs)  (g k : Int) (hg : wfk g) (oa : Option Addr) (n cap : Nat) (l : List Int) (hn : l.length = n) (hA : Ck.At w oa l) (hlc : n ≤ cap) (hcm : cap ≤ maxLen) :
    Calls Try.prog 9 #[.pointer (some ⟨B, 0, none⟩), .pointer (some ⟨G, 0, none⟩), .agg #[.int .i64 2, .int .i64 g, .int .i64 k, .slice oa n cap]] w (DoW Y0 B G qs (2) w) := by
  unfold DoW
  have bA := below_alloc w (.cells #[.int .i64 2, .int .i64 g, .int .i64 k, .slice oa n cap] 33)
  have JN := hide (j.new (.cells #[.int .i64 2, .int .i64 g, .int .i64 k, .slice oa n cap] 33))
  have X5 := hide (heap_new w (.cells #[.int .i64 2, .int .i64 g, .int .i64 k, .slice oa n cap] 33))
  have KN := hide (j.kp bA)
  have LL : Hid (qs.L.length ≤ 100000 ∧ qs.T ≤ 256 ∧ qs.M ≤ 1048576) := ⟨r.len j, by have := j.bd; have := r.T; omega, by have := j.bd; have := r.M; omega⟩
  have R0 := hide r
  have AN := hide (hA.below bA)
  have HLC := hide (And.intro hlc hcm)
  have HNL := hide hn
  clear j r bA hA hlc hcm hn
  go_enter Try.func9, Try.ntmps9
  obtain ⟨Y1, hY1⟩ : ∃ Y1 : Nat → Prop, Y1 = fun x => Y0 x ∨ x = w.heap.size := ⟨_, rfl⟩
  have YI : Hid (∀ x, Y0 x → Y1 x) := by rw [hY1]; exact fun x q => .inl q
  have YB : Hid (Y1 w.heap.size) := by rw [hY1]; exact .inr rfl
  rw [← hY1] at JN
  clear hY1
  have zr := zero_ref
  have zs := ra_size nf
  by_cases hv : l.length ≤ 256 ∧ Valid l
  case neg =>
    obtain ⟨xe, O1, O2⟩ : ∃ xe : Int, Hid ((xe = 2 ∨ xe = 1) ∧ Calls Try.prog 28 #[.slice oa n cap] (w.alloc (.cells #[.int .i64 2, .int .i64 g, .int .i64 k, .slice oa n cap] 33)) fun r w' => r = .returned (.tuple #[.pointer none, .int .i64 xe]) ∧ w' = (w.alloc (.cells #[.int .i64 2, .int .i64 g, .int .i64 k, .slice oa n cap] 33))) ∧ Hid (Calls Try.prog 29 #[.slice oa n cap] (w.alloc (.cells #[.int .i64 2, .int .i64 g, .int .i64 k, .slice oa n cap] 33)) fun r w' => r = .returned (.tuple #[.agg (ra nf), .int .i64 xe]) ∧ Below (w.alloc (.cells #[.int .i64 2, .int .i64 g, .int .i64 k, .slice oa n cap] 33)).heap.size (w.alloc (.cells #[.int .i64 2, .int .i64 g, .int .i64 k, .slice oa n cap] 33)) w') := by
      have hx := HNL.out
      subst hx
      by_cases q : 256 < l.length
      · exact ⟨2, ⟨.inl rfl, of_long oa l.length cap _ q (Nat.le_trans HLC.out.1 HLC.out.2)⟩, rof_long oa l.length cap _ q (Nat.le_trans HLC.out.1 HLC.out.2)⟩
      · exact ⟨1, ⟨.inr rfl, of_bad oa l cap _ AN.out (by omega) (fun q2 => hv ⟨by omega, q2⟩)⟩, rof_bad oa l cap _ AN.out (by omega) (fun q2 => hv ⟨by omega, q2⟩)⟩
    have hx0 := O1.out.1
    have O1c := hide O1.out.2
    clear hv O1
    rcases hx0 with rfl | rfl
    all_goals
      go_wp2_with fail
      generalize w.alloc (.cells #[.int .i64 2, .int .i64 g, .int .i64 k, .slice oa n cap] 33) = W5 at *
      generalize w.heap.size = B5 at *
      refine O1c.out.mono ?_
      rintro r w0 ⟨rfl, e0⟩
      obtain rfl := e0.symm
      have y3 : W5.cell? ⟨B5, 3, none⟩ = some (.slice oa n cap) := cell_of X5.out 3
      have hB5 : B5 < W5.heap.size := Ba.heap_lt X5.out
      go_wp2_with fail
      refine O2.out.mono ?_
      rintro r w2 ⟨rfl, b2⟩
      have s1 := st_ref nf (heap_new w2 (.cells (ra nf) 59)) (ra_size nf)
      rw [setRow_new] at s1
      have b3 := btr b2 (below_alloc w2 (.cells (ra nf) 59))
      have FIN : Hid (∃ st' h' qs', JW Y0 B G (w2.alloc (.cells (ra nf) 59)).drew st' h' qs' ∧ Rw st' h' qs' ∧ Kp Y0 w (w2.alloc (.cells (ra nf) 59)).drew ∧ Nx 2 qs qs') := ⟨_, _, _, ((JN.out.below b3).less YI.out).below (Ba.bdrew1 _), R0.out, kp_d (Wa.kp_b KN.out b3 fun x q => JN.out.ylt x (YI.out x q)), Nx.refl _ _⟩
      clear b2 O1c O2 b3
      generalize ra nf = Z0 at *
      go_upto_region 10 with fail
      generalize w2.alloc (.cells Z0 59) = W6 at *
      try simp only [List.append_eq, List.cons_append, List.nil_append]
      refine wp_region_held_drew (S := (fun _ => True)) (by kernel_rfl) ?_ (fun hHeld => ?_)
      · trivial
      refine wpAnyH_take (i := 0) (v := ?_) rfl (by kernel_rfl) (by kernel_rfl) (by kernel_rfl) (fun _ _ _ h => h) (Or.inl ⟨by rfl, ?_⟩) (by assumption) ?_
      rotate_left
      · intro w0 hSw; (try dsimp only at hSw); go_simp <;> with_reducible rfl
      try simp only [Act.put, List.getElem_toArray, List.getElem_cons_zero, List.setIfInBounds_toArray, List.set_cons_zero, List.set_cons_succ]
      refine wpAnyH_take (i := 1) (v := ?_) rfl (by kernel_rfl) (by kernel_rfl) (by kernel_rfl) (fun _ _ _ h => h) (Or.inl ⟨by rfl, ?_⟩) (by assumption) ?_
      rotate_left
      · intro w0 hSw; (try dsimp only at hSw); go_simp <;> with_reducible rfl
      try simp only [Act.put, List.getElem_toArray, List.getElem_cons_zero, List.getElem_cons_succ, List.setIfInBounds_toArray, List.set_cons_zero, List.set_cons_succ]
      refine wpAnyH_take (i := 2) (v := ?_) rfl (by kernel_rfl) (by kernel_rfl) (by kernel_rfl) (fun _ _ _ h => h) (Or.inl ⟨by rfl, ?_⟩) (by assumption) ?_
      rotate_left
      · intro w0 hSw; (try dsimp only at hSw); go_simp <;> with_reducible rfl
      try simp only [Act.put, List.getElem_toArray, List.getElem_cons_zero, List.getElem_cons_succ, List.setIfInBounds_toArray, List.set_cons_zero, List.set_cons_succ]
      refine wpAnyH_take (i := 3) (v := ?_) rfl (by kernel_rfl) (by kernel_rfl) (by kernel_rfl) (fun _ _ _ h => h) (Or.inl ⟨by rfl, ?_⟩) (by assumption) ?_
      rotate_left
      · intro w0 hSw; (try dsimp only at hSw); go_simp <;> with_reducible rfl
      try simp only [Act.put, List.getElem_toArray, List.getElem_cons_zero, List.getElem_cons_succ, List.setIfInBounds_toArray, List.set_cons_zero, List.set_cons_succ]
      refine wpAnyH_take (i := 4) (v := ?_) rfl (by kernel_rfl) (by kernel_rfl) (by kernel_rfl) (fun _ _ _ h => h) (Or.inl ⟨by rfl, ?_⟩) (by assumption) ?_
      rotate_left
      · intro w0 hSw; (try dsimp only at hSw); go_simp <;> with_reducible rfl
      try simp only [Act.put, List.getElem_toArray, List.getElem_cons_zero, List.getElem_cons_succ, List.setIfInBounds_toArray, List.set_cons_zero, List.set_cons_succ]
      refine wpAnyH_take (i := 5) (v := ?_) rfl (by kernel_rfl) (by kernel_rfl) (by kernel_rfl) (fun _ _ _ h => h) (Or.inl ⟨by rfl, ?_⟩) (by assumption) ?_
      rotate_left
      · intro w0 hSw; (try dsimp only at hSw); go_simp <;> with_reducible rfl
      try simp only [Act.put, List.getElem_toArray, List.getElem_cons_zero, List.getElem_cons_succ, List.setIfInBounds_toArray, List.set_cons_zero, List.set_cons_succ]
      refine wpAnyH_take (i := 6) (v := ?_) rfl (by kernel_rfl) (by kernel_rfl) (by kernel_rfl) (fun _ _ _ h => h) (Or.inl ⟨by rfl, ?_⟩) (by assumption) ?_
      rotate_left
      · intro w0 hSw; (try dsimp only at hSw); go_simp <;> with_reducible rfl
      try simp only [Act.put, List.getElem_toArray, List.getElem_cons_zero, List.getElem_cons_succ, List.setIfInBounds_toArray, List.set_cons_zero, List.set_cons_succ]
      refine wpAnyH_take (i := 7) rfl (by kernel_rfl) (by kernel_rfl) (by kernel_rfl) (fun _ _ _ h => h) (Or.inr ⟨by rfl, rfl⟩) (by assumption) ?_
      try simp only [Act.put, List.getElem_toArray, List.getElem_cons_zero, List.getElem_cons_succ, List.setIfInBounds_toArray, List.set_cons_zero, List.set_cons_succ]
      refine wpAnyH_take (i := 8) rfl (by kernel_rfl) (by kernel_rfl) (by kernel_rfl) (fun _ _ _ h => h) (Or.inr ⟨by rfl, rfl⟩) (by assumption) ?_
      try simp only [Act.put, List.getElem_toArray, List.getElem_cons_zero, List.getElem_cons_succ, List.setIfInBounds_toArray, List.set_cons_zero, List.set_cons_succ]
      refine wpAnyH_take (i := 9) rfl (by kernel_rfl) (by kernel_rfl) (by kernel_rfl) (fun _ _ _ h => h) (Or.inr ⟨by rfl, rfl⟩) (by assumption) ?_
      try simp only [Act.put, List.getElem_toArray, List.getElem_cons_zero, List.getElem_cons_succ, List.setIfInBounds_toArray, List.set_cons_zero, List.set_cons_succ]
      refine wpAnyH_take (i := 10) rfl (by kernel_rfl) (by kernel_rfl) (by kernel_rfl) (fun _ _ _ h => h) (Or.inr ⟨by rfl, rfl⟩) (by assumption) ?_
      try simp only [Act.put, List.getElem_toArray, List.getElem_cons_zero, List.getElem_cons_succ, List.setIfInBounds_toArray, List.set_cons_zero, List.set_cons_succ]
      refine wpAnyH_take (i := 11) rfl (by kernel_rfl) (by kernel_rfl) (by kernel_rfl) (fun _ _ _ h => h) (Or.inr ⟨by rfl, rfl⟩) (by assumption) ?_
      try simp only [Act.put, List.getElem_toArray, List.getElem_cons_zero, List.getElem_cons_succ, List.setIfInBounds_toArray, List.set_cons_zero, List.set_cons_succ]
      refine wpAnyH_take (i := 12) rfl (by kernel_rfl) (by kernel_rfl) (by kernel_rfl) (fun _ _ _ h => h) (Or.inr ⟨by rfl, rfl⟩) (by assumption) ?_
      try simp only [Act.put, List.getElem_toArray, List.getElem_cons_zero, List.getElem_cons_succ, List.setIfInBounds_toArray, List.set_cons_zero, List.set_cons_succ]
      refine wpAnyH_take (i := 13) rfl (by kernel_rfl) (by kernel_rfl) (by kernel_rfl) (fun _ _ _ h => h) (Or.inr ⟨by rfl, rfl⟩) (by assumption) ?_
      try simp only [Act.put, List.getElem_toArray, List.getElem_cons_zero, List.getElem_cons_succ, List.setIfInBounds_toArray, List.set_cons_zero, List.set_cons_succ]
      refine wpAnyH_take (i := 14) rfl (by kernel_rfl) (by kernel_rfl) (by kernel_rfl) (fun _ _ _ h => h) (Or.inr ⟨by rfl, rfl⟩) (by assumption) ?_
      try simp only [Act.put, List.getElem_toArray, List.getElem_cons_zero, List.getElem_cons_succ, List.setIfInBounds_toArray, List.set_cons_zero, List.set_cons_succ]
      refine wpAnyH_take (i := 15) rfl (by kernel_rfl) (by kernel_rfl) (by kernel_rfl) (fun _ _ _ h => h) (Or.inr ⟨by rfl, rfl⟩) (by assumption) ?_
      try simp only [Act.put, List.getElem_toArray, List.getElem_cons_zero, List.getElem_cons_succ, List.setIfInBounds_toArray, List.set_cons_zero, List.set_cons_succ]
      refine wpAnyH_take (i := 16) rfl (by kernel_rfl) (by kernel_rfl) (by kernel_rfl) (fun _ _ _ h => h) (Or.inr ⟨by rfl, rfl⟩) (by assumption) ?_
      try simp only [Act.put, List.getElem_toArray, List.getElem_cons_zero, List.getElem_cons_succ, List.setIfInBounds_toArray, List.set_cons_zero, List.set_cons_succ]
      refine wpAnyH_take (i := 17) rfl (by kernel_rfl) (by kernel_rfl) (by kernel_rfl) (fun _ _ _ h => h) (Or.inr ⟨by rfl, rfl⟩) (by assumption) ?_
      try simp only [Act.put, List.getElem_toArray, List.getElem_cons_zero, List.getElem_cons_succ, List.setIfInBounds_toArray, List.set_cons_zero, List.set_cons_succ]
      refine wpAnyH_take (i := 18) (v := ?_) rfl (by kernel_rfl) (by kernel_rfl) (by kernel_rfl) (fun _ _ _ h => h) (Or.inl ⟨by rfl, ?_⟩) (by assumption) ?_
      rotate_left
      · intro w0 hSw; (try dsimp only at hSw); go_simp <;> with_reducible rfl
      try simp only [Act.put, List.getElem_toArray, List.getElem_cons_zero, List.getElem_cons_succ, List.setIfInBounds_toArray, List.set_cons_zero, List.set_cons_succ]
      refine wpAnyH_take (i := 19) (v := ?_) rfl (by kernel_rfl) (by kernel_rfl) (by kernel_rfl) (fun _ _ _ h => h) (Or.inl ⟨by rfl, ?_⟩) (by assumption) ?_
      rotate_left
      · intro w0 hSw; (try dsimp only at hSw); go_simp <;> with_reducible rfl
      try simp only [Act.put, List.getElem_toArray, List.getElem_cons_zero, List.getElem_cons_succ, List.setIfInBounds_toArray, List.set_cons_zero, List.set_cons_succ]
      refine wpAnyH_take (i := 20) (v := ?_) rfl (by kernel_rfl) (by kernel_rfl) (by kernel_rfl) (fun _ _ _ h => h) (Or.inl ⟨by rfl, ?_⟩) (by assumption) ?_
      rotate_left
      · intro w0 hSw; (try dsimp only at hSw); go_simp <;> with_reducible rfl
      try simp only [Act.put, List.getElem_toArray, List.getElem_cons_zero, List.getElem_cons_succ, List.setIfInBounds_toArray, List.set_cons_zero, List.set_cons_succ]
      refine wpAnyH_done (by kernel_rfl) ?_ _
      go_wp2_with fail
      go_ret
      exact ⟨rfl, FIN.out⟩
  case pos =>
    have OFH := hide (ofW JN.out oa l n cap HNL.out AN.out HLC.out.1 HLC.out.2 (by have := HNL.out; have := hv.1; omega) hv.2)
    have RO := hide (fun u (b : Below (w.alloc (.cells #[.int .i64 2, .int .i64 g, .int .i64 k, .slice oa n cap] 33)).heap.size (w.alloc (.cells #[.int .i64 2, .int .i64 g, .int .i64 k, .slice oa n cap] 33)) u) => rof_ok oa l cap u (AN.out.below b) hv.1 hv.2)
    rw [HNL.out] at RO
    have GD : Hid (Good (trm l) (nth l)) := fun k _ => nth_trm l k
    have vs_ := ra_size (nth l)
    clear hv AN
    go_wp2_with fail
    generalize w.alloc (.cells #[.int .i64 2, .int .i64 g, .int .i64 k, .slice oa n cap] 33) = W5 at *
    generalize w.heap.size = B5 at *
    refine OFH.out.mono ?_
    rintro r w2 ⟨a, h2', rfl, e2, ea, j2, b2⟩
    have X2 := hide (Ba.heap_below X5.out b2)
    have y3 : w2.cell? ⟨B5, 3, none⟩ = some (.slice oa n cap) := cell_of X2.out 3
    have hB5 : B5 < w2.heap.size := Ba.heap_lt X2.out
    have RO2 := hide (RO.out w2 b2)
    have J2 := hide j2
    have EA := hide ea
    have R2 := hide (R0.out.ext e2)
    have K2 := hide (Wa.kp_b KN.out b2 fun x q => JN.out.ylt x (YI.out x q))
    clear j2 ea e2 b2 OFH RO JN X5 KN R0
    go_wp2_with fail
    refine RO2.out.mono ?_
    rintro r w3 ⟨rfl, b3⟩
    have st1 := st_ref (nth l) (heap_new w3 (.cells (ra nf) 59)) (ra_size nf)
    rw [setRow_new] at st1
    have bb := btr b3 (below_alloc w3 (.cells (ra (nth l)) 59))
    have J3 := hide ((J2.out.below b3).new (.cells (ra (nth l)) 59))
    have X3 := hide (Ba.heap_below X2.out bb)
    have Y3 := hide (heap_new w3 (.cells (ra (nth l)) 59))
    have K3 := hide (Wa.kp_b K2.out bb fun x q => J2.out.ylt x (YI.out x q))
    clear b3 bb J2 X2 K2 RO2 y3 hB5
    obtain ⟨F, hF⟩ : ∃ F, nth l = F := ⟨_, rfl⟩
    rw [hF] at st1 J3 X3 Y3 K3 GD vs_ ⊢
    clear hF
    obtain ⟨V, hV⟩ : ∃ V, ra F = V := ⟨_, rfl⟩
    obtain ⟨Z0, hZ0⟩ : ∃ Z0, ra nf = Z0 := ⟨_, rfl⟩
    rw [hV] at st1 J3 X3 Y3 K3 vs_ ⊢
    rw [hZ0] at st1 zr zs
    have HV := hide hV
    clear hV hZ0
    go_upto_region 10 with fail
    clear st1 zr zs
    generalize w3.alloc (.cells V 59) = W3 at *
    generalize w3.heap.size = B13 at *
    obtain ⟨Y2, hY2⟩ : ∃ Y2 : Nat → Prop, Y2 = fun x => Y1 x ∨ x = B13 := ⟨_, rfl⟩
    have Y2B : Hid (Y2 B5 ∧ Y2 B13) := by rw [hY2]; exact ⟨.inl YB.out, .inr rfl⟩
    have Y2I : Hid (∀ x, Y0 x → Y2 x) := by rw [hY2]; exact fun x q => .inl (YI.out x q)
    have J3' : Hid (JW Y2 B G W3 st h2' qs) := by rw [hY2]; exact J3.out
    clear hY2 J3
    have JD := hide (J3'.out.below (Ba.bdrew1 _))
    have SP := hide (fun u (j : JW Y2 B G u st h2' qs) => knowP j R2.out g hg a (trm l) F EA.out GD.out)
    have KQ := hide (fun u h4 qs4 (e : Int) (kn : KnR qs g F e qs4) (j : JW Y2 B G u st h4 qs) => knowQ j LL.out.1 kn)
    rw [HV.out] at KQ
    obtain ⟨LC, hLC⟩ : ∃ LC : Nat → Sem (Array Value), ∀ n, loadCellsFrom (⟨B13, 0, none⟩ : Addr) 0 n #[] = LC n := ⟨fun n => loadCellsFrom (⟨B13, 0, none⟩ : Addr) 0 n #[], fun _ => rfl⟩
    have KC : Hid (∀ u : World, u.heap[B5]? = W3.heap[B5]? → u.heap[B13]? = W3.heap[B13]? → u.cell? ⟨B5, 1, none⟩ = some (.int .i64 g) ∧ (LC 256).run Try.prog u = .ok V u) := fun u hu hu2 => ⟨cell_of (hu.trans X3.out) 1, by rw [← hLC, ← HV.out]; exact ld_ref (RA.of (show u.heap[B13]? = some (.cells (ra F) 59 (0, 0)) by rw [hu2, HV.out]; exact Y3.out))⟩
    try simp only [List.append_eq, List.cons_append, List.nil_append]
    refine wp_region_held_drew (S := (fun w' => w'.cell? ⟨B5, 1, none⟩ = some (.int .i64 g) ∧ (LC 256).run Try.prog w' = .ok V w')) (by kernel_rfl) ?_ (fun hHeld => ?_)
    · exact KC.out _ rfl rfl
    refine wpAnyH_take (i := 0) (v := ?_) rfl (by kernel_rfl) (by kernel_rfl) (by kernel_rfl) (fun _ _ _ h => h) (Or.inl ⟨by rfl, ?_⟩) (by assumption) ?_
    rotate_left
    · intro w0 hSw; (try dsimp only at hSw); go_simp <;> with_reducible rfl
    try simp only [Act.put, List.getElem_toArray, List.getElem_cons_zero, List.setIfInBounds_toArray, List.set_cons_zero, List.set_cons_succ]
    refine wpAnyH_take (i := 1) (v := ?_) rfl (by kernel_rfl) (by kernel_rfl) (by kernel_rfl) (fun _ _ _ h => h) (Or.inl ⟨by rfl, ?_⟩) (by assumption) ?_
    rotate_left
    · intro w0 hSw; (try dsimp only at hSw); go_simp <;> with_reducible rfl
    try simp only [Act.put, List.getElem_toArray, List.getElem_cons_zero, List.getElem_cons_succ, List.setIfInBounds_toArray, List.set_cons_zero, List.set_cons_succ]
    refine wpAnyH_take (i := 2) (v := ?_) rfl (by kernel_rfl) (by kernel_rfl) (by kernel_rfl) (fun _ _ _ h => h) (Or.inl ⟨by rfl, ?_⟩) (by assumption) ?_
    rotate_left
    · intro w0 hSw; (try dsimp only at hSw); go_simp <;> with_reducible rfl
    try simp only [Act.put, List.getElem_toArray, List.getElem_cons_zero, List.getElem_cons_succ, List.setIfInBounds_toArray, List.set_cons_zero, List.set_cons_succ]
    refine wpAnyH_take (i := 3) (v := ?_) rfl (by kernel_rfl) (by kernel_rfl) (by kernel_rfl) (fun _ _ _ h => h) (Or.inl ⟨by rfl, ?_⟩) (by assumption) ?_
    rotate_left
    · intro w0 hSw; (try dsimp only at hSw); go_simp <;> with_reducible rfl
    try simp only [Act.put, List.getElem_toArray, List.getElem_cons_zero, List.getElem_cons_succ, List.setIfInBounds_toArray, List.set_cons_zero, List.set_cons_succ]
    refine wpAnyH_take (i := 4) (v := ?_) rfl (by kernel_rfl) (by kernel_rfl) (by kernel_rfl) (fun _ _ _ h => h) (Or.inl ⟨by rfl, ?_⟩) (by assumption) ?_
    rotate_left
    · intro w0 hSw; (try dsimp only at hSw); go_simp <;> with_reducible rfl
    try simp only [Act.put, List.getElem_toArray, List.getElem_cons_zero, List.getElem_cons_succ, List.setIfInBounds_toArray, List.set_cons_zero, List.set_cons_succ]
    refine wpAnyH_take (i := 5) (v := ?_) rfl (by kernel_rfl) (by kernel_rfl) (by kernel_rfl) (fun _ _ _ h => h) (Or.inl ⟨by rfl, ?_⟩) (by assumption) ?_
    rotate_left
    · intro w0 hSw; (try dsimp only at hSw); go_simp <;> with_reducible rfl
    try simp only [Act.put, List.getElem_toArray, List.getElem_cons_zero, List.getElem_cons_succ, List.setIfInBounds_toArray, List.set_cons_zero, List.set_cons_succ]
    refine wpAnyH_take (i := 6) (v := ?_) rfl (by kernel_rfl) (by kernel_rfl) (by kernel_rfl) (fun _ _ _ h => h) (Or.inl ⟨by rfl, ?_⟩) (by assumption) ?_
    rotate_left
    · intro w0 hSw; (try dsimp only at hSw); go_simp <;> with_reducible rfl
    try simp only [Act.put, List.getElem_toArray, List.getElem_cons_zero, List.getElem_cons_succ, List.setIfInBounds_toArray, List.set_cons_zero, List.set_cons_succ]
    refine wpAnyH_take (i := 7) (v := ?_) rfl (by kernel_rfl) (by kernel_rfl) (by kernel_rfl) (fun _ _ _ h => h) (Or.inl ⟨by rfl, ?_⟩) (by assumption) ?_
    rotate_left
    · intro w0 hSw; (try dsimp only at hSw); go_simp <;> with_reducible rfl
    try simp only [Act.put, List.getElem_toArray, List.getElem_cons_zero, List.getElem_cons_succ, List.setIfInBounds_toArray, List.set_cons_zero, List.set_cons_succ]
    refine wpAnyH_take (i := 8) (v := ?_) rfl (by kernel_rfl) (by kernel_rfl) (by kernel_rfl) (fun _ _ _ h => h) (Or.inl ⟨by rfl, ?_⟩) (by assumption) ?_
    rotate_left
    · intro w0 hSw; (try dsimp only at hSw); go_simp <;> with_reducible rfl
    try simp only [Act.put, List.getElem_toArray, List.getElem_cons_zero, List.getElem_cons_succ, List.setIfInBounds_toArray, List.set_cons_zero, List.set_cons_succ]
    refine wpAnyH_take (i := 9) (v := ?_) rfl (by kernel_rfl) (by kernel_rfl) (by kernel_rfl) (fun _ _ _ h => h) (Or.inl ⟨by rfl, ?_⟩) (by assumption) ?_
    rotate_left
    · intro w0 hSw; (try dsimp only at hSw); go_simp <;> with_reducible rfl
    try simp only [Act.put, List.getElem_toArray, List.getElem_cons_zero, List.getElem_cons_succ, List.setIfInBounds_toArray, List.set_cons_zero, List.set_cons_succ]
    refine wpAnyH_take (i := 10) (v := ?_) rfl (by kernel_rfl) (by kernel_rfl) (by kernel_rfl) (fun _ _ _ h => h) (Or.inl ⟨by rfl, ?_⟩) (by assumption) ?_
    rotate_left
    · intro w0 hSw; (try dsimp only at hSw); go_simp <;> with_reducible rfl
    try simp only [Act.put, List.getElem_toArray, List.getElem_cons_zero, List.getElem_cons_succ, List.setIfInBounds_toArray, List.set_cons_zero, List.set_cons_succ]
    refine wpAnyH_take (i := 12) (v := ?_) rfl (by kernel_rfl) (by kernel_rfl) (by kernel_rfl) (fun _ _ _ h => h) (Or.inl ⟨by rfl, ?_⟩) (by assumption) ?_
    rotate_left
    · intro w0 hSw; (try dsimp only at hSw); go_simp <;> with_reducible rfl
    try simp only [Act.put, List.getElem_toArray, List.getElem_cons_zero, List.getElem_cons_succ, List.setIfInBounds_toArray, List.set_cons_zero, List.set_cons_succ]
    refine wpAnyH_take (i := 13) (v := ?_) rfl (by kernel_rfl) (by kernel_rfl) (by kernel_rfl) (fun _ _ _ h => h) (Or.inl ⟨by rfl, ?_⟩) (by assumption) ?_
    rotate_left
    · intro w0 hSw; (try dsimp only at hSw); go_simp <;> with_reducible rfl
    try simp only [Act.put, List.getElem_toArray, List.getElem_cons_zero, List.getElem_cons_succ, List.setIfInBounds_toArray, List.set_cons_zero, List.set_cons_succ]
    refine wpAnyH_take (i := 14) (v := ?_) rfl (by kernel_rfl) (by kernel_rfl) (by kernel_rfl) (fun _ _ _ h => h) (Or.inl ⟨by rfl, ?_⟩) (by assumption) ?_
    rotate_left
    · intro w0 hSw; (try dsimp only at hSw); go_simp <;> with_reducible rfl
    try simp only [Act.put, List.getElem_toArray, List.getElem_cons_zero, List.getElem_cons_succ, List.setIfInBounds_toArray, List.set_cons_zero, List.set_cons_succ]
    refine wpAnyH_take (i := 15) (v := ?_) rfl (by kernel_rfl) (by kernel_rfl) (by kernel_rfl) (fun _ _ _ h => h) (Or.inl ⟨by rfl, ?_⟩) (by assumption) ?_
    rotate_left
    · intro w0 hSw; (try dsimp only at hSw); go_simp <;> with_reducible rfl
    try simp only [Act.put, List.getElem_toArray, List.getElem_cons_zero, List.getElem_cons_succ, List.setIfInBounds_toArray, List.set_cons_zero, List.set_cons_succ]
    refine wpAnyH_ready (rs := [11]) (by kernel_rfl) (by simp) ?_
    refine AllReadyH.cons rfl (fun K hK => ?_) AllReadyH.nil
    go_simp
    (go_at_call 24; refine (SP.out _ JD.out).mono ?_; rintro q v1 ⟨e, h4, qs4, rfl, kn, j4, k4, r4⟩)
    (try go_wp2_with fail)
    refine hK.out _ _ ?_ (fun hHeld => ?_)
    · (exact KC.out _ (k4.block B5 Y2B.out.1) (k4.block B13 Y2B.out.2))
    clear hK K
    try simp only [Act.put, List.getElem_toArray, List.getElem_cons_zero, List.getElem_cons_succ, List.setIfInBounds_toArray, List.set_cons_zero, List.set_cons_succ]
    refine wpAnyH_ready (rs := [16]) (by kernel_rfl) (by simp) ?_
    refine AllReadyH.cons rfl (fun K hK => ?_) AllReadyH.nil
    go_simp
    (go_at_call 30; refine (KQ.out _ _ _ _ kn j4).mono ?_; rintro q v2 ⟨rfl, j5, k5⟩)
    (try go_wp2_with fail)
    refine hK.out _ _ ?_ (fun hHeld => ?_)
    · (exact KC.out _ ((k5.block B5 Y2B.out.1).trans (k4.block B5 Y2B.out.1)) ((k5.block B13 Y2B.out.2).trans (k4.block B13 Y2B.out.2)))
    clear hK K
    try simp only [Act.put, List.getElem_toArray, List.getElem_cons_zero, List.getElem_cons_succ, List.setIfInBounds_toArray, List.set_cons_zero, List.set_cons_succ]
    refine wpAnyH_take (i := 17) (v := ?_) rfl (by kernel_rfl) (by kernel_rfl) (by kernel_rfl) (fun _ _ _ h => h) (Or.inl ⟨by rfl, ?_⟩) (by assumption) ?_
    rotate_left
    · intro w0 hSw; (try dsimp only at hSw); go_simp <;> with_reducible rfl
    try simp only [Act.put, List.getElem_toArray, List.getElem_cons_zero, List.getElem_cons_succ, List.setIfInBounds_toArray, List.set_cons_zero, List.set_cons_succ]
    refine wpAnyH_take (i := 18) (v := ?_) rfl (by kernel_rfl) (by kernel_rfl) (by kernel_rfl) (fun _ _ _ h => h) (Or.inl ⟨by rfl, ?_⟩) (by assumption) ?_
    rotate_left
    · intro w0 hSw; (try dsimp only at hSw); go_simp <;> with_reducible rfl
    try simp only [Act.put, List.getElem_toArray, List.getElem_cons_zero, List.getElem_cons_succ, List.setIfInBounds_toArray, List.set_cons_zero, List.set_cons_succ]
    refine wpAnyH_take (i := 19) (v := ?_) rfl (by kernel_rfl) (by kernel_rfl) (by kernel_rfl) (fun _ _ _ h => h) (Or.inl ⟨by rfl, ?_⟩) (by assumption) ?_
    rotate_left
    · intro w0 hSw; (try dsimp only at hSw); go_simp <;> with_reducible rfl
    try simp only [Act.put, List.getElem_toArray, List.getElem_cons_zero, List.getElem_cons_succ, List.setIfInBounds_toArray, List.set_cons_zero, List.set_cons_succ]
    refine wpAnyH_take (i := 20) (v := ?_) rfl (by kernel_rfl) (by kernel_rfl) (by kernel_rfl) (fun _ _ _ h => h) (Or.inl ⟨by rfl, ?_⟩) (by assumption) ?_
    rotate_left
    · intro w0 hSw; (try dsimp only at hSw); go_simp <;> with_reducible rfl
    try simp only [Act.put, List.getElem_toArray, List.getElem_cons_zero, List.getElem_cons_succ, List.setIfInBounds_toArray, List.set_cons_zero, List.set_cons_succ]
    refine wpAnyH_done (by kernel_rfl) ?_ _
    have FIN : Hid (∃ st' h' qs', JW Y0 B G v2 st' h' qs' ∧ Rw st' h' qs' ∧ Kp Y0 w v2 ∧ Nx 2 qs qs') := ⟨_, _, _, j5.less Y2I.out, r4, ((kp_d K3.out).trans (Wa.Kp.mono k4 Y2I.out)).trans (Wa.Kp.mono k5 Y2I.out), kn.nx⟩
    clear j5 k5 j4 k4 r4 kn
    go_wp2_with fail
    go_ret
    exact ⟨rfl, FIN.out⟩
end
end Wq
end Go.Proofs.Ytfimfgffbfjkeaa
