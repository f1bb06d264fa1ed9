/- Layer 16's law: does, of Tell, over this seat's program. -/
import Derived.Test.YtfimfgffbfjkeaaWo
import Derived.Test.YtfimfgffbfjkeaaRo
import Derived.Deep.Cut
import Derived.Deep.DeepCutAuto
import Derived.Deep.RegionHeld3
namespace Go.Proofs.Ytfimfgffbfjkeaa
open Go.ChangeShapes Go.WideShapes Go.ChangeAt Go.RowKit
namespace Wq
open Ck
open Ba (KF Bd Nw)
open Wa (Wst IsSet Ext upf upf_same upf_other Used Fo WW WX)

section
variable {Y0 : Nat → Prop} {B G : Nat} {w : World} {st : Wst} {h : Nat → Option (List Int)} {qs : Qst}
set_option maxRecDepth 100000 in
set_option maxHeartbeats 3200000 in
theorem does_tell3 (j : JW Y0 B G w st h qs) (r : Rw st h qs)  (g k : Int) (hg : wfk g) (hk : wfk k) (oa : Option Addr) (n cap : Nat) :
    Calls Try.prog 9 #[.pointer (some ⟨B, 0, none⟩), .pointer (some ⟨G, 0, none⟩), .agg #[.int .i64 3, .int .i64 g, .int .i64 k, .slice oa n cap]] w (DoW Y0 B G qs (3) w) := by
  unfold DoW
  have bA := below_alloc w (.cells #[.int .i64 3, .int .i64 g, .int .i64 k, .slice oa n cap] 33)
  have JN := hide (j.new (.cells #[.int .i64 3, .int .i64 g, .int .i64 k, .slice oa n cap] 33))
  have X5 := hide (heap_new w (.cells #[.int .i64 3, .int .i64 g, .int .i64 k, .slice oa n cap] 33))
  have KN := hide (j.kp bA)
  have LL : Hid (qs.L.length ≤ 100000 ∧ qs.T ≤ 256 ∧ qs.M ≤ 1048576) := ⟨r.len j, by have := j.bd; have := r.T; omega, by have := j.bd; have := r.M; omega⟩
  have R0 := hide r
  clear j r bA
  go_enter Try.func9, Try.ntmps9
  obtain ⟨Y1, hY1⟩ : ∃ Y1 : Nat → Prop, Y1 = fun x => Y0 x ∨ x = w.heap.size := ⟨_, rfl⟩
  have YI : Hid (∀ x, Y0 x → Y1 x) := by rw [hY1]; exact fun x q => .inl q
  have YB : Hid (Y1 w.heap.size) := by rw [hY1]; exact .inr rfl
  rw [← hY1] at JN
  clear hY1
  have TP := hide (tellP JN.out R0.out g hg)
  have zr := zero_ref
  have zs := ra_size nf
  go_wp2_with fail
  generalize w.alloc (.cells #[.int .i64 3, .int .i64 g, .int .i64 k, .slice oa n cap] 33) = W5 at *
  generalize w.heap.size = B5 at *
  refine TP.out.mono ?_
  rintro q w2 ⟨p, e, F, h2, qs2, rfl, te, j2, k2, r2, pq⟩
  have X2 := hide ((k2.block B5 YB.out).trans X5.out)
  have y1 : w2.cell? ⟨B5, 1, none⟩ = some (.int .i64 g) := cell_of X2.out 1
  have hB : B5 < w2.heap.size := Ba.heap_lt X2.out
  have TQ := hide (tellQ j2 LL.out.1 LL.out.2.2 te)
  have K2 := hide (KN.out.trans (Wa.Kp.mono k2 YI.out))
  have R2 := hide r2
  have L2 : Hid (qs2.L.length ≤ 100000) := by
    have := LL.out.1
    rcases te with ⟨-, -, -, rfl⟩ | ⟨_, _, -, -, -, -, -, rfl⟩ | ⟨kk, oo, -, -, -, -, -, -, -, rfl⟩
    · exact this
    · exact this
    · show (qs.L.set kk _).length ≤ _
      rw [List.length_set]
      exact this
  have PQ : Hid ((p = none ∧ (e = 6 ∨ e = 5)) ∨ ∃ A l, p = some ⟨A, 0, none⟩ ∧ e = 0 ∧ h2 A = some l ∧ Good l F) := by
    rcases pq with ⟨rfl, he⟩ | q
    · refine .inl ⟨rfl, ?_⟩
      rcases te with ⟨-, -, rfl, -⟩ | ⟨_, _, -, -, -, -, rfl, -⟩ | ⟨_, _, -, -, -, -, -, -, rfl, -⟩
      · exact .inl rfl
      · exact .inr rfl
      · exact absurd rfl he
    · exact .inr q
  have FS := ra_size F
  obtain ⟨V, hV⟩ : ∃ V, ra F = V := ⟨_, rfl⟩
  rw [hV] at TQ FS
  have HV := hide hV
  have TE := hide te
  clear j2 k2 r2 te TP pq hV
  go_wp2_with fail
  refine TQ.out.mono ?_
  rintro q w3 ⟨rfl, j3, k3⟩
  have st1 := st_ref F (heap_new w3 (.cells (ra nf) 59)) (ra_size nf)
  rw [setRow_new, HV.out] at st1
  have bA3 := below_alloc w3 (.cells V 59)
  have J3 := hide (j3.new (.cells V 59))
  have X3 := hide (Ba.heap_below ((k3.block B5 YB.out).trans X2.out) bA3)
  have Y3 := hide (heap_new w3 (.cells V 59))
  have K3 := hide (Wa.kp_b (K2.out.trans (Wa.Kp.mono k3 YI.out)) bA3 fun x q => j3.ylt x (YI.out x q))
  clear j3 k3 TQ bA3 X2 K2 y1 hB
  obtain ⟨Z0, hZ0⟩ : ∃ Z0, ra nf = Z0 := ⟨_, rfl⟩
  rw [hZ0] at st1 zr zs
  clear hZ0
  rcases PQ.out with ⟨rfl, he⟩ | ⟨A, l, rfl, rfl, hA, gd⟩
  · have FIN : Hid (∃ st' h' qs', JW Y0 B G (w3.alloc (.cells V 59)).drew st' h' qs' ∧ Rw st' h' qs' ∧ Kp Y0 w (w3.alloc (.cells V 59)).drew ∧ Nx (3) qs qs') := ⟨_, _, _, (J3.out.less fun x q => .inl (YI.out x q)).below (Ba.bdrew1 _), R2.out, kp_d K3.out, TE.out.nx R0.out (by rcases he with rfl | rfl <;> decide) (3)⟩
    clear J3 X3 Y3 K3 PQ
    rcases he with rfl | rfl
    all_goals
      go_upto_region 17 with fail
      generalize w3.alloc (.cells V 59) = W3 at *
      try simp only [List.append_eq, List.cons_append, List.nil_append]
      refine wp_region_held_drew (S := (fun _ => True)) (by kernel_rfl) ?_ (fun hHeld => ?_)
      · trivial
      refine wpAnyH_take (i := 0) (v := ?_) rfl (by kernel_rfl) (by kernel_rfl) (by kernel_rfl) (fun _ _ _ h => h) (Or.inl ⟨by rfl, ?_⟩) (by assumption) ?_
      rotate_left
      · intro w0 hSw; (try dsimp only at hSw); go_simp <;> with_reducible rfl
      try simp only [Act.put, List.getElem_toArray, List.getElem_cons_zero, List.setIfInBounds_toArray, List.set_cons_zero, List.set_cons_succ]
      refine wpAnyH_take (i := 1) (v := ?_) rfl (by kernel_rfl) (by kernel_rfl) (by kernel_rfl) (fun _ _ _ h => h) (Or.inl ⟨by rfl, ?_⟩) (by assumption) ?_
      rotate_left
      · intro w0 hSw; (try dsimp only at hSw); go_simp <;> with_reducible rfl
      try simp only [Act.put, List.getElem_toArray, List.getElem_cons_zero, List.getElem_cons_succ, List.setIfInBounds_toArray, List.set_cons_zero, List.set_cons_succ]
      refine wpAnyH_take (i := 2) (v := ?_) rfl (by kernel_rfl) (by kernel_rfl) (by kernel_rfl) (fun _ _ _ h => h) (Or.inl ⟨by rfl, ?_⟩) (by assumption) ?_
      rotate_left
      · intro w0 hSw; (try dsimp only at hSw); go_simp <;> with_reducible rfl
      try simp only [Act.put, List.getElem_toArray, List.getElem_cons_zero, List.getElem_cons_succ, List.setIfInBounds_toArray, List.set_cons_zero, List.set_cons_succ]
      refine wpAnyH_take (i := 3) rfl (by kernel_rfl) (by kernel_rfl) (by kernel_rfl) (fun _ _ _ h => h) (Or.inr ⟨by rfl, rfl⟩) (by assumption) ?_
      try simp only [Act.put, List.getElem_toArray, List.getElem_cons_zero, List.getElem_cons_succ, List.setIfInBounds_toArray, List.set_cons_zero, List.set_cons_succ]
      refine wpAnyH_take (i := 4) rfl (by kernel_rfl) (by kernel_rfl) (by kernel_rfl) (fun _ _ _ h => h) (Or.inr ⟨by rfl, rfl⟩) (by assumption) ?_
      try simp only [Act.put, List.getElem_toArray, List.getElem_cons_zero, List.getElem_cons_succ, List.setIfInBounds_toArray, List.set_cons_zero, List.set_cons_succ]
      refine wpAnyH_take (i := 5) rfl (by kernel_rfl) (by kernel_rfl) (by kernel_rfl) (fun _ _ _ h => h) (Or.inr ⟨by rfl, rfl⟩) (by assumption) ?_
      try simp only [Act.put, List.getElem_toArray, List.getElem_cons_zero, List.getElem_cons_succ, List.setIfInBounds_toArray, List.set_cons_zero, List.set_cons_succ]
      refine wpAnyH_take (i := 6) rfl (by kernel_rfl) (by kernel_rfl) (by kernel_rfl) (fun _ _ _ h => h) (Or.inr ⟨by rfl, rfl⟩) (by assumption) ?_
      try simp only [Act.put, List.getElem_toArray, List.getElem_cons_zero, List.getElem_cons_succ, List.setIfInBounds_toArray, List.set_cons_zero, List.set_cons_succ]
      refine wpAnyH_take (i := 7) rfl (by kernel_rfl) (by kernel_rfl) (by kernel_rfl) (fun _ _ _ h => h) (Or.inr ⟨by rfl, rfl⟩) (by assumption) ?_
      try simp only [Act.put, List.getElem_toArray, List.getElem_cons_zero, List.getElem_cons_succ, List.setIfInBounds_toArray, List.set_cons_zero, List.set_cons_succ]
      refine wpAnyH_take (i := 8) rfl (by kernel_rfl) (by kernel_rfl) (by kernel_rfl) (fun _ _ _ h => h) (Or.inr ⟨by rfl, rfl⟩) (by assumption) ?_
      try simp only [Act.put, List.getElem_toArray, List.getElem_cons_zero, List.getElem_cons_succ, List.setIfInBounds_toArray, List.set_cons_zero, List.set_cons_succ]
      refine wpAnyH_take (i := 9) rfl (by kernel_rfl) (by kernel_rfl) (by kernel_rfl) (fun _ _ _ h => h) (Or.inr ⟨by rfl, rfl⟩) (by assumption) ?_
      try simp only [Act.put, List.getElem_toArray, List.getElem_cons_zero, List.getElem_cons_succ, List.setIfInBounds_toArray, List.set_cons_zero, List.set_cons_succ]
      refine wpAnyH_take (i := 10) rfl (by kernel_rfl) (by kernel_rfl) (by kernel_rfl) (fun _ _ _ h => h) (Or.inr ⟨by rfl, rfl⟩) (by assumption) ?_
      try simp only [Act.put, List.getElem_toArray, List.getElem_cons_zero, List.getElem_cons_succ, List.setIfInBounds_toArray, List.set_cons_zero, List.set_cons_succ]
      refine wpAnyH_take (i := 11) rfl (by kernel_rfl) (by kernel_rfl) (by kernel_rfl) (fun _ _ _ h => h) (Or.inr ⟨by rfl, rfl⟩) (by assumption) ?_
      try simp only [Act.put, List.getElem_toArray, List.getElem_cons_zero, List.getElem_cons_succ, List.setIfInBounds_toArray, List.set_cons_zero, List.set_cons_succ]
      refine wpAnyH_take (i := 12) rfl (by kernel_rfl) (by kernel_rfl) (by kernel_rfl) (fun _ _ _ h => h) (Or.inr ⟨by rfl, rfl⟩) (by assumption) ?_
      try simp only [Act.put, List.getElem_toArray, List.getElem_cons_zero, List.getElem_cons_succ, List.setIfInBounds_toArray, List.set_cons_zero, List.set_cons_succ]
      refine wpAnyH_take (i := 13) rfl (by kernel_rfl) (by kernel_rfl) (by kernel_rfl) (fun _ _ _ h => h) (Or.inr ⟨by rfl, rfl⟩) (by assumption) ?_
      try simp only [Act.put, List.getElem_toArray, List.getElem_cons_zero, List.getElem_cons_succ, List.setIfInBounds_toArray, List.set_cons_zero, List.set_cons_succ]
      refine wpAnyH_take (i := 14) rfl (by kernel_rfl) (by kernel_rfl) (by kernel_rfl) (fun _ _ _ h => h) (Or.inr ⟨by rfl, rfl⟩) (by assumption) ?_
      try simp only [Act.put, List.getElem_toArray, List.getElem_cons_zero, List.getElem_cons_succ, List.setIfInBounds_toArray, List.set_cons_zero, List.set_cons_succ]
      refine wpAnyH_take (i := 15) rfl (by kernel_rfl) (by kernel_rfl) (by kernel_rfl) (fun _ _ _ h => h) (Or.inr ⟨by rfl, rfl⟩) (by assumption) ?_
      try simp only [Act.put, List.getElem_toArray, List.getElem_cons_zero, List.getElem_cons_succ, List.setIfInBounds_toArray, List.set_cons_zero, List.set_cons_succ]
      refine wpAnyH_take (i := 16) rfl (by kernel_rfl) (by kernel_rfl) (by kernel_rfl) (fun _ _ _ h => h) (Or.inr ⟨by rfl, rfl⟩) (by assumption) ?_
      try simp only [Act.put, List.getElem_toArray, List.getElem_cons_zero, List.getElem_cons_succ, List.setIfInBounds_toArray, List.set_cons_zero, List.set_cons_succ]
      refine wpAnyH_take (i := 17) rfl (by kernel_rfl) (by kernel_rfl) (by kernel_rfl) (fun _ _ _ h => h) (Or.inr ⟨by rfl, rfl⟩) (by assumption) ?_
      try simp only [Act.put, List.getElem_toArray, List.getElem_cons_zero, List.getElem_cons_succ, List.setIfInBounds_toArray, List.set_cons_zero, List.set_cons_succ]
      refine wpAnyH_take (i := 18) rfl (by kernel_rfl) (by kernel_rfl) (by kernel_rfl) (fun _ _ _ h => h) (Or.inr ⟨by rfl, rfl⟩) (by assumption) ?_
      try simp only [Act.put, List.getElem_toArray, List.getElem_cons_zero, List.getElem_cons_succ, List.setIfInBounds_toArray, List.set_cons_zero, List.set_cons_succ]
      refine wpAnyH_take (i := 19) rfl (by kernel_rfl) (by kernel_rfl) (by kernel_rfl) (fun _ _ _ h => h) (Or.inr ⟨by rfl, rfl⟩) (by assumption) ?_
      try simp only [Act.put, List.getElem_toArray, List.getElem_cons_zero, List.getElem_cons_succ, List.setIfInBounds_toArray, List.set_cons_zero, List.set_cons_succ]
      refine wpAnyH_take (i := 20) (v := ?_) rfl (by kernel_rfl) (by kernel_rfl) (by kernel_rfl) (fun _ _ _ h => h) (Or.inl ⟨by rfl, ?_⟩) (by assumption) ?_
      rotate_left
      · intro w0 hSw; (try dsimp only at hSw); go_simp <;> with_reducible rfl
      try simp only [Act.put, List.getElem_toArray, List.getElem_cons_zero, List.getElem_cons_succ, List.setIfInBounds_toArray, List.set_cons_zero, List.set_cons_succ]
      refine wpAnyH_take (i := 21) (v := ?_) rfl (by kernel_rfl) (by kernel_rfl) (by kernel_rfl) (fun _ _ _ h => h) (Or.inl ⟨by rfl, ?_⟩) (by assumption) ?_
      rotate_left
      · intro w0 hSw; (try dsimp only at hSw); go_simp <;> with_reducible rfl
      try simp only [Act.put, List.getElem_toArray, List.getElem_cons_zero, List.getElem_cons_succ, List.setIfInBounds_toArray, List.set_cons_zero, List.set_cons_succ]
      refine wpAnyH_done (by kernel_rfl) ?_ _
      go_wp2_with fail
      go_ret
      exact ⟨rfl, FIN.out⟩
  · have HA := hide hA
    have GD := hide gd
    clear hA gd PQ
    go_upto_region 17 with fail
    clear st1 zr zs
    generalize w3.alloc (.cells V 59) = W3 at *
    generalize w3.heap.size = B17 at *
    obtain ⟨Y2, hY2⟩ : ∃ Y2 : Nat → Prop, Y2 = fun x => Y1 x ∨ x = B17 := ⟨_, rfl⟩
    have Y2B : Hid (Y2 B5 ∧ Y2 B17) := by rw [hY2]; exact ⟨.inl YB.out, .inr rfl⟩
    have Y2I : Hid (∀ x, Y0 x → Y2 x) := by rw [hY2]; exact fun x q => .inl (YI.out x q)
    have J3' : Hid (JW Y2 B G W3 st h2 qs2) := by rw [hY2]; exact J3.out
    clear hY2 J3
    obtain ⟨ck, cn, vl⟩ := J3'.out.get HA.out
    have h256 : l.length ≤ 256 := by obtain ⟨_, _, _, _, _, _, q⟩ := ck; exact q
    obtain ⟨nl, hnl⟩ : ∃ nl, l.length = nl := ⟨_, rfl⟩
    have RA3 : RA W3 B17 0 F := RA.of (show W3.heap[B17]? = some (.cells (ra F) 59 (0, 0)) by rw [HV.out]; exact Y3.out)
    have L1 := hide (fun u (b : Below W3.heap.size W3 u) => Wa.list_is A l nl u (ck.below b) hnl)
    have L2b := hide (fun u (b : Below W3.heap.size W3 u) => rlist_l l nl F u (RA3.below b) hnl GD.out vl cn h256)
    have HNL := hide (And.intro hnl h256)
    have JD := hide (fun u (b : Below W3.heap.size W3 u) => J3'.out.below b)
    have SP := hide (fun u (j : JW Y2 B G u st h2 qs2) => knowP j R2.out k hk A l F HA.out GD.out)
    have KQ := hide (fun u h4 qs4 (e : Int) (kn : KnR qs2 k F e qs4) (j : JW Y2 B G u st h4 qs2) => knowQ j L2.out kn)
    rw [HV.out] at KQ
    obtain ⟨LC, hLC⟩ : ∃ LC : Nat → Sem (Array Value), ∀ n, loadCellsFrom (⟨B17, 0, none⟩ : Addr) 0 n #[] = LC n := ⟨fun n => loadCellsFrom (⟨B17, 0, none⟩ : Addr) 0 n #[], fun _ => rfl⟩
    have KC : Hid (∀ u : World, u.heap[B5]? = W3.heap[B5]? → u.heap[B17]? = W3.heap[B17]? → u.cell? ⟨B5, 2, none⟩ = some (.int .i64 k) ∧ (LC 256).run Try.prog u = .ok V u) := fun u hu hu2 => ⟨cell_of (hu.trans X3.out) 2, by rw [← hLC, ← HV.out]; exact ld_ref (RA.of (show u.heap[B17]? = some (.cells (ra F) 59 (0, 0)) by rw [hu2, HV.out]; exact Y3.out))⟩
    have KB : Hid (∀ u : World, Below W3.heap.size W3 u → u.cell? ⟨B5, 2, none⟩ = some (.int .i64 k) ∧ (LC 256).run Try.prog u = .ok V u) := fun u b => KC.out u (b.block B5 (Ba.heap_lt X3.out)) (b.block B17 (Ba.heap_lt Y3.out))
    have LT := hide (And.intro (Ba.heap_lt X3.out) (Ba.heap_lt Y3.out))
    clear ck cn vl h256 hnl RA3
    try simp only [List.append_eq, List.cons_append, List.nil_append]
    refine wp_region_held_drew (S := (fun w' => w'.cell? ⟨B5, 2, none⟩ = some (.int .i64 k) ∧ (LC 256).run Try.prog w' = .ok V w')) (by kernel_rfl) ?_ (fun hHeld => ?_)
    · exact KB.out _ (Ba.bdrew1 _)
    refine wpAnyH_take (i := 0) (v := ?_) rfl (by kernel_rfl) (by kernel_rfl) (by kernel_rfl) (fun _ _ _ h => h) (Or.inl ⟨by rfl, ?_⟩) (by assumption) ?_
    rotate_left
    · intro w0 hSw; (try dsimp only at hSw); go_simp <;> with_reducible rfl
    try simp only [Act.put, List.getElem_toArray, List.getElem_cons_zero, List.setIfInBounds_toArray, List.set_cons_zero, List.set_cons_succ]
    refine wpAnyH_take (i := 1) (v := ?_) rfl (by kernel_rfl) (by kernel_rfl) (by kernel_rfl) (fun _ _ _ h => h) (Or.inl ⟨by rfl, ?_⟩) (by assumption) ?_
    rotate_left
    · intro w0 hSw; (try dsimp only at hSw); go_simp <;> with_reducible rfl
    try simp only [Act.put, List.getElem_toArray, List.getElem_cons_zero, List.getElem_cons_succ, List.setIfInBounds_toArray, List.set_cons_zero, List.set_cons_succ]
    refine wpAnyH_take (i := 2) (v := ?_) rfl (by kernel_rfl) (by kernel_rfl) (by kernel_rfl) (fun _ _ _ h => h) (Or.inl ⟨by rfl, ?_⟩) (by assumption) ?_
    rotate_left
    · intro w0 hSw; (try dsimp only at hSw); go_simp <;> with_reducible rfl
    try simp only [Act.put, List.getElem_toArray, List.getElem_cons_zero, List.getElem_cons_succ, List.setIfInBounds_toArray, List.set_cons_zero, List.set_cons_succ]
    refine wpAnyH_take (i := 3) (v := ?_) rfl (by kernel_rfl) (by kernel_rfl) (by kernel_rfl) (fun _ _ _ h => h) (Or.inl ⟨by rfl, ?_⟩) (by assumption) ?_
    rotate_left
    · intro w0 hSw; (try dsimp only at hSw); go_simp <;> with_reducible rfl
    try simp only [Act.put, List.getElem_toArray, List.getElem_cons_zero, List.getElem_cons_succ, List.setIfInBounds_toArray, List.set_cons_zero, List.set_cons_succ]
    refine wpAnyH_ready (rs := [4]) (by kernel_rfl) (by simp) ?_
    refine AllReadyH.cons rfl (fun K hK => ?_) AllReadyH.nil
    go_simp
    (go_at_call 26; refine (L1.out _ (Ba.bdrew1 _)).mono ?_; rintro r v1 ⟨oa1, rfl, t1, d1⟩)
    (try go_wp2_with fail)
    refine hK.out _ _ ?_ (fun hHeld => ?_)
    · (exact KB.out _ (btr (Ba.bdrew1 _) d1))
    clear hK K
    try simp only [Act.put, List.getElem_toArray, List.getElem_cons_zero, List.getElem_cons_succ, List.setIfInBounds_toArray, List.set_cons_zero, List.set_cons_succ]
    refine wpAnyH_ready (rs := [5]) (by kernel_rfl) (by simp) ?_
    refine AllReadyH.cons rfl (fun K hK => ?_) AllReadyH.nil
    go_simp
    (go_at_call 32; refine (L2b.out _ (btr (Ba.bdrew1 _) d1)).mono ?_; rintro r v2 ⟨oa2, ca2, rfl, t2, d2⟩)
    (try go_wp2_with fail)
    refine hK.out _ _ ?_ (fun hHeld => ?_)
    · (exact KB.out _ (btr (btr (Ba.bdrew1 _) d1) d2))
    clear hK K
    try simp only [Act.put, List.getElem_toArray, List.getElem_cons_zero, List.getElem_cons_succ, List.setIfInBounds_toArray, List.set_cons_zero, List.set_cons_succ]
    refine wpAnyH_ready (rs := [6]) (by kernel_rfl) (by simp) ?_
    refine AllReadyH.cons rfl (fun K hK => ?_) AllReadyH.nil
    go_simp
    (go_at_call 25; refine (Wa.ints_b _ _ l l _ _ _ _ true (by simp) HNL.out.1 HNL.out.1 _ (t1.below d2) t2 (by have := HNL.out.1; have := HNL.out.2; omega) (by have := HNL.out.1; have := HNL.out.2; omega)).mono ?_; rintro r v3 ⟨rfl, d3⟩)
    (try go_wp2_with fail)
    refine hK.out _ _ ?_ (fun hHeld => ?_)
    · (exact KB.out _ (btr (btr (btr (Ba.bdrew1 _) d1) d2) d3))
    clear hK K
    try simp only [Act.put, List.getElem_toArray, List.getElem_cons_zero, List.getElem_cons_succ, List.setIfInBounds_toArray, List.set_cons_zero, List.set_cons_succ]
    refine wpAnyH_take (i := 7) (v := ?_) rfl (by kernel_rfl) (by kernel_rfl) (by kernel_rfl) (fun _ _ _ h => h) (Or.inl ⟨by rfl, ?_⟩) (by assumption) ?_
    rotate_left
    · intro w0 hSw; (try dsimp only at hSw); go_simp <;> with_reducible rfl
    try simp only [Act.put, List.getElem_toArray, List.getElem_cons_zero, List.getElem_cons_succ, List.setIfInBounds_toArray, List.set_cons_zero, List.set_cons_succ]
    refine wpAnyH_take (i := 8) (v := ?_) rfl (by kernel_rfl) (by kernel_rfl) (by kernel_rfl) (fun _ _ _ h => h) (Or.inl ⟨by rfl, ?_⟩) (by assumption) ?_
    rotate_left
    · intro w0 hSw; (try dsimp only at hSw); go_simp <;> with_reducible rfl
    try simp only [Act.put, List.getElem_toArray, List.getElem_cons_zero, List.getElem_cons_succ, List.setIfInBounds_toArray, List.set_cons_zero, List.set_cons_succ]
    refine wpAnyH_take (i := 9) (v := ?_) rfl (by kernel_rfl) (by kernel_rfl) (by kernel_rfl) (fun _ _ _ h => h) (Or.inl ⟨by rfl, ?_⟩) (by assumption) ?_
    rotate_left
    · intro w0 hSw; (try dsimp only at hSw); go_simp <;> with_reducible rfl
    try simp only [Act.put, List.getElem_toArray, List.getElem_cons_zero, List.getElem_cons_succ, List.setIfInBounds_toArray, List.set_cons_zero, List.set_cons_succ]
    refine wpAnyH_take (i := 10) (v := ?_) rfl (by kernel_rfl) (by kernel_rfl) (by kernel_rfl) (fun _ _ _ h => h) (Or.inl ⟨by rfl, ?_⟩) (by assumption) ?_
    rotate_left
    · intro w0 hSw; (try dsimp only at hSw); go_simp <;> with_reducible rfl
    try simp only [Act.put, List.getElem_toArray, List.getElem_cons_zero, List.getElem_cons_succ, List.setIfInBounds_toArray, List.set_cons_zero, List.set_cons_succ]
    refine wpAnyH_take (i := 11) (v := ?_) rfl (by kernel_rfl) (by kernel_rfl) (by kernel_rfl) (fun _ _ _ h => h) (Or.inl ⟨by rfl, ?_⟩) (by assumption) ?_
    rotate_left
    · intro w0 hSw; (try dsimp only at hSw); go_simp <;> with_reducible rfl
    try simp only [Act.put, List.getElem_toArray, List.getElem_cons_zero, List.getElem_cons_succ, List.setIfInBounds_toArray, List.set_cons_zero, List.set_cons_succ]
    refine wpAnyH_take (i := 13) (v := ?_) rfl (by kernel_rfl) (by kernel_rfl) (by kernel_rfl) (fun _ _ _ h => h) (Or.inl ⟨by rfl, ?_⟩) (by assumption) ?_
    rotate_left
    · intro w0 hSw; (try dsimp only at hSw); go_simp <;> with_reducible rfl
    try simp only [Act.put, List.getElem_toArray, List.getElem_cons_zero, List.getElem_cons_succ, List.setIfInBounds_toArray, List.set_cons_zero, List.set_cons_succ]
    refine wpAnyH_take (i := 14) (v := ?_) rfl (by kernel_rfl) (by kernel_rfl) (by kernel_rfl) (fun _ _ _ h => h) (Or.inl ⟨by rfl, ?_⟩) (by assumption) ?_
    rotate_left
    · intro w0 hSw; (try dsimp only at hSw); go_simp <;> with_reducible rfl
    try simp only [Act.put, List.getElem_toArray, List.getElem_cons_zero, List.getElem_cons_succ, List.setIfInBounds_toArray, List.set_cons_zero, List.set_cons_succ]
    refine wpAnyH_take (i := 15) (v := ?_) rfl (by kernel_rfl) (by kernel_rfl) (by kernel_rfl) (fun _ _ _ h => h) (Or.inl ⟨by rfl, ?_⟩) (by assumption) ?_
    rotate_left
    · intro w0 hSw; (try dsimp only at hSw); go_simp <;> with_reducible rfl
    try simp only [Act.put, List.getElem_toArray, List.getElem_cons_zero, List.getElem_cons_succ, List.setIfInBounds_toArray, List.set_cons_zero, List.set_cons_succ]
    refine wpAnyH_take (i := 16) (v := ?_) rfl (by kernel_rfl) (by kernel_rfl) (by kernel_rfl) (fun _ _ _ h => h) (Or.inl ⟨by rfl, ?_⟩) (by assumption) ?_
    rotate_left
    · intro w0 hSw; (try dsimp only at hSw); go_simp <;> with_reducible rfl
    try simp only [Act.put, List.getElem_toArray, List.getElem_cons_zero, List.getElem_cons_succ, List.setIfInBounds_toArray, List.set_cons_zero, List.set_cons_succ]
    refine wpAnyH_ready (rs := [12]) (by kernel_rfl) (by simp) ?_
    refine AllReadyH.cons rfl (fun K hK => ?_) AllReadyH.nil
    go_simp
    (go_at_call 24; refine (SP.out _ (JD.out _ (btr (btr (btr (Ba.bdrew1 _) d1) d2) d3))).mono ?_; rintro q v4 ⟨e, h4, qs4, rfl, kn, j4, k4, r4⟩)
    (try go_wp2_with fail)
    refine hK.out _ _ ?_ (fun hHeld => ?_)
    · (exact KC.out _ ((k4.block B5 Y2B.out.1).trans ((btr (btr (btr (Ba.bdrew1 _) d1) d2) d3).block B5 LT.out.1)) ((k4.block B17 Y2B.out.2).trans ((btr (btr (btr (Ba.bdrew1 _) d1) d2) d3).block B17 LT.out.2)))
    clear hK K
    try simp only [Act.put, List.getElem_toArray, List.getElem_cons_zero, List.getElem_cons_succ, List.setIfInBounds_toArray, List.set_cons_zero, List.set_cons_succ]
    refine wpAnyH_ready (rs := [17]) (by kernel_rfl) (by simp) ?_
    refine AllReadyH.cons rfl (fun K hK => ?_) AllReadyH.nil
    go_simp
    (go_at_call 30; refine (KQ.out _ _ _ _ kn j4).mono ?_; rintro q v5 ⟨rfl, j5, k5⟩)
    (try go_wp2_with fail)
    refine hK.out _ _ ?_ (fun hHeld => ?_)
    · (exact KC.out _ ((k5.block B5 Y2B.out.1).trans ((k4.block B5 Y2B.out.1).trans ((btr (btr (btr (Ba.bdrew1 _) d1) d2) d3).block B5 LT.out.1))) ((k5.block B17 Y2B.out.2).trans ((k4.block B17 Y2B.out.2).trans ((btr (btr (btr (Ba.bdrew1 _) d1) d2) d3).block B17 LT.out.2))))
    clear hK K
    try simp only [Act.put, List.getElem_toArray, List.getElem_cons_zero, List.getElem_cons_succ, List.setIfInBounds_toArray, List.set_cons_zero, List.set_cons_succ]
    refine wpAnyH_take (i := 18) (v := ?_) rfl (by kernel_rfl) (by kernel_rfl) (by kernel_rfl) (fun _ _ _ h => h) (Or.inl ⟨by rfl, ?_⟩) (by assumption) ?_
    rotate_left
    · intro w0 hSw; (try dsimp only at hSw); go_simp <;> with_reducible rfl
    try simp only [Act.put, List.getElem_toArray, List.getElem_cons_zero, List.getElem_cons_succ, List.setIfInBounds_toArray, List.set_cons_zero, List.set_cons_succ]
    refine wpAnyH_take (i := 19) (v := ?_) rfl (by kernel_rfl) (by kernel_rfl) (by kernel_rfl) (fun _ _ _ h => h) (Or.inl ⟨by rfl, ?_⟩) (by assumption) ?_
    rotate_left
    · intro w0 hSw; (try dsimp only at hSw); go_simp <;> with_reducible rfl
    try simp only [Act.put, List.getElem_toArray, List.getElem_cons_zero, List.getElem_cons_succ, List.setIfInBounds_toArray, List.set_cons_zero, List.set_cons_succ]
    refine wpAnyH_take (i := 20) (v := ?_) rfl (by kernel_rfl) (by kernel_rfl) (by kernel_rfl) (fun _ _ _ h => h) (Or.inl ⟨by rfl, ?_⟩) (by assumption) ?_
    rotate_left
    · intro w0 hSw; (try dsimp only at hSw); go_simp <;> with_reducible rfl
    try simp only [Act.put, List.getElem_toArray, List.getElem_cons_zero, List.getElem_cons_succ, List.setIfInBounds_toArray, List.set_cons_zero, List.set_cons_succ]
    refine wpAnyH_take (i := 21) (v := ?_) rfl (by kernel_rfl) (by kernel_rfl) (by kernel_rfl) (fun _ _ _ h => h) (Or.inl ⟨by rfl, ?_⟩) (by assumption) ?_
    rotate_left
    · intro w0 hSw; (try dsimp only at hSw); go_simp <;> with_reducible rfl
    try simp only [Act.put, List.getElem_toArray, List.getElem_cons_zero, List.getElem_cons_succ, List.setIfInBounds_toArray, List.set_cons_zero, List.set_cons_succ]
    refine wpAnyH_done (by kernel_rfl) ?_ _
    have FIN : Hid (∃ st' h' qs', JW Y0 B G v5 st' h' qs' ∧ Rw st' h' qs' ∧ Kp Y0 w v5 ∧ Nx (3) qs qs') := ⟨_, _, _, j5.less Y2I.out, r4, ((Wa.kp_b K3.out (btr (btr (btr (Ba.bdrew1 _) d1) d2) d3) fun x q => J3'.out.ylt x (Y2I.out x q)).trans (Wa.Kp.mono k4 Y2I.out)).trans (Wa.Kp.mono k5 Y2I.out), TeR.kn R0.out LL.out.2.1 TE.out kn (3)⟩
    clear j5 k5 j4 k4 r4 kn d1 d2 d3 t1 t2
    go_wp2_with fail
    go_ret
    exact ⟨rfl, FIN.out⟩
set_option maxRecDepth 100000 in
set_option maxHeartbeats 3200000 in
theorem does_tell4 (j : JW Y0 B G w st h qs) (r : Rw st h qs)  (g k : Int) (hg : wfk g) (hk : wfk k) (oa : Option Addr) (n cap : Nat) :
    Calls Try.prog 9 #[.pointer (some ⟨B, 0, none⟩), .pointer (some ⟨G, 0, none⟩), .agg #[.int .i64 4, .int .i64 g, .int .i64 k, .slice oa n cap]] w (DoW Y0 B G qs (4) w) := by
  unfold DoW
  have bA := below_alloc w (.cells #[.int .i64 4, .int .i64 g, .int .i64 k, .slice oa n cap] 33)
  have JN := hide (j.new (.cells #[.int .i64 4, .int .i64 g, .int .i64 k, .slice oa n cap] 33))
  have X5 := hide (heap_new w (.cells #[.int .i64 4, .int .i64 g, .int .i64 k, .slice oa n cap] 33))
  have KN := hide (j.kp bA)
  have LL : Hid (qs.L.length ≤ 100000 ∧ qs.T ≤ 256 ∧ qs.M ≤ 1048576) := ⟨r.len j, by have := j.bd; have := r.T; omega, by have := j.bd; have := r.M; omega⟩
  have R0 := hide r
  clear j r bA
  go_enter Try.func9, Try.ntmps9
  obtain ⟨Y1, hY1⟩ : ∃ Y1 : Nat → Prop, Y1 = fun x => Y0 x ∨ x = w.heap.size := ⟨_, rfl⟩
  have YI : Hid (∀ x, Y0 x → Y1 x) := by rw [hY1]; exact fun x q => .inl q
  have YB : Hid (Y1 w.heap.size) := by rw [hY1]; exact .inr rfl
  rw [← hY1] at JN
  clear hY1
  have TP := hide (tellP JN.out R0.out g hg)
  have zr := zero_ref
  have zs := ra_size nf
  go_wp2_with fail
  generalize w.alloc (.cells #[.int .i64 4, .int .i64 g, .int .i64 k, .slice oa n cap] 33) = W5 at *
  generalize w.heap.size = B5 at *
  refine TP.out.mono ?_
  rintro q w2 ⟨p, e, F, h2, qs2, rfl, te, j2, k2, r2, pq⟩
  have X2 := hide ((k2.block B5 YB.out).trans X5.out)
  have y1 : w2.cell? ⟨B5, 1, none⟩ = some (.int .i64 g) := cell_of X2.out 1
  have hB : B5 < w2.heap.size := Ba.heap_lt X2.out
  have TQ := hide (tellQ j2 LL.out.1 LL.out.2.2 te)
  have K2 := hide (KN.out.trans (Wa.Kp.mono k2 YI.out))
  have R2 := hide r2
  have L2 : Hid (qs2.L.length ≤ 100000) := by
    have := LL.out.1
    rcases te with ⟨-, -, -, rfl⟩ | ⟨_, _, -, -, -, -, -, rfl⟩ | ⟨kk, oo, -, -, -, -, -, -, -, rfl⟩
    · exact this
    · exact this
    · show (qs.L.set kk _).length ≤ _
      rw [List.length_set]
      exact this
  have PQ : Hid ((p = none ∧ (e = 6 ∨ e = 5)) ∨ ∃ A l, p = some ⟨A, 0, none⟩ ∧ e = 0 ∧ h2 A = some l ∧ Good l F) := by
    rcases pq with ⟨rfl, he⟩ | q
    · refine .inl ⟨rfl, ?_⟩
      rcases te with ⟨-, -, rfl, -⟩ | ⟨_, _, -, -, -, -, rfl, -⟩ | ⟨_, _, -, -, -, -, -, -, rfl, -⟩
      · exact .inl rfl
      · exact .inr rfl
      · exact absurd rfl he
    · exact .inr q
  have FS := ra_size F
  obtain ⟨V, hV⟩ : ∃ V, ra F = V := ⟨_, rfl⟩
  rw [hV] at TQ FS
  have HV := hide hV
  have TE := hide te
  clear j2 k2 r2 te TP pq hV
  go_wp2_with fail
  refine TQ.out.mono ?_
  rintro q w3 ⟨rfl, j3, k3⟩
  have st1 := st_ref F (heap_new w3 (.cells (ra nf) 59)) (ra_size nf)
  rw [setRow_new, HV.out] at st1
  have bA3 := below_alloc w3 (.cells V 59)
  have J3 := hide (j3.new (.cells V 59))
  have X3 := hide (Ba.heap_below ((k3.block B5 YB.out).trans X2.out) bA3)
  have Y3 := hide (heap_new w3 (.cells V 59))
  have K3 := hide (Wa.kp_b (K2.out.trans (Wa.Kp.mono k3 YI.out)) bA3 fun x q => j3.ylt x (YI.out x q))
  clear j3 k3 TQ bA3 X2 K2 y1 hB
  obtain ⟨Z0, hZ0⟩ : ∃ Z0, ra nf = Z0 := ⟨_, rfl⟩
  rw [hZ0] at st1 zr zs
  clear hZ0
  rcases PQ.out with ⟨rfl, he⟩ | ⟨A, l, rfl, rfl, hA, gd⟩
  · have FIN : Hid (∃ st' h' qs', JW Y0 B G (w3.alloc (.cells V 59)).drew st' h' qs' ∧ Rw st' h' qs' ∧ Kp Y0 w (w3.alloc (.cells V 59)).drew ∧ Nx (4) qs qs') := ⟨_, _, _, (J3.out.less fun x q => .inl (YI.out x q)).below (Ba.bdrew1 _), R2.out, kp_d K3.out, TE.out.nx R0.out (by rcases he with rfl | rfl <;> decide) (4)⟩
    clear J3 X3 Y3 K3 PQ
    rcases he with rfl | rfl
    all_goals
      go_upto_region 17 with fail
      generalize w3.alloc (.cells V 59) = W3 at *
      try simp only [List.append_eq, List.cons_append, List.nil_append]
      refine wp_region_held_drew (S := (fun _ => True)) (by kernel_rfl) ?_ (fun hHeld => ?_)
      · trivial
      refine wpAnyH_take (i := 0) (v := ?_) rfl (by kernel_rfl) (by kernel_rfl) (by kernel_rfl) (fun _ _ _ h => h) (Or.inl ⟨by rfl, ?_⟩) (by assumption) ?_
      rotate_left
      · intro w0 hSw; (try dsimp only at hSw); go_simp <;> with_reducible rfl
      try simp only [Act.put, List.getElem_toArray, List.getElem_cons_zero, List.setIfInBounds_toArray, List.set_cons_zero, List.set_cons_succ]
      refine wpAnyH_take (i := 1) (v := ?_) rfl (by kernel_rfl) (by kernel_rfl) (by kernel_rfl) (fun _ _ _ h => h) (Or.inl ⟨by rfl, ?_⟩) (by assumption) ?_
      rotate_left
      · intro w0 hSw; (try dsimp only at hSw); go_simp <;> with_reducible rfl
      try simp only [Act.put, List.getElem_toArray, List.getElem_cons_zero, List.getElem_cons_succ, List.setIfInBounds_toArray, List.set_cons_zero, List.set_cons_succ]
      refine wpAnyH_take (i := 2) (v := ?_) rfl (by kernel_rfl) (by kernel_rfl) (by kernel_rfl) (fun _ _ _ h => h) (Or.inl ⟨by rfl, ?_⟩) (by assumption) ?_
      rotate_left
      · intro w0 hSw; (try dsimp only at hSw); go_simp <;> with_reducible rfl
      try simp only [Act.put, List.getElem_toArray, List.getElem_cons_zero, List.getElem_cons_succ, List.setIfInBounds_toArray, List.set_cons_zero, List.set_cons_succ]
      refine wpAnyH_take (i := 3) rfl (by kernel_rfl) (by kernel_rfl) (by kernel_rfl) (fun _ _ _ h => h) (Or.inr ⟨by rfl, rfl⟩) (by assumption) ?_
      try simp only [Act.put, List.getElem_toArray, List.getElem_cons_zero, List.getElem_cons_succ, List.setIfInBounds_toArray, List.set_cons_zero, List.set_cons_succ]
      refine wpAnyH_take (i := 4) rfl (by kernel_rfl) (by kernel_rfl) (by kernel_rfl) (fun _ _ _ h => h) (Or.inr ⟨by rfl, rfl⟩) (by assumption) ?_
      try simp only [Act.put, List.getElem_toArray, List.getElem_cons_zero, List.getElem_cons_succ, List.setIfInBounds_toArray, List.set_cons_zero, List.set_cons_succ]
      refine wpAnyH_take (i := 5) rfl (by kernel_rfl) (by kernel_rfl) (by kernel_rfl) (fun _ _ _ h => h) (Or.inr ⟨by rfl, rfl⟩) (by assumption) ?_
      try simp only [Act.put, List.getElem_toArray, List.getElem_cons_zero, List.getElem_cons_succ, List.setIfInBounds_toArray, List.set_cons_zero, List.set_cons_succ]
      refine wpAnyH_take (i := 6) rfl (by kernel_rfl) (by kernel_rfl) (by kernel_rfl) (fun _ _ _ h => h) (Or.inr ⟨by rfl, rfl⟩) (by assumption) ?_
      try simp only [Act.put, List.getElem_toArray, List.getElem_cons_zero, List.getElem_cons_succ, List.setIfInBounds_toArray, List.set_cons_zero, List.set_cons_succ]
      refine wpAnyH_take (i := 7) rfl (by kernel_rfl) (by kernel_rfl) (by kernel_rfl) (fun _ _ _ h => h) (Or.inr ⟨by rfl, rfl⟩) (by assumption) ?_
      try simp only [Act.put, List.getElem_toArray, List.getElem_cons_zero, List.getElem_cons_succ, List.setIfInBounds_toArray, List.set_cons_zero, List.set_cons_succ]
      refine wpAnyH_take (i := 8) rfl (by kernel_rfl) (by kernel_rfl) (by kernel_rfl) (fun _ _ _ h => h) (Or.inr ⟨by rfl, rfl⟩) (by assumption) ?_
      try simp only [Act.put, List.getElem_toArray, List.getElem_cons_zero, List.getElem_cons_succ, List.setIfInBounds_toArray, List.set_cons_zero, List.set_cons_succ]
      refine wpAnyH_take (i := 9) rfl (by kernel_rfl) (by kernel_rfl) (by kernel_rfl) (fun _ _ _ h => h) (Or.inr ⟨by rfl, rfl⟩) (by assumption) ?_
      try simp only [Act.put, List.getElem_toArray, List.getElem_cons_zero, List.getElem_cons_succ, List.setIfInBounds_toArray, List.set_cons_zero, List.set_cons_succ]
      refine wpAnyH_take (i := 10) rfl (by kernel_rfl) (by kernel_rfl) (by kernel_rfl) (fun _ _ _ h => h) (Or.inr ⟨by rfl, rfl⟩) (by assumption) ?_
      try simp only [Act.put, List.getElem_toArray, List.getElem_cons_zero, List.getElem_cons_succ, List.setIfInBounds_toArray, List.set_cons_zero, List.set_cons_succ]
      refine wpAnyH_take (i := 11) rfl (by kernel_rfl) (by kernel_rfl) (by kernel_rfl) (fun _ _ _ h => h) (Or.inr ⟨by rfl, rfl⟩) (by assumption) ?_
      try simp only [Act.put, List.getElem_toArray, List.getElem_cons_zero, List.getElem_cons_succ, List.setIfInBounds_toArray, List.set_cons_zero, List.set_cons_succ]
      refine wpAnyH_take (i := 12) rfl (by kernel_rfl) (by kernel_rfl) (by kernel_rfl) (fun _ _ _ h => h) (Or.inr ⟨by rfl, rfl⟩) (by assumption) ?_
      try simp only [Act.put, List.getElem_toArray, List.getElem_cons_zero, List.getElem_cons_succ, List.setIfInBounds_toArray, List.set_cons_zero, List.set_cons_succ]
      refine wpAnyH_take (i := 13) rfl (by kernel_rfl) (by kernel_rfl) (by kernel_rfl) (fun _ _ _ h => h) (Or.inr ⟨by rfl, rfl⟩) (by assumption) ?_
      try simp only [Act.put, List.getElem_toArray, List.getElem_cons_zero, List.getElem_cons_succ, List.setIfInBounds_toArray, List.set_cons_zero, List.set_cons_succ]
      refine wpAnyH_take (i := 14) rfl (by kernel_rfl) (by kernel_rfl) (by kernel_rfl) (fun _ _ _ h => h) (Or.inr ⟨by rfl, rfl⟩) (by assumption) ?_
      try simp only [Act.put, List.getElem_toArray, List.getElem_cons_zero, List.getElem_cons_succ, List.setIfInBounds_toArray, List.set_cons_zero, List.set_cons_succ]
      refine wpAnyH_take (i := 15) rfl (by kernel_rfl) (by kernel_rfl) (by kernel_rfl) (fun _ _ _ h => h) (Or.inr ⟨by rfl, rfl⟩) (by assumption) ?_
      try simp only [Act.put, List.getElem_toArray, List.getElem_cons_zero, List.getElem_cons_succ, List.setIfInBounds_toArray, List.set_cons_zero, List.set_cons_succ]
      refine wpAnyH_take (i := 16) rfl (by kernel_rfl) (by kernel_rfl) (by kernel_rfl) (fun _ _ _ h => h) (Or.inr ⟨by rfl, rfl⟩) (by assumption) ?_
      try simp only [Act.put, List.getElem_toArray, List.getElem_cons_zero, List.getElem_cons_succ, List.setIfInBounds_toArray, List.set_cons_zero, List.set_cons_succ]
      refine wpAnyH_take (i := 17) rfl (by kernel_rfl) (by kernel_rfl) (by kernel_rfl) (fun _ _ _ h => h) (Or.inr ⟨by rfl, rfl⟩) (by assumption) ?_
      try simp only [Act.put, List.getElem_toArray, List.getElem_cons_zero, List.getElem_cons_succ, List.setIfInBounds_toArray, List.set_cons_zero, List.set_cons_succ]
      refine wpAnyH_take (i := 18) rfl (by kernel_rfl) (by kernel_rfl) (by kernel_rfl) (fun _ _ _ h => h) (Or.inr ⟨by rfl, rfl⟩) (by assumption) ?_
      try simp only [Act.put, List.getElem_toArray, List.getElem_cons_zero, List.getElem_cons_succ, List.setIfInBounds_toArray, List.set_cons_zero, List.set_cons_succ]
      refine wpAnyH_take (i := 19) rfl (by kernel_rfl) (by kernel_rfl) (by kernel_rfl) (fun _ _ _ h => h) (Or.inr ⟨by rfl, rfl⟩) (by assumption) ?_
      try simp only [Act.put, List.getElem_toArray, List.getElem_cons_zero, List.getElem_cons_succ, List.setIfInBounds_toArray, List.set_cons_zero, List.set_cons_succ]
      refine wpAnyH_take (i := 20) (v := ?_) rfl (by kernel_rfl) (by kernel_rfl) (by kernel_rfl) (fun _ _ _ h => h) (Or.inl ⟨by rfl, ?_⟩) (by assumption) ?_
      rotate_left
      · intro w0 hSw; (try dsimp only at hSw); go_simp <;> with_reducible rfl
      try simp only [Act.put, List.getElem_toArray, List.getElem_cons_zero, List.getElem_cons_succ, List.setIfInBounds_toArray, List.set_cons_zero, List.set_cons_succ]
      refine wpAnyH_take (i := 21) (v := ?_) rfl (by kernel_rfl) (by kernel_rfl) (by kernel_rfl) (fun _ _ _ h => h) (Or.inl ⟨by rfl, ?_⟩) (by assumption) ?_
      rotate_left
      · intro w0 hSw; (try dsimp only at hSw); go_simp <;> with_reducible rfl
      try simp only [Act.put, List.getElem_toArray, List.getElem_cons_zero, List.getElem_cons_succ, List.setIfInBounds_toArray, List.set_cons_zero, List.set_cons_succ]
      refine wpAnyH_done (by kernel_rfl) ?_ _
      go_wp2_with fail
      go_ret
      exact ⟨rfl, FIN.out⟩
  · have HA := hide hA
    have GD := hide gd
    clear hA gd PQ
    go_upto_region 17 with fail
    clear st1 zr zs
    generalize w3.alloc (.cells V 59) = W3 at *
    generalize w3.heap.size = B17 at *
    obtain ⟨Y2, hY2⟩ : ∃ Y2 : Nat → Prop, Y2 = fun x => Y1 x ∨ x = B17 := ⟨_, rfl⟩
    have Y2B : Hid (Y2 B5 ∧ Y2 B17) := by rw [hY2]; exact ⟨.inl YB.out, .inr rfl⟩
    have Y2I : Hid (∀ x, Y0 x → Y2 x) := by rw [hY2]; exact fun x q => .inl (YI.out x q)
    have J3' : Hid (JW Y2 B G W3 st h2 qs2) := by rw [hY2]; exact J3.out
    clear hY2 J3
    obtain ⟨ck, cn, vl⟩ := J3'.out.get HA.out
    have h256 : l.length ≤ 256 := by obtain ⟨_, _, _, _, _, _, q⟩ := ck; exact q
    obtain ⟨nl, hnl⟩ : ∃ nl, l.length = nl := ⟨_, rfl⟩
    have RA3 : RA W3 B17 0 F := RA.of (show W3.heap[B17]? = some (.cells (ra F) 59 (0, 0)) by rw [HV.out]; exact Y3.out)
    have L1 := hide (fun u (b : Below W3.heap.size W3 u) => Wa.list_is A l nl u (ck.below b) hnl)
    have L2b := hide (fun u (b : Below W3.heap.size W3 u) => rlist_l l nl F u (RA3.below b) hnl GD.out vl cn h256)
    have HNL := hide (And.intro hnl h256)
    have JD := hide (fun u (b : Below W3.heap.size W3 u) => J3'.out.below b)
    have SP := hide (fun u (j : JW Y2 B G u st h2 qs2) => knowP j R2.out k hk A l F HA.out GD.out)
    have KQ := hide (fun u h4 qs4 (e : Int) (kn : KnR qs2 k F e qs4) (j : JW Y2 B G u st h4 qs2) => knowQ j L2.out kn)
    rw [HV.out] at KQ
    obtain ⟨LC, hLC⟩ : ∃ LC : Nat → Sem (Array Value), ∀ n, loadCellsFrom (⟨B17, 0, none⟩ : Addr) 0 n #[] = LC n := ⟨fun n => loadCellsFrom (⟨B17, 0, none⟩ : Addr) 0 n #[], fun _ => rfl⟩
    have KC : Hid (∀ u : World, u.heap[B5]? = W3.heap[B5]? → u.heap[B17]? = W3.heap[B17]? → u.cell? ⟨B5, 2, none⟩ = some (.int .i64 k) ∧ (LC 256).run Try.prog u = .ok V u) := fun u hu hu2 => ⟨cell_of (hu.trans X3.out) 2, by rw [← hLC, ← HV.out]; exact ld_ref (RA.of (show u.heap[B17]? = some (.cells (ra F) 59 (0, 0)) by rw [hu2, HV.out]; exact Y3.out))⟩
    have KB : Hid (∀ u : World, Below W3.heap.size W3 u → u.cell? ⟨B5, 2, none⟩ = some (.int .i64 k) ∧ (LC 256).run Try.prog u = .ok V u) := fun u b => KC.out u (b.block B5 (Ba.heap_lt X3.out)) (b.block B17 (Ba.heap_lt Y3.out))
    have LT := hide (And.intro (Ba.heap_lt X3.out) (Ba.heap_lt Y3.out))
    clear ck cn vl h256 hnl RA3
    try simp only [List.append_eq, List.cons_append, List.nil_append]
    refine wp_region_held_drew (S := (fun w' => w'.cell? ⟨B5, 2, none⟩ = some (.int .i64 k) ∧ (LC 256).run Try.prog w' = .ok V w')) (by kernel_rfl) ?_ (fun hHeld => ?_)
    · exact KB.out _ (Ba.bdrew1 _)
    refine wpAnyH_take (i := 0) (v := ?_) rfl (by kernel_rfl) (by kernel_rfl) (by kernel_rfl) (fun _ _ _ h => h) (Or.inl ⟨by rfl, ?_⟩) (by assumption) ?_
    rotate_left
    · intro w0 hSw; (try dsimp only at hSw); go_simp <;> with_reducible rfl
    try simp only [Act.put, List.getElem_toArray, List.getElem_cons_zero, List.setIfInBounds_toArray, List.set_cons_zero, List.set_cons_succ]
    refine wpAnyH_take (i := 1) (v := ?_) rfl (by kernel_rfl) (by kernel_rfl) (by kernel_rfl) (fun _ _ _ h => h) (Or.inl ⟨by rfl, ?_⟩) (by assumption) ?_
    rotate_left
    · intro w0 hSw; (try dsimp only at hSw); go_simp <;> with_reducible rfl
    try simp only [Act.put, List.getElem_toArray, List.getElem_cons_zero, List.getElem_cons_succ, List.setIfInBounds_toArray, List.set_cons_zero, List.set_cons_succ]
    refine wpAnyH_take (i := 2) (v := ?_) rfl (by kernel_rfl) (by kernel_rfl) (by kernel_rfl) (fun _ _ _ h => h) (Or.inl ⟨by rfl, ?_⟩) (by assumption) ?_
    rotate_left
    · intro w0 hSw; (try dsimp only at hSw); go_simp <;> with_reducible rfl
    try simp only [Act.put, List.getElem_toArray, List.getElem_cons_zero, List.getElem_cons_succ, List.setIfInBounds_toArray, List.set_cons_zero, List.set_cons_succ]
    refine wpAnyH_take (i := 3) (v := ?_) rfl (by kernel_rfl) (by kernel_rfl) (by kernel_rfl) (fun _ _ _ h => h) (Or.inl ⟨by rfl, ?_⟩) (by assumption) ?_
    rotate_left
    · intro w0 hSw; (try dsimp only at hSw); go_simp <;> with_reducible rfl
    try simp only [Act.put, List.getElem_toArray, List.getElem_cons_zero, List.getElem_cons_succ, List.setIfInBounds_toArray, List.set_cons_zero, List.set_cons_succ]
    refine wpAnyH_ready (rs := [4]) (by kernel_rfl) (by simp) ?_
    refine AllReadyH.cons rfl (fun K hK => ?_) AllReadyH.nil
    go_simp
    (go_at_call 26; refine (L1.out _ (Ba.bdrew1 _)).mono ?_; rintro r v1 ⟨oa1, rfl, t1, d1⟩)
    (try go_wp2_with fail)
    refine hK.out _ _ ?_ (fun hHeld => ?_)
    · (exact KB.out _ (btr (Ba.bdrew1 _) d1))
    clear hK K
    try simp only [Act.put, List.getElem_toArray, List.getElem_cons_zero, List.getElem_cons_succ, List.setIfInBounds_toArray, List.set_cons_zero, List.set_cons_succ]
    refine wpAnyH_ready (rs := [5]) (by kernel_rfl) (by simp) ?_
    refine AllReadyH.cons rfl (fun K hK => ?_) AllReadyH.nil
    go_simp
    (go_at_call 32; refine (L2b.out _ (btr (Ba.bdrew1 _) d1)).mono ?_; rintro r v2 ⟨oa2, ca2, rfl, t2, d2⟩)
    (try go_wp2_with fail)
    refine hK.out _ _ ?_ (fun hHeld => ?_)
    · (exact KB.out _ (btr (btr (Ba.bdrew1 _) d1) d2))
    clear hK K
    try simp only [Act.put, List.getElem_toArray, List.getElem_cons_zero, List.getElem_cons_succ, List.setIfInBounds_toArray, List.set_cons_zero, List.set_cons_succ]
    refine wpAnyH_ready (rs := [6]) (by kernel_rfl) (by simp) ?_
    refine AllReadyH.cons rfl (fun K hK => ?_) AllReadyH.nil
    go_simp
    (go_at_call 25; refine (Wa.ints_b _ _ l l _ _ _ _ true (by simp) HNL.out.1 HNL.out.1 _ (t1.below d2) t2 (by have := HNL.out.1; have := HNL.out.2; omega) (by have := HNL.out.1; have := HNL.out.2; omega)).mono ?_; rintro r v3 ⟨rfl, d3⟩)
    (try go_wp2_with fail)
    refine hK.out _ _ ?_ (fun hHeld => ?_)
    · (exact KB.out _ (btr (btr (btr (Ba.bdrew1 _) d1) d2) d3))
    clear hK K
    try simp only [Act.put, List.getElem_toArray, List.getElem_cons_zero, List.getElem_cons_succ, List.setIfInBounds_toArray, List.set_cons_zero, List.set_cons_succ]
    refine wpAnyH_take (i := 7) (v := ?_) rfl (by kernel_rfl) (by kernel_rfl) (by kernel_rfl) (fun _ _ _ h => h) (Or.inl ⟨by rfl, ?_⟩) (by assumption) ?_
    rotate_left
    · intro w0 hSw; (try dsimp only at hSw); go_simp <;> with_reducible rfl
    try simp only [Act.put, List.getElem_toArray, List.getElem_cons_zero, List.getElem_cons_succ, List.setIfInBounds_toArray, List.set_cons_zero, List.set_cons_succ]
    refine wpAnyH_take (i := 8) (v := ?_) rfl (by kernel_rfl) (by kernel_rfl) (by kernel_rfl) (fun _ _ _ h => h) (Or.inl ⟨by rfl, ?_⟩) (by assumption) ?_
    rotate_left
    · intro w0 hSw; (try dsimp only at hSw); go_simp <;> with_reducible rfl
    try simp only [Act.put, List.getElem_toArray, List.getElem_cons_zero, List.getElem_cons_succ, List.setIfInBounds_toArray, List.set_cons_zero, List.set_cons_succ]
    refine wpAnyH_take (i := 9) (v := ?_) rfl (by kernel_rfl) (by kernel_rfl) (by kernel_rfl) (fun _ _ _ h => h) (Or.inl ⟨by rfl, ?_⟩) (by assumption) ?_
    rotate_left
    · intro w0 hSw; (try dsimp only at hSw); go_simp <;> with_reducible rfl
    try simp only [Act.put, List.getElem_toArray, List.getElem_cons_zero, List.getElem_cons_succ, List.setIfInBounds_toArray, List.set_cons_zero, List.set_cons_succ]
    refine wpAnyH_take (i := 10) (v := ?_) rfl (by kernel_rfl) (by kernel_rfl) (by kernel_rfl) (fun _ _ _ h => h) (Or.inl ⟨by rfl, ?_⟩) (by assumption) ?_
    rotate_left
    · intro w0 hSw; (try dsimp only at hSw); go_simp <;> with_reducible rfl
    try simp only [Act.put, List.getElem_toArray, List.getElem_cons_zero, List.getElem_cons_succ, List.setIfInBounds_toArray, List.set_cons_zero, List.set_cons_succ]
    refine wpAnyH_take (i := 11) (v := ?_) rfl (by kernel_rfl) (by kernel_rfl) (by kernel_rfl) (fun _ _ _ h => h) (Or.inl ⟨by rfl, ?_⟩) (by assumption) ?_
    rotate_left
    · intro w0 hSw; (try dsimp only at hSw); go_simp <;> with_reducible rfl
    try simp only [Act.put, List.getElem_toArray, List.getElem_cons_zero, List.getElem_cons_succ, List.setIfInBounds_toArray, List.set_cons_zero, List.set_cons_succ]
    refine wpAnyH_take (i := 13) (v := ?_) rfl (by kernel_rfl) (by kernel_rfl) (by kernel_rfl) (fun _ _ _ h => h) (Or.inl ⟨by rfl, ?_⟩) (by assumption) ?_
    rotate_left
    · intro w0 hSw; (try dsimp only at hSw); go_simp <;> with_reducible rfl
    try simp only [Act.put, List.getElem_toArray, List.getElem_cons_zero, List.getElem_cons_succ, List.setIfInBounds_toArray, List.set_cons_zero, List.set_cons_succ]
    refine wpAnyH_take (i := 14) (v := ?_) rfl (by kernel_rfl) (by kernel_rfl) (by kernel_rfl) (fun _ _ _ h => h) (Or.inl ⟨by rfl, ?_⟩) (by assumption) ?_
    rotate_left
    · intro w0 hSw; (try dsimp only at hSw); go_simp <;> with_reducible rfl
    try simp only [Act.put, List.getElem_toArray, List.getElem_cons_zero, List.getElem_cons_succ, List.setIfInBounds_toArray, List.set_cons_zero, List.set_cons_succ]
    refine wpAnyH_take (i := 15) (v := ?_) rfl (by kernel_rfl) (by kernel_rfl) (by kernel_rfl) (fun _ _ _ h => h) (Or.inl ⟨by rfl, ?_⟩) (by assumption) ?_
    rotate_left
    · intro w0 hSw; (try dsimp only at hSw); go_simp <;> with_reducible rfl
    try simp only [Act.put, List.getElem_toArray, List.getElem_cons_zero, List.getElem_cons_succ, List.setIfInBounds_toArray, List.set_cons_zero, List.set_cons_succ]
    refine wpAnyH_take (i := 16) (v := ?_) rfl (by kernel_rfl) (by kernel_rfl) (by kernel_rfl) (fun _ _ _ h => h) (Or.inl ⟨by rfl, ?_⟩) (by assumption) ?_
    rotate_left
    · intro w0 hSw; (try dsimp only at hSw); go_simp <;> with_reducible rfl
    try simp only [Act.put, List.getElem_toArray, List.getElem_cons_zero, List.getElem_cons_succ, List.setIfInBounds_toArray, List.set_cons_zero, List.set_cons_succ]
    refine wpAnyH_ready (rs := [12]) (by kernel_rfl) (by simp) ?_
    refine AllReadyH.cons rfl (fun K hK => ?_) AllReadyH.nil
    go_simp
    (go_at_call 24; refine (SP.out _ (JD.out _ (btr (btr (btr (Ba.bdrew1 _) d1) d2) d3))).mono ?_; rintro q v4 ⟨e, h4, qs4, rfl, kn, j4, k4, r4⟩)
    (try go_wp2_with fail)
    refine hK.out _ _ ?_ (fun hHeld => ?_)
    · (exact KC.out _ ((k4.block B5 Y2B.out.1).trans ((btr (btr (btr (Ba.bdrew1 _) d1) d2) d3).block B5 LT.out.1)) ((k4.block B17 Y2B.out.2).trans ((btr (btr (btr (Ba.bdrew1 _) d1) d2) d3).block B17 LT.out.2)))
    clear hK K
    try simp only [Act.put, List.getElem_toArray, List.getElem_cons_zero, List.getElem_cons_succ, List.setIfInBounds_toArray, List.set_cons_zero, List.set_cons_succ]
    refine wpAnyH_ready (rs := [17]) (by kernel_rfl) (by simp) ?_
    refine AllReadyH.cons rfl (fun K hK => ?_) AllReadyH.nil
    go_simp
    (go_at_call 30; refine (KQ.out _ _ _ _ kn j4).mono ?_; rintro q v5 ⟨rfl, j5, k5⟩)
    (try go_wp2_with fail)
    refine hK.out _ _ ?_ (fun hHeld => ?_)
    · (exact KC.out _ ((k5.block B5 Y2B.out.1).trans ((k4.block B5 Y2B.out.1).trans ((btr (btr (btr (Ba.bdrew1 _) d1) d2) d3).block B5 LT.out.1))) ((k5.block B17 Y2B.out.2).trans ((k4.block B17 Y2B.out.2).trans ((btr (btr (btr (Ba.bdrew1 _) d1) d2) d3).block B17 LT.out.2))))
    clear hK K
    try simp only [Act.put, List.getElem_toArray, List.getElem_cons_zero, List.getElem_cons_succ, List.setIfInBounds_toArray, List.set_cons_zero, List.set_cons_succ]
    refine wpAnyH_take (i := 18) (v := ?_) rfl (by kernel_rfl) (by kernel_rfl) (by kernel_rfl) (fun _ _ _ h => h) (Or.inl ⟨by rfl, ?_⟩) (by assumption) ?_
    rotate_left
    · intro w0 hSw; (try dsimp only at hSw); go_simp <;> with_reducible rfl
    try simp only [Act.put, List.getElem_toArray, List.getElem_cons_zero, List.getElem_cons_succ, List.setIfInBounds_toArray, List.set_cons_zero, List.set_cons_succ]
    refine wpAnyH_take (i := 19) (v := ?_) rfl (by kernel_rfl) (by kernel_rfl) (by kernel_rfl) (fun _ _ _ h => h) (Or.inl ⟨by rfl, ?_⟩) (by assumption) ?_
    rotate_left
    · intro w0 hSw; (try dsimp only at hSw); go_simp <;> with_reducible rfl
    try simp only [Act.put, List.getElem_toArray, List.getElem_cons_zero, List.getElem_cons_succ, List.setIfInBounds_toArray, List.set_cons_zero, List.set_cons_succ]
    refine wpAnyH_take (i := 20) (v := ?_) rfl (by kernel_rfl) (by kernel_rfl) (by kernel_rfl) (fun _ _ _ h => h) (Or.inl ⟨by rfl, ?_⟩) (by assumption) ?_
    rotate_left
    · intro w0 hSw; (try dsimp only at hSw); go_simp <;> with_reducible rfl
    try simp only [Act.put, List.getElem_toArray, List.getElem_cons_zero, List.getElem_cons_succ, List.setIfInBounds_toArray, List.set_cons_zero, List.set_cons_succ]
    refine wpAnyH_take (i := 21) (v := ?_) rfl (by kernel_rfl) (by kernel_rfl) (by kernel_rfl) (fun _ _ _ h => h) (Or.inl ⟨by rfl, ?_⟩) (by assumption) ?_
    rotate_left
    · intro w0 hSw; (try dsimp only at hSw); go_simp <;> with_reducible rfl
    try simp only [Act.put, List.getElem_toArray, List.getElem_cons_zero, List.getElem_cons_succ, List.setIfInBounds_toArray, List.set_cons_zero, List.set_cons_succ]
    refine wpAnyH_done (by kernel_rfl) ?_ _
    have FIN : Hid (∃ st' h' qs', JW Y0 B G v5 st' h' qs' ∧ Rw st' h' qs' ∧ Kp Y0 w v5 ∧ Nx (4) qs qs') := ⟨_, _, _, j5.less Y2I.out, r4, ((Wa.kp_b K3.out (btr (btr (btr (Ba.bdrew1 _) d1) d2) d3) fun x q => J3'.out.ylt x (Y2I.out x q)).trans (Wa.Kp.mono k4 Y2I.out)).trans (Wa.Kp.mono k5 Y2I.out), TeR.kn R0.out LL.out.2.1 TE.out kn (4)⟩
    clear j5 k5 j4 k4 r4 kn d1 d2 d3 t1 t2
    go_wp2_with fail
    go_ret
    exact ⟨rfl, FIN.out⟩
end
end Wq
end Go.Proofs.Ytfimfgffbfjkeaa
