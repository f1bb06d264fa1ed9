import Derived.Test.YtakbbhngcdccpaaGreatNa
import Derived.Test.YtakbbhngcdccpaaGreatWw
import Derived.Maps.AppendAt
import Derived.Deep.RegionHeld3
import Derived.Test.YtakbbhngcdccpaaGreatGug
import Derived.Deep.RegionLaw
import Derived.Deep.RegionWith
/- Package stamp, over this seat's program: what lies in memory; learn, tell. -/
namespace Go.Proofs.YtakbbhngcdccpaaGreat
open Go.ChangeShapes Go.WideShapes Go.ChangeAt Go.RowKit
namespace Sp
open Ck Wa

section
variable {Y Y' : Nat → Prop} {B : Nat} {w w' : World} {st : Wst} {h h1 : Nat → Option (List Int)} {mb : Nat} {D : DataW Unit}
/-- foreign blocks have changed, and are others -/
theorem fgn (s : WX Y B w st h mb D) (sz : w.heap.size ≤ w'.heap.size) (hb : ∀ k, k < w.heap.size → ¬ Y k → w'.heap[k]? = w.heap[k]?) (hi : ∀ k, Y' k → Y k ∨ w.heap.size ≤ k) (hd : ∀ k, Y' k → k < w'.heap.size) : WX Y' B w' st h mb D := by
  have hlt := s.lt
  have hml := s.ow.lt
  refine ⟨(hb B hlt s.yb).trans s.hp, ?_, s.mi, s.sz, s.ne, fun q => ?_, fun q => ?_, cx_ext s.cx (fun k hk hn => hb k hk (fun q => hn (.inl q))) ?_ ?_, s.dom, s.inj, s.tid, s.bd⟩
  · obtain ⟨es, clock, hb0, r⟩ := s.ow
    exact ⟨es, clock, (hb mb hml s.ym).trans hb0, r⟩
  · rcases hi _ q with z | z
    · exact s.yb z
    · omega
  · rcases hi _ q with z | z
    · exact s.ym z
    · omega
  · rintro k (q | q)
    · rcases hi k q with z | z
      · exact .inl (.inl z)
      · exact .inr z
    · exact .inl (.inr q)
  · rintro k (q | q)
    · exact hd k q
    · exact Nat.lt_of_lt_of_le (s.cx.base k (.inr q)) sz
theorem fgnW (s : WW Y B w st h) (sz : w.heap.size ≤ w'.heap.size) (hb : ∀ k, k < w.heap.size → ¬ Y k → w'.heap[k]? = w.heap[k]?) (hi : ∀ k, Y' k → Y k ∨ w.heap.size ≤ k) (hd : ∀ k, Y' k → k < w'.heap.size) : WW Y' B w' st h := by
  obtain ⟨mb, D, s⟩ := s
  exact ⟨mb, D, fgn s sz hb hi hd⟩
theorem lessW (s : WW Y B w st h) (hi : ∀ k, Y' k → Y k) : WW Y' B w st h := by
  obtain ⟨mb, D, s⟩ := s
  exact ⟨mb, D, s.less hi⟩
theorem moreW {w1 : World} (s : WW Y B w st h) (b : Below w.heap.size w w1) (hi : ∀ k, Y' k → Y k ∨ w.heap.size ≤ k) (hd : ∀ k, Y' k → k < w1.heap.size) : WW Y' B w1 st h := by
  obtain ⟨mb, D, s⟩ := s
  exact ⟨mb, D, s.more b hi hd⟩
/-- a new foreign block -/
theorem boxW (s : WW Y B w st h) (o : Obj) : WW (Y1 Y w.heap.size) B (w.alloc o) st h :=
  moreW s (below_alloc w o) (fun k q => by rcases q with q | q; exact .inl q; exact .inr (by omega)) (fun k q => by
    rw [World.size_alloc]
    rcases q with q | q
    · have := s.ylt k q; omega
    · omega)
/-- Know of a clock, or of nothing -/
theorem know_of_nil (s : WW Y B w st h) (g : Int) (hg : (Lit.int .i64 g).wf = true) (t b : Nat) (hf : st.f g = some (t, b)) :
    Calls Tryz.prog 75 #[.pointer (some ⟨B, 0, none⟩), .int .i64 g, .pointer none] w fun r w' => r = .returned (.int .i64 0) ∧ Below w.heap.size w w' := by
  obtain ⟨mb, D, s⟩ := s
  have FN := hide (find_some s g hg t b hf)
  unfold mV at FN
  clear s hg hf
  go_enter Tryz.func75, Tryz.ntmps75
  go_wp2_with fail
  refine FN.out.mono ?_
  rintro r w1 ⟨rfl, b1⟩
  have B1 := hide (btr b1 (below_alloc w1 (.cells #[.int .i64 (t : Int), .pointer (some ⟨b, 0, none⟩)] 71)))
  clear b1 FN
  go_wp2_with fail
  refine (join_of_nil _ _).mono ?_
  rintro r w3 ⟨rfl, rfl⟩
  go_wp2_with fail
  go_ret
  exact ⟨rfl, B1.out⟩
/-- what Know leaves behind -/
def Kn (B : Nat) (st : Wst) (h : Nat → Option (List Int)) (g : Int) (v : Value) (h1 : Nat → Option (List Int)) : Prop :=
  ∀ (Y : Nat → Prop) (u : World), WW Y B u st h → Calls Tryz.prog 75 #[.pointer (some ⟨B, 0, none⟩), .int .i64 g, v] u fun r w' => (∃ e, r = .returned (.int .i64 e)) ∧ WW Y B w' st h1 ∧ Kp Y u w'
theorem kn_nil (g : Int) (hg : (Lit.int .i64 g).wf = true) (t b : Nat) (hf : st.f g = some (t, b)) : Kn B st h g (.pointer none) h := fun _ _ s => (know_of_nil s g hg t b hf).mono fun _ _ q => ⟨⟨0, q.1⟩, s.below q.2, Kp.of q.2 s.ylt⟩
theorem kn_none (g : Int) (hg : (Lit.int .i64 g).wf = true) (hf : st.f g = none) (v : Value) : Kn B st h g v h := fun _ _ s => (know_none s g hg hf v).mono fun _ _ q => ⟨⟨6, q.1⟩, s.below q.2, Kp.of q.2 s.ylt⟩
theorem kn_some (g : Int) (hg : (Lit.int .i64 g).wf = true) (t b c : Nat) (l m : List Int) (hf : st.f g = some (t, b)) (hb : h b = some l) (hc : h c = some m) : Kn B st h g (.pointer (some ⟨c, 0, none⟩)) (upd h b (jn l m)) := fun _ _ s => (know_any s g hg t b c l m hf hb hc).mono fun _ _ q => ⟨⟨0, q.1⟩, q.2.1, q.2.2⟩
end
theorem info_stp : (Tryz.prog.info? 29).map (fun i => (i.zero, i.size)) = some (some (.agg #[.int .u64 0, .slice none 0 0]), 2) := by kernel_rfl
theorem loadVar_stp {w : World} {b : Nat} {c : Array Value} {t : TypeId} (h : w.heap[b]? = some (.cells c t (0, 0))) (hc : c.size = 2) : (loadVar 29 ⟨b, 0, none⟩).run Tryz.prog w = .ok (.agg c) w :=
  run_loadVar_row w b t _ _ _ _ h Tryz.underlying29 rfl (by rw [(zero_of_info info_stp).2, hc])
/-- blocks in which a list lies -/
def YA (Y : Nat → Prop) (oa : Option Addr) : Nat → Prop := fun k => Y k ∨ ∃ a, oa = some a ∧ k = a.block
theorem two_set {w : World} {R : Nat} {c : Array Value} {t : TypeId} (x y : Value) (h : w.heap[R]? = some (.cells c t (0, 0))) (hc : c.size = 2) : ((w.setCell ⟨R, 0, none⟩ x).setCell ⟨R, 1, none⟩ y).heap[R]? = some (.cells #[x, y] t (0, 0)) := by
  rw [Ba.heap_setCell_same (Ba.heap_setCell_same h x) y]
  congr 2
  apply Array.ext'
  rcases c with ⟨l⟩
  match l, hc with
  | [a, b], _ => rfl
theorem two_oth (w : World) (R k : Nat) (x y : Value) (h : k ≠ R) : ((w.setCell ⟨R, 0, none⟩ x).setCell ⟨R, 1, none⟩ y).heap[k]? = w.heap[k]? := by
  rw [Below.heap_setCell _ _ _ _ h, Below.heap_setCell _ _ _ _ h]
theorem two_siz (w : World) (R : Nat) (x y : Value) : ((w.setCell ⟨R, 0, none⟩ x).setCell ⟨R, 1, none⟩ y).heap.size = w.heap.size := by simp [World.setCell]
set_option maxRecDepth 100000 in
set_option maxHeartbeats 3200000 in
theorem learn_some {Y : Nat → Prop} {S B : Nat} {w : World} {st : Wst} {h h1 : Nat → Option (List Int)} (s : WW Y B w st h) (hS : w.cell? ⟨S, 0, none⟩ = some (.pointer (some ⟨B, 0, none⟩))) (hY : Y S) (g : Int) (v : Value) (hg : (Lit.int .i64 g).wf = true) (t b n : Nat) (l : List Int) (hv : ∃ oa, v = .pointer oa) (kn : Kn B st h g v h1) (hf : st.f g = some (t, b)) (hb : h1 b = some l) (hn : l.length = n) :
    Calls Tryz.prog 56 #[.pointer (some ⟨S, 0, none⟩), .int .i64 g, v] w fun r w' => ∃ R A, h1 A = none ∧ r = .returned (.agg #[.int .u64 (epk (t : Int) (nth l t)), .slice (some ⟨R, 0, none⟩) n n]) ∧ Ck.At w' (some ⟨R, 0, none⟩) l ∧ w.heap.size ≤ R ∧ WW (Y1 Y R) B w' st (upd h1 A l) ∧ Kp Y w w' := by
  obtain ⟨oa, rfl⟩ := hv
  have S0 := hide (boxW s (.cells #[.int .u64 0, .slice none 0 0] 29))
  have K0 := hide (Kp.of (X := Y) (below_alloc w (.cells #[.int .u64 0, .slice none 0 0] 29)) s.ylt)
  have E0 := hide (heap_new w (.cells #[.int .u64 0, .slice none 0 0] 29))
  have hs1 : ∀ u, Kp (Y1 Y w.heap.size) (w.alloc (.cells #[.int .u64 0, .slice none 0 0] 29)) u → u.cell? ⟨S, 0, none⟩ = some (.pointer (some ⟨B, 0, none⟩)) := fun u k => by
    have hlt := s.ylt S hY
    have e1 : u.heap[S]? = w.heap[S]? := (k.block S (.inl hY)).trans ((below_alloc w (.cells #[.int .u64 0, .slice none 0 0] 29)).block S hlt)
    rw [← hS]
    unfold World.cell?
    rw [e1]
  have HS := hide hs1
  have EP := hide (fun (Y : Nat → Prop) (w : World) (h' : Nat → Option (List Int)) (s : WW Y B w st h') (hb : h' b = some l) => epoch_some s g hg t b l hf hb)
  have HF := hide (And.intro hg (And.intro hf hb))
  have HN := hide hn
  have KN := hide (kn _ _ S0.out)
  have z0 := hs1 _ (Kp.refl _ _)
  generalize epk (t : Int) (nth l t) = ev at *
  have hlt := s.ylt S hY
  have YL := hide s.ylt
  have SZ := hide (World.size_alloc w (.cells #[.int .u64 0, .slice none 0 0] 29))
  clear s hS hY hg hf hb hs1 hn kn
  go_enter Tryz.func56, Tryz.ntmps56
  go_wp2_with fail
  refine KN.out.mono ?_
  rintro r w1 ⟨⟨e1, rfl⟩, s1, k1⟩
  have CL := hide (clock_any s1 g HF.out.1 t b l HF.out.2.1 HF.out.2.2)
  have z1 := HS.out _ k1
  have K1 := hide k1
  clear s1 k1 KN S0 z0
  go_wp2_with fail
  refine CL.out.mono ?_
  rintro r w2 ⟨A, rfl, hA, s2, k2⟩
  have z2 := HS.out _ (K1.out.trans k2)
  have K2 := hide (K1.out.trans k2)
  have S2 := hide s2
  have HA := hide hA
  have EP2 := hide (EP.out _ _ _ s2 (by rw [upd_other _ _ _ _ (fun q => by rw [q, hA] at HF; cases HF.out.2.2)]; exact HF.out.2.2))
  clear s2 k2 hA CL z1 K1 EP
  go_wp2_with fail
  refine EP2.out.mono ?_
  rintro r w3 ⟨rfl, b3⟩
  have LI := hide (list_any A l w3 ((S2.out.below b3).get (upd_same _ _ _)).1)
  rw [HN.out] at LI
  have R3 := hide (Ba.heap_below (kp_heap K2.out E0.out (.inr rfl)) b3)
  have S3 := hide (S2.out.below b3)
  have K3 := hide ((K0.out.trans (Kp.mono K2.out fun k q => .inl q)).trans (Kp.of b3 (fun k q => S2.out.ylt k (.inl q))))
  have sz3 := hide (Nat.le_trans (Nat.le_trans (Nat.le_of_eq SZ.out.symm) K2.out.size) b3.size)
  clear b3 EP2 S2 K2 K0 E0 HS
  go_wp2_with fail
  refine LI.out.mono ?_
  rintro r w4 ⟨rfl, e4⟩
  have b4 : Below w3.heap.size w3 w4 := by rw [e4]; exact below_alloc _ _
  have R4 := Ba.heap_below R3.out b4
  have AT := hide (show Ck.At w4 (some ⟨w3.heap.size, 0, none⟩) l from by rw [e4]; exact At.new _ _ _)
  have sz4 : w4.heap.size = w3.heap.size + 1 := by rw [e4, World.size_alloc]
  have c0 : w4.cell? ⟨w.heap.size, 0, none⟩ = some (.int .u64 0) := cell_of R4 0
  have c1 : w4.cell? ⟨w.heap.size, 1, none⟩ = some (.slice none 0 0) := cell_of R4 1
  have f0 : w4.frozen? ⟨w.heap.size, 0, none⟩ = false := frozen_of R4 0
  have f1 : w4.frozen? ⟨w.heap.size, 1, none⟩ = false := frozen_of R4 1
  have B4 := hide b4
  have RR := hide R4
  have SZ4 := hide sz4
  clear b4 R4 sz4 LI e4
  go_wp2_with fail
  have n3 : w3.heap.size ≠ w.heap.size := by have := sz3.out; omega
  refine bodyPost_ret (En.results_row1 Tryz.results56 _ _ _ _ rfl (loadVar_stp (two_set _ _ RR.out rfl) rfl)) rfl ⟨w3.heap.size, A, HA.out, rfl, ?_, by have := sz3.out; omega, ?_, ?_⟩
  · intro k hk
    obtain ⟨b1, o1, e1, hc⟩ := AT.out k hk
    refine ⟨b1, o1, e1, ?_⟩
    cases e1
    rw [← hc]
    unfold World.cell?
    rw [two_oth _ _ _ _ _ n3]
  · refine fgnW S3.out (by rw [two_siz, SZ4.out]; omega) (fun k hk hn => ?_) (fun k q => ?_) (fun k q => ?_)
    · rw [two_oth _ _ _ _ _ (fun e => hn (.inr e))]
      exact B4.out.block k hk
    · rcases q with q | q
      · exact .inl (.inl q)
      · exact .inr (by omega)
    · rw [two_siz, SZ4.out]
      rcases q with q | q
      · have := S3.out.ylt k (.inl q); omega
      · omega
  · refine K3.out.trans ⟨B4.out.os, B4.out.tape, B4.out.output, by rw [two_siz, SZ4.out]; omega, fun k q => ?_⟩
    have := YL.out k q
    rw [two_oth _ _ _ _ _ (by omega)]
    exact B4.out.block k (S3.out.ylt k (.inl q))
set_option maxRecDepth 100000 in
set_option maxHeartbeats 3200000 in
/-- of nobody -/
theorem learn_none {Y : Nat → Prop} {S B : Nat} {w : World} {st : Wst} {h : Nat → Option (List Int)} (s : WW Y B w st h) (hS : w.cell? ⟨S, 0, none⟩ = some (.pointer (some ⟨B, 0, none⟩))) (hY : Y S) (g : Int) (oa : Option Addr) (hg : (Lit.int .i64 g).wf = true) (hf : st.f g = none) :
    Calls Tryz.prog 56 #[.pointer (some ⟨S, 0, none⟩), .int .i64 g, .pointer oa] w fun r w' => r = .returned (.agg #[.int .u64 0, .slice none 0 0]) ∧ WW Y B w' st h ∧ Below w.heap.size w w' := by
  have C1 := hide (fun u (q : Below w.heap.size w u) => know_none (s.below q) g hg hf (.pointer oa))
  have C2 := hide (fun u (q : Below w.heap.size w u) => clock_none (s.below q) g hg hf)
  have C3 := hide (fun u (q : Below w.heap.size w u) => epoch_none (s.below q) g hg hf)
  have HS := hide (fun u (q : Below w.heap.size w u) => (show u.cell? ⟨S, 0, none⟩ = some (.pointer (some ⟨B, 0, none⟩)) from by
    rw [← hS]
    unfold World.cell?
    rw [q.block S (s.ylt S hY)]))
  have S0 := hide s
  have hlt := s.ylt S hY
  have B0 := hide (below_alloc w (.cells #[.int .u64 0, .slice none 0 0] 29))
  have z0 := HS.out _ B0.out
  have E0 := hide (heap_new w (.cells #[.int .u64 0, .slice none 0 0] 29))
  clear s hS hg hf hY
  go_enter Tryz.func56, Tryz.ntmps56
  go_wp2_with fail
  refine (C1.out _ B0.out).mono ?_
  rintro r w1 ⟨rfl, b1⟩
  have B1 := hide (btr B0.out b1)
  have z1 := HS.out _ B1.out
  have E1 := hide (Ba.heap_below E0.out b1)
  clear b1 C1 z0 B0 E0
  go_wp2_with fail
  refine (C2.out _ B1.out).mono ?_
  rintro r w2 ⟨rfl, b2⟩
  have B2 := hide (btr B1.out b2)
  have z2 := HS.out _ B2.out
  have E2 := hide (Ba.heap_below E1.out b2)
  clear b2 C2 z1 B1 E1
  go_wp2_with fail
  refine (C3.out _ B2.out).mono ?_
  rintro r w3 ⟨rfl, b3⟩
  have B3 := hide (btr B2.out b3)
  have E3 := hide (Ba.heap_below E2.out b3)
  clear b3 C3 z2 B2 E2 HS
  have c0 : w3.cell? ⟨w.heap.size, 0, none⟩ = some (.int .u64 0) := cell_of E3.out 0
  have c1 : w3.cell? ⟨w.heap.size, 1, none⟩ = some (.slice none 0 0) := cell_of E3.out 1
  have f0 : w3.frozen? ⟨w.heap.size, 0, none⟩ = false := frozen_of E3.out 0
  have f1 : w3.frozen? ⟨w.heap.size, 1, none⟩ = false := frozen_of E3.out 1
  go_wp2_with fail
  refine (list_nil _).mono ?_
  rintro r w4 ⟨rfl, e4⟩
  obtain rfl := e4.symm
  go_wp2_with fail
  have bb : Below w.heap.size w ((w3.setCell ⟨w.heap.size, 0, none⟩ (.int .u64 0)).setCell ⟨w.heap.size, 1, none⟩ (.slice none 0 0)) := Ba.KB.below B3.out (((Ba.KB.refl _ w3).setCell 0 _).setCell 1 _) (Nat.le_refl _)
  exact bodyPost_ret (En.results_row1 Tryz.results56 _ _ _ _ rfl (loadVar_stp (two_set _ _ E3.out rfl) rfl)) rfl ⟨rfl, S0.out.below bb, bb⟩
theorem cell_blk {w u : World} {b i : Nat} {v : Value} (h : w.cell? ⟨b, i, none⟩ = some v) (e : u.heap[b]? = w.heap[b]?) : u.cell? ⟨b, i, none⟩ = some v := by
  rw [← h]
  unfold World.cell?
  rw [e]
set_option maxHeartbeats 1600000 in
theorem tell_ok {Y : Nat → Prop} {S B : Nat} {w : World} {st : Wst} {h : Nat → Option (List Int)} (s : WW Y B w st h) (hS : w.cell? ⟨S, 0, none⟩ = some (.pointer (some ⟨B, 0, none⟩))) (g : Int) (hg : (Lit.int .i64 g).wf = true) (t b : Nat) (l : List Int) (hf : st.f g = some (t, b)) (hb : h b = some l) (hM : nth l t < (st.M : Int)) :
    Calls Tryz.prog 58 #[.pointer (some ⟨S, 0, none⟩), .int .i64 g] w fun r w' => ∃ A l', r = .returned (.pointer (some ⟨A, 0, none⟩)) ∧ h A = none ∧ IsSet l l' t (nth l t + 1) ∧ WW Y B w' st (upd (upd h A l) b l') ∧ Kp Y w w' := by
  have TE := hide (Wa.tell_ok s g hg t b l hf hb hM)
  clear s hg hf hb hM
  go_enter Tryz.func58, Tryz.ntmps58
  go_wp2_with fail
  refine TE.out.mono ?_
  rintro r w1 ⟨A, l', rfl, hA, i1, s1, k1⟩
  have P1 := hide (And.intro hA (And.intro i1 (And.intro s1 k1)))
  clear hA i1 s1 k1 TE
  go_wp2_with fail
  go_ret
  exact ⟨A, l', rfl, P1.out⟩
end Sp
end Go.Proofs.YtakbbhngcdccpaaGreat
/- Package stamp, over this seat's program: stay, spawn, tells, doing, Can. -/
namespace Go.Proofs.YtakbbhngcdccpaaGreat
open Go.ChangeShapes Go.WideShapes Go.ChangeAt Go.RowKit
namespace Sp
open Ck Wa

section
variable {Y Y' : Nat → Prop} {B R : Nat} {w w' : World} {st : Wst} {h : Nat → Option (List Int)}
theorem st2W (s : WW Y B w st h) (hR : Y R) (x y : Value) (hi : ∀ k, Y' k → Y k) : WW Y' B ((w.setCell ⟨R, 0, none⟩ x).setCell ⟨R, 1, none⟩ y) st h :=
  fgnW s (by rw [two_siz]; exact Nat.le_refl _) (fun k _ hn => two_oth _ _ _ _ _ (fun e => hn (by rw [e]; exact hR))) (fun k q => .inl (hi k q)) (fun k q => by rw [two_siz]; exact s.ylt k (hi k q))
theorem st2K (k : Kp Y w w') (hR : ¬ Y R) (x y : Value) : Kp Y w ((w'.setCell ⟨R, 0, none⟩ x).setCell ⟨R, 1, none⟩ y) :=
  k.trans ⟨rfl, rfl, rfl, by rw [two_siz]; exact Nat.le_refl _, fun j q => two_oth _ _ _ _ _ (fun e => hR (by rw [← e]; exact q))⟩
theorem st2A {A : Nat} {l : List Int} (h : Ck.At w (some ⟨A, 0, none⟩) l) (hA : A ≠ R) (x y : Value) : Ck.At ((w.setCell ⟨R, 0, none⟩ x).setCell ⟨R, 1, none⟩ y) (some ⟨A, 0, none⟩) l := by
  intro k hk
  obtain ⟨b1, o1, e1, hc⟩ := h k hk
  refine ⟨b1, o1, e1, ?_⟩
  cases e1
  rw [← hc]
  unfold World.cell?
  rw [two_oth _ _ _ _ _ hA]
theorem atK {A : Nat} {l : List Int} (h : Ck.At w (some ⟨A, 0, none⟩) l) (k : Kp Y w w') (hA : Y A) : Ck.At w' (some ⟨A, 0, none⟩) l := by
  intro j hj
  obtain ⟨b1, o1, e1, hc⟩ := h j hj
  refine ⟨b1, o1, e1, ?_⟩
  cases e1
  rw [← hc]
  unfold World.cell?
  rw [k.block A hA]
end
set_option maxRecDepth 100000 in
set_option maxHeartbeats 3200000 in
theorem stay_some {Y : Nat → Prop} {S B : Nat} {w : World} {st : Wst} {h : Nat → Option (List Int)} (s : WW Y B w st h) (hS : w.cell? ⟨S, 0, none⟩ = some (.pointer (some ⟨B, 0, none⟩))) (hY : Y S) (e : En.Ev) (hg : (Lit.int .i64 e.g).wf = true) (t b n : Nat) (l : List Int) (hf : st.f e.g = some (t, b)) (hb : h b = some l) (hn : l.length = n) :
    Calls Tryz.prog 35 #[.pointer (some ⟨S, 0, none⟩), En.evv e] w fun r w' => ∃ R A, h A = none ∧ r = .returned (.agg #[.int .u64 (epk (t : Int) (nth l t)), .slice (some ⟨R, 0, none⟩) n n]) ∧ Ck.At w' (some ⟨R, 0, none⟩) l ∧ w.heap.size ≤ R ∧ WW (Y1 Y R) B w' st (upd h A l) ∧ Kp Y w w' := by
  have s1 := boxW (boxW s (.cells #[.int .i64 e.k, .int .i64 e.g, .int .i64 e.c, .int .i64 e.a, .int .i64 e.v, .int .i64 e.m, .bool e.s, .bool e.o] 23)) (.cells #[.int .u64 0, .slice none 0 0] 29)
  have b1 := btr (below_alloc w (.cells #[.int .i64 e.k, .int .i64 e.g, .int .i64 e.c, .int .i64 e.a, .int .i64 e.v, .int .i64 e.m, .bool e.s, .bool e.o] 23)) (below_alloc (w.alloc (.cells #[.int .i64 e.k, .int .i64 e.g, .int .i64 e.c, .int .i64 e.a, .int .i64 e.v, .int .i64 e.m, .bool e.s, .bool e.o] 23)) (.cells #[.int .u64 0, .slice none 0 0] 29))
  have z1 := cell_blk hS (b1.block S (s.ylt S hY))
  have LE := hide (learn_some s1 z1 (.inl (.inl hY)) e.g (.pointer none) hg t b n l ⟨_, rfl⟩ (kn_nil e.g hg t b hf) hf hb hn)
  have E1 := hide (heap_new (w.alloc (.cells #[.int .i64 e.k, .int .i64 e.g, .int .i64 e.c, .int .i64 e.a, .int .i64 e.v, .int .i64 e.m, .bool e.s, .bool e.o] 23)) (.cells #[.int .u64 0, .slice none 0 0] 29))
  have E0 := hide (Ba.heap_below (heap_new w (.cells #[.int .i64 e.k, .int .i64 e.g, .int .i64 e.c, .int .i64 e.a, .int .i64 e.v, .int .i64 e.m, .bool e.s, .bool e.o] 23)) (below_alloc _ (.cells #[.int .u64 0, .slice none 0 0] 29)))
  have K1 := hide (Kp.of (X := Y) b1 s.ylt)
  have YL := hide s.ylt
  have SZ := hide (show ((w.alloc (.cells #[.int .i64 e.k, .int .i64 e.g, .int .i64 e.c, .int .i64 e.a, .int .i64 e.v, .int .i64 e.m, .bool e.s, .bool e.o] 23)).alloc (.cells #[.int .u64 0, .slice none 0 0] 29)).heap.size = w.heap.size + 1 + 1 by rw [World.size_alloc, World.size_alloc])
  rw [World.size_alloc] at E1
  clear s1 b1 z1 hS
  have c1 : ((w.alloc (.cells #[.int .i64 e.k, .int .i64 e.g, .int .i64 e.c, .int .i64 e.a, .int .i64 e.v, .int .i64 e.m, .bool e.s, .bool e.o] 23)).alloc (.cells #[.int .u64 0, .slice none 0 0] 29)).cell? ⟨w.heap.size, 1, none⟩ = some (.int .i64 e.g) := cell_of E0.out 1
  unfold En.evv En.evc
  generalize epk (t : Int) (nth l t) = ev at *
  clear hf hb hn s hg
  go_enter Tryz.func35, Tryz.ntmps35
  go_wp2_with fail
  refine LE.out.mono ?_
  rintro r w2 ⟨R, A, hA, rfl, at2, hR, s2, k2⟩
  have R2 := kp_heap k2 E1.out (.inr (by rw [World.size_alloc]))
  have f0 : w2.frozen? ⟨w.heap.size + 1, 0, none⟩ = false := frozen_of R2 0
  have f1 : w2.frozen? ⟨w.heap.size + 1, 1, none⟩ = false := frozen_of R2 1
  have c0 : w2.cell? ⟨w.heap.size + 1, 0, none⟩ = some (.int .u64 0) := cell_of R2 0
  have c1 : w2.cell? ⟨w.heap.size + 1, 1, none⟩ = some (.slice none 0 0) := cell_of R2 1
  have P2 := hide (And.intro hA (And.intro at2 (And.intro hR (And.intro s2 (And.intro k2 R2)))))
  clear hA at2 hR s2 k2 R2 LE
  go_wp2_with fail
  obtain ⟨hA, at2, hR, s2, k2, R2⟩ := P2.out
  rw [SZ.out] at hR
  refine bodyPost_ret (En.results_row1 Tryz.results35 _ _ _ _ rfl (loadVar_stp (two_set _ _ R2 rfl) rfl)) rfl ⟨R, A, hA, rfl, st2A at2 (by omega) _ _, by omega, st2W s2 (.inl (.inr (by rw [World.size_alloc]))) _ _ (fun k q => ?_), st2K (K1.out.trans (Kp.mono k2 fun k q => .inl (.inl q))) (fun q => ?_) _ _⟩
  · rcases q with q | q
    · exact .inl (.inl (.inl q))
    · exact .inr q
  · have := YL.out _ q; omega
set_option maxRecDepth 100000 in
set_option maxHeartbeats 3200000 in
theorem stay_none {Y : Nat → Prop} {S B : Nat} {w : World} {st : Wst} {h : Nat → Option (List Int)} (s : WW Y B w st h) (hS : w.cell? ⟨S, 0, none⟩ = some (.pointer (some ⟨B, 0, none⟩))) (hY : Y S) (e : En.Ev) (hg : (Lit.int .i64 e.g).wf = true) (hf : st.f e.g = none) :
    Calls Tryz.prog 35 #[.pointer (some ⟨S, 0, none⟩), En.evv e] w fun r w' => r = .returned (.agg #[.int .u64 0, .slice none 0 0]) ∧ WW Y B w' st h ∧ Below w.heap.size w w' := by
  have s1 := boxW (boxW s (.cells #[.int .i64 e.k, .int .i64 e.g, .int .i64 e.c, .int .i64 e.a, .int .i64 e.v, .int .i64 e.m, .bool e.s, .bool e.o] 23)) (.cells #[.int .u64 0, .slice none 0 0] 29)
  have b1 := btr (below_alloc w (.cells #[.int .i64 e.k, .int .i64 e.g, .int .i64 e.c, .int .i64 e.a, .int .i64 e.v, .int .i64 e.m, .bool e.s, .bool e.o] 23)) (below_alloc (w.alloc (.cells #[.int .i64 e.k, .int .i64 e.g, .int .i64 e.c, .int .i64 e.a, .int .i64 e.v, .int .i64 e.m, .bool e.s, .bool e.o] 23)) (.cells #[.int .u64 0, .slice none 0 0] 29))
  have z1 := cell_blk hS (b1.block S (s.ylt S hY))
  have LE := hide (learn_none s1 z1 (.inl (.inl hY)) e.g none hg hf)
  have E1 := hide (heap_new (w.alloc (.cells #[.int .i64 e.k, .int .i64 e.g, .int .i64 e.c, .int .i64 e.a, .int .i64 e.v, .int .i64 e.m, .bool e.s, .bool e.o] 23)) (.cells #[.int .u64 0, .slice none 0 0] 29))
  have E0 := hide (Ba.heap_below (heap_new w (.cells #[.int .i64 e.k, .int .i64 e.g, .int .i64 e.c, .int .i64 e.a, .int .i64 e.v, .int .i64 e.m, .bool e.s, .bool e.o] 23)) (below_alloc _ (.cells #[.int .u64 0, .slice none 0 0] 29)))
  have B1 := hide b1
  have S0 := hide s
  rw [World.size_alloc] at E1
  clear s1 b1 z1 hS
  have c1 : ((w.alloc (.cells #[.int .i64 e.k, .int .i64 e.g, .int .i64 e.c, .int .i64 e.a, .int .i64 e.v, .int .i64 e.m, .bool e.s, .bool e.o] 23)).alloc (.cells #[.int .u64 0, .slice none 0 0] 29)).cell? ⟨w.heap.size, 1, none⟩ = some (.int .i64 e.g) := cell_of E0.out 1
  unfold En.evv En.evc
  clear hf s hg
  go_enter Tryz.func35, Tryz.ntmps35
  go_wp2_with fail
  refine LE.out.mono ?_
  rintro r w2 ⟨rfl, -, b2⟩
  have R2 := Ba.heap_below E1.out b2
  have f0 : w2.frozen? ⟨w.heap.size + 1, 0, none⟩ = false := frozen_of R2 0
  have f1 : w2.frozen? ⟨w.heap.size + 1, 1, none⟩ = false := frozen_of R2 1
  have c0 : w2.cell? ⟨w.heap.size + 1, 0, none⟩ = some (.int .u64 0) := cell_of R2 0
  have c1 : w2.cell? ⟨w.heap.size + 1, 1, none⟩ = some (.slice none 0 0) := cell_of R2 1
  have P2 := hide (And.intro b2 R2)
  clear b2 R2 LE
  go_wp2_with fail
  have bb : Below w.heap.size w ((w2.setCell ⟨w.heap.size + 1, 0, none⟩ (.int .u64 0)).setCell ⟨w.heap.size + 1, 1, none⟩ (.slice none 0 0)) := Ba.KB.below (btr B1.out P2.out.1) (((Ba.KB.refl _ w2).setCell 0 _).setCell 1 _) (by omega)
  exact bodyPost_ret (En.results_row1 Tryz.results35 _ _ _ _ rfl (loadVar_stp (two_set _ _ P2.out.2 rfl) rfl)) rfl ⟨rfl, S0.out.below bb, bb⟩
/-- which kinds tell -/
def tlB (k : Int) : Bool := k == 1 || k == 3 || k == 4 || k == 5 || k == 6
theorem tells_any (k : Int) (w : World) : Calls Tryz.prog 12 #[.int .i64 k] w fun r w' => r = .returned (.bool (tlB k)) ∧ w' = w := by
  unfold tlB
  cases h1 : k == 1 <;> cases h3 : k == 3 <;> cases h4 : k == 4 <;> cases h5 : k == 5 <;> cases h6 : k == 6 <;> (
    go_enter Tryz.func12, Tryz.ntmps12
    go_wp2_with fail
    go_ret
    exact ⟨rfl, rfl⟩)
/-- what is done at a kind -/
def dgF (k : Int) : Nat := if k == 1 then 28 else if k == 2 then 29 else if k == 3 then 30 else if k == 4 then 31 else if k == 5 then 32 else if k == 6 then 33 else if k == 7 then 34 else 35
theorem doing_any (k : Int) (w : World) : Calls Tryz.prog 13 #[.int .i64 k] w fun r w' => r = .returned (.func (.func (dgF k)) #[] #[]) ∧ w' = w := by
  unfold dgF
  cases h1 : k == 1
  · cases h2 : k == 2
    · cases h3 : k == 3
      · cases h4 : k == 4
        · cases h5 : k == 5
          · cases h6 : k == 6
            · cases h7 : k == 7
              all_goals
                go_enter Tryz.func13, Tryz.ntmps13
                go_wp2_with fail
                go_ret
                exact ⟨rfl, rfl⟩
            · go_enter Tryz.func13, Tryz.ntmps13
              go_wp2_with fail
              go_ret
              exact ⟨rfl, rfl⟩
          · go_enter Tryz.func13, Tryz.ntmps13
            go_wp2_with fail
            go_ret
            exact ⟨rfl, rfl⟩
        · go_enter Tryz.func13, Tryz.ntmps13
          go_wp2_with fail
          go_ret
          exact ⟨rfl, rfl⟩
      · go_enter Tryz.func13, Tryz.ntmps13
        go_wp2_with fail
        go_ret
        exact ⟨rfl, rfl⟩
    · go_enter Tryz.func13, Tryz.ntmps13
      go_wp2_with fail
      go_ret
      exact ⟨rfl, rfl⟩
  · go_enter Tryz.func13, Tryz.ntmps13
    go_wp2_with fail
    go_ret
    exact ⟨rfl, rfl⟩
/-- a goroutine that has a tid and can tell, and, if it spawns, a tid is free -/
theorem can_yes {Y : Nat → Prop} {S B : Nat} {w : World} {st : Wst} {h : Nat → Option (List Int)} (s : WW Y B w st h) (hS : w.cell? ⟨S, 0, none⟩ = some (.pointer (some ⟨B, 0, none⟩))) (hY : Y S) (g : Int) (hg : (Lit.int .i64 g).wf = true) (t b : Nat) (l : List Int) (hf : st.f g = some (t, b)) (hb : h b = some l) (x : Bool) :
    Calls Tryz.prog 5 #[.pointer (some ⟨S, 0, none⟩), .int .i64 g, .bool x, .bool true] w fun r w' => r = .returned (.bool ((!x || decide (st.n < st.T)) && decide (nth l t < (st.M : Int)))) ∧ Below w.heap.size w w' := by
  have s0 := s
  obtain ⟨mb, D, s⟩ := s
  have C1 := hide (tid_some s0 g hg t b hf)
  have C2 := hide (fun u (q : Below w.heap.size w u) => room_any (s.below q))
  have C3 := hide (fun u (q : Below w.heap.size w u) => Wa.can_any (s0.below q) g hg t b l hf hb)
  have HS := hide (fun u (q : Below w.heap.size w u) => cell_blk hS (q.block S (s0.ylt S hY)))
  generalize decide (nth l t < (st.M : Int)) = c3 at *
  generalize decide (st.n < st.T) = c2 at *
  have hlt := s0.ylt S hY
  clear s s0 hY hg hf hb
  cases x <;> cases c2 <;> cases c3 <;> (
    go_enter Tryz.func5, Tryz.ntmps5
    go_wp2_with fail
    refine C1.out.mono ?_
    rintro r w1 ⟨rfl, b1⟩
    have B1 := hide b1
    have z1 := HS.out _ b1
    clear b1
    go_wp2_with (first
      | (go_at_call 15; refine (C2.out _ B1.out).mono ?_; rintro r w2 ⟨rfl, b2⟩; have B2 := hide (btr B1.out b2); have z2 := HS.out _ B2.out; clear b2)
      | (go_at_call 16; refine (C3.out _ (by first | exact B2.out | exact B1.out)).mono ?_; rintro r w3 ⟨rfl, b3⟩; have B3 := hide (btr (by first | exact B2.out | exact B1.out) b3); clear b3))
    go_ret
    exact ⟨rfl, by first | exact B3.out | exact B2.out | exact B1.out⟩)
end Sp
end Go.Proofs.YtakbbhngcdccpaaGreat
/- Package stamp, over this seat's program: spawn, New; what a nil stamper answers. -/
namespace Go.Proofs.YtakbbhngcdccpaaGreat
open Go.ChangeShapes Go.WideShapes Go.ChangeAt Go.RowKit
namespace Sp
open Ck Wa

/-- what a spawn leaves behind -/
structure SpP (Y : Nat → Prop) (B : Nat) (w : World) (st : Wst) (h : Nat → Option (List Int)) (c : Int) (t b t0 n : Nat) (l : List Int) (r : Ending) (w' : World) (R Ac : Nat) (lb lc : List Int) (h' : Nat → Option (List Int)) : Prop where
  res : r = .returned (.agg #[.int .u64 (epk (t : Int) (nth l t)), .slice (some ⟨R, 0, none⟩) n n])
  at_ : Ck.At w' (some ⟨R, 0, none⟩) l
  new : w.heap.size ≤ R
  isb : IsSet l lb t (nth l t + 1)
  isc : IsSet l lc t0 1
  hb : h' b = some lb
  hc : h' Ac = some lc
  oth : ∀ x lx, x ≠ b → h x = some lx → h' x = some lx
  fr : h Ac = none
  ww : WW (Y1 Y R) B w' { st with n := st.n + 1, f := upf st.f c (some (t0, Ac)) } h'
  kp : Kp Y w w'
set_option maxRecDepth 100000 in
set_option maxHeartbeats 6400000 in
theorem spawn_ok {Y : Nat → Prop} {S B : Nat} {w : World} {st : Wst} {h : Nat → Option (List Int)} (s : WW Y B w st h) (hS : w.cell? ⟨S, 0, none⟩ = some (.pointer (some ⟨B, 0, none⟩))) (hY : Y S) (e : En.Ev) (hg : (Lit.int .i64 e.g).wf = true) (hc : (Lit.int .i64 e.m).wf = true) (hc0 : 0 ≤ e.m) (t b t0 n : Nat) (l : List Int) (hf : st.f e.g = some (t, b)) (hfc : st.f e.m = none) (hb : h b = some l) (hn : l.length = n) (hM : nth l t < (st.M : Int)) (hT : st.n < st.T)
    (ht0 : t0 < 256) (hno : ¬ Used st.f t0) (hall : ∀ t, t < t0 → Used st.f t) :
    Calls Tryz.prog 28 #[.pointer (some ⟨S, 0, none⟩), En.evv e] w fun r w' => ∃ R Ac lb lc h', SpP Y B w st h e.m t b t0 n l r w' R Ac lb lc h' := by
  have s1 := boxW (boxW s (.cells #[.int .i64 e.k, .int .i64 e.g, .int .i64 e.c, .int .i64 e.a, .int .i64 e.v, .int .i64 e.m, .bool e.s, .bool e.o] 23)) (.cells #[.int .u64 0, .slice none 0 0] 29)
  have b1 := btr (below_alloc w (.cells #[.int .i64 e.k, .int .i64 e.g, .int .i64 e.c, .int .i64 e.a, .int .i64 e.v, .int .i64 e.m, .bool e.s, .bool e.o] 23)) (below_alloc (w.alloc (.cells #[.int .i64 e.k, .int .i64 e.g, .int .i64 e.c, .int .i64 e.a, .int .i64 e.v, .int .i64 e.m, .bool e.s, .bool e.o] 23)) (.cells #[.int .u64 0, .slice none 0 0] 29))
  have z1 := cell_blk hS (b1.block S (s.ylt S hY))
  have LE := hide (learn_some s1 z1 (.inl (.inl hY)) e.g (.pointer none) hg t b n l ⟨_, rfl⟩ (kn_nil e.g hg t b hf) hf hb hn)
  have E1 := hide (heap_new (w.alloc (.cells #[.int .i64 e.k, .int .i64 e.g, .int .i64 e.c, .int .i64 e.a, .int .i64 e.v, .int .i64 e.m, .bool e.s, .bool e.o] 23)) (.cells #[.int .u64 0, .slice none 0 0] 29))
  have E0 := hide (Ba.heap_below (heap_new w (.cells #[.int .i64 e.k, .int .i64 e.g, .int .i64 e.c, .int .i64 e.a, .int .i64 e.v, .int .i64 e.m, .bool e.s, .bool e.o] 23)) (below_alloc _ (.cells #[.int .u64 0, .slice none 0 0] 29)))
  have K1 := hide (Kp.of (X := Y) b1 s.ylt)
  have YL := hide s.ylt
  have SZ := hide (show ((w.alloc (.cells #[.int .i64 e.k, .int .i64 e.g, .int .i64 e.c, .int .i64 e.a, .int .i64 e.v, .int .i64 e.m, .bool e.s, .bool e.o] 23)).alloc (.cells #[.int .u64 0, .slice none 0 0] 29)).heap.size = w.heap.size + 1 + 1 by rw [World.size_alloc, World.size_alloc])
  rw [World.size_alloc] at E1
  have Z1 := hide z1
  clear s1 b1 z1 hS
  have c1 : ((w.alloc (.cells #[.int .i64 e.k, .int .i64 e.g, .int .i64 e.c, .int .i64 e.a, .int .i64 e.v, .int .i64 e.m, .bool e.s, .bool e.o] 23)).alloc (.cells #[.int .u64 0, .slice none 0 0] 29)).cell? ⟨w.heap.size, 1, none⟩ = some (.int .i64 e.g) := cell_of E0.out 1
  have HF := hide (And.intro hg (And.intro hc (And.intro hf (And.intro hfc (And.intro hb (And.intro hM (And.intro hT (And.intro hno hall))))))))
  have HY := hide hY
  unfold En.evv En.evc
  clear hg hc hf hfc hb hM hT hno hall s hn hY
  go_enter Tryz.func28, Tryz.ntmps28
  go_wp2_with fail
  refine LE.out.mono ?_
  rintro r w2 ⟨R, A, hA, rfl, at2, hR, s2, k2⟩
  rw [SZ.out] at hR
  have EV2 : Hid (∃ ev, ev = epk (t : Int) (nth l t)) := ⟨_, rfl⟩
  have R2 := kp_heap k2 E1.out (.inr (by rw [World.size_alloc]))
  have e2 := kp_heap k2 E0.out (.inl (.inr rfl))
  have z2 := cell_blk Z1.out (k2.block S (.inl (.inl HY.out)))
  have s3 := boxW s2 (.cells #[.int .u64 (epk (t : Int) (nth l t)), .slice (some ⟨R, 0, none⟩) n n] 29)
  have b3 := below_alloc w2 (.cells #[.int .u64 (epk (t : Int) (nth l t)), .slice (some ⟨R, 0, none⟩) n n] 29)
  have E3 := hide (heap_new w2 (.cells #[.int .u64 (epk (t : Int) (nth l t)), .slice (some ⟨R, 0, none⟩) n n] 29))
  have e3 := Ba.heap_below e2 b3
  have R3 := hide (Ba.heap_below R2 b3)
  have z3 := cell_blk z2 (b3.block S (s2.ylt S (.inl (.inl (.inl HY.out)))))
  have v1 : (w2.alloc (.cells #[.int .u64 (epk (t : Int) (nth l t)), .slice (some ⟨R, 0, none⟩) n n] 29)).cell? ⟨w.heap.size, 1, none⟩ = some (.int .i64 e.g) := cell_of e3 1
  have v5 : (w2.alloc (.cells #[.int .u64 (epk (t : Int) (nth l t)), .slice (some ⟨R, 0, none⟩) n n] 29)).cell? ⟨w.heap.size, 5, none⟩ = some (.int .i64 e.m) := cell_of e3 5
  have hbA : b ≠ A := fun q => by rw [q, hA] at HF; cases HF.out.2.2.2.2.1
  have hb2 : upd h A l b = some l := by rw [upd_other _ _ _ _ hbA]; exact HF.out.2.2.2.2.1
  have SP := hide (fun u (q : Below (w2.alloc (.cells #[.int .u64 (epk (t : Int) (nth l t)), .slice (some ⟨R, 0, none⟩) n n] 29)).heap.size (w2.alloc (.cells #[.int .u64 (epk (t : Int) (nth l t)), .slice (some ⟨R, 0, none⟩) n n] 29)) u) => Wa.spawn_ok (s3.below q) e.g e.m HF.out.1 HF.out.2.1 hc0 t b t0 l HF.out.2.2.1 HF.out.2.2.2.1 hb2 HF.out.2.2.2.2.2.2.1 ht0 HF.out.2.2.2.2.2.2.2.1 HF.out.2.2.2.2.2.2.2.2)
  have P2 := hide (And.intro hA (And.intro at2 (And.intro hR (And.intro s2 k2))))
  clear hA at2 hR s2 k2 R2 LE e2 z2 s3 b3 e3
  go_wp2_with fail
  have B3 := hide (below_alloc w2 (.cells #[.int .u64 (epk (t : Int) (nth l t)), .slice (some ⟨R, 0, none⟩) n n] 29))
  generalize w2.alloc (.cells #[.int .u64 (epk (t : Int) (nth l t)), .slice (some ⟨R, 0, none⟩) n n] 29) = w3 at *
  have L2 := hide (And.intro (P2.out.2.2.2.1.ylt R (.inr rfl)) (P2.out.2.2.2.1.ylt S (.inl (.inl (.inl HY.out)))))
  have AT3 := hide (P2.out.2.1.below B3.out)
  have K3 := hide ((K1.out.trans (Kp.mono P2.out.2.2.2.2 fun k q => .inl (.inl q))).trans (Kp.of B3.out (fun k q => P2.out.2.2.2.1.ylt k (.inl (.inl (.inl q))))))
  generalize w2.heap.size = T5 at *
  have HB2 := hide hb2
  clear hb2
  go_region_held3 (fun w' => w'.cell? ⟨S, 0, none⟩ = some (.pointer (some ⟨B, 0, none⟩)) ∧ w'.cell? ⟨w.heap.size, 1, none⟩ = some (.int .i64 e.g) ∧ w'.cell? ⟨w.heap.size, 5, none⟩ = some (.int .i64 e.m))
    (first | (go_keep; done) | exact ⟨q0, q1, q5⟩)
    (first | (go_at_call 57; refine (SP.out _ (Ba.bdrew1 _)).mono ?_; rintro r w4 ⟨rfl, Ac, lc, hAc, ic, s4, k4⟩; have q0 := cell_blk (w := w3) z3 (k4.block S (.inl (.inl (.inl (.inl HY.out))))); have q1 := cell_blk (w := w3) v1 (k4.block w.heap.size (.inl (.inl (.inl (.inr rfl))))); have q5 := cell_blk (w := w3) v5 (k4.block w.heap.size (.inl (.inl (.inl (.inr rfl)))))))
  have hcg : e.g ≠ e.m := fun q => by have h1 := HF.out.2.2.1; rw [q, HF.out.2.2.2.1] at h1; cases h1
  have hbc : b ≠ Ac := fun q => by have h1 := HB2.out; rw [q, hAc] at h1; cases h1
  have TE := hide (tell_ok s4 q0 e.g HF.out.1 t b l (by show upf st.f e.m (some (t0, Ac)) e.g = _; rw [upf_other _ _ _ _ hcg]; exact HF.out.2.2.1) (by rw [upd_other _ _ _ _ hbc]; exact HB2.out) HF.out.2.2.2.2.2.1)
  have P4 := hide (And.intro hAc (And.intro ic (And.intro k4 hbc)))
  clear SP hAc ic s4 k4 z3 v1 v5 hcg hbc
  go_wp2_with fail
  refine TE.out.mono ?_
  rintro r w5 ⟨A2, lb, rfl, hA2, ib, s5, k5⟩
  have e5 := kp_heap k5 (kp_heap P4.out.2.2.1 E3.out (.inr rfl)) (.inr rfl)
  have r5 := kp_heap k5 (kp_heap P4.out.2.2.1 R3.out (.inl (.inl (.inr (by rw [World.size_alloc]))))) (.inl (.inl (.inr (by rw [World.size_alloc]))))
  have f0 : w5.frozen? ⟨w.heap.size + 1, 0, none⟩ = false := frozen_of r5 0
  have f1 : w5.frozen? ⟨w.heap.size + 1, 1, none⟩ = false := frozen_of r5 1
  have d0 : w5.cell? ⟨w.heap.size + 1, 0, none⟩ = some (.int .u64 0) := cell_of r5 0
  have d1 : w5.cell? ⟨w.heap.size + 1, 1, none⟩ = some (.slice none 0 0) := cell_of r5 1
  have g0 : w5.cell? ⟨T5, 0, none⟩ = some (.int .u64 (epk (t : Int) (nth l t))) := cell_of e5 0
  have g1 : w5.cell? ⟨T5, 1, none⟩ = some (.slice (some ⟨R, 0, none⟩) n n) := cell_of e5 1
  have P5 := hide (And.intro hA2 (And.intro ib (And.intro s5 (And.intro k5 r5))))
  clear hA2 ib s5 k5 e5 r5 TE q0 q1 q5
  go_wp2_with fail
  obtain ⟨hA2, ib, s5, k5, r5⟩ := P5.out
  obtain ⟨hAc, ic, k4, hbc⟩ := P4.out
  obtain ⟨hA, at2, hR, s2, k2⟩ := P2.out
  have hR1 : R ≠ w.heap.size + 1 := by omega
  have n1 : h Ac = none ∧ Ac ≠ A := by
    by_cases q : Ac = A
    · rw [q, upd_same] at hAc; cases hAc
    · rw [upd_other _ _ _ _ q] at hAc; exact ⟨hAc, q⟩
  have n2 : h A2 = none ∧ A2 ≠ A ∧ A2 ≠ Ac := by
    by_cases q : A2 = Ac
    · rw [q, upd_same] at hA2; cases hA2
    · rw [upd_other _ _ _ _ q] at hA2
      by_cases q2 : A2 = A
      · rw [q2, upd_same] at hA2; cases hA2
      · rw [upd_other _ _ _ _ q2] at hA2; exact ⟨hA2, q2, q⟩
  refine bodyPost_ret (En.results_row1 Tryz.results28 _ _ _ _ rfl (loadVar_stp (two_set _ _ r5 rfl) rfl)) rfl ⟨R, Ac, lb, lc, upd (upd (upd (upd h A l) Ac lc) A2 l) b lb, rfl, ?_, by omega, ib, ic, upd_same _ _ _, ?_, ?_, n1.1, ?_, ?_⟩
  · exact st2A (atK (atK (AT3.out.below (Ba.bdrew1 w3)) k4 (.inl (.inr rfl))) k5 (.inl (.inr rfl))) hR1 _ _
  · rw [upd_other _ _ _ _ (Ne.symm hbc), upd_other _ _ _ _ (Ne.symm n2.2.2), upd_same]
  · intro x lx hx e
    have a1 : x ≠ A := fun q => by rw [q, hA] at e; cases e
    have a2 : x ≠ Ac := fun q => by rw [q, n1.1] at e; cases e
    have a3 : x ≠ A2 := fun q => by rw [q, n2.1] at e; cases e
    rw [upd_other _ _ _ _ hx, upd_other _ _ _ _ a3, upd_other _ _ _ _ a2, upd_other _ _ _ _ a1]
    exact e
  · refine st2W s5 (.inl (.inl (.inr (by rw [World.size_alloc])))) _ _ (fun k q => ?_)
    rcases q with q | q
    · exact .inl (.inl (.inl (.inl q)))
    · exact .inl (.inr q)
  · refine st2K ((K3.out.trans (Kp.mono (w := w3) (w' := w4) ⟨k4.os, k4.tape, k4.output, k4.size, k4.block⟩ fun k q => .inl (.inl (.inl (.inl q))))).trans (Kp.mono k5 fun k q => .inl (.inl (.inl (.inl q))))) (fun q => ?_) _ _
    have := YL.out _ q
    omega
/-- New -/
theorem new_bad (t m : Int) (w : World) (hn : (t < 1 ∨ 256 < t) ∨ m < 1 ∨ 1048576 < m) : Calls Tryz.prog 24 #[.int .i64 t, .int .i64 m] w fun r w' => r = .returned (.tuple #[.pointer none, .int .i64 1]) ∧ w' = w := by
  have NW := hide (Wa.new_bad t m w hn)
  clear hn
  go_enter Tryz.func24, Tryz.ntmps24
  go_wp2_with fail
  refine NW.out.mono ?_
  rintro r w1 ⟨rfl, e⟩
  obtain rfl := e.symm
  go_wp2_with fail
  go_ret2
  exact ⟨rfl, rfl⟩
set_option maxRecDepth 100000 in
set_option maxHeartbeats 1600000 in
theorem new_any (t m : Nat) (w : World) (ht : 1 ≤ t ∧ t ≤ 256) (hm : 1 ≤ m ∧ m ≤ 1048576) :
    Calls Tryz.prog 24 #[.int .i64 (t : Int), .int .i64 (m : Int)] w fun r w' => ∃ S M B c h, r = .returned (.tuple #[.pointer (some ⟨S, 0, none⟩), .int .i64 0]) ∧ w'.heap[S]? = some (.cells #[.pointer (some ⟨B, 0, none⟩), .slice none 0 0, .slice none 0 0, .map (some M), .pointer none] 49 (0, 0)) ∧ w'.heap[M]? = some (.map #[] 0) ∧ w.heap.size ≤ M ∧ S = M + 1 ∧
      WW (Y1 (Y1 (Lw w) M) S) B w' ⟨t, m, 1, upf (fun _ => none) 0 (some (0, c))⟩ h ∧ h c = some [1] ∧ Kp (Lw w) w w' := by
  have NW := hide (Wa.new_any t m w ht hm)
  have hmm := @run_makeMap Tryz.prog
  generalize (t : Int) = ti at *
  generalize (m : Int) = mi at *
  clear ht hm
  go_enter Tryz.func24, Tryz.ntmps24
  go_wp2_with fail
  refine NW.out.mono ?_
  rintro r w1 ⟨B, c, h, rfl, s1, e1, k1⟩
  have P1 := hide (And.intro s1 (And.intro e1 k1))
  clear s1 e1 k1 NW
  go_wp2_with fail
  go_ret2
  obtain ⟨s1, e1, k1⟩ := P1.out
  have s2 := boxW (boxW s1 (.map #[] 0)) (.cells #[.pointer (some ⟨B, 0, none⟩), .slice none 0 0, .slice none 0 0, .map (some w1.heap.size), .pointer none] 49)
  have h2 := heap_new (w1.alloc (.map #[] 0)) (.cells #[.pointer (some ⟨B, 0, none⟩), .slice none 0 0, .slice none 0 0, .map (some w1.heap.size), .pointer none] 49)
  rw [World.size_alloc] at h2 s2
  exact ⟨w1.heap.size + 1, w1.heap.size, B, c, h, rfl, h2, Ba.heap_below (heap_new w1 (.map #[] 0)) (below_alloc _ _), k1.size, rfl, s2, e1, k1.trans (Kp.of (btr (below_alloc _ _) (below_alloc _ _)) s1.ylt)⟩
/-! ### a nil stamper -/
theorem note_nil (e : En.Ev) (w : World) : Calls Tryz.prog 4 #[.pointer none, En.evv e] w fun r w' => r = .returned (.tuple #[.agg #[.int .u64 0, .slice none 0 0], .int .i64 7]) ∧ Below w.heap.size w w' := by
  have h2 := hide (heap_new (w.alloc (.cells #[.int .i64 e.k, .int .i64 e.g, .int .i64 e.c, .int .i64 e.a, .int .i64 e.v, .int .i64 e.m, .bool e.s, .bool e.o] 23)) (.cells #[.int .u64 0, .slice none 0 0] 29))
  have b2 := hide (btr (below_alloc w (.cells #[.int .i64 e.k, .int .i64 e.g, .int .i64 e.c, .int .i64 e.a, .int .i64 e.v, .int .i64 e.m, .bool e.s, .bool e.o] 23)) (below_alloc _ (.cells #[.int .u64 0, .slice none 0 0] 29)))
  rw [World.size_alloc] at h2
  have c0 : ((w.alloc (.cells #[.int .i64 e.k, .int .i64 e.g, .int .i64 e.c, .int .i64 e.a, .int .i64 e.v, .int .i64 e.m, .bool e.s, .bool e.o] 23)).alloc (.cells #[.int .u64 0, .slice none 0 0] 29)).cell? ⟨w.heap.size + 1, 0, none⟩ = some (.int .u64 0) := cell_of h2.out 0
  have c1 : ((w.alloc (.cells #[.int .i64 e.k, .int .i64 e.g, .int .i64 e.c, .int .i64 e.a, .int .i64 e.v, .int .i64 e.m, .bool e.s, .bool e.o] 23)).alloc (.cells #[.int .u64 0, .slice none 0 0] 29)).cell? ⟨w.heap.size + 1, 1, none⟩ = some (.slice none 0 0) := cell_of h2.out 1
  have f0 : ((w.alloc (.cells #[.int .i64 e.k, .int .i64 e.g, .int .i64 e.c, .int .i64 e.a, .int .i64 e.v, .int .i64 e.m, .bool e.s, .bool e.o] 23)).alloc (.cells #[.int .u64 0, .slice none 0 0] 29)).frozen? ⟨w.heap.size + 1, 0, none⟩ = false := frozen_of h2.out 0
  have f1 : ((w.alloc (.cells #[.int .i64 e.k, .int .i64 e.g, .int .i64 e.c, .int .i64 e.a, .int .i64 e.v, .int .i64 e.m, .bool e.s, .bool e.o] 23)).alloc (.cells #[.int .u64 0, .slice none 0 0] 29)).frozen? ⟨w.heap.size + 1, 1, none⟩ = false := frozen_of h2.out 1
  unfold En.evv En.evc
  go_enter Tryz.func4, Tryz.ntmps4
  go_wp2_with fail
  first
    | exact bodyPost_ret (Ba.results_row2 Tryz.results4 _ _ _ _ _ rfl rfl (loadVar_stp (two_set _ _ h2.out rfl) rfl)) rfl ⟨rfl, Ba.KB.below b2.out (((Ba.KB.refl _ _).setCell 0 _).setCell 1 _) (by omega)⟩
    | exact bodyPost_ret (Ba.results_row2 Tryz.results4 _ _ _ _ _ rfl rfl (loadVar_stp h2.out rfl)) rfl ⟨rfl, b2.out⟩
theorem can_nil (g : Int) (x y : Bool) (w : World) : Calls Tryz.prog 5 #[.pointer none, .int .i64 g, .bool x, .bool y] w fun r w' => r = .returned (.bool false) ∧ w' = w := by
  go_enter Tryz.func5, Tryz.ntmps5
  go_wp2_with fail
  go_ret
  exact ⟨rfl, rfl⟩
theorem held_nil (w : World) : Calls Tryz.prog 6 #[.pointer none] w fun r w' => r = .returned (.slice none 0 0) ∧ w' = w := by
  go_enter Tryz.func6, Tryz.ntmps6
  go_wp2_with fail
  go_ret
  exact ⟨rfl, rfl⟩
theorem retire_nil (g : Int) (w : World) : Calls Tryz.prog 7 #[.pointer none, .int .i64 g] w fun r w' => r = .returned (.int .i64 6) ∧ w' = w := by
  go_enter Tryz.func7, Tryz.ntmps7
  go_wp2_with fail
  go_ret
  exact ⟨rfl, rfl⟩
theorem watch_nil (w : World) : Calls Tryz.prog 8 #[.pointer none] w fun r w' => r = .returned (.pointer none) ∧ w' = w := by
  go_enter Tryz.func8, Tryz.ntmps8
  go_wp2_with fail
  go_ret
  exact ⟨rfl, rfl⟩
theorem len_nil (w : World) : Calls Tryz.prog 9 #[.pointer none] w fun r w' => r = .returned (.int .i64 0) ∧ w' = w := by
  go_enter Tryz.func9, Tryz.ntmps9
  go_wp2_with fail
  go_ret
  exact ⟨rfl, rfl⟩
end Sp
end Go.Proofs.YtakbbhngcdccpaaGreat
/- Package stamp, over this seat's program: the events that were noted; follows. -/
namespace Go.Proofs.YtakbbhngcdccpaaGreat
open Go.ChangeShapes Go.WideShapes Go.ChangeAt Go.RowKit
namespace Sp
open Ck Wa
open En (Ev)

/-- the cells of a trace -/
def ec (l : List Ev) : List Value := l.flatMap fun e => (En.evc e).toList
theorem ec_app (l m : List Ev) : ec (l ++ m) = ec l ++ ec m := by simp [ec]
theorem ec_one (l : List Ev) : ∀ u ∈ ec l, u.oneCell' = true := by
  intro u hu
  simp only [ec, List.mem_flatMap] at hu
  obtain ⟨e, _, hu⟩ := hu
  simp [En.evc] at hu
  rcases hu with rfl | rfl | rfl | rfl | rfl | rfl | rfl | rfl <;> rfl
theorem ec_len (l : List Ev) : (ec l).length = l.length * 8 := by
  induction l with
  | nil => rfl
  | cons e l ih => simp [ec, En.evc] at ih ⊢; omega
theorem ec_at : ∀ (l : List Ev) (k : Nat) (e : Ev) (j : Nat), l[k]? = some e → j < 8 → (ec l)[k * 8 + j]? = (En.evc e)[j]?
  | [], _, _, _, hk, _ => by simp at hk
  | x :: l, 0, e, j, hk, hj => by
    simp at hk
    subst hk
    have h8 : (En.evc x).toList.length = 8 := rfl
    show ((En.evc x).toList ++ ec l)[0 * 8 + j]? = _
    rw [List.getElem?_append_left (by rw [h8]; omega)]
    simp
  | x :: l, k + 1, e, j, hk, hj => by
    have h8 : (En.evc x).toList.length = 8 := rfl
    show ((En.evc x).toList ++ ec l)[(k + 1) * 8 + j]? = _
    rw [List.getElem?_append_right (by rw [h8]; omega), h8, show (k + 1) * 8 + j - 8 = k * 8 + j by omega]
    exact ec_at l k e j (by simpa using hk) hj
theorem own_gu {w : World} {base : Nat} {v : Value} {l : List Ev} {n : Nat} (hn : n = l.length) (h : w.ownsRow base 23 8 v n (ec l)) : ∃ ob d, v = .slice ob n d ∧ Gu.EsAt w ob l := by
  subst hn
  rcases h.2 with ⟨rfl, h0⟩ | ⟨g, cap, cur, rfl, _, hg, hc1, hc2, hcs, htk⟩
  · exact ⟨none, 0, by rw [h0], fun k e hk => by rw [List.eq_nil_of_length_eq_zero h0] at hk; simp at hk⟩
  · refine ⟨_, cap, rfl, fun k e hk => ⟨g, 0, rfl, fun j hj => ?_⟩⟩
    have hk' := (List.getElem?_eq_some_iff.1 hk).1
    rw [← ec_at l k e j hk hj, ← htk, cell_of hg, List.getElem?_take, if_pos (by omega), Nat.zero_add]
    simp
theorem own_keep {w w' : World} {base : Nat} {e : TypeId} {size : Nat} {v : Value} {n : Nat} {xs : List Value} (h : w.ownsRow base e size v n xs) (hk : ∀ g, v.ownBlock = some g → w'.heap[g]? = w.heap[g]?) : w'.ownsRow base e size v n xs := by
  refine ⟨h.1, ?_⟩
  rcases h.2 with q | ⟨g, cap, cur, q1, q2, q3, q4⟩
  · exact .inl q
  · exact .inr ⟨g, cap, cur, q1, q2, (hk g (by rw [q1]; rfl)).trans q3, q4⟩
theorem own_lt {w : World} {base : Nat} {e : TypeId} {size : Nat} {v : Value} {n : Nat} {xs : List Value} (h : w.ownsRow base e size v n xs) {g : Nat} (hg : v.ownBlock = some g) : g < w.heap.size := by
  rcases h.2 with ⟨rfl, _⟩ | ⟨g', cap, cur, rfl, q2, q3, q4⟩
  · simp [Value.ownBlock] at hg
  · simp [Value.ownBlock] at hg
    subst hg
    exact (Array.getElem?_eq_some_iff.1 q3).1
theorem info_ev : (Tryz.prog.info? 23).map (fun i => (i.zero, i.size, i.bytes)) = some (some (.agg #[.int .i64 0, .int .i64 0, .int .i64 0, .int .i64 0, .int .i64 0, .int .i64 0, .bool false, .bool false]), 8, 56) := by kernel_rfl
theorem info_ex : ∃ i0, Tryz.prog.info? 23 = some i0 ∧ i0.zero = some (.agg #[.int .i64 0, .int .i64 0, .int .i64 0, .int .i64 0, .int .i64 0, .int .i64 0, .bool false, .bool false]) ∧ i0.size = 8 ∧ i0.bytes = 56 := by
  cases hi : Tryz.prog.info? 23 with
  | none => have := info_ev; rw [hi] at this; cases this
  | some i0 =>
    have hx := info_ev
    rw [hi] at hx
    simp at hx
    exact ⟨i0, rfl, hx⟩
/-- one event more: where it lies then, and that what was there stands -/
theorem app_keep (w : World) (ea : Option Addr) (n c : Nat) (l : List Ev) (e : Ev) (hn : n = l.length) (hown : w.ownsRow 0 23 8 (.slice ea n c) n (ec l)) (a : Addr) (hnews : ∀ j u, (ec [e])[j]? = some u → w.cell? (a.add j) = some u) (hl : n ≤ 100000) :
    ∃ ea' c' w', (Builtin.append_ #[44, 44] 44 #[.slice ea n c, .slice (some a) 1 1]).run Tryz.prog w = .ok (.slice ea' (n + 1) c') w' ∧ w'.ownsRow 0 23 8 (.slice ea' (n + 1) c') (n + 1) (ec (l ++ [e])) ∧ w'.ownsRow 0 23 8 (.slice ea n c) n (ec l) ∧ w.grownBy w' (Value.slice ea n c).ownBlock ∧
      ((Value.slice ea' (n + 1) c').ownBlock = (Value.slice ea n c).ownBlock ∨ (Value.slice ea' (n + 1) c').ownBlock = some w.heap.size) := by
  obtain ⟨i0, hi, hz, hs, hb⟩ := info_ex
  have h63 : n + 1 ≤ maxLen := by unfold maxLen; omega
  have hbytes : (n + 1) * 56 ≤ 140737488355328 := by omega
  obtain ⟨v', w', hr, ho, hg, _, hat⟩ := run_append_own_at (P := Tryz.prog) w 0 44 44 23 i0 _ 8 56 Tryz.underlying44 hi hz hs hb rfl (by decide) _ _ _ hown a 1 1 (ec [e]) rfl hnews (ec_one _) h63 hbytes (Nat.zero_le _)
  rw [← ec_app] at ho
  obtain ⟨ea', c', rfl, -⟩ := own_gu (by rw [hn]; simp) ho
  refine ⟨ea', c', w', hr, ho, ?_, hg, hat⟩
  rcases hown.2 with ⟨q, h0⟩ | ⟨g, cap, cur, q, hbg, hgc, hnc, hcm, hcs, htk⟩
  · exact ⟨hown.1, .inl ⟨q, h0⟩⟩
  · cases q
    by_cases hroom : n + 1 ≤ c
    · have hfit : n * i0.size + (ec [e]).length ≤ cur.size := by rw [hcs, hs, ec_len]; simp; omega
      have hr2 := run_append_room (P := Tryz.prog) w 44 44 23 i0 Tryz.underlying44 hi g n c cur hgc a 1 1 (ec [e]) (by rw [hs]; rfl) hnews (ec_one _) hroom hfit
      rw [hr] at hr2
      cases hr2
      refine ⟨hown.1, .inr ⟨g, c, _, rfl, hbg, setRow_heap w g cur _ _ _ hgc, hnc, hcm, ?_, ?_⟩⟩
      · rw [hs] at hfit ⊢
        simp only [List.size_toArray, List.length_append, List.length_take, List.length_drop, Array.length_toList]
        omega
      · rw [hs]
        show ((cur.toList.take (n * 8) ++ ec [e]) ++ _).take (n * 8) = _
        rw [List.append_assoc, List.take_append_of_le_length (by rw [List.length_take, Array.length_toList, hcs]; omega), List.take_take, Nat.min_self]
        exact htk
    · have hr2 := run_append_grow (P := Tryz.prog) w 44 44 23 i0 _ Tryz.underlying44 hi hz ⟨g, 0, none⟩ n c (ec l) (by rw [hs]; exact hown.1) (hown.cells (g := g) rfl) a 1 1 (ec [e]) (by rw [hs]; rfl) hnews (by omega) (by unfold maxLen at h63; omega) (growslice_fits (by omega) (by rw [hb]; exact hbytes))
      rw [hr] at hr2
      cases hr2
      exact own_keep hown fun g' e' => (below_alloc w.drew _).block g' (own_lt hown e')
theorem src8 (w : World) (e : Ev) (t : TypeId) : ∀ j u, (ec [e])[j]? = some u → ((w.alloc (.cells #[.int .i64 e.k, .int .i64 e.g, .int .i64 e.c, .int .i64 e.a, .int .i64 e.v, .int .i64 e.m, .bool e.s, .bool e.o] t)).drew).cell? ((⟨w.heap.size, 0, none⟩ : Addr).add j) = some u := by
  intro j u hj
  have hn := heap_new w (.cells #[.int .i64 e.k, .int .i64 e.g, .int .i64 e.c, .int .i64 e.a, .int .i64 e.v, .int .i64 e.m, .bool e.s, .bool e.o] t)
  rw [Addr.add_lit, Nat.zero_add, cell_of (Ba.heap_below hn (Ba.bdrew1 _)), ← hj]
  simp [ec, En.evc]
/-- a stamper in block S, its watch at B -/
structure NX (Y : Nat → Prop) (S B : Nat) (w : World) (st : Wst) (h : Nat → Option (List Int)) (ea : Option Addr) (c : Nat) (es : List Ev) (cv mv dv : Value) : Prop where
  hp : w.heap[S]? = some (.cells #[.pointer (some ⟨B, 0, none⟩), .slice ea es.length c, cv, mv, dv] 49 (0, 0))
  ww : WW Y B w st h
  ys : Y S
  ev : w.ownsRow 0 23 8 (.slice ea es.length c) es.length (ec es)
  ye : ∀ g, (Value.slice ea es.length c).ownBlock = some g → Y g ∧ g ≠ S
theorem NX.lt {Y : Nat → Prop} {S B : Nat} {w : World} {st : Wst} {h : Nat → Option (List Int)} {ea : Option Addr} {c : Nat} {es : List Ev} {cv mv dv : Value} (x : NX Y S B w st h ea c es cv mv dv) : S < w.heap.size := x.ww.ylt S x.ys
/-- what may stand behind -/
def FlP (es : List Ev) (e : Ev) (x : Bool) : Prop := ∃ n a, Gu.Chk (es ++ [e]) n a ∧ x = (n == 0 || a == ((es.length + 1 : Nat) : Int))
set_option maxRecDepth 100000 in
set_option maxHeartbeats 3200000 in
theorem follows_any {Y : Nat → Prop} {S B : Nat} {w : World} {st : Wst} {h : Nat → Option (List Int)} {ea : Option Addr} {c : Nat} {es : List Ev} {cv mv dv : Value} (x : NX Y S B w st h ea c es cv mv dv) (e : Ev) (hl : es.length < 2000) :
    Calls Tryz.prog 11 #[.pointer (some ⟨S, 0, none⟩), En.evv e] w fun r w' => ∃ b, r = .returned (.bool b) ∧ FlP es e b ∧ w'.ownsRow 0 23 8 (.slice ea es.length c) es.length (ec es) ∧ w.grownBy w' (Value.slice ea es.length c).ownBlock := by
  have b1 := btr (below_alloc w (.cells #[.int .i64 e.k, .int .i64 e.g, .int .i64 e.c, .int .i64 e.a, .int .i64 e.v, .int .i64 e.m, .bool e.s, .bool e.o] 23)) (Ba.bdrew1 _)
  have b2 := btr (btr (below_alloc w (.cells #[.int .i64 e.k, .int .i64 e.g, .int .i64 e.c, .int .i64 e.a, .int .i64 e.v, .int .i64 e.m, .bool e.s, .bool e.o] 23)) (below_alloc _ (.cells #[.int .i64 e.k, .int .i64 e.g, .int .i64 e.c, .int .i64 e.a, .int .i64 e.v, .int .i64 e.m, .bool e.s, .bool e.o] 23))) (Ba.bdrew1 _)
  have o2 : ((w.alloc (.cells #[.int .i64 e.k, .int .i64 e.g, .int .i64 e.c, .int .i64 e.a, .int .i64 e.v, .int .i64 e.m, .bool e.s, .bool e.o] 23)).alloc (.cells #[.int .i64 e.k, .int .i64 e.g, .int .i64 e.c, .int .i64 e.a, .int .i64 e.v, .int .i64 e.m, .bool e.s, .bool e.o] 23)).drew.ownsRow 0 23 8 (.slice ea es.length c) es.length (ec es) := own_keep x.ev fun g q => b2.block g (own_lt x.ev q)
  obtain ⟨n, hn⟩ : ∃ n, n = es.length := ⟨_, rfl⟩
  have sr := src8 (w.alloc (.cells #[.int .i64 e.k, .int .i64 e.g, .int .i64 e.c, .int .i64 e.a, .int .i64 e.v, .int .i64 e.m, .bool e.s, .bool e.o] 23)) e 23
  rw [World.size_alloc] at sr
  obtain ⟨ea', c', w6, hr, ho, hk, hg, -⟩ := app_keep _ ea es.length c es e rfl o2 ⟨w.heap.size + 1, 0, none⟩ sr (by omega)
  obtain ⟨_, _, q, es6⟩ := own_gu (by simp) ho
  cases q
  have GC := hide (Gu.gcheck_any ea' (es ++ [e]) c' w6 es6 (by simp; omega))
  rw [show (es ++ [e]).length = es.length + 1 by simp] at GC
  have HR := hide hr
  have G6 := hide (show w.grownBy w6 (Value.slice ea es.length c).ownBlock from ⟨hg.os.trans b2.os, hg.tape.trans b2.tape, hg.output.trans b2.output, Nat.le_trans b2.size hg.size, fun k hk hne => (hg.block k (Nat.lt_of_lt_of_le hk b2.size) hne).trans (b2.block k hk)⟩)
  have HK := hide hk
  have y1 : w.cell? ⟨S, 1, none⟩ = some (.slice ea es.length c) := cell_of x.hp 1
  have hlt := x.lt
  have hl2 : (es.length : Int) + 1 < 2001 := by omega
  have FL := hide (fun n a (q : Gu.Chk (es ++ [e]) n a) => (show FlP es e _ from ⟨n, a, q, rfl⟩))
  rw [← hn] at *
  clear x o2 hr ho hk hg es6 sr b1 b2
  unfold En.evv En.evc
  go_enter Tryz.func11, Tryz.ntmps11
  go_wp2_with fail
  go_region_law (refine Gu.step_append_run _ (by rfl) _ _ _ _ (by rfl) _ _ (by rfl) (by rfl) _ _ HR.out ?_)
  all_goals
    go_wp2_with fail
    refine GC.out.mono ?_
    rintro r w7 ⟨⟨n7, a7, rfl, hc7⟩, b7⟩
    have F7 := hide (FL.out n7 a7 hc7)
    have O7 := hide (own_keep HK.out fun g q => b7.block g (own_lt HK.out q))
    have G7 := hide (show w.grownBy w7 (Value.slice ea n c).ownBlock from ⟨b7.os.trans G6.out.os, b7.tape.trans G6.out.tape, b7.output.trans G6.out.output, Nat.le_trans G6.out.size b7.size, fun k hk hne => (b7.block k (Nat.lt_of_lt_of_le hk G6.out.size)).trans (G6.out.block k hk hne)⟩)
    clear hc7 b7
    cases hq : n7 == 0
    · rw [hq] at F7
      go_wp2_with fail
      go_ret
      exact ⟨_, rfl, F7.out, O7.out, G7.out⟩
    · rw [hq] at F7
      go_wp2_with fail
      go_ret
      exact ⟨_, rfl, F7.out, O7.out, G7.out⟩
end Sp
end Go.Proofs.YtakbbhngcdccpaaGreat
