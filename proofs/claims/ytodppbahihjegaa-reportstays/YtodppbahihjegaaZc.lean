/- Package report, over this seat's program: Put. -/
import Derived.Test.YtodppbahihjegaaZb
namespace Go.Proofs.Ytodppbahihjegaa
open Go.ChangeShapes Go.WideShapes Go.ChangeAt Go.RowKit
namespace Rep
open Ck Ce
open Ba (hide)
open Ep (tidOf clkOf ownB)

section
variable {Y Z : Nat → Prop} {X : Nat} {w w' : World} {S : Rst} {mb : Nat} {D : DataW Unit} {xs : Nat → Nat} {vs : Nat → Value}
theorem RX.less (s : RX Y X w S mb D xs vs) (h : ∀ k, Z k → Y k) : RX Z X w S mb D xs vs := s.mv (fun _ _ => rfl) (fun k q r => s.bd k r (h k q)) (fun k q => s.yl k (h k q)) (Nat.le_refl _)
theorem RX.box (s : RX Y X w S mb D xs vs) (o : Obj) : RX (fun k => Y k ∨ k = w.heap.size) X (w.alloc o) S mb D xs vs := by
  refine s.mv (fun k q => (Ba.below_alloc w o).block k (s.bl k q)) (fun k q r => ?_) (fun k q => ?_) (Ba.below_alloc w o).size
  · rcases q with q | q
    · exact s.bd k r q
    · have := s.bl k r; omega
  · rw [World.size_alloc]
    rcases q with q | q
    · exact Nat.lt_succ_of_lt (s.yl k q)
    · omega
end
/-- an access -/
structure Aq where
  p : Int
  g : Int
  c : Int
  wr : Bool
def aV (a : Aq) : Array Value := #[.int .i64 a.p, .int .i64 a.g, .int .i64 a.c, .bool a.wr]
/-- what the cell answers, and what it is then -/
def acS (a : Aq) (st : Cst) (e : Int) (l : List Int) : Cst := if a.wr then wrS e else rdS st e l
def acR (a : Aq) (st : Cst) (e : Int) (l : List Int) : Int := if a.wr then wrR st e l else rdR st e l
def rcOf (a : Aq) (x : Int) : Rc := ⟨a.c, a.p, a.g, x, a.wr⟩
def putF (S : Rst) (a : Aq) (x : Int) : Int → Option Rc := if x = 0 ∨ (S.f a.c).isSome = true then S.f else upf S.f a.c (some (rcOf a x))
def putS (S : Rst) (a : Aq) (i : Nat) (e : Int) (l : List Int) : Rst := ⟨upn S.c i (acS a (S.c i) e l), putF S a (acR a (S.c i) e l)⟩
def putB (S : Rst) (a : Aq) (i : Nat) (e : Int) (l : List Int) : Bool := !(acR a (S.c i) e l == 0) && (S.f a.c).isNone
def badA (a : Aq) : Prop := a.c < 0 ∨ 8 ≤ a.c ∨ a.p < 0 ∨ a.g < 0
set_option maxRecDepth 100000 in
theorem put_arg (o : Option Addr) (a : Aq) (e q : Value) (h : badA a) (w : World) :
    Calls Try.prog 29 #[.pointer o, .agg (aV a), e, q] w fun r w' => r = .returned (.tuple #[.bool false, .int .i64 1]) ∧ Below w.heap.size w w' := by
  obtain ⟨p, g, c, wr⟩ := a
  unfold badA at h
  unfold aV
  simp only at h ⊢
  by_cases hc : c < 0 ∨ 8 ≤ c
  · have I := hide (fun u => isc_no c hc u)
    clear h hc
    go_enter Try.func29, Try.ntmps29
    go_wp2_with fail
    refine (I.out _).mono ?_
    rintro r w1 ⟨rfl, rfl⟩
    go_wp2_with fail
    go_ret2
    exact ⟨rfl, Ba.below_alloc _ _⟩
  · have I := hide (fun u => isc_yes c (by omega) (by omega) u)
    by_cases hp : p < 0
    · clear h hc
      go_enter Try.func29, Try.ntmps29
      go_wp2_with fail
      refine (I.out _).mono ?_
      rintro r w1 ⟨rfl, rfl⟩
      go_wp2_with fail
      go_ret2
      exact ⟨rfl, Ba.below_alloc _ _⟩
    · have hg : g < 0 := by omega
      clear h hc
      go_enter Try.func29, Try.ntmps29
      go_wp2_with fail
      refine (I.out _).mono ?_
      rintro r w1 ⟨rfl, rfl⟩
      go_wp2_with fail
      go_ret2
      exact ⟨rfl, Ba.below_alloc _ _⟩
set_option maxRecDepth 100000 in
theorem put_nil (a : Aq) (e : Int) (a0 : 0 ≤ e) (a1 : e ≤ 18446744073709551615) (q : Value) (h : ¬ badA a) (w : World) :
    Calls Try.prog 29 #[.pointer none, .agg (aV a), .int .u64 e, q] w fun r w' => r = .returned (.tuple #[.bool false, .int .i64 (accE e)]) ∧ Below w.heap.size w w' := by
  obtain ⟨p, g, c, wr⟩ := a
  unfold badA at h
  unfold aV
  simp only at h ⊢
  have I := hide (fun u => isc_yes c (by omega) (by omega) u)
  have hp : ¬ (p < 0) := by omega
  have hg : ¬ (g < 0) := by omega
  have CN := hide (fun u => cell_nil c u)
  have RN := hide (fun u => read_no e a0 a1 none q u (.inr rfl))
  have WN := hide (fun u => write_no e a0 a1 none q u (.inr rfl))
  have h7 : ¬ (accE e = 0) := by unfold accE; split <;> decide
  clear h
  generalize accE e = x at *
  cases wr
  all_goals
    go_enter Try.func29, Try.ntmps29
    go_wp2_with fail
    refine (I.out _).mono ?_
    rintro r w1 ⟨rfl, rfl⟩
    go_wp2_with fail
    refine (CN.out _).mono ?_
    rintro r w1 ⟨rfl, rfl⟩
    go_wp2_with fail
    first
      | refine (RN.out _).mono ?_
      | refine (WN.out _).mono ?_
    rintro r w1 ⟨rfl, rfl⟩
    go_wp2_with fail
    go_ret2
    exact ⟨rfl, Ba.below_alloc _ _⟩
section
variable {Y : Nat → Prop} {X : Nat} {w : World} {S : Rst} {mb : Nat} {D : DataW Unit} {xs : Nat → Nat} {vs : Nat → Value}
set_option maxRecDepth 100000 in
theorem put_bad (s : RX Y X w S mb D xs vs) (a : Aq) (e : Int) (a0 : 0 ≤ e) (a1 : e ≤ 18446744073709551615) (q : Value) (h : ¬ badA a) (ho : ownB e = false) :
    Calls Try.prog 29 #[.pointer (some ⟨X, 0, none⟩), .agg (aV a), .int .u64 e, q] w fun r w' => r = .returned (.tuple #[.bool false, .int .i64 1]) ∧ Below w.heap.size w w' := by
  have s1 := s.box (.cells (aV a) 58)
  obtain ⟨p, g, c, wr⟩ := a
  unfold badA at h
  unfold aV at s1 ⊢
  simp only at h s1 ⊢
  obtain ⟨i, rfl⟩ : ∃ i : Nat, c = (i : Int) := ⟨c.toNat, by omega⟩
  have I := hide (fun u => isc_yes (i : Int) (by omega) (by omega) u)
  have hp : ¬ (p < 0) := by omega
  have hg : ¬ (g < 0) := by omega
  have CN := hide (cell_at s1 i (by omega))
  have RN := hide (fun u => read_no e a0 a1 (some ⟨xs i, 0, none⟩) q u (.inl ho))
  have WN := hide (fun u => write_no e a0 a1 (some ⟨xs i, 0, none⟩) q u (.inl ho))
  have h1 : accE e = 1 := by unfold accE; rw [if_pos ho]
  rw [h1] at RN WN
  unfold pt at CN
  clear h s s1 ho h1
  cases wr
  all_goals
    go_enter Try.func29, Try.ntmps29
    go_wp2_with fail
    refine (I.out _).mono ?_
    rintro r w1 ⟨rfl, rfl⟩
    go_wp2_with fail
    refine CN.out.mono ?_
    rintro r w1 ⟨rfl, rfl⟩
    go_wp2_with fail
    first
      | refine (RN.out _).mono ?_
      | refine (WN.out _).mono ?_
    rintro r w1 ⟨rfl, rfl⟩
    go_wp2_with fail
    go_ret2
    exact ⟨rfl, Ba.below_alloc _ _⟩
/-- what Put gives -/
def PutR (Y : Nat → Prop) (X : Nat) (w : World) (S' : Rst) (mb : Nat) (xs : Nat → Nat) (b : Bool) (r : Ending) (w' : World) : Prop := r = .returned (.tuple #[.bool b, .int .i64 0]) ∧ (∃ D' vs', RX Y X w' S' mb D' xs vs') ∧ KY Y w w'
set_option maxRecDepth 100000 in
set_option maxHeartbeats 3200000 in
theorem put_ok (s : RX Y X w S mb D xs vs) (a : Aq) (i : Nat) (hi : a.c = (i : Int)) (h : ¬ badA a) (e : Int) (ho : ownB e = true) (b : Nat) (l : List Int) (hc : CL Y w b l) :
    Calls Try.prog 29 #[.pointer (some ⟨X, 0, none⟩), .agg (aV a), .int .u64 e, .pointer (some ⟨b, 0, none⟩)] w (PutR Y X w (putS S a i e l) mb xs (putB S a i e l)) := by
  unfold PutR
  have s1 := s.box (.cells (aV a) 58)
  have hi8 : i < 8 := by unfold badA at h; omega
  have hb1 : (w.alloc (.cells (aV a) 58)).heap[w.heap.size]? = some (.cells (aV a) 58 (0, 0)) := heap_new _ _
  have hc1 : CL (fun k => Y k ∨ k = w.heap.size) (w.alloc (.cells (aV a) 58)) b l := (hc.keep (KY.of (Ba.below_alloc w _) s.yl)).mono fun _ q => .inl q
  have k1 : KY Y w (w.alloc (.cells (aV a) 58)) := KY.of (Ba.below_alloc w _) s.yl
  have OP : Hid (∀ (f : Nat), (a.wr = true → f = 14) → (a.wr = false → f = 15) → Calls Try.prog f #[.pointer (some ⟨xs i, 0, none⟩), .int .u64 e, .pointer (some ⟨b, 0, none⟩)] (w.alloc (.cells (aV a) 58)) fun r w' => r = .returned (.tuple #[.int .i64 (acR a (S.c i) e l), .int .i64 0]) ∧ (∃ v', CX (Ot (fun k => Y k ∨ k = w.heap.size) X mb xs vs i) (xs i) w' (acS a (S.c i) e l) v') ∧ KY (Ot (fun k => Y k ∨ k = w.heap.size) X mb xs vs i) (w.alloc (.cells (aV a) 58)) w') := by
    intro f h1 h2
    unfold acR acS
    cases hw : a.wr
    · rw [h2 hw]
      exact read_ok ⟨_, s1.cx i hi8⟩ e ho b l (hc1.mono fun _ q => .inl q)
    · rw [h1 hw]
      exact write_ok ⟨_, s1.cx i hi8⟩ e ho b l (hc1.mono fun _ q => .inl q)
  have CN := hide (cell_at s1 i hi8)
  have I := hide (fun u => isc_yes (i : Int) (by omega) (by omega) u)
  unfold pt at CN
  have HB := hide hb1
  have S1 := hide s1
  have K1 := hide k1
  obtain ⟨x, hx⟩ : ∃ x, acR a (S.c i) e l = x := ⟨_, rfl⟩
  obtain ⟨st', hst⟩ : ∃ st', acS a (S.c i) e l = st' := ⟨_, rfl⟩
  unfold putS putB
  rw [hx, hst] at OP ⊢
  clear hx hst s s1 k1 hb1 hc hc1
  obtain ⟨p, g, c, wr⟩ := a
  simp only at hi
  subst hi
  unfold badA at h
  unfold aV at OP CN HB S1 K1 ⊢
  simp only at h OP CN HB S1 K1 ⊢
  have hp : ¬ (p < 0) := by omega
  have hg : ¬ (g < 0) := by omega
  have hi0 : (0 : Int) ≤ (i : Int) := by omega
  have hi1 : (i : Int) < 8 := by omega
  clear h
  generalize hw1 : w.alloc (.cells #[.int .i64 p, .int .i64 g, .int .i64 (i : Int), .bool wr] 58) = w1 at *
  have HW := hide hw1
  clear hw1
  have TL : Hid (∀ w2 v2, CX (Ot (fun k => Y k ∨ k = w.heap.size) X mb xs vs i) (xs i) w2 st' v2 → KY (Ot (fun k => Y k ∨ k = w.heap.size) X mb xs vs i) w1 w2 → RX (fun k => Y k ∨ k = w.heap.size) X w2 ⟨upn S.c i st', S.f⟩ mb D xs (upn vs i v2) ∧ KY Y w w2 ∧ w2.heap[w.heap.size]? = some (.cells #[.int .i64 p, .int .i64 g, .int .i64 (i : Int), .bool wr] 58 (0, 0))) := by
    intro w2 v2 c2 k2
    exact ⟨S1.out.cell hi8 c2 k2, K1.out.trans (k2.mono fun _ q => .inl (.inl q)), (k2.block _ (.inl (.inr rfl))).trans HB.out⟩
  have y0 := cell_of HB.out 0
  have y1 := cell_of HB.out 1
  have y2 := cell_of HB.out 2
  have y3 := cell_of HB.out 3
  simp at y0 y1 y2 y3
  clear HB S1 K1
  have OPW : Hid (wr = true → _) := fun q => OP.out 14 (fun _ => rfl) (fun z => by rw [q] at z; cases z)
  have OPR : Hid (wr = false → _) := fun q => OP.out 15 (fun z => by rw [q] at z; cases z) (fun _ => rfl)
  clear OP
  by_cases hx0 : x = 0
  · subst hx0
    have TF : Hid (putF S ⟨p, g, (i : Int), wr⟩ 0 = S.f) := by show _ = _; unfold putF; rw [if_pos (.inl rfl)]
    rw [TF.out]
    cases wr
    all_goals
      go_enter Try.func29, Try.ntmps29
      go_wp2_with fail
      rw [HW.out]
      refine (I.out _).mono ?_
      rintro r w0 ⟨rfl, e0⟩
      obtain rfl := e0.symm
      go_wp2_with fail
      refine CN.out.mono ?_
      rintro r w0 ⟨rfl, e0⟩
      obtain rfl := e0.symm
      go_wp2_with fail
      first
        | refine (OPR.out (by first | rfl | trivial)).mono ?_
        | refine (OPW.out (by first | rfl | trivial)).mono ?_
      rintro r w2 ⟨rfl, ⟨v2, c2⟩, k2⟩
      have F2 := hide (TL.out w2 v2 c2 k2)
      clear c2 k2 TL
      go_wp2_with fail
      go_ret2
      exact ⟨rfl, ⟨_, _, F2.out.1.less fun _ q => .inl q⟩, F2.out.2.1⟩
  have hx1 : (x == 0) = false := beq_eq_false_iff_ne.2 hx0
  have TN : Hid (∀ w2 v2 q, S.f (i : Int) = some q → RX (fun k => Y k ∨ k = w.heap.size) X w2 ⟨upn S.c i st', S.f⟩ mb D xs (upn vs i v2) → _) := fun w2 v2 q hq s2 => tell_no s2 (rcOf ⟨p, g, (i : Int), wr⟩ x) hi0 hi1 q hq
  have TY : Hid (∀ w2 v2, S.f (i : Int) = none → RX (fun k => Y k ∨ k = w.heap.size) X w2 ⟨upn S.c i st', S.f⟩ mb D xs (upn vs i v2) → _) := fun w2 v2 hq s2 => tell_yes s2 (rcOf ⟨p, g, (i : Int), wr⟩ x) hi0 hi1 hq
  unfold rcOf rv ra5 at TN TY
  simp only at TN TY
  cases hf : S.f (i : Int) with
  | some q =>
    have TF : Hid (putF S ⟨p, g, (i : Int), wr⟩ x = S.f) := by show _ = _; unfold putF; rw [if_pos (.inr (by simp only [hf]; rfl))]
    rw [TF.out, hx1]
    simp only [Option.isNone_some, Bool.and_false]
    clear TY
    cases wr
    all_goals
      go_enter Try.func29, Try.ntmps29
      go_wp2_with fail
      rw [HW.out]
      refine (I.out _).mono ?_
      rintro r w0 ⟨rfl, e0⟩
      obtain rfl := e0.symm
      go_wp2_with fail
      refine CN.out.mono ?_
      rintro r w0 ⟨rfl, e0⟩
      obtain rfl := e0.symm
      go_wp2_with fail
      first
        | refine (OPR.out (by first | rfl | trivial)).mono ?_
        | refine (OPW.out (by first | rfl | trivial)).mono ?_
      rintro r w2 ⟨rfl, ⟨v2, c2⟩, k2⟩
      have F2 := hide (TL.out w2 v2 c2 k2)
      have u0 := cell_of F2.out.2.2 0
      have u1 := cell_of F2.out.2.2 1
      have u2 := cell_of F2.out.2.2 2
      have u3 := cell_of F2.out.2.2 3
      simp at u0 u1 u2 u3
      clear c2 k2 TL
      go_wp2_with fail
      refine (TN.out w2 v2 q hf F2.out.1).mono ?_
      rintro r w3 ⟨rfl, b3⟩
      have F3 := hide (F2.out.1.below b3)
      have K3 := hide (F2.out.2.1.trans (KY.of b3 (fun k q => F2.out.1.yl k (.inl q))))
      clear b3
      go_wp2_with fail
      go_ret2
      exact ⟨rfl, ⟨_, _, F3.out.less fun _ q => .inl q⟩, K3.out⟩
  | none =>
    have TF : Hid (putF S ⟨p, g, (i : Int), wr⟩ x = upf S.f (i : Int) (some (rcOf ⟨p, g, (i : Int), wr⟩ x))) := by
      show _ = _; unfold putF; rw [if_neg (by simp only [hf]; simp [hx0])]
    rw [TF.out, hx1]
    simp only [Option.isNone_none, Bool.and_true, Bool.not_false]
    clear TN
    cases wr
    all_goals
      go_enter Try.func29, Try.ntmps29
      go_wp2_with fail
      rw [HW.out]
      refine (I.out _).mono ?_
      rintro r w0 ⟨rfl, e0⟩
      obtain rfl := e0.symm
      go_wp2_with fail
      refine CN.out.mono ?_
      rintro r w0 ⟨rfl, e0⟩
      obtain rfl := e0.symm
      go_wp2_with fail
      first
        | refine (OPR.out (by first | rfl | trivial)).mono ?_
        | refine (OPW.out (by first | rfl | trivial)).mono ?_
      rintro r w2 ⟨rfl, ⟨v2, c2⟩, k2⟩
      have F2 := hide (TL.out w2 v2 c2 k2)
      have u0 := cell_of F2.out.2.2 0
      have u1 := cell_of F2.out.2.2 1
      have u2 := cell_of F2.out.2.2 2
      have u3 := cell_of F2.out.2.2 3
      simp at u0 u1 u2 u3
      clear c2 k2 TL
      go_wp2_with fail
      refine (TY.out w2 v2 hf F2.out.1).mono ?_
      rintro r w3 ⟨rfl, ⟨D3, s3⟩, k3⟩
      have F3 := hide s3
      have K3 := hide (F2.out.2.1.trans (k3.mono fun _ q => .inl q))
      clear s3 k3
      go_wp2_with fail
      go_ret2
      exact ⟨rfl, ⟨_, _, F3.out.less fun _ q => .inl q⟩, K3.out⟩
end
end Rep
end Go.Proofs.Ytodppbahihjegaa
