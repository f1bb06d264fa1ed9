import Derived.Test.YtekdcfdjohlfcaaAp1
import Derived.Test.YtekdcfdjohlfcaaZh
import Derived.Deep.Cut
/- Layer 19's reference, over this seat's program: what lies in memory; Retire. -/
namespace Go.Proofs.Ytekdcfdjohlfcaa
open Go.ChangeShapes Go.WideShapes Go.ChangeAt Go.RowKit
namespace Co
open Ck Ce Rep
open Ba (KF Bd Nw)

/-- a race of the reference -/
structure Rr where
  th : Bool
  r : Rc
def rrV (q : Rr) : Array Value := #[.bool q.th, .int .i64 q.r.c, .int .i64 q.r.p, .int .i64 q.r.g, .int .i64 q.r.wi, .bool q.r.wr]
/-- a report of the reference -/
structure Qst where
  A : Nat → Ac
  F : Nat → Nat → Int
  T : Nat → Bool
  q : Nat → Rr
structure QX (w : World) (R : Nat) (S : Qst) : Prop where
  ce : ∀ i, i < 8 → RO w R (i * 261) w (S.A i) (S.F i) (S.T i)
  rr : ∀ i, i < 8 → ∀ j, j < 6 → w.cell? ⟨R, 2088 + i * 6 + j, none⟩ = (rrV (S.q i))[j]?
section
variable {w w' : World} {R : Nat} {S : Qst}
theorem QX.lt (h : QX w R S) : R < w.heap.size := (h.ce 0 (by decide)).lt
theorem RO.self {W0 : World} {o : Nat} {a : Ac} {F : Nat → Int} {tl : Bool} (h : RO W0 R o w a F tl) : RO w R o w a F tl := ⟨h.lt, h.fz, h.c0, h.c1, h.c2, h.c3, h.rd, h.ct, fun _ _ => rfl⟩
theorem QX.block (h : QX w R S) (e : w'.heap[R]? = w.heap[R]?) : QX w' R S :=
  ⟨fun i hi => ((h.ce i hi).block e).self, fun i hi j hj => (World.cell?_of_block (w := w) (a := ⟨R, 2088 + i * 6 + j, none⟩) e).trans (h.rr i hi j hj)⟩
theorem QX.below (h : QX w R S) (b : Below w.heap.size w w') : QX w' R S := h.block (b.block R h.lt)
/-- a cell has changed -/
theorem QX.cell (h : QX w R S) {i : Nat} (hi : i < 8) {a : Ac} {F : Nat → Int} {tl : Bool} (r : RO w R (i * 261) w' a F tl) : QX w' R ⟨upn S.A i a, upn S.F i F, upn S.T i tl, S.q⟩ := by
  refine ⟨fun j hj => ?_, fun j hj k hk => ?_⟩
  · show RO w' R (j * 261) w' (upn S.A i a j) (upn S.F i F j) (upn S.T i tl j)
    by_cases e : j = i
    · subst e
      rw [upn_same, upn_same, upn_same]
      exact r.self
    · rw [upn_other _ _ _ _ e, upn_other _ _ _ _ e, upn_other _ _ _ _ e]
      have c := h.ce j hj
      refine ⟨r.lt, r.fz, (r.fr _ (by omega)).trans c.c0, (r.fr _ (by omega)).trans c.c1, (r.fr _ (by omega)).trans c.c2, (r.fr _ (by omega)).trans c.c3, fun k hk => (r.fr _ (by omega)).trans (c.rd k hk), (r.fr _ (by omega)).trans c.ct, fun _ _ => rfl⟩
  · exact (r.fr _ (by omega)).trans (h.rr j hj k hk)
end
/-- what the reference's Retire leaves of the first k -/
def rqS (S : Qst) (t : Nat) (cut : Int) (k : Nat) : Qst := ⟨fun i => if i < k then rtA (S.A i) (t : Int) cut else S.A i, fun i => if i < k then upF (S.F i) t 0 else S.F i, fun i => if i < k then (S.T i || decide (cut < S.F i t)) else S.T i, S.q⟩
end Co
end Go.Proofs.Ytekdcfdjohlfcaa
/- Layer 19's reference, over this seat's program: Retire, New, Races. -/
namespace Go.Proofs.Ytekdcfdjohlfcaa
open Go.ChangeShapes Go.WideShapes Go.ChangeAt Go.RowKit
namespace Co
open Ck Ce Rep
open Ba (KF Bd Nw)

theorem rq_succ (S : Qst) (t : Nat) (cut : Int) (k : Nat) : (⟨upn (rqS S t cut k).A k (rtA ((rqS S t cut k).A k) (t : Int) cut), upn (rqS S t cut k).F k (upF ((rqS S t cut k).F k) t 0), upn (rqS S t cut k).T k ((rqS S t cut k).T k || decide (cut < (rqS S t cut k).F k t)), (rqS S t cut k).q⟩ : Qst) = rqS S t cut (k + 1) := by
  unfold rqS upn
  congr 1
  all_goals
    funext j
    by_cases e : j = k
    · subst e; simp
    · by_cases h : j < k
      · have : j < k + 1 := by omega
        simp [e, h, this]
      · have : ¬ j < k + 1 := by omega
        simp [e, h, this]
theorem rq_zero (S : Qst) (t : Nat) (cut : Int) : rqS S t cut 0 = S := by simp [rqS]
set_option maxRecDepth 100000 in
theorem qretire_arg (R : Nat) (tid cut : Int) (h : badR tid cut) (w : World) : Calls Try.prog 54 #[.pointer (some ⟨R, 0, none⟩), .int .i64 tid, .int .i64 cut] w fun r w' => r = .returned (.int .i64 1) ∧ w' = w := by
  have RN := hide (fun p u => Ce.rret_arg p tid cut h u)
  clear h
  go_enter Try.func54, Try.ntmps54
  go_wp2_with fail
  go_loop [7, 8] (fun e i => ∃ k : Nat, k ≤ 8 ∧ i = .int .i64 (k : Int) ∧ e = .int .i64 (if k = 0 then 0 else 1)) (fun _ i => 8 - (intOf i).toNat)
  case atStart => exact ⟨0, by decide, rfl, rfl⟩
  case round =>
    obtain ⟨k, hk, rfl, rfl⟩ := hrel
    by_cases hlt : k < 8
    · have hlt' : (k : Int) < 8 := by omega
      generalize (if k = 0 then (0 : Int) else 1) = e0 at *
      go_wp2_with fail
      refine (RN.out _ _).mono ?_
      rintro r w1 ⟨rfl, e1⟩
      obtain rfl := e1.symm
      go_wp2_with fail
      go_round
      case rel => exact ⟨k + 1, by omega, by go_num, by rw [if_neg (by omega)]⟩
      case measure => simp [intOf]; omega
    · obtain rfl : k = 8 := by omega
      go_wp2_with fail
      go_ret
      exact ⟨rfl, rfl⟩
set_option maxRecDepth 100000 in
theorem qretire_ok {w : World} {R : Nat} {S : Qst} (s : QX w R S) (t : Nat) (ht : t < 256) (cut : Int) (h2 : 0 ≤ cut) (h3 : cut ≤ 1048576) :
    Calls Try.prog 54 #[.pointer (some ⟨R, 0, none⟩), .int .i64 (t : Int), .int .i64 cut] w fun r w' => r = .returned (.int .i64 0) ∧ QX w' R (rqS S t cut 8) ∧ KF (fun k => k = R) w w' := by
  have S0 : Hid (QX w R (rqS S t cut 0)) := by rw [rq_zero]; exact s
  have hR := s.lt
  clear s
  go_enter Try.func54, Try.ntmps54
  go_wp2_with fail
  go_loopw [7, 8] (fun e i wr => ∃ k : Nat, k ≤ 8 ∧ i = .int .i64 (k : Int) ∧ e = .int .i64 0 ∧ QX wr R (rqS S t cut k) ∧ KF (fun k => k = R) w wr) (fun _ i _ => 8 - (intOf i).toNat)
  case atStart => exact ⟨0, by decide, rfl, rfl, S0.out, KF.refl _ _⟩
  case round =>
    clear S0
    obtain ⟨k, hk, rfl, rfl, s, kf⟩ := hrel
    have KH := hide kf
    have SH := hide s
    by_cases hlt : k < 8
    · have hlt' : (k : Int) < 8 := by omega
      have RT := hide (rret_ok (s.ce k hlt) t ht cut h2 h3)
      clear s kf
      go_wp2_with fail
      refine RT.out.mono ?_
      rintro r w2 ⟨rfl, r2, k2⟩
      have S2 := SH.out.cell hlt r2
      rw [rq_succ] at S2
      have S2H := hide S2
      have K2 := hide (KH.out.trans k2 (Nw.refl _ _))
      clear r2 k2 S2 RT SH KH
      go_wp2_with fail
      go_roundw
      case rel => exact ⟨k + 1, by omega, by go_num, rfl, S2H.out, K2.out⟩
      case measure => simp [intOf]; omega
    · obtain rfl : k = 8 := by omega
      clear s kf
      go_wp2_with fail
      go_ret
      exact ⟨rfl, SH.out, KH.out⟩
/-- the races that are there, below k -/
def ql (q : Nat → Rr) : Nat → List Rc
  | 0 => []
  | k + 1 => ql q k ++ (if (q k).th = true then [(q k).r] else [])
def qcC (l : List Rc) : List Value := l.flatMap fun r => (rrV ⟨true, r⟩).toList
theorem qcC_app (l : List Rc) (r : Rc) : qcC (l ++ [r]) = qcC l ++ (rrV ⟨true, r⟩).toList := by simp [qcC]
theorem ql_len (q : Nat → Rr) : ∀ k, (ql q k).length ≤ k
  | 0 => Nat.le_refl _
  | k + 1 => by
    have := ql_len q k
    unfold ql
    rw [List.length_append]
    split <;> simp <;> omega
theorem info_rr : (Try.prog.info? 70).map (fun i => (i.zero, i.size, i.bytes)) = some (some (.agg (rrV ⟨false, r0⟩)), 6, 48) := by kernel_rfl
theorem cell_six (w : World) (a b c d e f : Value) (t : TypeId) : ∀ j u, [a, b, c, d, e, f][j]? = some u → (w.alloc (.cells #[a, b, c, d, e, f] t)).cell? ((⟨w.heap.size, 0, none⟩ : Addr).add j) = some u := by
  intro j u hj
  match j, hj with
  | 0, hj | 1, hj | 2, hj | 3, hj | 4, hj | 5, hj =>
    simp at hj
    subst hj
    simp [Addr.add]
theorem one_six (q : Rr) : ∀ u ∈ (rrV q).toList, u.oneCell' = true := by
  intro u hu
  simp [rrV] at hu
  rcases hu with rfl | rfl | rfl | rfl | rfl | rfl <;> rfl
def QcR (w : World) (l : List Rc) (r : Ending) (w' : World) : Prop := ∃ v, r = .returned v ∧ w'.ownsRow w.heap.size 70 6 v l.length (qcC l) ∧ Below w.heap.size w w'
set_option maxRecDepth 100000 in
set_option maxHeartbeats 1600000 in
theorem qraces_any {w : World} {R : Nat} {S : Qst} (s : QX w R S) : Calls Try.prog 25 #[.pointer (some ⟨R, 0, none⟩)] w (QcR w (ql S.q 8)) := by
  unfold QcR
  have SB := hide (fun u (b : Below w.heap.size w u) => s.below b)
  obtain ⟨i1, hi1, hy1, hy2, hy3⟩ := info_parts info_rr
  have INA := hide (And.intro hi1 (And.intro hy1 (And.intro hy2 hy3)))
  clear hi1 hy1 hy2 hy3 s
  go_enter Try.func25, Try.ntmps25
  go_wp2_with fail
  go_loopw [3, 4] (fun v i wr => ∃ k : Nat, k ≤ 8 ∧ i = .int .i64 (k : Int) ∧ wr.ownsRow w.heap.size 70 6 v (ql S.q k).length (qcC (ql S.q k)) ∧ Below w.heap.size w wr) (fun _ i _ => 8 - (intOf i).toNat)
  case atStart => exact ⟨0, by decide, rfl, World.ownsRow_nil _ _ _ _, Below.refl _ _⟩
  case round =>
    obtain ⟨k, hk, rfl, o, b⟩ := hrel
    have OH := hide o
    have BH := hide b
    by_cases hlt : k < 8
    · have hlt' : (k : Int) < 8 := by omega
      have SK := SB.out wr b
      have z := SK.rr k hlt
      have z0 := z 0 (by decide)
      have z1 := z 1 (by decide)
      have z2 := z 2 (by decide)
      have z3 := z 3 (by decide)
      have z4 := z 4 (by decide)
      have z5 := z 5 (by decide)
      have HE : Hid (ql S.q (k + 1) = ql S.q k ++ (if (S.q k).th = true then [(S.q k).r] else [])) := rfl
      have HL := hide (ql_len S.q k)
      have hRl := SK.lt
      unfold rrV at z0 z1 z2 z3 z4 z5
      simp at z0 z1 z2 z3 z4 z5
      clear o b SK z
      generalize S.q k = q at *
      obtain ⟨th, ⟨rc1, rp, rg_, rw_, rb⟩⟩ := q
      simp only at z0 z1 z2 z3 z4 z5 HE
      cases th with
      | false =>
        simp only [Bool.false_eq_true, if_false, List.append_nil] at HE
        go_wp2_with fail
        go_roundw
        case rel => exact ⟨k + 1, by omega, by go_num, by rw [HE.out]; exact OH.out, BH.out⟩
        case measure => simp [intOf]; omega
      | true =>
        simp only [if_true] at HE
        have b2 := Ba.below_alloc wr (.cells #[.bool true, .int .i64 rc1, .int .i64 rp, .int .i64 rg_, .int .i64 rw_, .bool rb] 70)
        have O2 := hide (own_sm OH.out (fun g e => b2.block g (OH.out.lt g e).2))
        have B2 := hide (Ce.btr BH.out b2)
        have CF := hide (cell_six wr (.bool true) (.int .i64 rc1) (.int .i64 rp) (.int .i64 rg_) (.int .i64 rw_) (.bool rb) 70)
        have ON := hide (one_six ⟨true, ⟨rc1, rp, rg_, rw_, rb⟩⟩)
        have L2 := hide B2.out.size
        have hn1 : (ql S.q k).length + 1 ≤ maxLen := by have := HL.out; simp only [maxLen]; omega
        have hn2 : ((ql S.q k).length + 1) * 48 ≤ 140737488355328 := by have := HL.out; omega
        clear b2 OH
        go_wp2_with (at_builtin; refine wpList_append_own_at _ rfl _ _ 67 rfl w.heap.size 70 i1 _ 6 48 Try.underlying67 INA.out.1 INA.out.2.1 INA.out.2.2.1 INA.out.2.2.2 rfl (by decide) _ _ _ rfl O2.out ⟨wr.heap.size, 0, none⟩ 1 1 ((rrV ⟨true, ⟨rc1, rp, rg_, rw_, rb⟩⟩).toList) rfl rfl CF.out ON.out hn1 hn2 L2.out ?_)
        intro v' w' o' g' x' e'
        have O3 := hide o'
        have B3 : Hid (Below w.heap.size w w') := by
          refine ⟨g'.os.trans B2.out.os, g'.tape.trans B2.out.tape, g'.output.trans B2.out.output, Nat.le_trans B2.out.size g'.size, fun x hx => (g'.block x (Nat.lt_of_lt_of_le hx B2.out.size) (fun q => ?_)).trans (B2.out.block x hx)⟩
          have := (O2.out.lt x q.symm).1
          omega
        clear o' g' x' e' O2 B2 CF ON L2 hn1 hn2
        go_wp2_with fail
        go_roundw
        case rel => exact ⟨k + 1, by omega, by go_num, by rw [HE.out, qcC_app, List.length_append]; exact O3.out, B3.out⟩
        case measure => simp [intOf]; omega
    · obtain rfl : k = 8 := by omega
      clear o b
      go_wp2_with fail
      go_ret
      exact ⟨_, rfl, OH.out, BH.out⟩
end Co
end Go.Proofs.Ytekdcfdjohlfcaa
/- Layer 19's reference, over this seat's program: New. -/
namespace Go.Proofs.Ytekdcfdjohlfcaa
open Go.ChangeShapes Go.WideShapes Go.ChangeAt Go.RowKit
namespace Co
open Ck Ce Rep
open Ba (KF Bd Nw)

/-- noughts of a report -/
def zc (p : Nat) : Value := if p < 2088 then (if p % 261 = 2 ∨ p % 261 = 3 ∨ p % 261 = 260 then .bool false else .int .i64 0) else (if (p - 2088) % 6 = 0 ∨ (p - 2088) % 6 = 5 then .bool false else .int .i64 0)
set_option maxRecDepth 100000 in
theorem z_all : Try.zeroCells85 = ((List.range 2136).map zc).toArray := by kernel_rfl
theorem z_at (p : Nat) (h : p < 2136) : Try.zeroCells85[p]? = some (zc p) := by
  rw [z_all]; simp [h]
/-- a report without accesses, the first k cells being so -/
def Qk (k : Nat) : Qst := ⟨fun i => if i < k then ⟨0, 0, true, false⟩ else ⟨0, 0, false, false⟩, fun _ => nf, fun _ => false, fun _ => ⟨false, r0⟩⟩
theorem Qk_succ (k : Nat) : (⟨upn (Qk k).A k ⟨0, 0, true, false⟩, upn (Qk k).F k ((Qk k).F k), upn (Qk k).T k ((Qk k).T k), (Qk k).q⟩ : Qst) = Qk (k + 1) := by
  unfold Qk upn
  congr 1
  · funext j
    by_cases e : j = k
    · subst e; simp
    · by_cases h : j < k
      · have : j < k + 1 := by omega
        simp [e, h, this]
      · have : ¬ j < k + 1 := by omega
        simp [e, h, this]
  · funext j; simp
  · funext j; simp
theorem q_zero (w : World) : QX (w.alloc (.cells Try.zeroCells85 85)) w.heap.size (Qk 0) := by
  have hb : (w.alloc (.cells Try.zeroCells85 85)).heap[w.heap.size]? = some (.cells Try.zeroCells85 85 (0, 0)) := heap_new _ _
  have cell : ∀ p, p < 2136 → (w.alloc (.cells Try.zeroCells85 85)).cell? ⟨w.heap.size, p, none⟩ = some (zc p) := fun p hp => by rw [cell_of hb]; exact z_at p hp
  refine ⟨fun i hi => ⟨by rw [World.size_alloc]; omega, fun p => Ba.frozen_of hb p, ?_, ?_, ?_, ?_, fun k hk => ?_, ?_, fun _ _ => rfl⟩, fun i hi j hj => ?_⟩
  · rw [cell _ (by omega)]; unfold zc; rw [if_pos (by omega), if_neg (by omega)]; rfl
  · rw [cell _ (by omega)]; unfold zc; rw [if_pos (by omega), if_neg (by omega)]; rfl
  · rw [cell _ (by omega)]; unfold zc; rw [if_pos (by omega), if_pos (by omega)]; rfl
  · rw [cell _ (by omega)]; unfold zc; rw [if_pos (by omega), if_pos (by omega)]; rfl
  · rw [cell _ (by omega)]; unfold zc; rw [if_pos (by omega), if_neg (by omega)]; rfl
  · rw [cell _ (by omega)]; unfold zc; rw [if_pos (by omega), if_pos (by omega)]; rfl
  · rw [cell _ (by omega)]; unfold zc; rw [if_neg (by omega)]
    match j, hj with
    | 0, _ => rw [if_pos (by omega)]; rfl
    | 1, _ => rw [if_neg (by omega)]; rfl
    | 2, _ => rw [if_neg (by omega)]; rfl
    | 3, _ => rw [if_neg (by omega)]; rfl
    | 4, _ => rw [if_neg (by omega)]; rfl
    | 5, _ => rw [if_pos (by omega)]; rfl
set_option maxRecDepth 100000 in
theorem qnew_any (w : World) : Calls Try.prog 22 #[] w fun r w' => r = .returned (.pointer (some ⟨w.heap.size, 0, none⟩)) ∧ QX w' w.heap.size (Qk 8) ∧ Below w.heap.size w w' := by
  have Q0 := hide (q_zero w)
  have B0 := hide (Ba.below_alloc w (.cells Try.zeroCells85 85))
  have hbu : Try.prog.built 85 [] = some Try.zeroCells85 := by kernel_rfl
  go_enter Try.func22, Try.ntmps22
  go_wp2_with fail
  generalize w.alloc (.cells Try.zeroCells85 85) = W at *
  go_loopw [2] (fun i wr => ∃ k : Nat, k ≤ 8 ∧ i = .int .i64 (k : Int) ∧ QX wr w.heap.size (Qk k) ∧ Below w.heap.size w wr) (fun i _ => 8 - (intOf i).toNat)
  case atStart => exact ⟨0, by decide, rfl, Q0.out, B0.out⟩
  case round =>
    clear Q0 B0
    obtain ⟨k, hk, rfl, s, b⟩ := hrel
    have SH := hide s
    have BH := hide b
    by_cases hlt : k < 8
    · have hlt' : (k : Int) < 8 := by omega
      obtain ⟨x0, x1, x2, x3, xf⟩ := (s.ce k hlt).cellA
      have xf0 := xf (k * 261)
      have xf1 := xf (k * 261 + 1)
      have xf2 := xf (k * 261 + 2)
      have xf3 := xf (k * 261 + 3)
      have S2 := s.cell hlt ((s.ce k hlt).setAc 0 0 true false)
      rw [Qk_succ] at S2
      have S2H := hide S2
      have B2 : Hid (Below w.heap.size w ((((wr.setCell ⟨w.heap.size, k * 261, none⟩ (.int .i64 0)).setCell ⟨w.heap.size, k * 261 + 1, none⟩ (.int .i64 0)).setCell ⟨w.heap.size, k * 261 + 2, none⟩ (.bool true)).setCell ⟨w.heap.size, k * 261 + 3, none⟩ (.bool false))) := (((b.setCell (Nat.le_refl _) _).setCell (Nat.le_refl _) _).setCell (Nat.le_refl _) _).setCell (Nat.le_refl _) _
      clear s b S2 xf
      go_wp2_with fail
      go_roundw
      case rel => exact ⟨k + 1, by omega, by go_num, S2H.out, B2.out⟩
      case measure => simp [intOf]; omega
    · obtain rfl : k = 8 := by omega
      clear s b
      go_wp2_with fail
      go_ret
      exact ⟨rfl, SH.out, BH.out⟩
end Co
end Go.Proofs.Ytekdcfdjohlfcaa
/- Layer 19's reference, over this seat's program: Put. -/
namespace Go.Proofs.Ytekdcfdjohlfcaa
open Go.ChangeShapes Go.WideShapes Go.ChangeAt Go.RowKit
namespace Co
open Ck Ce Rep
open Ba (KF Bd Nw)

/-- what the cell answers, and what it is then -/
def qX (S : Qst) (i : Nat) (wr : Bool) (t : Nat) (G : Nat → Int) : Int := if wr then rpR (S.A i) (S.F i) (S.T i) (t : Int) G else rrR (S.A i) (t : Int) G
def qC (S : Qst) (i : Nat) (wr : Bool) (t : Nat) (n : Int) (G : Nat → Int) : Qst :=
  if wr then ⟨upn S.A i ⟨(t : Int), n, false, false⟩, upn S.F i nf, upn S.T i false, S.q⟩ else ⟨upn S.A i (S.A i), upn S.F i (upF (ff (S.F i) (t : Int) G 256) t n), upn S.T i (S.T i), S.q⟩
def qB (S : Qst) (i : Nat) (x : Int) : Bool := !(x == 0) && !(S.q i).th
def qQ (S : Qst) (i : Nat) (a : Aq) (x : Int) : Nat → Rr := if qB S i x = true then upn S.q i ⟨true, rcOf a x⟩ else S.q
def qP (S : Qst) (i : Nat) (a : Aq) (t : Nat) (n : Int) (G : Nat → Int) : Qst := ⟨(qC S i a.wr t n G).A, (qC S i a.wr t n G).F, (qC S i a.wr t n G).T, qQ S i a (qX S i a.wr t G)⟩
theorem qC_q (S : Qst) (i : Nat) (wr : Bool) (t : Nat) (n : Int) (G : Nat → Int) : (qC S i wr t n G).q = S.q := by unfold qC; split <;> rfl
/-- six cells of a race -/
def set6 (w : World) (R b : Nat) (q : Rr) : World := (((((w.setCell ⟨R, b, none⟩ (.bool q.th)).setCell ⟨R, b + 1, none⟩ (.int .i64 q.r.c)).setCell ⟨R, b + 2, none⟩ (.int .i64 q.r.p)).setCell ⟨R, b + 3, none⟩ (.int .i64 q.r.g)).setCell ⟨R, b + 4, none⟩ (.int .i64 q.r.wi)).setCell ⟨R, b + 5, none⟩ (.bool q.r.wr)
theorem set6_far (w : World) (R b : Nat) (q : Rr) (p : Nat) (h : p < b ∨ b + 6 ≤ p) : (set6 w R b q).cell? ⟨R, p, none⟩ = w.cell? ⟨R, p, none⟩ := by
  unfold set6
  rw [other _ _ _ _ _ (by omega), other _ _ _ _ _ (by omega), other _ _ _ _ _ (by omega), other _ _ _ _ _ (by omega), other _ _ _ _ _ (by omega), other _ _ _ _ _ (by omega)]
theorem set6_at {w : World} {R b : Nat} (q : Rr) (h : ∀ j, j < 6 → ∃ v, w.cell? ⟨R, b + j, none⟩ = some v) (j : Nat) (hj : j < 6) : (set6 w R b q).cell? ⟨R, b + j, none⟩ = (rrV q)[j]? := by
  obtain ⟨v0, h0⟩ := h 0 (by decide)
  obtain ⟨v1, h1⟩ := h 1 (by decide)
  obtain ⟨v2, h2⟩ := h 2 (by decide)
  obtain ⟨v3, h3⟩ := h 3 (by decide)
  obtain ⟨v4, h4⟩ := h 4 (by decide)
  obtain ⟨v5, h5⟩ := h 5 (by decide)
  unfold set6
  match j, hj with
  | 0, _ =>
    rw [other _ _ _ _ _ (by omega), other _ _ _ _ _ (by omega), other _ _ _ _ _ (by omega), other _ _ _ _ _ (by omega), other _ _ _ _ _ (by omega)]
    exact World.cell?_setCell_same _ _ _ h0
  | 1, _ =>
    rw [other _ _ _ _ _ (by omega), other _ _ _ _ _ (by omega), other _ _ _ _ _ (by omega), other _ _ _ _ _ (by omega)]
    exact World.cell?_setCell_same _ _ _ ((other _ _ _ _ _ (by omega)).trans h1)
  | 2, _ =>
    rw [other _ _ _ _ _ (by omega), other _ _ _ _ _ (by omega), other _ _ _ _ _ (by omega)]
    exact World.cell?_setCell_same _ _ _ ((other _ _ _ _ _ (by omega)).trans ((other _ _ _ _ _ (by omega)).trans h2))
  | 3, _ =>
    rw [other _ _ _ _ _ (by omega), other _ _ _ _ _ (by omega)]
    exact World.cell?_setCell_same _ _ _ ((other _ _ _ _ _ (by omega)).trans ((other _ _ _ _ _ (by omega)).trans ((other _ _ _ _ _ (by omega)).trans h3)))
  | 4, _ =>
    rw [other _ _ _ _ _ (by omega)]
    exact World.cell?_setCell_same _ _ _ ((other _ _ _ _ _ (by omega)).trans ((other _ _ _ _ _ (by omega)).trans ((other _ _ _ _ _ (by omega)).trans ((other _ _ _ _ _ (by omega)).trans h4))))
  | 5, _ =>
    exact World.cell?_setCell_same _ _ _ ((other _ _ _ _ _ (by omega)).trans ((other _ _ _ _ _ (by omega)).trans ((other _ _ _ _ _ (by omega)).trans ((other _ _ _ _ _ (by omega)).trans ((other _ _ _ _ _ (by omega)).trans h5)))))
theorem QX.race {w : World} {R : Nat} {S : Qst} (h : QX w R S) {i : Nat} (hi : i < 8) (q : Rr) : QX (set6 w R (2088 + i * 6) q) R ⟨S.A, S.F, S.T, upn S.q i q⟩ := by
  have hs : (set6 w R (2088 + i * 6) q).heap.size = w.heap.size := by unfold set6; simp only [size_set]
  refine ⟨fun j hj => ?_, fun j hj k hk => ?_⟩
  · have c := h.ce j hj
    have e : ∀ p, p < 2088 → (set6 w R (2088 + i * 6) q).cell? ⟨R, p, none⟩ = w.cell? ⟨R, p, none⟩ := fun p hp => set6_far _ _ _ _ _ (by omega)
    exact ⟨by rw [hs]; exact c.lt, fun p => by unfold set6; simp only [World.frozen?_setCell]; exact c.fz p, (e _ (by omega)).trans c.c0, (e _ (by omega)).trans c.c1, (e _ (by omega)).trans c.c2, (e _ (by omega)).trans c.c3, fun k hk => (e _ (by omega)).trans (c.rd k hk), (e _ (by omega)).trans c.ct, fun _ _ => rfl⟩
  · show (set6 w R (2088 + i * 6) q).cell? ⟨R, 2088 + j * 6 + k, none⟩ = (rrV (upn S.q i q j))[k]?
    by_cases e : j = i
    · subst e
      rw [upn_same]
      refine set6_at q (fun l hl => ?_) k hk
      have := h.rr j hj l hl
      match l, hl with
      | 0, _ | 1, _ | 2, _ | 3, _ | 4, _ | 5, _ => exact ⟨_, this⟩
    · rw [upn_other _ _ _ _ e, set6_far _ _ _ _ _ (by omega)]
      exact h.rr j hj k hk
theorem kf_set6 {w : World} (R b : Nat) (q : Rr) : KF (fun k => k = R) w (set6 w R b q) := by
  unfold set6
  exact ((((((KF.refl (fun k => k = R) w).set (q := R) rfl _ _).set (q := R) rfl _ _).set (q := R) rfl _ _).set (q := R) rfl _ _).set (q := R) rfl _ _).set (q := R) rfl _ _
end Co
end Go.Proofs.Ytekdcfdjohlfcaa
/- Layer 19's reference, over this seat's program: Put, walked. -/
namespace Go.Proofs.Ytekdcfdjohlfcaa
open Go.ChangeShapes Go.WideShapes Go.ChangeAt Go.RowKit
namespace Co
open Ck Ce Rep
open Ba (KF Bd Nw)

def QpR (R : Nat) (w : World) (S' : Qst) (b : Bool) (r : Ending) (w' : World) : Prop := r = .returned (.bool b) ∧ QX w' R S' ∧ KF (fun k => k = R) w w'
set_option maxRecDepth 100000 in
set_option maxHeartbeats 6400000 in
theorem qput_any {w : World} {R : Nat} {S : Qst} (s : QX w R S) (a : Aq) (i : Nat) (hi : i < 8) (hc : a.c = (i : Int)) (t : Nat) (ht : t < 256) (n : Int) (G : Nat → Int) :
    Calls Try.prog 57 #[.pointer (some ⟨R, 0, none⟩), .agg #[.bool false, .int .i64 (i : Int), .int .i64 a.p, .int .i64 a.g, .int .i64 0, .bool a.wr], .agg #[.int .i64 (t : Int), .int .i64 n, .bool false, .bool false], .agg (ra G)] w (QpR R w (qP S i a t n G) (qB S i (qX S i a.wr t G))) := by
  unfold QpR
  obtain ⟨p, g, c, wr⟩ := a
  simp only at hc ⊢
  subst hc
  have hi' : (i : Int) < 8 := by omega
  obtain ⟨bb, hbb⟩ : ∃ bb, qB S i (qX S i wr t G) = bb := ⟨_, rfl⟩
  rw [hbb]
  have HBB := hide hbb
  clear hbb
  have b1 : Below w.heap.size w (((w.alloc (.cells #[.bool false, .int .i64 (i : Int), .int .i64 p, .int .i64 g, .int .i64 0, .bool wr] 70)).alloc (.cells #[.int .i64 (t : Int), .int .i64 n, .bool false, .bool false] 79)).alloc (.cells (ra G) 39)) := Ce.btr (Ce.btr (Ba.below_alloc _ _) (Ba.below_alloc _ _)) (Ba.below_alloc _ _)
  have h1 : (((w.alloc (.cells #[.bool false, .int .i64 (i : Int), .int .i64 p, .int .i64 g, .int .i64 0, .bool wr] 70)).alloc (.cells #[.int .i64 (t : Int), .int .i64 n, .bool false, .bool false] 79)).alloc (.cells (ra G) 39)).heap[w.heap.size]? = some (.cells #[.bool false, .int .i64 (i : Int), .int .i64 p, .int .i64 g, .int .i64 0, .bool wr] 70 (0, 0)) := by
    rw [Below.heap_alloc _ _ _ (by rw [World.size_alloc, World.size_alloc]; omega), Below.heap_alloc _ _ _ (by rw [World.size_alloc]; omega)]
    exact heap_new _ _
  have h2 : (((w.alloc (.cells #[.bool false, .int .i64 (i : Int), .int .i64 p, .int .i64 g, .int .i64 0, .bool wr] 70)).alloc (.cells #[.int .i64 (t : Int), .int .i64 n, .bool false, .bool false] 79)).alloc (.cells (ra G) 39)).heap[w.heap.size + 1]? = some (.cells #[.int .i64 (t : Int), .int .i64 n, .bool false, .bool false] 79 (0, 0)) := by
    rw [Below.heap_alloc _ _ _ (by rw [World.size_alloc, World.size_alloc]; omega)]
    have := heap_new (w.alloc (.cells #[.bool false, .int .i64 (i : Int), .int .i64 p, .int .i64 g, .int .i64 0, .bool wr] 70)) (.cells #[.int .i64 (t : Int), .int .i64 n, .bool false, .bool false] 79)
    rwa [World.size_alloc] at this
  have h3 : (((w.alloc (.cells #[.bool false, .int .i64 (i : Int), .int .i64 p, .int .i64 g, .int .i64 0, .bool wr] 70)).alloc (.cells #[.int .i64 (t : Int), .int .i64 n, .bool false, .bool false] 79)).alloc (.cells (ra G) 39)).heap[w.heap.size + 1 + 1]? = some (.cells (ra G) 39 (0, 0)) := by
    have := heap_new ((w.alloc (.cells #[.bool false, .int .i64 (i : Int), .int .i64 p, .int .i64 g, .int .i64 0, .bool wr] 70)).alloc (.cells #[.int .i64 (t : Int), .int .i64 n, .bool false, .bool false] 79)) (.cells (ra G) 39)
    rwa [World.size_alloc, World.size_alloc] at this
  have S1 := hide (s.below b1)
  have B1 := hide b1
  have H1 := hide h1
  have H2 := hide h2
  have H3 := hide h3
  have hR := s.lt
  have rs := ra_size G
  clear s b1 h1 h2 h3
  go_enter Try.func57, Try.ntmps57
  go_wp2_with fail
  generalize ((w.alloc (.cells #[.bool false, .int .i64 (i : Int), .int .i64 p, .int .i64 g, .int .i64 0, .bool wr] 70)).alloc (.cells #[.int .i64 (t : Int), .int .i64 n, .bool false, .bool false] 79)).alloc (.cells (ra G) 39) = W1 at *
  have y1 := cell_of H1.out 1
  have y5 := cell_of H1.out 5
  have v0 := cell_of H2.out 0
  have v1 := cell_of H2.out 1
  simp at y1 y5 v0 v1
  have S2 := hide (fun q => S1.out.below (Ba.bdrew W1 q))
  go_quiet (fail)
  have ld : (loadCellsFrom ⟨w.heap.size + 1 + 1, 0, none⟩ 0 256 #[]).run Try.prog (W1.drewN nq) = .ok (ra G) (W1.drewN nq) := ld_ref (RA.of (show (W1.drewN nq).heap[w.heap.size + 1 + 1]? = some (.cells (ra G) 39 (0, 0)) from H3.out))
  obtain ⟨LC, hLC⟩ : ∃ LC : Nat → Sem (Array Value), ∀ n, loadCellsFrom (⟨w.heap.size + 1 + 1, 0, none⟩ : Addr) 0 n #[] = LC n := ⟨fun n => loadCellsFrom (⟨w.heap.size + 1 + 1, 0, none⟩ : Addr) 0 n #[], fun _ => rfl⟩
  rw [hLC] at ld
  have CR := (S2.out nq).ce i hi
  have OPW := hide (rput_ok CR (t : Int) n G)
  have OPR := hide (rread_ok CR t ht n G)
  have OP : Hid (∀ (f : Nat), (wr = true → f = 69) → (wr = false → f = 70) → Calls Try.prog f #[.pointer (some ⟨R, i * 261, none⟩), .int .i64 (t : Int), .int .i64 n, .agg (ra G)] (W1.drewN nq) fun r w' => r = .returned (.int .i64 (qX S i wr t G)) ∧ QX w' R (qC S i wr t n G) ∧ KF (fun k => k = R) (W1.drewN nq) w') := by
    intro f h1 h2
    unfold qX qC
    cases wr
    · rw [h2 rfl]
      refine OPR.out.mono ?_
      rintro r w' ⟨rfl, r2, k2⟩
      exact ⟨rfl, (S2.out nq).cell hi r2, k2⟩
    · rw [h1 rfl]
      refine OPW.out.mono ?_
      rintro r w' ⟨rfl, r2, k2⟩
      exact ⟨rfl, (S2.out nq).cell hi r2, k2⟩
  have OQW : Hid (wr = true → _) := fun q => OP.out 69 (fun _ => rfl) (fun z => by rw [q] at z; cases z)
  have OQR : Hid (wr = false → _) := fun q => OP.out 70 (fun z => by rw [q] at z; cases z) (fun _ => rfl)
  have BD := hide (Ce.btr B1.out (Ba.bdrew W1 nq))
  have HD : Hid ((W1.drewN nq).heap[w.heap.size]? = some (.cells #[.bool false, .int .i64 (i : Int), .int .i64 p, .int .i64 g, .int .i64 0, .bool wr] 70 (0, 0))) := H1.out
  have HD2 : Hid ((W1.drewN nq).heap[w.heap.size + 1]? = some (.cells #[.int .i64 (t : Int), .int .i64 n, .bool false, .bool false] 79 (0, 0))) := H2.out
  obtain ⟨x, hx⟩ : ∃ x, qX S i wr t G = x := ⟨_, rfl⟩
  obtain ⟨C, hC⟩ : ∃ C, qC S i wr t n G = C := ⟨_, rfl⟩
  have HX := hide hx
  have HC := hide hC
  have HQ : Hid (C.q = S.q) := by rw [← hC]; exact qC_q _ _ _ _ _ _
  have RES0 : Hid (∀ w', qB S i x = false → QX w' R C → QX w' R (qP S i ⟨p, g, (i : Int), wr⟩ t n G)) := by
    intro w' hb hq
    unfold qP qQ
    simp only
    rw [hx, hC, if_neg (by rw [hb]; decide), ← HQ.out]
    exact hq
  have RES1 : Hid (∀ w', qB S i x = true → QX w' R ⟨C.A, C.F, C.T, upn C.q i ⟨true, ⟨(i : Int), p, g, x, wr⟩⟩⟩ → QX w' R (qP S i ⟨p, g, (i : Int), wr⟩ t n G)) := by
    intro w' hb hq
    unfold qP qQ
    simp only
    rw [hx, hC, if_pos hb, ← HQ.out]
    exact hq
  rw [hx, hC] at OQW OQR
  have KQ : Hid (∀ w3, KF (fun k => k = R) (W1.drewN nq) w3 → KF (fun k => k = R) w w3 ∧ w3.heap[w.heap.size]? = some (.cells #[.bool false, .int .i64 (i : Int), .int .i64 p, .int .i64 g, .int .i64 0, .bool wr] 70 (0, 0))) := by
    intro w3 k3
    exact ⟨(KF.of (F := fun k => k = R) BD.out).trans k3 (Nw.refl _ _), (k3.block w.heap.size (Ba.heap_lt HD.out) (fun e => by omega)).trans HD.out⟩
  rw [hx] at HBB
  clear hx hC OP OPW OPR S2 S1 H1 H2 H3 B1 CR y1 y5 v0 v1
  generalize ra G = AG at *
  generalize W1.drewN nq = W2 at *
  have y5 := cell_of HD.out 5
  have v0 := cell_of HD2.out 0
  have v1 := cell_of HD2.out 1
  simp at y5 v0 v1
  clear BD HD HD2
  cases wr
  · go_wp2_with fail
    first
      | refine (OQR.out (by first | rfl | trivial)).mono ?_
      | refine (OQW.out (by first | rfl | trivial)).mono ?_
    rintro r w3 ⟨rfl, s3, k3⟩
    obtain ⟨kw, hw⟩ := KQ.out w3 k3
    have S3 := hide s3
    have K3 := hide kw
    have u1 := cell_of hw 1
    have u2 := cell_of hw 2
    have u3 := cell_of hw 3
    have u5 := cell_of hw 5
    simp at u1 u2 u3 u5
    have z0 := s3.rr i hi 0 (by decide)
    have z1 := s3.rr i hi 1 (by decide)
    have z2 := s3.rr i hi 2 (by decide)
    have z3 := s3.rr i hi 3 (by decide)
    have z4 := s3.rr i hi 4 (by decide)
    have z5 := s3.rr i hi 5 (by decide)
    have fz := (s3.ce i hi).fz
    have f0 := fz (2088 + i * 6)
    have f1 := fz (2088 + i * 6 + 1)
    have f2 := fz (2088 + i * 6 + 2)
    have f3 := fz (2088 + i * 6 + 3)
    have f4 := fz (2088 + i * 6 + 4)
    have f5 := fz (2088 + i * 6 + 5)
    have hq := HQ.out
    unfold rrV at z0 z1 z2 z3 z4 z5
    simp at z0 z1 z2 z3 z4 z5
    rw [HQ.out] at z0
    obtain ⟨th, hth⟩ : ∃ th, (S.q i).th = th := ⟨_, rfl⟩
    rw [hth] at z0
    have QB : Hid (qB S i x = (!(x == 0) && !th)) := by show _ = _; unfold qB; rw [hth]
    clear s3 k3 kw hw fz hq hth OQR OQW KQ ld
    by_cases hx0 : x = 0
    · have QB0 : Hid (qB S i x = false) := by show _ = _; rw [QB.out, hx0]; simp
      have hx1 : (x == 0) = true := by simp [hx0]
      obtain rfl : bb = false := by rw [← HBB.out]; exact QB0.out
      subst hx0
      clear QB
      go_wp2_with fail
      go_quiet (fail)
      go_wp2_with fail
      go_ret
      exact ⟨rfl, RES0.out _ QB0.out (S3.out.below (Ba.bdrew _ _)), K3.out.then (Ba.bdrew _ _)⟩
    · have hx1 : (x == 0) = false := beq_eq_false_iff_ne.2 hx0
      cases th
      · have QB0 : Hid (qB S i x = true) := by show _ = _; rw [QB.out, hx1]; rfl
        obtain rfl : bb = true := by rw [← HBB.out]; exact QB0.out
        clear QB
        go_wp2_with fail
        go_quiet (fail)
        go_wp2_with fail
        have SD := hide (S3.out.below (Ce.btr (Ba.bdrew w3 nq) (Ba.bdrew1 _)))
        have KD := hide (K3.out.then (Ce.btr (Ba.bdrew w3 nq) (Ba.bdrew1 _)))
        have hne : ¬ (R = w.heap.size) := by omega
        have hne2 : ¬ (w.heap.size = R) := by omega
        go_region_held3 (fun w' => w'.cell? ⟨w.heap.size, 1, none⟩ = some (.int .i64 (i : Int)) ∧ w'.cell? ⟨w.heap.size, 2, none⟩ = some (.int .i64 p) ∧ w'.cell? ⟨w.heap.size, 3, none⟩ = some (.int .i64 g) ∧ w'.cell? ⟨w.heap.size, 5, none⟩ = some (.bool false))
          ((go_keep; done))
          (fail)
        all_goals
          go_wp2_with fail
          go_ret
          exact ⟨rfl, RES1.out _ QB0.out (SD.out.race hi ⟨true, ⟨(i : Int), p, g, x, false⟩⟩), KD.out.trans (kf_set6 R (2088 + i * 6) ⟨true, ⟨(i : Int), p, g, x, false⟩⟩) (Nw.refl _ _)⟩
      · have QB0 : Hid (qB S i x = false) := by show _ = _; rw [QB.out, hx1]; rfl
        obtain rfl : bb = false := by rw [← HBB.out]; exact QB0.out
        clear QB
        go_wp2_with fail
        go_quiet (fail)
        go_wp2_with fail
        go_ret
        exact ⟨rfl, RES0.out _ QB0.out (S3.out.below (Ba.bdrew _ _)), K3.out.then (Ba.bdrew _ _)⟩
  · go_wp2_with fail
    first
      | refine (OQR.out (by first | rfl | trivial)).mono ?_
      | refine (OQW.out (by first | rfl | trivial)).mono ?_
    rintro r w3 ⟨rfl, s3, k3⟩
    obtain ⟨kw, hw⟩ := KQ.out w3 k3
    have S3 := hide s3
    have K3 := hide kw
    have u1 := cell_of hw 1
    have u2 := cell_of hw 2
    have u3 := cell_of hw 3
    have u5 := cell_of hw 5
    simp at u1 u2 u3 u5
    have z0 := s3.rr i hi 0 (by decide)
    have z1 := s3.rr i hi 1 (by decide)
    have z2 := s3.rr i hi 2 (by decide)
    have z3 := s3.rr i hi 3 (by decide)
    have z4 := s3.rr i hi 4 (by decide)
    have z5 := s3.rr i hi 5 (by decide)
    have fz := (s3.ce i hi).fz
    have f0 := fz (2088 + i * 6)
    have f1 := fz (2088 + i * 6 + 1)
    have f2 := fz (2088 + i * 6 + 2)
    have f3 := fz (2088 + i * 6 + 3)
    have f4 := fz (2088 + i * 6 + 4)
    have f5 := fz (2088 + i * 6 + 5)
    have hq := HQ.out
    unfold rrV at z0 z1 z2 z3 z4 z5
    simp at z0 z1 z2 z3 z4 z5
    rw [HQ.out] at z0
    obtain ⟨th, hth⟩ : ∃ th, (S.q i).th = th := ⟨_, rfl⟩
    rw [hth] at z0
    have QB : Hid (qB S i x = (!(x == 0) && !th)) := by show _ = _; unfold qB; rw [hth]
    clear s3 k3 kw hw fz hq hth OQR OQW KQ ld
    by_cases hx0 : x = 0
    · have QB0 : Hid (qB S i x = false) := by show _ = _; rw [QB.out, hx0]; simp
      have hx1 : (x == 0) = true := by simp [hx0]
      obtain rfl : bb = false := by rw [← HBB.out]; exact QB0.out
      subst hx0
      clear QB
      go_wp2_with fail
      go_quiet (fail)
      go_wp2_with fail
      go_ret
      exact ⟨rfl, RES0.out _ QB0.out (S3.out.below (Ba.bdrew _ _)), K3.out.then (Ba.bdrew _ _)⟩
    · have hx1 : (x == 0) = false := beq_eq_false_iff_ne.2 hx0
      cases th
      · have QB0 : Hid (qB S i x = true) := by show _ = _; rw [QB.out, hx1]; rfl
        obtain rfl : bb = true := by rw [← HBB.out]; exact QB0.out
        clear QB
        go_wp2_with fail
        go_quiet (fail)
        go_wp2_with fail
        have SD := hide (S3.out.below (Ce.btr (Ba.bdrew w3 nq) (Ba.bdrew1 _)))
        have KD := hide (K3.out.then (Ce.btr (Ba.bdrew w3 nq) (Ba.bdrew1 _)))
        have hne : ¬ (R = w.heap.size) := by omega
        have hne2 : ¬ (w.heap.size = R) := by omega
        go_region_held3 (fun w' => w'.cell? ⟨w.heap.size, 1, none⟩ = some (.int .i64 (i : Int)) ∧ w'.cell? ⟨w.heap.size, 2, none⟩ = some (.int .i64 p) ∧ w'.cell? ⟨w.heap.size, 3, none⟩ = some (.int .i64 g) ∧ w'.cell? ⟨w.heap.size, 5, none⟩ = some (.bool true))
          ((go_keep; done))
          (fail)
        all_goals
          go_wp2_with fail
          go_ret
          exact ⟨rfl, RES1.out _ QB0.out (SD.out.race hi ⟨true, ⟨(i : Int), p, g, x, true⟩⟩), KD.out.trans (kf_set6 R (2088 + i * 6) ⟨true, ⟨(i : Int), p, g, x, true⟩⟩) (Nw.refl _ _)⟩
      · have QB0 : Hid (qB S i x = false) := by show _ = _; rw [QB.out, hx1]; rfl
        obtain rfl : bb = false := by rw [← HBB.out]; exact QB0.out
        clear QB
        go_wp2_with fail
        go_quiet (fail)
        go_wp2_with fail
        go_ret
        exact ⟨rfl, RES0.out _ QB0.out (S3.out.below (Ba.bdrew _ _)), K3.out.then (Ba.bdrew _ _)⟩
end Co
end Go.Proofs.Ytekdcfdjohlfcaa
