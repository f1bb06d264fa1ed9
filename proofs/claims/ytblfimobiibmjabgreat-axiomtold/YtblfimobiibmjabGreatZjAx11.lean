import Derived.Test.YtblfimobiibmjabGreatZjAx10
import Derived.LaidEqlPtr
import Derived.Lib.AppendZeros
import Derived.Deep.RegionWith
import Derived.Deep.Slices
import Derived.ShutString
import Derived.ChangeOld
import Derived.Deep.RegionLaw
import Derived.Maps.AppendAt
namespace Go.Proofs.YtblfimobiibmjabGreat
open Go.ChangeShapes Go.WideShapes Go.ChangeAt Go.RowKit
namespace Fk
open Ba Pe _root_.Go.Proofs.YtblfimobiibmjabGreat.Pi Rp
def All (Fs : Nat → Nat → Prop) : Nat → Prop := fun x => ∃ i, Fs i x
def NwA (Fs' Fs : Nat → Nat → Prop) (w : World) : Prop := ∀ i x, Fs' i x → All Fs x ∨ w.heap.size ≤ x
theorem NwA.refl (Fs : Nat → Nat → Prop) (w : World) : NwA Fs Fs w := fun i _ h => .inl ⟨i, h⟩
theorem NwA.trans {F G H : Nat → Nat → Prop} {a b : World} (h : NwA G F a) (k : NwA H G b) (hs : a.heap.size ≤ b.heap.size) : NwA H F a := by
 intro i x hx
 rcases k i x hx with ⟨j, q⟩ | q
 ·exact h j x q
 ·exact .inr (by omega)
theorem Qs.rl {Q : World → Nat → (Nat → Prop) → St → Prop} {w : World} {oa : Option Addr} {bs : List (Option Nat)} {Fs : Nat → Nat → Prop} {sts : List (Option St)} (h : Qs Q w oa bs Fs sts) {i : Nat} {o : Option Nat} (hi : bs[i]? = some o) : ∀ a, oa = some a → a.block < w.heap.size := by
 intro a e
 obtain ⟨b, off, e2, hc⟩ := h.row i o hi
 rw [e] at e2
 cases e2
 exact World.block_lt_of_cell? w ⟨b, off + i, none⟩ hc
def Rz (Q : World → Nat → (Nat → Prop) → St → Prop) (w w' : World) (oa : Option Addr) (bs : List (Option Nat)) (Fs : Nat → Nat → Prop) (sts : List (Option St)) : Prop :=
 ∃ Fs', NwA Fs' Fs w ∧ Qs Q w' oa bs Fs' sts ∧ KF (All Fs) w w'
theorem Rz.same {Q : World → Nat → (Nat → Prop) → St → Prop} (fr : Fr Q) {w w' : World} {oa : Option Addr} {bs : List (Option Nat)} {Fs : Nat → Nat → Prop} {sts : List (Option St)} (h : Qs Q w oa bs Fs sts) (hb : Below w.heap.size w w') : Rz Q w w' oa bs Fs sts := ⟨Fs, NwA.refl _ _, h.below fr hb, KF.of hb⟩
theorem Rz.below {Q : World → Nat → (Nat → Prop) → St → Prop} (fr : Fr Q) {w a b : World} {oa : Option Addr} {bs : List (Option Nat)} {Fs : Nat → Nat → Prop} {sts : List (Option St)} (h : Rz Q w a oa bs Fs sts) (hb : Below a.heap.size a b) : Rz Q w b oa bs Fs sts := by
 obtain ⟨Fs', n, q, k⟩ := h
 exact ⟨Fs', n, q.below fr hb, k.then hb⟩
theorem Rz.trans {Q : World → Nat → (Nat → Prop) → St → Prop} {w a b : World} {oa : Option Addr} {bs : List (Option Nat)} {Fs Fs1 : Nat → Nat → Prop} {sts : List (Option St)} (n1 : NwA Fs1 Fs w) (k1 : KF (All Fs) w a) (h : Rz Q a b oa bs Fs1 sts) : Rz Q w b oa bs Fs sts := by
 obtain ⟨Fs', n, q, k⟩ := h
 exact ⟨Fs', n1.trans n k1.size, q, k1.trans k (fun x hx => by obtain ⟨i, hi⟩ := hx; exact n1 i x hi)⟩
theorem Rz.step {Q : World → Nat → (Nat → Prop) → St → Prop} (fr : Fr Q) {w a b : World} {oa : Option Addr} {bs : List (Option Nat)} {Fs : Nat → Nat → Prop} {sts : List (Option St)} (h : Qs Q w oa bs Fs sts) (hb : Below w.heap.size w a) {i B : Nat} {F' : Nat → Prop} {st' : St} (hi : bs[i]? = some (some B)) (k : KF (Fs i) a b) (n : Nw F' (Fs i) a) (q : Q b B F' st') : Rz Q w b oa bs Fs (sts.set i (some st')) := by
 have ha := h.below fr hb
 refine ⟨up Fs i F', fun j x hx => ?_, ha.step fr hi k n q (ha.rl hi), (KF.of (F := All Fs) hb).trans k (fun x hx => .inl ⟨i, hx⟩)⟩
 by_cases e : j = i
 ·subst e
  rw [up_same] at hx
  rcases n x hx with z | z
  ·exact .inl ⟨j, z⟩
  ·exact .inr (Nat.le_trans hb.size z)
 ·rw [up_other _ _ _ _ e] at hx
  exact .inl ⟨j, hx⟩
theorem Rz.set7 {Q : World → Nat → (Nat → Prop) → St → Prop} (fr : Fr Q) {w A : World} {oa : Option Addr} {bs : List (Option Nat)} {Fs : Nat → Nat → Prop} {sts : List (Option St)} {Z : Nat} (h : ∃ Fs', NwA Fs' Fs w ∧ Qs Q A oa bs Fs' sts ∧ KF (All Fs) w A ∧ ∀ i, ¬ Fs' i Z) (hz : w.heap.size ≤ Z) (hr : ∀ a, oa = some a → a.block < w.heap.size ∨ bs = []) (u0 u1 u2 u3 u4 u5 u6 : Value) :
 Rz Q w (((((((A.setCell ⟨Z, 0, none⟩ u0).setCell ⟨Z, 1, none⟩ u1).setCell ⟨Z, 2, none⟩ u2).setCell ⟨Z, 3, none⟩ u3).setCell ⟨Z, 4, none⟩ u4).setCell ⟨Z, 5, none⟩ u5).setCell ⟨Z, 6, none⟩ u6) oa bs Fs sts := by
 obtain ⟨Fs', n, q, k, hn⟩ := h
 have K := (((((((KB.refl Z A).setCell 0 u0).setCell 1 u1).setCell 2 u2).setCell 3 u3).setCell 4 u4).setCell 5 u5).setCell 6 u6
 refine ⟨Fs', n, ?_, ((((((k.setNew hz 0 u0).setNew hz 1 u1).setNew hz 2 u2).setNew hz 3 u3).setNew hz 4 u4).setNew hz 5 u5).setNew hz 6 u6⟩
 have hs : ∀ i, Sm (Fs' i) A (((((((A.setCell ⟨Z, 0, none⟩ u0).setCell ⟨Z, 1, none⟩ u1).setCell ⟨Z, 2, none⟩ u2).setCell ⟨Z, 3, none⟩ u3).setCell ⟨Z, 4, none⟩ u4).setCell ⟨Z, 5, none⟩ u5).setCell ⟨Z, 6, none⟩ u6) := fun i x hx => K.block x (q.bd i x hx) (fun e => hn i (e ▸ hx))
 by_cases hbs : bs = []
 ·refine ⟨fun i o hi => by rw [hbs] at hi; simp at hi, q.len, fun i B hi => by rw [hbs] at hi; simp at hi, fun i hi => by rw [hbs] at hi; simp at hi, q.ap, q.nr, fun i => (q.bd i).sm (hs i)⟩
 ·exact q.keep fr hs (fun a e hl => K.block _ hl (by have := (hr a e).resolve_right hbs; omega))
def tryG (sts : List (Option St)) (c : Ca) : Gt := match nmB sts c.ch with | none => gz | some st => if c.sd then sendG st else recvG st
def tryE (sts : List (Option St)) (c : Ca) : Int := match nmB sts c.ch with | none => 0 | some st => if c.sd then sendE st else 0
def tryS (sts : List (Option St)) (c : Ca) : List (Option St) := match nmB sts c.ch with | none => sts | some st => sts.set c.ch.toNat (some (if c.sd then sendS st c.v else recvS st))
def Sml (sts : List (Option St)) : Prop := ∀ (i : Nat) (st : St), sts[i]? = some (some st) → st.sent < 1000000000 ∧ st.got < 1000000000
end Fk
end Go.Proofs.YtblfimobiibmjabGreat
namespace Go.Proofs.YtblfimobiibmjabGreat
open Go.ChangeShapes Go.WideShapes Go.ChangeAt Go.RowKit
namespace Fk
open Ba Pe _root_.Go.Proofs.YtblfimobiibmjabGreat.Pi Rp
def dropO (g : Int) (o : Option St) : Option St := o.map fun st => dropS st g
def dropM (g : Int) (o : Option St) : Int := match o with | none => 0 | some st => dropN st g
def leaveS (g : Int) (sts : List (Option St)) : List (Option St) := sts.map (dropO g)
def leaveN (g : Int) (sts : List (Option St)) : Int := (sts.map (dropM g)).foldl (· + ·) 0
def lvS (g : Int) (sts : List (Option St)) (k : Nat) : List (Option St) := (sts.take k).map (dropO g) ++ sts.drop k
def lvN (g : Int) (sts : List (Option St)) (k : Nat) : Int := ((sts.take k).map (dropM g)).foldl (· + ·) 0
theorem lv_zero (g : Int) (sts : List (Option St)) : lvS g sts 0 = sts := by simp [lvS]
theorem lv_all (g : Int) (sts : List (Option St)) : lvS g sts sts.length = leaveS g sts := by simp [lvS, leaveS]
theorem lvN_all (g : Int) (sts : List (Option St)) : lvN g sts sts.length = leaveN g sts := by simp [lvN, leaveN]
theorem lvN_succ (g : Int) (sts : List (Option St)) (k : Nat) (o : Option St) (h : sts[k]? = some o) : lvN g sts (k + 1) = lvN g sts k + dropM g o := by
 unfold lvN
 rw [List.take_add_one, h, List.map_append, List.foldl_append]
 rfl
theorem lv_at (g : Int) (sts : List (Option St)) (k : Nat) : (lvS g sts k)[k]? = sts[k]? := by
 unfold lvS
 by_cases h : k < sts.length
 ·rw [List.getElem?_append_right (by simp; omega)]
  simp [Nat.min_eq_left (Nat.le_of_lt h)]
 ·rw [List.getElem?_eq_none (by simp; omega), List.getElem?_eq_none (by omega)]
theorem lv_succ (g : Int) (sts : List (Option St)) (k : Nat) (o : Option St) (h : sts[k]? = some o) : lvS g sts (k + 1) = (lvS g sts k).set k (dropO g o) := by
 have hk : k < sts.length := (List.getElem?_eq_some_iff.1 h).1
 unfold lvS
 rw [List.set_append_right _ _ (by simp; omega)]
 rw [List.take_add_one, h, List.map_append, List.append_assoc]
 congr 1
 rw [List.drop_eq_getElem_cons hk, List.length_map, List.length_take, Nat.min_eq_left (Nat.le_of_lt hk), Nat.sub_self, List.set_cons_zero]
 rfl
theorem lv_none (g : Int) (sts : List (Option St)) (k : Nat) (h : sts[k]? = some none) : lvS g sts (k + 1) = lvS g sts k := by
 rw [lv_succ g sts k none h]
 apply List.ext_getElem?
 intro i
 rw [List.getElem?_set]
 by_cases e : k = i
 ·subst e
  have hk : k < (lvS g sts k).length := by
   have := (List.getElem?_eq_some_iff.1 h).1
   simp [lvS]
   omega
  rw [if_pos rfl, if_pos hk, lv_at, h]
  rfl
 ·rw [if_neg e]
theorem dropM_bd {g : Int} {st : St} (h1 : st.snd.length ≤ 1024) (h2 : st.rcv.length ≤ 1024) : 0 ≤ dropM g (some st) ∧ dropM g (some st) ≤ 2048 := by
 have a := dr_len g st.snd
 have b := dr_len g st.rcv
 simp only [dropM, dropN]
 omega
set_option maxRecDepth 100000 in
set_option maxHeartbeats 3200000 in
theorem rleave_any (g : Int) (oa : Option Addr) (bs : List (Option Nat)) (cp : Nat) (Fs : Nat → Nat → Prop) (sts : List (Option St)) (w : World) (h : Qs Rr w oa bs Fs sts) (hl : bs.length ≤ 1000) :
 Calls Tryz.prog 87 #[.int .i64 g, .slice oa bs.length cp] w fun r w' => r = .returned (.int .i64 (leaveN g sts)) ∧ Rz Rr w w' oa bs Fs (leaveS g sts) := by
 have H := hide h
 clear h
 go_enter Tryz.func87, Tryz.ntmps87
 go_wp2_with fail
 go_loopw [5, 10] (fun s i wr => ∃ (k : Nat) (n : Int), k ≤ bs.length ∧ i = .int .i64 k ∧ s = .int .i64 n ∧ n = lvN g sts k ∧ (0 ≤ n ∧ n ≤ 2048 * (k : Int)) ∧ Rz Rr w wr oa bs Fs (lvS g sts k)) (fun _ i _ => bs.length - (intOf i).toNat)
 case atStart => exact ⟨0, 0, Nat.zero_le _, rfl, rfl, rfl, ⟨by omega, by omega⟩, by rw [lv_zero]; exact Rz.same frR H.out (Below.refl _ _)⟩
 case round =>
  obtain ⟨k, n, hk, rfl, rfl, hn, hnb, rz⟩ := hrel
  have HN := hide hn
  clear hn
  by_cases hlt : k < bs.length
  ·have hlt' : (k : Int) < (bs.length : Int) := by omega
   obtain ⟨Fs1, n1, q1, k1⟩ := rz
   obtain ⟨o, ho⟩ : ∃ o, bs[k]? = some o := ⟨_, List.getElem?_eq_getElem hlt⟩
   obtain ⟨b, off, e, hc⟩ := q1.row k o ho
   subst e
   have Q1 := hide q1
   have N1 := hide n1
   have K1 := hide k1
   cases o with
   | none =>
     have hs := q1.non k ho
     rw [lv_at] at hs
     have E1 := hide (lv_none g sts k hs)
     have E2 := hide (lvN_succ g sts k none hs)
     simp only [pt, Option.map_none] at hc
     clear q1 n1 k1 ho hs
     go_wp2_with fail
     go_roundw
     case rel => exact ⟨k + 1, n, by omega, by go_num, by simp, by rw [E2.out, ← HN.out]; simp [dropM], ⟨hnb.1, by omega⟩, by rw [E1.out]; exact ⟨Fs1, N1.out, Q1.out, K1.out⟩⟩
     case measure => simp [intOf]; omega
   | some B =>
     obtain ⟨st, hs, q⟩ := q1.one k B ho
     have hs' := hs
     rw [lv_at] at hs'
     have E1 := hide (lv_succ g sts k (some st) hs')
     have E2 := hide (lvN_succ g sts k (some st) hs')
     have HO := hide ho
     have DP := hide (rdrop_any B _ st g _ q)
     have BDD : Hid (0 ≤ dropN st g ∧ dropN st g ≤ 2048) := by
      obtain ⟨_, _, _, ro⟩ := q
      exact dropM_bd ro.les ro.leq
     simp only [pt, Option.map_some] at hc
     clear q1 n1 k1 ho hs hs' q
     have hd1 := BDD.out.1
     have hd2 := BDD.out.2
     have ED : Hid (dropM g (some st) = dropN st g) := rfl
     generalize dropN st g = dd at DP hd1 hd2 ED
     go_wp2_with fail
     refine DP.out.mono ?_
     rintro r w2 ⟨rfl, k2, F2, n2, p2⟩
     have R2 := hide (Rz.trans N1.out K1.out (Rz.step frR Q1.out (Below.refl _ _) HO.out k2 n2 p2))
     clear k2 n2 p2
     go_wp2_with fail
     go_roundw
     case rel => exact ⟨k + 1, n + dd, by omega, by go_num, by first | rfl | go_num, by rw [E2.out, ← HN.out, ED.out], ⟨by omega, by omega⟩, by rw [E1.out]; exact R2.out⟩
     case measure => simp [intOf]; omega
  ·have hlt' : ¬ ((k : Int) < (bs.length : Int)) := by omega
   obtain rfl : k = bs.length := by omega
   have HE := hide H.out.len
   rw [HE.out, lv_all] at rz
   have RZ := hide rz
   clear rz
   go_wp2_with fail
   go_ret
   exact ⟨ret_int (by rw [HN.out, HE.out, lvN_all]), RZ.out⟩
def cP (l : List Ca) (sts : List (Option St)) : Nat → Bool := fun i => match l[i]? with | none => false | some c => crdy sts c
set_option maxRecDepth 100000 in
set_option maxHeartbeats 3200000 in
theorem rreadyL_any (oc : Option Addr) (l : List Ca) (cc : Nat) (oa : Option Addr) (bs : List (Option Nat)) (cp : Nat) (Fs : Nat → Nat → Prop) (sts : List (Option St)) (w : World) (hC : CaAt w oc l) (h : Qs Rr w oa bs Fs sts) (hl : l.length ≤ 1000) :
 Calls Tryz.prog 68 #[.slice oc l.length cc, .slice oa bs.length cp] w fun r w' => ∃ ob d, r = .returned (.slice ob (rdyL l sts).length d) ∧ w'.ownsRow w.heap.size 3 1 (.slice ob (rdyL l sts).length d) (rdyL l sts).length (ic (rdyL l sts)) ∧ Below w.heap.size w w' := by
 cases hi : Tryz.prog.info? 3 with
 | none => have := info_i; rw [hi] at this; cases this
 | some i0 =>
 have hx2 := info_i
 rw [hi] at hx2
 simp at hx2
 have INF := hide (And.intro hi hx2)
 clear hx2 hi
 have HC := hide hC
 have HQ := hide h
 clear hC h
 obtain ⟨P, hP0⟩ : ∃ P : Nat → Bool, P = cP l sts := ⟨_, rfl⟩
 rw [show rdyL l sts = ps (cP l sts) l.length from rfl, ← hP0]
 have HP0 := hide hP0
 clear hP0
 go_enter Tryz.func68, Tryz.ntmps68
 go_wp2_with fail
 go_loopw [5, 11] (fun rv i wr => ∃ (v : Value) (k : Nat), k ≤ l.length ∧ i = .int .i64 k ∧ rv = v ∧ wr.ownsRow w.heap.size 3 1 v (ps P k).length (ic (ps P k)) ∧ Below w.heap.size w wr) (fun _ i _ => l.length - (intOf i).toNat)
 case atStart => exact ⟨_, 0, Nat.zero_le _, rfl, rfl, World.ownsRow_nil _ _ _ _, Below.refl _ _⟩
 case round =>
  obtain ⟨v, k, hk, rfl, rfl, ho, hb⟩ := hrel
  by_cases hlt : k < l.length
  ·have hlt' : (k : Int) < (l.length : Int) := by omega
   obtain ⟨x, hx⟩ : ∃ x, l[k]? = some x := ⟨_, List.getElem?_eq_getElem hlt⟩
   obtain ⟨b, off, rfl, q0, q1, q2⟩ := HC.out.below hb k x hx
   have SU := hide (ps_succ P k)
   have hpl := ps_len P k
   have PK : Hid (P k = crdy sts x) := by show _ = _; rw [HP0.out]; unfold cP; simp only [hx]
   have BX := below_alloc wr (.cells #[.bool x.sd, .int .i64 x.ch, .int .i64 x.v] 97)
   have XN := hide (heap_new wr (.cells #[.bool x.sd, .int .i64 x.ch, .int .i64 x.v] 97))
   have HB := hide (btr hb BX)
   have OW := hide (own_below ho BX)
   have Q1 := hide (HQ.out.below frR HB.out)
   have NM := hide (rnamed_any oa bs x.ch cp _ Q1.out.row)
   clear hb hx BX ho
   obtain ⟨X, hX⟩ : ∃ X, X = ps P k := ⟨_, rfl⟩
   rw [← hX] at SU hpl OW
   clear hX
   unfold crdy at PK
   rcases Q1.out.nm x.ch with ⟨e1, e2⟩ | ⟨B, st, e1, e2, _, _, _, _, q⟩
   ·rw [e2] at PK
    rw [e1] at NM
    simp only [pt, Option.map_none] at NM
    have EX : Hid (ps P (k + 1) = X) := by show _ = _; rw [SU.out, PK.out]; simp
    clear e1 e2 Q1
    go_wp2_with fail
    generalize wr.alloc (.cells #[.bool x.sd, .int .i64 x.ch, .int .i64 x.v] 97) = W1 at XN HB OW NM ⊢
    generalize wr.heap.size = A at XN ⊢
    refine NM.out.mono ?_
    rintro r z2 ⟨rfl, rfl⟩
    have O3 : Hid (z2.ownsRow w.heap.size 3 1 u5 (ps P (k + 1)).length (ic (ps P (k + 1)))) := by
     show World.ownsRow _ _ _ _ _ _ _
     rw [EX.out]
     exact OW.out
    go_wp2_with fail
    go_roundw
    case rel =>
     first
      | exact ⟨_, k + 1, by omega, by go_num, rfl, O3.out, HB.out⟩
      | exact ⟨k + 1, by omega, by go_num, O3.out, HB.out⟩
    case measure => simp [intOf]; omega
   ·rw [e2] at PK
    rw [e1] at NM
    simp only [pt, Option.map_some] at NM
    simp only at PK
    have RD := hide (rready_any B _ st x.sd _ q)
    clear e1 e2 Q1 q
    go_wp2_with fail
    generalize wr.alloc (.cells #[.bool x.sd, .int .i64 x.ch, .int .i64 x.v] 97) = W1 at XN HB OW NM RD ⊢
    generalize wr.heap.size = A at XN ⊢
    refine NM.out.mono ?_
    rintro r z1 ⟨rfl, rfl⟩
    have e0 : z1.cell? ⟨A, 0, none⟩ = some (.bool x.sd) := cell_of XN.out 0
    go_wp2_with fail
    refine RD.out.mono ?_
    rintro r z2 ⟨rfl, k2⟩
    have HB2 := hide (btr HB.out k2)
    have OW2 := hide (own_below OW.out k2)
    clear k2 HB OW NM RD e0 XN
    cases hP : rdy st x.sd
    ·have EX : Hid (ps P (k + 1) = X) := by show _ = _; rw [SU.out, PK.out, hP]; simp
     have O3 : Hid (z2.ownsRow w.heap.size 3 1 u5 (ps P (k + 1)).length (ic (ps P (k + 1)))) := by
      show World.ownsRow _ _ _ _ _ _ _
      rw [EX.out]
      exact OW2.out
     go_wp2_with fail
     go_roundw
     case rel =>
      first
       | exact ⟨_, k + 1, by omega, by go_num, rfl, O3.out, HB2.out⟩
       | exact ⟨k + 1, by omega, by go_num, O3.out, HB2.out⟩
     case measure => simp [intOf]; omega
    ·have EX : Hid (ps P (k + 1) = X ++ [(k : Int)]) := by show _ = _; rw [SU.out, PK.out, hP]; simp
     have BY := below_alloc z2 (.cells #[.int .i64 (k : Int)] 3)
     have OW3 := hide (own_below OW2.out BY)
     have HB3 := hide (btr HB2.out BY)
     have SRC := hide (cell_one_new z2 (.int .i64 (k : Int)) 3)
     clear BY OW2 HB2
     go_wp2_with (at_builtin; refine wpList_append_own _ rfl _ _ 46 rfl w.heap.size 3 i0 (.int .i64 0) 1 8 Tryz.underlying46 INF.out.1 INF.out.2.1 INF.out.2.2.1 INF.out.2.2.2 rfl (by decide) _ _ _ rfl OW3.out ⟨z2.heap.size, 0, none⟩ 1 1 [.int .i64 (k : Int)] rfl rfl ?c1 ?c2 ?c3 ?c4 ?c5 ?_)
     case c1 => exact SRC.out
     case c2 => exact ic_one [(k : Int)]
     case c3 => unfold maxLen; omega
     case c4 => omega
     case c5 => exact HB3.out.size
     intro v' w3 ho hg3 _
     have B3 : Hid (Below w.heap.size w w3) := HB3.out.grown hg3 HB3.out.size (fun x hx => (OW3.out.lt x hx).1)
     have O3 : Hid (w3.ownsRow w.heap.size 3 1 v' (ps P (k + 1)).length (ic (ps P (k + 1)))) := by
      show World.ownsRow _ _ _ _ _ _ _
      rw [EX.out, ic_app, List.length_append]
      exact ho
     clear ho hg3
     go_wp2_with fail
     go_roundw
     case rel =>
      first
       | exact ⟨v', k + 1, by omega, by go_num, rfl, O3.out, B3.out⟩
       | ((repeat apply Exists.intro); exact ⟨⟨v', k + 1, by omega, by go_num, rfl, O3.out, B3.out⟩, rfl⟩)
     case measure => simp [intOf]; omega
  ·have hlt' : ¬ ((k : Int) < (l.length : Int)) := by omega
   obtain rfl : k = l.length := by omega
   obtain ⟨oa', c', hv', _, _⟩ := own_at ho
   subst hv'
   have HO := hide ho
   have HB := hide hb
   clear ho hb
   go_wp2_with fail
   go_ret
   exact ⟨oa', c', rfl, HO.out, HB.out⟩
end Fk
end Go.Proofs.YtblfimobiibmjabGreat
namespace Go.Proofs.YtblfimobiibmjabGreat
open Go.ChangeShapes Go.WideShapes Go.ChangeAt Go.RowKit
namespace Fk
open Ba Pe _root_.Go.Proofs.YtblfimobiibmjabGreat.Pi Rp
theorem ae_ok {l : List Wt} {x : Wt} (h : okb x = true) (hl : l.length ≠ 1024) : ae l x = 0 := by simp [ae, h, hl]
end Fk
end Go.Proofs.YtblfimobiibmjabGreat
namespace Go.Proofs.YtblfimobiibmjabGreat
open Go.ChangeShapes Go.WideShapes Go.ChangeAt Go.RowKit
namespace Fk
open Ba Pe _root_.Go.Proofs.YtblfimobiibmjabGreat.Pi Rp
def pk1 (g : Int) (p : Nat) (c : Ca) (s : List (Option St)) : List (Option St) := match nmB s c.ch with | none => s | some st => s.set c.ch.toNat (some (waitS st c.sd ⟨g, p, c.v⟩))
def pkS (g : Int) (l : List Ca) (s : List (Option St)) : Nat → List (Option St)
 | 0 => s
 | k + 1 => match l[k]? with | none => pkS g l s k | some c => pk1 g k c (pkS g l s k)
def hasC (s : List (Option St)) (l : List Ca) : Nat → Bool := fun i => match l[i]? with | none => false | some c => (nmB s c.ch).isSome
theorem nmB_set {s : List (Option St)} {c d : Int} {st : St} (v : St) (h : nmB s c = some st) : nmB (s.set c.toNat (some v)) d = if d = c then some v else nmB s d := by
 unfold nmB at h ⊢
 split at h
 ·cases h
 ·rename_i e
  rw [List.length_set]
  by_cases ed : d = c
  ·subst ed
   rw [if_neg e, if_pos rfl, List.getElem?_set_self (by omega)]
   rfl
  ·rw [if_neg ed]
   split
   ·rfl
   ·rw [List.getElem?_set_ne (by omega)]
theorem nmB_at {s : List (Option St)} {c : Int} {st : St} (h : nmB s c = some st) : s[c.toNat]? = some (some st) := by
 unfold nmB at h
 split at h
 ·cases h
 ·cases e : s[c.toNat]? with
  | none => rw [e] at h; cases h
  | some o => rw [e] at h; exact congrArg some h
theorem pk1_none (g : Int) (p : Nat) (c : Ca) (s : List (Option St)) (d : Int) : nmB (pk1 g p c s) d = none ↔ nmB s d = none := by
 unfold pk1
 cases h : nmB s c.ch with
 | none => rfl
 | some st =>
   simp only
   rw [nmB_set _ h]
   by_cases e : d = c.ch
   ·subst e
    rw [if_pos rfl, h]
    simp
   ·rw [if_neg e]
theorem pkS_none (g : Int) (l : List Ca) (s : List (Option St)) (k : Nat) (d : Int) : nmB (pkS g l s k) d = none ↔ nmB s d = none := by
 induction k with
 | zero => rfl
 | succ k ih =>
   unfold pkS
   cases h : l[k]? with
   | none => exact ih
   | some c => exact (pk1_none g k c _ d).trans ih
structure Iv (g : Int) (l : List Ca) (m : Nat) (s : List (Option St)) : Prop where
 no : ∀ c ∈ l, ∀ st, nmB s c.ch = some st → st.closed = false ∧ room st c.sd = false ∧ ∀ x ∈ own st (!c.sd), x.g = g
 le : ∀ (i : Nat) (st : St), s[i]? = some (some st) → ∀ b, (own st b).length ≤ m
theorem dr_nil {g : Int} {L : List Wt} (h : ∀ x ∈ L, x.g = g) : dr g L = [] := by
 unfold dr
 rw [List.filter_eq_nil_iff]
 intro x hx
 simp [h x hx]
theorem Iv.ok {g : Int} {l : List Ca} {m : Nat} {s : List (Option St)} (h : Iv g l m s) (hg : 0 ≤ g) (hm : m < 1024) {c : Ca} (hc : c ∈ l) {st : St} (hn : nmB s c.ch = some st) (p : Nat) : waitE st c.sd ⟨g, p, c.v⟩ = 0 ∧ waitS st c.sd ⟨g, p, c.v⟩ = if c.sd then { st with snd := st.snd ++ [⟨g, p, c.v⟩] } else { st with rcv := st.rcv ++ [⟨g, p, c.v⟩] } := by
 obtain ⟨h1, h2, h3⟩ := h.no c hc st hn
 have hl := h.le _ _ (nmB_at hn)
 have hr : rdyBut st c.sd g = false := by
  unfold rdyBut
  rw [h1, h2, dr_nil h3]
  rfl
 have ho : okb ⟨g, (p : Int), c.v⟩ = true := (okb_iff _).2 ⟨hg, by simp only; omega⟩
 unfold waitE waitS
 simp only [hr, Bool.false_eq_true, if_false]
 refine ⟨ae_ok ho (by have := hl c.sd; omega), ?_⟩
 have ht := hl true
 have hf := hl false
 unfold own at ht hf
 simp only [if_true, Bool.false_eq_true, if_false] at ht hf
 have e1 : al st.snd ⟨g, (p : Int), c.v⟩ = st.snd ++ [⟨g, (p : Int), c.v⟩] := by
  unfold al
  rw [if_pos ho, if_neg (by omega)]
 have e2 : al st.rcv ⟨g, (p : Int), c.v⟩ = st.rcv ++ [⟨g, (p : Int), c.v⟩] := by
  unfold al
  rw [if_pos ho, if_neg (by omega)]
 rw [e1, e2]
theorem Iv.step {g : Int} {l : List Ca} {m : Nat} {s : List (Option St)} (h : Iv g l m s) (hg : 0 ≤ g) (hm : m < 1024) {c : Ca} (hc : c ∈ l) (p : Nat) : Iv g l (m + 1) (pk1 g p c s) := by
 unfold pk1
 cases hn : nmB s c.ch with
 | none => exact ⟨h.no, fun i st hi b => Nat.le_succ_of_le (h.le i st hi b)⟩
 | some st =>
   simp only
   rw [(h.ok hg hm hc hn p).2]
   constructor
   ·intro d hd st' hs
    rw [nmB_set _ hn] at hs
    by_cases e : d.ch = c.ch
    ·rw [if_pos e] at hs
     rw [← e] at hn
     obtain ⟨h1, h2, h3⟩ := h.no d hd st hn
     cases hs
     cases hcs : c.sd
     ·simp only [Bool.false_eq_true, if_false]
      refine ⟨h1, h2, ?_⟩
      cases hds : d.sd
      ·rw [hds] at h3; exact h3
      ·rw [hds] at h3
       intro x hx
       rcases List.mem_append.1 hx with q | q
       ·exact h3 x q
       ·rw [List.mem_singleton] at q; rw [q]
     ·simp only [if_true]
      refine ⟨h1, h2, ?_⟩
      cases hds : d.sd
      ·rw [hds] at h3
       intro x hx
       rcases List.mem_append.1 hx with q | q
       ·exact h3 x q
       ·rw [List.mem_singleton] at q; rw [q]
      ·rw [hds] at h3; exact h3
    ·rw [if_neg e] at hs
     exact h.no d hd st' hs
   ·intro i st' hi b
    have hl := h.le _ _ (nmB_at hn)
    by_cases e : i = c.ch.toNat
    ·subst e
     have hlt := (List.getElem?_eq_some_iff.1 (nmB_at hn)).1
     rw [List.getElem?_set_self hlt] at hi
     cases hi
     have ht := hl true
     have hf := hl false
     unfold own at ht hf ⊢
     simp only [if_true, Bool.false_eq_true, if_false] at ht hf
     cases c.sd <;> cases b <;> simp <;> omega
    ·rw [List.getElem?_set_ne (fun q => e q.symm)] at hi
     exact Nat.le_succ_of_le (h.le i st' hi b)
theorem Iv.all {g : Int} {l : List Ca} {m : Nat} {s : List (Option St)} (h : Iv g l m s) (hg : 0 ≤ g) (k : Nat) (hm : m + k < 1024) : Iv g l (m + k) (pkS g l s k) := by
 induction k with
 | zero => exact h
 | succ k ih =>
   have i1 := ih (by omega)
   unfold pkS
   cases hk : l[k]? with
   | none => exact ⟨i1.no, fun i st hi b => by have := i1.le i st hi b; omega⟩
   | some c => exact i1.step hg (by omega) (List.mem_of_getElem? hk) k
theorem ps_nil {P : Nat → Bool} {n : Nat} (h : ps P n = []) (k : Nat) (hk : k < n) : P k = false := by
 unfold ps at h
 rw [List.map_eq_nil_iff, List.filter_eq_nil_iff] at h
 have := h k (List.mem_range.2 hk)
 simpa using this
theorem Iv.start {g : Int} {l : List Ca} {m : Nat} {s : List (Option St)} (h : rdyL l s = []) (hl : ∀ (i : Nat) (st : St), s[i]? = some (some st) → ∀ b, (own st b).length ≤ m) : Iv g l m s := by
 refine ⟨fun c hc st hn => ?_, hl⟩
 obtain ⟨k, hk⟩ := List.getElem?_of_mem hc
 have hkl := (List.getElem?_eq_some_iff.1 hk).1
 have q := ps_nil h k hkl
 simp only [hk] at q
 unfold crdy at q
 rw [hn] at q
 simp only at q
 unfold rdy at q
 simp only [Bool.or_eq_false_iff, decide_eq_false_iff_not, Nat.not_lt, Nat.le_zero] at q
 refine ⟨q.1.1, q.1.2, fun x hx => ?_⟩
 rw [List.eq_nil_of_length_eq_zero q.2] at hx
 cases hx
def pkBad (g : Int) (l : List Ca) : Bool := decide (g < 0) || decide (4 < l.length)
def pkE (g : Int) (l : List Ca) (s : List (Option St)) : Int := if pkBad g l = true then 1 else if 0 < (rdyL l s).length then 7 else 0
def pkN (g : Int) (l : List Ca) (s : List (Option St)) : Int := if pkBad g l = true then 0 else if 0 < (rdyL l s).length then 0 else ((ps (hasC s l) l.length).length : Int)
def pkA (g : Int) (l : List Ca) (s : List (Option St)) : List (Option St) := if pkBad g l = true then s else if 0 < (rdyL l s).length then s else pkS g l s l.length
end Fk
end Go.Proofs.YtblfimobiibmjabGreat
namespace Go.Proofs.YtblfimobiibmjabGreat
open Go.ChangeShapes Go.WideShapes Go.ChangeAt Go.RowKit
namespace Pk
open Ba
def ab (lo hi : Int) (l : List Int) : Bool := l.all fun x => decide (lo ≤ x) && decide (x ≤ hi)
theorem ab_iff (lo hi : Int) (l : List Int) : ab lo hi l = true ↔ ∀ x ∈ l, lo ≤ x ∧ x ≤ hi := by
 simp [ab]
theorem ab_nth {lo hi : Int} {l : List Int} : ab lo hi l = true ↔ ∀ k, k < l.length → lo ≤ nth l k ∧ nth l k ≤ hi := by
 rw [ab_iff]
 constructor
 ·intro h k hk
  rw [nth_lt l k hk]
  exact h _ (List.getElem_mem hk)
 ·intro h x hx
  obtain ⟨k, hk, rfl⟩ := List.mem_iff_getElem.1 hx
  rw [← nth_lt l k hk]
  exact h k hk
end Pk
end Go.Proofs.YtblfimobiibmjabGreat
namespace Go.Proofs.YtblfimobiibmjabGreat
open Go.ChangeShapes Go.WideShapes Go.ChangeAt Go.RowKit
namespace Pk
open Ba
end Pk
end Go.Proofs.YtblfimobiibmjabGreat
namespace Go.Proofs.YtblfimobiibmjabGreat
open Go.ChangeShapes Go.WideShapes Go.ChangeAt Go.RowKit
namespace Pk
open Ba
def ne (p d : List Int) : Int := bif decide (200 < p.length) || decide (64 < d.length) then 2 else bif ab (-1) 1000 p && ab 0 1000 d then 0 else 4
end Pk
end Go.Proofs.YtblfimobiibmjabGreat
namespace Go.Proofs.YtblfimobiibmjabGreat
open Go.ChangeShapes Go.WideShapes Go.ChangeAt Go.RowKit
namespace Pk
open Ba
end Pk
end Go.Proofs.YtblfimobiibmjabGreat
namespace Go.Proofs.YtblfimobiibmjabGreat
open Go.ChangeShapes Go.WideShapes Go.ChangeAt Go.RowKit
namespace Pk
open Ba
end Pk
end Go.Proofs.YtblfimobiibmjabGreat
namespace Go.Proofs.YtblfimobiibmjabGreat
open Go.ChangeShapes Go.WideShapes Go.ChangeAt Go.RowKit
namespace Pk
open Ba
def nok (p : List Int) : Bool := !p.isEmpty
def dv (d : List Int) (n : Int) : Int := if n < 1 ∨ 64 < n then 0 else if n = 1 then 0 else nth d 0 % n
def de (n : Int) : Int := if n < 1 ∨ 64 < n then 1 else 0
def dr (d : List Int) (n : Int) : List Int := if n < 1 ∨ 64 < n ∨ n = 1 then d else d.tail
theorem dr_sub {d : List Int} {n x : Int} (h : x ∈ dr d n) : x ∈ d := by
 unfold dr at h
 split at h
 ·exact h
 ·exact List.mem_of_mem_tail h
def RCur (w : World) (R N : Nat) (p d : List Int) : Prop :=
 ∃ oa ca ob cb P D p0 d0, w.heap[R]? = some (.cells #[.slice oa (p0 : List Int).length ca, .slice ob (d0 : List Int).length cb, .int .i64 ((P : Nat) : Int), .int .i64 ((D : Nat) : Int)] 101 (0, 0)) ∧ (At w oa p0 ∧ P ≤ p0.length ∧ p = p0.drop P ∧ p0.length ≤ 200 ∧ (0 < p0.length → ∀ a, oa = some a → a.block < N)) ∧ At w ob d0 ∧ D ≤ d0.length ∧ d = d0.drop D ∧ d0.length ≤ 64 ∧ (0 < d0.length → ∀ a, ob = some a → a.block < N)
theorem RCur.kb {w w' : World} {R N Q : Nat} {p d : List Int} (h : RCur w R N p d) (k : KB Q w w') (h1 : R ≠ Q) (h2 : N ≤ Q) : RCur w' R N p d := by
 obtain ⟨oa, ca, ob, cb, P, D, p0, d0, q0, ⟨q1, q2, q3, q4, q5⟩, q6, q7, q8, q9, q10⟩ := h
 exact ⟨oa, ca, ob, cb, P, D, p0, d0, k.heap q0 h1, ⟨k.at' q1 fun h a e => by have := q5 h a e; omega, q2, q3, q4, q5⟩, k.at' q6 fun h a e => by have := q10 h a e; omega, q7, q8, q9, q10⟩
theorem RCur.below {w w' : World} {R N : Nat} {p d : List Int} (h : RCur w R N p d) (hb : Below w.heap.size w w') : RCur w' R N p d := by
 obtain ⟨oa, ca, ob, cb, P, D, p0, d0, q0, ⟨q1, q2, q3, q4, q5⟩, q6, q7, q8, q9, q10⟩ := h
 exact ⟨oa, ca, ob, cb, P, D, p0, d0, heap_below q0 hb, ⟨q1.below hb, q2, q3, q4, q5⟩, q6.below hb, q7, q8, q9, q10⟩
theorem nth_drop (l : List Int) (P : Nat) : nth (l.drop P) 0 = nth l P := by simp [nth]
theorem nok_drop (l : List Int) (P : Nat) : nok (l.drop P) = decide (P < l.length) := by
 unfold nok
 cases h : l.drop P with
 | nil =>
   rw [List.drop_eq_nil_iff] at h
   simp [h]
 | cons x t =>
   have := congrArg List.length h
   simp at this
   simp
   omega
set_option maxHeartbeats 1600000 in
theorem rnext_any (R N : Nat) (p d : List Int) (w : World) (h : RCur w R N p d) (hN : N ≤ R) :
 Calls Tryz.prog 37 #[.pointer (some ⟨R, 0, none⟩)] w fun r w' => r = .returned (.tuple #[.int .i64 (nth p 0), .bool (nok p)]) ∧ RCur w' R N p.tail d ∧ KB R w w' := by
 obtain ⟨oa, ca, ob, cb, P, D, p0, d0, q0, ⟨q1, q2, q3, q4, q5⟩, q6, q7, q8, q9, q10⟩ := h
 subst q3 q8
 rw [nth_drop, nok_drop]
 have c0 := cell_of q0 0
 have c2 := cell_of q0 2
 have f2 := frozen_of q0 2
 simp at c0 c2
 have H := hide q0
 have H1 := hide q1
 have H6 := hide q6
 by_cases hP : P < p0.length
 ·have hP' : decide ((p0.length : Int) ≤ (P : Int)) = false := by simp; omega
  have hPd : decide (P < p0.length) = true := by simp; omega
  rw [hPd]
  obtain ⟨b, off, rfl, hc⟩ := q1 P hP
  have hb : b < N := q5 (by omega) _ rfl
  have hc' : (w.setCell ⟨R, 2, none⟩ (.int .i64 ((P : Int) + 1))).cell? ⟨b, off + P, none⟩ = some (.int .i64 (nth p0 P)) := ((KB.refl R w).setCell 2 _).cell hc (by omega)
  have hlt' : (P : Int) < (p0.length : Int) := by omega
  have X := hide (Ba.heap_setCell_same q0 (i := 2) (.int .i64 ((P : Int) + 1)))
  have x0 := cell_of X.out 0
  have x2 := cell_of X.out 2
  simp at x0 x2
  clear q0 q1 q6
  go_enter Tryz.func37, Tryz.ntmps37
  go_wp2_with fail
  go_quiet (fail)
  go_wp2_with fail
  go_quiet (fail)
  go_wp2_with fail
  go_ret2
  refine ⟨rfl, ?_, by first | exact ((KB.refl R w).setCell 2 _).trans (KB.of (bdrew _ _)) | exact ((KB.of (bdrew _ _)).setCell 2 _).trans (KB.of (bdrew _ _))⟩
  refine RCur.below (w := w.setCell ⟨R, 2, none⟩ (.int .i64 ((P : Int) + 1))) ⟨some ⟨b, off, none⟩, ca, ob, cb, P + 1, D, p0, d0, ?_, ⟨((KB.refl R w).setCell 2 _).at' H1.out fun h a e => by have := q5 h a e; omega, by omega, by simp, q4, q5⟩, ((KB.refl R w).setCell 2 _).at' H6.out fun h a e => by have := q10 h a e; omega, q7, rfl, q9, q10⟩ (by first | exact bdrew _ _ | exact Below.refl _ _ | exact ⟨rfl, rfl, rfl, Nat.le_refl _, fun _ _ => rfl⟩)
  rw [X.out]
  rfl
 ·have hP' : decide ((p0.length : Int) ≤ (P : Int)) = true := by simp; omega
  have hPd : decide (P < p0.length) = false := by simp; omega
  rw [hPd, nth_out p0 P (by omega)]
  clear q0 q1 q6
  go_enter Tryz.func37, Tryz.ntmps37
  go_wp2_with fail
  go_quiet (fail)
  go_wp2_with fail
  go_ret2
  refine ⟨rfl, RCur.below (w := w) ⟨oa, ca, ob, cb, P, D, p0, d0, H.out, ⟨H1.out, q2, ?_, q4, q5⟩, H6.out, q7, rfl, q9, q10⟩ (bdrew _ _), KB.of (bdrew _ _)⟩
  rw [List.drop_eq_nil_of_le (by omega)]
  rfl
set_option maxHeartbeats 1600000 in
theorem rdraw_any (R N : Nat) (p d : List Int) (n : Int) (w : World) (h : RCur w R N p d) (hN : N ≤ R) (hd : ∀ x ∈ d, 0 ≤ x) :
 Calls Tryz.prog 69 #[.pointer (some ⟨R, 0, none⟩), .int .i64 n] w fun r w' => r = .returned (.tuple #[.int .i64 (dv d n), .int .i64 (de n)]) ∧ RCur w' R N p (dr d n) ∧ KB R w w' := by
 by_cases h1 : n < 1 ∨ 64 < n
 ·simp only [dv, de, dr, if_pos h1, if_pos (show n < 1 ∨ 64 < n ∨ n = 1 by omega)]
  have H := hide h
  clear h
  cases e1 : decide (n < 1)
  ·have e2 : decide (64 < n) = true := by simp at e1 ⊢; omega
   clear h1
   go_enter Tryz.func69, Tryz.ntmps69
   go_wp2_with fail
   go_ret2
   exact ⟨rfl, H.out, KB.refl _ _⟩
  ·clear h1
   go_enter Tryz.func69, Tryz.ntmps69
   go_wp2_with fail
   go_ret2
   exact ⟨rfl, H.out, KB.refl _ _⟩
 have e1 : decide (n < 1) = false := by simp; omega
 have e2 : decide (64 < n) = false := by simp; omega
 obtain ⟨oa, ca, ob, cb, P, D, p0, d0, q0, ⟨q1, q2, q3, q4, q5⟩, q6, q7, q8, q9, q10⟩ := h
 subst q3 q8
 have c1 := cell_of q0 1
 have c3 := cell_of q0 3
 have f3 := frozen_of q0 3
 simp at c1 c3
 have H := hide q0
 have H1 := hide q1
 have H6 := hide q6
 by_cases h2 : n = 1
 ·subst h2
  simp only [dv, de, dr]
  clear q0 q1 q6
  go_enter Tryz.func69, Tryz.ntmps69
  go_wp2_with fail
  go_quiet (fail)
  go_wp2_with fail
  go_ret2
  exact ⟨rfl, RCur.below (w := w) ⟨oa, ca, ob, cb, P, D, p0, d0, H.out, ⟨H1.out, q2, rfl, q4, q5⟩, H6.out, q7, rfl, q9, q10⟩ (bdrew _ _), KB.of (bdrew _ _)⟩
 have e3 : (n == 1) = false := by rw [beq_eq_false_iff_ne]; exact h2
 simp only [dv, de, dr, if_neg h1, if_neg h2, if_neg (show ¬ (n < 1 ∨ 64 < n ∨ n = 1) by omega)]
 rw [nth_drop]
 have n1 : 2 ≤ n := by omega
 have n2 : n ≤ 64 := by omega
 clear h1 h2
 by_cases hP : D < d0.length
 ·have hP' : decide ((d0.length : Int) ≤ (D : Int)) = false := by simp; omega
  obtain ⟨b, off, rfl, hc⟩ := q6 D hP
  have hb : b < N := q10 (by omega) _ rfl
  have hx : 0 ≤ nth d0 D := by
   refine hd _ ?_
   rw [← nth_drop, nth_lt _ 0 (by simp; omega)]
   exact List.getElem_mem _
  have hc' : (w.setCell ⟨R, 3, none⟩ (.int .i64 ((D : Int) + 1))).cell? ⟨b, off + D, none⟩ = some (.int .i64 (nth d0 D)) := ((KB.refl R w).setCell 3 _).cell hc (by omega)
  have hlt' : (D : Int) < (d0.length : Int) := by omega
  have X := hide (Ba.heap_setCell_same q0 (i := 3) (.int .i64 ((D : Int) + 1)))
  have x0 := cell_of X.out 1
  have x2 := cell_of X.out 3
  simp at x0 x2
  clear q0 q1 q6 hd
  go_enter Tryz.func69, Tryz.ntmps69
  go_wp2_with fail
  go_quiet (fail)
  go_wp2_with fail
  go_quiet (fail)
  go_wp2_with fail
  go_ret2
  refine ⟨by first | rfl | (rw [Int.tmod_eq_emod_of_nonneg hx]), ?_, by first | exact ((KB.refl R w).setCell 3 _).trans (KB.of (bdrew _ _)) | exact ((KB.of (bdrew _ _)).setCell 3 _).trans (KB.of (bdrew _ _))⟩
  refine RCur.below (w := w.setCell ⟨R, 3, none⟩ (.int .i64 ((D : Int) + 1))) ⟨oa, ca, some ⟨b, off, none⟩, cb, P, D + 1, p0, d0, ?_, ⟨((KB.refl R w).setCell 3 _).at' H1.out fun h a e => by have := q5 h a e; omega, by omega, rfl, q4, q5⟩, ((KB.refl R w).setCell 3 _).at' H6.out fun h a e => by have := q10 h a e; omega, by omega, by simp, q9, q10⟩ (by first | exact bdrew _ _ | exact Below.refl _ _ | exact ⟨rfl, rfl, rfl, Nat.le_refl _, fun _ _ => rfl⟩)
  rw [X.out]
  rfl
 ·have hP' : decide ((d0.length : Int) ≤ (D : Int)) = true := by simp; omega
  rw [nth_out d0 D (by omega)]
  clear q0 q1 q6 hd
  go_enter Tryz.func69, Tryz.ntmps69
  go_wp2_with fail
  go_quiet (fail)
  go_wp2_with fail
  go_ret2
  refine ⟨by simp, RCur.below (w := w) ⟨oa, ca, ob, cb, P, D, p0, d0, H.out, ⟨H1.out, q2, rfl, q4, q5⟩, H6.out, q7, ?_, q9, q10⟩ (bdrew _ _), KB.of (bdrew _ _)⟩
  rw [List.drop_eq_nil_of_le (by omega)]
  rfl
end Pk
end Go.Proofs.YtblfimobiibmjabGreat
namespace Go.Proofs.YtblfimobiibmjabGreat
open Go.ChangeShapes Go.WideShapes Go.ChangeAt Go.RowKit
namespace Lk
open Ba Pk
end Lk
end Go.Proofs.YtblfimobiibmjabGreat
namespace Go.Proofs.YtblfimobiibmjabGreat
open Go.ChangeShapes Go.WideShapes Go.ChangeAt Go.RowKit
namespace Ba
section
variable {H : Type} {enc : TypeId × Value → H} {w : World}
end
end Ba
end Go.Proofs.YtblfimobiibmjabGreat
namespace Go.Proofs.YtblfimobiibmjabGreat
open Go.ChangeShapes Go.WideShapes Go.ChangeAt Go.RowKit
namespace Ba
section
variable {H : Type} {enc : TypeId × Value → H} {w : World}
end
end Ba
end Go.Proofs.YtblfimobiibmjabGreat
namespace Go.Proofs.YtblfimobiibmjabGreat
open Go.ChangeShapes Go.WideShapes Go.ChangeAt Go.RowKit
namespace Pk
open Ba
def ofx (p : Int) (l : List Int) : Int := if p < 0 then 0 else if l.length = 0 then 0 else nth l (p.toNat % l.length)
end Pk
end Go.Proofs.YtblfimobiibmjabGreat
namespace Go.Proofs.YtblfimobiibmjabGreat
open Go.ChangeShapes Go.WideShapes Go.ChangeAt Go.RowKit
namespace Lo
open Ba
abbrev Ev := En.Ev
abbrev Mb := Cr.Mb
abbrev OpD := De.OpD
abbrev Ca := Fk.Ca
abbrev St := _root_.Go.Proofs.YtblfimobiibmjabGreat.Pi.St
abbrev Gt := _root_.Go.Proofs.YtblfimobiibmjabGreat.Pi.Gt
abbrev Wt := Pe.Wt
structure Lm where
 ps : List (List OpD)
 p : List Int
 d : List Int
 cr : List Mb
 sts : List (Option St)
 nm : List Int
 md : Int
 tr : List Ev
 pk : Bool
def cav (c : De.Cs) : Ca := ⟨c.send, c.ch, c.val⟩
def bareE (k g : Int) : Ev := ⟨k, g, -1, -1, -1, -1, false, false⟩
def tellS (s : Lm) (e : Ev) : Lm := { s with tr := s.tr ++ [e] }
def goS (s : Lm) (e : Ev) : Lm := tellS { s with cr := Cr.chL s.cr e.g 0 0 1 } e
def waitsS (s : Lm) (e : Ev) : Lm := tellS { s with cr := Cr.chL s.cr e.g 0 1 0 } e
def wakesS (s : Lm) (e : Ev) : Lm := tellS { s with sts := Fk.leaveS e.g s.sts, cr := Cr.chL s.cr e.g 1 0 1 } e
def opensS (s : Lm) (name : Int) (size : Int) : Lm := { s with sts := s.sts.set name.toNat (some (_root_.Go.Proofs.YtblfimobiibmjabGreat.Pi.st0 size.toNat)), nm := s.nm.set name.toNat s.md, md := s.md + 1 }
def num (s : Lm) (c : Int) : Int := nth s.nm c.toNat
def tryV (s : Lm) (g at_ : Int) (c : Ca) (t : Gt) : Ev := ⟨if c.sd then 3 else 4, g, num s c.ch, at_, if c.sd then c.v else t.v, if t.wk then t.m.g else -1, c.sd, t.ok⟩
def servV (e : Ev) (t : Gt) : Ev := ⟨7, t.m.g, e.c, t.m.c, if e.s then e.v else t.m.v, e.g, !e.s, true⟩
structure Tr3 where
 s : Lm
 done : Bool
 fine : Bool
def tryF (s : Lm) (g at_ : Int) (c : Ca) : Tr3 :=
 if Fk.tryE s.sts c ≠ 0 ∨ (Fk.tryG s.sts c).rd = false then ⟨{ s with sts := Fk.tryS s.sts c }, false, Fk.tryE s.sts c == 0⟩
 else if (Fk.tryG s.sts c).wk then ⟨wakesS (goS { s with sts := Fk.tryS s.sts c } (tryV s g at_ c (Fk.tryG s.sts c))) (servV (tryV s g at_ c (Fk.tryG s.sts c)) (Fk.tryG s.sts c)), true, true⟩
 else ⟨goS { s with sts := Fk.tryS s.sts c } (tryV s g at_ c (Fk.tryG s.sts c)), true, true⟩
def waitN (sts : List (Option St)) (c : Ca) (g : Int) : List (Option St) := match Fk.nmB sts c.ch with
 | none => sts
 | some st => sts.set c.ch.toNat (some (_root_.Go.Proofs.YtblfimobiibmjabGreat.Pi.waitS st c.sd ⟨g, -1, c.v⟩))
structure Tr2 where
 s : Lm
 fine : Bool
def aloneF (s : Lm) (g : Int) (c : Ca) : Tr2 :=
 if (tryF s g (-1) c).done || !(tryF s g (-1) c).fine then ⟨(tryF s g (-1) c).s, (tryF s g (-1) c).fine⟩
 else ⟨waitsS { (tryF s g (-1) c).s with sts := waitN (tryF s g (-1) c).s.sts c g } ⟨6, g, num s c.ch, -1, c.v, -1, c.sd, false⟩, true⟩
def cas (o : OpD) : List Ca := o.cases.map cav
def caseAt (o : OpD) (i : Int) : Ca := ((cas o)[i.toNat]?).getD ⟨false, 0, 0⟩
def chooseF (s : Lm) (g : Int) (o : OpD) : Tr2 :=
 if 0 < (Fk.rdyL (cas o) s.sts).length then
  ⟨(tryF { s with d := Pk.dr s.d (Fk.rdyL (cas o) s.sts).length } g (nth (Fk.rdyL (cas o) s.sts) (Pk.dv s.d (Fk.rdyL (cas o) s.sts).length).toNat) (caseAt o (nth (Fk.rdyL (cas o) s.sts) (Pk.dv s.d (Fk.rdyL (cas o) s.sts).length).toNat))).s,
   (tryF { s with d := Pk.dr s.d (Fk.rdyL (cas o) s.sts).length } g (nth (Fk.rdyL (cas o) s.sts) (Pk.dv s.d (Fk.rdyL (cas o) s.sts).length).toNat) (caseAt o (nth (Fk.rdyL (cas o) s.sts) (Pk.dv s.d (Fk.rdyL (cas o) s.sts).length).toNat))).fine⟩
 else if o.def_ then ⟨goS s (bareE 8 g), true⟩
 else ⟨waitsS { s with sts := Fk.pkA g (cas o) s.sts } ⟨6, g, -1, o.cases.length, 0, -1, false, false⟩, true⟩
def parked (s : Lm) (g : Int) : Bool := (Cr.one0 (Cr.gt s.cr g)).s == 1
def wakeAll (g c : Int) : Lm → List Wt → Lm
 | s, [] => s
 | s, x :: l => wakeAll g c (if parked s x.g then wakesS s ⟨7, x.g, c, x.c, 0, g, false, false⟩ else s) l
def first (s : Lm) : List Wt → Int
 | [] => -1
 | x :: l => if parked s x.g then x.g else first s l
structure TrW where
 s : Lm
 who : Int
def closesF (s : Lm) (g name : Int) : TrW := match Fk.nmB s.sts name with
 | none => ⟨s, g⟩
 | some st => if st.closed then ⟨s, g⟩ else
   ⟨wakeAll g (num s name) (goS { s with sts := s.sts.set name.toNat (some (_root_.Go.Proofs.YtblfimobiibmjabGreat.Pi.closeS st)) } ⟨5, g, num s name, -1, -1, -1, false, false⟩) st.rcv,
    first (wakeAll g (num s name) (goS { s with sts := s.sts.set name.toNat (some (_root_.Go.Proofs.YtblfimobiibmjabGreat.Pi.closeS st)) } ⟨5, g, num s name, -1, -1, -1, false, false⟩) st.rcv) st.snd⟩
def panicS (s : Lm) (who : Int) : Lm := tellS { s with pk := true } (bareE 12 who)
def doF (s : Lm) (g : Int) (o : OpD) : Lm :=
 if o.kind = 1 then goS { s with cr := Cr.spL s.cr o.a } ⟨1, g, -1, -1, o.a, Cr.spV s.cr o.a, false, false⟩
 else if o.kind = 2 then goS (opensS s o.a o.b) ⟨2, g, s.md, -1, o.b, -1, false, false⟩
 else if o.kind = 7 then goS s ⟨9, g, -1, -1, o.a, -1, false, false⟩
 else if o.kind = 8 then goS s ⟨10, g, -1, -1, o.a, -1, false, false⟩
 else if o.kind = 9 then tellS { s with cr := Cr.chL s.cr g 0 2 0 } (bareE 11 g)
 else if o.kind = 3 then (if (aloneF s g ⟨true, o.a, o.b⟩).fine then (aloneF s g ⟨true, o.a, o.b⟩).s else panicS (aloneF s g ⟨true, o.a, o.b⟩).s g)
 else if o.kind = 4 then (aloneF s g ⟨false, o.a, 0⟩).s
 else if o.kind = 5 then (if (closesF s g o.a).who = -1 then (closesF s g o.a).s else panicS (closesF s g o.a).s (closesF s g o.a).who)
 else if o.kind = 6 then (if (chooseF s g o).fine then (chooseF s g o).s else panicS (chooseF s g o).s g)
 else s
def verd (s : Lm) : Int := if s.pk then 3 else if Cr.ovr s.cr ≠ 0 then Cr.ovr s.cr else if s.p.length = 0 then 4 else 0
def exitO : OpD := ⟨9, 0, 0, [], false⟩
def opOf (s : Lm) (g : Int) : OpD := (((s.ps[(Cr.one0 (Cr.gt s.cr g)).p.toNat]?).getD [])[(Cr.one0 (Cr.gt s.cr g)).q.toNat]?).getD exitO
def whoN (s : Lm) : Int := Pk.ofx (nth s.p 0) (Cr.abl s.cr)
def stepF (s : Lm) : Lm :=
 if verd s ≠ 0 then s
 else if nth s.p 0 = -1 then tellS { s with p := s.p.tail } (bareE 13 (-1))
 else doF { s with p := s.p.tail } (whoN s) (opOf s (whoN s))
def newS (sc : Sh.Sc) : Lm := ⟨sc.ps, sc.pl, sc.dr, [⟨0, 0, 0⟩], List.replicate 8 none, List.replicate 8 (-1), 0, [], false⟩
def stepsF : Nat → Lm → Lm
 | 0, s => s
 | n + 1, s => stepsF n (stepF s)
end Lo
end Go.Proofs.YtblfimobiibmjabGreat
namespace Go.Proofs.YtblfimobiibmjabGreat
open Go.ChangeShapes Go.WideShapes Go.ChangeAt Go.RowKit
namespace Fk
open Ba Pe _root_.Go.Proofs.YtblfimobiibmjabGreat.Pi Rp
end Fk
end Go.Proofs.YtblfimobiibmjabGreat
namespace Go.Proofs.YtblfimobiibmjabGreat
open Go.ChangeShapes Go.WideShapes Go.ChangeAt Go.RowKit
namespace Lo
open Ba
structure Ch (K : Nat → Prop) (col col' : Nat → Nat) (w w' : World) : Prop where
 os : w'.os = w.os
 tape : w'.tape = w.tape
 output : w'.output = w.output
 size : w.heap.size ≤ w'.heap.size
 block : ∀ x, x < w.heap.size → ¬ K (col x) → w'.heap[x]? = w.heap[x]?
 old : ∀ x, x < w.heap.size → col' x = col x
theorem ext_ex (w : World) (col : Nat → Nat) (F : Nat → Prop) (k : Nat) : ∃ col' : Nat → Nat, (∀ x, x < w.heap.size → col' x = col x) ∧ (∀ x, w.heap.size ≤ x → F x → col' x = k) ∧ (∀ x, w.heap.size ≤ x → ¬ F x → col' x = 7) := by
 classical
 refine ⟨fun x => if x < w.heap.size then col x else if F x then k else 7, fun x hx => by simp [hx], fun x hx hf => ?_, fun x hx hf => ?_⟩
 ·simp [Nat.not_lt.2 hx, hf]
 ·simp [Nat.not_lt.2 hx, hf]
def ec (l : List Ev) : List Value := l.flatMap fun e => (En.evc e).toList
theorem ec_app (l m : List Ev) : ec (l ++ m) = ec l ++ ec m := by simp [ec]
theorem ec_one (l : List Ev) : ∀ u ∈ ec l, u.oneCell' = true := by
 intro u hu
 simp only [ec, List.mem_flatMap] at hu
 obtain ⟨e, _, hu⟩ := hu
 simp [En.evc] at hu
 rcases hu with rfl | rfl | rfl | rfl | rfl | rfl | rfl | rfl <;> rfl
theorem ec_len (l : List Ev) : (ec l).length = l.length * 8 := by
 induction l with
 | nil => rfl
 | cons e l ih => simp [ec, En.evc] at ih ⊢; omega
section
variable {w w' : World} {col col' : Nat → Nat} {L N C B X : Nat} {FB : Nat → Prop} {pa : Option Addr} {pc : Nat} {bs : List (Option Nat)} {Fs : Nat → Nat → Prop} {ta : Option Addr} {tc : Nat} {s : Lm} {K : Nat → Prop}
theorem ch_below (K : Nat → Prop) (hb : Below w.heap.size w w') (ho : ∀ x, x < w.heap.size → col' x = col x) : Ch K col col' w w' := ⟨hb.os, hb.tape, hb.output, hb.size, fun x hx _ => hb.block x hx, ho⟩
end
end Lo
end Go.Proofs.YtblfimobiibmjabGreat
namespace Go.Proofs.YtblfimobiibmjabGreat
open Go.ChangeShapes Go.WideShapes Go.ChangeAt Go.RowKit
namespace Lo
open Ba
theorem info_ev : (Tryz.prog.info? 29).map (fun i => (i.zero, i.size, i.bytes)) = some (some (.agg #[.int .i64 0, .int .i64 0, .int .i64 0, .int .i64 0, .int .i64 0, .int .i64 0, .bool false, .bool false]), 8, 56) := by kernel_rfl
section
variable {w u w2 : World} {col : Nat → Nat} {L N C B X : Nat} {FB : Nat → Prop} {pa : Option Addr} {pc : Nat} {bs : List (Option Nat)} {Fs : Nat → Nat → Prop} {ta : Option Addr} {tc : Nat} {s : Lm}
end
theorem src8 (w : World) (e : Ev) (t : TypeId) : ∀ j u, (ec [e])[j]? = some u → ((w.alloc (.cells #[.int .i64 e.k, .int .i64 e.g, .int .i64 e.c, .int .i64 e.a, .int .i64 e.v, .int .i64 e.m, .bool e.s, .bool e.o] t)).alloc (.cells #[.int .i64 e.k, .int .i64 e.g, .int .i64 e.c, .int .i64 e.a, .int .i64 e.v, .int .i64 e.m, .bool e.s, .bool e.o] t)).drew.cell? ((⟨w.heap.size + 1, 0, none⟩ : Addr).add j) = some u := by
 intro j u hj
 have hn := En.heap_new2 w (.cells #[.int .i64 e.k, .int .i64 e.g, .int .i64 e.c, .int .i64 e.a, .int .i64 e.v, .int .i64 e.m, .bool e.s, .bool e.o] t) (.cells #[.int .i64 e.k, .int .i64 e.g, .int .i64 e.c, .int .i64 e.a, .int .i64 e.v, .int .i64 e.m, .bool e.s, .bool e.o] t)
 rw [Addr.add_lit, Nat.zero_add, cell_of (heap_below hn (bdrew1 _)), ← hj]
 simp [ec, En.evc]
theorem own_sl {w : World} {base : Nat} {e : TypeId} {v : Value} {n : Nat} {xs : List Value} (h : w.ownsRow base e 8 v n xs) : ∃ oa c, v = .slice oa n c := by
 rcases h.2 with ⟨rfl, rfl⟩ | ⟨b, cap, cur, rfl, _⟩
 ·exact ⟨none, 0, rfl⟩
 ·exact ⟨_, _, rfl⟩
end Lo
end Go.Proofs.YtblfimobiibmjabGreat
namespace Go.Proofs.YtblfimobiibmjabGreat
open Go.ChangeShapes Go.WideShapes Go.ChangeAt Go.RowKit
namespace Cr
open Ba
abbrev RC (w : World) (B : Nat) (F : Nat → Prop) (l : List Mb) : Prop := Cq 88 114 w B F l
theorem info_one : (Tryz.prog.info? 114).map (fun i => (i.zero, i.size, i.bytes)) = some (some (tv 0 0 0), 3, 24) := by kernel_rfl
theorem rhas_any (B : Nat) (F : Nat → Prop) (l : List Mb) (g : Int) (w : World) (h : RC w B F l) :
 Calls Tryz.prog 86 #[.pointer (some ⟨B, 0, none⟩), .int .i64 g] w fun r w' => r = .returned (.bool (thr l g)) ∧ w' = w := by
 unfold thr
 have hle := h.le
 obtain ⟨oa, c, h⟩ := h
 have y0 : w.cell? ⟨B, 0, none⟩ = some (.slice oa l.length c) := cell_of h.hp 0
 clear h
 cases hg : gt l g with
 | none =>
   have hg' := gt_none hg
   clear hg
   cases h1 : decide (0 ≤ g)
   ·clear hg'
    go_enter Tryz.func86, Tryz.ntmps86
    go_wp2_with fail
    go_ret
    exact ⟨rfl, rfl⟩
   ·have d2 : decide (g < (l.length : Int)) = false := by simp at h1 ⊢; omega
    clear hg'
    go_enter Tryz.func86, Tryz.ntmps86
    go_wp2_with fail
    go_ret
    exact ⟨rfl, rfl⟩
 | some x =>
   obtain ⟨k, rfl, hk, hx⟩ := gt_some hg
   have d1 : decide (0 ≤ (k : Int)) = true := decide_eq_true (by omega)
   have d2 : decide ((k : Int) < (l.length : Int)) = true := decide_eq_true (by omega)
   clear hx hg
   go_enter Tryz.func86, Tryz.ntmps86
   go_wp2_with fail
   go_ret
   exact ⟨rfl, rfl⟩
set_option maxHeartbeats 1600000 in
theorem rturn00 (B : Nat) (F : Nat → Prop) (l : List Mb) (K : Nat) (g : Int) (w : World) (h : RC w B F l) (hn : Bn K l) (hK : K ≤ 100000) :
 Calls Tryz.prog 64 #[.pointer (some ⟨B, 0, none⟩), .int .i64 g, .int .i64 0, .int .i64 0] w fun r w' => r = .returned (.int .i64 (chE l g 0)) ∧ Po 88 114 w w' B F (chL l g 0 0 1) := by
 unfold chE chL
 have HS := hide (rhas_any B F l g w h)
 have HH := hide h
 cases hg : gt l g with
 | none =>
   simp only
   unfold thr at HS
   rw [hg] at HS
   simp only [Option.isSome_none] at HS
   clear h hg hn
   go_enter Tryz.func64, Tryz.ntmps64
   go_wp2_with fail
   refine HS.out.mono ?_
   rintro r w1 ⟨rfl, rfl⟩
   go_wp2_with fail
   go_ret
   exact ⟨rfl, Po.of HH.out (Below.refl _ _)⟩
 | some x =>
   simp only
   unfold thr at HS
   rw [hg] at HS
   simp only [Option.isSome_some] at HS
   obtain ⟨k, rfl, hk, hx⟩ := gt_some hg
   rw [Int.toNat_natCast]
   have hle := h.le
   obtain ⟨oa, c, h⟩ := h
   have hb1 := hn.at hx
   have H := hide h
   obtain ⟨m, rfl, q0, q1, q2⟩ := h.at.1 k x hx
   obtain ⟨_, cur, hm⟩ := own_blk h.ow m rfl
   have hmB : m ≠ B := by
    intro e
    rw [e, h.hp] at hm
    cases hm
   have y0 : w.cell? ⟨B, 0, none⟩ = some (.slice (some ⟨m, 0, none⟩) l.length c) := cell_of h.hp 0
   have z1 := frozen_of hm (k * 3 + 1)
   have z2 := frozen_of hm (k * 3 + 2)
   have hFm := hide (h.fr m rfl)
   have HX := hide hx
   have d3 : (k : Int) < (l.length : Int) := by omega
   clear h hg hx hm hn
   by_cases hs : x.s = 0
   ·rw [if_pos hs, if_pos hs]
    have e1 : (x.s != 0) = false := by simp [hs]
    clear hs
    go_enter Tryz.func64, Tryz.ntmps64
    go_wp2_with fail
    refine HS.out.mono ?_
    rintro r w1 ⟨rfl, rfl⟩
    go_wp2_with fail
    go_region
    all_goals
     go_wp2_with fail
     go_ret
     exact ⟨rfl, F, ⟨some ⟨m, 0, none⟩, c, (H.out.both (by decide) HX.out _ _).below (bdrew1 _)⟩, ((((KF.refl _ _).set hFm.out _ _).set hFm.out _ _).then (bdrew1 _)), Nw.refl _ _⟩
   ·rw [if_neg hs, if_neg hs]
    have e1 : (x.s != 0) = true := by simp [hs]
    clear hs
    go_enter Tryz.func64, Tryz.ntmps64
    go_wp2_with fail
    refine HS.out.mono ?_
    rintro r w1 ⟨rfl, rfl⟩
    go_wp2_with fail
    go_ret
    exact ⟨rfl, Po.of HH.out (Below.refl _ _)⟩
set_option maxHeartbeats 1600000 in
theorem rturn01 (B : Nat) (F : Nat → Prop) (l : List Mb) (K : Nat) (g : Int) (w : World) (h : RC w B F l) (hn : Bn K l) (_hK : K ≤ 100000) :
 Calls Tryz.prog 64 #[.pointer (some ⟨B, 0, none⟩), .int .i64 g, .int .i64 0, .int .i64 1] w fun r w' => r = .returned (.int .i64 (chE l g 0)) ∧ Po 88 114 w w' B F (chL l g 0 1 0) := by
 unfold chE chL
 have HS := hide (rhas_any B F l g w h)
 have HH := hide h
 cases hg : gt l g with
 | none =>
   simp only
   unfold thr at HS
   rw [hg] at HS
   simp only [Option.isSome_none] at HS
   clear h hg hn
   go_enter Tryz.func64, Tryz.ntmps64
   go_wp2_with fail
   refine HS.out.mono ?_
   rintro r w1 ⟨rfl, rfl⟩
   go_wp2_with fail
   go_ret
   exact ⟨rfl, Po.of HH.out (Below.refl _ _)⟩
 | some x =>
   simp only
   unfold thr at HS
   rw [hg] at HS
   simp only [Option.isSome_some] at HS
   obtain ⟨k, rfl, hk, hx⟩ := gt_some hg
   rw [Int.toNat_natCast]
   have hle := h.le
   obtain ⟨oa, c, h⟩ := h
   have hb1 := hn.at hx
   have H := hide h
   obtain ⟨m, rfl, q0, q1, q2⟩ := h.at.1 k x hx
   obtain ⟨_, cur, hm⟩ := own_blk h.ow m rfl
   have hmB : m ≠ B := by
    intro e
    rw [e, h.hp] at hm
    cases hm
   have y0 : w.cell? ⟨B, 0, none⟩ = some (.slice (some ⟨m, 0, none⟩) l.length c) := cell_of h.hp 0
   have z1 := frozen_of hm (k * 3 + 1)
   have z2 := frozen_of hm (k * 3 + 2)
   have hFm := hide (h.fr m rfl)
   have HX := hide hx
   have d3 : (k : Int) < (l.length : Int) := by omega
   clear h hg hx hm hn
   by_cases hs : x.s = 0
   ·rw [if_pos hs, if_pos hs]
    have e1 : (x.s != 0) = false := by simp [hs]
    clear hs
    go_enter Tryz.func64, Tryz.ntmps64
    go_wp2_with fail
    refine HS.out.mono ?_
    rintro r w1 ⟨rfl, rfl⟩
    go_wp2_with fail
    go_ret
    exact ⟨rfl, F, ⟨some ⟨m, 0, none⟩, c, by have q := H.out.set2 (by decide) HX.out 1; rw [Int.add_zero]; exact q⟩, (KF.refl _ _).set hFm.out _ _, Nw.refl _ _⟩
   ·rw [if_neg hs, if_neg hs]
    have e1 : (x.s != 0) = true := by simp [hs]
    clear hs
    go_enter Tryz.func64, Tryz.ntmps64
    go_wp2_with fail
    refine HS.out.mono ?_
    rintro r w1 ⟨rfl, rfl⟩
    go_wp2_with fail
    go_ret
    exact ⟨rfl, Po.of HH.out (Below.refl _ _)⟩
set_option maxHeartbeats 1600000 in
theorem rturn10 (B : Nat) (F : Nat → Prop) (l : List Mb) (K : Nat) (g : Int) (w : World) (h : RC w B F l) (hn : Bn K l) (hK : K ≤ 100000) :
 Calls Tryz.prog 64 #[.pointer (some ⟨B, 0, none⟩), .int .i64 g, .int .i64 1, .int .i64 0] w fun r w' => r = .returned (.int .i64 (chE l g 1)) ∧ Po 88 114 w w' B F (chL l g 1 0 1) := by
 unfold chE chL
 have HS := hide (rhas_any B F l g w h)
 have HH := hide h
 cases hg : gt l g with
 | none =>
   simp only
   unfold thr at HS
   rw [hg] at HS
   simp only [Option.isSome_none] at HS
   clear h hg hn
   go_enter Tryz.func64, Tryz.ntmps64
   go_wp2_with fail
   refine HS.out.mono ?_
   rintro r w1 ⟨rfl, rfl⟩
   go_wp2_with fail
   go_ret
   exact ⟨rfl, Po.of HH.out (Below.refl _ _)⟩
 | some x =>
   simp only
   unfold thr at HS
   rw [hg] at HS
   simp only [Option.isSome_some] at HS
   obtain ⟨k, rfl, hk, hx⟩ := gt_some hg
   rw [Int.toNat_natCast]
   have hle := h.le
   obtain ⟨oa, c, h⟩ := h
   have hb1 := hn.at hx
   have H := hide h
   obtain ⟨m, rfl, q0, q1, q2⟩ := h.at.1 k x hx
   obtain ⟨_, cur, hm⟩ := own_blk h.ow m rfl
   have hmB : m ≠ B := by
    intro e
    rw [e, h.hp] at hm
    cases hm
   have y0 : w.cell? ⟨B, 0, none⟩ = some (.slice (some ⟨m, 0, none⟩) l.length c) := cell_of h.hp 0
   have z1 := frozen_of hm (k * 3 + 1)
   have z2 := frozen_of hm (k * 3 + 2)
   have hFm := hide (h.fr m rfl)
   have HX := hide hx
   have d3 : (k : Int) < (l.length : Int) := by omega
   clear h hg hx hm hn
   by_cases hs : x.s = 1
   ·rw [if_pos hs, if_pos hs]
    have e1 : (x.s != 1) = false := by simp [hs]
    clear hs
    go_enter Tryz.func64, Tryz.ntmps64
    go_wp2_with fail
    refine HS.out.mono ?_
    rintro r w1 ⟨rfl, rfl⟩
    go_wp2_with fail
    go_region
    all_goals
     go_wp2_with fail
     go_ret
     exact ⟨rfl, F, ⟨some ⟨m, 0, none⟩, c, (H.out.both (by decide) HX.out _ _).below (bdrew1 _)⟩, ((((KF.refl _ _).set hFm.out _ _).set hFm.out _ _).then (bdrew1 _)), Nw.refl _ _⟩
   ·rw [if_neg hs, if_neg hs]
    have e1 : (x.s != 1) = true := by simp [hs]
    clear hs
    go_enter Tryz.func64, Tryz.ntmps64
    go_wp2_with fail
    refine HS.out.mono ?_
    rintro r w1 ⟨rfl, rfl⟩
    go_wp2_with fail
    go_ret
    exact ⟨rfl, Po.of HH.out (Below.refl _ _)⟩
set_option maxHeartbeats 1600000 in
theorem rturn02 (B : Nat) (F : Nat → Prop) (l : List Mb) (K : Nat) (g : Int) (w : World) (h : RC w B F l) (hn : Bn K l) (_hK : K ≤ 100000) :
 Calls Tryz.prog 64 #[.pointer (some ⟨B, 0, none⟩), .int .i64 g, .int .i64 0, .int .i64 2] w fun r w' => r = .returned (.int .i64 (chE l g 0)) ∧ Po 88 114 w w' B F (chL l g 0 2 0) := by
 unfold chE chL
 have HS := hide (rhas_any B F l g w h)
 have HH := hide h
 cases hg : gt l g with
 | none =>
   simp only
   unfold thr at HS
   rw [hg] at HS
   simp only [Option.isSome_none] at HS
   clear h hg hn
   go_enter Tryz.func64, Tryz.ntmps64
   go_wp2_with fail
   refine HS.out.mono ?_
   rintro r w1 ⟨rfl, rfl⟩
   go_wp2_with fail
   go_ret
   exact ⟨rfl, Po.of HH.out (Below.refl _ _)⟩
 | some x =>
   simp only
   unfold thr at HS
   rw [hg] at HS
   simp only [Option.isSome_some] at HS
   obtain ⟨k, rfl, hk, hx⟩ := gt_some hg
   rw [Int.toNat_natCast]
   have hle := h.le
   obtain ⟨oa, c, h⟩ := h
   have hb1 := hn.at hx
   have H := hide h
   obtain ⟨m, rfl, q0, q1, q2⟩ := h.at.1 k x hx
   obtain ⟨_, cur, hm⟩ := own_blk h.ow m rfl
   have hmB : m ≠ B := by
    intro e
    rw [e, h.hp] at hm
    cases hm
   have y0 : w.cell? ⟨B, 0, none⟩ = some (.slice (some ⟨m, 0, none⟩) l.length c) := cell_of h.hp 0
   have z1 := frozen_of hm (k * 3 + 1)
   have z2 := frozen_of hm (k * 3 + 2)
   have hFm := hide (h.fr m rfl)
   have HX := hide hx
   have d3 : (k : Int) < (l.length : Int) := by omega
   clear h hg hx hm hn
   by_cases hs : x.s = 0
   ·rw [if_pos hs, if_pos hs]
    have e1 : (x.s != 0) = false := by simp [hs]
    clear hs
    go_enter Tryz.func64, Tryz.ntmps64
    go_wp2_with fail
    refine HS.out.mono ?_
    rintro r w1 ⟨rfl, rfl⟩
    go_wp2_with fail
    go_ret
    exact ⟨rfl, F, ⟨some ⟨m, 0, none⟩, c, by have q := H.out.set2 (by decide) HX.out 2; rw [Int.add_zero]; exact q⟩, (KF.refl _ _).set hFm.out _ _, Nw.refl _ _⟩
   ·rw [if_neg hs, if_neg hs]
    have e1 : (x.s != 0) = true := by simp [hs]
    clear hs
    go_enter Tryz.func64, Tryz.ntmps64
    go_wp2_with fail
    refine HS.out.mono ?_
    rintro r w1 ⟨rfl, rfl⟩
    go_wp2_with fail
    go_ret
    exact ⟨rfl, Po.of HH.out (Below.refl _ _)⟩
set_option maxRecDepth 100000 in
set_option maxHeartbeats 1600000 in
theorem rable_any (B : Nat) (F : Nat → Prop) (l : List Mb) (w : World) (h : Cq 88 114 w B F l) :
 Calls Tryz.prog 58 #[.pointer (some ⟨B, 0, none⟩)] w fun r w' => ∃ ob d, r = .returned (.slice ob (abl l).length d) ∧ At w' ob (abl l) ∧ Below w.heap.size w w' := by
 cases hi : Tryz.prog.info? 3 with
 | none => have := info_i; rw [hi] at this; cases this
 | some i0 =>
 have hx2 := info_i
 rw [hi] at hx2
 simp at hx2
 have INF := hide (And.intro hi hx2)
 clear hx2 hi
 have hle := h.le
 obtain ⟨oa, c, h⟩ := h
 have hB := h.lt
 have y0 : w.cell? ⟨B, 0, none⟩ = some (.slice oa l.length c) := cell_of h.hp 0
 have HA := hide h.at.1
 have AL := hide y0
 clear h
 go_enter Tryz.func58, Tryz.ntmps58
 go_wp2_with fail
 go_loopw [3, 11] (fun rv i wr => ∃ (v : Value) (k : Nat), k ≤ l.length ∧ i = .int .i64 k ∧ rv = v ∧ wr.ownsRow w.heap.size 3 1 v (abl (l.take k)).length (ic (abl (l.take k))) ∧ Below w.heap.size w wr) (fun _ i _ => l.length - (intOf i).toNat)
 case atStart => exact ⟨_, 0, Nat.zero_le _, rfl, rfl, World.ownsRow_nil _ _ _ _, Below.refl _ _⟩
 case round =>
  obtain ⟨v, k, hk, rfl, rfl, ho, hb⟩ := hrel
  by_cases hlt : k < l.length
  ·have hlt' : (k : Int) < (l.length : Int) := by omega
   obtain ⟨x, hx⟩ : ∃ x, l[k]? = some x := ⟨_, List.getElem?_eq_getElem hlt⟩
   obtain ⟨b, rfl, q0, q1, q2⟩ := HA.out.below hb k x hx
   have DT := hide (abl_take hx)
   have hdl : (abl (l.take k)).length ≤ k := by
    have h1 := abl_len (l.take k)
    have h2 := List.length_take_le k l
    omega
   clear hx
   obtain ⟨X, hX⟩ : ∃ X, X = abl (l.take k) := ⟨_, rfl⟩
   rw [← hX] at DT hdl ho
   clear hX
   have BX := below_alloc wr (.cells #[.int .i64 x.p, .int .i64 x.q, .int .i64 x.s] 114)
   by_cases hs : x.s = 0
   ·have EX : Hid (abl (l.take (k + 1)) = X ++ [(k : Int)]) := by
     show _ = _
     rw [DT.out, if_pos hs]
    rw [hs] at q2 BX
    have OW1 := own_below ho BX
    have HB1 := btr hb BX
    have BY := below_alloc (wr.alloc (.cells #[.int .i64 x.p, .int .i64 x.q, .int .i64 0] 114)) (.cells #[.int .i64 (k : Int)] 3)
    have OW := hide (own_below OW1 BY)
    have HB := hide (btr HB1 BY)
    have SR := cell_one_new (wr.alloc (.cells #[.int .i64 x.p, .int .i64 x.q, .int .i64 0] 114)) (.int .i64 (k : Int)) 3
    rw [World.size_alloc] at SR
    have SRC := hide SR
    clear OW1 HB1 BY SR ho hb BX DT hs
    go_wp2_with (at_builtin; refine wpList_append_own _ rfl _ _ 46 rfl w.heap.size 3 i0 (.int .i64 0) 1 8 Tryz.underlying46 INF.out.1 INF.out.2.1 INF.out.2.2.1 INF.out.2.2.2 rfl (by decide) _ _ _ rfl OW.out ⟨wr.heap.size + 1, 0, none⟩ 1 1 [.int .i64 (k : Int)] rfl rfl ?c1 ?c2 ?c3 ?c4 ?c5 ?_)
    case c1 => first | exact SRC.out | exact fun j u hj => hj
    case c2 => intro u hu; simp at hu; subst hu; rfl
    case c3 => unfold maxLen; omega
    case c4 => omega
    case c5 => first | exact HB.out.size | (have := HB.out.size; rw [World.size_alloc, World.size_alloc] at this; exact this)
    intro v' w3 ho hg3 _
    have B3 : Hid (Below w.heap.size w w3) := HB.out.grown hg3 HB.out.size (fun x hx => (OW.out.lt x hx).1)
    have O3 : Hid (w3.ownsRow w.heap.size 3 1 v' (abl (l.take (k + 1))).length (ic (abl (l.take (k + 1))))) := by
     show World.ownsRow _ _ _ _ _ _ _
     rw [EX.out, ic_app, List.length_append]
     exact ho
    clear ho hg3
    go_wp2_with fail
    go_roundw
    case rel =>
     first
      | exact ⟨v', k + 1, by omega, by go_num, rfl, O3.out, B3.out⟩
      | ((repeat apply Exists.intro); exact ⟨⟨v', k + 1, by omega, by go_num, rfl, O3.out, B3.out⟩, rfl⟩)
    case measure => simp [intOf]; omega
   ·have hs' : (x.s == 0) = false := by simpa using hs
    have EX : Hid (abl (l.take (k + 1)) = X) := by
     show _ = _
     rw [DT.out, if_neg hs, List.append_nil]
    have O3 : Hid ((wr.alloc (.cells #[.int .i64 x.p, .int .i64 x.q, .int .i64 x.s] 114)).ownsRow w.heap.size 3 1 u3 (abl (l.take (k + 1))).length (ic (abl (l.take (k + 1))))) := by
     show World.ownsRow _ _ _ _ _ _ _
     rw [EX.out]
     exact own_below ho BX
    have B3 := hide (btr hb BX)
    clear ho hb BX DT hs
    go_wp2_with fail
    go_roundw
    case rel =>
     first
      | exact ⟨_, k + 1, by omega, by go_num, rfl, O3.out, B3.out⟩
      | exact ⟨k + 1, by omega, by go_num, O3.out, B3.out⟩
    case measure => simp [intOf]; omega
  ·have hlt' : ¬ ((k : Int) < (l.length : Int)) := by omega
   rw [List.take_of_length_le (by omega)] at ho
   obtain ⟨oa', c', hv', hA', _⟩ := own_at ho
   subst hv'
   have HA' := hide hA'
   have HB := hide hb
   clear ho hb hA'
   go_wp2_with fail
   go_ret
   first
    | exact ⟨oa', c', rfl, HA'.out, HB.out⟩
    | exact ⟨oa', ⟨c', rfl⟩, HA'.out, HB.out⟩
set_option maxRecDepth 100000 in
set_option maxHeartbeats 1600000 in
theorem rover_any (B : Nat) (F : Nat → Prop) (l : List Mb) (w : World) (h : RC w B F l) :
 Calls Tryz.prog 45 #[.pointer (some ⟨B, 0, none⟩)] w fun r w' => r = .returned (.int .i64 (ovr l)) ∧ Below w.heap.size w w' := by
 have hle := h.le
 obtain ⟨oa, c, h⟩ := h
 have hB := h.lt
 have y0 : w.cell? ⟨B, 0, none⟩ = some (.slice oa l.length c) := cell_of h.hp 0
 have HA := hide h.at.1
 clear h
 go_enter Tryz.func45, Tryz.ntmps45
 go_wp2_with fail
 go_loopw [3, 11] (fun o i wr => ∃ (k : Nat) (n : Int), k ≤ l.length ∧ i = .int .i64 k ∧ o = .int .i64 n ∧ (hasS (l.take k) 0 = false ∧ n = if hasS (l.take k) 1 = true then 2 else 1) ∧ Below w.heap.size w wr) (fun _ i _ => l.length - (intOf i).toNat)
 case atStart => exact ⟨0, 1, Nat.zero_le _, rfl, rfl, ⟨rfl, rfl⟩, Below.refl _ _⟩
 case round =>
  obtain ⟨k, n, hk, rfl, rfl, ⟨h0, h1⟩, hb⟩ := hrel
  have H0 := hide h0
  have H1 := hide h1
  have HB := hide hb
  clear h0 h1 hb
  by_cases hlt : k < l.length
  ·have hlt' : (k : Int) < (l.length : Int) := by omega
   obtain ⟨x, hx⟩ : ∃ x, l[k]? = some x := ⟨_, List.getElem?_eq_getElem hlt⟩
   obtain ⟨b, rfl, q0, q1, q2⟩ := HA.out.below HB.out k x hx
   have T0 := hide (hasS_take hx 0)
   have T1 := hide (hasS_take hx 1)
   have HX := hide hx
   clear hx
   by_cases hs : x.s = 0
   ·rw [hs] at q2
    have EO : Hid (ovr l = 0) := by
     show _ = _
     unfold ovr
     rw [if_pos]
     unfold hasS
     rw [List.any_eq_true]
     exact ⟨x, List.mem_of_getElem? HX.out, by rw [hs]; rfl⟩
    clear hs
    go_wp2_with fail
    go_ret
    exact ⟨ret_int EO.out.symm, btr HB.out (below_alloc _ _)⟩
   ·have d0 : (x.s == 0) = false := by simpa using hs
    have N0 : Hid (hasS (l.take (k + 1)) 0 = false) := by show _ = _; rw [T0.out, H0.out, d0]; rfl
    cases d1 : x.s == 1
    ·have N1 : Hid (n = if hasS (l.take (k + 1)) 1 = true then 2 else 1) := by show _ = _; rw [T1.out, d1, Bool.or_false]; exact H1.out
     clear hs
     go_wp2_with fail
     go_roundw
     case rel => exact ⟨k + 1, n, by omega, by go_num, rfl, ⟨N0.out, N1.out⟩, btr HB.out (below_alloc _ _)⟩
     case measure => simp [intOf]; omega
    ·have N1 : Hid ((2 : Int) = if hasS (l.take (k + 1)) 1 = true then 2 else 1) := by show _ = _; rw [T1.out, d1, Bool.or_true]; rfl
     clear hs
     go_wp2_with fail
     go_roundw
     case rel => exact ⟨k + 1, 2, by omega, by go_num, rfl, ⟨N0.out, N1.out⟩, btr HB.out (below_alloc _ _)⟩
     case measure => simp [intOf]; omega
  ·have hlt' : ¬ ((k : Int) < (l.length : Int)) := by omega
   rw [List.take_of_length_le (by omega)] at H0 H1
   have EO : Hid (ovr l = n) := by
    show _ = _
    unfold ovr
    rw [H1.out, H0.out, if_neg (by simp)]
   go_wp2_with fail
   go_ret
   exact ⟨ret_int EO.out.symm, HB.out⟩
set_option maxRecDepth 100000 in
set_option maxHeartbeats 1600000 in
theorem rspawn_any (B : Nat) (F : Nat → Prop) (l : List Mb) (p : Int) (w : World) (h : RC w B F l) :
 Calls Tryz.prog 35 #[.pointer (some ⟨B, 0, none⟩), .int .i64 p] w fun r w' => r = .returned (.tuple #[.int .i64 (spV l p), .int .i64 (spE l p)]) ∧ Po 88 114 w w' B F (spL l p) := by
 unfold spV spE spL
 by_cases h1 : p < 0
 ·simp only [if_pos h1]
  have H := hide h
  clear h
  go_enter Tryz.func35, Tryz.ntmps35
  go_wp2_with fail
  go_ret2
  exact ⟨rfl, Po.of H.out (Below.refl _ _)⟩
 simp only [if_neg h1]
 have d1 : decide (p < 0) = false := decide_eq_false h1
 have hle := h.le
 obtain ⟨oa, c, h⟩ := h
 have hB := h.lt
 have y0 : w.cell? ⟨B, 0, none⟩ = some (.slice oa l.length c) := cell_of h.hp 0
 by_cases h2 : 512 ≤ l.length
 ·simp only [if_pos h2]
  have hl : l.length = 512 := by omega
  have H := hide h
  rw [hl] at y0
  clear h hl h2 hle
  go_enter Tryz.func35, Tryz.ntmps35
  go_wp2_with fail
  go_ret2
  exact ⟨rfl, Po.of ⟨_, _, H.out⟩ (Below.refl _ _)⟩
 simp only [if_neg h2]
 have e1 : decide ((512 : Int) ≤ ((l.length : Nat) : Int)) = false := decide_eq_false (by omega)
 have hl : l.length < 512 := by omega
 have BD := hide h.bd
 have b1 := below_alloc w (.cells #[.int .i64 p, .int .i64 0, .int .i64 0] 114)
 have B1 := hide b1
 have H1 := hide (h.below b1)
 have f0 : w.frozen? ⟨B, 0, none⟩ = false := frozen_of h.hp 0
 cases hi : Tryz.prog.info? 114 with
 | none => have := info_one; rw [hi] at this; cases this
 | some i0 =>
 have hx := info_one
 rw [hi] at hx
 simp at hx
 have INF := hide (And.intro hi hx)
 clear hx hi h2 hle h b1
 go_enter Tryz.func35, Tryz.ntmps35
 go_wp2_with (at_builtin; refine wpList_append_own_at _ rfl _ _ 86 rfl 0 114 i0 (tv 0 0 0) 3 24 Tryz.underlying86 INF.out.1 INF.out.2.1 INF.out.2.2.1 INF.out.2.2.2 rfl (by decide) _ _ _ rfl H1.out.ow ⟨w.heap.size, 0, none⟩ 1 1 (mc [⟨p, 0, 0⟩]) rfl rfl ?c1 ?c2 ?c3 ?c4 (Nat.zero_le _) ?_)
 case c1 => first | exact src3 w ⟨p, 0, 0⟩ _ | exact fun j u hj => hj
 case c2 => exact mc_one _
 case c3 => unfold maxLen; omega
 case c4 => omega
 intro v' w2 ho hg _ hat
 rw [← mc_app] at ho
 have ho2 : w2.ownsRow 0 114 3 v' (l ++ [Mb.mk p 0 0]).length (mc (l ++ [Mb.mk p 0 0])) := by rw [List.length_append]; exact ho
 obtain ⟨oa', c', rfl, _, _⟩ := owns_mat ho2
 have hB1 : some B ≠ (Value.slice oa l.length c).ownBlock := own_ty H1.out.ow H1.out.hp (by decide)
 have hB2 : w2.heap[B]? = some (.cells #[.slice oa l.length c] 88 (0, 0)) := (hg.block B H1.out.lt hB1).trans H1.out.hp
 have y2 : w2.cell? ⟨B, 0, none⟩ = some (.slice oa l.length c) := cell_of hB2 0
 have f2 : w2.frozen? ⟨B, 0, none⟩ = false := frozen_of hB2 0
 have PO := hide (H1.out.grow B1.out BD.out (by decide) ho2 hg (by rw [World.size_alloc]; exact hat) hl)
 clear ho ho2 hg hat hB1 hB2
 have hn2 : (l ++ [Mb.mk p 0 0]).length = l.length + 1 := by simp
 generalize (l ++ [Mb.mk p 0 0]).length = n2 at PO hn2 ⊢
 subst hn2
 go_wp2_with fail
 go_ret2
 exact ⟨by first | rfl | (simp; done) | (congr 3; omega), PO.out⟩
end Cr
end Go.Proofs.YtblfimobiibmjabGreat
namespace Go.Proofs.YtblfimobiibmjabGreat
open Go.ChangeShapes Go.WideShapes Go.ChangeAt Go.RowKit
namespace Pk
open Ba
theorem ab_no {lo hi : Int} {l : List Int} {k : Nat} (hk : k < l.length) (h : nth l k < lo ∨ hi < nth l k) : ab lo hi l = false := by
 rw [← Bool.not_eq_true]
 intro e
 have := ab_nth.1 e k hk
 omega
theorem ne_long {p d : List Int} (h : 200 < p.length ∨ 64 < d.length) : ne p d = 2 := by
 unfold ne
 have : (decide (200 < p.length) || decide (64 < d.length)) = true := by simp; omega
 rw [this]
 rfl
theorem ne_4 {p d : List Int} (h1 : p.length ≤ 200) (h2 : d.length ≤ 64) (h : ab (-1) 1000 p = false ∨ ab 0 1000 d = false) : ne p d = 4 := by
 unfold ne
 have : (decide (200 < p.length) || decide (64 < d.length)) = false := by simp; omega
 rw [this]
 rcases h with h | h <;> rw [h] <;> simp
theorem ne_0 {p d : List Int} (h1 : p.length ≤ 200) (h2 : d.length ≤ 64) (h3 : ab (-1) 1000 p = true) (h4 : ab 0 1000 d = true) : ne p d = 0 := by
 unfold ne
 have : (decide (200 < p.length) || decide (64 < d.length)) = false := by simp; omega
 rw [this, h3, h4]
 rfl
def RN (w : World) (N : Nat) (p d : List Int) (r : Ending) (w' : World) : Prop :=
 (ne p d ≠ 0 ∧ r = .returned (.tuple #[.pointer none, .int .i64 (ne p d)]) ∧ w' = w) ∨ (ne p d = 0 ∧ r = .returned (.tuple #[.pointer (some ⟨w.heap.size, 0, none⟩), .int .i64 0]) ∧ RCur w' w.heap.size N p d ∧ Below w.heap.size w w')
set_option maxHeartbeats 3200000 in
theorem rnew_any (oa ob : Option Addr) (p d : List Int) (c e N : Nat) (w : World) (nA : 0 < p.length → ∀ a, oa = some a → a.block < N) (nB : 0 < d.length → ∀ a, ob = some a → a.block < N) (hA : At w oa p) (hB : At w ob d) (hp : p.length ≤ maxLen) (hd : d.length ≤ maxLen) :
 Calls Tryz.prog 34 #[.slice oa p.length c, .slice ob d.length e] w fun r w' => RN w N p d r w' := by
 have HA := hide hA
 have HB := hide hB
 have NA := hide nA
 have NB := hide nB
 unfold maxLen at hp hd
 clear hA hB nA nB
 by_cases h1 : 200 < p.length
 ·have g1 : decide (200 < (p.length : Int)) = true := by simp; omega
  have E := hide (ne_long (p := p) (d := d) (.inl h1))
  go_enter Tryz.func34, Tryz.ntmps34
  go_wp2_with fail
  go_ret2
  exact .inl ⟨by rw [E.out]; decide, by rw [E.out]; rfl, rfl⟩
 have g1 : decide (200 < (p.length : Int)) = false := by simp; omega
 by_cases h2 : 64 < d.length
 ·have g2 : decide (64 < (d.length : Int)) = true := by simp; omega
  have E := hide (ne_long (p := p) (d := d) (.inr h2))
  go_enter Tryz.func34, Tryz.ntmps34
  go_wp2_with fail
  go_ret2
  exact .inl ⟨by rw [E.out]; decide, by rw [E.out]; rfl, rfl⟩
 have g2 : decide (64 < (d.length : Int)) = false := by simp; omega
 go_enter Tryz.func34, Tryz.ntmps34
 go_wp2_with fail
 go_loop [20] (fun i => ∃ k : Nat, k ≤ p.length ∧ i = .int .i64 k ∧ ∀ j, j < k → -1 ≤ nth p j ∧ nth p j ≤ 1000) (fun i => p.length - (intOf i).toNat)
 case atStart => exact ⟨0, Nat.zero_le _, rfl, fun j hj => absurd hj (Nat.not_lt_zero _)⟩
 case round =>
  obtain ⟨k, hk, rfl, hall⟩ := hrel
  have HE := hide hall
  clear hall
  by_cases hlt : k < p.length
  ·obtain ⟨b1, o1, rfl, hc1⟩ := HA.out k hlt
   have hlt' : (k : Int) < (p.length : Int) := by omega
   cases e1 : decide (nth p k < -1)
   ·cases e2 : decide (1000 < nth p k)
    ·have HX : Hid (-1 ≤ nth p k ∧ nth p k ≤ 1000) := by show _ ∧ _; simp at e1 e2; omega
     go_wp2_with fail
     go_round
     case rel => exact ⟨k + 1, by omega, by go_num, fun j hj => by
      by_cases e : j = k
      ·subst e; exact HX.out
      ·exact HE.out j (by omega)⟩
     case measure => simp [intOf]; omega
    ·have E : Hid (ne p d = 4) := ne_4 (by omega) (by omega) (.inl (ab_no hlt (.inr (by simpa using e2))))
     go_wp2_with fail
     go_ret2
     exact .inl ⟨by rw [E.out]; decide, by rw [E.out]; rfl, rfl⟩
   ·have E : Hid (ne p d = 4) := ne_4 (by omega) (by omega) (.inl (ab_no hlt (.inl (by simpa using e1))))
    go_wp2_with fail
    go_ret2
    exact .inl ⟨by rw [E.out]; decide, by rw [E.out]; rfl, rfl⟩
  ·have hlt' : ¬ ((k : Int) < (p.length : Int)) := by omega
   have AP : Hid (ab (-1) 1000 p = true) := ab_nth.2 fun j hj => HE.out j (by omega)
   clear HE
   go_wp2_with fail
   go_loop [33] (fun i => ∃ k : Nat, k ≤ d.length ∧ i = .int .i64 k ∧ ∀ j, j < k → 0 ≤ nth d j ∧ nth d j ≤ 1000) (fun i => d.length - (intOf i).toNat)
   case atStart => exact ⟨0, Nat.zero_le _, rfl, fun j hj => absurd hj (Nat.not_lt_zero _)⟩
   case round =>
    obtain ⟨i, hi, rfl, hall⟩ := hrel
    have HE := hide hall
    clear hall
    by_cases hil : i < d.length
    ·obtain ⟨b1, o1, rfl, hc1⟩ := HB.out i hil
     have hil' : (i : Int) < (d.length : Int) := by omega
     cases e1 : decide (nth d i < 0)
     ·cases e2 : decide (1000 < nth d i)
      ·have HX : Hid (0 ≤ nth d i ∧ nth d i ≤ 1000) := by show _ ∧ _; simp at e1 e2; omega
       go_wp2_with fail
       go_round
       case rel => exact ⟨i + 1, by omega, by go_num, fun j hj => by
        by_cases e : j = i
        ·subst e; exact HX.out
        ·exact HE.out j (by omega)⟩
       case measure => simp [intOf]; omega
      ·have E : Hid (ne p d = 4) := ne_4 (by omega) (by omega) (.inr (ab_no hil (.inr (by simpa using e2))))
       go_wp2_with fail
       go_ret2
       exact .inl ⟨by rw [E.out]; decide, by rw [E.out]; rfl, rfl⟩
     ·have E : Hid (ne p d = 4) := ne_4 (by omega) (by omega) (.inr (ab_no hil (.inl (by simpa using e1))))
      go_wp2_with fail
      go_ret2
      exact .inl ⟨by rw [E.out]; decide, by rw [E.out]; rfl, rfl⟩
    ·have hil' : ¬ ((i : Int) < (d.length : Int)) := by omega
     have AD : Hid (ab 0 1000 d = true) := ab_nth.2 fun j hj => HE.out j (by omega)
     clear HE
     go_wp2_with fail
     go_ret2
     refine .inr ⟨ne_0 (by omega) (by omega) AP.out AD.out, rfl, ?_, below_alloc _ _⟩
     exact ⟨oa, c, ob, e, 0, 0, p, d, heap_new _ _, ⟨HA.out.below (below_alloc _ _), Nat.zero_le _, rfl, by omega, NA.out⟩, HB.out.below (below_alloc _ _), Nat.zero_le _, rfl, by omega, NB.out⟩
end Pk
end Go.Proofs.YtblfimobiibmjabGreat
namespace Go.Proofs.YtblfimobiibmjabGreat
open Go.ChangeShapes Go.WideShapes Go.ChangeAt Go.RowKit
namespace Rlo
open Ba Lo
structure Tq (col col' : Nat → Nat) (w w' : World) : Prop where
 os : w'.os = w.os
 tape : w'.tape = w.tape
 output : w'.output = w.output
 size : w.heap.size ≤ w'.heap.size
 block : ∀ x, x < w.heap.size → 6 ≤ col x → w'.heap[x]? = w.heap[x]?
 old : ∀ x, x < w.heap.size → 6 ≤ col x → col' x = col x
theorem tq_of {K : Nat → Prop} {col col' : Nat → Nat} {w w' : World} (h : Ch K col col' w w') (hk : ∀ c, K c → c < 6) : Tq col col' w w' :=
 ⟨h.os, h.tape, h.output, h.size, fun x hx hc => h.block x hx (fun e => by have := hk _ e; omega), fun x hx _ => h.old x hx⟩
theorem Tq.refl (col : Nat → Nat) (w : World) : Tq col col w w := ⟨rfl, rfl, rfl, Nat.le_refl _, fun _ _ _ => rfl, fun _ _ _ => rfl⟩
theorem Tq.trans {c1 c2 c3 : Nat → Nat} {a b c : World} (h : Tq c1 c2 a b) (k : Tq c2 c3 b c) : Tq c1 c3 a c :=
 ⟨k.os.trans h.os, k.tape.trans h.tape, k.output.trans h.output, Nat.le_trans h.size k.size,
   fun x hx hc => (k.block x (Nat.lt_of_lt_of_le hx h.size) (by rw [h.old x hx hc]; exact hc)).trans (h.block x hx hc),
   fun x hx hc => (k.old x (Nat.lt_of_lt_of_le hx h.size) (by rw [h.old x hx hc]; exact hc)).trans (h.old x hx hc)⟩
theorem Tq.heap {col col' : Nat → Nat} {w w' : World} (h : Tq col col' w w') {x : Nat} {o : Obj} (hx : w.heap[x]? = some o) (hc : col x = 7) : w'.heap[x]? = some o := (h.block x (heap_lt hx) (by omega)).trans hx
theorem Tq.cell {col col' : Nat → Nat} {w w' : World} (h : Tq col col' w w') {b k : Nat} {v : Value} (hx : w.cell? ⟨b, k, none⟩ = some v) (hc : 6 ≤ col b) : w'.cell? ⟨b, k, none⟩ = some v := by
 have := h.block b (World.block_lt_of_cell? w _ hx) hc
 rw [← hx]
 simp only [World.cell?, this]
structure Hd where
 t : Int
 m : Int
 la : Option Addr
 ln : Nat
 lc : Nat
 da : Option Addr
 dn : Nat
 dc : Nat
def rcs (q : Hd) (pa : Option Addr) (n pc C B : Nat) (oa : Option Addr) (cn oc : Nat) (nm : List Int) (ta : Option Addr) (tn tc : Nat) (pk : Bool) : Array Value :=
 #[.int .i64 q.t, .int .i64 q.m, .slice pa n pc, .slice q.la q.ln q.lc, .slice q.da q.dn q.dc, .pointer (some ⟨C, 0, none⟩), .pointer (some ⟨B, 0, none⟩), .slice oa cn oc, .int .i64 (nth nm 0), .int .i64 (nth nm 1), .int .i64 (nth nm 2), .int .i64 (nth nm 3), .int .i64 (nth nm 4), .int .i64 (nth nm 5), .int .i64 (nth nm 6), .int .i64 (nth nm 7), .slice ta tn tc, .bool pk]
def vw {α : Type} (nm : List Int) (l : List (Option α)) : List (Option α) := nm.map fun n => if n < 0 then none else (l[n.toNat]?).join
theorem vw_len {α : Type} (nm : List Int) (l : List (Option α)) : (vw nm l).length = nm.length := by simp [vw]
theorem nth_get {l : List Int} {i : Nat} (h : i < l.length) : l[i]? = some (nth l i) := by
 rw [List.getElem?_eq_getElem h]
 simp [nth, List.getElem?_eq_getElem h]
theorem vw_at {α : Type} {nm : List Int} {l : List (Option α)} {i : Nat} (h : i < nm.length) : (vw nm l)[i]? = some (if nth nm i < 0 then none else (l[(nth nm i).toNat]?).join) := by
 simp [vw, nth_get h]
structure NI (nm : List Int) (k : Nat) : Prop where
 len : nm.length = 8
 lt : ∀ i, i < 8 → nth nm i < (k : Int)
 ge : ∀ i, i < 8 → -1 ≤ nth nm i
 inj : ∀ i j, i < 8 → j < 8 → 0 ≤ nth nm i → nth nm i = nth nm j → i = j
structure RX (w : World) (col : Nat → Nat) (L N C B : Nat) (FB : Nat → Prop) (q : Hd) (pa : Option Addr) (pc : Nat) (oa : Option Addr) (oc : Nat) (bs : List (Option Nat)) (Fs : Nat → Nat → Prop) (cs : List (Option St)) (ta : Option Addr) (tc : Nat) (s : Lm) : Prop where
 hp : w.heap[L]? = some (.cells (rcs q pa s.ps.length pc C B oa bs.length oc s.nm ta s.tr.length tc s.pk) 75 (0, 0))
 ps : ∃ w0, w0.heap.size ≤ N ∧ Below w0.heap.size w0 w ∧ Sh.PAt w0 pa s.ps
 cu : Pk.RCur w C N s.p s.d
 nc : N ≤ C
 cr : Cr.RC w B FB s.cr
 rw : w.ownsRow 0 116 1 (.slice oa bs.length oc) bs.length (bs.map Pe.pt)
 qs : Fk.Qs Rp.Rr w oa bs Fs cs
 ni : NI s.nm bs.length
 md : s.md = (bs.length : Int)
 vs : s.sts = vw s.nm cs
 tr : w.ownsRow 0 29 8 (.slice ta s.tr.length tc) s.tr.length (ec s.tr)
 c0 : col L = 0
 c1 : col C = 1
 c2 : ∀ x, FB x → col x = 2
 c3 : ∀ g, (Value.slice oa bs.length oc).ownBlock = some g → col g = 3
 c4 : ∀ i x, Fs i x → col x = 4
 c5 : ∀ g, (Value.slice ta s.tr.length tc).ownBlock = some g → col g = 5
 c6 : ∀ x, x < N → col x = 6
def RW (w : World) (col : Nat → Nat) (L N : Nat) (s : Lm) : Prop := ∃ C B FB q pa pc oa oc bs Fs cs ta tc, RX w col L N C B FB q pa pc oa oc bs Fs cs ta tc s
theorem rcur_keep {w w' : World} {R N : Nat} {p d : List Int} (h : Pk.RCur w R N p d) (h1 : w'.heap[R]? = w.heap[R]?) (h2 : ∀ x, x < N → x < w.heap.size → w'.heap[x]? = w.heap[x]?) : Pk.RCur w' R N p d := by
 have ak : ∀ {oa : Option Addr} {l : List Int}, At w oa l → (0 < l.length → ∀ a, oa = some a → a.block < N) → At w' oa l := by
  intro oa l h hn j hj
  obtain ⟨b, off, rfl, hc⟩ := h j hj
  refine ⟨b, off, rfl, ?_⟩
  have := h2 b (hn (by omega) _ rfl) (World.block_lt_of_cell? w _ hc)
  rw [← hc]
  simp only [World.cell?, this]
 obtain ⟨oa, ca, ob, cb, P, D, p0, d0, q0, ⟨q1, q2, q3, q4, q5⟩, q6, q7, q8, q9, q10⟩ := h
 exact ⟨oa, ca, ob, cb, P, D, p0, d0, h1.trans q0, ⟨ak q1 q5, q2, q3, q4, q5⟩, ak q6 q10, q7, q8, q9, q10⟩
theorem rcur_lt {w : World} {R N : Nat} {p d : List Int} (h : Pk.RCur w R N p d) : R < w.heap.size := by
 obtain ⟨oa, ca, ob, cb, P, D, p0, d0, q0, _⟩ := h
 exact heap_lt q0
section
variable {w w' : World} {col col' : Nat → Nat} {L N C B : Nat} {FB : Nat → Prop} {q : Hd} {pa : Option Addr} {pc : Nat} {oa : Option Addr} {oc : Nat} {bs : List (Option Nat)} {Fs : Nat → Nat → Prop} {cs : List (Option St)} {ta : Option Addr} {tc : Nat} {s : Lm} {K : Nat → Prop}
theorem RX.lw (h : RX w col L N C B FB q pa pc oa oc bs Fs cs ta tc s) : RW w col L N s := ⟨C, B, FB, q, pa, pc, oa, oc, bs, Fs, cs, ta, tc, h⟩
theorem RX.lt (h : RX w col L N C B FB q pa pc oa oc bs Fs cs ta tc s) : L < w.heap.size := heap_lt h.hp
theorem RX.blk {g : Nat} (h : RX w col L N C B FB q pa pc oa oc bs Fs cs ta tc s) (e : (Value.slice oa bs.length oc).ownBlock = some g) : g < w.heap.size := by
 obtain ⟨_, cur, hc⟩ := Cr.own_blk h.rw g e
 exact heap_lt hc
theorem RX.blt {g : Nat} (h : RX w col L N C B FB q pa pc oa oc bs Fs cs ta tc s) (e : (Value.slice ta s.tr.length tc).ownBlock = some g) : g < w.heap.size := by
 obtain ⟨_, cur, hc⟩ := Cr.own_blk h.tr g e
 exact heap_lt hc
theorem RX.keepHp (h : RX w col L N C B FB q pa pc oa oc bs Fs cs ta tc s) (c : Ch K col col' w w') (hk : ¬ K 0) : w'.heap[L]? = some (.cells (rcs q pa s.ps.length pc C B oa bs.length oc s.nm ta s.tr.length tc s.pk) 75 (0, 0)) :=
 (c.block L h.lt (by rw [h.c0]; exact hk)).trans h.hp
theorem RX.keepPs (h : RX w col L N C B FB q pa pc oa oc bs Fs cs ta tc s) (c : Ch K col col' w w') (hk : ¬ K 6) : ∃ w0, w0.heap.size ≤ N ∧ Below w0.heap.size w0 w' ∧ Sh.PAt w0 pa s.ps := by
 obtain ⟨w0, h0, b0, p0⟩ := h.ps
 refine ⟨w0, h0, ⟨c.os.trans b0.os, c.tape.trans b0.tape, c.output.trans b0.output, Nat.le_trans b0.size c.size, fun x hx => ?_⟩, p0⟩
 exact (c.block x (Nat.lt_of_lt_of_le hx b0.size) (by rw [h.c6 x (Nat.lt_of_lt_of_le hx h0)]; exact hk)).trans (b0.block x hx)
theorem RX.keepCu (h : RX w col L N C B FB q pa pc oa oc bs Fs cs ta tc s) (c : Ch K col col' w w') (hk : ¬ K 1) (h6 : ¬ K 6) : Pk.RCur w' C N s.p s.d :=
 rcur_keep h.cu (c.block C (rcur_lt h.cu) (by rw [h.c1]; exact hk)) (fun x hx hl => c.block x hl (by rw [h.c6 x hx]; exact h6))
theorem RX.keepCr (h : RX w col L N C B FB q pa pc oa oc bs Fs cs ta tc s) (c : Ch K col col' w w') (hk : ¬ K 2) : Cr.RC w' B FB s.cr := by
 obtain ⟨oa, cc, hw⟩ := h.cr
 exact ⟨oa, cc, hw.sm fun x hx => c.block x (hw.bd x hx) (by rw [h.c2 x hx]; exact hk)⟩
theorem RX.keepRw (h : RX w col L N C B FB q pa pc oa oc bs Fs cs ta tc s) (c : Ch K col col' w w') (hk : ¬ K 3) : w'.ownsRow 0 116 1 (.slice oa bs.length oc) bs.length (bs.map Pe.pt) :=
 Cr.own_keep h.rw fun g e => c.block g (h.blk e) (by rw [h.c3 g e]; exact hk)
theorem own_row {e : TypeId} {base : Nat} (h : w.ownsRow base e 1 (.slice oa bs.length oc) bs.length (bs.map Pe.pt)) : Fk.PR w oa bs ∧ ∀ a, oa = some a → (Value.slice oa bs.length oc).ownBlock = some a.block := by
 rcases h.2 with ⟨e0, h0⟩ | ⟨g, cap, cur, e0, hbase, hg, hc, _, hcs, htk⟩
 ·obtain rfl := List.eq_nil_of_length_eq_zero h0
  cases e0
  exact ⟨fun i o hi => by simp at hi, fun a e => by cases e⟩
 ·cases e0
  refine ⟨fun k o hk => ?_, fun a e => by cases e; rfl⟩
  have hkl := (List.getElem?_eq_some_iff.1 hk).1
  refine ⟨g, 0, rfl, ?_⟩
  have q : (bs.map Pe.pt)[k]? = some (Pe.pt o) := by simp [hk]
  rw [← htk, List.getElem?_take_of_lt (by omega)] at q
  rw [Nat.zero_add, cell_of hg]
  simpa using q
theorem RX.keepQs (h : RX w col L N C B FB q pa pc oa oc bs Fs cs ta tc s) (c : Ch K col col' w w') (hk : ¬ K 4) (h3 : ¬ K 3) : Fk.Qs Rp.Rr w' oa bs Fs cs :=
 h.qs.keep Fk.frR (fun i x hx => c.block x (h.qs.bd i x hx) (by rw [h.c4 i x hx]; exact hk)) (fun a e hl => c.block _ hl (by rw [h.c3 _ ((own_row h.rw).2 a e)]; exact h3))
theorem RX.keepTr (h : RX w col L N C B FB q pa pc oa oc bs Fs cs ta tc s) (c : Ch K col col' w w') (hk : ¬ K 5) : w'.ownsRow 0 29 8 (.slice ta s.tr.length tc) s.tr.length (ec s.tr) :=
 Cr.own_keep h.tr fun g e => c.block g (h.blt e) (by rw [h.c5 g e]; exact hk)
theorem RX.k0 (h : RX w col L N C B FB q pa pc oa oc bs Fs cs ta tc s) (c : Ch K col col' w w') : col' L = 0 := (c.old L h.lt).trans h.c0
theorem RX.k1 (h : RX w col L N C B FB q pa pc oa oc bs Fs cs ta tc s) (c : Ch K col col' w w') : col' C = 1 := (c.old C (rcur_lt h.cu)).trans h.c1
theorem RX.k2 (h : RX w col L N C B FB q pa pc oa oc bs Fs cs ta tc s) (c : Ch K col col' w w') : ∀ x, FB x → col' x = 2 := fun x hx => (c.old x (h.cr.bd x hx)).trans (h.c2 x hx)
theorem RX.k3 (h : RX w col L N C B FB q pa pc oa oc bs Fs cs ta tc s) (c : Ch K col col' w w') : ∀ g, (Value.slice oa bs.length oc).ownBlock = some g → col' g = 3 := fun g e => (c.old g (h.blk e)).trans (h.c3 g e)
theorem RX.k4 (h : RX w col L N C B FB q pa pc oa oc bs Fs cs ta tc s) (c : Ch K col col' w w') : ∀ i x, Fs i x → col' x = 4 := fun i x hx => (c.old x (h.qs.bd i x hx)).trans (h.c4 i x hx)
theorem RX.k5 (h : RX w col L N C B FB q pa pc oa oc bs Fs cs ta tc s) (c : Ch K col col' w w') : ∀ g, (Value.slice ta s.tr.length tc).ownBlock = some g → col' g = 5 := fun g e => (c.old g (h.blt e)).trans (h.c5 g e)
theorem RX.k6 (h : RX w col L N C B FB q pa pc oa oc bs Fs cs ta tc s) (c : Ch K col col' w w') : ∀ x, x < N → col' x = 6 := fun x hx => (c.old x (by have := rcur_lt h.cu; have := h.nc; omega)).trans (h.c6 x hx)
theorem RX.keep (h : RX w col L N C B FB q pa pc oa oc bs Fs cs ta tc s) (c : Ch (fun c => c = 7) col col' w w') : RX w' col' L N C B FB q pa pc oa oc bs Fs cs ta tc s :=
 ⟨h.keepHp c (by simp), h.keepPs c (by simp), h.keepCu c (by simp) (by simp), h.nc, h.keepCr c (by simp), h.keepRw c (by simp), h.keepQs c (by simp) (by simp), h.ni, h.md, h.vs, h.keepTr c (by simp), h.k0 c, h.k1 c, h.k2 c, h.k3 c, h.k4 c, h.k5 c, h.k6 c⟩
theorem RX.below (h : RX w col L N C B FB q pa pc oa oc bs Fs cs ta tc s) (hb : Below w.heap.size w w') : ∃ col', RX w' col' L N C B FB q pa pc oa oc bs Fs cs ta tc s ∧ Tq col col' w w' ∧ ∀ x, w.heap.size ≤ x → col' x = 7 := by
 obtain ⟨col', o, _, n⟩ := ext_ex w col (fun _ => False) 7
 exact ⟨col', h.keep (ch_below _ hb o), tq_of (ch_below (fun _ => False) hb o) (fun _ e => e.elim), fun x hx => n x hx (fun h => h)⟩
theorem RX.drew (h : RX w col L N C B FB q pa pc oa oc bs Fs cs ta tc s) : RX w.drew col L N C B FB q pa pc oa oc bs Fs cs ta tc s := h.keep (ch_below _ (bdrew1 w) (fun _ _ => rfl))
theorem RX.crew {l : List Mb} (h : RX w col L N C B FB q pa pc oa oc bs Fs cs ta tc s) (p : Cr.Po 88 114 w w' B FB l) : ∃ FB' col', RX w' col' L N C B FB' q pa pc oa oc bs Fs cs ta tc { s with cr := l } ∧ Tq col col' w w' := by
 obtain ⟨F', p, kf, nw⟩ := p
 obtain ⟨col', o, n, _⟩ := ext_ex w col F' 2
 have c : Ch (fun c => c = 2) col col' w w' := ⟨kf.os, kf.tape, kf.output, kf.size, fun x hx hc => kf.block x hx (fun e => hc (h.c2 x e)), o⟩
 refine ⟨F', col', ⟨h.keepHp c (by simp), h.keepPs c (by simp), h.keepCu c (by simp) (by simp), h.nc, p, h.keepRw c (by simp), h.keepQs c (by simp) (by simp), h.ni, h.md, h.vs, h.keepTr c (by simp), h.k0 c, h.k1 c, fun x hx => ?_, h.k3 c, h.k4 c, h.k5 c, h.k6 c⟩, tq_of c (fun _ (e : _ = _) => by omega)⟩
 rcases Nat.lt_or_ge x w.heap.size with e | e
 ·rcases nw x hx with z | z
  ·exact h.k2 c x z
  ·omega
 ·exact n x e hx
theorem RX.cursor {p d : List Int} (h : RX w col L N C B FB q pa pc oa oc bs Fs cs ta tc s) (r : Pk.RCur w' C N p d) (kb : KB C w w') : ∃ col', RX w' col' L N C B FB q pa pc oa oc bs Fs cs ta tc { s with p := p, d := d } ∧ Tq col col' w w' := by
 obtain ⟨col', o, _, _⟩ := ext_ex w col (fun _ => False) 7
 have c : Ch (fun c => c = 1) col col' w w' := ⟨kb.os, kb.tape, kb.output, kb.size, fun x hx hc => kb.block x hx (fun e => hc (by rw [e]; exact h.c1)), o⟩
 exact ⟨col', ⟨h.keepHp c (by simp), h.keepPs c (by simp), r, h.nc, h.keepCr c (by simp), h.keepRw c (by simp), h.keepQs c (by simp) (by simp), h.ni, h.md, h.vs, h.keepTr c (by simp), h.k0 c, h.k1 c, h.k2 c, h.k3 c, h.k4 c, h.k5 c, h.k6 c⟩, tq_of c (fun _ (e : _ = _) => by omega)⟩
theorem RX.panic (h : RX w col L N C B FB q pa pc oa oc bs Fs cs ta tc s) : RX (w.setCell ⟨L, 17, none⟩ (.bool true)) col L N C B FB q pa pc oa oc bs Fs cs ta tc { s with pk := true } ∧ Tq col col w (w.setCell ⟨L, 17, none⟩ (.bool true)) := by
 have kb := (KB.refl L w).setCell 17 (.bool true)
 have c : Ch (fun c => c = 0) col col w (w.setCell ⟨L, 17, none⟩ (.bool true)) := ⟨kb.os, kb.tape, kb.output, kb.size, fun x hx hc => kb.block x hx (fun e => hc (by rw [e]; exact h.c0)), fun _ _ => rfl⟩
 refine ⟨⟨?_, h.keepPs c (by simp), h.keepCu c (by simp) (by simp), h.nc, h.keepCr c (by simp), h.keepRw c (by simp), h.keepQs c (by simp) (by simp), h.ni, h.md, h.vs, h.keepTr c (by simp), h.k0 c, h.k1 c, h.k2 c, h.k3 c, h.k4 c, h.k5 c, h.k6 c⟩, tq_of c (fun _ (e : _ = _) => by omega)⟩
 rw [Ba.heap_setCell_same h.hp]
 rfl
theorem RX.temp {z i : Nat} {v : Value} (h : RX w col L N C B FB q pa pc oa oc bs Fs cs ta tc s) (hz : col z = 7) : RX (w.setCell ⟨z, i, none⟩ v) col L N C B FB q pa pc oa oc bs Fs cs ta tc s := by
 have kb := (KB.refl z w).setCell i v
 exact h.keep ⟨kb.os, kb.tape, kb.output, kb.size, fun x hx hc => kb.block x hx (fun e => hc (by rw [e]; exact hz)), fun _ _ => rfl⟩
end
end Rlo
end Go.Proofs.YtblfimobiibmjabGreat
