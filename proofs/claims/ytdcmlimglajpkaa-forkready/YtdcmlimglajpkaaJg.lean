/- Package fork: Leave, and the reference's Leave and Ready, over this seat's program. -/
import Derived.Test.YtdcmlimglajpkaaJd
namespace Go.Proofs.Ytdcmlimglajpkaa
open Go.ChangeShapes Go.WideShapes Go.ChangeAt Go.RowKit
namespace Fk
open Ba Pe _root_.Go.Proofs.Ytdcmlimglajpkaa.Pi Rp

def dropO (g : Int) (o : Option St) : Option St := o.map fun st => dropS st g
def dropM (g : Int) (o : Option St) : Int := match o with | none => 0 | some st => dropN st g
/-- all of g are gone -/
def leaveS (g : Int) (sts : List (Option St)) : List (Option St) := sts.map (dropO g)
def leaveN (g : Int) (sts : List (Option St)) : Int := (sts.map (dropM g)).foldl (· + ·) 0
/-- the first k have left -/
def lvS (g : Int) (sts : List (Option St)) (k : Nat) : List (Option St) := (sts.take k).map (dropO g) ++ sts.drop k
def lvN (g : Int) (sts : List (Option St)) (k : Nat) : Int := ((sts.take k).map (dropM g)).foldl (· + ·) 0
theorem lv_zero (g : Int) (sts : List (Option St)) : lvS g sts 0 = sts := by simp [lvS]
theorem lv_all (g : Int) (sts : List (Option St)) : lvS g sts sts.length = leaveS g sts := by simp [lvS, leaveS]
theorem lvN_all (g : Int) (sts : List (Option St)) : lvN g sts sts.length = leaveN g sts := by simp [lvN, leaveN]
theorem lvN_succ (g : Int) (sts : List (Option St)) (k : Nat) (o : Option St) (h : sts[k]? = some o) : lvN g sts (k + 1) = lvN g sts k + dropM g o := by
  unfold lvN
  rw [List.take_add_one, h, List.map_append, List.foldl_append]
  rfl
theorem lv_at (g : Int) (sts : List (Option St)) (k : Nat) : (lvS g sts k)[k]? = sts[k]? := by
  unfold lvS
  by_cases h : k < sts.length
  · rw [List.getElem?_append_right (by simp; omega)]
    simp [Nat.min_eq_left (Nat.le_of_lt h)]
  · rw [List.getElem?_eq_none (by simp; omega), List.getElem?_eq_none (by omega)]
theorem lv_succ (g : Int) (sts : List (Option St)) (k : Nat) (o : Option St) (h : sts[k]? = some o) : lvS g sts (k + 1) = (lvS g sts k).set k (dropO g o) := by
  have hk : k < sts.length := (List.getElem?_eq_some_iff.1 h).1
  unfold lvS
  rw [List.set_append_right _ _ (by simp; omega)]
  rw [List.take_add_one, h, List.map_append, List.append_assoc]
  congr 1
  rw [List.drop_eq_getElem_cons hk, List.length_map, List.length_take, Nat.min_eq_left (Nat.le_of_lt hk), Nat.sub_self, List.set_cons_zero]
  rfl
theorem lv_none (g : Int) (sts : List (Option St)) (k : Nat) (h : sts[k]? = some none) : lvS g sts (k + 1) = lvS g sts k := by
  rw [lv_succ g sts k none h]
  apply List.ext_getElem?
  intro i
  rw [List.getElem?_set]
  by_cases e : k = i
  · subst e
    have hk : k < (lvS g sts k).length := by
      have := (List.getElem?_eq_some_iff.1 h).1
      simp [lvS]
      omega
    rw [if_pos rfl, if_pos hk, lv_at, h]
    rfl
  · rw [if_neg e]
theorem dropM_bd {g : Int} {st : St} (h1 : st.snd.length ≤ 1024) (h2 : st.rcv.length ≤ 1024) : 0 ≤ dropM g (some st) ∧ dropM g (some st) ≤ 2048 := by
  have a := dr_len g st.snd
  have b := dr_len g st.rcv
  simp only [dropM, dropN]
  omega
set_option maxRecDepth 100000 in
set_option maxHeartbeats 3200000 in
theorem leave_any (g : Int) (oa : Option Addr) (bs : List (Option Nat)) (cp : Nat) (Fs : Nat → Nat → Prop) (sts : List (Option St)) (w : World) (h : Qs Pp w oa bs Fs sts) (hl : bs.length ≤ 1000) :
    Calls Try.prog 14 #[.int .i64 g, .slice oa bs.length cp] w fun r w' => r = .returned (.int .i64 (leaveN g sts)) ∧ Rz Pp w w' oa bs Fs (leaveS g sts) := by
  have H := hide h
  clear h
  go_enter Try.func14, Try.ntmps14
  go_wp2_with fail
  go_loopw [5, 9] (fun s i wr => ∃ (k : Nat) (n : Int), k ≤ bs.length ∧ i = .int .i64 k ∧ s = .int .i64 n ∧ n = lvN g sts k ∧ (0 ≤ n ∧ n ≤ 2048 * (k : Int)) ∧ Rz Pp w wr oa bs Fs (lvS g sts k)) (fun _ i _ => bs.length - (intOf i).toNat)
  case atStart => exact ⟨0, 0, Nat.zero_le _, rfl, rfl, rfl, ⟨by omega, by omega⟩, by rw [lv_zero]; exact Rz.same frP H.out (Below.refl _ _)⟩
  case round =>
    obtain ⟨k, n, hk, rfl, rfl, hn, hnb, rz⟩ := hrel
    have HN := hide hn
    clear hn
    by_cases hlt : k < bs.length
    · have hlt' : (k : Int) < (bs.length : Int) := by omega
      obtain ⟨Fs1, n1, q1, k1⟩ := rz
      obtain ⟨o, ho⟩ : ∃ o, bs[k]? = some o := ⟨_, List.getElem?_eq_getElem hlt⟩
      obtain ⟨b, off, e, hc⟩ := q1.row k o ho
      subst e
      have Q1 := hide q1
      have N1 := hide n1
      have K1 := hide k1
      cases o with
      | none =>
        have hs := q1.non k ho
        rw [lv_at] at hs
        have E1 := hide (lv_none g sts k hs)
        have E2 := hide (lvN_succ g sts k none hs)
        simp only [pt, Option.map_none] at hc
        clear q1 n1 k1 ho hs
        go_wp2_with fail
        refine (Pi.drop_nil g _).mono ?_
        rintro r w2 ⟨rfl, rfl⟩
        go_wp2_with fail
        go_roundw
        case rel => exact ⟨k + 1, n, by omega, by go_num, by simp, by rw [E2.out, ← HN.out]; simp [dropM], ⟨hnb.1, by omega⟩, by rw [E1.out]; exact ⟨Fs1, N1.out, Q1.out, K1.out⟩⟩
        case measure => simp [intOf]; omega
      | some B =>
        obtain ⟨st, hs, q⟩ := q1.one k B ho
        have hs' := hs
        rw [lv_at] at hs'
        have E1 := hide (lv_succ g sts k (some st) hs')
        have E2 := hide (lvN_succ g sts k (some st) hs')
        have HO := hide ho
        have DP := hide (Pi.drop_any B _ st g _ q)
        have BDD : Hid (0 ≤ dropN st g ∧ dropN st g ≤ 2048) := by
          obtain ⟨R0, S0, Q0, FS0, FQ0, po⟩ := q
          exact dropM_bd po.ps.le po.pq.le
        simp only [pt, Option.map_some] at hc
        clear q1 n1 k1 ho hs hs' q
        have hd1 := BDD.out.1
        have hd2 := BDD.out.2
        have ED : Hid (dropM g (some st) = dropN st g) := rfl
        generalize dropN st g = dd at DP hd1 hd2 ED
        go_wp2_with fail
        refine DP.out.mono ?_
        rintro r w2 ⟨rfl, k2, F2, n2, p2⟩
        have R2 := hide (Rz.trans N1.out K1.out (Rz.step frP Q1.out (Below.refl _ _) HO.out k2 n2 p2))
        clear k2 n2 p2
        go_wp2_with fail
        go_roundw
        case rel => exact ⟨k + 1, n + dd, by omega, by go_num, by first | rfl | go_num, by rw [E2.out, ← HN.out, ED.out], ⟨by omega, by omega⟩, by rw [E1.out]; exact R2.out⟩
        case measure => simp [intOf]; omega
    · have hlt' : ¬ ((k : Int) < (bs.length : Int)) := by omega
      obtain rfl : k = bs.length := by omega
      have HE := hide H.out.len
      rw [HE.out, lv_all] at rz
      have RZ := hide rz
      clear rz
      go_wp2_with fail
      go_ret
      exact ⟨ret_int (by rw [HN.out, HE.out, lvN_all]), RZ.out⟩
set_option maxRecDepth 100000 in
set_option maxHeartbeats 3200000 in
theorem rleave_any (g : Int) (oa : Option Addr) (bs : List (Option Nat)) (cp : Nat) (Fs : Nat → Nat → Prop) (sts : List (Option St)) (w : World) (h : Qs Rr w oa bs Fs sts) (hl : bs.length ≤ 1000) :
    Calls Try.prog 15 #[.int .i64 g, .slice oa bs.length cp] w fun r w' => r = .returned (.int .i64 (leaveN g sts)) ∧ Rz Rr w w' oa bs Fs (leaveS g sts) := by
  have H := hide h
  clear h
  go_enter Try.func15, Try.ntmps15
  go_wp2_with fail
  go_loopw [5, 10] (fun s i wr => ∃ (k : Nat) (n : Int), k ≤ bs.length ∧ i = .int .i64 k ∧ s = .int .i64 n ∧ n = lvN g sts k ∧ (0 ≤ n ∧ n ≤ 2048 * (k : Int)) ∧ Rz Rr w wr oa bs Fs (lvS g sts k)) (fun _ i _ => bs.length - (intOf i).toNat)
  case atStart => exact ⟨0, 0, Nat.zero_le _, rfl, rfl, rfl, ⟨by omega, by omega⟩, by rw [lv_zero]; exact Rz.same frR H.out (Below.refl _ _)⟩
  case round =>
    obtain ⟨k, n, hk, rfl, rfl, hn, hnb, rz⟩ := hrel
    have HN := hide hn
    clear hn
    by_cases hlt : k < bs.length
    · have hlt' : (k : Int) < (bs.length : Int) := by omega
      obtain ⟨Fs1, n1, q1, k1⟩ := rz
      obtain ⟨o, ho⟩ : ∃ o, bs[k]? = some o := ⟨_, List.getElem?_eq_getElem hlt⟩
      obtain ⟨b, off, e, hc⟩ := q1.row k o ho
      subst e
      have Q1 := hide q1
      have N1 := hide n1
      have K1 := hide k1
      cases o with
      | none =>
        have hs := q1.non k ho
        rw [lv_at] at hs
        have E1 := hide (lv_none g sts k hs)
        have E2 := hide (lvN_succ g sts k none hs)
        simp only [pt, Option.map_none] at hc
        clear q1 n1 k1 ho hs
        go_wp2_with fail
        go_roundw
        case rel => exact ⟨k + 1, n, by omega, by go_num, by simp, by rw [E2.out, ← HN.out]; simp [dropM], ⟨hnb.1, by omega⟩, by rw [E1.out]; exact ⟨Fs1, N1.out, Q1.out, K1.out⟩⟩
        case measure => simp [intOf]; omega
      | some B =>
        obtain ⟨st, hs, q⟩ := q1.one k B ho
        have hs' := hs
        rw [lv_at] at hs'
        have E1 := hide (lv_succ g sts k (some st) hs')
        have E2 := hide (lvN_succ g sts k (some st) hs')
        have HO := hide ho
        have DP := hide (rdrop_any B _ st g _ q)
        have BDD : Hid (0 ≤ dropN st g ∧ dropN st g ≤ 2048) := by
          obtain ⟨_, _, _, ro⟩ := q
          exact dropM_bd ro.les ro.leq
        simp only [pt, Option.map_some] at hc
        clear q1 n1 k1 ho hs hs' q
        have hd1 := BDD.out.1
        have hd2 := BDD.out.2
        have ED : Hid (dropM g (some st) = dropN st g) := rfl
        generalize dropN st g = dd at DP hd1 hd2 ED
        go_wp2_with fail
        refine DP.out.mono ?_
        rintro r w2 ⟨rfl, k2, F2, n2, p2⟩
        have R2 := hide (Rz.trans N1.out K1.out (Rz.step frR Q1.out (Below.refl _ _) HO.out k2 n2 p2))
        clear k2 n2 p2
        go_wp2_with fail
        go_roundw
        case rel => exact ⟨k + 1, n + dd, by omega, by go_num, by first | rfl | go_num, by rw [E2.out, ← HN.out, ED.out], ⟨by omega, by omega⟩, by rw [E1.out]; exact R2.out⟩
        case measure => simp [intOf]; omega
    · have hlt' : ¬ ((k : Int) < (bs.length : Int)) := by omega
      obtain rfl : k = bs.length := by omega
      have HE := hide H.out.len
      rw [HE.out, lv_all] at rz
      have RZ := hide rz
      clear rz
      go_wp2_with fail
      go_ret
      exact ⟨ret_int (by rw [HN.out, HE.out, lvN_all]), RZ.out⟩
def cP (l : List Ca) (sts : List (Option St)) : Nat → Bool := fun i => match l[i]? with | none => false | some c => crdy sts c
set_option maxRecDepth 100000 in
set_option maxHeartbeats 3200000 in
theorem rreadyL_any (oc : Option Addr) (l : List Ca) (cc : Nat) (oa : Option Addr) (bs : List (Option Nat)) (cp : Nat) (Fs : Nat → Nat → Prop) (sts : List (Option St)) (w : World) (hC : CaAt w oc l) (h : Qs Rr w oa bs Fs sts) (hl : l.length ≤ 1000) :
    Calls Try.prog 13 #[.slice oc l.length cc, .slice oa bs.length cp] w fun r w' => ∃ ob d, r = .returned (.slice ob (rdyL l sts).length d) ∧ w'.ownsRow w.heap.size 3 1 (.slice ob (rdyL l sts).length d) (rdyL l sts).length (ic (rdyL l sts)) ∧ Below w.heap.size w w' := by
  cases hi : Try.prog.info? 3 with
  | none => have := info_i; rw [hi] at this; cases this
  | some i0 =>
  have hx2 := info_i
  rw [hi] at hx2
  simp at hx2
  have INF := hide (And.intro hi hx2)
  clear hx2 hi
  have HC := hide hC
  have HQ := hide h
  clear hC h
  obtain ⟨P, hP0⟩ : ∃ P : Nat → Bool, P = cP l sts := ⟨_, rfl⟩
  rw [show rdyL l sts = ps (cP l sts) l.length from rfl, ← hP0]
  have HP0 := hide hP0
  clear hP0
  go_enter Try.func13, Try.ntmps13
  go_wp2_with fail
  go_loopw [5, 11] (fun rv i wr => ∃ (v : Value) (k : Nat), k ≤ l.length ∧ i = .int .i64 k ∧ rv = v ∧ wr.ownsRow w.heap.size 3 1 v (ps P k).length (ic (ps P k)) ∧ Below w.heap.size w wr) (fun _ i _ => l.length - (intOf i).toNat)
  case atStart => exact ⟨_, 0, Nat.zero_le _, rfl, rfl, World.ownsRow_nil _ _ _ _, Below.refl _ _⟩
  case round =>
    obtain ⟨v, k, hk, rfl, rfl, ho, hb⟩ := hrel
    by_cases hlt : k < l.length
    · have hlt' : (k : Int) < (l.length : Int) := by omega
      obtain ⟨x, hx⟩ : ∃ x, l[k]? = some x := ⟨_, List.getElem?_eq_getElem hlt⟩
      obtain ⟨b, off, rfl, q0, q1, q2⟩ := HC.out.below hb k x hx
      have SU := hide (ps_succ P k)
      have hpl := ps_len P k
      have PK : Hid (P k = crdy sts x) := by show _ = _; rw [HP0.out]; unfold cP; simp only [hx]
      have BX := below_alloc wr (.cells #[.bool x.sd, .int .i64 x.ch, .int .i64 x.v] 32)
      have XN := hide (heap_new wr (.cells #[.bool x.sd, .int .i64 x.ch, .int .i64 x.v] 32))
      have HB := hide (btr hb BX)
      have OW := hide (own_below ho BX)
      have Q1 := hide (HQ.out.below frR HB.out)
      have NM := hide (rnamed_any oa bs x.ch cp _ Q1.out.row)
      clear hb hx BX ho
      obtain ⟨X, hX⟩ : ∃ X, X = ps P k := ⟨_, rfl⟩
      rw [← hX] at SU hpl OW
      clear hX
      unfold crdy at PK
      rcases Q1.out.nm x.ch with ⟨e1, e2⟩ | ⟨B, st, e1, e2, _, _, _, _, q⟩
      · rw [e2] at PK
        rw [e1] at NM
        simp only [pt, Option.map_none] at NM
        have EX : Hid (ps P (k + 1) = X) := by show _ = _; rw [SU.out, PK.out]; simp
        clear e1 e2 Q1
        go_wp2_with fail
        generalize wr.alloc (.cells #[.bool x.sd, .int .i64 x.ch, .int .i64 x.v] 32) = W1 at XN HB OW NM ⊢
        generalize wr.heap.size = A at XN ⊢
        refine NM.out.mono ?_
        rintro r z2 ⟨rfl, rfl⟩
        have O3 : Hid (z2.ownsRow w.heap.size 3 1 u5 (ps P (k + 1)).length (ic (ps P (k + 1)))) := by
          show World.ownsRow _ _ _ _ _ _ _
          rw [EX.out]
          exact OW.out
        go_wp2_with fail
        go_roundw
        case rel =>
          first
            | exact ⟨_, k + 1, by omega, by go_num, rfl, O3.out, HB.out⟩
            | exact ⟨k + 1, by omega, by go_num, O3.out, HB.out⟩
        case measure => simp [intOf]; omega
      · rw [e2] at PK
        rw [e1] at NM
        simp only [pt, Option.map_some] at NM
        simp only at PK
        have RD := hide (rready_any B _ st x.sd _ q)
        clear e1 e2 Q1 q
        go_wp2_with fail
        generalize wr.alloc (.cells #[.bool x.sd, .int .i64 x.ch, .int .i64 x.v] 32) = W1 at XN HB OW NM RD ⊢
        generalize wr.heap.size = A at XN ⊢
        refine NM.out.mono ?_
        rintro r z1 ⟨rfl, rfl⟩
        have e0 : z1.cell? ⟨A, 0, none⟩ = some (.bool x.sd) := cell_of XN.out 0
        go_wp2_with fail
        refine RD.out.mono ?_
        rintro r z2 ⟨rfl, k2⟩
        have HB2 := hide (btr HB.out k2)
        have OW2 := hide (own_below OW.out k2)
        clear k2 HB OW NM RD e0 XN
        cases hP : rdy st x.sd
        · have EX : Hid (ps P (k + 1) = X) := by show _ = _; rw [SU.out, PK.out, hP]; simp
          have O3 : Hid (z2.ownsRow w.heap.size 3 1 u5 (ps P (k + 1)).length (ic (ps P (k + 1)))) := by
            show World.ownsRow _ _ _ _ _ _ _
            rw [EX.out]
            exact OW2.out
          go_wp2_with fail
          go_roundw
          case rel =>
            first
              | exact ⟨_, k + 1, by omega, by go_num, rfl, O3.out, HB2.out⟩
              | exact ⟨k + 1, by omega, by go_num, O3.out, HB2.out⟩
          case measure => simp [intOf]; omega
        · have EX : Hid (ps P (k + 1) = X ++ [(k : Int)]) := by show _ = _; rw [SU.out, PK.out, hP]; simp
          have BY := below_alloc z2 (.cells #[.int .i64 (k : Int)] 3)
          have OW3 := hide (own_below OW2.out BY)
          have HB3 := hide (btr HB2.out BY)
          have SRC := hide (cell_one_new z2 (.int .i64 (k : Int)) 3)
          clear BY OW2 HB2
          go_wp2_with (at_builtin; refine wpList_append_own _ rfl _ _ 22 rfl w.heap.size 3 i0 (.int .i64 0) 1 8 Try.underlying22 INF.out.1 INF.out.2.1 INF.out.2.2.1 INF.out.2.2.2 rfl (by decide) _ _ _ rfl OW3.out ⟨z2.heap.size, 0, none⟩ 1 1 [.int .i64 (k : Int)] rfl rfl ?c1 ?c2 ?c3 ?c4 ?c5 ?_)
          case c1 => exact SRC.out
          case c2 => exact ic_one [(k : Int)]
          case c3 => unfold maxLen; omega
          case c4 => omega
          case c5 => exact HB3.out.size
          intro v' w3 ho hg3 _
          have B3 : Hid (Below w.heap.size w w3) := HB3.out.grown hg3 HB3.out.size (fun x hx => (OW3.out.lt x hx).1)
          have O3 : Hid (w3.ownsRow w.heap.size 3 1 v' (ps P (k + 1)).length (ic (ps P (k + 1)))) := by
            show World.ownsRow _ _ _ _ _ _ _
            rw [EX.out, ic_app, List.length_append]
            exact ho
          clear ho hg3
          go_wp2_with fail
          go_roundw
          case rel =>
            first
              | exact ⟨v', k + 1, by omega, by go_num, rfl, O3.out, B3.out⟩
              | ((repeat apply Exists.intro); exact ⟨⟨v', k + 1, by omega, by go_num, rfl, O3.out, B3.out⟩, rfl⟩)
          case measure => simp [intOf]; omega
    · have hlt' : ¬ ((k : Int) < (l.length : Int)) := by omega
      obtain rfl : k = l.length := by omega
      obtain ⟨oa', c', hv', _, _⟩ := own_at ho
      subst hv'
      have HO := hide ho
      have HB := hide hb
      clear ho hb
      go_wp2_with fail
      go_ret
      exact ⟨oa', c', rfl, HO.out, HB.out⟩
end Fk
end Go.Proofs.Ytdcmlimglajpkaa
