/- What slots keep is their own: whatever is done afterwards to a clock that was given, fetched or looked at, the receive fetches what was sent (15.1). -/
import Derived.Test.YtbangoghekefcaaTf
import Derived.Test.YtbangoghekefcaaBo
import Derived.ShutString
import Derived.ChangeOld
import Derived.Below
namespace Go.Proofs.Ytbangoghekefcaa.slotsOwn
open Go.ChangeShapes Go.WideShapes Go.ChangeAt Go.RowKit
open Go.ChangeMaps (open_string shut_string)
open Sl Ck

theorem own : ownKnob Try.prog.godebug = none := by kernel_rfl
theorem laidOut : laidOutB Try.prog = true := by kernel_rfl

/-- what was there, and a row -/
def Y2 (w : World) (R : Nat) : Nat → Prop := fun k => k < w.heap.size ∨ k = R
set_option maxRecDepth 100000 in
set_option maxHeartbeats 6400000 in
theorem core {w : World} (n : Int) (oa : Option Addr) (l : List Int) (c : Nat) (hA0 : Ba.At w oa l) (hlc : l.length ≤ c) (hcm : c ≤ maxLen) (tid : Int) :
    Calls Try.prog 5 #[.int .i64 n, .slice oa l.length c, .int .i64 tid] w fun r w' => r = .returned (.bool true) ∧ Below w.heap.size w w' := by
  have hA : Ck.At w oa l := hA0
  have HA := hide hA
  clear hA hA0
  have OF := hide (fun u (b : Below w.heap.size w u) => of_any oa l _ c rfl u (HA.out.below b) hlc hcm)
  by_cases hn : n < 0 ∨ 4 < n
  · have NB := hide (new_bad n w hn)
    clear hn
    go_enter Try.func5, Try.ntmps5
    go_wp2_with fail
    refine NB.out.mono ?_
    rintro r w1 ⟨rfl, e1⟩
    obtain rfl := e1.symm
    go_wp2_with fail
    refine (OF.out w (Below.refl _ _)).mono ?_
    rintro r w2 ⟨p, e, rfl, ho⟩
    have B2 := hide ho.below
    clear ho
    go_wp2_with fail
    refine (fetches_any _).mono ?_
    rintro r w3 ⟨rfl, b3⟩
    have B3 := hide (btr B2.out b3)
    clear b3
    go_wp2_with fail
    go_ret
    exact ⟨rfl, B3.out⟩
  obtain ⟨m, rfl⟩ : ∃ m : Nat, n = (m : Int) := ⟨n.toNat, by omega⟩
  have hm : m ≤ 4 := by omega
  have NW := hide (new_any m (Lw w) h0 w hm (cx0 w))
  by_cases hv : l.length ≤ 256 ∧ Valid l
  case neg =>
    go_enter Try.func5, Try.ntmps5
    go_wp2_with fail
    refine NW.out.mono ?_
    rintro r w1 ⟨S, rfl, s1, b1⟩
    have B1 := hide b1
    clear s1 b1 NW
    go_wp2_with fail
    refine (OF.out w1 B1.out).mono ?_
    rintro r w2 ⟨p, e, rfl, ho⟩
    rcases ho with ⟨rfl, rfl, he1, he2, -⟩ | ⟨-, q1, q2, -⟩
    case inr => exact absurd ⟨q1, q2⟩ hv
    go_wp2_with fail
    refine (fetches_any _).mono ?_
    rintro r w3 ⟨rfl, b3⟩
    have B3 := hide (btr B1.out b3)
    clear b3
    go_wp2_with fail
    go_ret
    exact ⟨rfl, B3.out⟩
  obtain ⟨hl, hv⟩ := hv
  have HV := hide hv
  clear hv OF
  go_enter Try.func5, Try.ntmps5
  go_wp2_with fail
  refine NW.out.mono ?_
  rintro r w1 ⟨S, rfl, s1, b1⟩
  have S1 : Hid (SW (Lw w) S w1 ⟨m, 0, 0, [], [], none⟩ h0) := ⟨_, _, s1⟩
  have B1 := hide b1
  clear s1 b1 NW
  go_wp2_with fail
  refine (of_sw S1.out oa l _ c rfl (HA.out.below B1.out) hlc hcm hl HV.out).mono ?_
  rintro r w2 ⟨a, h2, rfl, -, e2, s2, b2⟩
  have S2 := hide s2
  have E2 := hide e2
  have B2 := hide (btr B1.out b2)
  have C2 := hide (S2.out.get E2.out).1
  have hkl : (trm l).length ≤ 256 := C2.out.len
  clear s2 b2 e2 S1
  generalize hT : trm l = tl at *
  generalize hN : tl.length = N at *
  have LI := hide (list_any a tl w2 C2.out)
  rw [hN] at LI
  go_wp2_with fail
  refine LI.out.mono ?_
  rintro r w3 ⟨rfl, e3⟩
  have b23 : Below w2.heap.size w2 w3 := by rw [e3]; exact below_alloc _ _
  have A3 : Hid (Ck.At w3 (some ⟨w2.heap.size, 0, none⟩) tl) := by rw [e3]; exact At.new _ _ _
  have z3 : w3.heap.size = w2.heap.size + 1 := by rw [e3, World.size_alloc]
  have S3 : Hid (SW (Y2 w w2.heap.size) S w3 ⟨m, 0, 0, [], [], none⟩ h2) := S2.out.more b23 (fun k q => by
    rcases q with q | q
    · exact .inl q
    · exact .inr (by omega)) (fun k q => by
    rcases q with q | q
    · have := B2.out.size; omega
    · omega)
  have B3 := hide (btr B2.out b23)
  generalize w2.heap.size = Rb at *
  clear b23 e3 LI C2 S2 z3
  have hse : sendE ⟨m, 0, 0, [], [], none⟩ = 0 := by
    unfold sendE
    simp
  go_wp2_with fail
  refine (send_ok S3.out a tl E2.out hse (by simp) (by simp) (by simp)).mono ?_
  rintro r w4 ⟨rfl, A1, h4, f4, x4, e4, s4, k4⟩
  have hne : A1 ≠ a := fun q => by rw [q, E2.out] at f4; cases f4
  have S4 : Hid (SW (Y2 w Rb) S w4 (sendS ⟨m, 0, 0, [], [], none⟩ A1) h4) := s4
  have E4 := hide e4
  have EA4 := hide (x4 a _ E2.out)
  have K4 := hide k4
  clear s4 k4 e4 x4 f4 S3 hse
  obtain ⟨st, hst⟩ : ∃ st, sendS ⟨m, 0, 0, [], [], none⟩ A1 = st := ⟨_, rfl⟩
  have q1 : st.gv = [A1] := by rw [← hst]; rfl
  have q2 : st.bk = [] := by
    rw [← hst]
    show (if 0 < m then ([] : List Nat) else [].tail) = []
    split <;> rfl
  have q3 : st.rc = 0 := by rw [← hst]; rfl
  rw [hst] at S4
  clear hst
  go_wp2_with fail
  refine (tick_sw S4.out EA4.out tid).mono ?_
  rintro r w5 ⟨⟨x5, rfl⟩, l5, s5, k5⟩
  have S5 := hide s5
  have E5 : Hid (upd h4 a l5 A1 = some tl) := by rw [upd_other _ _ _ _ hne]; exact E4.out
  have EA5 : Hid (upd h4 a l5 a = some l5) := upd_same _ _ _
  have K5 := hide (K4.out.trans k5)
  generalize upd h4 a l5 = h5 at *
  clear s5 k5 S4 K4 E4 EA4 hne
  have hpk : pkS st false = some A1 := by unfold pkS; rw [q1]; rfl
  go_wp2_with fail
  refine (peek_any S5.out false).mono ?_
  rintro r w6 ⟨p, h6, rfl, x6, s6, k6, -, hp⟩
  obtain ⟨P, rfl, fP, eP⟩ := hp A1 tl hpk E5.out
  have hne6 : A1 ≠ P := fun q => by rw [← q, E5.out] at fP; cases fP
  have S6 := hide s6
  have E6 := hide (x6 A1 _ E5.out)
  have EA6 := hide (x6 a _ EA5.out)
  have EP6 := hide eP
  have hap : a ≠ P := fun q => by rw [← q, EA5.out] at fP; cases fP
  have K6 := hide (K5.out.trans k6)
  have ecl : clv (some P) = .pointer (some ⟨P, 0, none⟩) := rfl
  rw [ecl, hpk]
  clear s6 k6 hp ecl fP eP x6 S5 K5 E5 EA5
  go_wp2_with fail
  refine (tick_sw S6.out EP6.out tid).mono ?_
  rintro r w7 ⟨⟨x7, rfl⟩, l7, s7, k7⟩
  have S7 := hide s7
  have E7 : Hid (upd h6 P l7 A1 = some tl) := by rw [upd_other _ _ _ _ hne6]; exact E6.out
  have EA7 : Hid (upd h6 P l7 a = some l5) := by rw [upd_other _ _ _ _ hap]; exact EA6.out
  have K7 := hide (K6.out.trans k7)
  generalize upd h6 P l7 = h7 at *
  clear s7 k7 S6 K6 E6 EA6 EP6 hap hne6
  go_wp2_with fail
  refine (held_any S7.out (by rw [q1]; simp) (by rw [q2]; simp)).mono ?_
  rintro r w8 ⟨v, As, h8, rfl, HI⟩
  have ow := HI.own
  have q4 : (keptL st).length ≤ 2 := by
    unfold keptL
    rw [q1, q2]
    cases st.cl <;> simp
  have hlen := HI.len
  generalize (keptL st).length = nk at *
  obtain ⟨ob, cb, rfl⟩ := own_sl ow
  have OW := hide ow
  have S8 := hide HI.sw
  have E8 := hide (HI.ext A1 _ E7.out)
  have EA8 := hide (HI.ext a _ EA7.out)
  have F8 : Hid (∀ B ∈ As, B ≠ A1 ∧ B ≠ a ∧ ∃ lb, h8 B = some lb) := by
    intro B hB
    have hf := HI.frs B hB
    refine ⟨fun q => (by rw [q, E7.out] at hf; cases hf), fun q => (by rw [q, EA7.out] at hf; cases hf), ?_⟩
    obtain ⟨j, hj⟩ := List.getElem?_of_mem hB
    have hjl : j < (keptL st).length := by rw [← HI.len]; exact (List.getElem?_eq_some_iff.1 hj).1
    obtain ⟨vg, vb, s7⟩ := S7.out
    obtain ⟨b, hb⟩ : ∃ b, (keptL st)[j]? = some b := ⟨_, List.getElem?_eq_getElem hjl⟩
    obtain ⟨lb, hlb⟩ := s7.dom b (by
      have := List.mem_of_getElem? hb
      unfold keptL at this
      rcases List.mem_append.1 this with q | q
      · rcases List.mem_append.1 q with q | q
        · exact .inl q
        · exact .inr (.inl q)
      · exact .inr (.inr (by simpa using q)))
    obtain ⟨A, h1, h2⟩ := HI.val j b lb hb hlb
    rw [hj] at h1
    cases h1
    exact ⟨lb, h2⟩
  have K8 := hide (K7.out.trans HI.kp)
  clear HI ow S7 K7 E7 EA7
  go_wp2_with fail
  go_loopw [62] (fun i wr => ∃ (k : Nat) (hk : Nat → Option (List Int)) (lk : List Int), k ≤ nk ∧ i = .int .i64 (k : Int) ∧ (hk A1 = some tl ∧ hk a = some lk ∧ ∀ B ∈ As, B ≠ A1 ∧ B ≠ a ∧ ∃ lb, hk B = some lb) ∧ SW (YV (Y2 w Rb) (.slice ob nk cb)) S wr st hk ∧ Kp (YV (Y2 w Rb) (.slice ob nk cb)) w8 wr) (fun i _ => nk - (intOf i).toNat)
  case atStart => exact ⟨0, h8, l5, Nat.zero_le _, rfl, ⟨E8.out, EA8.out, F8.out⟩, S8.out, Kp.refl _ _⟩
  case round =>
    clear S8 E8 EA8 F8
    obtain ⟨k, hk, lk, hkn, rfl, ⟨e1, e2, f1⟩, s9, k9⟩ := hrel
    have E1 := hide e1
    have EA := hide e2
    have F1 := hide f1
    have S9 := hide s9
    have K9 := hide k9
    clear e1 e2 f1 s9 k9
    by_cases hlt : k < nk
    · have hlt' : (k : Int) < (nk : Int) := by omega
      obtain ⟨B, hB⟩ : ∃ B, As[k]? = some B := ⟨_, List.getElem?_eq_getElem (by omega)⟩
      obtain ⟨n1, n2, lb, hlb⟩ := F1.out B (List.mem_of_getElem? hB)
      obtain ⟨g, rfl⟩ : ∃ g, ob = some ⟨g, 0, none⟩ := by
        rcases OW.out.2 with ⟨e, e2⟩ | ⟨g, c2, cur, e, -⟩
        · omega
        · cases e; exact ⟨g, rfl⟩
      have c0 : wr.cell? ⟨g, k, none⟩ = some (.pointer (some ⟨B, 0, none⟩)) := by
        have := (own_kp OW.out K9.out fun x e => .inr e).cells (g := g) rfl k (ptr B) (by rw [pcs_at, hB]; rfl)
        rwa [Addr.add_lit, Nat.zero_add] at this
      have TS := hide (tick_sw S9.out hlb tid)
      have HLB := hide hlb
      clear hlb hB
      go_wp2_with fail
      refine TS.out.mono ?_
      rintro r w9 ⟨⟨x9, rfl⟩, l9, s9, k9⟩
      have S10 := hide s9
      have K10 := hide (K9.out.trans k9)
      clear s9 k9 TS
      go_wp2_with fail
      go_roundw
      case rel => exact ⟨k + 1, upd hk B l9, lk, by omega, by go_num, ⟨by rw [upd_other _ _ _ _ (Ne.symm n1)]; exact E1.out, by rw [upd_other _ _ _ _ (Ne.symm n2)]; exact EA.out, fun C hC => ⟨(F1.out C hC).1, (F1.out C hC).2.1, by
          by_cases q : C = B
          · exact ⟨_, by rw [q]; exact upd_same _ _ _⟩
          · obtain ⟨lc, hc⟩ := (F1.out C hC).2.2
            exact ⟨lc, by rw [upd_other _ _ _ _ q]; exact hc⟩⟩⟩, S10.out, K10.out⟩
      case measure => simp [intOf]; omega
    · have hlt' : ¬ ((k : Int) < (nk : Int)) := by omega
      go_wp2_with fail
      refine (recv_ok S9.out a lk EA.out A1 [] q1 (by omega) (by rw [q2]; simp)).mono ?_
      rintro r wa ⟨rfl, A2, ha, xa, -, sa, ka⟩
      have SA := hide sa
      have EX := hide (xa A1 _ E1.out)
      have KA := hide (K9.out.trans ka)
      unfold ptr
      clear sa xa ka S9 K9
      go_wp2_with fail
      refine (list_is A1 tl N wa (SA.out.get EX.out).1 hN).mono ?_
      rintro r wb ⟨oc, rfl, tb, bb⟩
      have TB := hide tb
      have BB := hide bb
      have YL : Hid (∀ x, Y2 w Rb x → x < wa.heap.size) := fun x hx => SA.out.ylt x (.inl hx)
      have KB := hide (kp_b (K8.out.trans (Kp.mono (Y := Y2 w Rb) KA.out fun x q => .inl q)) BB.out YL.out)
      have AB := hide (at_kp A3.out KB.out (.inr rfl))
      clear tb bb
      go_wp2_with fail
      refine (ints_b _ _ tl tl _ _ _ _ true (by simp) hN hN _ TB.out AB.out (by omega) (by omega)).mono ?_
      rintro r wc ⟨rfl, bc⟩
      have BC := hide bc
      clear bc
      go_wp2_with fail
      refine (fetches_any _).mono ?_
      rintro r wd ⟨rfl, bd⟩
      have BD := hide (btr BC.out bd)
      clear bd
      go_wp2_with fail
      go_ret
      have KL : Kp (Lw w) w wd := by
        have h1 : Kp (Lw w) w w3 := Kp.of B3.out fun _ q => q
        have h2 : Kp (Lw w) w3 wb := Kp.mono KB.out fun x q => .inl q
        have h3 : Kp (Lw w) wb wd := Kp.of BD.out fun x q => Nat.lt_of_lt_of_le (YL.out x (.inl q)) BB.out.size
        exact (h1.trans h2).trans h3
      exact ⟨rfl, Kp.lw KL⟩

/-! ### the row -/
set_option maxRecDepth 100000 in
theorem lifted (os : Os) (started : os.Started) (H : Type) (enc : TypeId × Value → H) :
    ReturnsInHanded {} Try.checked os 5 .any (Rows.slotsOwnSpec.pre6 enc Try.prog Try.f5 Rows.slotsOwnRow.domain false) (Rows.slotsOwnSpec.post enc Try.prog Try.f5 false true false false) := by
  refine returnsInHanded_of_change (C := Try.checked) own started (by kernel_rfl) Try.func5
    (ChangeSpec.witness6 (enc := enc) (C := Try.checked) false ⟨#[], #[.int .i64 0, .slice none 0 0, .int .i64 0], []⟩ 8 (by kernel_rfl) (by kernel_rfl) (by kernel_rfl) (by kernel_rfl)) ?_
  intro W base args ds gs before hval0 hW hcnd _
  have hval : ∀ (j : Nat) t v, Try.f5.params[j]? = some t → args[j]? = some v → Value.okWide Try.prog W .any base t v := hval0
  have hW' := hW
  obtain ⟨p, q, hA0, hV, rfl, hfz, hnd⟩ := hW
  have hA : DataW.TrodAll enc Try.prog W 0 (fun _ => true) true Try.f5.params.toList args.toList ds p := hA0
  rw [Try.params5] at hA hval
  obtain ⟨v0, vs0, d0, ds0, p0, q0, hargs, rfl, rfl, h0, r0⟩ := trodAll_cons hA
  obtain ⟨v1, vs1, d1, ds1, p1, q1, rfl, rfl, rfl, h1, r1⟩ := trodAll_cons r0
  obtain ⟨v2, vs2, d2, ds2, p2, q2, rfl, rfl, rfl, h2, r2⟩ := trodAll_cons r1
  obtain ⟨rfl, rfl, rfl⟩ := trodAll_nil r2
  obtain rfl : args = #[v0, v1, v2] := by cases args; simp_all
  obtain ⟨rfl, rfl⟩ := trodVars_none hV
  obtain ⟨a0, rfl, rfl, rfl, w0⟩ := open_int Try.underlying3 (hval 0 3 v0 rfl rfl) h0
  obtain ⟨oa1, n1, c1, rfl⟩ := okWide_slice Try.underlying31 (hval 1 31 v1 rfl rfl)
  have k1 := h1
  have lt1 : ∀ x ∈ p1, x.block < W.heap.size := by obtain ⟨m, hm⟩ := k1; exact DataW.trod_lt m _ _ _ hm
  obtain ⟨l1, rfl, A1, C1, M1⟩ := h1.elim fun _ hf => Ba.ints_open hf
  obtain ⟨a2, rfl, rfl, rfl, w2⟩ := open_int Try.underlying3 (hval 2 3 v2 rfl rfl) h2
  clear hA0 hval0
  refine (core (w := W) a0 oa1 l1 c1 A1 C1 M1 a2).mono fun e W' ⟨he, bel⟩ => ?_
  subst he
  exact ⟨_, rfl, _, _, _, [], _, [], hW', trodAll_mk1 (shut_bool Try.underlying4 _), (trodAll_cons_mk (shut_int Try.underlying3 w0) (trodAll_cons_mk (Below.trod laidOut (by kernel_rfl) (of_decide_eq_true (by kernel_rfl)) k1 bel lt1) (trodAll_cons_mk (shut_int Try.underlying3 w2) trodAll_mk0))), rfl, bel.frame _, fun h => by cases h⟩

theorem over : Rows.slotsOwnRow.holds Try.pinned (OpenSpec.ofChange Rows.slotsOwnSpec) :=
  OpenClaim.holds_of_wide 5 Try.f5 rfl rfl rfl rfl rfl rfl rfl ⟨rfl, rfl, rfl, rfl, rfl⟩ rfl rfl rfl rfl rfl (by kernel_rfl) Try.func5 (by kernel_rfl)
    (of_decide_eq_true (by kernel_rfl)) (by unfold Func.isWrapper; first | (rw [if_pos (by decide +kernel)]; kernel_rfl) | (rw [if_neg (by decide +kernel)]; exact ⟨rfl, rfl⟩))
    (fun os started H enc _ => lifted os started H enc)

/-- the statement -/
theorem proved : Rows.SlotsOwnSaid := over
#print axioms proved
end Go.Proofs.Ytbangoghekefcaa.slotsOwn
