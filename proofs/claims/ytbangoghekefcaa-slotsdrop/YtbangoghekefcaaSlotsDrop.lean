/- What is dropped is 0 in all that is kept, and nothing else changes (15.2): of every list of steps that is not too long. -/
import Derived.Test.YtbangoghekefcaaTh
import Derived.ShutString
import Derived.ChangeOld
import Derived.Below
namespace Go.Proofs.Ytbangoghekefcaa.slotsDrop
open Go.ChangeShapes Go.WideShapes Go.ChangeAt Go.RowKit
open Go.ChangeMaps (open_string shut_string)
open Sl Ck

theorem own : ownKnob Try.prog.godebug = none := by kernel_rfl
theorem laidOut : laidOutB Try.prog = true := by kernel_rfl

theorem counts_sw {Y : Nat → Prop} {S : Nat} {w : World} {st : Sst} {h : Nat → Option (List Int)} (s : SW Y S w st h) :
    Calls Try.prog 30 #[.pointer (some ⟨S, 0, none⟩)] w fun r w' => r = .returned (.tuple #[.int .i64 (st.sn : Int), .int .i64 (st.rc : Int)]) ∧ Below w.heap.size w w' := by
  obtain ⟨vg, vb, s⟩ := s
  exact counts_any s
theorem sw_dom {Y : Nat → Prop} {S : Nat} {w : World} {st : Sst} {h : Nat → Option (List Int)} (s : SW Y S w st h) : ∀ b ∈ keptL st, ∃ l, h b = some l := by
  obtain ⟨vg, vb, s⟩ := s
  intro b hb
  unfold keptL at hb
  refine s.dom b ?_
  rcases List.mem_append.1 hb with q | q
  · rcases List.mem_append.1 q with q | q
    · exact .inl q
    · exact .inr (.inl q)
  · exact .inr (.inr (by simpa using q))
/-- the copies before, and behind a Drop -/
def Rel (t : Int) (As Cs : List Nat) (h : Nat → Option (List Int)) : Prop := ∀ (j : Nat) A C, As[j]? = some A → Cs[j]? = some C → ∃ la, h A = some la ∧ h C = some (z0 t la)
theorem Rel.set {t : Int} {As Cs : List Nat} {h : Nat → Option (List Int)} {A : Nat} {la : List Int} (r : Rel t As Cs h) (hA : h A = some la) (hd : ∀ C ∈ Cs, C ≠ A) : Rel t As Cs (upd h A (z0 t la)) := by
  intro j B C hB hC
  obtain ⟨lb, h1, h2⟩ := r j B C hB hC
  have hCA := hd C (List.mem_of_getElem? hC)
  rw [upd_other _ _ _ _ hCA]
  by_cases q : B = A
  · subst q
    rw [hA] at h1
    cases h1
    exact ⟨z0 t la, upd_same _ _ _, by rw [h2, z0_idem]⟩
  · exact ⟨lb, by rw [upd_other _ _ _ _ q]; exact h1, h2⟩
theorem own_g {w : World} {e : TypeId} {oa : Option Addr} {n c : Nat} {xs : List Value} (h : w.ownsRow 0 e 1 (.slice oa n c) n xs) (hn : 0 < n) : ∃ g, oa = some ⟨g, 0, none⟩ := by
  rcases h.2 with ⟨e, e2⟩ | ⟨g, c2, cur, e, -⟩
  · omega
  · cases e; exact ⟨g, rfl⟩
theorem row_c {w : World} {g n c k A : Nat} {As : List Nat} (h : w.ownsRow 0 34 1 (.slice (some ⟨g, 0, none⟩) n c) n (pcs As)) (hA : As[k]? = some A) : w.cell? ⟨g, k, none⟩ = some (.pointer (some ⟨A, 0, none⟩)) := by
  have := h.cells (g := g) rfl k (ptr A) (by rw [pcs_at, hA]; rfl)
  rwa [Addr.add_lit, Nat.zero_add] at this
set_option maxRecDepth 100000 in
set_option maxHeartbeats 6400000 in
theorem core {w : World} (n : Int) (oa : Option Addr) (l : List (List Int × List Int)) (c : Nat) (hJ : Ba.JAt w oa 2 l) (tid : Int) :
    Calls Try.prog 7 #[.int .i64 n, .slice oa l.length c, .int .i64 tid] w fun r w' => r = .returned (.bool true) ∧ Below w.heap.size w w' := by
  have HJ := hide hJ
  clear hJ
  by_cases hn : n < 0 ∨ 4 < n
  · have NB := hide (new_bad n w hn)
    clear hn
    go_enter Try.func7, Try.ntmps7
    go_wp2_with fail
    refine NB.out.mono ?_
    rintro r w1 ⟨rfl, e1⟩
    obtain rfl := e1.symm
    go_wp2_with fail
    refine (fetches_any _).mono ?_
    rintro r w3 ⟨rfl, b3⟩
    have B3 := hide b3
    clear b3
    go_wp2_with fail
    go_ret
    exact ⟨rfl, B3.out⟩
  obtain ⟨m, rfl⟩ : ∃ m : Nat, n = (m : Int) := ⟨n.toNat, by omega⟩
  have hm : m ≤ 4 := by omega
  have NW := hide (new_any m (Lw w) h0 w hm (cx0 w))
  by_cases hl : 100 < l.length
  · have d : decide (100 < (l.length : Int)) = true := decide_eq_true (by omega)
    go_enter Try.func7, Try.ntmps7
    go_wp2_with fail
    refine NW.out.mono ?_
    rintro r w1 ⟨S, rfl, s1, b1⟩
    have B1 := hide b1
    clear s1 b1 NW
    go_wp2_with fail
    refine (fetches_any _).mono ?_
    rintro r w3 ⟨rfl, b3⟩
    have B3 := hide (btr B1.out b3)
    clear b3
    go_wp2_with fail
    go_ret
    exact ⟨rfl, B3.out⟩
  have d : decide (100 < (l.length : Int)) = false := decide_eq_false (by omega)
  go_enter Try.func7, Try.ntmps7
  go_wp2_with fail
  refine NW.out.mono ?_
  rintro r w1 ⟨S, rfl, s1, b1⟩
  have S1 : Hid (SW (Lw w) S w1 ⟨m, 0, 0, [], [], none⟩ h0) := ⟨_, _, s1⟩
  have K1 : Hid (Kp (Lw w) w w1) := Kp.of b1 fun _ q => q
  clear s1 b1 NW
  go_wp2_with fail
  go_loopw [46] (fun i wr => ∃ (k : Nat) (st : Sst) (h : Nat → Option (List Int)), k ≤ l.length ∧ i = .int .i64 (k : Int) ∧ SW (Lw w) S wr st h ∧ Ok k st ∧ Kp (Lw w) w wr) (fun i _ => l.length - (intOf i).toNat)
  case atStart => exact ⟨0, _, h0, Nat.zero_le _, rfl, S1.out, ⟨rfl, Nat.le_refl _, Nat.le_refl _⟩, K1.out⟩
  case round =>
    clear S1 K1
    obtain ⟨k, st, h, hkl, rfl, s, ok, kp⟩ := hrel
    have SS := hide s
    have OK := hide ok
    have KP := hide kp
    clear s ok kp
    by_cases hlt : k < l.length
    · have hlt' : (k : Int) < (l.length : Int) := by omega
      obtain ⟨x, hx⟩ : ∃ x, l[k]? = some x := ⟨_, List.getElem?_eq_getElem hlt⟩
      obtain ⟨b0, off, rfl, hI⟩ := HJ.out.below (Kp.lw KP.out) k x hx
      obtain ⟨h1, ca, cc, h2, h3, h4, h5⟩ := hI
      have c0 := h1 0 (by decide)
      have c1 := h1 1 (by decide)
      rw [Nat.add_zero] at c0
      have A3 := hide (show Ck.At wr ca x.2 from h3)
      generalize Ba.nth x.1 0 = x0 at *
      generalize Ba.nth x.1 1 = x1 at *
      have hx2 : x.2.length ≤ maxLen := Nat.le_trans h4 h5
      clear h1 h3 hx
      have BA := hide (below_alloc wr (.cells #[.int .i64 x0, .int .i64 x1, .slice ca x.2.length cc] 33))
      by_cases hv : x.2.length ≤ 256 ∧ Valid x.2
      case neg =>
        have OF := hide (of_any ca x.2 _ cc rfl _ (A3.out.below BA.out) h4 h5)
        go_wp2_with fail
        refine OF.out.mono ?_
        rintro r w2 ⟨p, e, rfl, ho⟩
        rcases ho with ⟨rfl, rfl, he1, he2, -⟩ | ⟨-, q1, q2, -⟩
        case inr => exact absurd ⟨q1, q2⟩ hv
        go_wp2_with fail
        go_roundw
        case rel => exact ⟨k + 1, st, h, by omega, by go_num, SS.out.below BA.out, OK.out.mono (by omega), kp_b KP.out BA.out SS.out.ylt⟩
        case measure => simp [intOf]; omega
      case pos =>
        have OF := hide (of_sw (SS.out.below BA.out) ca x.2 _ cc rfl (A3.out.below BA.out) h4 h5 hv.1 hv.2)
        have AF : Hid (∀ w2 st' h' wz, SW (Lw w) S w2 st' h' → Below wr.heap.size wr w2 → Kp (Lw w) w2 wz → Kp (Lw w) w wz) := fun w2 st' h' wz s2 b2 k2 => (kp_b KP.out b2 SS.out.ylt).trans k2
        clear hv
        have key : (x0 = 0 ∨ x0 = 1) ∨ (x0 = 2 ∨ x0 = 3) ∨ x0 = 4 ∨ ((x0 == 0) = false ∧ (x0 == 1) = false ∧ (x0 == 2) = false ∧ (x0 == 3) = false ∧ (x0 == 4) = false) := by
          simp only [beq_eq_false_iff_ne]
          omega
        rcases key with (rfl | rfl) | (rfl | rfl) | rfl | ⟨e0, e1, e2, e3, e4⟩
        case inl.inl | inl.inr =>
          all_goals
            go_wp2_with fail
            refine OF.out.mono ?_
            rintro r w2 ⟨a, h2', rfl, -, ea, s2, b2⟩
            have B2 := hide (btr BA.out b2)
            have S2 := hide s2
            have hw2 : wr.heap.size < w2.heap.size := by have := b2.size; rw [World.size_alloc] at this; omega
            have c2 : w2.cell? ⟨wr.heap.size, 0, none⟩ = some _ := cell_of (Ba.heap_below (heap_new wr _) b2) 0
            simp at c2
            have SU := hide (send_u S2.out OK.out (by omega) a _ ea)
            clear s2 b2 ea
            go_wp2_with fail
            refine SU.out.mono ?_
            rintro r w3 ⟨⟨p, e, rfl⟩, st3, h3', s3, k3, ok3⟩
            have S3 := hide s3
            have O3 := hide ok3
            have K3 := hide (AF.out w2 _ _ w3 S2.out B2.out k3)
            clear s3 ok3 k3
            go_wp2_with fail
            go_roundw
            case rel => exact ⟨k + 1, st3, h3', by omega, by go_num, S3.out, O3.out, K3.out⟩
            case measure => simp [intOf]; omega
        case inr.inl.inl | inr.inl.inr =>
          all_goals
            go_wp2_with fail
            refine OF.out.mono ?_
            rintro r w2 ⟨a, h2', rfl, -, ea, s2, b2⟩
            have B2 := hide (btr BA.out b2)
            have S2 := hide s2
            have c2 : w2.cell? ⟨wr.heap.size, 0, none⟩ = some _ := cell_of (Ba.heap_below (heap_new wr _) b2) 0
            simp at c2
            have SU := hide (recv_u S2.out OK.out (by omega) a _ ea)
            clear s2 b2 ea
            go_wp2_with fail
            refine SU.out.mono ?_
            rintro r w3 ⟨⟨p, e, rfl⟩, st3, h3', s3, k3, ok3⟩
            have S3 := hide s3
            have O3 := hide ok3
            have K3 := hide (AF.out w2 _ _ w3 S2.out B2.out k3)
            clear s3 ok3 k3
            go_wp2_with fail
            go_roundw
            case rel => exact ⟨k + 1, st3, h3', by omega, by go_num, S3.out, O3.out, K3.out⟩
            case measure => simp [intOf]; omega
        case inr.inr.inl =>
          go_wp2_with fail
          refine OF.out.mono ?_
          rintro r w2 ⟨a, h2', rfl, -, ea, s2, b2⟩
          have B2 := hide (btr BA.out b2)
          have S2 := hide s2
          have c2 : w2.cell? ⟨wr.heap.size, 0, none⟩ = some _ := cell_of (Ba.heap_below (heap_new wr _) b2) 0
          simp at c2
          have SU := hide (close_u S2.out OK.out a _ ea)
          clear s2 b2 ea
          go_wp2_with fail
          refine SU.out.mono ?_
          rintro r w3 ⟨⟨e, rfl⟩, st3, h3', s3, k3, ok3⟩
          have S3 := hide s3
          have O3 := hide ok3
          have K3 := hide (AF.out w2 _ _ w3 S2.out B2.out k3)
          clear s3 ok3 k3
          go_wp2_with fail
          go_roundw
          case rel => exact ⟨k + 1, st3, h3', by omega, by go_num, S3.out, O3.out, K3.out⟩
          case measure => simp [intOf]; omega
        case inr.inr.inr =>
          go_wp2_with fail
          refine OF.out.mono ?_
          rintro r w2 ⟨a, h2', rfl, -, ea, s2, b2⟩
          have B2 := hide (btr BA.out b2)
          have S2 := hide s2
          have c2 : w2.cell? ⟨wr.heap.size, 0, none⟩ = some _ := cell_of (Ba.heap_below (heap_new wr _) b2) 0
          simp at c2
          clear s2 b2 ea
          go_wp2_with fail
          go_roundw
          case rel => exact ⟨k + 1, st, h2', by omega, by go_num, S2.out, OK.out.mono (by omega), kp_b KP.out B2.out SS.out.ylt⟩
          case measure => simp [intOf]; omega
    · have hlt' : ¬ ((k : Int) < (l.length : Int)) := by omega
      have hg1 : st.gv.length ≤ 1000 := by have := OK.out.cnt; have := OK.out.le; omega
      have hb1 : st.bk.length ≤ 1000 := by have := OK.out.bl; omega
      have hnk : (keptL st).length ≤ 2001 := by
        unfold keptL
        cases st.cl <;> simp <;> omega
      have D0 := hide (sw_dom SS.out)
      have YL0 := hide SS.out.ylt
      go_wp2_with fail
      refine (held_any SS.out hg1 hb1).mono ?_
      rintro r w2 ⟨v2, As, h2, rfl, HI⟩
      obtain ⟨o2, c2, rfl⟩ := own_sl HI.own
      have H2 := hide HI
      have CT := hide (counts_sw HI.sw)
      have nz := HI.len
      generalize hN : (keptL st).length = N at *
      clear HI
      go_wp2_with fail
      refine CT.out.mono ?_
      rintro r w3 ⟨rfl, b3⟩
      have B3 := hide b3
      have DR := hide (drop_any (H2.out.sw.below b3) tid hg1 hb1)
      clear b3 CT
      go_wp2_with fail
      refine DR.out.mono ?_
      rintro r w4 ⟨rfl, h3, v3, s4, k4⟩
      have S4 := hide s4
      have V3 := hide v3
      have K4 := hide ((Kp.of B3.out H2.out.sw.ylt).trans k4)
      clear s4 v3 k4 DR
      go_wp2_with fail
      refine (held_any S4.out hg1 hb1).mono ?_
      rintro r w5 ⟨v5, Cs, h5, rfl, HI⟩
      obtain ⟨o5, c5, e5⟩ := own_sl HI.own
      rw [hN] at e5
      subst e5
      have H5 := hide HI
      have CT := hide (counts_sw HI.sw)
      have nz5 := HI.len
      rw [hN] at nz5
      clear HI
      go_wp2_with fail
      refine CT.out.mono ?_
      rintro r w6 ⟨rfl, b6⟩
      have S6 := hide (H5.out.sw.below b6)
      have K6 := hide (H5.out.kp.trans (Kp.of b6 fun x q => H5.out.sw.ylt x (.inl q)))
      have O6 : Hid (w6.ownsRow 0 34 1 (.slice o5 N c5) N (pcs Cs)) := by
        have q := own_kp H5.out.own (Kp.of b6 H5.out.sw.ylt) (fun x e => .inr e)
        rw [hN] at q
        exact q
      have P6 : Hid (w6.ownsRow 0 34 1 (.slice o2 N c2) N (pcs As)) := by
        have q := own_kp H2.out.own (K4.out.trans K6.out) (fun x e => .inr e)
        rw [hN] at q
        exact q
      have R6 : Hid (Rel tid As Cs h5) := by
        intro j A C hA hC
        have hj : j < (keptL st).length := by rw [hN, ← nz]; exact (List.getElem?_eq_some_iff.1 hA).1
        obtain ⟨b, hb⟩ : ∃ b, (keptL st)[j]? = some b := ⟨_, List.getElem?_eq_getElem hj⟩
        have hbm := List.mem_of_getElem? hb
        obtain ⟨lb, hlb⟩ := D0.out b hbm
        obtain ⟨A', q1, q2⟩ := H2.out.val j b lb hb hlb
        rw [hA] at q1
        cases q1
        have q3 := V3.out A lb q2
        have hnA : A ∉ keptL st := fun hm => by
          obtain ⟨lx, hlx⟩ := D0.out A hm
          rw [H2.out.frs A (List.mem_of_getElem? hA)] at hlx
          cases hlx
        rw [if_neg hnA] at q3
        have q4 := V3.out b lb (H2.out.ext b lb hlb)
        rw [if_pos hbm] at q4
        obtain ⟨C', q5, q6⟩ := H5.out.val j b _ hb q4
        rw [hC] at q5
        cases q5
        exact ⟨lb, H5.out.ext A lb q3, q6⟩
      have F6 : Hid (∀ A ∈ As, ∀ C ∈ Cs, C ≠ A) := by
        intro A hA C hC e
        subst e
        obtain ⟨j, hj⟩ := List.getElem?_of_mem hA
        have hjl : j < (keptL st).length := by rw [hN, ← nz]; exact (List.getElem?_eq_some_iff.1 hj).1
        obtain ⟨b, hb⟩ : ∃ b, (keptL st)[j]? = some b := ⟨_, List.getElem?_eq_getElem hjl⟩
        obtain ⟨lb, hlb⟩ := D0.out b (List.mem_of_getElem? hb)
        obtain ⟨A', q1, q2⟩ := H2.out.val j b lb hb hlb
        rw [hj] at q1
        cases q1
        have q3 := V3.out C lb q2
        rw [H5.out.frs C hC] at q3
        cases q3
      have KW := hide ((KP.out.trans H2.out.kp).trans (Kp.mono (K4.out.trans K6.out) fun x q => .inl q))
      clear CT H5 H2 V3 D0 K4 K6 b6 S4 B3 SS OK KP
      go_wp2_with fail
      go_loopw [112] (fun i wz => ∃ (k : Nat) (hk : Nat → Option (List Int)), k ≤ N ∧ i = .int .i64 (k : Int) ∧ Rel tid As Cs hk ∧ SW (YV (YV (Lw w) (.slice o2 N c2)) (.slice o5 N c5)) S wz st hk ∧ Kp (YV (YV (Lw w) (.slice o2 N c2)) (.slice o5 N c5)) w6 wz) (fun i _ => N - (intOf i).toNat)
      case atStart => exact ⟨0, h5, Nat.zero_le _, rfl, R6.out, S6.out, Kp.refl _ _⟩
      case round =>
        clear R6 S6
        rename World => wz
        obtain ⟨j, hk, hjN, rfl, rl, s7, k7⟩ := hrel
        have RL := hide rl
        have S7 := hide s7
        have K7 := hide k7
        clear rl s7 k7
        by_cases hjl : j < N
        · have hjl' : (j : Int) < (N : Int) := by omega
          obtain ⟨A, hA⟩ : ∃ A, As[j]? = some A := ⟨_, List.getElem?_eq_getElem (by omega)⟩
          obtain ⟨C, hC⟩ : ∃ C, Cs[j]? = some C := ⟨_, List.getElem?_eq_getElem (by omega)⟩
          obtain ⟨la, ea, ec⟩ := RL.out j A C hA hC
          have hCA := F6.out A (List.mem_of_getElem? hA)
          obtain ⟨g2, rfl⟩ := own_g P6.out (by omega)
          obtain ⟨g5, rfl⟩ := own_g O6.out (by omega)
          have x2 := row_c (own_kp P6.out K7.out fun x e => .inl (.inr e)) hA
          have ZS := hide (zero_sw S7.out ea tid)
          have RN := hide (RL.out.set ea hCA)
          have EC : Hid (upd hk A (z0 tid la) C = some (z0 tid la)) := by rw [upd_other _ _ _ _ (hCA C (List.mem_of_getElem? hC))]; exact ec
          have EA : Hid (upd hk A (z0 tid la) A = some (z0 tid la)) := upd_same _ _ _
          have HA := hide hA
          have HC := hide hC
          clear ea ec hA hC hCA
          generalize upd hk A (z0 tid la) = hn at *
          generalize z0 tid la = lz at *
          go_wp2_with fail
          refine ZS.out.mono ?_
          rintro r w8 ⟨⟨xr, rfl⟩, s8, k8⟩
          have S8 := hide s8
          have K8 := hide (K7.out.trans k8)
          have y2 := row_c (own_kp P6.out K8.out fun x e => .inl (.inr e)) HA.out
          have y5 := row_c (own_kp O6.out K8.out fun x e => .inr e) HC.out
          have ckA := (s8.get EA.out).1
          have ckC := (s8.get EC.out).1
          have hlz : lz.length ≤ 256 := ckA.len
          generalize hz : lz.length = nz0 at *
          have L1 := hide (fun u (b : Below w8.heap.size w8 u) => list_is A lz nz0 u (ckA.below b) hz)
          have L2 := hide (fun u (b : Below w8.heap.size w8 u) => list_is C lz nz0 u (ckC.below b) hz)
          clear s8 k8 ckA ckC ZS
          go_wp2_with fail
          go_region_held3 (fun w' => w'.cell? ⟨g2, j, none⟩ = some (.pointer (some ⟨A, 0, none⟩)) ∧ w'.cell? ⟨g5, j, none⟩ = some (.pointer (some ⟨C, 0, none⟩)))
            (first | (go_keep; done) | exact ⟨u2, u5⟩ | exact ⟨t2, t5⟩ | exact ⟨r2, r5⟩)
            (first
              | (go_at_call 25; refine (L1.out _ (Ba.bdrew1 _)).mono ?_; rintro r wa ⟨oa1, rfl, ta, ba⟩; have b8a := btr (Ba.bdrew1 _) ba; have u2 := (b8a.cell (World.block_lt_of_cell? _ _ y2)).trans y2; have u5 := (b8a.cell (World.block_lt_of_cell? _ _ y5)).trans y5)
              | (go_at_call 25; refine (L2.out _ b8a).mono ?_; rintro r wb ⟨oa2, rfl, tb, bb⟩; have b8b := btr b8a bb; have t2 := (b8b.cell (World.block_lt_of_cell? _ _ y2)).trans y2; have t5 := (b8b.cell (World.block_lt_of_cell? _ _ y5)).trans y5)
              | (go_at_call 28; refine (ints_b _ _ lz lz _ _ _ _ true (by simp) hz hz _ (ta.below bb) tb (by omega) (by omega)).mono ?_; rintro r wc ⟨rfl, bc⟩; have b8c := btr b8b bc; have r2 := (b8c.cell (World.block_lt_of_cell? _ _ y2)).trans y2; have r5 := (b8c.cell (World.block_lt_of_cell? _ _ y5)).trans y5))
          have B8 := hide b8c
          clear b8a b8b b8c ta tb ba bb bc L1 L2 x2 y2 y5 u2 u5 t2 t5 r2 r5
          go_wp2_with fail
          go_roundw
          case rel => exact ⟨j + 1, hn, by omega, by go_num, RN.out, S8.out.below B8.out, kp_b K8.out B8.out S8.out.ylt⟩
          case measure => simp [intOf]; omega
        · have hjl' : ¬ ((j : Int) < (N : Int)) := by omega
          go_wp2_with fail
          refine (fetches_any _).mono ?_
          rintro r wd ⟨rfl, bd⟩
          have BD := hide bd
          clear bd
          go_wp2_with fail
          go_ret
          have KL : Kp (Lw w) w wd := kp_b (KW.out.trans (Kp.mono K7.out fun x q => .inl (.inl q))) BD.out fun x q => S7.out.ylt x (.inl (.inl q))
          exact ⟨rfl, Kp.lw KL⟩

/-! ### the row -/
set_option maxRecDepth 100000 in
theorem lifted (os : Os) (started : os.Started) (H : Type) (enc : TypeId × Value → H) :
    ReturnsInHanded {} Try.checked os 7 .any (Rows.slotsDropSpec.pre6 enc Try.prog Try.f7 Rows.slotsDropRow.domain false) (Rows.slotsDropSpec.post enc Try.prog Try.f7 false true false false) := by
  refine returnsInHanded_of_change (C := Try.checked) own started (by kernel_rfl) Try.func7
    (ChangeSpec.witness6 (enc := enc) (C := Try.checked) false ⟨#[], #[.int .i64 0, .slice none 0 0, .int .i64 0], []⟩ 8 (by kernel_rfl) (by kernel_rfl) (by kernel_rfl) (by kernel_rfl)) ?_
  intro W base args ds gs before hval0 hW hcnd _
  have hval : ∀ (j : Nat) t v, Try.f7.params[j]? = some t → args[j]? = some v → Value.okWide Try.prog W .any base t v := hval0
  have hW' := hW
  obtain ⟨p, q, hA0, hV, rfl, hfz, hnd⟩ := hW
  have hA : DataW.TrodAll enc Try.prog W 0 (fun _ => true) true Try.f7.params.toList args.toList ds p := hA0
  rw [Try.params7] at hA hval
  obtain ⟨v0, vs0, d0, ds0, p0, q0, hargs, rfl, rfl, h0, r0⟩ := trodAll_cons hA
  obtain ⟨v1, vs1, d1, ds1, p1, q1, rfl, rfl, rfl, h1, r1⟩ := trodAll_cons r0
  obtain ⟨v2, vs2, d2, ds2, p2, q2, rfl, rfl, rfl, h2, r2⟩ := trodAll_cons r1
  obtain ⟨rfl, rfl, rfl⟩ := trodAll_nil r2
  obtain rfl : args = #[v0, v1, v2] := by cases args; simp_all
  obtain ⟨rfl, rfl⟩ := trodVars_none hV
  obtain ⟨a0, rfl, rfl, rfl, w0⟩ := open_int Try.underlying3 (hval 0 3 v0 rfl rfl) h0
  obtain ⟨oa1, n1, c1, rfl⟩ := okWide_slice Try.underlying22 (hval 1 22 v1 rfl rfl)
  have k1 := h1
  have lt1 : ∀ x ∈ p1, x.block < W.heap.size := by obtain ⟨m, hm⟩ := k1; exact DataW.trod_lt m _ _ _ hm
  obtain ⟨l1, rfl, A1, C1, M1⟩ := h1.elim fun _ hf => steps_open hf
  obtain ⟨a2, rfl, rfl, rfl, w2⟩ := open_int Try.underlying3 (hval 2 3 v2 rfl rfl) h2
  clear hA0 hval0
  refine (core (w := W) a0 oa1 l1 c1 A1 a2).mono fun e W' ⟨he, bel⟩ => ?_
  subst he
  exact ⟨_, rfl, _, _, _, [], _, [], hW', trodAll_mk1 (shut_bool Try.underlying4 _), (trodAll_cons_mk (shut_int Try.underlying3 w0) (trodAll_cons_mk (Below.trod laidOut (by kernel_rfl) (of_decide_eq_true (by kernel_rfl)) k1 bel lt1) (trodAll_cons_mk (shut_int Try.underlying3 w2) trodAll_mk0))), rfl, bel.frame _, fun h => by cases h⟩

theorem over : Rows.slotsDropRow.holds Try.pinned (OpenSpec.ofChange Rows.slotsDropSpec) :=
  OpenClaim.holds_of_wide 7 Try.f7 rfl rfl rfl rfl rfl rfl rfl ⟨rfl, rfl, rfl, rfl, rfl⟩ rfl rfl rfl rfl rfl (by kernel_rfl) Try.func7 (by kernel_rfl)
    (of_decide_eq_true (by kernel_rfl)) (by unfold Func.isWrapper; first | (rw [if_pos (by decide +kernel)]; kernel_rfl) | (rw [if_neg (by decide +kernel)]; exact ⟨rfl, rfl⟩))
    (fun os started H enc _ => lifted os started H enc)

/-- the statement -/
theorem proved : Rows.SlotsDropSaid := over
#print axioms proved
end Go.Proofs.Ytbangoghekefcaa.slotsDrop
