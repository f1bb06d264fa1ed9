import Derived.Test.YtfimfgffbfjkeaaWm
import Derived.Test.YtfimfgffbfjkeaaWw
import Derived.Deep.Cut
import Derived.Deep.DeepCutAuto
import Derived.Deep.RegionHeld3
import Derived.Test.YtfimfgffbfjkeaaWp
import Derived.Test.YtfimfgffbfjkeaaBu
/- Layer 16's law: looks of nobody, over this seat's program. -/
namespace Go.Proofs.Ytfimfgffbfjkeaa
open Go.ChangeShapes Go.WideShapes Go.ChangeAt Go.RowKit
namespace Wq
open Ck
open Wa (Wst WW)

section
variable {Y0 : Nat → Prop} {B G : Nat} {w : World} {st : Wst} {h : Nat → Option (List Int)} {qs : Qst}
set_option maxRecDepth 100000 in
set_option maxHeartbeats 3200000 in
theorem looks_none (j : JW Y0 B G w st h qs) (r : Rw st h qs) (g : Int) (hg : wfk g) (hf : st.f g = none) (ha : at_ qs.L g = -1) :
    Calls Try.prog 10 #[.pointer (some ⟨B, 0, none⟩), .pointer (some ⟨G, 0, none⟩), .int .i64 g] w fun r w' => r = .returned (.bool true) ∧ Below w.heap.size w w' := by
  have hl := r.len j
  obtain ⟨v, s, q, n⟩ := j
  have CL := hide (fun u (b : Below w.heap.size w u) => Wa.clock_none (s.below b) g hg hf)
  have TI := hide (fun u (b : Below w.heap.size w u) => Wa.tid_none (s.below b) g hg hf)
  have CA := hide (fun u (b : Below w.heap.size w u) => Wa.can_none (s.below b) g hg hf)
  have EP := hide (fun u (b : Below w.heap.size w u) => Wa.epoch_none (s.below b) g hg hf)
  have AT := hide (fun u (b : Below w.heap.size w u) => at_any (q.below b) g hl)
  have CN := hide (fun u (b : Below w.heap.size w u) => can_no (q.below b) g hl ha)
  rw [ha] at AT
  clear s q n hl r hf ha hg
  go_enter Try.func10, Try.ntmps10
  go_wp2_with fail
  refine (CL.out _ (Below.refl _ _)).mono ?_
  rintro r w1 ⟨rfl, b1⟩
  have B1 := hide b1
  clear b1
  go_wp2_with fail
  refine (TI.out _ B1.out).mono ?_
  rintro r w2 ⟨rfl, b2⟩
  have B2 := hide (btr B1.out b2)
  clear b2
  go_wp2_with fail
  refine (AT.out _ B2.out).mono ?_
  rintro r w3 ⟨rfl, b3⟩
  have B3 := hide (btr B2.out b3)
  clear b3
  go_wp2_with fail
  refine (CA.out _ B3.out).mono ?_
  rintro r w4 ⟨rfl, b4⟩
  have B4 := hide (btr B3.out b4)
  clear b4
  go_wp2_with fail
  refine (CN.out _ B4.out).mono ?_
  rintro r w5 ⟨rfl, b5⟩
  have B5 := hide (btr B4.out b5)
  clear b5
  go_wp2_with fail
  refine (EP.out _ B5.out).mono ?_
  rintro r w6 ⟨rfl, b6⟩
  have B6 := hide (btr B5.out b6)
  clear b6
  go_wp2_with fail
  go_ret
  exact ⟨rfl, B6.out⟩
end
end Wq
end Go.Proofs.Ytfimfgffbfjkeaa
/- Layer 16's law: looks of somebody, over this seat's program. -/
namespace Go.Proofs.Ytfimfgffbfjkeaa
open Go.ChangeShapes Go.WideShapes Go.ChangeAt Go.RowKit
namespace Wq
open Ck
open Ba (KF Bd Nw)
open Wa (Wst IsSet Ext upf upf_same upf_other Used Fo WW WX)

/-- behind a look: the same watch, beside the same reference -/
def LoW (Y0 : Nat → Prop) (B G : Nat) (st : Wst) (qs : Qst) (w : World) (q : Ending) (w' : World) : Prop := q = .returned (.bool true) ∧ ∃ h', JW Y0 B G w' st h' qs ∧ Rw st h' qs ∧ Kp Y0 w w'
theorem nth_ok {l : List Int} (h : Valid l) (k : Nat) : 0 ≤ nth l k ∧ nth l k ≤ 1048576 := by
  by_cases q : k < l.length
  · exact (okN_iff _).1 (h k q)
  · rw [nth_out _ _ (by omega)]; omega
theorem pack_z (t c : Int) (h0 : 0 ≤ t) (h1 : t < 256) (h2 : 0 ≤ c) (h3 : c ≤ 1048576) (w : World) : Calls Try.prog 37 #[.int .i64 t, .int .i64 c] w fun r w' => (∃ e, r = .returned (.tuple #[.int .u64 (Wa.epk t c), .int .i64 e]) ∧ (c = 0 ∨ e = 0)) ∧ w' = w := by
  by_cases h : c = 0
  · refine (Wa.pack_fst t c w).mono ?_
    rintro r w' ⟨⟨e, rfl⟩, rfl⟩
    exact ⟨⟨e, rfl, .inl h⟩, rfl⟩
  · refine (Ep.pack_ok t c h0 h1 (by omega) h3 w).mono ?_
    rintro r w' ⟨rfl, rfl⟩
    refine ⟨⟨0, ?_, .inr rfl⟩, rfl⟩
    unfold Wa.epk
    rw [if_pos (by omega)]
section
variable {Y0 : Nat → Prop} {B G : Nat} {w : World} {st : Wst} {h : Nat → Option (List Int)} {qs : Qst}
set_option maxRecDepth 100000 in
set_option maxHeartbeats 3200000 in
theorem looks_some (j : JW Y0 B G w st h qs) (r : Rw st h qs) (g : Int) (hg : wfk g) (k : Nat) (o : On) (b : Nat) (l : List Int) (hf : st.f g = some (o.t, b)) (ha : at_ qs.L g = (k : Int)) (hk : qs.L[k]? = some o) (hb : h b = some l) (gd : Good l o.F) :
    Calls Try.prog 10 #[.pointer (some ⟨B, 0, none⟩), .pointer (some ⟨G, 0, none⟩), .int .i64 g] w (LoW Y0 B G st qs w) := by
  unfold LoW
  have hl := r.len j
  have ht : o.t < 256 := by have := r.tt o (List.mem_of_getElem? hk); have := j.bd; have := r.T; omega
  have hM := r.M
  have hv := (j.get hb).2.2
  obtain ⟨v, s, q, n⟩ := j
  have CL := hide (Wa.clock_any s g hg o.t b l hf hb)
  have hkl : k < qs.L.length := (List.getElem?_eq_some_iff.1 hk).1
  -- whatever follows the clock
  have NXT : Hid (∀ (A : Nat) (w1 : World), h A = none → WW (YQ Y0 G v) B w1 st (upd h A l) → Kp (YQ Y0 G v) w w1 → JW Y0 B G w1 st (upd h A l) qs ∧ Kp Y0 w w1 ∧ Rw st (upd h A l) qs ∧ upd h A l A = some l ∧ upd h A l b = some l) := fun A w1 hA s1 k1 => by
    have pg := JW.pg q n s1 k1
    exact ⟨pg.1, pg.2, r.ext (Wa.Ext.upd hA), upd_same _ _ _, Wa.Ext.upd hA b l hb⟩
  have GD : Hid (nth l o.t = rg o.F (o.t : Int)) := by show _ = _; rw [gd o.t ht, rg_in o.F ht]
  have VL := hide (nth_ok hv o.t)
  have GO := hide gd
  have HK := hide hk
  clear s q n r hv hb gd
  obtain ⟨kz, hkz⟩ : ∃ kz : Int, rg o.F (o.t : Int) = kz := ⟨_, rfl⟩
  have HKZ := hide hkz
  rw [hkz] at GD
  clear hkz
  go_enter Try.func10, Try.ntmps10
  go_wp2_with fail
  refine CL.out.mono ?_
  rintro e w1 ⟨A, rfl, hA, s1, k1⟩
  obtain ⟨j1, kp1, r1, h1A, h1b⟩ := NXT.out A w1 hA s1 k1
  have J1 := hide (fun u (b : Below w1.heap.size w1 u) => j1.below b)
  have KP1 := hide (fun u (b : Below w1.heap.size w1 u) => Wa.kp_b kp1 b j1.ylt)
  have R1 := hide r1
  obtain ⟨v1, s2, q2, n2⟩ := j1
  obtain ⟨ck, cn, vl⟩ := s2.get h1A
  have TI := hide (fun u (b : Below w1.heap.size w1 u) => Wa.tid_some (s2.below b) g hg o.t _ hf)
  have CA := hide (fun u (bb : Below w1.heap.size w1 u) => Wa.can_any (s2.below bb) g hg o.t b l hf h1b)
  have EP := hide (fun u (bb : Below w1.heap.size w1 u) => Wa.epoch_some (s2.below bb) g hg o.t b l hf h1b)
  have AT := hide (fun u (bb : Below w1.heap.size w1 u) => at_any (q2.below bb) g hl)
  have CN := hide (fun u (bb : Below w1.heap.size w1 u) => can_yes (q2.below bb) g hl k o ha HK.out)
  rw [ha] at AT
  rw [GD.out] at CA EP VL
  rw [HKZ.out, ← hM] at CN
  obtain ⟨oa, c, rfl⟩ := own_sl q2.ow
  obtain ⟨b', rfl, ro⟩ := row_ro q2.ow HK.out
  obtain ⟨nn, hnn⟩ : ∃ nn, qs.L.length = nn := ⟨_, rfl⟩
  have CE := hide (fun u (bb : Below w1.heap.size w1 u) => (q2.below bb).cells)
  have hlt := q2.lt
  have RO := hide (fun u (bb : Below w1.heap.size w1 u) => ro.below bb)
  rw [hnn] at CE hkl hl
  have hkl' : (k : Int) < (nn : Int) := by omega
  have h256 : l.length ≤ 256 := by obtain ⟨_, _, _, _, _, _, q⟩ := ck; exact q
  obtain ⟨nl, hnl⟩ : ∃ nl, l.length = nl := ⟨_, rfl⟩
  have L1 := hide (fun u (bb : Below w1.heap.size w1 u) => Wa.list_is A l nl u (ck.below bb) hnl)
  have L2 := hide (fun (D : Nat) (u : World) (ra : RA u D 0 o.F) => rlist_l l nl o.F u ra hnl GO.out vl cn h256)
  have HNL := hide (And.intro hnl h256)
  have zr := zero_ref
  have zs := ra_size nf
  have vs_ := ra_size o.F
  clear s2 q2 n2 ro ck cn vl h256 hnl hnn r1 kp1 hA s1 k1 h1A h1b CL NXT hf ha
  obtain ⟨tz, htz⟩ : ∃ tz : Int, (o.t : Int) = tz := ⟨_, rfl⟩
  rw [htz] at TI EP
  have HTZ := hide htz
  clear htz
  go_wp2_with fail
  refine (TI.out _ (Below.refl _ _)).mono ?_
  rintro e w2 ⟨rfl, b2⟩
  have B2 := hide b2
  clear b2
  go_wp2_with fail
  refine (AT.out _ B2.out).mono ?_
  rintro e w3 ⟨rfl, b3⟩
  have B3 := hide (btr B2.out b3)
  clear b3 B2
  have d0 : decide (0 ≤ (k : Int)) = true := by simp
  have d1 : decide ((k : Int) < 0) = false := by simp
  go_wp2_with fail
  refine (CA.out _ B3.out).mono ?_
  rintro e w4 ⟨rfl, b4⟩
  have B4 := hide (btr B3.out b4)
  clear b4 B3
  go_wp2_with fail
  refine (CN.out _ B4.out).mono ?_
  rintro e w5 ⟨rfl, b5⟩
  have B5 := hide (btr B4.out b5)
  clear b5 B4
  obtain ⟨-, -, y2⟩ := CE.out _ B5.out
  have hG5 : G < w5.heap.size := Nat.lt_of_lt_of_le hlt B5.out.size
  have LD := hide (ldv_ref (RO.out _ B5.out).F)
  have st1 := st_ref o.F (heap_new w5 (.cells (ra nf) 59)) (ra_size nf)
  rw [setRow_new] at st1
  have bA := below_alloc w5 (.cells (ra o.F) 59)
  have B6 := hide (btr B5.out bA)
  have RA2 := hide (RA.of (heap_new w5 (.cells (ra o.F) 59)))
  have y2b := cellB y2 bA
  have t1 := cellB (RO.out _ B5.out).t bA
  have GT := hide (fun u (bu : Below (w5.alloc (.cells (ra o.F) 59)).heap.size (w5.alloc (.cells (ra o.F) 59)) u) => rget_any w5.heap.size 0 o.F tz u (RA2.out.below bu))
  have RL := hide (fun u (bu : Below (w5.alloc (.cells (ra o.F) 59)).heap.size (w5.alloc (.cells (ra o.F) 59)) u) => L2.out w5.heap.size u (RA2.out.below bu))
  have FIN : Hid (∀ u, Below (w5.alloc (.cells (ra o.F) 59)).heap.size (w5.alloc (.cells (ra o.F) 59)) u → ∃ h', JW Y0 B G u st h' qs ∧ Rw st h' qs ∧ Kp Y0 w u) := fun u bu => ⟨_, J1.out u (btr B6.out bu), R1.out, KP1.out u (btr B6.out bu)⟩
  rw [HTZ.out] at HKZ
  simp only [HKZ.out] at GT
  rw [HTZ.out] at t1
  clear bA RA2 L2 J1 KP1 R1 hlt
  obtain ⟨V, hV⟩ : ∃ V, ra o.F = V := ⟨_, rfl⟩
  obtain ⟨Z, hZ⟩ : ∃ Z, ra nf = Z := ⟨_, rfl⟩
  rw [hV] at LD st1 B6 y2b t1 GT vs_ RL FIN
  rw [hZ] at st1 zr zs
  clear hV hZ
  go_upto_region 9 with (refine wpL_load rfl 59 _ rfl _ _ rfl LD.out ?_)
  clear st1 zr zs LD
  generalize w5.alloc (.cells V 59) = W1 at *
  generalize w5.heap.size = D at *
  have PK := hide (fun u => pack_z tz kz (by have := HTZ.out; omega) (by have := HTZ.out; omega) VL.out.1 VL.out.2 u)
  try simp only [List.append_eq, List.cons_append, List.nil_append]
  go_region_held3 (fun w' => w'.cell? ⟨G, 2, none⟩ = some (.slice (some ⟨b', 0, none⟩) nn c) ∧ w'.cell? ⟨b', k * 258 + 1, none⟩ = some (.int .i64 tz))
    (go_keep)
    ((first | (go_at_call 38; refine (GT.out _ (Ba.bdrew1 _)).mono ?_; rintro e v1 ⟨rfl, e1⟩; subst e1) | (go_at_call 37; refine (PK.out _).mono ?_; rintro e v2 ⟨⟨e5, rfl, he5⟩, e2⟩; subst e2)))
  have HE := hide he5
  clear he5 PK
  go_wp2_with fail
  refine (GT.out _ (Ba.bdrew1 _)).mono ?_
  rintro e v1 ⟨rfl, e1⟩
  subst e1
  have dt : (tz == tz) = true := by simp
  by_cases hz : kz = 0
  · have dz : (kz == 0) = true := by simpa using hz
    have E0 : Hid (Wa.epk tz kz = 0) := by
      show _ = _
      unfold Wa.epk
      rw [if_neg (by omega)]
    rw [E0.out] at EP
    clear hz HE
    go_wp2_with fail
    refine (EP.out _ (btr B6.out (Ba.bdrew1 _))).mono ?_
    rintro e v3 ⟨rfl, b7⟩
    have F := hide (FIN.out v3 (btr (Ba.bdrew1 _) b7))
    clear b7
    go_wp2_with fail
    go_ret
    exact ⟨rfl, F.out⟩
  · have dz : (kz == 0) = false := by simpa using hz
    obtain rfl : e5 = 0 := by
      rcases HE.out with q | q
      · exact absurd q hz
      · exact q
    clear hz HE
    generalize Wa.epk tz kz = ek at *
    have dek : (ek == ek) = true := by simp
    go_wp2_with fail
    refine (EP.out _ (btr B6.out (Ba.bdrew1 _))).mono ?_
    rintro e v3 ⟨rfl, b7⟩
    have B7 := hide (btr (Ba.bdrew1 _) b7)
    clear b7
    go_wp2_with fail
    refine (L1.out _ (btr B6.out B7.out)).mono ?_
    rintro e v4 ⟨oa1, rfl, t4, d4⟩
    have B8 := hide (btr B7.out d4)
    have RL4 := hide (RL.out _ B8.out)
    have T4 := hide (fun u (b : Below v4.heap.size v4 u) => t4.below b)
    clear t4 d4 B7
    go_wp2_with fail
    refine RL4.out.mono ?_
    rintro e v5 ⟨oa2, ca2, rfl, t5, d5⟩
    have B9 := hide (btr B8.out d5)
    have IN := hide (Wa.ints_b oa1 oa2 l l nl nl nl ca2 true (by simp) HNL.out.1 HNL.out.1 v5 (T4.out _ d5) t5 (by have := HNL.out.1; have := HNL.out.2; omega) (by have := HNL.out.1; have := HNL.out.2; omega))
    clear t5 d5 B8
    go_wp2_with fail
    refine IN.out.mono ?_
    rintro e v6 ⟨rfl, d6⟩
    have F := hide (FIN.out v6 (btr B9.out d6))
    clear d6
    go_wp2_with fail
    go_ret
    exact ⟨rfl, F.out⟩
/-- A look at whomever. -/
theorem looks_any (j : JW Y0 B G w st h qs) (r : Rw st h qs) (g : Int) (hg : wfk g) :
    Calls Try.prog 10 #[.pointer (some ⟨B, 0, none⟩), .pointer (some ⟨G, 0, none⟩), .int .i64 g] w (LoW Y0 B G st qs w) := by
  rcases r.at g with ⟨h1, h2⟩ | ⟨k, o, b, l, h1, h2, h3, h4, h5, h6⟩
  · refine (looks_none j r g hg h1 h2).mono ?_
    rintro e w' ⟨rfl, bb⟩
    exact ⟨rfl, h, j.below bb, r, j.kp bb⟩
  · exact looks_some j r g hg k o b l h1 h2 h3 h5 h6
end
end Wq
end Go.Proofs.Ytfimfgffbfjkeaa
/- Layer 16's law: does, whatever the step, over this seat's program. -/
namespace Go.Proofs.Ytfimfgffbfjkeaa
open Go.ChangeShapes Go.WideShapes Go.ChangeAt Go.RowKit
namespace Wq
open Ck
open Wa (Wst)

/-- Whatever the step says, both sides are at one behind it, and what was there before is kept. -/
theorem does_any {Y0 : Nat → Prop} {B G : Nat} {w : World} {st : Wst} {h : Nat → Option (List Int)} {qs : Qst} (j : JW Y0 B G w st h qs) (r : Rw st h qs) (wh g k : Int) (hg : wfk g) (hk : wfk k) (oa : Option Addr) (n cap : Nat) (l : List Int) (hn : l.length = n) (hA : Ck.At w oa l) (hlc : n ≤ cap) (hcm : cap ≤ maxLen) :
    Calls Try.prog 9 #[.pointer (some ⟨B, 0, none⟩), .pointer (some ⟨G, 0, none⟩), .agg #[.int .i64 wh, .int .i64 g, .int .i64 k, .slice oa n cap]] w (DoW Y0 B G qs wh w) := by
  by_cases e0 : wh = 0
  · exact does_spawn j r wh (.inl (by rw [e0]; rfl)) g k hg hk oa n cap
  by_cases e1 : wh = 1
  · exact does_spawn j r wh (.inr ⟨by rw [e1]; rfl, by rw [e1]; rfl⟩) g k hg hk oa n cap
  by_cases e2 : wh = 2
  · rw [e2]; exact does_know j r g k hg oa n cap l hn hA hlc hcm
  by_cases e3 : wh = 3
  · rw [e3]; exact does_tell3 j r g k hg hk oa n cap
  by_cases e4 : wh = 4
  · rw [e4]; exact does_tell4 j r g k hg hk oa n cap
  by_cases e5 : wh = 5
  · rw [e5]; exact does_retire j r g k hg oa n cap
  exact does_else j r wh (beq_eq_false_iff_ne.mpr e0) (beq_eq_false_iff_ne.mpr e1) (beq_eq_false_iff_ne.mpr e2) (beq_eq_false_iff_ne.mpr e3) (beq_eq_false_iff_ne.mpr e4) (beq_eq_false_iff_ne.mpr e5) g k oa n cap
end Wq
end Go.Proofs.Ytfimfgffbfjkeaa
/- Layer 16: a step of the laws among their arguments, opened, with keys well formed. -/
namespace Go.Proofs.Ytfimfgffbfjkeaa
open Go.ChangeShapes Go.WideShapes Go.ChangeAt Go.RowKit
namespace Wq
open Ck
open Wa (Wst)

/-- a step -/
structure Stp where
  wh : Int
  g : Int
  k : Int
  c : List Int
/-- what a step's cells are -/
def StE (w : World) (cs : List Value) (z : Stp) : Prop :=
  ∃ oa cap, cs = [.int .i64 z.wh, .int .i64 z.g, .int .i64 z.k, .slice oa z.c.length cap] ∧ Ck.At w oa z.c ∧ z.c.length ≤ cap ∧ cap ≤ maxLen ∧ wfk z.g ∧ wfk z.k
theorem StE.below {w w' : World} (hb : Below w.heap.size w w') {cs : List Value} {z : Stp} (h : StE w cs z) : StE w' cs z := by
  obtain ⟨oa, cap, h1, h2, h3⟩ := h
  exact ⟨oa, cap, h1, h2.below hb, h3⟩
theorem fields_st : ∃ fs : Array Field, Try.prog.underlying 33 = some (.struct fs) ∧ fs.size = 4 ∧ (∃ f, fs[0]? = some f ∧ f.offset = 0 ∧ f.type = 3) ∧ (∃ f, fs[1]? = some f ∧ f.offset = 1 ∧ f.type = 3) ∧ (∃ f, fs[2]? = some f ∧ f.offset = 2 ∧ f.type = 3) ∧ (∃ f, fs[3]? = some f ∧ f.offset = 3 ∧ f.type = 31) :=
  ⟨_, Try.underlying33, rfl, ⟨_, rfl, rfl, rfl⟩, ⟨_, rfl, rfl, rfl⟩, ⟨_, rfl, rfl, rfl⟩, ⟨_, rfl, rfl, rfl⟩⟩
theorem cells_tis : Try.prog.cellsOf 31 = 1 := by kernel_rfl
theorem cells_stp : Try.prog.cellsOf 33 = 4 := by kernel_rfl
theorem list4 : ∀ (cs : List Value) {y0 y1 y2 y3 : Value}, cs.length = 4 → cs[0]? = some y0 → cs[1]? = some y1 → cs[2]? = some y2 → cs[3]? = some y3 → cs = [y0, y1, y2, y3]
  | [_, _, _, _], _, _, _, _, _, h0, h1, h2, h3 => by
    simp at h0 h1 h2 h3
    rw [h0, h1, h2, h3]
theorem step_el {H : Type} {enc : TypeId × Value → H} {w : World} (n : Nat) (cs : List Value) (x : DataW H × List MemPlace) (h : DataW.trod enc Try.prog w 0 (fun _ => true) true n 33 cs = some x) : ∃ z, StE w cs z := by
  obtain ⟨fs, hu, hsz, ⟨f0, g0, o0, t0⟩, ⟨f1, g1, o1, t1⟩, ⟨f2, g2, o2, t2⟩, ⟨f3, g3, o3, t3⟩⟩ := fields_st
  obtain ⟨xs, k, _, hxx, hcl, hxl, hff⟩ := DataW.trod_struct hu h
  rw [hsz] at hxl
  rw [cells_stp] at hcl
  have a0 := hff 0 f0 g0
  have a1 := hff 1 f1 g1
  have a2 := hff 2 f2 g2
  have a3 := hff 3 f3 g3
  rw [o0, t0, Ba.cells_int, List.getElem?_eq_getElem (by omega)] at a0
  rw [o1, t1, Ba.cells_int, List.getElem?_eq_getElem (by omega)] at a1
  rw [o2, t2, Ba.cells_int, List.getElem?_eq_getElem (by omega)] at a2
  rw [o3, t3, cells_tis, List.getElem?_eq_getElem (by omega)] at a3
  obtain ⟨v0, e0, _⟩ := DataW.trod_int Try.underlying3 a0
  obtain ⟨v1, e1, _, w1⟩ := DataW.trod_int Try.underlying3 a1
  obtain ⟨v2, e2, _, w2⟩ := DataW.trod_int Try.underlying3 a2
  have hs : ∃ oa len cap, (cs.drop 3).take 1 = [.slice oa len cap] := by
    rcases Go.Deep.open_slice Try.underlying31 a3 with ⟨hcs, _⟩ | ⟨a, len, cap, m, n', D, Pl, hcs, _⟩
    · exact ⟨_, _, _, hcs⟩
    · exact ⟨_, _, _, hcs⟩
  obtain ⟨oa, len, cap, e3⟩ := hs
  rw [e3] at a3
  obtain ⟨l, rfl, hA, h1, h2⟩ := Ba.ints_open a3
  refine ⟨⟨v0, v1, v2, l⟩, oa, cap, ?_, hA, h1, h2, w1, w2⟩
  exact list4 cs hcl (Ba.one_of e0) (Ba.one_of e1) (Ba.one_of e2) (Ba.one_of e3)
theorem steps_open {H : Type} {enc : TypeId × Value → H} {w : World} {n : Nat} {oa : Option Addr} {len cap : Nat} {x : DataW H × List MemPlace} (h : DataW.trod enc Try.prog w 0 (fun _ => true) true n 22 [.slice oa len cap] = some x) : ∃ l : List Stp, l.length = len ∧ Ba.GAt w oa 4 (StE w) l ∧ len ≤ cap ∧ cap ≤ maxLen :=
  haveI : Inhabited Stp := ⟨⟨0, 0, 0, []⟩⟩
  Ba.grecs_open Try.underlying22 (by decide) cells_stp step_el h
/-- A step of the law's list, on both sides. -/
theorem does_stp {Y0 : Nat → Prop} {B G : Nat} {w : World} {st : Wst} {h : Nat → Option (List Int)} {qs : Qst} (j : JW Y0 B G w st h qs) (r : Rw st h qs) {cs : List Value} {z : Stp} (s : StE w cs z) :
    Calls Try.prog 9 #[.pointer (some ⟨B, 0, none⟩), .pointer (some ⟨G, 0, none⟩), .agg cs.toArray] w (DoW Y0 B G qs z.wh w) := by
  obtain ⟨oa, cap, rfl, hA, h1, h2, hg, hk⟩ := s
  exact does_any j r z.wh z.g z.k hg hk oa z.c.length cap z.c rfl hA h1 h2
end Wq
end Go.Proofs.Ytfimfgffbfjkeaa
