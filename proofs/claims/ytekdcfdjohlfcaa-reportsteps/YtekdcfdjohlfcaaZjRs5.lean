import Derived.Test.YtekdcfdjohlfcaaZjRs4
import Derived.Deep.Slices
import Derived.ShutString
import Derived.ChangeOld
import Derived.Deep.Cut
import Derived.Deep.RegionHeld3
/- Layer 19's laws, over this seat's program: the small case that each of them asks. -/
namespace Go.Proofs.Ytekdcfdjohlfcaa
open Go.ChangeShapes Go.WideShapes Go.ChangeAt Go.RowKit
namespace Rep
open Ck Ce
open Ba (hide KF)
open Ep (tidOf clkOf ownB)

theorem RX.new {Y : Nat → Prop} {X : Nat} {w w' : World} {S : Rst} {mb : Nat} {D : DataW Unit} {xs : Nat → Nat} {vs : Nat → Value} (s : RX Y X w S mb D xs vs) (b : Below w.heap.size w w') : RX (Yp Y w w') X w' S mb D xs vs := by
  refine s.mv (fun k q => b.block k (s.bl k q)) (fun k q r => ?_) (fun k q => ?_) b.size
  · rcases q with q | q
    · exact s.bd k r q
    · have := s.bl k r; omega
  · rcases q with q | q
    · exact Nat.lt_of_lt_of_le (s.yl k q) b.size
    · exact q.2
def t1 : Aq := ⟨5, 0, 3, true⟩
def t2 : Aq := ⟨8, 1, 3, true⟩
def S01 : Rst := putS S00 t1 3 4294967297 []
def S02 : Rst := putS S01 t2 3 8589934593 []
theorem two_b1 : putB S00 t1 3 4294967297 [] = false := by decide
theorem two_b2 : putB S01 t2 3 8589934593 [] = true := by decide
theorem two_rl : rl S02.f 8 = [⟨3, 8, 1, 1, true⟩] := by rfl
set_option maxRecDepth 100000 in
set_option maxHeartbeats 3200000 in
theorem small19 (w : World) : Calls Try.prog 21 #[] w fun r w' => r = .returned (.bool true) ∧ Below w.heap.size w w' := by
  have NA := hide (new_any' w)
  unfold pt at NA
  go_enter Try.func21, Try.ntmps21
  go_wp2_with fail
  refine NA.out.mono ?_
  rintro r w1 ⟨rfl, s1, k1⟩
  have S1 := hide s1
  have K1 := hide k1
  clear s1 k1 NA
  obtain ⟨X, hX⟩ : ∃ X, w.heap.size + 1 = X := ⟨_, rfl⟩
  rw [hX] at S1 ⊢
  clear hX
  go_wp2_with fail
  refine (Ep.pack_ok 0 1 (by decide) (by decide) (by decide) (by decide) _).mono ?_
  rintro r w0 ⟨rfl, e0⟩
  obtain rfl := e0.symm
  go_wp2_with fail
  refine (Ep.pack_ok 1 1 (by decide) (by decide) (by decide) (by decide) _).mono ?_
  rintro r w0 ⟨rfl, e0⟩
  obtain rfl := e0.symm
  go_wp2_with fail
  refine (cnew_any _).mono ?_
  rintro r w2 ⟨b2, rfl, bl2, n2⟩
  have P1 := put_ok (S1.out.new bl2) t1 3 rfl (by unfold badA t1; decide) 4294967297 (by decide) b2 [] (n2 _)
  unfold PutR at P1
  rw [two_b1] at P1
  have K2 := hide (K1.out.trans (KY.of bl2 S1.out.yl))
  have PH := hide P1
  have SUB := hide (fun k (q : Lw w k) => Yp.sub (w := w1) (w' := w2) q)
  clear P1 n2 bl2 S1 K1
  unfold aV t1 at PH
  go_wp2_with fail
  refine PH.out.mono ?_
  rintro r w3 ⟨rfl, ⟨D3, vs3, s3⟩, k3⟩
  have S3 := hide (s3.less SUB.out)
  have K3 := hide (K2.out.trans (k3.mono SUB.out))
  clear s3 k3 PH K2 SUB
  go_wp2_with fail
  refine (cnew_any _).mono ?_
  rintro r w4 ⟨b4, rfl, bl4, n4⟩
  have P2 := put_ok (S3.out.new bl4) t2 3 rfl (by unfold badA t2; decide) 8589934593 (by decide) b4 [] (n4 _)
  unfold PutR at P2
  have K4 := hide (K3.out.trans (KY.of bl4 S3.out.yl))
  have hb2 : putB (putS S00 ⟨5, 0, 3, true⟩ 3 4294967297 []) t2 3 8589934593 [] = true := two_b2
  rw [hb2] at P2
  have PH := hide P2
  have SUB := hide (fun k (q : Lw w k) => Yp.sub (w := w3) (w' := w4) q)
  clear P2 n4 bl4 S3 K3 hb2
  unfold aV t2 at PH
  go_wp2_with fail
  refine PH.out.mono ?_
  rintro r w5 ⟨rfl, ⟨D5, vs5, s5⟩, k5⟩
  have S5 := hide (s5.less SUB.out)
  have K5 := hide (K4.out.trans (k5.mono SUB.out))
  clear s5 k5 PH K4 SUB
  have RS := races_any' S5.out
  have hrl : rl (putS (putS S00 ⟨5, 0, 3, true⟩ 3 4294967297 []) ⟨8, 1, 3, true⟩ 3 8589934593 []).f 8 = [⟨3, 8, 1, 1, true⟩] := two_rl
  rw [hrl] at RS
  unfold RcR at RS
  have RH := hide RS
  clear RS hrl
  go_wp2_with fail
  refine RH.out.mono ?_
  rintro r w6 ⟨v, rfl, o6, b6⟩
  have K6 := hide (K5.out.trans (KY.of b6 S5.out.yl))
  rcases o6.2 with ⟨-, q⟩ | ⟨gD, cD, cr, rfl, -⟩
  · cases q
  have q0 := o6.cellAt 0 (by decide)
  have q1 := o6.cellAt 1 (by decide)
  have q2 := o6.cellAt 2 (by decide)
  have q3 := o6.cellAt 3 (by decide)
  have q4 := o6.cellAt 4 (by decide)
  simp [rcC, ra5] at q0 q1 q2 q3 q4
  clear o6 b6 S5 K5 RH
  go_wp2_with fail
  go_ret
  exact ⟨rfl, K6.out.lw⟩
end Rep
end Go.Proofs.Ytekdcfdjohlfcaa
/- A list of int among a law's arguments, opened. -/
namespace Go.Proofs.Ytekdcfdjohlfcaa
open Go.ChangeShapes Go.WideShapes Go.ChangeAt Go.RowKit
namespace Ba

section
variable {H : Type} {enc : TypeId × Value → H} {w : World}
theorem ints_open {fuel : Nat} {oa : Option Addr} {len cap : Nat} {x : DataW H × List MemPlace} (h : DataW.trod enc Try.prog w 0 (fun _ => true) true fuel 31 [.slice oa len cap] = some x) : ∃ l, l.length = len ∧ At w oa l ∧ len ≤ cap ∧ cap ≤ maxLen := by
  rcases open_ints Try.underlying31 Try.underlying3 (by kernel_rfl) h with ⟨hcs, _⟩ | ⟨x, l, c, zs, hcs, _, hl, hm, hz, _, hcell, hwz⟩
  · simp at hcs
    obtain ⟨rfl, rfl, rfl⟩ := hcs
    exact ⟨[], rfl, At.nil _ _, Nat.le_refl _, Nat.zero_le _⟩
  · simp at hcs
    obtain ⟨rfl, rfl, rfl⟩ := hcs
    simp at hz
    refine ⟨zs.take len, by simp; omega, fun k hk => ?_, hl, hm⟩
    have hk' : k < len ∧ k < zs.length := by simp at hk; omega
    obtain ⟨b, off, spot⟩ := x
    have hspot : spot = none := by simpa [Addr.add] using World.cell?_spot (hcell 0 (by omega))
    subst hspot
    have hc := hcell k hk'.2
    refine ⟨b, off, rfl, ?_⟩
    rw [nth_take zs len k hk'.1]
    rw [Addr.add_lit] at hc
    exact hc
end
end Ba
end Go.Proofs.Ytekdcfdjohlfcaa
/- A list of records of whatever make among a law's arguments, opened: what each one's cells are. -/
namespace Go.Proofs.Ytekdcfdjohlfcaa
open Go.ChangeShapes Go.WideShapes Go.ChangeAt Go.RowKit
namespace Ba

/-- the cells from oa on hold the records l, of m cells each -/
def GAt {α : Type} (w : World) (oa : Option Addr) (m : Nat) (E : List Value → α → Prop) (l : List α) : Prop :=
  ∀ k x, l[k]? = some x → ∃ b off cs, oa = some ⟨b, off, none⟩ ∧ cs.length = m ∧ (∀ j, j < m → w.cell? ⟨b, off + k * m + j, none⟩ = cs[j]?) ∧ E cs x
theorem GAt.nil {α : Type} (w : World) (oa : Option Addr) (m : Nat) (E : List Value → α → Prop) : GAt w oa m E [] := fun _ _ h => by simp at h
theorem GAt.below {α : Type} {w w' : World} {oa : Option Addr} {m : Nat} {E E' : List Value → α → Prop} {l : List α} (h : GAt w oa m E l) (hb : Below w.heap.size w w') (hE : ∀ cs x, E cs x → E' cs x) : GAt w' oa m E' l := by
  intro k x hk
  obtain ⟨b, off, cs, he, hl, hc, hx⟩ := h k x hk
  refine ⟨b, off, cs, he, hl, fun j hj => ?_, hE cs x hx⟩
  obtain ⟨v, hv⟩ : ∃ v, cs[j]? = some v := ⟨_, List.getElem?_eq_getElem (by omega)⟩
  have := hc j hj
  rw [hv] at this
  rw [hv]
  exact (hb.cell (World.block_lt_of_cell? w _ this)).trans this
section
variable {H : Type} {enc : TypeId × Value → H} {w : World}
theorem grecs_open {α : Type} [Inhabited α] {E : List Value → α → Prop} {t e : TypeId} {m : Nat} (ht : Try.prog.underlying t = some (.slice e)) (hm0 : 0 < m) (hce : Try.prog.cellsOf e = m)
    (hE : ∀ (n : Nat) (cs : List Value) (x : DataW H × List MemPlace), DataW.trod enc Try.prog w 0 (fun _ => true) true n e cs = some x → ∃ z, E cs z)
    {n : Nat} {oa : Option Addr} {len cap : Nat} {x : DataW H × List MemPlace} (h : DataW.trod enc Try.prog w 0 (fun _ => true) true n t [.slice oa len cap] = some x) : ∃ l : List α, l.length = len ∧ GAt w oa m E l ∧ len ≤ cap ∧ cap ≤ maxLen := by
  rcases Go.Deep.open_slice ht h with ⟨hcs, _⟩ | ⟨a, len', cap', m', n', D, Pl, hcs, _, hl, hm, hmm, _, hel⟩
  · simp at hcs
    obtain ⟨rfl, rfl, rfl⟩ := hcs
    exact ⟨[], rfl, GAt.nil _ _ _ _, Nat.le_refl _, Nat.zero_le _⟩
  · simp at hcs
    obtain ⟨rfl, rfl, rfl⟩ := hcs
    have hmc : m' = cap := by simpa using hmm
    subst hmc
    have key : ∀ i, i < len → ∃ (z : α) (cs : List Value), cs.length = m ∧ (∀ j, j < m → w.cell? ((a.add (i * m)).add j) = cs[j]?) ∧ E cs z := by
      intro i hi
      obtain ⟨cs', h1, h2⟩ := hel i (by omega)
      rw [hce] at h1
      obtain ⟨_, h3, hcell⟩ := World.cells?_some h1
      obtain ⟨z, hz⟩ := hE _ _ _ h2
      exact ⟨z, cs', h3, fun j hj => hcell j (by omega), hz⟩
    have fam : ∃ f : Nat → α, ∀ i, i < len → ∃ cs : List Value, cs.length = m ∧ (∀ j, j < m → w.cell? ((a.add (i * m)).add j) = cs[j]?) ∧ E cs (f i) := by
      refine ⟨fun i => if hi : i < len then Classical.choose (key i hi) else default, fun i hi => ?_⟩
      simp only [dif_pos hi]
      exact Classical.choose_spec (key i hi)
    obtain ⟨f, hf⟩ := fam
    refine ⟨(List.range len).map f, by simp, ?_, hl, hm⟩
    intro k c hk
    have hk2 : k < len := by
      have := (List.getElem?_eq_some_iff.1 hk).1
      simpa using this
    have hc : c = f k := by
      simp [hk2] at hk
      exact hk.symm
    subst hc
    obtain ⟨cs, q0, q1, q2⟩ := hf k hk2
    have hspot : a.spot = none := by
      obtain ⟨cs0, r0, r1, -⟩ := hf 0 (by omega)
      obtain ⟨v, hv⟩ : ∃ v, cs0[0]? = some v := ⟨_, List.getElem?_eq_getElem (by omega)⟩
      have := r1 0 hm0
      rw [hv] at this
      have := World.cell?_spot this
      simpa [Addr.add] using this
    obtain ⟨b, off, spot⟩ := a
    simp at hspot
    subst hspot
    refine ⟨b, off, cs, rfl, q0, fun j hj => ?_, q2⟩
    have := q1 j hj
    rw [Addr.add_lit, Addr.add_lit] at this
    exact this
end
end Ba
end Go.Proofs.Ytekdcfdjohlfcaa
/- Layer 19's laws: an access, and steps, among their arguments, opened. -/
namespace Go.Proofs.Ytekdcfdjohlfcaa
open Go.ChangeShapes Go.WideShapes Go.ChangeAt Go.RowKit
namespace Rep
open Ck Ce

theorem cellB {w w' : World} {a : Addr} {v : Value} (h : w.cell? a = some v) (b : Below w.heap.size w w') : w'.cell? a = some v := (b.cell (World.block_lt_of_cell? w _ h)).trans h
theorem fields_acs : ∃ fs : Array Field, Try.prog.underlying 59 = some (.struct fs) ∧ fs.size = 4 ∧ (∃ f, fs[0]? = some f ∧ f.offset = 0 ∧ f.type = 3) ∧ (∃ f, fs[1]? = some f ∧ f.offset = 1 ∧ f.type = 3) ∧ (∃ f, fs[2]? = some f ∧ f.offset = 2 ∧ f.type = 3) ∧ (∃ f, fs[3]? = some f ∧ f.offset = 3 ∧ f.type = 4) :=
  ⟨_, Try.underlying59, rfl, ⟨_, rfl, rfl, rfl⟩, ⟨_, rfl, rfl, rfl⟩, ⟨_, rfl, rfl, rfl⟩, ⟨_, rfl, rfl, rfl⟩⟩
theorem cells_acs : Try.prog.cellsOf 59 = 4 := by kernel_rfl
theorem cells_boo : Try.prog.cellsOf 4 = 1 := by kernel_rfl
theorem cells_ti : Try.prog.cellsOf 31 = 1 := by kernel_rfl
theorem cells_ep : Try.prog.cellsOf 61 = 1 := by kernel_rfl
theorem list4 : ∀ (cs : List Value) {y0 y1 y2 y3 : Value}, cs.length = 4 → cs[0]? = some y0 → cs[1]? = some y1 → cs[2]? = some y2 → cs[3]? = some y3 → cs = [y0, y1, y2, y3]
  | [_, _, _, _], _, _, _, _, _, h0, h1, h2, h3 => by
    simp at h0 h1 h2 h3
    rw [h0, h1, h2, h3]
theorem acs_el {H : Type} {enc : TypeId × Value → H} {w : World} (n : Nat) (cs : List Value) (x : DataW H × List MemPlace) (h : DataW.trod enc Try.prog w 0 (fun _ => true) true n 59 cs = some x) : ∃ a, cs = (aV a).toList := by
  obtain ⟨fs, hu, hsz, ⟨f0, g0, o0, t0⟩, ⟨f1, g1, o1, t1⟩, ⟨f2, g2, o2, t2⟩, ⟨f3, g3, o3, t3⟩⟩ := fields_acs
  obtain ⟨xs, k, _, hxx, hcl, hxl, hff⟩ := DataW.trod_struct hu h
  rw [hsz] at hxl
  rw [cells_acs] at hcl
  have a0 := hff 0 f0 g0
  have a1 := hff 1 f1 g1
  have a2 := hff 2 f2 g2
  have a3 := hff 3 f3 g3
  rw [o0, t0, Ba.cells_int, List.getElem?_eq_getElem (by omega)] at a0
  rw [o1, t1, Ba.cells_int, List.getElem?_eq_getElem (by omega)] at a1
  rw [o2, t2, Ba.cells_int, List.getElem?_eq_getElem (by omega)] at a2
  rw [o3, t3, cells_boo, List.getElem?_eq_getElem (by omega)] at a3
  obtain ⟨v0, e0, _⟩ := DataW.trod_int Try.underlying3 a0
  obtain ⟨v1, e1, _⟩ := DataW.trod_int Try.underlying3 a1
  obtain ⟨v2, e2, _⟩ := DataW.trod_int Try.underlying3 a2
  obtain ⟨v3, e3, _⟩ := DataW.trod_bool Try.underlying4 a3
  exact ⟨⟨v0, v1, v2, v3⟩, list4 cs hcl (Ba.one_of e0) (Ba.one_of e1) (Ba.one_of e2) (Ba.one_of e3)⟩
theorem acs_open {H : Type} {enc : TypeId × Value → H} {w : World} {n : Nat} {v : Value} {x : DataW H × List MemPlace} (h : DataW.trod enc Try.prog w 0 (fun _ => true) true n 59 v.cells.toList = some x) : ∃ a : Aq, v = .agg (aV a) := by
  obtain ⟨a, ha⟩ := acs_el n _ x h
  refine ⟨a, ?_⟩
  have hc : v.cells = aV a := Array.toList_inj.1 ha
  cases v with
  | agg cs => rw [← hc]; rfl
  | _ => have := congrArg Array.size hc; simp [Value.cells, aV] at this
/-- a step -/
structure Stp where
  a : Aq
  e : Int
  c : List Int
  tid : Int
  cut : Int
def stV (z : Stp) (oa : Option Addr) (cap : Nat) : List Value := [.int .i64 z.a.p, .int .i64 z.a.g, .int .i64 z.a.c, .bool z.a.wr, .int .u64 z.e, .slice oa z.c.length cap, .int .i64 z.tid, .int .i64 z.cut]
def StE (w : World) (cs : List Value) (z : Stp) : Prop :=
  ∃ oa cap, cs = stV z oa cap ∧ Ck.At w oa z.c ∧ z.c.length ≤ cap ∧ cap ≤ maxLen ∧ 0 ≤ z.e ∧ z.e ≤ 18446744073709551615
theorem StE.below {w w' : World} (hb : Below w.heap.size w w') {cs : List Value} {z : Stp} (h : StE w cs z) : StE w' cs z := by
  obtain ⟨oa, cap, h1, h2, h3⟩ := h
  exact ⟨oa, cap, h1, h2.below hb, h3⟩
theorem fields_st : ∃ fs : Array Field, Try.prog.underlying 63 = some (.struct fs) ∧ fs.size = 5 ∧ (∃ f, fs[0]? = some f ∧ f.offset = 0 ∧ f.type = 59) ∧ (∃ f, fs[1]? = some f ∧ f.offset = 4 ∧ f.type = 61) ∧ (∃ f, fs[2]? = some f ∧ f.offset = 5 ∧ f.type = 31) ∧ (∃ f, fs[3]? = some f ∧ f.offset = 6 ∧ f.type = 3) ∧ (∃ f, fs[4]? = some f ∧ f.offset = 7 ∧ f.type = 3) :=
  ⟨_, Try.underlying63, rfl, ⟨_, rfl, rfl, rfl⟩, ⟨_, rfl, rfl, rfl⟩, ⟨_, rfl, rfl, rfl⟩, ⟨_, rfl, rfl, rfl⟩, ⟨_, rfl, rfl, rfl⟩⟩
theorem cells_st : Try.prog.cellsOf 63 = 8 := by kernel_rfl
theorem list8 : ∀ (cs : List Value) {y0 y1 y2 y3 y4 y5 y6 y7 : Value}, cs.length = 8 → (cs.drop 0).take 4 = [y0, y1, y2, y3] → cs[4]? = some y4 → cs[5]? = some y5 → cs[6]? = some y6 → cs[7]? = some y7 → cs = [y0, y1, y2, y3, y4, y5, y6, y7]
  | [_, _, _, _, _, _, _, _], _, _, _, _, _, _, _, _, _, h0, h4, h5, h6, h7 => by
    simp at h0 h4 h5 h6 h7
    obtain ⟨q0, q1, q2, q3⟩ := h0
    rw [q0, q1, q2, q3, h4, h5, h6, h7]
theorem step_el {H : Type} {enc : TypeId × Value → H} {w : World} (n : Nat) (cs : List Value) (x : DataW H × List MemPlace) (h : DataW.trod enc Try.prog w 0 (fun _ => true) true n 63 cs = some x) : ∃ z, StE w cs z := by
  obtain ⟨fs, hu, hsz, ⟨f0, g0, o0, t0⟩, ⟨f1, g1, o1, t1⟩, ⟨f2, g2, o2, t2⟩, ⟨f3, g3, o3, t3⟩, ⟨f4, g4, o4, t4⟩⟩ := fields_st
  obtain ⟨xs, k, _, hxx, hcl, hxl, hff⟩ := DataW.trod_struct hu h
  rw [hsz] at hxl
  rw [cells_st] at hcl
  have a0 := hff 0 f0 g0
  have a1 := hff 1 f1 g1
  have a2 := hff 2 f2 g2
  have a3 := hff 3 f3 g3
  have a4 := hff 4 f4 g4
  rw [o0, t0, cells_acs, List.getElem?_eq_getElem (by omega)] at a0
  rw [o1, t1, cells_ep, List.getElem?_eq_getElem (by omega)] at a1
  rw [o2, t2, cells_ti, List.getElem?_eq_getElem (by omega)] at a2
  rw [o3, t3, Ba.cells_int, List.getElem?_eq_getElem (by omega)] at a3
  rw [o4, t4, Ba.cells_int, List.getElem?_eq_getElem (by omega)] at a4
  obtain ⟨v0, e0⟩ := acs_el _ _ _ a0
  obtain ⟨v1, e1, _, w1⟩ := DataW.trod_int Try.underlying61 a1
  simp only [Lit.wf, Bool.and_eq_true, decide_eq_true_eq] at w1
  obtain ⟨v3, e3, _⟩ := DataW.trod_int Try.underlying3 a3
  obtain ⟨v4, e4, _⟩ := DataW.trod_int Try.underlying3 a4
  have hs : ∃ oa len cap, (cs.drop 5).take 1 = [.slice oa len cap] := by
    rcases Go.Deep.open_slice Try.underlying31 a2 with ⟨hcs, _⟩ | ⟨a, len, cap, m, n', D, Pl, hcs, _⟩
    · exact ⟨_, _, _, hcs⟩
    · exact ⟨_, _, _, hcs⟩
  obtain ⟨oa, len, cap, e2⟩ := hs
  rw [e2] at a2
  obtain ⟨l, rfl, hA, h1, h2⟩ := Ba.ints_open a2
  have u1 : 0 ≤ v1 := w1.1
  have u2 : v1 ≤ 18446744073709551615 := w1.2
  refine ⟨⟨v0, v1, l, v3, v4⟩, oa, cap, ?_, hA, h1, h2, u1, u2⟩
  exact list8 cs hcl e0 (Ba.one_of e1) (Ba.one_of e2) (Ba.one_of e3) (Ba.one_of e4)
theorem steps_open {H : Type} {enc : TypeId × Value → H} {w : World} {n : Nat} {oa : Option Addr} {len cap : Nat} {x : DataW H × List MemPlace} (h : DataW.trod enc Try.prog w 0 (fun _ => true) true n 53 [.slice oa len cap] = some x) : ∃ l : List Stp, l.length = len ∧ Ba.GAt w oa 8 (StE w) l ∧ len ≤ cap ∧ cap ≤ maxLen :=
  haveI : Inhabited Stp := ⟨⟨⟨0, 0, 0, false⟩, 0, [], 0, 0⟩⟩
  Ba.grecs_open Try.underlying53 (by decide) cells_st step_el h
end Rep
end Go.Proofs.Ytekdcfdjohlfcaa
/- Layer 19's laws, over this seat's program: two reports side by side; whatever is put or retired. -/
namespace Go.Proofs.Ytekdcfdjohlfcaa
open Go.ChangeShapes Go.WideShapes Go.ChangeAt Go.RowKit
namespace Rep
open Ck Ce
open Ba (hide KF)
open Ep (tidOf clkOf ownB)

open Classical in
/-- whatever is retired, or put -/
noncomputable def retA (S : Rst) (tid cut : Int) : Rst := if badR tid cut then S else ⟨rtC S tid cut 8, S.f⟩
open Classical in
noncomputable def putA (S : Rst) (a : Aq) (e : Int) (l : List Int) : Rst := if badA a ∨ ownB e = false then S else putS S a a.c.toNat e l
open Classical in
noncomputable def putO (S : Rst) (a : Aq) (e : Int) (l : List Int) : Bool := if badA a ∨ ownB e = false then false else putB S a a.c.toNat e l
open Classical in
noncomputable def putE (a : Aq) (e : Int) : Int := if badA a ∨ ownB e = false then 1 else 0
open Classical in
noncomputable def retE (tid cut : Int) : Int := if badR tid cut then 1 else 0
section
variable {Y : Nat → Prop} {X : Nat} {w : World} {S : Rst} {mb : Nat} {D : DataW Unit} {xs : Nat → Nat} {vs : Nat → Value}
theorem put_u (s : RX Y X w S mb D xs vs) (a : Aq) (e : Int) (a0 : 0 ≤ e) (a1 : e ≤ 18446744073709551615) (b : Nat) (l : List Int) (hc : CL Y w b l) :
    Calls Try.prog 51 #[.pointer (some ⟨X, 0, none⟩), .agg (aV a), .int .u64 e, .pointer (some ⟨b, 0, none⟩)] w fun r w' => r = .returned (.tuple #[.bool (putO S a e l), .int .i64 (putE a e)]) ∧ (∃ D' vs', RX Y X w' (putA S a e l) mb D' xs vs') ∧ KY Y w w' := by
  unfold putO putE putA
  by_cases hb : badA a
  · rw [if_pos (.inl hb), if_pos (.inl hb), if_pos (.inl hb)]
    refine (put_arg _ a _ _ hb w).mono ?_
    rintro r w' ⟨rfl, b1⟩
    exact ⟨rfl, ⟨_, _, s.below b1⟩, KY.of b1 s.yl⟩
  · cases ho : ownB e
    · rw [if_pos (.inr rfl), if_pos (.inr rfl), if_pos (.inr rfl)]
      refine (put_bad s a e a0 a1 _ hb ho).mono ?_
      rintro r w' ⟨rfl, b1⟩
      exact ⟨rfl, ⟨_, _, s.below b1⟩, KY.of b1 s.yl⟩
    · have hn : ¬ (badA a ∨ true = false) := fun q => q.elim hb (by decide)
      rw [if_neg hn, if_neg hn, if_neg hn]
      have hc0 : a.c = (a.c.toNat : Int) := by unfold badA at hb; omega
      exact put_ok s a a.c.toNat hc0 hb e ho b l hc
theorem ret_u (s : RX Y X w S mb D xs vs) (tid cut : Int) :
    Calls Try.prog 53 #[.pointer (some ⟨X, 0, none⟩), .int .i64 tid, .int .i64 cut] w fun r w' => r = .returned (.int .i64 (retE tid cut)) ∧ (∃ vs', RX Y X w' (retA S tid cut) mb D xs vs') ∧ KY Y w w' := by
  unfold retA retE
  by_cases hb : badR tid cut
  · rw [if_pos hb, if_pos hb]
    have hc := cell_at s 0 (by decide)
    refine (retire_arg' _ tid cut hb w ⟨_, hc⟩).mono ?_
    rintro r w' ⟨rfl, rfl⟩
    exact ⟨rfl, ⟨_, s⟩, KY.refl _ _⟩
  · rw [if_neg hb, if_neg hb]
    exact retire_ok' s tid cut hb
end
def Ua (Y B : Nat → Prop) : Nat → Prop := fun k => Y k ∨ B k
/-- two reports -/
def PW (Y : Nat → Prop) (X1 X2 : Nat) (w : World) (S1 S2 : Rst) : Prop := ∃ m1 D1 x1 v1 m2 D2 x2 v2, RX (Ua Y (Rb X2 m2 x2 v2)) X1 w S1 m1 D1 x1 v1 ∧ RX (Ua Y (Rb X1 m1 x1 v1)) X2 w S2 m2 D2 x2 v2
section
variable {Y Z : Nat → Prop} {X1 X2 : Nat} {w w' : World} {S1 S2 : Rst}
theorem PW.sym (h : PW Y X1 X2 w S1 S2) : PW Y X2 X1 w S2 S1 := by
  obtain ⟨m1, D1, x1, v1, m2, D2, x2, v2, s1, s2⟩ := h
  exact ⟨m2, D2, x2, v2, m1, D1, x1, v1, s2, s1⟩
theorem PW.yl (h : PW Y X1 X2 w S1 S2) : ∀ k, Y k → k < w.heap.size := by
  obtain ⟨m1, D1, x1, v1, m2, D2, x2, v2, s1, s2⟩ := h
  exact fun k q => s1.yl k (.inl q)
theorem PW.fk (h : PW Y X1 X2 w S1 S2) : ∀ g, (S1.f g).isSome = true → 0 ≤ g ∧ g < 8 := by
  obtain ⟨m1, D1, x1, v1, m2, D2, x2, v2, s1, s2⟩ := h
  exact s1.fk
theorem PW.more (h : PW Y X1 X2 w S1 S2) (b : Below w.heap.size w w') (hz : ∀ k, Z k → Y k ∨ w.heap.size ≤ k) (hl : ∀ k, Z k → k < w'.heap.size) : PW Z X1 X2 w' S1 S2 := by
  obtain ⟨m1, D1, x1, v1, m2, D2, x2, v2, s1, s2⟩ := h
  refine ⟨m1, D1, x1, v1, m2, D2, x2, v2, s1.mv (fun k q => b.block k (s1.bl k q)) ?_ ?_ b.size, s2.mv (fun k q => b.block k (s2.bl k q)) ?_ ?_ b.size⟩
  · rintro k (q | q) r
    · rcases hz k q with q | q
      · exact s1.bd k r (.inl q)
      · have := s1.bl k r; omega
    · exact s1.bd k r (.inr q)
  · rintro k (q | q)
    · exact hl k q
    · exact Nat.lt_of_lt_of_le (s2.bl k q) b.size
  · rintro k (q | q) r
    · rcases hz k q with q | q
      · exact s2.bd k r (.inl q)
      · have := s2.bl k r; omega
    · exact s2.bd k r (.inr q)
  · rintro k (q | q)
    · exact hl k q
    · exact Nat.lt_of_lt_of_le (s1.bl k q) b.size
theorem PW.new (h : PW Y X1 X2 w S1 S2) (b : Below w.heap.size w w') : PW (Yp Y w w') X1 X2 w' S1 S2 :=
  h.more b (fun k q => q.imp id And.left) (fun k q => by
    rcases q with q | q
    · exact Nat.lt_of_lt_of_le (h.yl k q) b.size
    · exact q.2)
theorem PW.below (h : PW Y X1 X2 w S1 S2) (b : Below w.heap.size w w') : PW Y X1 X2 w' S1 S2 := h.more b (fun _ q => .inl q) (fun k q => Nat.lt_of_lt_of_le (h.yl k q) b.size)
theorem PW.less (h : PW Y X1 X2 w S1 S2) (i : ∀ k, Z k → Y k) : PW Z X1 X2 w S1 S2 := h.more (Below.refl _ _) (fun k q => .inl (i k q)) (fun k q => h.yl k (i k q))
/-- one of them has changed -/
theorem PW.of1 {m1 m2 : Nat} {D1' D2 : DataW Unit} {x1 x2 : Nat → Nat} {v1 v1' v2 : Nat → Value} {S1' : Rst} (s2 : RX (Ua Y (Rb X1 m1 x1 v1)) X2 w S2 m2 D2 x2 v2) (s1 : RX (Ua Y (Rb X2 m2 x2 v2)) X1 w' S1' m1 D1' x1 v1') (k : KY (Ua Y (Rb X2 m2 x2 v2)) w w') : PW Y X1 X2 w' S1' S2 := by
  refine ⟨m1, D1', x1, v1', m2, D2, x2, v2, s1, s2.mv (fun x q => k.block x (.inr q)) ?_ ?_ k.size⟩
  · rintro x (q | q) r
    · exact s2.bd x r (.inl q)
    · exact s1.bd x q (.inr r)
  · rintro x (q | q)
    · exact s1.yl x (.inl q)
    · exact s1.bl x q
theorem PW.put (h : PW Y X1 X2 w S1 S2) (a : Aq) (e : Int) (a0 : 0 ≤ e) (a1 : e ≤ 18446744073709551615) (b : Nat) (l : List Int) (hc : CL Y w b l) :
    Calls Try.prog 51 #[.pointer (some ⟨X1, 0, none⟩), .agg (aV a), .int .u64 e, .pointer (some ⟨b, 0, none⟩)] w fun r w' => r = .returned (.tuple #[.bool (putO S1 a e l), .int .i64 (putE a e)]) ∧ PW Y X1 X2 w' (putA S1 a e l) S2 ∧ KY Y w w' := by
  obtain ⟨m1, D1, x1, v1, m2, D2, x2, v2, s1, s2⟩ := h
  refine (put_u s1 a e a0 a1 b l (hc.mono fun _ q => .inl q)).mono ?_
  rintro r w' ⟨rfl, ⟨D', v', s'⟩, k⟩
  exact ⟨rfl, PW.of1 s2 s' k, k.mono fun _ q => .inl q⟩
theorem PW.ret (h : PW Y X1 X2 w S1 S2) (tid cut : Int) :
    Calls Try.prog 53 #[.pointer (some ⟨X1, 0, none⟩), .int .i64 tid, .int .i64 cut] w fun r w' => r = .returned (.int .i64 (retE tid cut)) ∧ PW Y X1 X2 w' (retA S1 tid cut) S2 ∧ KY Y w w' := by
  obtain ⟨m1, D1, x1, v1, m2, D2, x2, v2, s1, s2⟩ := h
  refine (ret_u s1 tid cut).mono ?_
  rintro r w' ⟨rfl, ⟨v', s'⟩, k⟩
  exact ⟨rfl, PW.of1 s2 s' k, k.mono fun _ q => .inl q⟩
theorem PW.first (h : PW Y X1 X2 w S1 S2) (g : Int) (hg : wfk g) :
    Calls Try.prog 27 #[.pointer (some ⟨X1, 0, none⟩), .int .i64 g] w fun r w' => r = .returned (fV (S1.f g)) ∧ Below w.heap.size w w' := by
  obtain ⟨m1, D1, x1, v1, m2, D2, x2, v2, s1, s2⟩ := h
  exact first_any s1 g hg
end
/-- both say the same of cell i -/
structure Al (i : Int) (S1 S2 : Rst) : Prop where
  f : S1.f i = S2.f i
  c : 0 ≤ i → i < 8 → S1.c i.toNat = S2.c i.toNat
theorem Al.ret {i : Int} {S1 S2 : Rst} (h : Al i S1 S2) (tid cut : Int) : Al i (retA S1 tid cut) (retA S2 tid cut) := by
  unfold retA
  split
  · exact h
  · refine ⟨h.f, fun h0 h1 => ?_⟩
    show rtC S1 tid cut 8 i.toNat = rtC S2 tid cut 8 i.toNat
    unfold rtC
    rw [if_pos (by omega), if_pos (by omega), h.c h0 h1]
theorem Al.put1 {i : Int} {S1 S2 : Rst} (h : Al i S1 S2) {a : Aq} (ha : a.c ≠ i) (e : Int) (l : List Int) : Al i (putA S1 a e l) S2 := by
  unfold putA
  split
  · exact h
  · rename_i hn
    have hb : ¬ badA a := fun q => hn (.inl q)
    unfold badA at hb
    refine ⟨?_, fun h0 h1 => ?_⟩
    · show putF S1 a _ i = _
      unfold putF
      split
      · exact h.f
      · rw [upf_other _ _ _ _ (Ne.symm ha)]; exact h.f
    · show upn S1.c a.c.toNat _ i.toNat = _
      rw [upn_other _ _ _ _ (by omega)]
      exact h.c h0 h1
theorem Al.put2 {i : Int} {S1 S2 : Rst} (h : Al i S1 S2) {a : Aq} (ha : a.c = i) (e : Int) (l : List Int) : Al i (putA S1 a e l) (putA S2 a e l) := by
  unfold putA
  split
  · exact h
  · rename_i hn
    have hb : ¬ badA a := fun q => hn (.inl q)
    unfold badA at hb
    have hc := h.c (by omega) (by omega)
    have hf := h.f
    subst ha
    refine ⟨?_, fun h0 h1 => ?_⟩
    · show putF S1 a (acR a (S1.c a.c.toNat) e l) a.c = putF S2 a (acR a (S2.c a.c.toNat) e l) a.c
      unfold putF
      rw [hc, hf]
      split
      · exact hf
      · rw [upf_same, upf_same]
    · show upn S1.c a.c.toNat _ a.c.toNat = upn S2.c a.c.toNat _ a.c.toNat
      rw [upn_same, upn_same, hc]
/-- what was told first stays -/
theorem put_stays {S : Rst} {i : Int} {r : Rc} (h : S.f i = some r) (a : Aq) (e : Int) (l : List Int) : (putA S a e l).f i = some r := by
  unfold putA
  split
  · exact h
  · show putF S a _ i = _
    unfold putF
    split
    · exact h
    · rename_i hn
      by_cases q : i = a.c
      · subst q
        exact absurd (.inr (by rw [h]; rfl)) hn
      · rw [upf_other _ _ _ _ q]; exact h
theorem ret_stays (S : Rst) (tid cut : Int) : (retA S tid cut).f = S.f := by
  unfold retA
  split <;> rfl
/-- two new reports -/
theorem PW.two {w w1 w2 : World} {X1 X2 : Nat} {m1 m2 : Nat} {D1 D2 : DataW Unit} {x1 x2 : Nat → Nat} {v1 v2 : Nat → Value} {S1 S2 : Rst} (s1 : RX (Lw w) X1 w1 S1 m1 D1 x1 v1) (h1 : w.heap.size ≤ w1.heap.size) (s2 : RX (Lw w1) X2 w2 S2 m2 D2 x2 v2) (k : KY (Lw w1) w1 w2) : PW (Lw w) X1 X2 w2 S1 S2 := by
  have lw : ∀ x, Lw w x → Lw w1 x := fun x q => Nat.lt_of_lt_of_le q h1
  refine ⟨m1, D1, x1, v1, m2, D2, x2, v2, s1.mv (fun x q => k.block x (s1.bl x q)) ?_ ?_ k.size, s2.mv (fun _ _ => rfl) ?_ ?_ (Nat.le_refl _)⟩
  · rintro x (q | q) r
    · exact s1.bd x r q
    · exact s2.bd x q (s1.bl x r)
  · rintro x (q | q)
    · exact s2.yl x (lw x q)
    · exact s2.bl x q
  · rintro x (q | q) r
    · exact s2.bd x r (lw x q)
    · exact s2.bd x r (s1.bl x q)
  · rintro x (q | q)
    · exact s2.yl x (lw x q)
    · exact s2.yl x (s1.bl x q)
end Rep
end Go.Proofs.Ytekdcfdjohlfcaa
/- Layer 19's reference, over this seat's program: what lies in memory; Retire. -/
namespace Go.Proofs.Ytekdcfdjohlfcaa
open Go.ChangeShapes Go.WideShapes Go.ChangeAt Go.RowKit
namespace Co
open Ck Ce Rep
open Ba (KF Bd Nw)

/-- a race of the reference -/
structure Rr where
  th : Bool
  r : Rc
def rrV (q : Rr) : Array Value := #[.bool q.th, .int .i64 q.r.c, .int .i64 q.r.p, .int .i64 q.r.g, .int .i64 q.r.wi, .bool q.r.wr]
/-- a report of the reference -/
structure Qst where
  A : Nat → Ac
  F : Nat → Nat → Int
  T : Nat → Bool
  q : Nat → Rr
structure QX (w : World) (R : Nat) (S : Qst) : Prop where
  ce : ∀ i, i < 8 → RO w R (i * 261) w (S.A i) (S.F i) (S.T i)
  rr : ∀ i, i < 8 → ∀ j, j < 6 → w.cell? ⟨R, 2088 + i * 6 + j, none⟩ = (rrV (S.q i))[j]?
section
variable {w w' : World} {R : Nat} {S : Qst}
theorem QX.lt (h : QX w R S) : R < w.heap.size := (h.ce 0 (by decide)).lt
theorem RO.self {W0 : World} {o : Nat} {a : Ac} {F : Nat → Int} {tl : Bool} (h : RO W0 R o w a F tl) : RO w R o w a F tl := ⟨h.lt, h.fz, h.c0, h.c1, h.c2, h.c3, h.rd, h.ct, fun _ _ => rfl⟩
theorem QX.block (h : QX w R S) (e : w'.heap[R]? = w.heap[R]?) : QX w' R S :=
  ⟨fun i hi => ((h.ce i hi).block e).self, fun i hi j hj => (World.cell?_of_block (w := w) (a := ⟨R, 2088 + i * 6 + j, none⟩) e).trans (h.rr i hi j hj)⟩
theorem QX.below (h : QX w R S) (b : Below w.heap.size w w') : QX w' R S := h.block (b.block R h.lt)
/-- a cell has changed -/
theorem QX.cell (h : QX w R S) {i : Nat} (hi : i < 8) {a : Ac} {F : Nat → Int} {tl : Bool} (r : RO w R (i * 261) w' a F tl) : QX w' R ⟨upn S.A i a, upn S.F i F, upn S.T i tl, S.q⟩ := by
  refine ⟨fun j hj => ?_, fun j hj k hk => ?_⟩
  · show RO w' R (j * 261) w' (upn S.A i a j) (upn S.F i F j) (upn S.T i tl j)
    by_cases e : j = i
    · subst e
      rw [upn_same, upn_same, upn_same]
      exact r.self
    · rw [upn_other _ _ _ _ e, upn_other _ _ _ _ e, upn_other _ _ _ _ e]
      have c := h.ce j hj
      refine ⟨r.lt, r.fz, (r.fr _ (by omega)).trans c.c0, (r.fr _ (by omega)).trans c.c1, (r.fr _ (by omega)).trans c.c2, (r.fr _ (by omega)).trans c.c3, fun k hk => (r.fr _ (by omega)).trans (c.rd k hk), (r.fr _ (by omega)).trans c.ct, fun _ _ => rfl⟩
  · exact (r.fr _ (by omega)).trans (h.rr j hj k hk)
end
/-- what the reference's Retire leaves of the first k -/
def rqS (S : Qst) (t : Nat) (cut : Int) (k : Nat) : Qst := ⟨fun i => if i < k then rtA (S.A i) (t : Int) cut else S.A i, fun i => if i < k then upF (S.F i) t 0 else S.F i, fun i => if i < k then (S.T i || decide (cut < S.F i t)) else S.T i, S.q⟩
end Co
end Go.Proofs.Ytekdcfdjohlfcaa
/- Layer 19's reference, over this seat's program: Retire, New, Races. -/
namespace Go.Proofs.Ytekdcfdjohlfcaa
open Go.ChangeShapes Go.WideShapes Go.ChangeAt Go.RowKit
namespace Co
open Ck Ce Rep
open Ba (KF Bd Nw)

theorem rq_succ (S : Qst) (t : Nat) (cut : Int) (k : Nat) : (⟨upn (rqS S t cut k).A k (rtA ((rqS S t cut k).A k) (t : Int) cut), upn (rqS S t cut k).F k (upF ((rqS S t cut k).F k) t 0), upn (rqS S t cut k).T k ((rqS S t cut k).T k || decide (cut < (rqS S t cut k).F k t)), (rqS S t cut k).q⟩ : Qst) = rqS S t cut (k + 1) := by
  unfold rqS upn
  congr 1
  all_goals
    funext j
    by_cases e : j = k
    · subst e; simp
    · by_cases h : j < k
      · have : j < k + 1 := by omega
        simp [e, h, this]
      · have : ¬ j < k + 1 := by omega
        simp [e, h, this]
theorem rq_zero (S : Qst) (t : Nat) (cut : Int) : rqS S t cut 0 = S := by simp [rqS]
set_option maxRecDepth 100000 in
theorem qretire_arg (R : Nat) (tid cut : Int) (h : badR tid cut) (w : World) : Calls Try.prog 54 #[.pointer (some ⟨R, 0, none⟩), .int .i64 tid, .int .i64 cut] w fun r w' => r = .returned (.int .i64 1) ∧ w' = w := by
  have RN := hide (fun p u => Ce.rret_arg p tid cut h u)
  clear h
  go_enter Try.func54, Try.ntmps54
  go_wp2_with fail
  go_loop [7, 8] (fun e i => ∃ k : Nat, k ≤ 8 ∧ i = .int .i64 (k : Int) ∧ e = .int .i64 (if k = 0 then 0 else 1)) (fun _ i => 8 - (intOf i).toNat)
  case atStart => exact ⟨0, by decide, rfl, rfl⟩
  case round =>
    obtain ⟨k, hk, rfl, rfl⟩ := hrel
    by_cases hlt : k < 8
    · have hlt' : (k : Int) < 8 := by omega
      generalize (if k = 0 then (0 : Int) else 1) = e0 at *
      go_wp2_with fail
      refine (RN.out _ _).mono ?_
      rintro r w1 ⟨rfl, e1⟩
      obtain rfl := e1.symm
      go_wp2_with fail
      go_round
      case rel => exact ⟨k + 1, by omega, by go_num, by rw [if_neg (by omega)]⟩
      case measure => simp [intOf]; omega
    · obtain rfl : k = 8 := by omega
      go_wp2_with fail
      go_ret
      exact ⟨rfl, rfl⟩
set_option maxRecDepth 100000 in
theorem qretire_ok {w : World} {R : Nat} {S : Qst} (s : QX w R S) (t : Nat) (ht : t < 256) (cut : Int) (h2 : 0 ≤ cut) (h3 : cut ≤ 1048576) :
    Calls Try.prog 54 #[.pointer (some ⟨R, 0, none⟩), .int .i64 (t : Int), .int .i64 cut] w fun r w' => r = .returned (.int .i64 0) ∧ QX w' R (rqS S t cut 8) ∧ KF (fun k => k = R) w w' := by
  have S0 : Hid (QX w R (rqS S t cut 0)) := by rw [rq_zero]; exact s
  have hR := s.lt
  clear s
  go_enter Try.func54, Try.ntmps54
  go_wp2_with fail
  go_loopw [7, 8] (fun e i wr => ∃ k : Nat, k ≤ 8 ∧ i = .int .i64 (k : Int) ∧ e = .int .i64 0 ∧ QX wr R (rqS S t cut k) ∧ KF (fun k => k = R) w wr) (fun _ i _ => 8 - (intOf i).toNat)
  case atStart => exact ⟨0, by decide, rfl, rfl, S0.out, KF.refl _ _⟩
  case round =>
    clear S0
    obtain ⟨k, hk, rfl, rfl, s, kf⟩ := hrel
    have KH := hide kf
    have SH := hide s
    by_cases hlt : k < 8
    · have hlt' : (k : Int) < 8 := by omega
      have RT := hide (rret_ok (s.ce k hlt) t ht cut h2 h3)
      clear s kf
      go_wp2_with fail
      refine RT.out.mono ?_
      rintro r w2 ⟨rfl, r2, k2⟩
      have S2 := SH.out.cell hlt r2
      rw [rq_succ] at S2
      have S2H := hide S2
      have K2 := hide (KH.out.trans k2 (Nw.refl _ _))
      clear r2 k2 S2 RT SH KH
      go_wp2_with fail
      go_roundw
      case rel => exact ⟨k + 1, by omega, by go_num, rfl, S2H.out, K2.out⟩
      case measure => simp [intOf]; omega
    · obtain rfl : k = 8 := by omega
      clear s kf
      go_wp2_with fail
      go_ret
      exact ⟨rfl, SH.out, KH.out⟩
/-- the races that are there, below k -/
def ql (q : Nat → Rr) : Nat → List Rc
  | 0 => []
  | k + 1 => ql q k ++ (if (q k).th = true then [(q k).r] else [])
def qcC (l : List Rc) : List Value := l.flatMap fun r => (rrV ⟨true, r⟩).toList
theorem qcC_app (l : List Rc) (r : Rc) : qcC (l ++ [r]) = qcC l ++ (rrV ⟨true, r⟩).toList := by simp [qcC]
theorem ql_len (q : Nat → Rr) : ∀ k, (ql q k).length ≤ k
  | 0 => Nat.le_refl _
  | k + 1 => by
    have := ql_len q k
    unfold ql
    rw [List.length_append]
    split <;> simp <;> omega
theorem info_rr : (Try.prog.info? 70).map (fun i => (i.zero, i.size, i.bytes)) = some (some (.agg (rrV ⟨false, r0⟩)), 6, 48) := by kernel_rfl
theorem cell_six (w : World) (a b c d e f : Value) (t : TypeId) : ∀ j u, [a, b, c, d, e, f][j]? = some u → (w.alloc (.cells #[a, b, c, d, e, f] t)).cell? ((⟨w.heap.size, 0, none⟩ : Addr).add j) = some u := by
  intro j u hj
  match j, hj with
  | 0, hj | 1, hj | 2, hj | 3, hj | 4, hj | 5, hj =>
    simp at hj
    subst hj
    simp [Addr.add]
theorem one_six (q : Rr) : ∀ u ∈ (rrV q).toList, u.oneCell' = true := by
  intro u hu
  simp [rrV] at hu
  rcases hu with rfl | rfl | rfl | rfl | rfl | rfl <;> rfl
def QcR (w : World) (l : List Rc) (r : Ending) (w' : World) : Prop := ∃ v, r = .returned v ∧ w'.ownsRow w.heap.size 70 6 v l.length (qcC l) ∧ Below w.heap.size w w'
set_option maxRecDepth 100000 in
set_option maxHeartbeats 1600000 in
theorem qraces_any {w : World} {R : Nat} {S : Qst} (s : QX w R S) : Calls Try.prog 25 #[.pointer (some ⟨R, 0, none⟩)] w (QcR w (ql S.q 8)) := by
  unfold QcR
  have SB := hide (fun u (b : Below w.heap.size w u) => s.below b)
  obtain ⟨i1, hi1, hy1, hy2, hy3⟩ := info_parts info_rr
  have INA := hide (And.intro hi1 (And.intro hy1 (And.intro hy2 hy3)))
  clear hi1 hy1 hy2 hy3 s
  go_enter Try.func25, Try.ntmps25
  go_wp2_with fail
  go_loopw [3, 4] (fun v i wr => ∃ k : Nat, k ≤ 8 ∧ i = .int .i64 (k : Int) ∧ wr.ownsRow w.heap.size 70 6 v (ql S.q k).length (qcC (ql S.q k)) ∧ Below w.heap.size w wr) (fun _ i _ => 8 - (intOf i).toNat)
  case atStart => exact ⟨0, by decide, rfl, World.ownsRow_nil _ _ _ _, Below.refl _ _⟩
  case round =>
    obtain ⟨k, hk, rfl, o, b⟩ := hrel
    have OH := hide o
    have BH := hide b
    by_cases hlt : k < 8
    · have hlt' : (k : Int) < 8 := by omega
      have SK := SB.out wr b
      have z := SK.rr k hlt
      have z0 := z 0 (by decide)
      have z1 := z 1 (by decide)
      have z2 := z 2 (by decide)
      have z3 := z 3 (by decide)
      have z4 := z 4 (by decide)
      have z5 := z 5 (by decide)
      have HE : Hid (ql S.q (k + 1) = ql S.q k ++ (if (S.q k).th = true then [(S.q k).r] else [])) := rfl
      have HL := hide (ql_len S.q k)
      have hRl := SK.lt
      unfold rrV at z0 z1 z2 z3 z4 z5
      simp at z0 z1 z2 z3 z4 z5
      clear o b SK z
      generalize S.q k = q at *
      obtain ⟨th, ⟨rc1, rp, rg_, rw_, rb⟩⟩ := q
      simp only at z0 z1 z2 z3 z4 z5 HE
      cases th with
      | false =>
        simp only [Bool.false_eq_true, if_false, List.append_nil] at HE
        go_wp2_with fail
        go_roundw
        case rel => exact ⟨k + 1, by omega, by go_num, by rw [HE.out]; exact OH.out, BH.out⟩
        case measure => simp [intOf]; omega
      | true =>
        simp only [if_true] at HE
        have b2 := Ba.below_alloc wr (.cells #[.bool true, .int .i64 rc1, .int .i64 rp, .int .i64 rg_, .int .i64 rw_, .bool rb] 70)
        have O2 := hide (own_sm OH.out (fun g e => b2.block g (OH.out.lt g e).2))
        have B2 := hide (Ce.btr BH.out b2)
        have CF := hide (cell_six wr (.bool true) (.int .i64 rc1) (.int .i64 rp) (.int .i64 rg_) (.int .i64 rw_) (.bool rb) 70)
        have ON := hide (one_six ⟨true, ⟨rc1, rp, rg_, rw_, rb⟩⟩)
        have L2 := hide B2.out.size
        have hn1 : (ql S.q k).length + 1 ≤ maxLen := by have := HL.out; simp only [maxLen]; omega
        have hn2 : ((ql S.q k).length + 1) * 48 ≤ 140737488355328 := by have := HL.out; omega
        clear b2 OH
        go_wp2_with (at_builtin; refine wpList_append_own_at _ rfl _ _ 67 rfl w.heap.size 70 i1 _ 6 48 Try.underlying67 INA.out.1 INA.out.2.1 INA.out.2.2.1 INA.out.2.2.2 rfl (by decide) _ _ _ rfl O2.out ⟨wr.heap.size, 0, none⟩ 1 1 ((rrV ⟨true, ⟨rc1, rp, rg_, rw_, rb⟩⟩).toList) rfl rfl CF.out ON.out hn1 hn2 L2.out ?_)
        intro v' w' o' g' x' e'
        have O3 := hide o'
        have B3 : Hid (Below w.heap.size w w') := by
          refine ⟨g'.os.trans B2.out.os, g'.tape.trans B2.out.tape, g'.output.trans B2.out.output, Nat.le_trans B2.out.size g'.size, fun x hx => (g'.block x (Nat.lt_of_lt_of_le hx B2.out.size) (fun q => ?_)).trans (B2.out.block x hx)⟩
          have := (O2.out.lt x q.symm).1
          omega
        clear o' g' x' e' O2 B2 CF ON L2 hn1 hn2
        go_wp2_with fail
        go_roundw
        case rel => exact ⟨k + 1, by omega, by go_num, by rw [HE.out, qcC_app, List.length_append]; exact O3.out, B3.out⟩
        case measure => simp [intOf]; omega
    · obtain rfl : k = 8 := by omega
      clear o b
      go_wp2_with fail
      go_ret
      exact ⟨_, rfl, OH.out, BH.out⟩
end Co
end Go.Proofs.Ytekdcfdjohlfcaa
/- Layer 19's reference, over this seat's program: New. -/
namespace Go.Proofs.Ytekdcfdjohlfcaa
open Go.ChangeShapes Go.WideShapes Go.ChangeAt Go.RowKit
namespace Co
open Ck Ce Rep
open Ba (KF Bd Nw)

/-- noughts of a report -/
def zc (p : Nat) : Value := if p < 2088 then (if p % 261 = 2 ∨ p % 261 = 3 ∨ p % 261 = 260 then .bool false else .int .i64 0) else (if (p - 2088) % 6 = 0 ∨ (p - 2088) % 6 = 5 then .bool false else .int .i64 0)
set_option maxRecDepth 100000 in
theorem z_all : Try.zeroCells85 = ((List.range 2136).map zc).toArray := by kernel_rfl
theorem z_at (p : Nat) (h : p < 2136) : Try.zeroCells85[p]? = some (zc p) := by
  rw [z_all]; simp [h]
/-- a report without accesses, the first k cells being so -/
def Qk (k : Nat) : Qst := ⟨fun i => if i < k then ⟨0, 0, true, false⟩ else ⟨0, 0, false, false⟩, fun _ => nf, fun _ => false, fun _ => ⟨false, r0⟩⟩
theorem Qk_succ (k : Nat) : (⟨upn (Qk k).A k ⟨0, 0, true, false⟩, upn (Qk k).F k ((Qk k).F k), upn (Qk k).T k ((Qk k).T k), (Qk k).q⟩ : Qst) = Qk (k + 1) := by
  unfold Qk upn
  congr 1
  · funext j
    by_cases e : j = k
    · subst e; simp
    · by_cases h : j < k
      · have : j < k + 1 := by omega
        simp [e, h, this]
      · have : ¬ j < k + 1 := by omega
        simp [e, h, this]
  · funext j; simp
  · funext j; simp
theorem q_zero (w : World) : QX (w.alloc (.cells Try.zeroCells85 85)) w.heap.size (Qk 0) := by
  have hb : (w.alloc (.cells Try.zeroCells85 85)).heap[w.heap.size]? = some (.cells Try.zeroCells85 85 (0, 0)) := heap_new _ _
  have cell : ∀ p, p < 2136 → (w.alloc (.cells Try.zeroCells85 85)).cell? ⟨w.heap.size, p, none⟩ = some (zc p) := fun p hp => by rw [cell_of hb]; exact z_at p hp
  refine ⟨fun i hi => ⟨by rw [World.size_alloc]; omega, fun p => Ba.frozen_of hb p, ?_, ?_, ?_, ?_, fun k hk => ?_, ?_, fun _ _ => rfl⟩, fun i hi j hj => ?_⟩
  · rw [cell _ (by omega)]; unfold zc; rw [if_pos (by omega), if_neg (by omega)]; rfl
  · rw [cell _ (by omega)]; unfold zc; rw [if_pos (by omega), if_neg (by omega)]; rfl
  · rw [cell _ (by omega)]; unfold zc; rw [if_pos (by omega), if_pos (by omega)]; rfl
  · rw [cell _ (by omega)]; unfold zc; rw [if_pos (by omega), if_pos (by omega)]; rfl
  · rw [cell _ (by omega)]; unfold zc; rw [if_pos (by omega), if_neg (by omega)]; rfl
  · rw [cell _ (by omega)]; unfold zc; rw [if_pos (by omega), if_pos (by omega)]; rfl
  · rw [cell _ (by omega)]; unfold zc; rw [if_neg (by omega)]
    match j, hj with
    | 0, _ => rw [if_pos (by omega)]; rfl
    | 1, _ => rw [if_neg (by omega)]; rfl
    | 2, _ => rw [if_neg (by omega)]; rfl
    | 3, _ => rw [if_neg (by omega)]; rfl
    | 4, _ => rw [if_neg (by omega)]; rfl
    | 5, _ => rw [if_pos (by omega)]; rfl
set_option maxRecDepth 100000 in
theorem qnew_any (w : World) : Calls Try.prog 22 #[] w fun r w' => r = .returned (.pointer (some ⟨w.heap.size, 0, none⟩)) ∧ QX w' w.heap.size (Qk 8) ∧ Below w.heap.size w w' := by
  have Q0 := hide (q_zero w)
  have B0 := hide (Ba.below_alloc w (.cells Try.zeroCells85 85))
  have hbu : Try.prog.built 85 [] = some Try.zeroCells85 := by kernel_rfl
  go_enter Try.func22, Try.ntmps22
  go_wp2_with fail
  generalize w.alloc (.cells Try.zeroCells85 85) = W at *
  go_loopw [2] (fun i wr => ∃ k : Nat, k ≤ 8 ∧ i = .int .i64 (k : Int) ∧ QX wr w.heap.size (Qk k) ∧ Below w.heap.size w wr) (fun i _ => 8 - (intOf i).toNat)
  case atStart => exact ⟨0, by decide, rfl, Q0.out, B0.out⟩
  case round =>
    clear Q0 B0
    obtain ⟨k, hk, rfl, s, b⟩ := hrel
    have SH := hide s
    have BH := hide b
    by_cases hlt : k < 8
    · have hlt' : (k : Int) < 8 := by omega
      obtain ⟨x0, x1, x2, x3, xf⟩ := (s.ce k hlt).cellA
      have xf0 := xf (k * 261)
      have xf1 := xf (k * 261 + 1)
      have xf2 := xf (k * 261 + 2)
      have xf3 := xf (k * 261 + 3)
      have S2 := s.cell hlt ((s.ce k hlt).setAc 0 0 true false)
      rw [Qk_succ] at S2
      have S2H := hide S2
      have B2 : Hid (Below w.heap.size w ((((wr.setCell ⟨w.heap.size, k * 261, none⟩ (.int .i64 0)).setCell ⟨w.heap.size, k * 261 + 1, none⟩ (.int .i64 0)).setCell ⟨w.heap.size, k * 261 + 2, none⟩ (.bool true)).setCell ⟨w.heap.size, k * 261 + 3, none⟩ (.bool false))) := (((b.setCell (Nat.le_refl _) _).setCell (Nat.le_refl _) _).setCell (Nat.le_refl _) _).setCell (Nat.le_refl _) _
      clear s b S2 xf
      go_wp2_with fail
      go_roundw
      case rel => exact ⟨k + 1, by omega, by go_num, S2H.out, B2.out⟩
      case measure => simp [intOf]; omega
    · obtain rfl : k = 8 := by omega
      clear s b
      go_wp2_with fail
      go_ret
      exact ⟨rfl, SH.out, BH.out⟩
end Co
end Go.Proofs.Ytekdcfdjohlfcaa
/- Layer 19's reference, over this seat's program: Put. -/
namespace Go.Proofs.Ytekdcfdjohlfcaa
open Go.ChangeShapes Go.WideShapes Go.ChangeAt Go.RowKit
namespace Co
open Ck Ce Rep
open Ba (KF Bd Nw)

/-- what the cell answers, and what it is then -/
def qX (S : Qst) (i : Nat) (wr : Bool) (t : Nat) (G : Nat → Int) : Int := if wr then rpR (S.A i) (S.F i) (S.T i) (t : Int) G else rrR (S.A i) (t : Int) G
def qC (S : Qst) (i : Nat) (wr : Bool) (t : Nat) (n : Int) (G : Nat → Int) : Qst :=
  if wr then ⟨upn S.A i ⟨(t : Int), n, false, false⟩, upn S.F i nf, upn S.T i false, S.q⟩ else ⟨upn S.A i (S.A i), upn S.F i (upF (ff (S.F i) (t : Int) G 256) t n), upn S.T i (S.T i), S.q⟩
def qB (S : Qst) (i : Nat) (x : Int) : Bool := !(x == 0) && !(S.q i).th
def qQ (S : Qst) (i : Nat) (a : Aq) (x : Int) : Nat → Rr := if qB S i x = true then upn S.q i ⟨true, rcOf a x⟩ else S.q
def qP (S : Qst) (i : Nat) (a : Aq) (t : Nat) (n : Int) (G : Nat → Int) : Qst := ⟨(qC S i a.wr t n G).A, (qC S i a.wr t n G).F, (qC S i a.wr t n G).T, qQ S i a (qX S i a.wr t G)⟩
theorem qC_q (S : Qst) (i : Nat) (wr : Bool) (t : Nat) (n : Int) (G : Nat → Int) : (qC S i wr t n G).q = S.q := by unfold qC; split <;> rfl
/-- six cells of a race -/
def set6 (w : World) (R b : Nat) (q : Rr) : World := (((((w.setCell ⟨R, b, none⟩ (.bool q.th)).setCell ⟨R, b + 1, none⟩ (.int .i64 q.r.c)).setCell ⟨R, b + 2, none⟩ (.int .i64 q.r.p)).setCell ⟨R, b + 3, none⟩ (.int .i64 q.r.g)).setCell ⟨R, b + 4, none⟩ (.int .i64 q.r.wi)).setCell ⟨R, b + 5, none⟩ (.bool q.r.wr)
theorem set6_far (w : World) (R b : Nat) (q : Rr) (p : Nat) (h : p < b ∨ b + 6 ≤ p) : (set6 w R b q).cell? ⟨R, p, none⟩ = w.cell? ⟨R, p, none⟩ := by
  unfold set6
  rw [other _ _ _ _ _ (by omega), other _ _ _ _ _ (by omega), other _ _ _ _ _ (by omega), other _ _ _ _ _ (by omega), other _ _ _ _ _ (by omega), other _ _ _ _ _ (by omega)]
theorem set6_at {w : World} {R b : Nat} (q : Rr) (h : ∀ j, j < 6 → ∃ v, w.cell? ⟨R, b + j, none⟩ = some v) (j : Nat) (hj : j < 6) : (set6 w R b q).cell? ⟨R, b + j, none⟩ = (rrV q)[j]? := by
  obtain ⟨v0, h0⟩ := h 0 (by decide)
  obtain ⟨v1, h1⟩ := h 1 (by decide)
  obtain ⟨v2, h2⟩ := h 2 (by decide)
  obtain ⟨v3, h3⟩ := h 3 (by decide)
  obtain ⟨v4, h4⟩ := h 4 (by decide)
  obtain ⟨v5, h5⟩ := h 5 (by decide)
  unfold set6
  match j, hj with
  | 0, _ =>
    rw [other _ _ _ _ _ (by omega), other _ _ _ _ _ (by omega), other _ _ _ _ _ (by omega), other _ _ _ _ _ (by omega), other _ _ _ _ _ (by omega)]
    exact World.cell?_setCell_same _ _ _ h0
  | 1, _ =>
    rw [other _ _ _ _ _ (by omega), other _ _ _ _ _ (by omega), other _ _ _ _ _ (by omega), other _ _ _ _ _ (by omega)]
    exact World.cell?_setCell_same _ _ _ ((other _ _ _ _ _ (by omega)).trans h1)
  | 2, _ =>
    rw [other _ _ _ _ _ (by omega), other _ _ _ _ _ (by omega), other _ _ _ _ _ (by omega)]
    exact World.cell?_setCell_same _ _ _ ((other _ _ _ _ _ (by omega)).trans ((other _ _ _ _ _ (by omega)).trans h2))
  | 3, _ =>
    rw [other _ _ _ _ _ (by omega), other _ _ _ _ _ (by omega)]
    exact World.cell?_setCell_same _ _ _ ((other _ _ _ _ _ (by omega)).trans ((other _ _ _ _ _ (by omega)).trans ((other _ _ _ _ _ (by omega)).trans h3)))
  | 4, _ =>
    rw [other _ _ _ _ _ (by omega)]
    exact World.cell?_setCell_same _ _ _ ((other _ _ _ _ _ (by omega)).trans ((other _ _ _ _ _ (by omega)).trans ((other _ _ _ _ _ (by omega)).trans ((other _ _ _ _ _ (by omega)).trans h4))))
  | 5, _ =>
    exact World.cell?_setCell_same _ _ _ ((other _ _ _ _ _ (by omega)).trans ((other _ _ _ _ _ (by omega)).trans ((other _ _ _ _ _ (by omega)).trans ((other _ _ _ _ _ (by omega)).trans ((other _ _ _ _ _ (by omega)).trans h5)))))
theorem QX.race {w : World} {R : Nat} {S : Qst} (h : QX w R S) {i : Nat} (hi : i < 8) (q : Rr) : QX (set6 w R (2088 + i * 6) q) R ⟨S.A, S.F, S.T, upn S.q i q⟩ := by
  have hs : (set6 w R (2088 + i * 6) q).heap.size = w.heap.size := by unfold set6; simp only [size_set]
  refine ⟨fun j hj => ?_, fun j hj k hk => ?_⟩
  · have c := h.ce j hj
    have e : ∀ p, p < 2088 → (set6 w R (2088 + i * 6) q).cell? ⟨R, p, none⟩ = w.cell? ⟨R, p, none⟩ := fun p hp => set6_far _ _ _ _ _ (by omega)
    exact ⟨by rw [hs]; exact c.lt, fun p => by unfold set6; simp only [World.frozen?_setCell]; exact c.fz p, (e _ (by omega)).trans c.c0, (e _ (by omega)).trans c.c1, (e _ (by omega)).trans c.c2, (e _ (by omega)).trans c.c3, fun k hk => (e _ (by omega)).trans (c.rd k hk), (e _ (by omega)).trans c.ct, fun _ _ => rfl⟩
  · show (set6 w R (2088 + i * 6) q).cell? ⟨R, 2088 + j * 6 + k, none⟩ = (rrV (upn S.q i q j))[k]?
    by_cases e : j = i
    · subst e
      rw [upn_same]
      refine set6_at q (fun l hl => ?_) k hk
      have := h.rr j hj l hl
      match l, hl with
      | 0, _ | 1, _ | 2, _ | 3, _ | 4, _ | 5, _ => exact ⟨_, this⟩
    · rw [upn_other _ _ _ _ e, set6_far _ _ _ _ _ (by omega)]
      exact h.rr j hj k hk
theorem kf_set6 {w : World} (R b : Nat) (q : Rr) : KF (fun k => k = R) w (set6 w R b q) := by
  unfold set6
  exact ((((((KF.refl (fun k => k = R) w).set (q := R) rfl _ _).set (q := R) rfl _ _).set (q := R) rfl _ _).set (q := R) rfl _ _).set (q := R) rfl _ _).set (q := R) rfl _ _
end Co
end Go.Proofs.Ytekdcfdjohlfcaa
/- Layer 19's reference, over this seat's program: Put, walked. -/
namespace Go.Proofs.Ytekdcfdjohlfcaa
open Go.ChangeShapes Go.WideShapes Go.ChangeAt Go.RowKit
namespace Co
open Ck Ce Rep
open Ba (KF Bd Nw)

def QpR (R : Nat) (w : World) (S' : Qst) (b : Bool) (r : Ending) (w' : World) : Prop := r = .returned (.bool b) ∧ QX w' R S' ∧ KF (fun k => k = R) w w'
set_option maxRecDepth 100000 in
set_option maxHeartbeats 6400000 in
theorem qput_any {w : World} {R : Nat} {S : Qst} (s : QX w R S) (a : Aq) (i : Nat) (hi : i < 8) (hc : a.c = (i : Int)) (t : Nat) (ht : t < 256) (n : Int) (G : Nat → Int) :
    Calls Try.prog 57 #[.pointer (some ⟨R, 0, none⟩), .agg #[.bool false, .int .i64 (i : Int), .int .i64 a.p, .int .i64 a.g, .int .i64 0, .bool a.wr], .agg #[.int .i64 (t : Int), .int .i64 n, .bool false, .bool false], .agg (ra G)] w (QpR R w (qP S i a t n G) (qB S i (qX S i a.wr t G))) := by
  unfold QpR
  obtain ⟨p, g, c, wr⟩ := a
  simp only at hc ⊢
  subst hc
  have hi' : (i : Int) < 8 := by omega
  obtain ⟨bb, hbb⟩ : ∃ bb, qB S i (qX S i wr t G) = bb := ⟨_, rfl⟩
  rw [hbb]
  have HBB := hide hbb
  clear hbb
  have b1 : Below w.heap.size w (((w.alloc (.cells #[.bool false, .int .i64 (i : Int), .int .i64 p, .int .i64 g, .int .i64 0, .bool wr] 70)).alloc (.cells #[.int .i64 (t : Int), .int .i64 n, .bool false, .bool false] 79)).alloc (.cells (ra G) 39)) := Ce.btr (Ce.btr (Ba.below_alloc _ _) (Ba.below_alloc _ _)) (Ba.below_alloc _ _)
  have h1 : (((w.alloc (.cells #[.bool false, .int .i64 (i : Int), .int .i64 p, .int .i64 g, .int .i64 0, .bool wr] 70)).alloc (.cells #[.int .i64 (t : Int), .int .i64 n, .bool false, .bool false] 79)).alloc (.cells (ra G) 39)).heap[w.heap.size]? = some (.cells #[.bool false, .int .i64 (i : Int), .int .i64 p, .int .i64 g, .int .i64 0, .bool wr] 70 (0, 0)) := by
    rw [Below.heap_alloc _ _ _ (by rw [World.size_alloc, World.size_alloc]; omega), Below.heap_alloc _ _ _ (by rw [World.size_alloc]; omega)]
    exact heap_new _ _
  have h2 : (((w.alloc (.cells #[.bool false, .int .i64 (i : Int), .int .i64 p, .int .i64 g, .int .i64 0, .bool wr] 70)).alloc (.cells #[.int .i64 (t : Int), .int .i64 n, .bool false, .bool false] 79)).alloc (.cells (ra G) 39)).heap[w.heap.size + 1]? = some (.cells #[.int .i64 (t : Int), .int .i64 n, .bool false, .bool false] 79 (0, 0)) := by
    rw [Below.heap_alloc _ _ _ (by rw [World.size_alloc, World.size_alloc]; omega)]
    have := heap_new (w.alloc (.cells #[.bool false, .int .i64 (i : Int), .int .i64 p, .int .i64 g, .int .i64 0, .bool wr] 70)) (.cells #[.int .i64 (t : Int), .int .i64 n, .bool false, .bool false] 79)
    rwa [World.size_alloc] at this
  have h3 : (((w.alloc (.cells #[.bool false, .int .i64 (i : Int), .int .i64 p, .int .i64 g, .int .i64 0, .bool wr] 70)).alloc (.cells #[.int .i64 (t : Int), .int .i64 n, .bool false, .bool false] 79)).alloc (.cells (ra G) 39)).heap[w.heap.size + 1 + 1]? = some (.cells (ra G) 39 (0, 0)) := by
    have := heap_new ((w.alloc (.cells #[.bool false, .int .i64 (i : Int), .int .i64 p, .int .i64 g, .int .i64 0, .bool wr] 70)).alloc (.cells #[.int .i64 (t : Int), .int .i64 n, .bool false, .bool false] 79)) (.cells (ra G) 39)
    rwa [World.size_alloc, World.size_alloc] at this
  have S1 := hide (s.below b1)
  have B1 := hide b1
  have H1 := hide h1
  have H2 := hide h2
  have H3 := hide h3
  have hR := s.lt
  have rs := ra_size G
  clear s b1 h1 h2 h3
  go_enter Try.func57, Try.ntmps57
  go_wp2_with fail
  generalize ((w.alloc (.cells #[.bool false, .int .i64 (i : Int), .int .i64 p, .int .i64 g, .int .i64 0, .bool wr] 70)).alloc (.cells #[.int .i64 (t : Int), .int .i64 n, .bool false, .bool false] 79)).alloc (.cells (ra G) 39) = W1 at *
  have y1 := cell_of H1.out 1
  have y5 := cell_of H1.out 5
  have v0 := cell_of H2.out 0
  have v1 := cell_of H2.out 1
  simp at y1 y5 v0 v1
  have S2 := hide (fun q => S1.out.below (Ba.bdrew W1 q))
  go_quiet (fail)
  have ld : (loadCellsFrom ⟨w.heap.size + 1 + 1, 0, none⟩ 0 256 #[]).run Try.prog (W1.drewN nq) = .ok (ra G) (W1.drewN nq) := ld_ref (RA.of (show (W1.drewN nq).heap[w.heap.size + 1 + 1]? = some (.cells (ra G) 39 (0, 0)) from H3.out))
  obtain ⟨LC, hLC⟩ : ∃ LC : Nat → Sem (Array Value), ∀ n, loadCellsFrom (⟨w.heap.size + 1 + 1, 0, none⟩ : Addr) 0 n #[] = LC n := ⟨fun n => loadCellsFrom (⟨w.heap.size + 1 + 1, 0, none⟩ : Addr) 0 n #[], fun _ => rfl⟩
  rw [hLC] at ld
  have CR := (S2.out nq).ce i hi
  have OPW := hide (rput_ok CR (t : Int) n G)
  have OPR := hide (rread_ok CR t ht n G)
  have OP : Hid (∀ (f : Nat), (wr = true → f = 69) → (wr = false → f = 70) → Calls Try.prog f #[.pointer (some ⟨R, i * 261, none⟩), .int .i64 (t : Int), .int .i64 n, .agg (ra G)] (W1.drewN nq) fun r w' => r = .returned (.int .i64 (qX S i wr t G)) ∧ QX w' R (qC S i wr t n G) ∧ KF (fun k => k = R) (W1.drewN nq) w') := by
    intro f h1 h2
    unfold qX qC
    cases wr
    · rw [h2 rfl]
      refine OPR.out.mono ?_
      rintro r w' ⟨rfl, r2, k2⟩
      exact ⟨rfl, (S2.out nq).cell hi r2, k2⟩
    · rw [h1 rfl]
      refine OPW.out.mono ?_
      rintro r w' ⟨rfl, r2, k2⟩
      exact ⟨rfl, (S2.out nq).cell hi r2, k2⟩
  have OQW : Hid (wr = true → _) := fun q => OP.out 69 (fun _ => rfl) (fun z => by rw [q] at z; cases z)
  have OQR : Hid (wr = false → _) := fun q => OP.out 70 (fun z => by rw [q] at z; cases z) (fun _ => rfl)
  have BD := hide (Ce.btr B1.out (Ba.bdrew W1 nq))
  have HD : Hid ((W1.drewN nq).heap[w.heap.size]? = some (.cells #[.bool false, .int .i64 (i : Int), .int .i64 p, .int .i64 g, .int .i64 0, .bool wr] 70 (0, 0))) := H1.out
  have HD2 : Hid ((W1.drewN nq).heap[w.heap.size + 1]? = some (.cells #[.int .i64 (t : Int), .int .i64 n, .bool false, .bool false] 79 (0, 0))) := H2.out
  obtain ⟨x, hx⟩ : ∃ x, qX S i wr t G = x := ⟨_, rfl⟩
  obtain ⟨C, hC⟩ : ∃ C, qC S i wr t n G = C := ⟨_, rfl⟩
  have HX := hide hx
  have HC := hide hC
  have HQ : Hid (C.q = S.q) := by rw [← hC]; exact qC_q _ _ _ _ _ _
  have RES0 : Hid (∀ w', qB S i x = false → QX w' R C → QX w' R (qP S i ⟨p, g, (i : Int), wr⟩ t n G)) := by
    intro w' hb hq
    unfold qP qQ
    simp only
    rw [hx, hC, if_neg (by rw [hb]; decide), ← HQ.out]
    exact hq
  have RES1 : Hid (∀ w', qB S i x = true → QX w' R ⟨C.A, C.F, C.T, upn C.q i ⟨true, ⟨(i : Int), p, g, x, wr⟩⟩⟩ → QX w' R (qP S i ⟨p, g, (i : Int), wr⟩ t n G)) := by
    intro w' hb hq
    unfold qP qQ
    simp only
    rw [hx, hC, if_pos hb, ← HQ.out]
    exact hq
  rw [hx, hC] at OQW OQR
  have KQ : Hid (∀ w3, KF (fun k => k = R) (W1.drewN nq) w3 → KF (fun k => k = R) w w3 ∧ w3.heap[w.heap.size]? = some (.cells #[.bool false, .int .i64 (i : Int), .int .i64 p, .int .i64 g, .int .i64 0, .bool wr] 70 (0, 0))) := by
    intro w3 k3
    exact ⟨(KF.of (F := fun k => k = R) BD.out).trans k3 (Nw.refl _ _), (k3.block w.heap.size (Ba.heap_lt HD.out) (fun e => by omega)).trans HD.out⟩
  rw [hx] at HBB
  clear hx hC OP OPW OPR S2 S1 H1 H2 H3 B1 CR y1 y5 v0 v1
  generalize ra G = AG at *
  generalize W1.drewN nq = W2 at *
  have y5 := cell_of HD.out 5
  have v0 := cell_of HD2.out 0
  have v1 := cell_of HD2.out 1
  simp at y5 v0 v1
  clear BD HD HD2
  cases wr
  · go_wp2_with fail
    first
      | refine (OQR.out (by first | rfl | trivial)).mono ?_
      | refine (OQW.out (by first | rfl | trivial)).mono ?_
    rintro r w3 ⟨rfl, s3, k3⟩
    obtain ⟨kw, hw⟩ := KQ.out w3 k3
    have S3 := hide s3
    have K3 := hide kw
    have u1 := cell_of hw 1
    have u2 := cell_of hw 2
    have u3 := cell_of hw 3
    have u5 := cell_of hw 5
    simp at u1 u2 u3 u5
    have z0 := s3.rr i hi 0 (by decide)
    have z1 := s3.rr i hi 1 (by decide)
    have z2 := s3.rr i hi 2 (by decide)
    have z3 := s3.rr i hi 3 (by decide)
    have z4 := s3.rr i hi 4 (by decide)
    have z5 := s3.rr i hi 5 (by decide)
    have fz := (s3.ce i hi).fz
    have f0 := fz (2088 + i * 6)
    have f1 := fz (2088 + i * 6 + 1)
    have f2 := fz (2088 + i * 6 + 2)
    have f3 := fz (2088 + i * 6 + 3)
    have f4 := fz (2088 + i * 6 + 4)
    have f5 := fz (2088 + i * 6 + 5)
    have hq := HQ.out
    unfold rrV at z0 z1 z2 z3 z4 z5
    simp at z0 z1 z2 z3 z4 z5
    rw [HQ.out] at z0
    obtain ⟨th, hth⟩ : ∃ th, (S.q i).th = th := ⟨_, rfl⟩
    rw [hth] at z0
    have QB : Hid (qB S i x = (!(x == 0) && !th)) := by show _ = _; unfold qB; rw [hth]
    clear s3 k3 kw hw fz hq hth OQR OQW KQ ld
    by_cases hx0 : x = 0
    · have QB0 : Hid (qB S i x = false) := by show _ = _; rw [QB.out, hx0]; simp
      have hx1 : (x == 0) = true := by simp [hx0]
      obtain rfl : bb = false := by rw [← HBB.out]; exact QB0.out
      subst hx0
      clear QB
      go_wp2_with fail
      go_quiet (fail)
      go_wp2_with fail
      go_ret
      exact ⟨rfl, RES0.out _ QB0.out (S3.out.below (Ba.bdrew _ _)), K3.out.then (Ba.bdrew _ _)⟩
    · have hx1 : (x == 0) = false := beq_eq_false_iff_ne.2 hx0
      cases th
      · have QB0 : Hid (qB S i x = true) := by show _ = _; rw [QB.out, hx1]; rfl
        obtain rfl : bb = true := by rw [← HBB.out]; exact QB0.out
        clear QB
        go_wp2_with fail
        go_quiet (fail)
        go_wp2_with fail
        have SD := hide (S3.out.below (Ce.btr (Ba.bdrew w3 nq) (Ba.bdrew1 _)))
        have KD := hide (K3.out.then (Ce.btr (Ba.bdrew w3 nq) (Ba.bdrew1 _)))
        have hne : ¬ (R = w.heap.size) := by omega
        have hne2 : ¬ (w.heap.size = R) := by omega
        go_region_held3 (fun w' => w'.cell? ⟨w.heap.size, 1, none⟩ = some (.int .i64 (i : Int)) ∧ w'.cell? ⟨w.heap.size, 2, none⟩ = some (.int .i64 p) ∧ w'.cell? ⟨w.heap.size, 3, none⟩ = some (.int .i64 g) ∧ w'.cell? ⟨w.heap.size, 5, none⟩ = some (.bool false))
          ((go_keep; done))
          (fail)
        all_goals
          go_wp2_with fail
          go_ret
          exact ⟨rfl, RES1.out _ QB0.out (SD.out.race hi ⟨true, ⟨(i : Int), p, g, x, false⟩⟩), KD.out.trans (kf_set6 R (2088 + i * 6) ⟨true, ⟨(i : Int), p, g, x, false⟩⟩) (Nw.refl _ _)⟩
      · have QB0 : Hid (qB S i x = false) := by show _ = _; rw [QB.out, hx1]; rfl
        obtain rfl : bb = false := by rw [← HBB.out]; exact QB0.out
        clear QB
        go_wp2_with fail
        go_quiet (fail)
        go_wp2_with fail
        go_ret
        exact ⟨rfl, RES0.out _ QB0.out (S3.out.below (Ba.bdrew _ _)), K3.out.then (Ba.bdrew _ _)⟩
  · go_wp2_with fail
    first
      | refine (OQR.out (by first | rfl | trivial)).mono ?_
      | refine (OQW.out (by first | rfl | trivial)).mono ?_
    rintro r w3 ⟨rfl, s3, k3⟩
    obtain ⟨kw, hw⟩ := KQ.out w3 k3
    have S3 := hide s3
    have K3 := hide kw
    have u1 := cell_of hw 1
    have u2 := cell_of hw 2
    have u3 := cell_of hw 3
    have u5 := cell_of hw 5
    simp at u1 u2 u3 u5
    have z0 := s3.rr i hi 0 (by decide)
    have z1 := s3.rr i hi 1 (by decide)
    have z2 := s3.rr i hi 2 (by decide)
    have z3 := s3.rr i hi 3 (by decide)
    have z4 := s3.rr i hi 4 (by decide)
    have z5 := s3.rr i hi 5 (by decide)
    have fz := (s3.ce i hi).fz
    have f0 := fz (2088 + i * 6)
    have f1 := fz (2088 + i * 6 + 1)
    have f2 := fz (2088 + i * 6 + 2)
    have f3 := fz (2088 + i * 6 + 3)
    have f4 := fz (2088 + i * 6 + 4)
    have f5 := fz (2088 + i * 6 + 5)
    have hq := HQ.out
    unfold rrV at z0 z1 z2 z3 z4 z5
    simp at z0 z1 z2 z3 z4 z5
    rw [HQ.out] at z0
    obtain ⟨th, hth⟩ : ∃ th, (S.q i).th = th := ⟨_, rfl⟩
    rw [hth] at z0
    have QB : Hid (qB S i x = (!(x == 0) && !th)) := by show _ = _; unfold qB; rw [hth]
    clear s3 k3 kw hw fz hq hth OQR OQW KQ ld
    by_cases hx0 : x = 0
    · have QB0 : Hid (qB S i x = false) := by show _ = _; rw [QB.out, hx0]; simp
      have hx1 : (x == 0) = true := by simp [hx0]
      obtain rfl : bb = false := by rw [← HBB.out]; exact QB0.out
      subst hx0
      clear QB
      go_wp2_with fail
      go_quiet (fail)
      go_wp2_with fail
      go_ret
      exact ⟨rfl, RES0.out _ QB0.out (S3.out.below (Ba.bdrew _ _)), K3.out.then (Ba.bdrew _ _)⟩
    · have hx1 : (x == 0) = false := beq_eq_false_iff_ne.2 hx0
      cases th
      · have QB0 : Hid (qB S i x = true) := by show _ = _; rw [QB.out, hx1]; rfl
        obtain rfl : bb = true := by rw [← HBB.out]; exact QB0.out
        clear QB
        go_wp2_with fail
        go_quiet (fail)
        go_wp2_with fail
        have SD := hide (S3.out.below (Ce.btr (Ba.bdrew w3 nq) (Ba.bdrew1 _)))
        have KD := hide (K3.out.then (Ce.btr (Ba.bdrew w3 nq) (Ba.bdrew1 _)))
        have hne : ¬ (R = w.heap.size) := by omega
        have hne2 : ¬ (w.heap.size = R) := by omega
        go_region_held3 (fun w' => w'.cell? ⟨w.heap.size, 1, none⟩ = some (.int .i64 (i : Int)) ∧ w'.cell? ⟨w.heap.size, 2, none⟩ = some (.int .i64 p) ∧ w'.cell? ⟨w.heap.size, 3, none⟩ = some (.int .i64 g) ∧ w'.cell? ⟨w.heap.size, 5, none⟩ = some (.bool true))
          ((go_keep; done))
          (fail)
        all_goals
          go_wp2_with fail
          go_ret
          exact ⟨rfl, RES1.out _ QB0.out (SD.out.race hi ⟨true, ⟨(i : Int), p, g, x, true⟩⟩), KD.out.trans (kf_set6 R (2088 + i * 6) ⟨true, ⟨(i : Int), p, g, x, true⟩⟩) (Nw.refl _ _)⟩
      · have QB0 : Hid (qB S i x = false) := by show _ = _; rw [QB.out, hx1]; rfl
        obtain rfl : bb = false := by rw [← HBB.out]; exact QB0.out
        clear QB
        go_wp2_with fail
        go_quiet (fail)
        go_wp2_with fail
        go_ret
        exact ⟨rfl, RES0.out _ QB0.out (S3.out.below (Ba.bdrew _ _)), K3.out.then (Ba.bdrew _ _)⟩
end Co
end Go.Proofs.Ytekdcfdjohlfcaa
/- Layer 18's laws, over this seat's program: two bools as an argument; what becomes of an access whose tid is retired (plain). -/
namespace Go.Proofs.Ytekdcfdjohlfcaa
open Go.ChangeShapes Go.WideShapes Go.ChangeAt Go.RowKit
namespace Ce
open Ck
open Ba (KF Bd Nw hide)
open Ep (tidOf clkOf ownB)

theorem cells_bo : Try.prog.cellsOf 4 = 1 := by kernel_rfl
/-- an epoch of a tid and a clock -/
theorem pk_own {t c : Int} (h0 : 0 ≤ t) (h1 : t < 256) (h2 : 1 ≤ c) (h3 : c ≤ 1048576) : ownB ((t + 1) * 4294967296 + c) = true ∧ tidOf ((t + 1) * 4294967296 + c) = t ∧ clkOf ((t + 1) * 4294967296 + c) = c := by
  have e1 : ((t + 1) * 4294967296 + c) / 4294967296 = t + 1 := by omega
  have e2 : ((t + 1) * 4294967296 + c) % 4294967296 = c := by omega
  have ho : ownB ((t + 1) * 4294967296 + c) = true := by
    unfold Ep.ownB
    rw [e1, e2]
    simp; omega
  refine ⟨ho, ?_, ?_⟩
  · rw [Ep.tid_own _ ho, e1]; omega
  · rw [Ep.clk_own _ ho, e2]
theorem own_ne0 {e : Int} (h : ownB e = true) : (e == 0) = false := by
  have := Ep.own_bd e h
  rw [beq_eq_false_iff_ne]
  omega
theorem own_neT {e : Int} (h : ownB e = true) : (e == 18446744073709551615) = false := by
  have := Ep.own_bd e h
  rw [beq_eq_false_iff_ne]
  omega
theorem seen_own {e c : Int} (h : ownB e = true) : seenB e c = decide (clkOf e ≤ c) := by
  have h1 : 1 ≤ clkOf e := by rw [Ep.clk_own e h]; exact (Ep.own_bd e h).2.2.1
  simp [seenB, own_ne0 h, h1]
theorem tid0 : tidOf 0 = -1 := by decide
theorem tidT : tidOf 18446744073709551615 = -1 := by decide
theorem rd_first (e : Int) : rdS ⟨0, [], false⟩ e [] = ⟨0, [e], false⟩ := by simp [rdS, kept, pos, insL]
theorem rem_own {e cut : Int} (h : ownB e = true) : remE e cut = if clkOf e ≤ cut then 0 else 18446744073709551615 := by
  unfold remE
  rw [seen_own h]
  by_cases q : clkOf e ≤ cut <;> simp [q]
theorem ret_w {e cut : Int} (h : ownB e = true) (ht : tidOf e = 2) : retS (wrS e) 2 cut = ⟨if clkOf e ≤ cut then 0 else 18446744073709551615, [], false⟩ := by
  unfold retS
  have g1 : retL (wrS e) 2 cut = if clkOf e ≤ cut then 0 else 18446744073709551615 := by simp only [retL, wrS, ht]; simpa using rem_own h
  have g2 : retD (wrS e) 2 = [] := by simp [retD, wrS, has]
  have g3 : retT (wrS e) 2 cut = false := by simp [retT, wrS, has]
  rw [g1, g2, g3]
theorem ret_r {e cut : Int} (h : ownB e = true) (ht : tidOf e = 2) : retS ⟨0, [e], false⟩ 2 cut = ⟨0, [], !decide (clkOf e ≤ cut)⟩ := by
  unfold retS
  have g1 : retL ⟨0, [e], false⟩ 2 cut = 0 := by simp [retL, tid0]
  have gh : has [e] 2 = true := by simp [has, ht]
  have gp : pos [e] 2 = 0 := by simp [pos, ht]
  have g2 : retD ⟨0, [e], false⟩ 2 = [] := by simp [retD, gh, gp, outL]
  have g3 : retT ⟨0, [e], false⟩ 2 cut = !decide (clkOf e ≤ cut) := by
    simp only [retT, gh, gp, nth_cons_zero, rem_own h]
    by_cases q : clkOf e ≤ cut <;> simp [q]
  rw [g1, g2, g3]
theorem kn_0 (t : Int) (l : List Int) : kn t l 0 = true := by simp [kn, seenB]
theorem kn_T (t : Int) (l : List Int) (h : 0 ≤ t) : kn t l 18446744073709551615 = false := by
  have hc : clkOf 18446744073709551615 = 0 := by decide
  simp [kn, seenB, tidT, hc]; omega
theorem last_w (q : Bool) (t : Bool) (l : List Int) (hl : q = false → t = false) : wrR ⟨if q = true then 0 else 18446744073709551615, [], t⟩ 8589934597 l = if q = true then (if t = true then 2 else 0) else 1 := by
  have ht : tidOf 8589934597 = 1 := by decide
  cases q
  · simp [wrR, ht, kn_T]
  · simp [wrR, kn_0]
theorem last_r (q : Bool) (t : Bool) (l : List Int) : rdR ⟨if q = true then 0 else 18446744073709551615, [], t⟩ 8589934597 l = if q = true then 0 else 1 := by
  have ht : tidOf 8589934597 = 1 := by decide
  cases q
  · simp [rdR, ht, kn_T]
  · simp [rdR, kn_0]
end Ce
end Go.Proofs.Ytekdcfdjohlfcaa
/- Layer 18, plain: a cell and the reference's cell tell the same. -/
namespace Go.Proofs.Ytekdcfdjohlfcaa
open Go.ChangeShapes Go.WideShapes Go.ChangeAt Go.RowKit
namespace Ce
open Ck
open Ep (tidOf clkOf ownB)

/-- an epoch and an access are the same -/
def AcOf (e : Int) (a : Ac) : Prop := (e = 0 ∧ a.no = true ∧ a.tl = false) ∨ (e = 18446744073709551615 ∧ a.no = false ∧ a.tl = true) ∨ (ownB e = true ∧ a.no = false ∧ a.tl = false ∧ a.tid = tidOf e ∧ a.n = clkOf e)
structure Eqc (st : Cst) (a : Ac) (F : Nat → Int) (tl : Bool) : Prop where
  la : AcOf st.last a
  rd : ∀ e ∈ st.rd, F (tidOf e).toNat = clkOf e
  dr : ∀ k, k < 256 → F k ≠ 0 → ∃ e ∈ st.rd, tidOf e = (k : Int)
  tl : tl = st.tl
theorem own_tid {e : Int} (h : ownB e = true) : 0 ≤ tidOf e ∧ tidOf e < 256 := by
  rw [Ep.tid_own e h]
  have := Ep.own_bd e h
  omega
theorem own_clk {e : Int} (h : ownB e = true) : 1 ≤ clkOf e ∧ clkOf e ≤ 1048576 := by
  rw [Ep.clk_own e h]
  have := Ep.own_bd e h
  omega
/-- the clocks say the same -/
def Cl (l : List Int) (G : Nat → Int) : Prop := ∀ k, k < 256 → G k = nth l k
theorem gt_rg {l : List Int} {G : Nat → Int} (h : Cl l G) {t : Int} (h0 : 0 ≤ t) (h1 : t < 256) : gt l t = rg G t := by
  obtain ⟨k, rfl⟩ := Int.eq_ofNat_of_zero_le h0
  rw [gt_nat, rg_nat G k (by omega), h k (by omega)]
theorem kn_rkn {l : List Int} {G : Nat → Int} (h : Cl l G) {e : Int} {a : Ac} (ha : AcOf e a) {own : Int} (ho : 0 ≤ own) : kn own l e = rkn a own G := by
  obtain ⟨t, n, no, tl⟩ := a
  rcases ha with ⟨rfl, h1, h2⟩ | ⟨rfl, h1, h2⟩ | ⟨h0, h1, h2, h3, h4⟩
  · rw [kn_0]; simp only at h1; subst h1; rfl
  · rw [kn_T own l ho]; simp only at h1 h2; subst h1 h2; rfl
  · simp only at h1 h2 h3 h4
    subst h1 h2 h3 h4
    unfold kn rkn
    rw [seen_own h0, gt_rg h (own_tid h0).1 (own_tid h0).2]
    rfl
/-- an epoch of a read -/
def acR (e : Int) : Ac := ⟨tidOf e, clkOf e, false, false⟩
theorem acR_of {e : Int} (h : ownB e = true) : AcOf e (acR e) := .inr (.inr ⟨h, rfl, rfl, rfl, rfl⟩)
theorem acR_k {st : Cst} {a : Ac} {F : Nat → Int} {tl : Bool} (q : Eqc st a F tl) (g : Gd st) {e : Int} (he : e ∈ st.rd) : (⟨((tidOf e).toNat : Int), F (tidOf e).toNat, false, false⟩ : Ac) = acR e := by
  have ho := g.ro e he
  have ht := own_tid ho
  unfold acR
  rw [q.rd e he]
  congr 1
  omega
theorem read_same {st : Cst} {a : Ac} {F : Nat → Int} {tl : Bool} (q : Eqc st a F tl) {l : List Int} {G : Nat → Int} (hc : Cl l G) {e : Int} (ho : ownB e = true) : rdR st e l = rrR a (tidOf e) G := by
  unfold rdR rrR
  rw [kn_rkn hc q.la (own_tid ho).1]
theorem Eqc.read {st : Cst} {a : Ac} {F : Nat → Int} {tl : Bool} (q : Eqc st a F tl) (g : Gd st) {l : List Int} {G : Nat → Int} (hc : Cl l G) {e : Int} (ho : ownB e = true) : Eqc (rdS st e l) a (upF (ff F (tidOf e) G 256) (tidOf e).toNat (clkOf e)) tl := by
  have hte := own_tid ho
  refine ⟨q.la, fun x hx => ?_, fun k hk hF => ?_, q.tl⟩
  · rcases mem_ins.1 hx with r | r
    · rw [r]; simp [upF]
    · have hm := (List.mem_filter.1 r)
      have hox := g.ro x hm.1
      have htx := own_tid hox
      have hne : tidOf x ≠ tidOf e := kept_ne r
      have hnk : kn (tidOf e) l x = false := by simpa using hm.2
      unfold upF
      rw [if_neg (by omega)]
      unfold ff
      rw [acR_k q g hm.1, if_neg, q.rd x hm.1]
      rintro ⟨-, -, hr⟩
      rw [← kn_rkn hc (acR_of hox) hte.1, hnk] at hr
      cases hr
  · by_cases hk2 : k = (tidOf e).toNat
    · exact ⟨e, mem_ins.2 (.inl rfl), by omega⟩
    · have hF2 : ff F (tidOf e) G 256 k ≠ 0 := by simpa [upF, hk2] using hF
      have hF3 : F k ≠ 0 := fun e0 => hF2 (by unfold ff; split <;> first | rfl | exact e0)
      obtain ⟨x, hx, hxt⟩ := q.dr k hk hF3
      refine ⟨x, mem_ins.2 (.inr ?_), hxt⟩
      refine List.mem_filter.2 ⟨hx, ?_⟩
      have hox := g.ro x hx
      have hkx : (tidOf x).toNat = k := by omega
      have hpos : 0 < F k := by
        have := q.rd x hx
        rw [hkx] at this
        have := own_clk hox
        omega
      have hr : rkn ⟨(k : Int), F k, false, false⟩ (tidOf e) G = false := by
        cases hh : rkn ⟨(k : Int), F k, false, false⟩ (tidOf e) G with
        | false => rfl
        | true => exact absurd (by unfold ff; rw [if_pos ⟨hk, hpos, hh⟩]) hF2
      have ea := acR_k q g hx
      rw [hkx] at ea
      rw [ea, ← kn_rkn hc (acR_of hox) hte.1] at hr
      simp [hr]
theorem unk_any {st : Cst} {a : Ac} {F : Nat → Int} {tl : Bool} (q : Eqc st a F tl) (g : Gd st) {l : List Int} {G : Nat → Int} (hc : Cl l G) {own : Int} (ho : 0 ≤ own) : (st.rd.any fun x => !kn own l x) = unk F own G 256 := by
  apply Bool.eq_iff_iff.2
  rw [List.any_eq_true]
  unfold unk
  rw [List.any_eq_true]
  constructor
  · rintro ⟨x, hx, hk⟩
    have hox := g.ro x hx
    have htx := own_tid hox
    refine ⟨(tidOf x).toNat, by simp; omega, ?_⟩
    rw [acR_k q g hx, q.rd x hx, ← kn_rkn hc (acR_of hox) ho]
    have := own_clk hox
    simp only [Bool.and_eq_true, decide_eq_true_eq]
    exact ⟨by omega, hk⟩
  · rintro ⟨k, hk, hh⟩
    simp only [Bool.and_eq_true, decide_eq_true_eq] at hh
    have hk' : k < 256 := by simpa using hk
    obtain ⟨x, hx, hxt⟩ := q.dr k hk' (by omega)
    have hox := g.ro x hx
    have hkx : (tidOf x).toNat = k := by omega
    have ea := acR_k q g hx
    rw [hkx] at ea
    refine ⟨x, hx, ?_⟩
    have := hh.2
    rw [ea, ← kn_rkn hc (acR_of hox) ho] at this
    exact this
theorem write_same {st : Cst} {a : Ac} {F : Nat → Int} {tl : Bool} (q : Eqc st a F tl) (g : Gd st) {l : List Int} {G : Nat → Int} (hc : Cl l G) {e : Int} (ho : ownB e = true) : wrR st e l = rpR a F tl (tidOf e) G := by
  unfold wrR rpR wi
  rw [kn_rkn hc q.la (own_tid ho).1, unk_any q g hc (own_tid ho).1, q.tl]
  cases rkn a (tidOf e) G <;> cases (st.tl || unk F (tidOf e) G 256) <;> rfl
theorem Eqc.write {e : Int} (ho : ownB e = true) : Eqc (wrS e) ⟨tidOf e, clkOf e, false, false⟩ nf false :=
  ⟨.inr (.inr ⟨ho, rfl, rfl, rfl, rfl⟩), by simp [wrS], fun k _ h => absurd rfl h, rfl⟩
theorem Eqc.zero : Eqc ⟨0, [], false⟩ ⟨0, 0, true, false⟩ nf false := ⟨.inl ⟨rfl, rfl, rfl⟩, by simp, fun k _ h => absurd rfl h, rfl⟩
theorem Eqc.retire {st : Cst} {a : Ac} {F : Nat → Int} {tl : Bool} (q : Eqc st a F tl) (g : Gd st) (t : Nat) (ht : t < 256) (cut : Int) (h0 : 0 ≤ cut) : Eqc (retS st (t : Int) cut) (rtA a (t : Int) cut) (upF F t 0) (tl || decide (cut < F t)) := by
  have hout : ∀ x ∈ retD st (t : Int), x ∈ st.rd ∧ tidOf x ≠ (t : Int) := by
    intro x hx
    unfold retD at hx
    split at hx
    · rename_i hh
      obtain ⟨hp, hpt⟩ := has_pos g.so hh
      refine ⟨mem_outL hx, fun e => ?_⟩
      obtain ⟨k, hk, hkx⟩ := mem_nth hx
      rw [out_len _ _ hp] at hk
      by_cases h : k < pos st.rd (t : Int)
      · rw [nth_out_lt _ _ _ hp h] at hkx
        have := g.so k _ h hp
        rw [hkx, hpt] at this; omega
      · rw [nth_out_ge _ _ _ hp (by omega)] at hkx
        have := g.so (pos st.rd (t : Int)) (k + 1) (by omega) (by omega)
        rw [hkx, hpt] at this; omega
    · rename_i hh
      refine ⟨hx, fun e => hh ?_⟩
      obtain ⟨k, hk, hkx⟩ := mem_nth hx
      exact has_yes hk (by rw [hkx]; exact e)
  have hin : ∀ x ∈ st.rd, tidOf x ≠ (t : Int) → x ∈ retD st (t : Int) := by
    intro x hx hne
    unfold retD
    split
    · rename_i hh
      obtain ⟨hp, hpt⟩ := has_pos g.so hh
      obtain ⟨k, hk, hkx⟩ := mem_nth hx
      have hkp : k ≠ pos st.rd (t : Int) := fun e => hne (by rw [← hkx, e]; exact hpt)
      rw [← hkx]
      by_cases h : k < pos st.rd (t : Int)
      · rw [← nth_out_lt _ _ _ hp h]; exact nth_mem (by rw [out_len _ _ hp]; omega)
      · have e2 : nth (outL st.rd (pos st.rd (t : Int))) (k - 1) = nth st.rd k := by
          rw [nth_out_ge _ _ _ hp (by omega)]
          congr 1
          omega
        rw [← e2]; exact nth_mem (by rw [out_len _ _ hp]; omega)
    · exact hx
  refine ⟨?_, fun x hx => ?_, fun k hk hF => ?_, ?_⟩
  · show AcOf (retL st (t : Int) cut) _
    unfold retL rtA
    obtain ⟨at_, an, ano, atl⟩ := a
    rcases q.la with ⟨e0, e1, e2⟩ | ⟨e0, e1, e2⟩ | ⟨e0, e1, e2, e3, e4⟩
    · simp only at e1 e2; subst e1 e2
      rw [e0, tid0]
      have : ((-1 : Int) == (t : Int)) = false := by rw [beq_eq_false_iff_ne]; omega
      simp only [this]
      exact .inl ⟨by simp, rfl, rfl⟩
    · simp only at e1 e2; subst e1 e2
      rw [e0, tidT]
      have : ((-1 : Int) == (t : Int)) = false := by rw [beq_eq_false_iff_ne]; omega
      simp only [this]
      exact .inr (.inl ⟨by simp, rfl, rfl⟩)
    · simp only at e1 e2 e3 e4; subst e1 e2 e3 e4
      cases hq : (tidOf st.last == (t : Int))
      · exact .inr (.inr ⟨by simpa using e0, rfl, rfl, by simp, by simp⟩)
      · simp only [rem_own e0]
        by_cases hc : clkOf st.last ≤ cut
        · exact .inl ⟨by simp [hc], by simp [hc], by simp [hc]⟩
        · exact .inr (.inl ⟨by simp [hc], by simp [hc], by simp [hc]⟩)
  · obtain ⟨h1, h2⟩ := hout x hx
    have := own_tid (g.ro x h1)
    unfold upF
    rw [if_neg (by omega)]
    exact q.rd x h1
  · have hkt : k ≠ t := fun e => hF (by simp [upF, e])
    have hF2 : F k ≠ 0 := by simpa [upF, hkt] using hF
    obtain ⟨x, hx, hxt⟩ := q.dr k hk hF2
    exact ⟨x, hin x hx (by omega), hxt⟩
  · show _ = retT st (t : Int) cut
    unfold retT
    rw [q.tl]
    congr 1
    cases hh : has st.rd (t : Int)
    · have : F t = 0 := by
        cases Classical.em (F t = 0) with
        | inl h => exact h
        | inr h =>
          obtain ⟨x, hx, hxt⟩ := q.dr t ht h
          obtain ⟨k, hk, hkx⟩ := mem_nth hx
          have : has st.rd (t : Int) = true := has_yes hk (by rw [hkx]; exact hxt)
          rw [hh] at this; cases this
      rw [this]
      simp; omega
    · obtain ⟨hp, hpt⟩ := has_pos g.so hh
      have hm := nth_mem hp
      have ho := g.ro _ hm
      have hF := q.rd _ hm
      rw [hpt, Int.toNat_natCast] at hF
      rw [rem_own ho, hF]
      by_cases hc : clkOf (nth st.rd (pos st.rd (t : Int))) ≤ cut
      · simp [hc]
      · have : cut < clkOf (nth st.rd (pos st.rd (t : Int))) := by omega
        simp [hc, this]
end Ce
end Go.Proofs.Ytekdcfdjohlfcaa
/- Layer 19, plain: a report and the reference's say the same. -/
namespace Go.Proofs.Ytekdcfdjohlfcaa
open Go.ChangeShapes Go.WideShapes Go.ChangeAt Go.RowKit
namespace Co
open Ck Ce Rep
open Ep (tidOf clkOf ownB)

structure Eqr (S : Rst) (Q : Qst) : Prop where
  c : ∀ i, i < 8 → Eqc (S.c i) (Q.A i) (Q.F i) (Q.T i)
  g : ∀ i, i < 8 → Gd (S.c i)
  f : ∀ i : Nat, i < 8 → S.f (i : Int) = if (Q.q i).th = true then some (Q.q i).r else none
theorem Eqr.zero : Eqr S00 (Qk 8) := by
  refine ⟨fun i hi => ?_, fun i hi => ⟨.inl rfl, by simp [S00, c00], srt_nil⟩, fun i hi => rfl⟩
  show Eqc c00 (if i < 8 then _ else _) nf false
  rw [if_pos hi]
  exact Eqc.zero
theorem Eqr.ret {S : Rst} {Q : Qst} (h : Eqr S Q) (t : Nat) (ht : t < 256) (cut : Int) (h0 : 0 ≤ cut) : Eqr ⟨rtC S (t : Int) cut 8, S.f⟩ (rqS Q t cut 8) := by
  refine ⟨fun i hi => ?_, fun i hi => ?_, h.f⟩
  · show Eqc (rtC S (t : Int) cut 8 i) (if i < 8 then _ else _) (if i < 8 then _ else _) (if i < 8 then _ else _)
    unfold rtC
    rw [if_pos hi, if_pos hi, if_pos hi, if_pos hi]
    exact (h.c i hi).retire (h.g i hi) t ht cut h0
  · show Gd (rtC S (t : Int) cut 8 i)
    unfold rtC
    rw [if_pos hi]
    exact (h.g i hi).retire (t : Int) cut
/-- the races are the same -/
theorem Eqr.races {S : Rst} {Q : Qst} (h : Eqr S Q) : ∀ k, k ≤ 8 → rl S.f k = ql Q.q k
  | 0, _ => rfl
  | k + 1, hk => by
    unfold rl ql
    rw [h.races k (by omega), h.f k (by omega)]
    split <;> rfl
theorem Eqr.none {S : Rst} {Q : Qst} (h : Eqr S Q) {i : Nat} (hi : i < 8) : (S.f (i : Int)).isSome = (Q.q i).th := by
  rw [h.f i hi]
  cases (Q.q i).th <;> rfl
/-- what an access finds is the same -/
theorem Eqr.x {S : Rst} {Q : Qst} (h : Eqr S Q) {i : Nat} (hi : i < 8) (a : Rep.Aq) {l : List Int} {G : Nat → Int} (hc : Cl l G) {e : Int} (ho : ownB e = true) : Rep.acR a (S.c i) e l = qX Q i a.wr (tidOf e).toNat G := by
  have ht : ((tidOf e).toNat : Int) = tidOf e := Int.toNat_of_nonneg (own_tid ho).1
  unfold Rep.acR qX
  rw [ht]
  cases a.wr
  · exact read_same (h.c i hi) hc ho
  · exact write_same (h.c i hi) (h.g i hi) hc ho
theorem Eqr.put {S : Rst} {Q : Qst} (h : Eqr S Q) {i : Nat} (hi : i < 8) (a : Rep.Aq) (ha : a.c = (i : Int)) {l : List Int} {G : Nat → Int} (hc : Cl l G) {e : Int} (ho : ownB e = true) :
    Eqr (putS S a i e l) (qP Q i a (tidOf e).toNat (clkOf e) G) ∧ putB S a i e l = qB Q i (qX Q i a.wr (tidOf e).toNat G) := by
  have ht : ((tidOf e).toNat : Int) = tidOf e := Int.toNat_of_nonneg (own_tid ho).1
  have hx := h.x hi a hc ho
  have hn := h.none hi
  have hb : putB S a i e l = qB Q i (qX Q i a.wr (tidOf e).toNat G) := by
    unfold putB qB
    rw [hx, ha, ← hn]
    cases S.f (i : Int) <;> rfl
  refine ⟨⟨fun j hj => ?_, fun j hj => ?_, fun j hj => ?_⟩, hb⟩
  · show Eqc (upn S.c i (acS a (S.c i) e l) j) ((qC Q i a.wr (tidOf e).toNat (clkOf e) G).A j) ((qC Q i a.wr (tidOf e).toNat (clkOf e) G).F j) ((qC Q i a.wr (tidOf e).toNat (clkOf e) G).T j)
    unfold qC acS
    cases a.wr
    · show Eqc (upn S.c i (rdS (S.c i) e l) j) (upn Q.A i (Q.A i) j) (upn Q.F i _ j) (upn Q.T i (Q.T i) j)
      by_cases q : j = i
      · subst q
        rw [upn_same, upn_same, upn_same, upn_same, ht]
        exact (h.c j hj).read (h.g j hj) hc ho
      · rw [upn_other _ _ _ _ q, upn_other _ _ _ _ q, upn_other _ _ _ _ q, upn_other _ _ _ _ q]
        exact h.c j hj
    · show Eqc (upn S.c i (wrS e) j) (upn Q.A i _ j) (upn Q.F i nf j) (upn Q.T i false j)
      by_cases q : j = i
      · subst q
        rw [upn_same, upn_same, upn_same, upn_same, ht]
        exact Eqc.write ho
      · rw [upn_other _ _ _ _ q, upn_other _ _ _ _ q, upn_other _ _ _ _ q, upn_other _ _ _ _ q]
        exact h.c j hj
  · show Gd (upn S.c i (acS a (S.c i) e l) j)
    by_cases q : j = i
    · subst q
      rw [upn_same]
      unfold acS
      cases a.wr
      · exact (h.g j hj).read ho l
      · exact ⟨.inr (.inr ho), by simp [wrS], srt_nil⟩
    · rw [upn_other _ _ _ _ q]; exact h.g j hj
  · show putF S a (Rep.acR a (S.c i) e l) (j : Int) = if (qQ Q i a (qX Q i a.wr (tidOf e).toNat G) j).th = true then some (qQ Q i a (qX Q i a.wr (tidOf e).toNat G) j).r else Option.none
    rw [hx]
    generalize qX Q i a.wr (tidOf e).toNat G = x at *
    unfold putF qQ qB
    rw [ha, hn]
    cases hth : (Q.q i).th
    · by_cases x0 : x = 0
      · subst x0
        simp
        have := h.f j hj
        simpa using this
      · have x1 : (x == 0) = false := beq_eq_false_iff_ne.2 x0
        have eq : (if (!(x == 0) && !false) = true then upn Q.q i ⟨true, rcOf a x⟩ else Q.q) = upn Q.q i ⟨true, rcOf a x⟩ := if_pos (by rw [x1]; rfl)
        rw [if_neg (by simp [x0]), eq]
        by_cases q : j = i
        · subst q
          rw [upf_same, upn_same]
          rfl
        · rw [upf_other _ _ _ _ (by omega), upn_other _ _ _ _ q]
          exact h.f j hj
    · have eq : (if (!(x == 0) && !true) = true then upn Q.q i ⟨true, rcOf a x⟩ else Q.q) = Q.q := if_neg (by simp)
      rw [if_pos (.inr rfl), eq]
      exact h.f j hj
end Co
end Go.Proofs.Ytekdcfdjohlfcaa
/- Layer 18's laws, over this seat's program: a step of both (does). -/
namespace Go.Proofs.Ytekdcfdjohlfcaa
open Go.ChangeShapes Go.WideShapes Go.ChangeAt Go.RowKit
namespace Ce
open Ck
open Ba (KF Bd Nw)
open Ep (tidOf clkOf ownB rdN rdT rdt rdc rdk)

/-- both cells, side by side -/
structure J (Y0 : Nat → Prop) (X R : Nat) (w : World) (st : Cst) (a : Ac) (F : Nat → Int) (tl : Bool) : Prop where
  cw : CW (fun k => Y0 k ∨ k = R) X w st
  rx : RX w R a F tl
  nr : ¬ Y0 R
  eq : Eqc st a F tl
theorem J.y0 {Y0 : Nat → Prop} {X R : Nat} {w : World} {st : Cst} {a : Ac} {F : Nat → Int} {tl : Bool} (j : J Y0 X R w st a F tl) : ∀ k, Y0 k → k < w.heap.size := fun k hk => j.cw.yl k (.inl hk)
theorem J.below {Y0 : Nat → Prop} {X R : Nat} {w w' : World} {st : Cst} {a : Ac} {F : Nat → Int} {tl : Bool} (j : J Y0 X R w st a F tl) (b : Below w.heap.size w w') : J Y0 X R w' st a F tl := ⟨j.cw.kept b, j.rx.below b, j.nr, j.eq⟩
theorem J.more {Y0 Z0 : Nat → Prop} {X R : Nat} {w w' : World} {st : Cst} {a : Ac} {F : Nat → Int} {tl : Bool} (j : J Y0 X R w st a F tl) (b : Below w.heap.size w w') (hz : ∀ k, Z0 k → Y0 k ∨ w.heap.size ≤ k) (hl : ∀ k, Z0 k → k < w'.heap.size) : J Z0 X R w' st a F tl := by
  refine ⟨j.cw.more b (fun k q => ?_) (fun k q => ?_), j.rx.below b, fun q => ?_, j.eq⟩
  · rcases q with q | q
    · rcases hz k q with r | r
      · exact .inl (.inl r)
      · exact .inr r
    · exact .inl (.inr q)
  · rcases q with q | q
    · exact hl k q
    · rw [q]; exact Nat.lt_of_lt_of_le j.rx.lt b.size
  · rcases hz R q with r | r
    · exact j.nr r
    · have := j.rx.lt; omega
theorem J.less {Y0 Z0 : Nat → Prop} {X R : Nat} {w : World} {st : Cst} {a : Ac} {F : Nat → Int} {tl : Bool} (j : J Y0 X R w st a F tl) (hz : ∀ k, Z0 k → Y0 k) : J Z0 X R w st a F tl :=
  j.more (Below.refl _ _) (fun k q => .inl (hz k q)) (fun k q => j.y0 k (hz k q))
/-- the reference's calls leave the cell alone -/
theorem CW.ref {Y : Nat → Prop} {X R : Nat} {w w' : World} {st : Cst} (h : CW Y X w st) (hR : Y R) (k : KF (fun k => k = R) w w') : CW Y X w' st := by
  obtain ⟨v, h⟩ := h
  have hX : X ≠ R := fun e => h.yx (e ▸ hR)
  refine ⟨v, (k.block X h.lt hX).trans h.head, ?_, h.ne, h.yx, h.yg, fun x q => Nat.lt_of_lt_of_le (h.yl x q) k.size, h.gd⟩
  refine ⟨h.own.1, ?_⟩
  rcases h.own.2 with q | ⟨g, cap, cr, e, h0, hg, q⟩
  · exact .inl q
  · refine .inr ⟨g, cap, cr, e, h0, ?_, q⟩
    have hgR : g ≠ R := fun e2 => h.yg g (by rw [e]; rfl) (e2 ▸ hR)
    exact (k.block g (Array.getElem?_eq_some_iff.1 hg).1 hgR).trans hg
theorem KY.ref {Y0 : Nat → Prop} {R : Nat} {w w' : World} (hR : ¬ Y0 R) (hy : ∀ k, Y0 k → k < w.heap.size) (k : KF (fun k => k = R) w w') : KY Y0 w w' :=
  ⟨k.os, k.tape, k.output, k.size, fun x hx => k.block x (hy x hx) (fun e => hR (e ▸ hx))⟩
/-- what a step gives -/
def DoR (Y0 : Nat → Prop) (X R : Nat) (w : World) (r : Ending) (w' : World) : Prop := r = .returned (.bool true) ∧ (∃ st a F tl, J Y0 X R w' st a F tl) ∧ KY Y0 w w'
/-- a step as a value -/
def stpV (wh tid cut e : Int) (oa : Option Addr) (n c : Nat) : Array Value := #[.int .i64 wh, .int .i64 tid, .int .i64 cut, .int .u64 e, .slice oa n c]

end Ce
end Go.Proofs.Ytekdcfdjohlfcaa
/- Layer 19's law ReportSteps, over this seat's program: both reports side by side; a step that retires. -/
namespace Go.Proofs.Ytekdcfdjohlfcaa
open Go.ChangeShapes Go.WideShapes Go.ChangeAt Go.RowKit
namespace Co
open Ck Ce Rep
open Ba (KF Bd Nw)
open Ep (tidOf clkOf ownB)

/-- whatever is retired of the reference -/
theorem qret_u {w : World} {R : Nat} {S : Rst} {Q : Qst} (s : QX w R Q) (h : Eqr S Q) (tid cut : Int) :
    Calls Try.prog 54 #[.pointer (some ⟨R, 0, none⟩), .int .i64 tid, .int .i64 cut] w fun r w' => r = .returned (.int .i64 (retE tid cut)) ∧ (∃ Q', QX w' R Q' ∧ Eqr (retA S tid cut) Q') ∧ KF (fun k => k = R) w w' := by
  unfold retA retE
  by_cases hb : badR tid cut
  · rw [if_pos hb, if_pos hb]
    refine (qretire_arg R tid cut hb w).mono ?_
    rintro r w' ⟨rfl, rfl⟩
    exact ⟨rfl, ⟨Q, s, h⟩, KF.refl _ _⟩
  · rw [if_neg hb, if_neg hb]
    unfold badR at hb
    obtain ⟨t, rfl⟩ : ∃ t : Nat, tid = (t : Int) := ⟨tid.toNat, by omega⟩
    refine (qretire_ok s t (by omega) cut (by omega) (by omega)).mono ?_
    rintro r w' ⟨rfl, q, k⟩
    exact ⟨rfl, ⟨_, q, h.ret t (by omega) cut (by omega)⟩, k⟩
/-- both reports -/
def JR (Y0 : Nat → Prop) (X R : Nat) (w : World) (S : Rst) (Q : Qst) : Prop := ∃ mb D xs vs, RX (fun k => Y0 k ∨ k = R) X w S mb D xs vs ∧ QX w R Q ∧ ¬ Y0 R ∧ Eqr S Q
section
variable {Y0 Z0 : Nat → Prop} {X R : Nat} {w w' : World} {S : Rst} {Q : Qst}
theorem JR.yl (j : JR Y0 X R w S Q) : ∀ k, Y0 k → k < w.heap.size := by
  obtain ⟨mb, D, xs, vs, s, q, n, e⟩ := j
  exact fun k hk => s.yl k (.inl hk)
theorem JR.more (j : JR Y0 X R w S Q) (b : Below w.heap.size w w') (hz : ∀ k, Z0 k → Y0 k ∨ w.heap.size ≤ k) (hl : ∀ k, Z0 k → k < w'.heap.size) : JR Z0 X R w' S Q := by
  obtain ⟨mb, D, xs, vs, s, q, n, e⟩ := j
  refine ⟨mb, D, xs, vs, s.mv (fun k hk => b.block k (s.bl k hk)) ?_ ?_ b.size, q.below b, fun hr => ?_, e⟩
  · rintro k (hk | hk) r
    · rcases hz k hk with z | z
      · exact s.bd k r (.inl z)
      · have := s.bl k r; omega
    · exact s.bd k r (.inr hk)
  · rintro k (hk | hk)
    · exact hl k hk
    · rw [hk]; exact Nat.lt_of_lt_of_le q.lt b.size
  · rcases hz R hr with z | z
    · exact n z
    · have := q.lt; omega
theorem JR.less (j : JR Y0 X R w S Q) (i : ∀ k, Z0 k → Y0 k) : JR Z0 X R w S Q := j.more (Below.refl _ _) (fun k q => .inl (i k q)) (fun k q => j.yl k (i k q))
/-- both retire -/
theorem JR.ret (j : JR Y0 X R w S Q) (tid cut : Int) :
    Calls Try.prog 53 #[.pointer (some ⟨X, 0, none⟩), .int .i64 tid, .int .i64 cut] w fun r w' => r = .returned (.int .i64 (retE tid cut)) ∧ KY Y0 w w' ∧
      Calls Try.prog 54 #[.pointer (some ⟨R, 0, none⟩), .int .i64 tid, .int .i64 cut] w' fun r w'' => r = .returned (.int .i64 (retE tid cut)) ∧ (∃ Q', JR Y0 X R w'' (retA S tid cut) Q') ∧ KY Y0 w w'' := by
  obtain ⟨mb, D, xs, vs, s, q, n, e⟩ := j
  refine (ret_u s tid cut).mono ?_
  rintro r w1 ⟨rfl, ⟨vs1, s1⟩, k1⟩
  refine ⟨rfl, k1.mono fun _ h => .inl h, ?_⟩
  have q1 : QX w1 R Q := q.block (k1.block R (.inr rfl))
  refine (qret_u q1 e tid cut).mono ?_
  rintro r w2 ⟨rfl, ⟨Q', q2, e2⟩, k2⟩
  have ky : KY Y0 w1 w2 := KY.ref n (fun k h => s1.yl k (.inl h)) k2
  refine ⟨rfl, ⟨Q', mb, D, xs, vs1, s1.mv (fun k hk => k2.block k (s1.bl k hk) (fun h => s1.bd k hk (.inr h))) (fun k hk r => s1.bd k r hk) (fun k hk => Nat.lt_of_lt_of_le (s1.yl k hk) k2.size) k2.size, q2, n, e2⟩, (k1.mono fun _ h => .inl h).trans ky⟩
end
end Co
end Go.Proofs.Ytekdcfdjohlfcaa
/- Layer 19's law ReportSteps, over this seat's program: does, of a step that retires. -/
namespace Go.Proofs.Ytekdcfdjohlfcaa
open Go.ChangeShapes Go.WideShapes Go.ChangeAt Go.RowKit
namespace Co
open Ck Ce Rep
open Ba (KF Bd Nw)
open Ep (tidOf clkOf ownB)

/-- what a step gives -/
def DoQ (Y0 : Nat → Prop) (X R : Nat) (w : World) (r : Ending) (w' : World) : Prop := r = .returned (.bool true) ∧ (∃ S' Q', JR Y0 X R w' S' Q') ∧ KY Y0 w w'
set_option maxRecDepth 100000 in
set_option maxHeartbeats 3200000 in
theorem does_ret {Y0 : Nat → Prop} {X R : Nat} {w : World} {S : Rst} {Q : Qst} (j : JR Y0 X R w S Q) (p g c : Int) (wr : Bool) (e : Int) (oc : Option Addr) (n cap : Nat) (tid cut : Int) (hcut : 0 ≤ cut) :
    Calls Try.prog 23 #[.pointer (some ⟨X, 0, none⟩), .pointer (some ⟨R, 0, none⟩), .agg #[.int .i64 p, .int .i64 g, .int .i64 c, .bool wr, .int .u64 e, .slice oc n cap, .int .i64 tid, .int .i64 cut]] w (DoQ Y0 X R w) := by
  unfold DoQ
  have b1 := Ba.below_alloc w (.cells #[.int .i64 p, .int .i64 g, .int .i64 c, .bool wr, .int .u64 e, .slice oc n cap, .int .i64 tid, .int .i64 cut] 63)
  have h1 : (w.alloc (.cells #[.int .i64 p, .int .i64 g, .int .i64 c, .bool wr, .int .u64 e, .slice oc n cap, .int .i64 tid, .int .i64 cut] 63)).heap[w.heap.size]? = some (.cells #[.int .i64 p, .int .i64 g, .int .i64 c, .bool wr, .int .u64 e, .slice oc n cap, .int .i64 tid, .int .i64 cut] 63 (0, 0)) := heap_new _ _
  have j1 : JR (fun k => Y0 k ∨ k = w.heap.size) X R (w.alloc (.cells #[.int .i64 p, .int .i64 g, .int .i64 c, .bool wr, .int .u64 e, .slice oc n cap, .int .i64 tid, .int .i64 cut] 63)) S Q := j.more b1 (fun k q => q.imp id fun h => by omega) (fun k q => by
    rw [World.size_alloc]
    rcases q with q | q
    · exact Nat.lt_succ_of_lt (j.yl k q)
    · omega)
  have K1 := hide (KY.of b1 j.yl)
  have J1 := hide j1
  have H1 := hide h1
  clear j j1 b1 h1
  go_enter Try.func23, Try.ntmps23
  go_wp2_with fail
  generalize w.alloc (.cells #[.int .i64 p, .int .i64 g, .int .i64 c, .bool wr, .int .u64 e, .slice oc n cap, .int .i64 tid, .int .i64 cut] 63) = w1 at *
  generalize w.heap.size = B at *
  have JD := J1.out.more (Ba.bdrew1 w1) (fun _ q => .inl q) (fun k q => J1.out.yl k q)
  have RT := hide (JD.ret tid cut)
  have KP : Hid (∀ u, KY (fun k => Y0 k ∨ k = B) w1.drew u → u.cell? ⟨B, 6, none⟩ = some (.int .i64 tid) ∧ u.cell? ⟨B, 7, none⟩ = some (.int .i64 cut)) := by
    intro u k
    have h := (k.block B (.inr rfl)).trans H1.out
    exact ⟨cell_of h 6, cell_of h 7⟩
  obtain ⟨y6, y7⟩ := KP.out w1.drew (KY.refl _ _)
  have z6 : w1.cell? ⟨B, 6, none⟩ = some (.int .i64 tid) := y6
  have z7 : w1.cell? ⟨B, 7, none⟩ = some (.int .i64 cut) := y7
  have KD : Hid (∀ u, KY (fun k => Y0 k ∨ k = B) w1.drew u → KY Y0 w u) := by
    intro u k
    exact K1.out.trans ((KY.of (Ba.bdrew1 w1) (fun x h => J1.out.yl x (.inl h))).trans (k.mono fun _ h => .inl h))
  clear JD y6 y7 J1 H1 K1
  go_upto_region 2 with fail
  go_region_held3 (fun w' => w'.cell? ⟨B, 6, none⟩ = some (.int .i64 tid) ∧ w'.cell? ⟨B, 7, none⟩ = some (.int .i64 cut))
    (first | (go_keep; done) | exact KP.out _ k3 | exact KP.out _ k2)
    ((first | (go_at_call 53; refine RT.out.mono ?_; rintro r w2 ⟨rfl, k2, c2⟩) | (go_at_call 54; refine c2.mono ?_; rintro r w3 ⟨rfl, jq, k3⟩)))
  all_goals
    have JQ := hide jq
    have KQ := hide (KD.out _ k3)
    clear jq k3 c2 k2
    go_wp2_with fail
    go_ret
    obtain ⟨Q', j'⟩ := JQ.out
    exact ⟨by simp, ⟨_, Q', j'.less fun _ q => .inl q⟩, KQ.out⟩
end Co
end Go.Proofs.Ytekdcfdjohlfcaa
/- Layer 18's laws, over this seat's program: a step of both (does), of a right clock. -/
namespace Go.Proofs.Ytekdcfdjohlfcaa
open Go.ChangeShapes Go.WideShapes Go.ChangeAt Go.RowKit
namespace Ce
open Ck
open Ba (KF Bd Nw)
open Ep (tidOf clkOf ownB rdN rdT rdt rdc rdk)

theorem cl_trm (l : List Int) : Cl (trm l) (nth l) := fun k _ => (nth_trm l k).symm
end Ce
end Go.Proofs.Ytekdcfdjohlfcaa
/- Layer 19's law ReportSteps, over this seat's program: both reports put an access. -/
namespace Go.Proofs.Ytekdcfdjohlfcaa
open Go.ChangeShapes Go.WideShapes Go.ChangeAt Go.RowKit
namespace Co
open Ck Ce Rep
open Ba (KF Bd Nw)
open Ep (tidOf clkOf ownB)

/-- the program's report has put it, the reference's has not yet -/
def JH (Y0 : Nat → Prop) (X R : Nat) (w : World) (S : Rst) (Q : Qst) : Prop := ∃ mb D xs vs, RX (fun k => Y0 k ∨ k = R) X w S mb D xs vs ∧ QX w R Q ∧ ¬ Y0 R
section
variable {Y0 : Nat → Prop} {X R : Nat} {w w' : World} {S S' : Rst} {Q : Qst}
theorem JH.below (j : JH Y0 X R w S Q) (b : Below w.heap.size w w') : JH Y0 X R w' S Q := by
  obtain ⟨mb, D, xs, vs, s, q, n⟩ := j
  exact ⟨mb, D, xs, vs, s.below b, q.below b, n⟩
theorem JH.jr (j : JH Y0 X R w S Q) (e : Eqr S Q) : JR Y0 X R w S Q := by
  obtain ⟨mb, D, xs, vs, s, q, n⟩ := j
  exact ⟨mb, D, xs, vs, s, q, n, e⟩
theorem JH.yl (j : JH Y0 X R w S Q) : ∀ k, Y0 k → k < w.heap.size := by
  obtain ⟨mb, D, xs, vs, s, q, n⟩ := j
  exact fun k hk => s.yl k (.inl hk)
theorem JR.put1 (j : JR Y0 X R w S Q) (a : Rep.Aq) (e : Int) (a0 : 0 ≤ e) (a1 : e ≤ 18446744073709551615) (b : Nat) (l : List Int) (hc : CL Y0 w b l) :
    Calls Try.prog 51 #[.pointer (some ⟨X, 0, none⟩), .agg (aV a), .int .u64 e, .pointer (some ⟨b, 0, none⟩)] w fun r w' => r = .returned (.tuple #[.bool (putO S a e l), .int .i64 (putE a e)]) ∧ KY Y0 w w' ∧ JH Y0 X R w' (putA S a e l) Q := by
  obtain ⟨mb, D, xs, vs, s, q, n, eq⟩ := j
  refine (put_u s a e a0 a1 b l (hc.mono fun _ h => .inl h)).mono ?_
  rintro r w1 ⟨rfl, ⟨D1, vs1, s1⟩, k1⟩
  exact ⟨rfl, k1.mono fun _ h => .inl h, mb, D1, xs, vs1, s1, q.block (k1.block R (.inr rfl)), n⟩
theorem put_bad_is {a : Rep.Aq} {e : Int} {l : List Int} (h : badA a ∨ ownB e = false) : putA S a e l = S ∧ putO S a e l = false ∧ putE a e = 1 := by
  unfold putA putO putE
  exact ⟨if_pos h, if_pos h, if_pos h⟩
theorem put_good_is {a : Rep.Aq} {e : Int} {l : List Int} (h : ¬ badA a) (ho : ownB e = true) : putA S a e l = putS S a a.c.toNat e l ∧ putO S a e l = putB S a a.c.toNat e l ∧ putE a e = 0 := by
  have hn : ¬ (badA a ∨ ownB e = false) := fun q => q.elim h (by rw [ho]; decide)
  unfold putA putO putE
  exact ⟨if_neg hn, if_neg hn, if_neg hn⟩
/-- then the reference's -/
theorem JH.put2 {a : Rep.Aq} {e : Int} {l : List Int} {G : Nat → Int} (j : JH Y0 X R w (putS S a a.c.toNat e l) Q) (eq : Eqr S Q) (hcl : Cl l G) (h : ¬ badA a) (ho : ownB e = true) :
    Calls Try.prog 57 #[.pointer (some ⟨R, 0, none⟩), .agg #[.bool false, .int .i64 a.c, .int .i64 a.p, .int .i64 a.g, .int .i64 0, .bool a.wr], .agg #[.int .i64 (tidOf e), .int .i64 (clkOf e), .bool false, .bool false], .agg (ra G)] w fun r w' => r = .returned (.bool (putB S a a.c.toNat e l)) ∧ (∃ S' Q', JR Y0 X R w' S' Q') ∧ KY Y0 w w' := by
  obtain ⟨mb, D, xs, vs, s, q, n⟩ := j
  have hi : a.c.toNat < 8 := by unfold badA at h; omega
  have hci : a.c = (a.c.toNat : Int) := by unfold badA at h; omega
  have ht := own_tid ho
  have htn : ((tidOf e).toNat : Int) = tidOf e := Int.toNat_of_nonneg ht.1
  have Q1 := qput_any q a a.c.toNat hi hci (tidOf e).toNat (by omega) (clkOf e) G
  rw [htn, ← hci] at Q1
  obtain ⟨e2, hb⟩ := eq.put hi a hci hcl ho
  refine Q1.mono ?_
  rintro r w2 ⟨rfl, q2, k2⟩
  refine ⟨by rw [hb], ⟨_, _, mb, D, xs, vs, s.mv (fun k hk => k2.block k (s.bl k hk) (fun h => s.bd k hk (.inr h))) (fun k hk r => s.bd k r hk) (fun k hk => Nat.lt_of_lt_of_le (s.yl k hk) k2.size) k2.size, q2, n, e2⟩, KY.ref n (fun k h => s.yl k (.inl h)) k2⟩
end
end Co
end Go.Proofs.Ytekdcfdjohlfcaa
/- Layer 19's law ReportSteps, over this seat's program: does, of a step that puts. -/
namespace Go.Proofs.Ytekdcfdjohlfcaa
open Go.ChangeShapes Go.WideShapes Go.ChangeAt Go.RowKit
namespace Co
open Ck Ce Rep
open Ba (KF Bd Nw)
open Ep (tidOf clkOf ownB rdN rdT rdt rdc rdk)

set_option maxRecDepth 100000 in
set_option maxHeartbeats 3200000 in
theorem does_non {Y0 : Nat → Prop} {X R : Nat} {w : World} {S : Rst} {Q : Qst} (j : JR Y0 X R w S Q) (p g c : Int) (wr : Bool) (e : Int) (oa : Option Addr) (l : List Int) (cap : Nat) (tid cut : Int) (hcut : cut < 0) (hA : Ck.At w oa l) (hlc : l.length ≤ cap) (hcm : cap ≤ maxLen) (hbad : ¬ (l.length ≤ 256 ∧ Valid l)) :
    Calls Try.prog 23 #[.pointer (some ⟨X, 0, none⟩), .pointer (some ⟨R, 0, none⟩), .agg #[.int .i64 p, .int .i64 g, .int .i64 c, .bool wr, .int .u64 e, .slice oa l.length cap, .int .i64 tid, .int .i64 cut]] w (DoQ Y0 X R w) := by
  unfold DoQ
  have b1 := Ba.below_alloc w (.cells #[.int .i64 p, .int .i64 g, .int .i64 c, .bool wr, .int .u64 e, .slice oa l.length cap, .int .i64 tid, .int .i64 cut] 63)
  have A1 := hA.below b1
  obtain ⟨x, O1, O2⟩ : ∃ x : Int, Hid ((x == 0) = false ∧ Calls Try.prog 8 #[.slice oa l.length cap] (w.alloc (.cells #[.int .i64 p, .int .i64 g, .int .i64 c, .bool wr, .int .u64 e, .slice oa l.length cap, .int .i64 tid, .int .i64 cut] 63)) fun r w' => r = .returned (.tuple #[.pointer none, .int .i64 x]) ∧ w' = (w.alloc (.cells #[.int .i64 p, .int .i64 g, .int .i64 c, .bool wr, .int .u64 e, .slice oa l.length cap, .int .i64 tid, .int .i64 cut] 63))) ∧
      Hid (Calls Try.prog 9 #[.slice oa l.length cap] (w.alloc (.cells #[.int .i64 p, .int .i64 g, .int .i64 c, .bool wr, .int .u64 e, .slice oa l.length cap, .int .i64 tid, .int .i64 cut] 63)) fun r w' => r = .returned (.tuple #[.agg (ra nf), .int .i64 x]) ∧ Below (w.alloc (.cells #[.int .i64 p, .int .i64 g, .int .i64 c, .bool wr, .int .u64 e, .slice oa l.length cap, .int .i64 tid, .int .i64 cut] 63)).heap.size (w.alloc (.cells #[.int .i64 p, .int .i64 g, .int .i64 c, .bool wr, .int .u64 e, .slice oa l.length cap, .int .i64 tid, .int .i64 cut] 63)) w') := by
    by_cases h : 256 < l.length
    · exact ⟨2, ⟨rfl, of_long oa l.length cap _ h (Nat.le_trans hlc hcm)⟩, rof_long oa l.length cap _ h (Nat.le_trans hlc hcm)⟩
    · exact ⟨1, ⟨rfl, of_bad oa l cap _ A1 (by omega) (fun q => hbad ⟨by omega, q⟩)⟩, rof_bad oa l cap _ A1 (by omega) (fun q => hbad ⟨by omega, q⟩)⟩
  have hx0 := O1.out.1
  have O1 := hide O1.out.2
  have zr := zero_ref
  have rs := ra_size nf
  have JJ := hide j
  have B1 := hide b1
  clear j hA A1 hbad hlc hcm b1
  generalize l.length = N at *
  go_enter Try.func23, Try.ntmps23
  go_wp2_with fail
  refine O1.out.mono ?_
  rintro r w0 ⟨rfl, e0⟩
  obtain rfl := e0.symm
  go_wp2_with fail
  refine O2.out.mono ?_
  rintro r w2 ⟨rfl, b2⟩
  have s1 := st_ref nf (heap_new w2 (.cells (ra nf) 39)) (ra_size nf)
  rw [setRow_new] at s1
  have B3 := hide (Ce.btr (Ce.btr B1.out b2) (Ba.below_alloc w2 (.cells (ra nf) 39)))
  clear b2 O1 O2
  go_wp2_with fail
  go_ret
  exact ⟨rfl, ⟨_, _, JJ.out.more B3.out (fun _ q => .inl q) (fun k q => Nat.lt_of_lt_of_le (JJ.out.yl k q) B3.out.size)⟩, KY.of B3.out JJ.out.yl⟩
end Co
end Go.Proofs.Ytekdcfdjohlfcaa
/- Layer 19's law ReportSteps, over this seat's program: does, of a step that puts, with a clock. -/
namespace Go.Proofs.Ytekdcfdjohlfcaa
open Go.ChangeShapes Go.WideShapes Go.ChangeAt Go.RowKit
namespace Co
open Ck Ce Rep
open Ba (KF Bd Nw)
open Ep (tidOf clkOf ownB rdN rdT rdt rdc rdk)

set_option maxRecDepth 100000 in
set_option maxHeartbeats 6400000 in
theorem does_put {Y0 : Nat → Prop} {X R : Nat} {w : World} {S : Rst} {Q : Qst} (j : JR Y0 X R w S Q) (eq : Eqr S Q) (a : Rep.Aq) (e : Int) (a0 : 0 ≤ e) (a1 : e ≤ 18446744073709551615) (oa : Option Addr) (l : List Int) (cap : Nat) (tid cut : Int) (hcut : cut < 0) (hA : Ck.At w oa l) (hlc : l.length ≤ cap) (hcm : cap ≤ maxLen) (hl : l.length ≤ 256) (hv : Valid l) :
    Calls Try.prog 23 #[.pointer (some ⟨X, 0, none⟩), .pointer (some ⟨R, 0, none⟩), .agg #[.int .i64 a.p, .int .i64 a.g, .int .i64 a.c, .bool a.wr, .int .u64 e, .slice oa l.length cap, .int .i64 tid, .int .i64 cut]] w (DoQ Y0 X R w) := by
  unfold DoQ
  obtain ⟨p, g, c, wr⟩ := a
  simp only
  have b1 := Ba.below_alloc w (.cells #[.int .i64 p, .int .i64 g, .int .i64 c, .bool wr, .int .u64 e, .slice oa l.length cap, .int .i64 tid, .int .i64 cut] 63)
  have h1 : (w.alloc (.cells #[.int .i64 p, .int .i64 g, .int .i64 c, .bool wr, .int .u64 e, .slice oa l.length cap, .int .i64 tid, .int .i64 cut] 63)).heap[w.heap.size]? = some (.cells #[.int .i64 p, .int .i64 g, .int .i64 c, .bool wr, .int .u64 e, .slice oa l.length cap, .int .i64 tid, .int .i64 cut] 63 (0, 0)) := heap_new _ _
  have A1 := hA.below b1
  have O1 := hide (of_y oa l l.length cap rfl _ A1 hl hlc hcm hv)
  unfold OfR at O1
  have O2 := hide (fun u (b : Below _ (w.alloc (.cells #[.int .i64 p, .int .i64 g, .int .i64 c, .bool wr, .int .u64 e, .slice oa l.length cap, .int .i64 tid, .int .i64 cut] 63)) u) => rof_ok oa l cap u (A1.below b) hl hv)
  have hbl := Ep.lo_bits e a0 (by omega)
  have RR := hide (fun u => rread_any e a0 a1 u)
  have PP := hide (fun u => Ep.plain_e e u)
  have h0 : 0 ≤ e / 4294967296 := by omega
  have h01 : e / 4294967296 ≤ 4294967295 := by omega
  have h2 : 0 ≤ e % 4294967296 := by omega
  have h3 : e % 4294967296 ≤ 4294967295 := by omega
  have zr := zero_ref
  have rs := ra_size nf
  have rs2 := ra_size (nth l)
  have JJ := hide j
  have B1 := hide b1
  have H1 := hide h1
  have EQ := hide eq
  clear j hA A1 hlc hcm hl hv b1 h1 eq
  obtain ⟨N, hN⟩ : ∃ N, l.length = N := ⟨_, rfl⟩
  rw [hN] at O1 O2 H1 B1 ⊢
  clear hN
  go_enter Try.func23, Try.ntmps23
  go_wp2_with fail
  generalize w.alloc (.cells #[.int .i64 p, .int .i64 g, .int .i64 c, .bool wr, .int .u64 e, .slice oa N cap, .int .i64 tid, .int .i64 cut] 63) = w1 at *
  have d5 := cell_of H1.out 5
  simp at d5
  refine O1.out.mono ?_
  rintro r w2 ⟨b, rfl, b2, n2⟩
  have B2 := hide b2
  have N2 := hide (n2 Y0)
  have H2 := hide ((b2.block w.heap.size (Ba.heap_lt H1.out)).trans H1.out)
  have d5 := cell_of H2.out 5
  simp at d5
  clear b2 n2 O1
  go_wp2_with fail
  refine (O2.out w2 B2.out).mono ?_
  rintro r w3 ⟨rfl, b3⟩
  have s1 := st_ref (nth l) (heap_new w3 (.cells (ra nf) 39)) (ra_size nf)
  rw [setRow_new] at s1
  have WSZ := hide b3.size
  have B4 := hide (Ce.btr b3 (Ba.below_alloc w3 (.cells (ra (nth l)) 39)))
  have HD : Hid ((w3.alloc (.cells (ra (nth l)) 39)).heap[w3.heap.size]? = some (.cells (ra (nth l)) 39 (0, 0))) := heap_new _ _
  have H4 := hide ((B4.out.block w.heap.size (Ba.heap_lt H2.out)).trans H2.out)
  clear b3 O2 d5
  go_upto_region 9 with fail
  generalize w3.alloc (.cells (ra (nth l)) 39) = w4 at *
  have d4 := cell_of H4.out 4
  simp at d4
  clear s1 zr
  generalize hx1 : rdN e = x1 at *
  generalize hx2 : rdT e = x2 at *
  generalize hx3 : rdt e = x3 at *
  generalize hx4 : rdc e = x4 at *
  generalize hx5 : rdk e = x5 at *
  have HX3 := hide hx3
  have HX4 := hide hx4
  clear hx1 hx2 hx3 hx4 hx5
  go_wp2_with fail
  refine (RR.out _).mono ?_
  rintro r w5 ⟨rfl, e5⟩
  have b5 : Below w4.heap.size w4 w5 := by rw [e5]; exact Ba.below_alloc _ _
  have b6 := Ce.btr b5 (Ba.below_alloc w5 (.cells #[.bool x1, .bool x2, .int .i64 x3, .int .i64 x4] 127))
  have HP : Hid ((w5.alloc (.cells #[.bool x1, .bool x2, .int .i64 x3, .int .i64 x4] 127)).heap[w5.heap.size]? = some (.cells #[.bool x1, .bool x2, .int .i64 x3, .int .i64 x4] 127 (0, 0))) := heap_new _ _
  have H6 := hide ((b6.block w.heap.size (Ba.heap_lt H4.out)).trans H4.out)
  have HD6 := hide ((b6.block w3.heap.size (Ba.heap_lt HD.out)).trans HD.out)
  have b26 := Ce.btr B4.out b6
  have b06 := Ce.btr (Ce.btr B1.out B2.out) b26
  have J6 : Hid (JR (Yp Y0 w (w5.alloc (.cells #[.bool x1, .bool x2, .int .i64 x3, .int .i64 x4] 127))) X R (w5.alloc (.cells #[.bool x1, .bool x2, .int .i64 x3, .int .i64 x4] 127)) S Q) := JJ.out.more b06 (fun k q => q.imp id And.left) (fun k q => by
    rcases q with q | q
    · exact Nat.lt_of_lt_of_le (JJ.out.yl k q) b06.size
    · exact q.2)
  have CL6 : Hid (CL (Yp Y0 w (w5.alloc (.cells #[.bool x1, .bool x2, .int .i64 x3, .int .i64 x4] 127))) (w5.alloc (.cells #[.bool x1, .bool x2, .int .i64 x3, .int .i64 x4] 127)) b (trm l)) := by
    refine (N2.out.keep (KY.of b26 (fun k q => ?_))).mono (fun k q => ?_)
    · rcases q with q | q
      · exact Nat.lt_of_lt_of_le (JJ.out.yl k q) (Ce.btr B1.out B2.out).size
      · exact q.2
    · rcases q with q | q
      · exact .inl q
      · exact .inr ⟨Nat.le_trans B1.out.size q.1, Nat.lt_of_lt_of_le q.2 b26.size⟩
  have SUB0 : Hid (∀ k, Y0 k → Yp Y0 w (w5.alloc (.cells #[.bool x1, .bool x2, .int .i64 x3, .int .i64 x4] 127)) k) := fun k q => .inl q
  have K6 : Hid (KY Y0 w (w5.alloc (.cells #[.bool x1, .bool x2, .int .i64 x3, .int .i64 x4] 127))) := KY.of b06 JJ.out.yl
  have s6 := b06.size
  have IB : Hid (Yp Y0 w (w5.alloc (.cells #[.bool x1, .bool x2, .int .i64 x3, .int .i64 x4] 127)) w.heap.size) := .inr ⟨Nat.le_refl _, Ba.heap_lt H6.out⟩
  have ID : Hid (Yp Y0 w (w5.alloc (.cells #[.bool x1, .bool x2, .int .i64 x3, .int .i64 x4] 127)) w3.heap.size) := .inr ⟨Nat.le_trans (Ce.btr B1.out B2.out).size WSZ.out, Ba.heap_lt HD6.out⟩
  have IP : Hid (Yp Y0 w (w5.alloc (.cells #[.bool x1, .bool x2, .int .i64 x3, .int .i64 x4] 127)) w5.heap.size) := .inr ⟨Nat.le_trans (Ce.btr (Ce.btr B1.out B2.out) (Ce.btr B4.out b5)).size (Nat.le_refl _), Ba.heap_lt HP.out⟩
  clear b5 b6 b26 b06 e5 HD H4 H1 H2 B1 B2 B4 N2 JJ WSZ s6 d4 RR
  go_upto_region 10 with fail
  generalize hw6 : w5.alloc (.cells #[.bool x1, .bool x2, .int .i64 x3, .int .i64 x4] 127) = w6 at *
  clear hw6
  generalize Yp Y0 w w6 = Y1 at *
  have SUB : Hid (∀ k, Y0 k → Y1 k) := SUB0.out
  obtain ⟨B, hB⟩ : ∃ B, w.heap.size = B := ⟨_, rfl⟩
  obtain ⟨D, hD⟩ : ∃ D, w3.heap.size = D := ⟨_, rfl⟩
  obtain ⟨P, hP⟩ : ∃ P, w5.heap.size = P := ⟨_, rfl⟩
  rw [hB] at H6 IB ⊢
  rw [hD] at HD6 ID ⊢
  rw [hP] at HP IP ⊢
  clear hB hD hP
  have y0 := cell_of H6.out 0
  have y1 := cell_of H6.out 1
  have y2 := cell_of H6.out 2
  have y3 := cell_of H6.out 3
  have y4 := cell_of H6.out 4
  simp at y0 y1 y2 y3 y4
  have PU := hide (J6.out.put1 ⟨p, g, c, wr⟩ e a0 a1 b (trm l) CL6.out)
  unfold aV at PU
  simp only at PU
  go_wp2_with fail
  refine PU.out.mono ?_
  rintro r w7 ⟨rfl, k7, jh⟩
  have JH7 := hide jh
  have K7 := hide (K6.out.trans (k7.mono SUB.out))
  have H7 := hide ((k7.block B IB.out).trans H6.out)
  have D7 := hide ((k7.block D ID.out).trans HD6.out)
  have P7 := hide ((k7.block P IP.out).trans HP.out)
  have v0 := cell_of P7.out 0
  have v1 := cell_of P7.out 1
  have v2 := cell_of P7.out 2
  have v3 := cell_of P7.out 3
  simp at v0 v1 v2 v3
  clear k7 jh PU J6 CL6 K6 H6 HD6 HP IB ID IP y0 y1 y2 y3 y4 SUB0
  obtain ⟨po, hpo⟩ : ∃ po, putO S ⟨p, g, c, wr⟩ e (trm l) = po := ⟨_, rfl⟩
  obtain ⟨pe, hpe⟩ : ∃ pe, putE ⟨p, g, c, wr⟩ e = pe := ⟨_, rfl⟩
  rw [hpo, hpe]
  have HPO := hide hpo
  have HPE := hide hpe
  clear hpo hpe
  go_wp2_with fail
  refine (PP.out _).mono ?_
  rintro r w8 ⟨rfl, e8⟩
  have b8 : Below w7.heap.size w7 w8 := by rw [e8]; exact Ba.below_alloc _ _
  have JH8 := hide (JH7.out.below b8)
  have K8 := hide (K7.out.trans (KY.of b8 (fun k q => JH7.out.yl k (SUB.out k q))))
  have H8 := hide ((b8.block B (Ba.heap_lt H7.out)).trans H7.out)
  have D8 := hide ((b8.block D (Ba.heap_lt D7.out)).trans D7.out)
  have P8 := hide ((b8.block P (Ba.heap_lt P7.out)).trans P7.out)
  clear b8 e8 JH7 K7 H7 D7 P7 v0 v1 v2 v3 PP
  have y0 := cell_of H8.out 0
  have y1 := cell_of H8.out 1
  have y2 := cell_of H8.out 2
  have y3 := cell_of H8.out 3
  have v2 := cell_of P8.out 2
  have v3 := cell_of P8.out 3
  simp at y0 y1 y2 y3 v2 v3
  have BAD : Hid (badA ⟨p, g, c, wr⟩ ∨ ownB e = false → po = false ∧ pe = 1 ∧ (∃ S' Q', JR Y0 X R w8 S' Q')) := by
    intro h
    obtain ⟨q1, q2, q3⟩ := put_bad_is (S := S) (l := trm l) h
    refine ⟨by rw [← HPO.out, q2], by rw [← HPE.out, q3], S, Q, ?_⟩
    have := JH8.out
    rw [q1] at this
    exact (this.jr EQ.out).less SUB.out
  have GOOD : Hid (¬ badA ⟨p, g, c, wr⟩ → ownB e = true → pe = 0 ∧ x3 = tidOf e ∧ x4 = clkOf e ∧ Calls Try.prog 57 #[.pointer (some ⟨R, 0, none⟩), .agg #[.bool false, .int .i64 c, .int .i64 p, .int .i64 g, .int .i64 0, .bool wr], .agg #[.int .i64 (tidOf e), .int .i64 (clkOf e), .bool false, .bool false], .agg (ra (nth l))] w8 fun r w' => r = .returned (.bool po) ∧ (∃ S' Q', JR Y1 X R w' S' Q') ∧ KY Y1 w8 w') := by
    intro h ho
    obtain ⟨q1, q2, q3⟩ := put_good_is (S := S) (l := trm l) h ho
    have := JH8.out
    rw [q1] at this
    have c2 := this.put2 EQ.out (G := nth l) (cl_trm l) h ho
    rw [← q2, HPO.out] at c2
    obtain ⟨-, -, e3, e4, -⟩ := Ep.rd_own e ho
    refine ⟨by rw [← HPE.out, q3], ?_, ?_, c2⟩
    · rw [← HX3.out, e3, Ep.tid_own e ho]
    · rw [← HX4.out, e4, Ep.clk_own e ho]
  unfold badA at BAD GOOD
  simp only at BAD GOOD
  clear JH8 HPO HPE EQ HX3 HX4
  obtain ⟨z, hz⟩ : ∃ z, ownB e = z := ⟨_, rfl⟩
  rw [hz] at BAD GOOD ⊢
  clear hz
  have alts : z = false ∨ (z = true ∧ c < 0) ∨ (z = true ∧ 0 ≤ c ∧ 7 < c) ∨ (z = true ∧ 0 ≤ c ∧ c ≤ 7 ∧ p < 0) ∨ (z = true ∧ 0 ≤ c ∧ c ≤ 7 ∧ 0 ≤ p ∧ g < 0) ∨ (z = true ∧ 0 ≤ c ∧ c ≤ 7 ∧ 0 ≤ p ∧ 0 ≤ g) := by
    cases z
    · exact .inl rfl
    · simp; omega
  rcases alts with rfl | ⟨rfl, c1⟩ | ⟨rfl, c1, c2⟩ | ⟨rfl, c1, c2, c3⟩ | ⟨rfl, c1, c2, c3, c4⟩ | ⟨rfl, c1, c2, c3, c4⟩
  case' inr.inr.inr.inr.inr =>
    obtain ⟨rfl, rfl, rfl, c5⟩ := GOOD.out (by omega) rfl
    have QP := hide c5
    clear c5 BAD GOOD
    have lc : (loadCellsFrom ⟨D, 0, none⟩ 0 256 #[]).run Try.prog w8 = .ok (ra (nth l)) w8 := ld_ref (RA.of D8.out)
    obtain ⟨LC, hLC⟩ : ∃ LC : Nat → Sem (Array Value), ∀ n, loadCellsFrom (⟨D, 0, none⟩ : Addr) 0 n #[] = LC n := ⟨fun n => loadCellsFrom (⟨D, 0, none⟩ : Addr) 0 n #[], fun _ => rfl⟩
    rw [hLC] at lc
    generalize ra (nth l) = AG at *
    go_wp2_with fail
    refine QP.out.mono ?_
    rintro r w9 ⟨rfl, jq, k9⟩
    have JQ := hide jq
    have KQ := hide (K8.out.trans (k9.mono SUB.out))
    clear jq k9 QP
    go_wp2_with fail
    go_ret
    obtain ⟨S', Q', j'⟩ := JQ.out
    exact ⟨by simp, ⟨S', Q', j'.less SUB.out⟩, KQ.out⟩
  all_goals
    obtain ⟨rfl, rfl, jq⟩ := BAD.out (by first | exact .inr rfl | (left; omega))
    have JQ := hide jq
    clear jq BAD GOOD
    go_wp2_with fail
    go_ret
    exact ⟨rfl, JQ.out, K8.out⟩
end Co
end Go.Proofs.Ytekdcfdjohlfcaa
/- Layer 19's law ReportSteps, over this seat's program: does, of whatever step; race. -/
namespace Go.Proofs.Ytekdcfdjohlfcaa
open Go.ChangeShapes Go.WideShapes Go.ChangeAt Go.RowKit
namespace Co
open Ck Ce Rep
open Ba (KF Bd Nw)
open Ep (tidOf clkOf ownB)

theorem does_any {Y0 : Nat → Prop} {X R : Nat} {w : World} {S : Rst} {Q : Qst} (j : JR Y0 X R w S Q) (z : Stp) (oa : Option Addr) (cap : Nat) (hA : Ck.At w oa z.c) (hlc : z.c.length ≤ cap) (hcm : cap ≤ maxLen) (a0 : 0 ≤ z.e) (a1 : z.e ≤ 18446744073709551615) :
    Calls Try.prog 23 #[.pointer (some ⟨X, 0, none⟩), .pointer (some ⟨R, 0, none⟩), .agg #[.int .i64 z.a.p, .int .i64 z.a.g, .int .i64 z.a.c, .bool z.a.wr, .int .u64 z.e, .slice oa z.c.length cap, .int .i64 z.tid, .int .i64 z.cut]] w (DoQ Y0 X R w) := by
  by_cases hcut : 0 ≤ z.cut
  · exact does_ret j _ _ _ _ _ _ _ _ _ _ hcut
  · by_cases hv : z.c.length ≤ 256 ∧ Valid z.c
    · have eq : Eqr S Q := by obtain ⟨_, _, _, _, _, _, _, e⟩ := j; exact e
      exact does_put j eq z.a z.e a0 a1 oa z.c cap z.tid z.cut (by omega) hA hlc hcm hv.1 hv.2
    · exact does_non j _ _ _ _ _ oa z.c cap _ _ (by omega) hA hlc hcm hv
theorem results_row1 {fn : Func} {p : Tmp} {ty : TypeId} (h : fn.results = #[.cell p ty]) (tmps : Array Value) (w : World) (g : Nat) (cs : Array Value)
    (hp : tmps.getD p undef = .pointer (some ⟨g, 0, none⟩)) (hl : (loadVar ty ⟨g, 0, none⟩).run Try.prog w = .ok (.agg cs) w) :
    (results fn tmps).run Try.prog w = .ok (.agg cs) w := by
  have hp' : tmps[p]?.getD undef = .pointer (some ⟨g, 0, none⟩) := by simpa using hp
  simp [results, h, hp', asAddr, hl]
theorem loadVar_rr {w : World} {b : Nat} {c : Array Value} {t : TypeId} (h : w.heap[b]? = some (.cells c t (0, 0))) (hc : c.size = 6) : (loadVar 70 ⟨b, 0, none⟩).run Try.prog w = .ok (.agg c) w :=
  run_loadVar_row w b t _ _ _ _ h Try.underlying70 rfl (by rw [(zero_of_info (show (Try.prog.info? 70).map (fun i => (i.zero, i.size)) = some (some (.agg (rrV ⟨false, r0⟩)), 6) by kernel_rfl)).2, hc])
set_option maxRecDepth 100000 in
theorem race_any (r : Rc) (w : World) : Calls Try.prog 26 #[rv r] w fun q w' => q = .returned (.agg (rrV ⟨true, r⟩)) ∧ Below w.heap.size w w' := by
  obtain ⟨c, p, g, x, b⟩ := r
  unfold rv ra5 rrV
  simp only
  have h2 : ((w.alloc (.cells #[.int .i64 c, .int .i64 p, .int .i64 g, .int .i64 x, .bool b] 73)).alloc (.cells #[.bool true, .int .i64 c, .int .i64 p, .int .i64 g, .int .i64 x, .bool b] 70)).heap[w.heap.size + 1]? = some (.cells #[.bool true, .int .i64 c, .int .i64 p, .int .i64 g, .int .i64 x, .bool b] 70 (0, 0)) := by
    have := heap_new (w.alloc (.cells #[.int .i64 c, .int .i64 p, .int .i64 g, .int .i64 x, .bool b] 73)) (.cells #[.bool true, .int .i64 c, .int .i64 p, .int .i64 g, .int .i64 x, .bool b] 70)
    rwa [World.size_alloc] at this
  go_enter Try.func26, Try.ntmps26
  go_wp2_with fail
  exact bodyPost_ret (results_row1 Try.results26 _ _ _ _ rfl (loadVar_rr h2 rfl)) rfl ⟨rfl, Ce.btr (Ba.below_alloc _ _) (Ba.below_alloc _ _)⟩
end Co
end Go.Proofs.Ytekdcfdjohlfcaa
