/- Layer 20's RetireStays, over this seat's program: joins of clocks that lie in rows. -/
import Derived.Test.YtbceiakihplbcaaTa9
namespace Go.Proofs.Ytbceiakihplbcaa
open Go.ChangeShapes Go.WideShapes Go.ChangeAt Go.RowKit
namespace Rt
open Ck

/-- a join that is asked for -/
structure Jq where
  i : Int
  k : Int
def JE (cs : List Value) (z : Jq) : Prop := cs = [.int .i64 z.i, .int .i64 z.k]
theorem fields_jn : ∃ fs : Array Field, Try.prog.underlying 47 = some (.struct fs) ∧ fs.size = 2 ∧ (∃ f, fs[0]? = some f ∧ f.offset = 0 ∧ f.type = 3) ∧ (∃ f, fs[1]? = some f ∧ f.offset = 1 ∧ f.type = 3) :=
  ⟨_, Try.underlying47, rfl, ⟨_, rfl, rfl, rfl⟩, ⟨_, rfl, rfl, rfl⟩⟩
theorem cells_jn : Try.prog.cellsOf 47 = 2 := by kernel_rfl
theorem list2 : ∀ (cs : List Value) {y0 y1 : Value}, cs.length = 2 → cs[0]? = some y0 → cs[1]? = some y1 → cs = [y0, y1]
  | [_, _], _, _, _, h0, h1 => by
    simp at h0 h1
    rw [h0, h1]
theorem jn_el {H : Type} {enc : TypeId × Value → H} {w : World} (n : Nat) (cs : List Value) (x : DataW H × List MemPlace) (h : DataW.trod enc Try.prog w 0 (fun _ => true) true n 47 cs = some x) : ∃ z, JE cs z := by
  obtain ⟨fs, hu, hsz, ⟨f0, g0, o0, t0⟩, ⟨f1, g1, o1, t1⟩⟩ := fields_jn
  obtain ⟨xs, k, _, hxx, hcl, hxl, hff⟩ := DataW.trod_struct hu h
  rw [hsz] at hxl
  rw [cells_jn] at hcl
  have a0 := hff 0 f0 g0
  have a1 := hff 1 f1 g1
  rw [o0, t0, Ba.cells_int, List.getElem?_eq_getElem (by omega)] at a0
  rw [o1, t1, Ba.cells_int, List.getElem?_eq_getElem (by omega)] at a1
  obtain ⟨v0, e0, _⟩ := DataW.trod_int Try.underlying3 a0
  obtain ⟨v1, e1, _⟩ := DataW.trod_int Try.underlying3 a1
  exact ⟨⟨v0, v1⟩, list2 cs hcl (Ba.one_of e0) (Ba.one_of e1)⟩
theorem joins_open {H : Type} {enc : TypeId × Value → H} {w : World} {n : Nat} {oa : Option Addr} {len cap : Nat} {x : DataW H × List MemPlace} (h : DataW.trod enc Try.prog w 0 (fun _ => true) true n 45 [.slice oa len cap] = some x) : ∃ l : List Jq, l.length = len ∧ Ba.GAt w oa 2 JE l ∧ len ≤ cap ∧ cap ≤ maxLen :=
  haveI : Inhabited Jq := ⟨⟨0, 0⟩⟩
  Ba.grecs_open Try.underlying45 (by decide) cells_jn jn_el h
/-- what was read, of some of them -/
theorem GAt.take {w : World} {oa : Option Addr} {l : List (List Int)} (h : Ba.GAt w oa 1 (LE w) l) (n : Nat) : Ba.GAt w oa 1 (LE w) (l.take n) := by
  intro k x hk
  rw [List.getElem?_take] at hk
  split at hk
  · exact h k x hk
  · cases hk
theorem GAt.drop {w : World} {g off : Nat} {l : List (List Int)} (h : Ba.GAt w (some ⟨g, off, none⟩) 1 (LE w) l) (n : Nat) : Ba.GAt w (some ⟨g, off + n, none⟩) 1 (LE w) (l.drop n) := by
  intro k x hk
  rw [List.getElem?_drop] at hk
  obtain ⟨g', off', cs, e, h1, h2, h3⟩ := h (n + k) x hk
  cases e
  refine ⟨g, off + n, cs, rfl, h1, fun j hj => ?_, h3⟩
  rw [show off + n + k * 1 + j = off + (n + k) * 1 + j by omega]
  exact h2 j hj
/-- pointers in a row -/
def PAt (w : World) (oa : Option Addr) (bs : List Nat) : Prop := ∀ k b, bs[k]? = some b → ∃ g off, oa = some ⟨g, off, none⟩ ∧ w.cell? ⟨g, off + k, none⟩ = some (pt b)
def lh (h : Nat → Option (List Int)) (b : Nat) : List Int := (h b).getD []
/-- the clocks that lie in rows of X -/
structure SI (X : Nat → Prop) (wr : World) (bA bB : List Nat) (tid cut : Int) (h : Nat → Option (List Int)) : Prop where
  cx : Cx X wr (hx h)
  dA : ∀ b ∈ bA ++ bB, ∃ l, h b = some l
  pA : ∀ b ∈ bA, gt (lh h b) tid = cut
  pB : ∀ b ∈ bB, gt (lh h b) tid ≤ cut
theorem SI.below {X : Nat → Prop} {wr w' : World} {bA bB : List Nat} {tid cut : Int} {h : Nat → Option (List Int)} (s : SI X wr bA bB tid cut h) (b : Below wr.heap.size wr w') : SI X w' bA bB tid cut h := ⟨s.cx.below b, s.dA, s.pA, s.pB⟩
theorem SI.ck {X : Nat → Prop} {wr : World} {bA bB : List Nat} {tid cut : Int} {h : Nat → Option (List Int)} (s : SI X wr bA bB tid cut h) {b : Nat} (hb : b ∈ bA ++ bB) : CK wr b (lh h b) := by
  obtain ⟨l, e⟩ := s.dA b hb
  have := (s.cx.get (hx_at e)).1
  unfold lh
  rw [e]
  exact this
theorem SI.kat {X : Nat → Prop} {wr : World} {bA bB : List Nat} {tid cut : Int} {h : Nat → Option (List Int)} (s : SI X wr bA bB tid cut h) {oa : Option Addr} {bs : List Nat} (p : PAt wr oa bs) (hs : ∀ b ∈ bs, b ∈ bA ++ bB) : KAt wr oa (bs.map fun b => (b, lh h b)) := by
  intro k z hk
  rw [List.getElem?_map] at hk
  cases hb : bs[k]? with
  | none => rw [hb] at hk; cases hk
  | some b =>
    rw [hb] at hk
    cases hk
    obtain ⟨g, off, e, c⟩ := p k b hb
    exact ⟨g, off, e, c, s.ck (hs b (List.mem_of_getElem? hb))⟩
theorem gt_jn (l m : List Int) (t : Int) : gt (jn l m) t = max (gt l t) (gt m t) := by
  unfold gt
  split
  · rfl
  · rw [nth_jn]
/-- a join of the i'th of the living with whomever -/
theorem SI.join {X : Nat → Prop} {wr : World} {bA bB : List Nat} {tid cut : Int} {h : Nat → Option (List Int)} (s : SI X wr bA bB tid cut h) {b c : Nat} (hb : b ∈ bA) (hc : c ∈ bA ++ bB) :
    Calls Try.prog 15 #[.pointer (some ⟨b, 0, none⟩), .pointer (some ⟨c, 0, none⟩)] wr fun r w' => ∃ x : Bool, r = .returned (.bool x) ∧ (∃ h', SI X w' bA bB tid cut h') ∧ Kp X wr w' := by
  obtain ⟨l, e1⟩ := s.dA b (List.mem_append_left _ hb)
  obtain ⟨m, e2⟩ := s.dA c hc
  refine (cx_join s.cx (hx_at e1) (hx_at e2)).mono ?_
  rintro r w' ⟨rfl, cx, kp⟩
  rw [hx_upd] at cx
  have g1 : gt l tid = cut := by have := s.pA b hb; unfold lh at this; rw [e1] at this; exact this
  have g2 : gt m tid ≤ cut := by
    rcases List.mem_append.1 hc with q | q
    · have := s.pA c q; unfold lh at this; rw [e2] at this
      exact Int.le_of_eq this
    · have := s.pB c q; unfold lh at this; rw [e2] at this; exact this
  have g3 : gt (jn l m) tid = cut := by rw [gt_jn, g1]; omega
  have key : ∀ x, lh (upd h b (jn l m)) x = if x = b then jn l m else lh h x := by
    intro x
    unfold lh
    by_cases q : x = b
    · subst q; rw [upd_same, if_pos rfl]; rfl
    · rw [upd_other _ _ _ _ q, if_neg q]
  refine ⟨_, rfl, ⟨upd h b (jn l m), cx, fun x hx => ?_, fun x hx => ?_, fun x hx => ?_⟩, kp⟩
  · by_cases q : x = b
    · exact ⟨jn l m, by rw [q]; exact upd_same _ _ _⟩
    · obtain ⟨y, hy⟩ := s.dA x hx
      exact ⟨y, by rw [upd_other _ _ _ _ q]; exact hy⟩
  · rw [key]
    split
    · exact g3
    · exact s.pA x hx
  · rw [key]
    split
    · exact Int.le_of_eq g3
    · exact s.pB x hx
theorem PAt.kp {X : Nat → Prop} {w w' : World} {oa : Option Addr} {bs : List Nat} (h : PAt w oa bs) (k : Kp X w w') (hx : ∀ g off, oa = some ⟨g, off, none⟩ → X g) : PAt w' oa bs := by
  intro j b hj
  obtain ⟨g, off, e, c⟩ := h j b hj
  exact ⟨g, off, e, (World.cell?_of_block (w := w) (a := ⟨g, off + j, none⟩) (k.block g (hx g off e))).trans c⟩
theorem row_pat {w : World} {B : Nat} {oa : Option Addr} {n c : Nat} {bs : List Nat} (h : w.ownsRow B 48 1 (.slice oa n c) bs.length (bs.map pt)) : PAt w oa bs ∧ n = bs.length ∧ ∀ g off, oa = some ⟨g, off, none⟩ → (Value.slice oa n c).ownBlock = some g := by
  refine ⟨fun k b hk => ?_, ?_, ?_⟩
  · have hk2 : k < bs.length := (List.getElem?_eq_some_iff.1 hk).1
    rcases h.2 with ⟨e, q⟩ | ⟨g, cap, cr, e, -⟩
    · omega
    · cases e
      refine ⟨g, 0, rfl, ?_⟩
      rw [Nat.zero_add, h.cellAt k (by omega)]
      simp [hk]
  · rcases h.2 with ⟨e, q⟩ | ⟨g, cap, cr, e, -⟩
    · cases e; exact q.symm
    · cases e; rfl
  · intro g off e
    subst e
    rcases h.2 with ⟨e, q⟩ | ⟨g', cap, cr, e, -⟩
    · cases e
    · cases e; rfl
theorem SI.mv {X Z : Nat → Prop} {wr w' : World} {bA bB : List Nat} {tid cut : Int} {h : Nat → Option (List Int)} (s : SI X wr bA bB tid cut h) (b : Below wr.heap.size wr w') (hz : ∀ k, Z k → X k ∨ wr.heap.size ≤ k) (hl : ∀ k, Z k → k < w'.heap.size) : SI Z w' bA bB tid cut h :=
  ⟨cx_ext s.cx (fun k hk _ => b.block k hk) hz hl, s.dA, s.pA, s.pB⟩
theorem SI.box {X : Nat → Prop} {wr : World} {bA bB : List Nat} {tid cut : Int} {h : Nat → Option (List Int)} (s : SI X wr bA bB tid cut h) (o : Obj) : SI (fun k => X k ∨ k = wr.heap.size) (wr.alloc o) bA bB tid cut h :=
  s.mv (Ba.below_alloc wr o) (fun k q => q.imp id fun e => by omega) (fun k q => by
    rw [World.size_alloc]
    rcases q with q | q
    · exact Nat.lt_succ_of_lt (s.cx.base k q)
    · omega)
theorem SI.less {X Z : Nat → Prop} {wr : World} {bA bB : List Nat} {tid cut : Int} {h : Nat → Option (List Int)} (s : SI X wr bA bB tid cut h) (i : ∀ k, Z k → X k) : SI Z wr bA bB tid cut h :=
  s.mv (Below.refl _ _) (fun k q => .inl (i k q)) (fun k q => s.cx.base k (i k q))
theorem Kp.mono {X Y : Nat → Prop} {w w' : World} (h : Kp X w w') (i : ∀ k, Y k → X k) : Kp Y w w' := ⟨h.os, h.tape, h.output, h.size, fun k hk => h.block k (i k hk)⟩
theorem Kp.of {X : Nat → Prop} {w w' : World} (h : Below w.heap.size w w') (hX : ∀ k, X k → k < w.heap.size) : Kp X w w' := ⟨h.os, h.tape, h.output, h.size, fun k hk => h.block k (hX k hk)⟩
theorem Kp.lw {X : Nat → Prop} {w w1 w' : World} (b : Below w.heap.size w w1) (h : Kp X w1 w') (hX : ∀ k, k < w.heap.size → X k) : Below w.heap.size w w' :=
  ⟨h.os.trans b.os, h.tape.trans b.tape, h.output.trans b.output, Nat.le_trans b.size h.size, fun k hk => (h.block k (hX k hk)).trans (b.block k hk)⟩
/-- where they are settled still -/
theorem SI.cut {X : Nat → Prop} {wr : World} {bA bB : List Nat} {tid cut : Int} {h : Nat → Option (List Int)} (s : SI X wr bA bB tid cut h) (ht : 0 ≤ tid ∧ tid < 256) (hA : bA ≠ []) : cutOf tid ((bA.map fun b => (b, lh h b)).map Prod.snd) ((bB.map fun b => (b, lh h b)).map Prod.snd) = some cut := by
  rw [List.map_map, List.map_map]
  cases bA with
  | nil => exact absurd rfl hA
  | cons b r =>
    rw [List.map_cons]
    refine cut_mk ht (fun x hx => ?_) (fun x hx => ?_)
    · rw [← List.map_cons] at hx
      obtain ⟨y, hy, rfl⟩ := List.mem_map.1 hx
      exact s.pA y hy
    · obtain ⟨y, hy, rfl⟩ := List.mem_map.1 hx
      exact s.pB y hy
end Rt
end Go.Proofs.Ytbceiakihplbcaa
