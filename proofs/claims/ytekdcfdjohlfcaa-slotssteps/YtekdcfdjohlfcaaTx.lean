/- Layer 15's law: looks, over this seat's program. -/
import Derived.Test.YtekdcfdjohlfcaaTw
import Derived.Deep.Cut
import Derived.Deep.RegionHeld3
namespace Go.Proofs.Ytekdcfdjohlfcaa
open Go.ChangeShapes Go.WideShapes Go.ChangeAt Go.RowKit
namespace Sl
open Ck
open Ba (KF Bd Nw)

theorem cellB {w w' : World} {a : Addr} {v : Value} (h : w.cell? a = some v) (b : Below w.heap.size w w') : w'.cell? a = some v := (b.cell (World.block_lt_of_cell? w _ h)).trans h
/-- while looks goes on: Y the foreign blocks of old, Z those and what looks itself has laid -/
structure LK (Y Z : Nat → Prop) (S G : Nat) (w : World) (st : Sst) (h : Nat → Option (List Int)) (rs : Rst) (vs vr : Value) (wi : World) (hi : Nat → Option (List Int)) : Prop where
  sw : SW Z S wi st hi
  sub : ∀ x, Y x → Z x
  rx : RX wi G rs vs vr
  ex : Ext h hi
  kp : Kp Y w wi
section
variable {Y Z Z' : Nat → Prop} {S G : Nat} {w wi w' : World} {st : Sst} {h hi h' : Nat → Option (List Int)} {rs : Rst} {vs vr : Value}
theorem LK.more (k : LK Y Z S G w st h rs vs vr wi hi) (b : Below wi.heap.size wi w') (hz : ∀ x, Z' x → Z x ∨ wi.heap.size ≤ x) (hd : ∀ x, Z' x → x < w'.heap.size) (sub : ∀ x, Y x → Z' x) : LK Y Z' S G w st h rs vs vr w' hi :=
  ⟨k.sw.more b hz hd, sub, k.rx.below b, k.ex, kp_b k.kp b fun x q => k.sw.ylt x (k.sub x q)⟩
theorem LK.below (k : LK Y Z S G w st h rs vs vr wi hi) (b : Below wi.heap.size wi w') : LK Y Z S G w st h rs vs vr w' hi := ⟨k.sw.below b, k.sub, k.rx.below b, k.ex, kp_b k.kp b fun x q => k.sw.ylt x (k.sub x q)⟩
theorem LK.new (k : LK Y Z S G w st h rs vs vr wi hi) (o : Obj) : LK Y (fun x => Z x ∨ x = wi.heap.size) S G w st h rs vs vr (wi.alloc o) hi :=
  k.more (below_alloc _ _) (fun x q => q.elim .inl fun e => .inr (by omega)) (fun x q => by rw [World.size_alloc]; rcases q with q | q; exact Nat.lt_succ_of_lt (k.sw.ylt x q); omega) fun x q => .inl (k.sub x q)
theorem LK.step (k : LK Y Z S G w st h rs vs vr wi hi) (hy : ∀ x, RB G vs vr x → Y x) (s : SW Z S w' st h') (e : Ext hi h') (q : Kp Z wi w') : LK Y Z S G w st h rs vs vr w' h' := ⟨s, k.sub, k.rx.blk fun x r => q.block x (k.sub x (hy x r)), k.ex.trans e, k.kp.trans (Kp.mono q k.sub)⟩
theorem counts_k (k : LK Y Z S G w st h rs vs vr wi hi) (c : CR st h rs) :
    Calls Try.prog 45 #[.pointer (some ⟨S, 0, none⟩)] wi fun r w' => r = .returned (.tuple #[.int .i64 (rs.sent.length : Int), .int .i64 (rs.recd.length : Int)]) ∧ Below wi.heap.size wi w' := by
  obtain ⟨vg, vb, s⟩ := k.sw
  rw [← c.sn, ← c.rc]
  exact counts_any s
theorem peek_k (k : LK Y Z S G w st h rs vs vr wi hi) (hy : ∀ x, RB G vs vr x → Y x) (c : CR st h rs) (b : Bool) :
    Calls Try.prog 46 #[.pointer (some ⟨S, 0, none⟩), .bool b] wi fun r w' => ∃ p h', r = .returned (.tuple #[clv p, .bool (rpk rs b).isSome]) ∧ LK Y Z S G w st h rs vs vr w' h' ∧ Kp Z wi w' ∧ PF h' p (rpk rs b) ∧ Ext hi h' := by
  have f : pkS st b = none ∧ rpk rs b = none ∨ ∃ x F l, pkS st b = some x ∧ rpk rs b = some F ∧ h x = some l ∧ Good l F := by
    cases b
    · exact c.nxt
    · exact c.fet
  refine (peek_any k.sw b).mono ?_
  rintro r w' ⟨p, h', rfl, e, s', q, pn, ps⟩
  rcases f with ⟨f1, f2⟩ | ⟨x, F, l, f1, f2, f3, f4⟩
  · exact ⟨p, h', by rw [f1, f2]; rfl, k.step hy s' e q, q, .inl ⟨pn f1, f2⟩, e⟩
  · obtain ⟨A, a1, -, a3⟩ := ps x l f1 (k.ex _ _ f3)
    exact ⟨p, h', by rw [f1, f2]; rfl, k.step hy s' e q, q, .inr ⟨A, F, l, a1, f2, a3, f4⟩, e⟩
theorem closed_k (k : LK Y Z S G w st h rs vs vr wi hi) (hy : ∀ x, RB G vs vr x → Y x) (c : CR st h rs) :
    Calls Try.prog 47 #[.pointer (some ⟨S, 0, none⟩)] wi fun r w' => ∃ p h', r = .returned (.tuple #[clv p, .bool rs.closed]) ∧ LK Y Z S G w st h rs vs vr w' h' ∧ Kp Z wi w' ∧ (rs.closed = false ∧ p = none ∨ ∃ A l, rs.closed = true ∧ p = some A ∧ h' A = some l ∧ Good l rs.clg) ∧ Ext hi h' := by
  refine (closed_any k.sw).mono ?_
  rintro r w' ⟨p, h', rfl, e, s', q, pn, ps⟩
  rcases c.cl with ⟨f1, f2⟩ | ⟨x, l, f1, f2, f3, f4⟩
  · exact ⟨p, h', by rw [f1, f2]; rfl, k.step hy s' e q, q, .inl ⟨f2, pn f1⟩, e⟩
  · obtain ⟨A, a1, a2⟩ := ps x l f1 (k.ex _ _ f3)
    exact ⟨p, h', by rw [f1, f2]; rfl, k.step hy s' e q, q, .inr ⟨A, l, f2, a1, a2, f4⟩, e⟩
theorem same_k (k : LK Y Z S G w st h rs vs vr wi hi) {p : Option Nat} {o : Option (Nat → Int)} (q : PF hi p o) :
    Calls Try.prog 12 #[clv p, .agg (rfv o)] wi fun r w' => r = .returned (.bool true) ∧ Below wi.heap.size wi w' := by
  rcases q with ⟨rfl, rfl⟩ | ⟨x, F, l, rfl, rfl, hx, g⟩
  · exact same_no nf wi
  · obtain ⟨ck, cn, vl⟩ := k.sw.get hx
    have h256 : l.length ≤ 256 := by obtain ⟨_, _, _, _, _, _, q⟩ := ck; exact q
    exact same_yes x l F wi ck g vl cn h256
theorem same_c (k : LK Y Z S G w st h rs vs vr wi hi) {p : Option Nat} (q : rs.closed = false ∧ p = none ∨ ∃ A l, rs.closed = true ∧ p = some A ∧ hi A = some l ∧ Good l rs.clg) :
    Calls Try.prog 12 #[clv p, .agg (fe rs.clg rs.closed)] wi fun r w' => r = .returned (.bool true) ∧ Below wi.heap.size wi w' := by
  rcases q with ⟨e, rfl⟩ | ⟨A, l, e, rfl, hx, g⟩
  · rw [e]; exact same_no rs.clg wi
  · obtain ⟨ck, cn, vl⟩ := k.sw.get hx
    have h256 : l.length ≤ 256 := by obtain ⟨_, _, _, _, _, _, q⟩ := ck; exact q
    rw [e]
    exact same_yes A l rs.clg wi ck g vl cn h256
end
theorem LK.held {Y Z : Nat → Prop} {S G : Nat} {w wi w' : World} {st : Sst} {h hi h' : Nat → Option (List Int)} {rs : Rst} {vs vr v : Value} {As : List Nat} (k : LK Y Z S G w st h rs vs vr wi hi) (hy : ∀ x, RB G vs vr x → Y x) (e : HeldIs Z S wi w' st hi h' v As) : LK Y (YV Z v) S G w st h rs vs vr w' h' :=
  ⟨e.sw, fun x q => .inl (k.sub x q), k.rx.blk fun x r => e.kp.block x (k.sub x (hy x r)), k.ex.trans e.ext, k.kp.trans (Kp.mono e.kp k.sub)⟩
theorem rfv_is (o : Option (Nat → Int)) : ∃ F, rfv o = fe F o.isSome := by
  cases o with
  | none => exact ⟨nf, rfl⟩
  | some F => exact ⟨F, rfl⟩
theorem ld_fe {w : World} {b : Nat} {F : Nat → Int} {x : Bool} {t : TypeId} (h : w.heap[b]? = some (.cells (fe F x) t (0, 0))) : (loadCellsFrom ⟨b, 0, none⟩ 0 257 #[]).run Try.prog w = .ok (fe F x) w := by
  have := ldv_fe h
  unfold loadVar at this
  simp [loadCells] at this
  generalize Sem.run Try.prog (loadCellsFrom ⟨b, 0, none⟩ 0 257 #[]) w = R at this ⊢
  cases R with
  | ok a w' =>
    rw [Result.andThen_ok] at this
    cases this
    rfl
  | _ => cases this
theorem row_c {w : World} {g n c k A : Nat} {As : List Nat} (h : w.ownsRow 0 34 1 (.slice (some ⟨g, 0, none⟩) n c) n (pcs As)) (hA : As[k]? = some A) : w.cell? ⟨g, k, none⟩ = some (.pointer (some ⟨A, 0, none⟩)) := by
  have := h.cells (g := g) rfl k (ptr A) (by rw [pcs_at, hA]; rfl)
  rwa [Addr.add_lit, Nat.zero_add] at this
end Sl
end Go.Proofs.Ytekdcfdjohlfcaa
