/- The reference's channel in memory, over this seat's program. -/
import Derived.Test.YtdcmlimglajpkaaXa
import Derived.Maps.AppendAt
namespace Go.Proofs.Ytdcmlimglajpkaa
open Go.ChangeShapes Go.WideShapes Go.ChangeAt Go.RowKit
namespace Rp
open Ba Pe _root_.Go.Proofs.Ytdcmlimglajpkaa.Pi

/-- the cells of numbers -/
def ic (l : List Int) : List Value := l.map (Value.int .i64)
theorem ic_len (l : List Int) : (ic l).length = l.length := by simp [ic]
theorem ic_app (l m : List Int) : ic (l ++ m) = ic l ++ ic m := by simp [ic]
theorem ic_one (l : List Int) : ∀ u ∈ ic l, u.oneCell' = true := by
  intro u hu
  obtain ⟨z, _, rfl⟩ := List.mem_map.1 hu
  rfl
theorem own_keep {w w' : World} {base : Nat} {e : TypeId} {size : Nat} {v : Value} {n : Nat} {xs : List Value} (h : w.ownsRow base e size v n xs) (hk : ∀ g, v.ownBlock = some g → w'.heap[g]? = w.heap[g]?) : w'.ownsRow base e size v n xs := by
  refine ⟨h.1, ?_⟩
  rcases h.2 with q | ⟨g, cap, cur, q1, q2, q3, q4⟩
  · exact .inl q
  · exact .inr ⟨g, cap, cur, q1, q2, (hk g (by rw [q1]; rfl)).trans q3, q4⟩
theorem own_base {w : World} {base base' : Nat} {e : TypeId} {size : Nat} {v : Value} {n : Nat} {xs : List Value} (h : w.ownsRow base e size v n xs) (hb : base' ≤ base) : w.ownsRow base' e size v n xs := by
  refine ⟨h.1, ?_⟩
  rcases h.2 with q | ⟨g, cap, cur, q1, q2, q3, q4⟩
  · exact .inl q
  · exact .inr ⟨g, cap, cur, q1, by omega, q3, q4⟩
theorem own_blk {w : World} {base : Nat} {e : TypeId} {size : Nat} {v : Value} {n : Nat} {xs : List Value} (h : w.ownsRow base e size v n xs) (g : Nat) (hg : v.ownBlock = some g) : base ≤ g ∧ ∃ cur, w.heap[g]? = some (.cells cur e (0, 0)) := by
  rcases h.2 with ⟨rfl, _⟩ | ⟨g', cap, cur, rfl, q2, q3, q4⟩
  · simp [Value.ownBlock] at hg
  · simp [Value.ownBlock] at hg
    subst hg
    exact ⟨q2, cur, q3⟩
theorem own_ne {w : World} {b1 b2 : Nat} {e1 e2 : TypeId} {s1 s2 : Nat} {v1 v2 : Value} {n1 n2 : Nat} {x1 x2 : List Value} (h1 : w.ownsRow b1 e1 s1 v1 n1 x1) (h2 : w.ownsRow b2 e2 s2 v2 n2 x2) (he : e1 ≠ e2) (g : Nat) (hg : v1.ownBlock = some g) : v2.ownBlock ≠ some g := by
  intro hg2
  obtain ⟨_, c1, q1⟩ := own_blk h1 g hg
  obtain ⟨_, c2, q2⟩ := own_blk h2 g hg2
  rw [q1] at q2
  cases q2
  exact he rfl
theorem own_at {w : World} {base : Nat} {v : Value} {l : List Int} (h : w.ownsRow base 3 1 v l.length (ic l)) : ∃ oa c, v = .slice oa l.length c ∧ At w oa l ∧ l.length ≤ c := by
  rcases h.2 with ⟨rfl, h0⟩ | ⟨g, cap, cur, rfl, _, hg, hc, _, hcs, htk⟩
  · refine ⟨none, 0, by rw [h0], ?_, by omega⟩
    obtain rfl := List.eq_nil_of_length_eq_zero h0
    exact At.nil _ _
  · refine ⟨_, cap, rfl, ?_, hc⟩
    intro k hk
    refine ⟨g, 0, rfl, ?_⟩
    have q : (ic l)[k]? = some (.int .i64 (nth l k)) := by simp [ic, nth, hk]
    rw [← htk, List.getElem?_take_of_lt (by omega)] at q
    rw [Nat.zero_add, cell_of hg]
    simpa using q
def Gp (w : World) (G : Nat) (size : Nat) (vL vS vQ : Value) (cl : Bool) (sent got : Nat) : Prop :=
  w.heap[G]? = some (.cells #[.int .i64 (size : Int), vL, vS, vQ, .bool cl, .int .i64 (sent : Int), .int .i64 (got : Int)] 82 (0, 0))
/-- the reference's channel in block G, its rows, all inside F -/
structure RO (w : World) (G : Nat) (F : Nat → Prop) (vL vS vQ : Value) (st : St) : Prop where
  hp : Gp w G st.size vL vS vQ st.closed st.sent st.got
  rl : w.ownsRow 0 3 1 vL st.buf.length (ic st.buf)
  rs : w.ownsRow 0 62 3 vS st.snd.length (wc st.snd)
  rq : w.ownsRow 0 62 3 vQ st.rcv.length (wc st.rcv)
  ap : ∀ g, vS.ownBlock = some g → vQ.ownBlock ≠ some g
  fg : F G
  fl : ∀ g, vL.ownBlock = some g → F g
  fs : ∀ g, vS.ownBlock = some g → F g
  fq : ∀ g, vQ.ownBlock = some g → F g
  bd : Bd F w
  les : st.snd.length ≤ 1024
  leq : st.rcv.length ≤ 1024
  bl : st.buf.length ≤ st.size
  sz : st.size ≤ 4
def Rr (w : World) (G : Nat) (F : Nat → Prop) (st : St) : Prop := ∃ vL vS vQ, RO w G F vL vS vQ st
theorem RO.rr {w : World} {G : Nat} {F : Nat → Prop} {vL vS vQ : Value} {st : St} (h : RO w G F vL vS vQ st) : Rr w G F st := ⟨vL, vS, vQ, h⟩
theorem Rr.bd {w : World} {G : Nat} {F : Nat → Prop} {st : St} (h : Rr w G F st) : Bd F w := by
  obtain ⟨vL, vS, vQ, h⟩ := h
  exact h.bd
theorem Rr.own {w : World} {G : Nat} {F : Nat → Prop} {st : St} (h : Rr w G F st) : F G := by
  obtain ⟨vL, vS, vQ, h⟩ := h
  exact h.fg
theorem Rr.lt {w : World} {G : Nat} {F : Nat → Prop} {st : St} (h : Rr w G F st) : G < w.heap.size := h.bd G h.own
theorem RO.sm {w w' : World} {G : Nat} {F : Nat → Prop} {vL vS vQ : Value} {st : St} (h : RO w G F vL vS vQ st) (s : Sm F w w') : RO w' G F vL vS vQ st :=
  ⟨s.heap h.fg h.hp, own_keep h.rl fun g e => s g (h.fl g e), own_keep h.rs fun g e => s g (h.fs g e), own_keep h.rq fun g e => s g (h.fq g e), h.ap, h.fg, h.fl, h.fs, h.fq, h.bd.sm s, h.les, h.leq, h.bl, h.sz⟩
theorem RO.below {w w' : World} {G : Nat} {F : Nat → Prop} {vL vS vQ : Value} {st : St} (h : RO w G F vL vS vQ st) (hb : Below w.heap.size w w') : RO w' G F vL vS vQ st := h.sm (Sm.below hb h.bd)
theorem Rr.sm {w w' : World} {G : Nat} {F : Nat → Prop} {st : St} (h : Rr w G F st) (s : Sm F w w') : Rr w' G F st := by
  obtain ⟨vL, vS, vQ, h⟩ := h
  exact (h.sm s).rr
theorem Rr.below {w w' : World} {G : Nat} {F : Nat → Prop} {st : St} (h : Rr w G F st) (hb : Below w.heap.size w w') : Rr w' G F st := h.sm (Sm.below hb h.bd)
theorem Rr.kf {w w' : World} {G : Nat} {F K : Nat → Prop} {st : St} (h : Rr w G F st) (k : KF K w w') (hd : ∀ x, F x → ¬ K x) : Rr w' G F st := h.sm (Sm.kf k h.bd hd)
/-- a cell of G is laid anew; the rows are there already -/
theorem RO.put {w : World} {G : Nat} {F : Nat → Prop} {cs : Array Value} {i : Nat} {v vL vS vQ : Value} {st : St} (hG : w.heap[G]? = some (.cells cs 82 (0, 0)))
    (hc : cs.setIfInBounds i v = #[.int .i64 (st.size : Int), vL, vS, vQ, .bool st.closed, .int .i64 (st.sent : Int), .int .i64 (st.got : Int)])
    (rl : w.ownsRow 0 3 1 vL st.buf.length (ic st.buf)) (rs : w.ownsRow 0 62 3 vS st.snd.length (wc st.snd)) (rq : w.ownsRow 0 62 3 vQ st.rcv.length (wc st.rcv))
    (ap : ∀ g, vS.ownBlock = some g → vQ.ownBlock ≠ some g) (fg : F G) (fl : ∀ g, vL.ownBlock = some g → F g) (fs : ∀ g, vS.ownBlock = some g → F g) (fq : ∀ g, vQ.ownBlock = some g → F g) (bd : Bd F w)
    (les : st.snd.length ≤ 1024) (leq : st.rcv.length ≤ 1024) (bl : st.buf.length ≤ st.size) (sz : st.size ≤ 4) : RO (w.setCell ⟨G, i, none⟩ v) G F vL vS vQ st := by
  have K := (KB.refl G w).setCell i v
  have ne : ∀ {e : TypeId} {s : Nat} {u : Value} {n : Nat} {xs : List Value}, w.ownsRow 0 e s u n xs → 82 ≠ e → ∀ g, u.ownBlock = some g → g ≠ G := by
    intro e s u n xs h he g hg e2
    subst e2
    exact own_ty h hG he hg.symm
  have kp : ∀ {e : TypeId} {s : Nat} {u : Value} {n : Nat} {xs : List Value}, w.ownsRow 0 e s u n xs → 82 ≠ e → (w.setCell ⟨G, i, none⟩ v).ownsRow 0 e s u n xs := by
    intro e s u n xs h he
    refine own_keep h fun g hg => ?_
    obtain ⟨_, cur, q⟩ := own_blk h g hg
    exact K.block g (heap_lt q) (ne h he g hg)
  exact ⟨(Ba.heap_setCell_same hG v).trans (by rw [hc]), kp rl (by decide), kp rs (by decide), kp rq (by decide), ap, fg, fl, fs, fq, bd.mono K.size, les, leq, bl, sz⟩
theorem RO.setSent {w : World} {G : Nat} {F : Nat → Prop} {vL vS vQ : Value} {st : St} (h : RO w G F vL vS vQ st) (n : Nat) (x : Int) (hx : x = (n : Int)) : RO (w.setCell ⟨G, 5, none⟩ (.int .i64 x)) G F vL vS vQ { st with sent := n } := by
  subst hx
  exact RO.put h.hp rfl h.rl h.rs h.rq h.ap h.fg h.fl h.fs h.fq h.bd h.les h.leq h.bl h.sz
theorem RO.setGot {w : World} {G : Nat} {F : Nat → Prop} {vL vS vQ : Value} {st : St} (h : RO w G F vL vS vQ st) (n : Nat) (x : Int) (hx : x = (n : Int)) : RO (w.setCell ⟨G, 6, none⟩ (.int .i64 x)) G F vL vS vQ { st with got := n } := by
  subst hx
  exact RO.put h.hp rfl h.rl h.rs h.rq h.ap h.fg h.fl h.fs h.fq h.bd h.les h.leq h.bl h.sz
theorem RO.setClosed {w : World} {G : Nat} {F : Nat → Prop} {vL vS vQ : Value} {st : St} (h : RO w G F vL vS vQ st) (b : Bool) : RO (w.setCell ⟨G, 4, none⟩ (.bool b)) G F vL vS vQ { st with closed := b } :=
  RO.put h.hp rfl h.rl h.rs h.rq h.ap h.fg h.fl h.fs h.fq h.bd h.les h.leq h.bl h.sz
/-- F, and a row's block -/
def Fw (F : Nat → Prop) (v : Value) : Nat → Prop := fun k => F k ∨ v.ownBlock = some k
theorem Fw.bd {w : World} {F : Nat → Prop} {base : Nat} {e : TypeId} {size : Nat} {v : Value} {n : Nat} {xs : List Value} (h : Bd F w) (r : w.ownsRow base e size v n xs) : Bd (Fw F v) w := by
  intro k hk
  rcases hk with q | q
  · exact h k q
  · obtain ⟨_, cur, q2⟩ := own_blk r k q
    exact heap_lt q2
theorem Fw.nw {w w' : World} {F : Nat → Prop} {e : TypeId} {size : Nat} {v : Value} {n : Nat} {xs : List Value} {N : Nat} (r : w.ownsRow N e size v n xs) (hN : w'.heap.size ≤ N) : Nw (Fw F v) F w' := by
  intro k hk
  rcases hk with q | q
  · exact .inl q
  · exact .inr (Nat.le_trans hN (own_blk r k q).1)
theorem RO.newL {w : World} {G N : Nat} {F : Nat → Prop} {vL vS vQ v : Value} {st : St} {l : List Int} (h : RO w G F vL vS vQ st) (r : w.ownsRow N 3 1 v l.length (ic l)) (hl : l.length ≤ st.size) : RO (w.setCell ⟨G, 1, none⟩ v) G (Fw F v) v vS vQ { st with buf := l } :=
  RO.put h.hp rfl (own_base r (Nat.zero_le _)) h.rs h.rq h.ap (.inl h.fg) (fun _ e => .inr e) (fun g e => .inl (h.fs g e)) (fun g e => .inl (h.fq g e)) (Fw.bd h.bd r) h.les h.leq hl h.sz
theorem RO.newS {w : World} {G N : Nat} {F : Nat → Prop} {vL vS vQ v : Value} {st : St} {l : List Wt} (h : RO w G F vL vS vQ st) (r : w.ownsRow N 62 3 v l.length (wc l)) (hN : ∀ k, F k → k < N) (hl : l.length ≤ 1024) : RO (w.setCell ⟨G, 2, none⟩ v) G (Fw F v) vL v vQ { st with snd := l } :=
  RO.put h.hp rfl h.rl (own_base r (Nat.zero_le _)) h.rq (fun g e e2 => by have h1 := (own_blk r g e).1; have h2 := hN g (h.fq g e2); omega) (.inl h.fg) (fun g e => .inl (h.fl g e)) (fun _ e => .inr e) (fun g e => .inl (h.fq g e)) (Fw.bd h.bd r) hl h.leq h.bl h.sz
theorem RO.newQ {w : World} {G N : Nat} {F : Nat → Prop} {vL vS vQ v : Value} {st : St} {l : List Wt} (h : RO w G F vL vS vQ st) (r : w.ownsRow N 62 3 v l.length (wc l)) (hN : ∀ k, F k → k < N) (hl : l.length ≤ 1024) : RO (w.setCell ⟨G, 3, none⟩ v) G (Fw F v) vL vS v { st with rcv := l } :=
  RO.put h.hp rfl h.rl h.rs (own_base r (Nat.zero_le _)) (fun g e e2 => by have h1 := (own_blk r g e2).1; have h2 := hN g (h.fs g e); omega) (.inl h.fg) (fun g e => .inl (h.fl g e)) (fun g e => .inl (h.fs g e)) (fun _ e => .inr e) (Fw.bd h.bd r) h.les hl h.bl h.sz
theorem KF.grown {F : Nat → Prop} {w a b : World} {o : Option Nat} (k : KF F w a) (g : a.grownBy b o) (h : ∀ x, o = some x → F x ∨ w.heap.size ≤ x) : KF F w b :=
  ⟨g.os.trans k.os, g.tape.trans k.tape, g.output.trans k.output, Nat.le_trans k.size g.size, fun x hx hr => (g.block x (Nat.lt_of_lt_of_le hx k.size) (fun e => by
    rcases h x e.symm with q | q
    · exact hr q
    · omega)).trans (k.block x hx hr)⟩
theorem heap_grown {a b : World} {o : Option Nat} {x : Nat} {ob : Obj} (g : a.grownBy b o) (h : a.heap[x]? = some ob) (hn : o ≠ some x) : b.heap[x]? = some ob := (g.block x (heap_lt h) (fun e => hn e.symm)).trans h
/-- one value more, in place or not -/
theorem RO.appL {w w' : World} {G : Nat} {F : Nat → Prop} {vL vS vQ v : Value} {st : St} {l : List Int} (h : RO w G F vL vS vQ st) (g : w.grownBy w' vL.ownBlock) (r : w'.ownsRow 0 3 1 v l.length (ic l)) (hl : l.length ≤ st.size) :
    RO (w'.setCell ⟨G, 1, none⟩ v) G (Fw F v) v vS vQ { st with buf := l } := by
  have hG : w'.heap[G]? = _ := heap_grown g h.hp (fun e => own_ty h.rl h.hp (by decide) e.symm)
  have bd' : Bd F w' := h.bd.mono g.size
  exact RO.put hG rfl r (own_keep h.rs fun k e => g.block k (h.bd k (h.fs k e)) (fun e2 => own_ne h.rs h.rl (by decide) k e e2.symm)) (own_keep h.rq fun k e => g.block k (h.bd k (h.fq k e)) (fun e2 => own_ne h.rq h.rl (by decide) k e e2.symm)) h.ap (.inl h.fg) (fun _ e => .inr e) (fun k e => .inl (h.fs k e)) (fun k e => .inl (h.fq k e)) (Fw.bd bd' r) h.les h.leq hl h.sz
theorem RO.appS {w w' : World} {G : Nat} {F : Nat → Prop} {vL vS vQ v : Value} {st : St} {l : List Wt} (h : RO w G F vL vS vQ st) (g : w.grownBy w' vS.ownBlock) (r : w'.ownsRow 0 62 3 v l.length (wc l)) (hat : v.ownBlock = vS.ownBlock ∨ v.ownBlock = some w.heap.size) (hl : l.length ≤ 1024) :
    RO (w'.setCell ⟨G, 2, none⟩ v) G (Fw F v) vL v vQ { st with snd := l } := by
  have hG : w'.heap[G]? = _ := heap_grown g h.hp (fun e => own_ty h.rs h.hp (by decide) e.symm)
  have bd' : Bd F w' := h.bd.mono g.size
  refine RO.put hG rfl (own_keep h.rl fun k e => g.block k (h.bd k (h.fl k e)) (fun e2 => own_ne h.rl h.rs (by decide) k e e2.symm)) r (own_keep h.rq fun k e => g.block k (h.bd k (h.fq k e)) (fun e2 => h.ap k e2.symm e)) ?_ (.inl h.fg) (fun k e => .inl (h.fl k e)) (fun _ e => .inr e) (fun k e => .inl (h.fq k e)) (Fw.bd bd' r) hl h.leq h.bl h.sz
  intro k e e2
  rcases hat with q | q
  · exact h.ap k (q ▸ e) e2
  · rw [q] at e
    cases e
    have := h.bd _ (h.fq _ e2)
    omega
theorem RO.appQ {w w' : World} {G : Nat} {F : Nat → Prop} {vL vS vQ v : Value} {st : St} {l : List Wt} (h : RO w G F vL vS vQ st) (g : w.grownBy w' vQ.ownBlock) (r : w'.ownsRow 0 62 3 v l.length (wc l)) (hat : v.ownBlock = vQ.ownBlock ∨ v.ownBlock = some w.heap.size) (hl : l.length ≤ 1024) :
    RO (w'.setCell ⟨G, 3, none⟩ v) G (Fw F v) vL vS v { st with rcv := l } := by
  have hG : w'.heap[G]? = _ := heap_grown g h.hp (fun e => own_ty h.rq h.hp (by decide) e.symm)
  have bd' : Bd F w' := h.bd.mono g.size
  refine RO.put hG rfl (own_keep h.rl fun k e => g.block k (h.bd k (h.fl k e)) (fun e2 => own_ne h.rl h.rq (by decide) k e e2.symm)) (own_keep h.rs fun k e => g.block k (h.bd k (h.fs k e)) (fun e2 => h.ap k e e2.symm)) r ?_ (.inl h.fg) (fun k e => .inl (h.fl k e)) (fun k e => .inl (h.fs k e)) (fun _ e => .inr e) (Fw.bd bd' r) h.les hl h.bl h.sz
  intro k e e2
  rcases hat with q | q
  · exact h.ap k e (q ▸ e2)
  · rw [q] at e2
    cases e2
    have := h.bd _ (h.fs _ e)
    omega
theorem Fw.at {F : Nat → Prop} {v v0 : Value} {w : World} {N : Nat} (hat : v.ownBlock = v0.ownBlock ∨ v.ownBlock = some N) (h0 : ∀ g, v0.ownBlock = some g → F g) (hs : w.heap.size ≤ N) : Nw (Fw F v) F w := by
  intro k hk
  rcases hk with q | q
  · exact .inl q
  · rcases hat with e | e
    · exact .inl (h0 k (e ▸ q))
    · rw [e] at q
      cases q
      exact .inr hs
end Rp
end Go.Proofs.Ytdcmlimglajpkaa
