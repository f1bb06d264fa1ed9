/- Package pipe: a channel in memory, and what its calls answer. -/
import Derived.Test.YtdcmlimglajpkaaWg
import Derived.Test.YtdcmlimglajpkaaGb
namespace Go.Proofs.Ytdcmlimglajpkaa
open Go.ChangeShapes Go.WideShapes Go.ChangeAt Go.RowKit
namespace Pi
open Ba Pe

/-- a channel: its capacity, its values, who waits, its counts, whether it is closed -/
structure St where
  size : Nat
  buf : List Int
  snd : List Wt
  rcv : List Wt
  sent : Nat
  got : Nat
  closed : Bool
def Hp (w : World) (B R S Q : Nat) (sent got : Nat) (cl : Bool) : Prop :=
  w.heap[B]? = some (.cells #[.pointer (some ⟨R, 0, none⟩), .pointer (some ⟨S, 0, none⟩), .pointer (some ⟨Q, 0, none⟩), .int .i64 (sent : Int), .int .i64 (got : Int), .bool cl] 97 (0, 0))
/-- the channel in block B: its ring in R, its pews in S and Q, all inside F -/
structure PO (w : World) (B : Nat) (F : Nat → Prop) (R S Q : Nat) (FS FQ : Nat → Prop) (st : St) : Prop where
  hp : Hp w B R S Q st.sent st.got st.closed
  rg : Rn.Rg w R st.size st.buf
  ps : PF w S FS st.snd
  pq : PF w Q FQ st.rcv
  fb : F B
  fr : F R
  fs : ∀ k, FS k → F k
  fq : ∀ k, FQ k → F k
  nsb : ¬ FS B
  nsr : ¬ FS R
  nqb : ¬ FQ B
  nqr : ¬ FQ R
  sq : ∀ k, FS k → ¬ FQ k
  bd : Bd F w
def Pp (w : World) (B : Nat) (F : Nat → Prop) (st : St) : Prop := ∃ R S Q FS FQ, PO w B F R S Q FS FQ st
theorem PO.pp {w : World} {B : Nat} {F : Nat → Prop} {R S Q : Nat} {FS FQ : Nat → Prop} {st : St} (h : PO w B F R S Q FS FQ st) : Pp w B F st := ⟨R, S, Q, FS, FQ, h⟩
theorem Pp.bd {w : World} {B : Nat} {F : Nat → Prop} {st : St} (h : Pp w B F st) : Bd F w := by
  obtain ⟨R, S, Q, FS, FQ, h⟩ := h
  exact h.bd
theorem Pp.own {w : World} {B : Nat} {F : Nat → Prop} {st : St} (h : Pp w B F st) : F B := by
  obtain ⟨R, S, Q, FS, FQ, h⟩ := h
  exact h.fb
theorem Pp.lt {w : World} {B : Nat} {F : Nat → Prop} {st : St} (h : Pp w B F st) : B < w.heap.size := h.bd B h.own
theorem Rg.sm {w w' : World} {R s : Nat} {l : List Int} (h : Rn.Rg w R s l) (e : w'.heap[R]? = w.heap[R]?) : Rn.Rg w' R s l := by
  obtain ⟨v, f, h1, h2, h3, h4, h5⟩ := h
  exact ⟨v, f, h1, h2, h3, h4, e.trans h5⟩
theorem PO.sm {w w' : World} {B : Nat} {F : Nat → Prop} {R S Q : Nat} {FS FQ : Nat → Prop} {st : St} (h : PO w B F R S Q FS FQ st) (s : Sm F w w') : PO w' B F R S Q FS FQ st :=
  ⟨s.heap h.fb h.hp, Rg.sm h.rg (s R h.fr), h.ps.sm (s.sub h.fs), h.pq.sm (s.sub h.fq), h.fb, h.fr, h.fs, h.fq, h.nsb, h.nsr, h.nqb, h.nqr, h.sq, h.bd.sm s⟩
theorem PO.below {w w' : World} {B : Nat} {F : Nat → Prop} {R S Q : Nat} {FS FQ : Nat → Prop} {st : St} (h : PO w B F R S Q FS FQ st) (hb : Below w.heap.size w w') : PO w' B F R S Q FS FQ st := h.sm (Sm.below hb h.bd)
theorem PO.other {w : World} {B : Nat} {F : Nat → Prop} {R S Q : Nat} {FS FQ : Nat → Prop} {st : St} (h : PO w B F R S Q FS FQ st) {z : Nat} (hz : ¬ F z) (i : Nat) (v : Value) : PO (w.setCell ⟨z, i, none⟩ v) B F R S Q FS FQ st :=
  h.sm fun x hx => Below.heap_setCell _ _ _ _ (fun e => hz (by have e' : x = z := e; rw [← e']; exact hx))
theorem Pp.sm {w w' : World} {B : Nat} {F : Nat → Prop} {st : St} (h : Pp w B F st) (s : Sm F w w') : Pp w' B F st := by
  obtain ⟨R, S, Q, FS, FQ, h⟩ := h
  exact (h.sm s).pp
theorem Pp.below {w w' : World} {B : Nat} {F : Nat → Prop} {st : St} (h : Pp w B F st) (hb : Below w.heap.size w w') : Pp w' B F st := h.sm (Sm.below hb h.bd)
theorem Pp.kf {w w' : World} {B : Nat} {F G : Nat → Prop} {st : St} (h : Pp w B F st) (k : KF G w w') (hd : ∀ x, F x → ¬ G x) : Pp w' B F st := h.sm (Sm.kf k h.bd hd)
theorem PO.rb {w : World} {B : Nat} {F : Nat → Prop} {R S Q : Nat} {FS FQ : Nat → Prop} {st : St} (h : PO w B F R S Q FS FQ st) : B ≠ R := by
  intro e
  obtain ⟨v, f, h1, h2, h3, h4, h5⟩ := h.rg
  have := h.hp
  unfold Hp at this
  rw [e, h5] at this
  cases this
theorem PO.rcv {w w' : World} {B : Nat} {F : Nat → Prop} {R S Q : Nat} {FS FQ FQ' : Nat → Prop} {st : St} (h : PO w B F R S Q FS FQ st) (k : KF FQ w w') (i : Nw FQ' FQ w) {l : List Wt} (p : PF w' Q FQ' l) : PO w' B (fun x => F x ∨ FQ' x) R S Q FS FQ' { st with rcv := l } ∧ KF F w w' ∧ Nw (fun x => F x ∨ FQ' x) F w := by
  refine ⟨⟨k.heap h.hp h.nqb, Rg.sm h.rg (k.block R (h.bd R h.fr) h.nqr), h.ps.kf k h.sq, p, .inl h.fb, .inl h.fr, fun x hx => .inl (h.fs x hx), fun x hx => .inr hx, h.nsb, h.nsr, i.apart (G := fun x => x = B) (fun x e => by have e' : x = B := e; rw [e']; exact h.bd B h.fb) (fun x e => by have e' : x = B := e; rw [e']; exact h.nqb) B rfl, i.apart (G := fun x => x = R) (fun x e => by have e' : x = R := e; rw [e']; exact h.bd R h.fr) (fun x e => by have e' : x = R := e; rw [e']; exact h.nqr) R rfl, i.apart (h.ps.bd) h.sq, fun x hx => ?_⟩, k.mono h.fq, fun x hx => ?_⟩
  · rcases hx with q | q
    · exact h.bd.mono k.size x q
    · exact p.bd x q
  · rcases hx with q | q
    · exact .inl q
    · exact (i x q).imp (h.fq x) id
theorem PO.snd {w w' : World} {B : Nat} {F : Nat → Prop} {R S Q : Nat} {FS FQ FS' : Nat → Prop} {st : St} (h : PO w B F R S Q FS FQ st) (k : KF FS w w') (i : Nw FS' FS w) {l : List Wt} (p : PF w' S FS' l) : PO w' B (fun x => F x ∨ FS' x) R S Q FS' FQ { st with snd := l } ∧ KF F w w' ∧ Nw (fun x => F x ∨ FS' x) F w := by
  refine ⟨⟨k.heap h.hp h.nsb, Rg.sm h.rg (k.block R (h.bd R h.fr) h.nsr), p, h.pq.kf k (fun x hx hs => h.sq x hs hx), .inl h.fb, .inl h.fr, fun x hx => .inr hx, fun x hx => .inl (h.fq x hx), i.apart (G := fun x => x = B) (fun x e => by have e' : x = B := e; rw [e']; exact h.bd B h.fb) (fun x e => by have e' : x = B := e; rw [e']; exact h.nsb) B rfl, i.apart (G := fun x => x = R) (fun x e => by have e' : x = R := e; rw [e']; exact h.bd R h.fr) (fun x e => by have e' : x = R := e; rw [e']; exact h.nsr) R rfl, h.nqb, h.nqr, fun x hx hq => i.apart h.pq.bd (fun y hy hs => h.sq y hs hy) x hq hx, fun x hx => ?_⟩, k.mono h.fs, fun x hx => ?_⟩
  · rcases hx with q | q
    · exact h.bd.mono k.size x q
    · exact p.bd x q
  · rcases hx with q | q
    · exact .inl q
    · exact (i x q).imp (h.fs x) id
theorem PO.ring {w w' : World} {B : Nat} {F : Nat → Prop} {R S Q : Nat} {FS FQ : Nat → Prop} {st : St} (h : PO w B F R S Q FS FQ st) (k : KB R w w') {l : List Int} (p : Rn.Rg w' R st.size l) : PO w' B F R S Q FS FQ { st with buf := l } :=
  ⟨k.heap h.hp h.rb, p, h.ps.sm (fun x hx => k.block x (h.ps.bd x hx) (fun e => h.nsr (e ▸ hx))), h.pq.sm (fun x hx => k.block x (h.pq.bd x hx) (fun e => h.nqr (e ▸ hx))), h.fb, h.fr, h.fs, h.fq, h.nsb, h.nsr, h.nqb, h.nqr, h.sq, h.bd.mono k.size⟩
theorem PO.field {w : World} {B : Nat} {F : Nat → Prop} {R S Q : Nat} {FS FQ : Nat → Prop} {st st' : St} (h : PO w B F R S Q FS FQ st) (i : Nat) (v : Value) (hh : Hp (w.setCell ⟨B, i, none⟩ v) B R S Q st'.sent st'.got st'.closed) (e1 : st'.size = st.size) (e2 : st'.buf = st.buf) (e3 : st'.snd = st.snd) (e4 : st'.rcv = st.rcv) : PO (w.setCell ⟨B, i, none⟩ v) B F R S Q FS FQ st' := by
  have K := (KB.refl B w).setCell i v
  refine ⟨hh, ?_, ?_, ?_, h.fb, h.fr, h.fs, h.fq, h.nsb, h.nsr, h.nqb, h.nqr, h.sq, h.bd.mono K.size⟩
  · rw [e1, e2]
    exact Rg.sm h.rg (K.block R (h.bd R h.fr) (Ne.symm h.rb))
  · rw [e3]
    exact h.ps.sm (fun x hx => K.block x (h.ps.bd x hx) (fun e => h.nsb (e ▸ hx)))
  · rw [e4]
    exact h.pq.sm (fun x hx => K.block x (h.pq.bd x hx) (fun e => h.nqb (e ▸ hx)))
theorem PO.setSent {w : World} {B : Nat} {F : Nat → Prop} {R S Q : Nat} {FS FQ : Nat → Prop} {st : St} (h : PO w B F R S Q FS FQ st) (n : Nat) (x : Int) (hx : x = (n : Int)) : PO (w.setCell ⟨B, 3, none⟩ (.int .i64 x)) B F R S Q FS FQ { st with sent := n } := by
  subst hx
  exact h.field 3 _ ((Ba.heap_setCell_same h.hp _).trans rfl) rfl rfl rfl rfl
theorem PO.setGot {w : World} {B : Nat} {F : Nat → Prop} {R S Q : Nat} {FS FQ : Nat → Prop} {st : St} (h : PO w B F R S Q FS FQ st) (n : Nat) (x : Int) (hx : x = (n : Int)) : PO (w.setCell ⟨B, 4, none⟩ (.int .i64 x)) B F R S Q FS FQ { st with got := n } := by
  subst hx
  exact h.field 4 _ ((Ba.heap_setCell_same h.hp _).trans rfl) rfl rfl rfl rfl
theorem PO.setClosed {w : World} {B : Nat} {F : Nat → Prop} {R S Q : Nat} {FS FQ : Nat → Prop} {st : St} (h : PO w B F R S Q FS FQ st) (b : Bool) : PO (w.setCell ⟨B, 5, none⟩ (.bool b)) B F R S Q FS FQ { st with closed := b } :=
  h.field 5 _ ((Ba.heap_setCell_same h.hp _).trans rfl) rfl rfl rfl rfl

/-- what a try tells -/
structure Gt where
  rd : Bool
  ok : Bool
  wk : Bool
  v : Int
  m : Wt
def gv (g : Gt) : Value := .agg #[.bool g.rd, .bool g.ok, .bool g.wk, .int .i64 g.v, .int .i64 g.m.g, .int .i64 g.m.c, .int .i64 g.m.v]
def gz : Gt := ⟨false, false, false, 0, ⟨0, 0, 0⟩⟩
/-- Send: what it tells, its error, and then the channel -/
def sendG (st : St) : Gt :=
  if st.closed then gz else match st.rcv with
  | y :: _ => ⟨true, false, true, 0, y⟩
  | [] => if st.buf.length < st.size then ⟨true, false, false, 0, ⟨0, 0, 0⟩⟩ else gz
def sendE (st : St) : Int := if st.closed then 90 else 0
def sendS (st : St) (x : Int) : St :=
  if st.closed then st else match st.rcv with
  | _ :: t => { st with rcv := t, sent := st.sent + 1, got := st.got + 1 }
  | [] => if st.buf.length < st.size then { st with buf := st.buf ++ [x], sent := st.sent + 1 } else st
def recvG (st : St) : Gt :=
  match st.buf, st.snd with
  | [], [] => ⟨st.closed, false, false, 0, ⟨0, 0, 0⟩⟩
  | [], y :: _ => ⟨true, true, true, y.v, y⟩
  | x :: _, [] => ⟨true, true, false, x, ⟨0, 0, 0⟩⟩
  | x :: _, y :: _ => ⟨true, true, true, x, y⟩
def recvS (st : St) : St :=
  match st.buf, st.snd with
  | [], [] => st
  | [], _ :: t => { st with snd := t, sent := st.sent + 1, got := st.got + 1 }
  | _ :: b, [] => { st with buf := b, got := st.got + 1 }
  | _ :: b, y :: t => { st with buf := b ++ [y.v], snd := t, sent := st.sent + 1, got := st.got + 1 }
/-- is there room, or a value? -/
def room (st : St) (send : Bool) : Bool := if send then decide (st.buf.length < st.size) else decide (0 < st.buf.length)
/-- who waits so, and the other way -/
def own (st : St) (send : Bool) : List Wt := if send then st.snd else st.rcv
def rdy (st : St) (send : Bool) : Bool := st.closed || room st send || decide (0 < (own st (!send)).length)
def rdyBut (st : St) (send : Bool) (g : Int) : Bool := st.closed || room st send || decide (0 < (dr g (own st (!send))).length)
def waitE (st : St) (send : Bool) (x : Wt) : Int := if rdyBut st send x.g = true then 7 else ae (own st send) x
def waitS (st : St) (send : Bool) (x : Wt) : St :=
  if rdyBut st send x.g = true then st else if send then { st with snd := al st.snd x } else { st with rcv := al st.rcv x }
def closeE (st : St) : Int := if st.closed then 90 else 0
def closeS (st : St) : St := if st.closed then st else { st with snd := [], rcv := [], closed := true }
def closeL (st : St) (send : Bool) : List Wt := if st.closed then [] else own st send
def dropS (st : St) (g : Int) : St := { st with snd := dr g st.snd, rcv := dr g st.rcv }
def dropN (st : St) (g : Int) : Int := ((st.snd.length : Int) - ((dr g st.snd).length : Int)) + ((st.rcv.length : Int) - ((dr g st.rcv).length : Int))
end Pi
end Go.Proofs.Ytdcmlimglajpkaa
