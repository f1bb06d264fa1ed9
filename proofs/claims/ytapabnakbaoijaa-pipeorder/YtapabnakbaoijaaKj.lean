/- A channel beside the lists of what was sent and received. -/
import Derived.Test.YtapabnakbaoijaaKi
namespace Go.Proofs.Ytapabnakbaoijaa
open Go.ChangeShapes Go.WideShapes Go.ChangeAt Go.RowKit
namespace Rp
open Ba Pe _root_.Go.Proofs.Ytapabnakbaoijaa.Pi

/-- the values: first those that came out, then those that are there -/
structure Od (st : St) (S V : List Int) : Prop where
  e : S = V ++ st.buf
  s : st.sent = S.length
  g : st.got = V.length
  i : Inv st
theorem Od.zero (n : Nat) : Od (st0 n) [] [] := ⟨rfl, rfl, rfl, Inv.zero n⟩
theorem Od.same {st st' : St} {S V : List Int} (h : Od st S V) (hb : st'.buf = st.buf) (hs : st'.sent = st.sent) (hg : st'.got = st.got) (hi : Inv st') : Od st' S V := ⟨by rw [hb]; exact h.e, hs.trans h.s, hg.trans h.g, hi⟩
theorem Od.woke {st : St} {S V : List Int} (h : Od st S V) (v : Int) (y : Wt) (t : List Wt) (hc : st.closed = false) (hr : st.rcv = y :: t) : Od (sendS st v) (S ++ [v]) (V ++ [v]) := by
  have hi := h.i.send v
  have hb := h.i.r (by rw [hr]; simp)
  rw [show sendS st v = { st with rcv := t, sent := st.sent + 1, got := st.got + 1 } by simp [sendS, hc, hr]] at hi ⊢
  refine ⟨?_, by simp [h.s], by simp [h.g], hi⟩
  show S ++ [v] = V ++ [v] ++ st.buf
  rw [h.e, hb]
  simp
theorem Od.room {st : St} {S V : List Int} (h : Od st S V) (v : Int) (hc : st.closed = false) (hr : st.rcv = []) (hl : st.buf.length < st.size) : Od (sendS st v) (S ++ [v]) V := by
  have hi := h.i.send v
  rw [show sendS st v = { st with buf := st.buf ++ [v], sent := st.sent + 1 } by simp [sendS, hc, hr, hl]] at hi ⊢
  refine ⟨?_, by simp [h.s], h.g, hi⟩
  show S ++ [v] = V ++ (st.buf ++ [v])
  rw [h.e]
  simp
theorem Od.rsnd {st : St} {S V : List Int} (h : Od st S V) (y : Wt) (t : List Wt) (hb : st.buf = []) (hs : st.snd = y :: t) : Od (recvS st) (S ++ [y.v]) (V ++ [y.v]) := by
  have hi := h.i.recv
  rw [show recvS st = { st with snd := t, sent := st.sent + 1, got := st.got + 1 } by simp [recvS, hb, hs]] at hi ⊢
  refine ⟨?_, by simp [h.s], by simp [h.g], hi⟩
  show S ++ [y.v] = V ++ [y.v] ++ st.buf
  rw [h.e, hb]
  simp
theorem Od.rbuf {st : St} {S V : List Int} (h : Od st S V) (x : Int) (b : List Int) (hb : st.buf = x :: b) (hs : st.snd = []) : Od (recvS st) S (V ++ [x]) := by
  have hi := h.i.recv
  rw [show recvS st = { st with buf := b, got := st.got + 1 } by simp [recvS, hb, hs]] at hi ⊢
  refine ⟨?_, h.s, by simp [h.g], hi⟩
  show S = V ++ [x] ++ b
  rw [h.e, hb]
  simp
theorem Od.rboth {st : St} {S V : List Int} (h : Od st S V) (x : Int) (b : List Int) (y : Wt) (t : List Wt) (hb : st.buf = x :: b) (hs : st.snd = y :: t) : Od (recvS st) (S ++ [y.v]) (V ++ [x]) := by
  have hi := h.i.recv
  rw [show recvS st = { st with buf := b ++ [y.v], snd := t, sent := st.sent + 1, got := st.got + 1 } by simp [recvS, hb, hs]] at hi ⊢
  refine ⟨?_, by simp [h.s], by simp [h.g], hi⟩
  show S ++ [y.v] = V ++ [x] ++ (b ++ [y.v])
  rw [h.e, hb]
  simp
/-- the channel, and two lists of the law's own, newer than w0 -/
structure Po (w0 wr : World) (B : Nat) (F : Nat → Prop) (st : St) (vS vV : Value) (S V : List Int) : Prop where
  p : Pp wr B F st
  b : Below w0.heap.size w0 wr
  lo : ∀ k, F k → w0.heap.size ≤ k
  rs : wr.ownsRow w0.heap.size 3 1 vS S.length (ic S)
  rv : wr.ownsRow w0.heap.size 3 1 vV V.length (ic V)
  ns : ∀ g, vS.ownBlock = some g → ¬ F g
  nv : ∀ g, vV.ownBlock = some g → ¬ F g
  sv : ∀ g, vS.ownBlock = some g → vV.ownBlock ≠ some g
theorem Po.below {w0 a c : World} {B : Nat} {F : Nat → Prop} {st : St} {vS vV : Value} {S V : List Int} (h : Po w0 a B F st vS vV S V) (hb : Below a.heap.size a c) : Po w0 c B F st vS vV S V :=
  ⟨h.p.below hb, btr h.b hb, h.lo, own_below h.rs hb, own_below h.rv hb, h.ns, h.nv, h.sv⟩
theorem Po.step {w0 a c : World} {B : Nat} {F F' : Nat → Prop} {st st' : St} {vS vV : Value} {S V : List Int} (h : Po w0 a B F st vS vV S V) (k : KF F a c) (i : Nw F' F a) (p : Pp c B F' st') : Po w0 c B F' st' vS vV S V := by
  have lt : ∀ {v : Value} {l : List Int}, a.ownsRow w0.heap.size 3 1 v l.length (ic l) → ∀ g, v.ownBlock = some g → g < a.heap.size := fun r g e => by
    obtain ⟨_, cur, q⟩ := own_blk r g e
    exact heap_lt q
  exact ⟨p, k.below h.b h.lo, fun x hx => by
    rcases i x hx with q | q
    · exact h.lo x q
    · exact Nat.le_trans h.b.size q, own_keep h.rs fun g e => k.block g (lt h.rs g e) (h.ns g e), own_keep h.rv fun g e => k.block g (lt h.rv g e) (h.nv g e), fun g e => Pi.Nw.not i (h.ns g e) (lt h.rs g e), fun g e => Pi.Nw.not i (h.nv g e) (lt h.rv g e), h.sv⟩
theorem Po.appS {w0 a c : World} {B : Nat} {F : Nat → Prop} {st : St} {vS vV v' : Value} {S V : List Int} {x : Int} {N : Nat} (h : Po w0 a B F st vS vV S V) (r : c.ownsRow w0.heap.size 3 1 v' (S.length + 1) (ic S ++ [.int .i64 x])) (g : a.grownBy c vS.ownBlock) (hat : v'.ownBlock = vS.ownBlock ∨ v'.ownBlock = some N) (hN : N = a.heap.size) : Po w0 c B F st v' vV (S ++ [x]) V := by
  subst hN
  have sz : w0.heap.size ≤ a.heap.size := h.b.size
  refine ⟨h.p.sm fun k hk => g.block k (h.p.bd k hk) (fun e => h.ns k e.symm hk), h.b.grown g sz (fun k e => (own_blk h.rs k e).1), h.lo, by rw [ic_app, List.length_append]; exact r, h.rv.kept g ?_, fun k e => ?_, h.nv, fun k e e2 => ?_⟩
  · cases hv : vV.ownBlock with
    | none => exact .inl rfl
    | some k => exact .inr fun e => h.sv k e.symm hv
  · rcases hat with q | q
    · exact h.ns k (q ▸ e)
    · rw [q] at e
      cases e
      exact fun hf => Nat.lt_irrefl _ (h.p.bd _ hf)
  · rcases hat with q | q
    · exact h.sv k (q ▸ e) e2
    · rw [q] at e
      cases e
      obtain ⟨_, cur, q2⟩ := own_blk h.rv _ e2
      exact Nat.lt_irrefl _ (heap_lt q2)
theorem Po.appV {w0 a c : World} {B : Nat} {F : Nat → Prop} {st : St} {vS vV v' : Value} {S V : List Int} {x : Int} {N : Nat} (h : Po w0 a B F st vS vV S V) (r : c.ownsRow w0.heap.size 3 1 v' (V.length + 1) (ic V ++ [.int .i64 x])) (g : a.grownBy c vV.ownBlock) (hat : v'.ownBlock = vV.ownBlock ∨ v'.ownBlock = some N) (hN : N = a.heap.size) : Po w0 c B F st vS v' S (V ++ [x]) := by
  subst hN
  have sz : w0.heap.size ≤ a.heap.size := h.b.size
  refine ⟨h.p.sm fun k hk => g.block k (h.p.bd k hk) (fun e => h.nv k e.symm hk), h.b.grown g sz (fun k e => (own_blk h.rv k e).1), h.lo, h.rs.kept g ?_, by rw [ic_app, List.length_append]; exact r, h.ns, fun k e => ?_, fun k e e2 => ?_⟩
  · cases hv : vS.ownBlock with
    | none => exact .inl rfl
    | some k => exact .inr fun e => h.sv k hv e.symm
  · rcases hat with q | q
    · exact h.nv k (q ▸ e)
    · rw [q] at e
      cases e
      exact fun hf => Nat.lt_irrefl _ (h.p.bd _ hf)
  · rcases hat with q | q
    · exact h.sv k e (q ▸ e2)
    · rw [q] at e2
      cases e2
      obtain ⟨_, cur, q2⟩ := own_blk h.rs _ e
      exact Nat.lt_irrefl _ (heap_lt q2)
/-- a block of the law's own stays behind an append to a list -/
theorem Po.keepS {w0 a c : World} {B : Nat} {F : Nat → Prop} {st : St} {vS vV : Value} {S V : List Int} {k : Nat} {cs : Array Value} {t : TypeId} (h : Po w0 a B F st vS vV S V) (g : a.grownBy c vS.ownBlock) (hk : a.heap[k]? = some (.cells cs t (0, 0))) (ht : t ≠ 3) : c.heap[k]? = some (.cells cs t (0, 0)) := heap_grown g hk (fun e => own_ty h.rs hk ht e.symm)
theorem Po.keepV {w0 a c : World} {B : Nat} {F : Nat → Prop} {st : St} {vS vV : Value} {S V : List Int} {k : Nat} {cs : Array Value} {t : TypeId} (h : Po w0 a B F st vS vV S V) (g : a.grownBy c vV.ownBlock) (hk : a.heap[k]? = some (.cells cs t (0, 0))) (ht : t ≠ 3) : c.heap[k]? = some (.cells cs t (0, 0)) := heap_grown g hk (fun e => own_ty h.rv hk ht e.symm)
theorem counts_is (B : Nat) (F : Nat → Prop) (st : St) (a b : Nat) (w : World) (h : Pp w B F st) (ha : st.sent = a) (hb : st.got = b) :
    Calls Try.prog 12 #[.pointer (some ⟨B, 0, none⟩)] w fun r w' => r = .returned (.tuple #[.int .i64 (a : Int), .int .i64 (b : Int)]) ∧ Below w.heap.size w w' := by
  subst ha hb
  exact counts_any B F st w h
end Rp
end Go.Proofs.Ytapabnakbaoijaa
