/- Layer 20's laws, over this seat's program: clocks of both kinds in memory. -/
import Derived.Test.YtbceiakihplbcaaTa4
import Derived.Test.YtbceiakihplbcaaCx
import Derived.Maps.AppendAt
namespace Go.Proofs.Ytbceiakihplbcaa
open Go.ChangeShapes Go.WideShapes Go.ChangeAt Go.RowKit
namespace Rt
open Ck

/-- the cells of references -/
def rcs (Fs : List (Nat → Int)) : List Value := Fs.flatMap fun F => (ra F).toList
theorem ra_len (F : Nat → Int) : (ra F).toList.length = 256 := by rw [Array.length_toList]; exact ra_size F
theorem rcs_len : ∀ Fs : List (Nat → Int), (rcs Fs).length = Fs.length * 256
  | [] => rfl
  | F :: Fs => by
    show ((ra F).toList ++ rcs Fs).length = _
    rw [List.length_append, ra_len, rcs_len Fs, List.length_cons]
    omega
theorem rcs_app (a b : List (Nat → Int)) : rcs (a ++ b) = rcs a ++ rcs b := by simp [rcs]
theorem rcs_one (F : Nat → Int) : rcs [F] = (ra F).toList := by simp [rcs]
theorem rcs_at : ∀ (Fs : List (Nat → Int)) (k : Nat) (F : Nat → Int) (j : Nat), Fs[k]? = some F → j < 256 → (rcs Fs)[k * 256 + j]? = some (.int .i64 (F j))
  | [], k, F, j, h, _ => by simp at h
  | G :: Fs, 0, F, j, h, hj => by
    cases h
    show ((ra G).toList ++ rcs Fs)[0 * 256 + j]? = _
    rw [List.getElem?_append_left (by rw [ra_len]; omega), Nat.zero_mul, Nat.zero_add, Array.getElem?_toList]
    exact ra_at G j hj
  | G :: Fs, k + 1, F, j, h, hj => by
    show ((ra G).toList ++ rcs Fs)[(k + 1) * 256 + j]? = _
    rw [List.getElem?_append_right (by rw [ra_len]; omega), ra_len]
    have e : (k + 1) * 256 + j - 256 = k * 256 + j := by omega
    rw [e]
    exact rcs_at Fs k F j h hj
theorem rcs_cells (Fs : List (Nat → Int)) : ∀ u ∈ rcs Fs, u.oneCell' = true := by
  intro u hu
  obtain ⟨F, -, h⟩ := List.mem_flatMap.1 hu
  exact (Array.all_eq_true_iff_forall_mem.1 (ra_one F)) u (by simpa using h)
theorem info_rc : (Try.prog.info? 35).map (fun i => (i.zero, i.size, i.bytes)) = some (some (.agg (ra nf)), 256, 2048) := by kernel_rfl
theorem info_pc : (Try.prog.info? 48).map (fun i => (i.zero, i.size, i.bytes)) = some (some (.pointer none), 1, 8) := by kernel_rfl
set_option maxRecDepth 100000 in
theorem fold_r (F : Nat → Int) : Array.foldl (fun cs x => cs.setIfInBounds x.snd x.fst) (Array.map (fun x => (ra nf)[x % 256]!) (Array.range 256)) (ra F).zipIdx 0 256 = ra F := by kernel_rfl
theorem own_sm {w w' : World} {base : Nat} {e : TypeId} {sz : Nat} {v : Value} {n : Nat} {xs : List Value} (h : w.ownsRow base e sz v n xs) (hb : ∀ g, v.ownBlock = some g → w'.heap[g]? = w.heap[g]?) : w'.ownsRow base e sz v n xs := by
  refine ⟨h.1, ?_⟩
  rcases h.2 with q | ⟨g, cap, cr, rfl, h0, hg, q⟩
  · exact .inl q
  · exact .inr ⟨g, cap, cr, rfl, h0, (hb g rfl).trans hg, q⟩
/-- the clocks by their blocks -/
def hx (h : Nat → Option (List Int)) : Nat → Option (Nat × List Int) := fun b => (h b).map fun l => (b, l)
theorem hx_at {h : Nat → Option (List Int)} {b : Nat} {l : List Int} (e : h b = some l) : hx h b = some (b, l) := by simp [hx, e]
theorem hx_upd (h : Nat → Option (List Int)) (b : Nat) (l : List Int) : upd (hx h) b (b, l) = hx (upd h b l) := by
  funext j
  unfold upd hx
  by_cases e : j = b <;> simp [e]
def Ext (h h' : Nat → Option (List Int)) : Prop := ∀ b l, h b = some l → h' b = some l
theorem Ext.refl (h : Nat → Option (List Int)) : Ext h h := fun _ _ e => e
theorem Ext.trans {a b c : Nat → Option (List Int)} (h : Ext a b) (k : Ext b c) : Ext a c := fun x l e => k x l (h x l e)
theorem Ext.upd {h : Nat → Option (List Int)} {A : Nat} {l : List Int} (e : h A = none) : Ext h (upd h A l) := by
  intro b l' hb
  have : b ≠ A := fun q => by rw [q, e] at hb; cases hb
  rw [upd_other _ _ _ _ this]
  exact hb
theorem cx_ext {X X' : Nat → Prop} {w w' : World} {h : Nat → Option (Nat × List Int)} (hs : Cx X w h) (hb : ∀ k, k < w.heap.size → ¬ X k → w'.heap[k]? = w.heap[k]?)
    (hi : ∀ k, X' k → X k ∨ w.heap.size ≤ k) (hd : ∀ k, X' k → k < w'.heap.size) : Cx X' w' h := by
  obtain ⟨f, st, hf⟩ := hs
  have key : ∀ i c, f i = some c → c.b < w.heap.size ∧ ∀ x, c.g = some x → x < w.heap.size := fun i c hc => by
    obtain ⟨cap, r⟩ := st.rep i c hc
    exact ⟨r.lt, fun x hx => r.glt hx⟩
  refine ⟨f, ⟨fun i c hc => ?_, fun i c hc => ?_, st.apart, hd⟩, hf⟩
  · obtain ⟨cap, r⟩ := st.rep i c hc
    have ok := st.ok i c hc
    exact ⟨cap, r.keep (hb _ r.lt ok.2.2.1) (fun x hx => hb _ (r.glt hx) (ok.2.2.2 x hx))⟩
  · have ok := st.ok i c hc
    have kk := key i c hc
    refine ⟨ok.1, ok.2.1, fun q => ?_, fun x hx q => ?_⟩
    · rcases hi _ q with q | q
      · exact ok.2.2.1 q
      · omega
    · rcases hi _ q with q | q
      · exact ok.2.2.2 x hx q
      · have := kk.2 x hx; omega
/-- both rows, and the clocks h -/
def Xa (Y : Nat → Prop) (t2 t3 : Nat) (vC vW : Value) : Nat → Prop := fun k => Y k ∨ k = t2 ∨ k = t3 ∨ vC.ownBlock = some k ∨ vW.ownBlock = some k
def pts (ks : List (Nat × List Int)) : List Value := ks.map fun z => pt z.1
structure AI (Y : Nat → Prop) (w wr : World) (ks : List (Nat × List Int)) (Fs : List (Nat → Int)) (vC vW : Value) (h0 h : Nat → Option (List Int)) : Prop where
  h2 : wr.heap[w.heap.size]? = some (.cells #[.slice none 0 0, .slice none 0 0] 28 (0, 0))
  h3 : wr.heap[w.heap.size + 1]? = some (.cells #[vC, vW] 28 (0, 0))
  oc : wr.ownsRow (w.heap.size + 2) 48 1 vC ks.length (pts ks)
  ow : wr.ownsRow (w.heap.size + 2) 35 256 vW Fs.length (rcs Fs)
  dw : ∀ g, vC.ownBlock = some g → vW.ownBlock ≠ some g
  cx : Cx (Xa Y w.heap.size (w.heap.size + 1) vC vW) wr (hx h)
  dom : ∀ z ∈ ks, h z.1 = some z.2
  ex : Ext h0 h
  bl : Below w.heap.size w wr
  sz : w.heap.size + 2 ≤ wr.heap.size
section
variable {Y : Nat → Prop} {w wr w' : World} {ks : List (Nat × List Int)} {Fs : List (Nat → Int)} {vC vW vC' vW' : Value} {h0 h : Nat → Option (List Int)}
theorem AI.below (a : AI Y w wr ks Fs vC vW h0 h) (b : Below wr.heap.size wr w') : AI Y w w' ks Fs vC vW h0 h :=
  ⟨(b.block _ (Ba.heap_lt a.h2)).trans a.h2, (b.block _ (Ba.heap_lt a.h3)).trans a.h3, own_sm a.oc (fun g e => b.block g (a.oc.lt g e).2), own_sm a.ow (fun g e => b.block g (a.ow.lt g e).2), a.dw, a.cx.below b, a.dom, a.ex, btr a.bl b, Nat.le_trans a.sz b.size⟩
theorem AI.clk (a : AI Y w wr ks Fs vC vW h0 h) {A : Nat} {l : List Int} (f : Fresh wr w' l A) (hc : Canon l) (hv : Valid l) : h A = none ∧ AI Y w w' ks Fs vC vW h0 (upd h A l) := by
  obtain ⟨G, cap, r1, a1, a2, a3, a4, b⟩ := f
  have hA0 : h A = none := by
    cases e : h A with
    | none => rfl
    | some l0 => have := (a.cx.get (hx_at e)).1.lt; omega
  have a' := a.below b
  refine ⟨hA0, a'.h2, a'.h3, a'.oc, a'.ow, a.dw, ?_, fun z hz => ?_, a.ex.trans (Ext.upd hA0), a'.bl, a'.sz⟩
  · rw [← hx_upd]
    exact a.cx.fresh r1 a1 (fun x e => by cases e; exact a2) b hc hv A
  · exact Ext.upd hA0 _ _ (a.dom z hz)
/-- one more clock in the first row: its own world is wr, then the row grows, then the pair has it -/
theorem AI.appC (a : AI Y w wr ks Fs vC vW h0 h) {A : Nat} {l : List Int} (hA : h A = some l) {w1 : World} (o : w1.ownsRow (w.heap.size + 2) 48 1 vC' (ks.length + 1) (pts ks ++ [pt A])) (g : wr.grownBy w1 vC.ownBlock) (e : vC'.ownBlock = vC.ownBlock ∨ vC'.ownBlock = some wr.heap.size) :
    AI Y w (w1.setCell ⟨w.heap.size + 1, 0, none⟩ vC') (ks ++ [(A, l)]) Fs vC' vW h0 h := by
  have hs : (w1.setCell ⟨w.heap.size + 1, 0, none⟩ vC').heap.size = w1.heap.size := by simp [World.setCell]
  have lo : ∀ x, vC.ownBlock = some x → w.heap.size + 2 ≤ x := fun x q => (a.oc.lt x q).1
  have lo' : ∀ x, vC'.ownBlock = some x → w.heap.size + 2 ≤ x := fun x q => (o.lt x q).1
  have b2 : w1.heap[w.heap.size]? = _ := (g.block _ (Ba.heap_lt a.h2) (fun q => by have := lo _ q.symm; omega)).trans a.h2
  have b3 : w1.heap[w.heap.size + 1]? = _ := (g.block _ (Ba.heap_lt a.h3) (fun q => by have := lo _ q.symm; omega)).trans a.h3
  refine ⟨?_, ?_, ?_, ?_, ?_, ?_, ?_, a.ex, ?_, by rw [hs]; exact Nat.le_trans a.sz g.size⟩
  · rw [Below.heap_setCell _ _ _ _ (by show w.heap.size ≠ w.heap.size + 1; omega)]; exact b2
  · have := Ba.heap_setCell_same (i := 0) b3 vC'
    simpa using this
  · rw [List.length_append, show pts (ks ++ [(A, l)]) = pts ks ++ [pt A] by simp [pts]]
    exact own_sm o (fun x q => Below.heap_setCell _ _ _ _ (by have := lo' x q; show x ≠ w.heap.size + 1; omega))
  · refine own_sm a.ow (fun x q => ?_)
    rw [Below.heap_setCell _ _ _ _ (by have := (a.ow.lt x q).1; show x ≠ w.heap.size + 1; omega)]
    exact g.block x (a.ow.lt x q).2 (fun r => a.dw x r.symm q)
  · intro x q r
    rcases e with e | e
    · exact a.dw x (by rw [← e]; exact q) r
    · rw [e] at q; cases q
      have := (a.ow.lt _ r).2
      omega
  · refine cx_ext a.cx (fun k hk hn => ?_) (fun k q => ?_) (fun k q => ?_)
    · rw [Below.heap_setCell _ _ _ _ (fun r => hn (.inr (.inr (.inl r))))]
      exact g.block k hk (fun r => hn (.inr (.inr (.inr (.inl r.symm)))))
    · rcases q with q | q | q | q | q
      · exact .inl (.inl q)
      · exact .inl (.inr (.inl q))
      · exact .inl (.inr (.inr (.inl q)))
      · rcases e with e | e
        · exact .inl (.inr (.inr (.inr (.inl (by rw [← e]; exact q)))))
        · rw [e] at q; cases q; exact .inr (Nat.le_refl _)
      · exact .inl (.inr (.inr (.inr (.inr q))))
    · rw [hs]
      rcases q with q | q | q | q | q
      · exact Nat.lt_of_lt_of_le (a.cx.base k (.inl q)) g.size
      · have := a.sz; have := g.size; omega
      · have := a.sz; have := g.size; omega
      · exact (o.lt k q).2
      · exact Nat.lt_of_lt_of_le (a.ow.lt k q).2 g.size
  · intro z hz
    rcases List.mem_append.1 hz with q | q
    · exact a.dom z q
    · rw [List.mem_singleton.1 q]; exact hA
  · refine ⟨g.os.trans a.bl.os, g.tape.trans a.bl.tape, g.output.trans a.bl.output, by rw [hs]; exact Nat.le_trans a.bl.size g.size, fun x hx => ?_⟩
    rw [Below.heap_setCell _ _ _ _ (by show x ≠ w.heap.size + 1; omega), g.block x (Nat.lt_of_lt_of_le hx a.bl.size) (fun q => by have := lo _ q.symm; omega)]
    exact a.bl.block x hx
theorem AI.appW (a : AI Y w wr ks Fs vC vW h0 h) {F : Nat → Int} {w1 : World} (o : w1.ownsRow (w.heap.size + 2) 35 256 vW' (Fs.length + 1) (rcs Fs ++ rcs [F])) (g : wr.grownBy w1 vW.ownBlock) (e : vW'.ownBlock = vW.ownBlock ∨ vW'.ownBlock = some wr.heap.size) :
    AI Y w (w1.setCell ⟨w.heap.size + 1, 1, none⟩ vW') ks (Fs ++ [F]) vC vW' h0 h := by
  have hs : (w1.setCell ⟨w.heap.size + 1, 1, none⟩ vW').heap.size = w1.heap.size := by simp [World.setCell]
  have lo : ∀ x, vW.ownBlock = some x → w.heap.size + 2 ≤ x := fun x q => (a.ow.lt x q).1
  have lo' : ∀ x, vW'.ownBlock = some x → w.heap.size + 2 ≤ x := fun x q => (o.lt x q).1
  have b2 : w1.heap[w.heap.size]? = _ := (g.block _ (Ba.heap_lt a.h2) (fun q => by have := lo _ q.symm; omega)).trans a.h2
  have b3 : w1.heap[w.heap.size + 1]? = _ := (g.block _ (Ba.heap_lt a.h3) (fun q => by have := lo _ q.symm; omega)).trans a.h3
  refine ⟨?_, ?_, ?_, ?_, ?_, ?_, a.dom, a.ex, ?_, by rw [hs]; exact Nat.le_trans a.sz g.size⟩
  · rw [Below.heap_setCell _ _ _ _ (by show w.heap.size ≠ w.heap.size + 1; omega)]; exact b2
  · have := Ba.heap_setCell_same (i := 1) b3 vW'
    simpa using this
  · refine own_sm a.oc (fun x q => ?_)
    rw [Below.heap_setCell _ _ _ _ (by have := (a.oc.lt x q).1; show x ≠ w.heap.size + 1; omega)]
    exact g.block x (a.oc.lt x q).2 (fun r => a.dw x q r.symm)
  · rw [List.length_append, rcs_app]
    exact own_sm o (fun x q => Below.heap_setCell _ _ _ _ (by have := lo' x q; show x ≠ w.heap.size + 1; omega))
  · intro x q r
    rcases e with e | e
    · exact a.dw x q (by rw [← e]; exact r)
    · rw [e] at r; cases r
      have := (a.oc.lt _ q).2
      omega
  · refine cx_ext a.cx (fun k hk hn => ?_) (fun k q => ?_) (fun k q => ?_)
    · rw [Below.heap_setCell _ _ _ _ (fun r => hn (.inr (.inr (.inl r))))]
      exact g.block k hk (fun r => hn (.inr (.inr (.inr (.inr r.symm)))))
    · rcases q with q | q | q | q | q
      · exact .inl (.inl q)
      · exact .inl (.inr (.inl q))
      · exact .inl (.inr (.inr (.inl q)))
      · exact .inl (.inr (.inr (.inr (.inl q))))
      · rcases e with e | e
        · exact .inl (.inr (.inr (.inr (.inr (by rw [← e]; exact q)))))
        · rw [e] at q; cases q; exact .inr (Nat.le_refl _)
    · rw [hs]
      rcases q with q | q | q | q | q
      · exact Nat.lt_of_lt_of_le (a.cx.base k (.inl q)) g.size
      · have := a.sz; have := g.size; omega
      · have := a.sz; have := g.size; omega
      · exact Nat.lt_of_lt_of_le (a.oc.lt k q).2 g.size
      · exact (o.lt k q).2
  · refine ⟨g.os.trans a.bl.os, g.tape.trans a.bl.tape, g.output.trans a.bl.output, by rw [hs]; exact Nat.le_trans a.bl.size g.size, fun x hx => ?_⟩
    rw [Below.heap_setCell _ _ _ _ (by show x ≠ w.heap.size + 1; omega), g.block x (Nat.lt_of_lt_of_le hx a.bl.size) (fun q => by have := lo _ q.symm; omega)]
    exact a.bl.block x hx
end
end Rt
end Go.Proofs.Ytbceiakihplbcaa
