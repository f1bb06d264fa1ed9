/- Slots and the reference's slots say the same: what every step keeps, over this seat's program. -/
import Derived.Test.YtekdcfdjohlfcaaTu
import Derived.Test.YtekdcfdjohlfcaaTr
namespace Go.Proofs.Ytekdcfdjohlfcaa
open Go.ChangeShapes Go.WideShapes Go.ChangeAt Go.RowKit
namespace Sl
open Ck
open Ba (KF Bd Nw)

/-- a clock's list and a reference's clock are the same -/
def Good (l : List Int) (F : Nat → Int) : Prop := ∀ k, k < 256 → nth l k = F k
theorem Good.z {l : List Int} {F : Nat → Int} (g : Good l F) (t : Int) : Good (z0 t l) (zf t F) := by
  intro k hk
  cases h : okT t with
  | false =>
    rw [zf_no h]
    unfold z0
    rw [h]
    exact g k hk
  | true => rw [nth_z0 h, zf_yes h, g k hk]
def GL (h : Nat → Option (List Int)) : List Nat → List (Nat → Int) → Prop
  | [], [] => True
  | b :: bs, F :: Fs => (∃ l, h b = some l ∧ Good l F) ∧ GL h bs Fs
  | _, _ => False
theorem GL.len {h : Nat → Option (List Int)} : ∀ {bs : List Nat} {Fs : List (Nat → Int)}, GL h bs Fs → bs.length = Fs.length
  | [], [], _ => rfl
  | _ :: bs, _ :: Fs, g => by rw [List.length_cons, List.length_cons, GL.len g.2]
  | [], _ :: _, g => g.elim
  | _ :: _, [], g => g.elim
theorem GL.ext {h h' : Nat → Option (List Int)} (e : Ext h h') : ∀ {bs : List Nat} {Fs : List (Nat → Int)}, GL h bs Fs → GL h' bs Fs
  | [], [], _ => trivial
  | _ :: _, _ :: _, g => ⟨g.1.elim fun l q => ⟨l, e _ _ q.1, q.2⟩, GL.ext e g.2⟩
  | [], _ :: _, g => g.elim
  | _ :: _, [], g => g.elim
theorem GL.app {h : Nat → Option (List Int)} {bs2 : List Nat} {Fs2 : List (Nat → Int)} (k : GL h bs2 Fs2) : ∀ {bs : List Nat} {Fs : List (Nat → Int)}, GL h bs Fs → GL h (bs ++ bs2) (Fs ++ Fs2)
  | [], [], _ => k
  | _ :: _, _ :: _, g => ⟨g.1, GL.app k g.2⟩
  | [], _ :: _, g => g.elim
  | _ :: _, [], g => g.elim
theorem GL.tail {h : Nat → Option (List Int)} : ∀ {bs : List Nat} {Fs : List (Nat → Int)}, GL h bs Fs → GL h bs.tail Fs.tail
  | [], [], _ => trivial
  | _ :: _, _ :: _, g => g.2
  | [], _ :: _, g => g.elim
  | _ :: _, [], g => g.elim
theorem GL.head {h : Nat → Option (List Int)} : ∀ {bs : List Nat} {Fs : List (Nat → Int)}, GL h bs Fs → bs.head? = none ∧ Fs.head? = none ∨ ∃ b F l, bs.head? = some b ∧ Fs.head? = some F ∧ h b = some l ∧ Good l F
  | [], [], _ => .inl ⟨rfl, rfl⟩
  | b :: _, F :: _, g => .inr (g.1.elim fun l q => ⟨b, F, l, rfl, rfl, q.1, q.2⟩)
  | [], _ :: _, g => g.elim
  | _ :: _, [], g => g.elim
theorem GL.at {h : Nat → Option (List Int)} : ∀ {bs : List Nat} {Fs : List (Nat → Int)}, GL h bs Fs → ∀ (j : Nat) (b : Nat), bs[j]? = some b → ∃ F l, Fs[j]? = some F ∧ h b = some l ∧ Good l F
  | [], [], _, j, b, e => by simp at e
  | b :: bs, F :: Fs, g, 0, c, e => by
    cases e
    exact g.1.elim fun l q => ⟨F, l, rfl, q.1, q.2⟩
  | b :: bs, F :: Fs, g, j + 1, c, e => GL.at g.2 j c (by simpa using e)
  | [], _ :: _, g, _, _, _ => g.elim
  | _ :: _, [], g, _, _, _ => g.elim
theorem GL.z {h h' : Nat → Option (List Int)} {t : Int} : ∀ {bs : List Nat} {Fs : List (Nat → Int)}, (∀ b ∈ bs, ∀ l, h b = some l → h' b = some (z0 t l)) → GL h bs Fs → GL h' bs (Fs.map (zf t))
  | [], [], _, _ => trivial
  | b :: _, _ :: _, q, g => ⟨g.1.elim fun l p => ⟨_, q b (List.mem_cons_self ..) l p.1, p.2.z t⟩, GL.z (fun c hc => q c (List.mem_cons_of_mem _ hc)) g.2⟩
  | [], _ :: _, _, g => g.elim
  | _ :: _, [], _, g => g.elim
def GC (h : Nat → Option (List Int)) (cl : Option Nat) (rs : Rst) : Prop := cl = none ∧ rs.closed = false ∨ ∃ b l, cl = some b ∧ rs.closed = true ∧ h b = some l ∧ Good l rs.clg
/-- slots and their reference -/
structure CR (st : Sst) (h : Nat → Option (List Int)) (rs : Rst) : Prop where
  sz : st.sz = rs.sz
  sn : st.sn = rs.sent.length
  rc : st.rc = rs.recd.length
  le : rs.recd.length ≤ rs.sent.length
  cap : rs.sent.length ≤ rs.recd.length + max 1 rs.sz
  gv : GL h st.gv (rs.sent.drop rs.recd.length)
  bk : GL h st.bk (rh2 rs rs.recd.length)
  cl : GC h st.cl rs
theorem GC.ext {h h' : Nat → Option (List Int)} (e : Ext h h') {cl : Option Nat} {rs : Rst} (g : GC h cl rs) : GC h' cl rs := by
  rcases g with q | ⟨b, l, q1, q2, q3, q4⟩
  · exact .inl q
  · exact .inr ⟨b, l, q1, q2, e _ _ q3, q4⟩
theorem CR.ext {st : Sst} {h h' : Nat → Option (List Int)} {rs : Rst} (c : CR st h rs) (e : Ext h h') : CR st h' rs := ⟨c.sz, c.sn, c.rc, c.le, c.cap, c.gv.ext e, c.bk.ext e, c.cl.ext e⟩
theorem rh2_full (rs : Rst) : rh2 rs rs.recd.length = if 0 < rs.sz then rs.recd.drop (rs.sent.length - rs.sz) else [] := by
  unfold rh2
  rw [List.take_length]
theorem CR.zero (n : Nat) (h : Nat → Option (List Int)) : CR ⟨n, 0, 0, [], [], none⟩ h (rs0 n) := by
  refine ⟨rfl, rfl, rfl, Nat.le_refl _, Nat.zero_le _, trivial, ?_, .inl ⟨rfl, rfl⟩⟩
  have e : rh2 (rs0 n) (rs0 n).recd.length = [] := by
    rw [rh2_full]
    by_cases q : 0 < (rs0 n).sz
    · rw [if_pos q]; exact List.drop_nil
    · rw [if_neg q]
  rw [e]
  trivial
theorem CR.sendE {st : Sst} {h : Nat → Option (List Int)} {rs : Rst} (c : CR st h rs) : (rs.closed = true → sendE st = 90) ∧ (rs.closed = false → (rs.recd.length + rs.sz ≤ rs.sent.length ∧ rs.recd.length + 1 ≤ rs.sent.length) → sendE st = 5) ∧ (rs.closed = false → ¬ (rs.recd.length + rs.sz ≤ rs.sent.length ∧ rs.recd.length + 1 ≤ rs.sent.length) → sendE st = 0) := by
  have e1 := c.sz
  have e2 := c.sn
  have e3 := c.rc
  unfold Sl.sendE
  rcases c.cl with ⟨q1, q2⟩ | ⟨b, l, q1, q2, -⟩
  · rw [q1, q2]
    refine ⟨fun q => (by cases q), fun _ q => ?_, fun _ q => ?_⟩
    · rw [if_neg (by simp), if_pos (by omega)]
    · rw [if_neg (by simp), if_neg (by omega)]
  · rw [q1, q2]
    exact ⟨fun _ => (by simp), fun q => (by cases q), fun q => (by cases q)⟩
theorem CR.fet {st : Sst} {h : Nat → Option (List Int)} {rs : Rst} (c : CR st h rs) : fetS st = none ∧ rpk rs true = none ∨ ∃ x F l, fetS st = some x ∧ rpk rs true = some F ∧ h x = some l ∧ Good l F := by
  have e1 := c.sz
  have e2 := c.sn
  have hb := c.bk
  rw [rh2_full] at hb
  unfold fetS rpk
  rw [if_pos rfl]
  by_cases q : 0 < rs.sz
  · rw [if_pos q] at hb
    by_cases q2 : st.sn < st.sz
    · rw [if_pos q2, if_neg (by omega)]
      exact .inl ⟨rfl, rfl⟩
    · rw [if_neg q2, if_pos ⟨q, by omega⟩]
      have := hb.head
      rw [List.head?_drop] at this
      exact this
  · rw [if_neg q] at hb
    rw [if_neg (by omega), if_neg (by omega)]
    have := hb.head
    rcases this with ⟨a, -⟩ | ⟨x, F, l, -, b, -⟩
    · exact .inl ⟨a, rfl⟩
    · cases b
theorem CR.nxt {st : Sst} {h : Nat → Option (List Int)} {rs : Rst} (c : CR st h rs) : st.gv.head? = none ∧ rpk rs false = none ∨ ∃ x F l, st.gv.head? = some x ∧ rpk rs false = some F ∧ h x = some l ∧ Good l F := by
  have := c.gv.head
  rw [List.head?_drop] at this
  exact this
theorem CR.held {st : Sst} {h : Nat → Option (List Int)} {rs : Rst} (c : CR st h rs) : GL h (keptL st) (rheld rs) := by
  unfold keptL rheld
  refine GL.app ?_ (GL.app c.bk c.gv)
  rcases c.cl with ⟨q1, q2⟩ | ⟨b, l, q1, q2, q3, q4⟩
  · rw [q1, q2]; trivial
  · rw [q1, q2]; exact ⟨⟨l, q3, q4⟩, trivial⟩
theorem CR.send {st : Sst} {h h' : Nat → Option (List Int)} {rs : Rst} (c : CR st h rs) {A : Nat} {l : List Int} {F : Nat → Int} (hn : ¬ (rs.recd.length + rs.sz ≤ rs.sent.length ∧ rs.recd.length + 1 ≤ rs.sent.length)) (e : Ext h h') (hA : h' A = some l) (g : Good l F) : CR (sendS st A) h' { rs with sent := rs.sent ++ [F] } := by
  have e1 := c.sz
  have e2 := c.sn
  have e3 := c.rc
  have e4 := c.le
  refine ⟨e1, by show st.sn + 1 = (rs.sent ++ [F]).length; rw [List.length_append, e2]; rfl, e3, by show _ ≤ (rs.sent ++ [F]).length; rw [List.length_append]; simp only [List.length_singleton]; omega, by show (rs.sent ++ [F]).length ≤ _; rw [List.length_append]; simp only [List.length_singleton]; omega, ?_, ?_, c.cl.ext e⟩
  · show GL h' (st.gv ++ [A]) ((rs.sent ++ [F]).drop rs.recd.length)
    rw [List.drop_append_of_le_length e4]
    exact GL.app (bs2 := [A]) (Fs2 := [F]) ⟨⟨l, hA, g⟩, trivial⟩ (c.gv.ext e)
  · show GL h' (if st.sn < st.sz then st.bk else st.bk.tail) (rh2 { rs with sent := rs.sent ++ [F] } rs.recd.length)
    have hb := c.bk.ext e
    have e9 := rh2_full { rs with sent := rs.sent ++ [F] }
    rw [show ({ rs with sent := rs.sent ++ [F] } : Rst).recd.length = rs.recd.length from rfl] at e9
    rw [e9]
    rw [rh2_full] at hb
    show GL h' _ (if 0 < rs.sz then rs.recd.drop ((rs.sent ++ [F]).length - rs.sz) else [])
    rw [List.length_append]
    by_cases q : 0 < rs.sz
    · rw [if_pos q] at hb ⊢
      by_cases q2 : st.sn < st.sz
      · rw [if_pos q2]
        have a1 : rs.sent.length - rs.sz = 0 := by omega
        have a2 : rs.sent.length + [F].length - rs.sz = 0 := by simp only [List.length_singleton]; omega
        rw [a1] at hb
        rw [a2]
        exact hb
      · rw [if_neg q2]
        have a2 : rs.sent.length + [F].length - rs.sz = rs.sent.length - rs.sz + 1 := by simp only [List.length_singleton]; omega
        rw [a2, ← List.tail_drop]
        exact hb.tail
    · rw [if_neg q] at hb ⊢
      rw [if_neg (by omega)]
      exact hb.tail
theorem CR.recv {st : Sst} {h h' : Nat → Option (List Int)} {rs : Rst} (c : CR st h rs) {A : Nat} {l : List Int} {F F' : Nat → Int} (hp : rpk rs false = some F') (e : Ext h h') (hA : 0 < st.sz → h' A = some l) (g : Good l F) : CR (recvS st A) h' { rs with recd := rs.recd ++ [F] } := by
  have e1 := c.sz
  have e2 := c.sn
  have e3 := c.rc
  have e4 := c.le
  have e5 := c.cap
  have hlt : rs.recd.length < rs.sent.length := by
    have hp' : rs.sent[rs.recd.length]? = some F' := hp
    exact (List.getElem?_eq_some_iff.1 hp').1
  refine ⟨e1, e2, by show st.rc + 1 = (rs.recd ++ [F]).length; rw [List.length_append, e3]; rfl, by show (rs.recd ++ [F]).length ≤ _; rw [List.length_append]; exact hlt, by show _ ≤ (rs.recd ++ [F]).length + _; rw [List.length_append]; simp only [List.length_singleton]; omega, ?_, ?_, c.cl.ext e⟩
  · show GL h' st.gv.tail (rs.sent.drop (rs.recd ++ [F]).length)
    rw [List.length_append, List.length_singleton, ← List.tail_drop]
    exact (c.gv.ext e).tail
  · show GL h' (if 0 < st.sz then st.bk ++ [A] else st.bk) (rh2 { rs with recd := rs.recd ++ [F] } (rs.recd ++ [F]).length)
    have hb := c.bk.ext e
    have e9 := rh2_full { rs with recd := rs.recd ++ [F] }
    rw [show ({ rs with recd := rs.recd ++ [F] } : Rst).recd.length = (rs.recd ++ [F]).length from rfl] at e9
    rw [e9]
    rw [rh2_full] at hb
    show GL h' _ (if 0 < rs.sz then (rs.recd ++ [F]).drop (rs.sent.length - rs.sz) else [])
    by_cases q : 0 < rs.sz
    · rw [if_pos q] at hb ⊢
      rw [if_pos (by omega), List.drop_append_of_le_length (by omega)]
      exact GL.app (bs2 := [A]) (Fs2 := [F]) ⟨⟨l, hA (by omega), g⟩, trivial⟩ hb
    · rw [if_neg q] at hb ⊢
      rw [if_neg (by omega)]
      exact hb
theorem CR.close {st : Sst} {h h' : Nat → Option (List Int)} {rs : Rst} (c : CR st h rs) {A : Nat} {l : List Int} {F : Nat → Int} (e : Ext h h') (hA : h' A = some l) (g : Good l F) : CR { st with cl := some A } h' { rs with closed := true, clg := F } :=
  ⟨c.sz, c.sn, c.rc, c.le, c.cap, c.gv.ext e, c.bk.ext e, .inr ⟨A, l, rfl, rfl, hA, g⟩⟩
theorem rh2_map (rs : Rst) (t : Int) : rh2 { rs with sent := rs.sent.map (zf t), recd := rs.recd.map (zf t), clg := zf t rs.clg } (rs.recd.map (zf t)).length = (rh2 rs rs.recd.length).map (zf t) := by
  have e9 := rh2_full { rs with sent := rs.sent.map (zf t), recd := rs.recd.map (zf t), clg := zf t rs.clg }
  refine e9.trans ?_
  rw [rh2_full]
  show (if 0 < rs.sz then (rs.recd.map (zf t)).drop ((rs.sent.map (zf t)).length - rs.sz) else []) = _
  by_cases q : 0 < rs.sz
  · rw [if_pos q, if_pos q, List.length_map, List.map_drop]
  · rw [if_neg q, if_neg q]; rfl
theorem CR.drop {st : Sst} {h h' : Nat → Option (List Int)} {rs : Rst} (c : CR st h rs) {t : Int} (e : ∀ b l, h b = some l → h' b = some (if b ∈ keptL st then z0 t l else l)) : CR st h' { rs with sent := rs.sent.map (zf t), recd := rs.recd.map (zf t), clg := zf t rs.clg } := by
  have ez : ∀ b ∈ keptL st, ∀ l, h b = some l → h' b = some (z0 t l) := fun b hb l q => by
    have := e b l q
    rwa [if_pos hb] at this
  have kg : ∀ b ∈ st.gv, b ∈ keptL st := fun b q => by unfold keptL; simp [q]
  have kb : ∀ b ∈ st.bk, b ∈ keptL st := fun b q => by unfold keptL; simp [q]
  refine ⟨c.sz, by show st.sn = (rs.sent.map (zf t)).length; rw [List.length_map]; exact c.sn, by show st.rc = (rs.recd.map (zf t)).length; rw [List.length_map]; exact c.rc, by show (rs.recd.map (zf t)).length ≤ (rs.sent.map (zf t)).length; rw [List.length_map, List.length_map]; exact c.le, by show (rs.sent.map (zf t)).length ≤ (rs.recd.map (zf t)).length + _; rw [List.length_map, List.length_map]; exact c.cap, ?_, ?_, ?_⟩
  · show GL h' st.gv ((rs.sent.map (zf t)).drop (rs.recd.map (zf t)).length)
    rw [List.length_map, ← List.map_drop]
    exact GL.z (fun b q => ez b (kg b q)) c.gv
  · show GL h' st.bk (rh2 _ (rs.recd.map (zf t)).length)
    rw [rh2_map]
    exact GL.z (fun b q => ez b (kb b q)) c.bk
  · rcases c.cl with q | ⟨b, l, q1, q2, q3, q4⟩
    · exact .inl q
    · exact .inr ⟨b, z0 t l, q1, q2, ez b (by unfold keptL; simp [q1]) l q3, q4.z t⟩
end Sl
end Go.Proofs.Ytekdcfdjohlfcaa
