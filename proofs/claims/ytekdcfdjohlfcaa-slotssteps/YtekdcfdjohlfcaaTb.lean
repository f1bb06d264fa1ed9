/- Package slots, over this seat's program: what lies in memory, and New, Send, Recv, Peek, Close, Closed, Counts. -/
import Derived.Test.YtekdcfdjohlfcaaTa
namespace Go.Proofs.Ytekdcfdjohlfcaa
open Go.ChangeShapes Go.WideShapes Go.ChangeAt Go.RowKit
namespace Sl
open Ck
open Ba (KF Bd Nw)

structure Sst where
  sz : Nat
  sn : Nat
  rc : Nat
  gv : List Nat
  bk : List Nat
  cl : Option Nat
/-- the clocks by their blocks -/
def hx (h : Nat → Option (List Int)) : Nat → Option (Nat × List Int) := fun b => (h b).map fun l => (b, l)
theorem hx_at {h : Nat → Option (List Int)} {b : Nat} {l : List Int} (e : h b = some l) : hx h b = some (b, l) := by simp [hx, e]
theorem hx_upd (h : Nat → Option (List Int)) (b : Nat) (l : List Int) : upd (hx h) b (b, l) = hx (upd h b l) := by
  funext j
  unfold upd hx
  by_cases e : j = b <;> simp [e]
def clv : Option Nat → Value
  | none => .pointer none
  | some b => ptr b
def Xs (Y : Nat → Prop) (S : Nat) (vg vb : Value) : Nat → Prop := fun k => Y k ∨ k = S ∨ vg.ownBlock = some k ∨ vb.ownBlock = some k
def scs (st : Sst) (vg vb : Value) : Array Value := #[.int .i64 (st.sz : Int), .int .i64 (st.sn : Int), .int .i64 (st.rc : Int), vg, vb, clv st.cl]
def Dom (st : Sst) (h : Nat → Option (List Int)) : Prop := ∀ b, b ∈ st.gv ∨ b ∈ st.bk ∨ st.cl = some b → ∃ l, h b = some l
/-- slots at S, the clocks h, foreign blocks Y -/
structure SX (Y : Nat → Prop) (S : Nat) (w : World) (st : Sst) (h : Nat → Option (List Int)) (vg vb : Value) : Prop where
  hp : w.heap[S]? = some (.cells (scs st vg vb) 93 (0, 0))
  gv : w.ownsRow 0 34 1 vg st.gv.length (pcs st.gv)
  bk : w.ownsRow 0 34 1 vb st.bk.length (pcs st.bk)
  ap : ∀ k, vg.ownBlock = some k → vb.ownBlock ≠ some k
  ys : ¬ Y S
  yg : ∀ k, vg.ownBlock = some k → ¬ Y k
  yb : ∀ k, vb.ownBlock = some k → ¬ Y k
  sg : vg.ownBlock ≠ some S
  sb : vb.ownBlock ≠ some S
  cx : Cx (Xs Y S vg vb) w (hx h)
  dom : Dom st h
def SW (Y : Nat → Prop) (S : Nat) (w : World) (st : Sst) (h : Nat → Option (List Int)) : Prop := ∃ vg vb, SX Y S w st h vg vb
def Ext (h h' : Nat → Option (List Int)) : Prop := ∀ b l, h b = some l → h' b = some l
theorem Ext.refl (h : Nat → Option (List Int)) : Ext h h := fun _ _ e => e
theorem Ext.trans {a b c : Nat → Option (List Int)} (h : Ext a b) (k : Ext b c) : Ext a c := fun x l e => k x l (h x l e)
theorem Ext.upd {h : Nat → Option (List Int)} {A : Nat} {l : List Int} (e : h A = none) : Ext h (upd h A l) := by
  intro b l' hb
  have : b ≠ A := fun q => by rw [q, e] at hb; cases hb
  rw [upd_other _ _ _ _ this]
  exact hb
theorem Kp.mono {X Y : Nat → Prop} {w w' : World} (h : Kp X w w') (i : ∀ k, Y k → X k) : Kp Y w w' := ⟨h.os, h.tape, h.output, h.size, fun k hk => h.block k (i k hk)⟩
theorem Kp.of {X : Nat → Prop} {w w' : World} (h : Below w.heap.size w w') (hX : ∀ k, X k → k < w.heap.size) : Kp X w w' := ⟨h.os, h.tape, h.output, h.size, fun k hk => h.block k (hX k hk)⟩
/-- other foreign blocks -/
theorem cx_ext {X X' : Nat → Prop} {w w' : World} {h : Nat → Option (Nat × List Int)} (hs : Cx X w h) (hb : ∀ k, k < w.heap.size → ¬ X k → w'.heap[k]? = w.heap[k]?)
    (hi : ∀ k, X' k → X k ∨ w.heap.size ≤ k) (hd : ∀ k, X' k → k < w'.heap.size) : Cx X' w' h := by
  obtain ⟨f, st, hf⟩ := hs
  have key : ∀ i c, f i = some c → c.b < w.heap.size ∧ ∀ x, c.g = some x → x < w.heap.size := fun i c hc => by
    obtain ⟨cap, r⟩ := st.rep i c hc
    exact ⟨r.lt, fun x hx => r.glt hx⟩
  refine ⟨f, ⟨fun i c hc => ?_, fun i c hc => ?_, st.apart, hd⟩, hf⟩
  · obtain ⟨cap, r⟩ := st.rep i c hc
    have ok := st.ok i c hc
    exact ⟨cap, r.keep (hb _ r.lt ok.2.2.1) (fun x hx => hb _ (r.glt hx) (ok.2.2.2 x hx))⟩
  · have ok := st.ok i c hc
    have kk := key i c hc
    refine ⟨ok.1, ok.2.1, fun q => ?_, fun x hx q => ?_⟩
    · rcases hi _ q with q | q
      · exact ok.2.2.1 q
      · omega
    · rcases hi _ q with q | q
      · exact ok.2.2.2 x hx q
      · have := kk.2 x hx; omega
/-- a new clock is none of the old ones -/
theorem cx_new {X : Nat → Prop} {w w' : World} {h : Nat → Option (List Int)} {A : Nat} {l : List Int} (hs : Cx X w (hx h)) (hn : ∀ i, Cx X w' (upd (hx h) i (A, l))) : h A = none := by
  cases hA : h A with
  | none => rfl
  | some l0 =>
    exfalso
    have h1 := (hs.get (hx_at hA)).1.lt
    have h2 : h w.heap.size = none := by
      cases e : h w.heap.size with
      | none => rfl
      | some l1 => exact absurd (hs.get (hx_at e)).1.lt (Nat.lt_irrefl _)
    obtain ⟨f, st, hf⟩ := hn w.heap.size
    have e1 := hf w.heap.size
    rw [upd_same] at e1
    have e2 := hf A
    rw [upd_other _ _ _ _ (by omega), hx_at hA] at e2
    cases q1 : f w.heap.size with
    | none => rw [q1] at e1; simp at e1
    | some c =>
      cases q2 : f A with
      | none => rw [q2] at e2; simp at e2
      | some d =>
        rw [q1] at e1
        rw [q2] at e2
        simp at e1 e2
        have ap := st.apart w.heap.size A c d (by omega) q1 q2
        exact ap.1 (by rw [← e1.1, ← e2.1])
theorem SX.lt {Y : Nat → Prop} {S : Nat} {w : World} {st : Sst} {h : Nat → Option (List Int)} {vg vb : Value} (s : SX Y S w st h vg vb) : S < w.heap.size := (Array.getElem?_eq_some_iff.1 s.hp).1
theorem SX.ylt {Y : Nat → Prop} {S : Nat} {w : World} {st : Sst} {h : Nat → Option (List Int)} {vg vb : Value} (s : SX Y S w st h vg vb) : ∀ k, Y k → k < w.heap.size := fun k hk => s.cx.base k (.inl hk)
theorem own_kp {X : Nat → Prop} {w w' : World} {e : TypeId} {v : Value} {n : Nat} {xs : List Value} (h : w.ownsRow 0 e 1 v n xs) (k : Kp X w w') (hX : ∀ b, v.ownBlock = some b → X b) : w'.ownsRow 0 e 1 v n xs := by
  refine ⟨h.1, ?_⟩
  rcases h.2 with q | ⟨g, cap, cr, rfl, h0, hg, q⟩
  · exact .inl q
  · exact .inr ⟨g, cap, cr, rfl, h0, (k.block g (hX g rfl)).trans hg, q⟩
/-- the clocks alone have changed -/
theorem SX.clk {Y : Nat → Prop} {S : Nat} {w w' : World} {st : Sst} {h h' : Nat → Option (List Int)} {vg vb : Value} (s : SX Y S w st h vg vb) (c : Cx (Xs Y S vg vb) w' (hx h')) (k : Kp (Xs Y S vg vb) w w') (hd : ∀ b l, h b = some l → ∃ l', h' b = some l') : SX Y S w' st h' vg vb :=
  ⟨(k.block S (.inr (.inl rfl))).trans s.hp, own_kp s.gv k fun _ e => .inr (.inr (.inl e)), own_kp s.bk k fun _ e => .inr (.inr (.inr e)), s.ap, s.ys, s.yg, s.yb, s.sg, s.sb, c, fun b hb => by
    obtain ⟨l, e⟩ := s.dom b hb
    exact hd b l e⟩
theorem SX.below {Y : Nat → Prop} {S : Nat} {w w' : World} {st : Sst} {h : Nat → Option (List Int)} {vg vb : Value} (s : SX Y S w st h vg vb) (b : Below w.heap.size w w') : SX Y S w' st h vg vb :=
  s.clk (s.cx.below b) (Kp.of b s.cx.base) fun _ l e => ⟨l, e⟩
/-- the slots have changed, the clocks have not -/
theorem SX.put {Y : Nat → Prop} {S : Nat} {w w' : World} {st st' : Sst} {h : Nat → Option (List Int)} {vg vb vg' vb' : Value} (s : SX Y S w st h vg vb) (hp' : w'.heap[S]? = some (.cells (scs st' vg' vb') 93 (0, 0)))
    (og : w'.ownsRow 0 34 1 vg' st'.gv.length (pcs st'.gv)) (ob : w'.ownsRow 0 34 1 vb' st'.bk.length (pcs st'.bk)) (kf : KF (fun k => k = S ∨ vg.ownBlock = some k ∨ vb.ownBlock = some k) w w')
    (ng : vg'.ownBlock = vg.ownBlock ∨ ∃ N, vg'.ownBlock = some N ∧ w.heap.size ≤ N) (nb : vb'.ownBlock = vb.ownBlock ∨ ∃ N, vb'.ownBlock = some N ∧ w.heap.size ≤ N)
    (ap' : ∀ k, vg'.ownBlock = some k → vb'.ownBlock ≠ some k) (dm : Dom st' h) : SX Y S w' st' h vg' vb' ∧ Kp Y w w' := by
  have hS := s.lt
  have yl := s.ylt
  have lg : ∀ k, vg'.ownBlock = some k → k < w'.heap.size := fun k e => (og.lt k e).2
  have lb : ∀ k, vb'.ownBlock = some k → k < w'.heap.size := fun k e => (ob.lt k e).2
  have cg : ∀ k, vg'.ownBlock = some k → vg.ownBlock = some k ∨ w.heap.size ≤ k := fun k e => by
    rcases ng with q | ⟨N, q, hN⟩
    · exact .inl (q ▸ e)
    · rw [q] at e; cases e; exact .inr hN
  have cb : ∀ k, vb'.ownBlock = some k → vb.ownBlock = some k ∨ w.heap.size ≤ k := fun k e => by
    rcases nb with q | ⟨N, q, hN⟩
    · exact .inl (q ▸ e)
    · rw [q] at e; cases e; exact .inr hN
  refine ⟨⟨hp', og, ob, ap', s.ys, fun k e y => ?_, fun k e y => ?_, fun e => ?_, fun e => ?_, ?_, dm⟩, ⟨kf.os, kf.tape, kf.output, kf.size, fun k hk => kf.block k (yl k hk) ?_⟩⟩
  · rcases cg k e with q | q
    · exact s.yg k q y
    · have := yl k y; omega
  · rcases cb k e with q | q
    · exact s.yb k q y
    · have := yl k y; omega
  · rcases cg _ e with q | q
    · exact s.sg q
    · omega
  · rcases cb _ e with q | q
    · exact s.sb q
    · omega
  · refine cx_ext s.cx (fun k hk hn => kf.block k hk (fun q => hn (.inr q))) ?_ ?_
    · rintro k (q | q | q | q)
      · exact .inl (.inl q)
      · exact .inl (.inr (.inl q))
      · rcases cg k q with z | z
        · exact .inl (.inr (.inr (.inl z)))
        · exact .inr z
      · rcases cb k q with z | z
        · exact .inl (.inr (.inr (.inr z)))
        · exact .inr z
    · rintro k (q | q | q | q)
      · exact Nat.lt_of_lt_of_le (yl k q) kf.size
      · rw [q]; exact Nat.lt_of_lt_of_le hS kf.size
      · exact lg k q
      · exact lb k q
  · rintro (q | q | q)
    · exact s.ys (q ▸ hk)
    · exact s.yg k q hk
    · exact s.yb k q hk
/-- a copy of one of the clocks -/
theorem copy_sx {Y : Nat → Prop} {S : Nat} {w : World} {st : Sst} {h : Nat → Option (List Int)} {vg vb : Value} (s : SX Y S w st h vg vb) {b : Nat} {l : List Int} (e : h b = some l) :
    Calls Try.prog 39 #[ptr b] w fun r w' => ∃ A, r = .returned (ptr A) ∧ h A = none ∧ SX Y S w' st (upd h A l) vg vb ∧ Kp (Xs Y S vg vb) w w' := by
  refine (cx_copy s.cx (hx_at e)).mono ?_
  rintro r w' ⟨A, rfl, hc, kp⟩
  have hA := cx_new s.cx hc
  refine ⟨A, rfl, hA, s.clk (by rw [← hx_upd]; exact hc A) kp fun b' l' e' => ⟨l', Ext.upd hA b' l' e'⟩, kp⟩
theorem SX.cells {Y : Nat → Prop} {S : Nat} {w : World} {st : Sst} {h : Nat → Option (List Int)} {vg vb : Value} (s : SX Y S w st h vg vb) :
    w.cell? ⟨S, 0, none⟩ = some (.int .i64 (st.sz : Int)) ∧ w.cell? ⟨S, 1, none⟩ = some (.int .i64 (st.sn : Int)) ∧ w.cell? ⟨S, 2, none⟩ = some (.int .i64 (st.rc : Int)) ∧ w.cell? ⟨S, 3, none⟩ = some vg ∧ w.cell? ⟨S, 4, none⟩ = some vb ∧ w.cell? ⟨S, 5, none⟩ = some (clv st.cl) :=
  ⟨cell_of s.hp 0, cell_of s.hp 1, cell_of s.hp 2, cell_of s.hp 3, cell_of s.hp 4, cell_of s.hp 5⟩
/-- where a send, or receive, fetches from -/
def srcP (S : Nat) (st : Sst) (send : Bool) : Value := if send then (if st.sn < st.sz then .pointer none else .pointer (some ⟨S, 4, none⟩)) else .pointer (some ⟨S, 3, none⟩)
theorem source_nil (b : Bool) (w : World) : Calls Try.prog 36 #[.pointer none, .bool b] w fun r w' => r = .returned (.pointer none) ∧ w' = w := by
  go_enter Try.func36, Try.ntmps36
  go_wp2_with fail
  go_ret
  exact ⟨rfl, rfl⟩
theorem source_any {Y : Nat → Prop} {S : Nat} {w : World} {st : Sst} {h : Nat → Option (List Int)} {vg vb : Value} (s : SX Y S w st h vg vb) (b : Bool) :
    Calls Try.prog 36 #[.pointer (some ⟨S, 0, none⟩), .bool b] w fun r w' => r = .returned (srcP S st b) ∧ Below w.heap.size w w' := by
  obtain ⟨y0, y1, -⟩ := s.cells
  clear s
  cases b
  · go_enter Try.func36, Try.ntmps36
    go_wp2_with fail
    go_ret
    exact ⟨rfl, Below.refl _ _⟩
  · unfold srcP
    by_cases hlt : st.sn < st.sz
    · have d : decide ((st.sn : Int) < (st.sz : Int)) = true := by simp; omega
      have hlt' : (st.sn : Int) < (st.sz : Int) := by omega
      rw [if_pos rfl, if_pos hlt]
      go_enter Try.func36, Try.ntmps36
      go_wp2_with fail
      go_region
      go_wp2_with fail
      go_ret
      exact ⟨rfl, Ba.bdrew1 _⟩
    · have d : decide ((st.sn : Int) < (st.sz : Int)) = false := by simp; omega
      have hlt' : ¬ (st.sn : Int) < (st.sz : Int) := by omega
      rw [if_pos rfl, if_neg hlt]
      go_enter Try.func36, Try.ntmps36
      go_wp2_with fail
      go_region
      go_wp2_with fail
      go_ret
      exact ⟨rfl, Ba.bdrew1 _⟩
theorem counts_nil (w : World) : Calls Try.prog 45 #[.pointer none] w fun r w' => r = .returned (.tuple #[.int .i64 0, .int .i64 0]) ∧ w' = w := by
  go_enter Try.func45, Try.ntmps45
  go_wp2_with fail
  go_ret2
  exact ⟨rfl, rfl⟩
theorem counts_any {Y : Nat → Prop} {S : Nat} {w : World} {st : Sst} {h : Nat → Option (List Int)} {vg vb : Value} (s : SX Y S w st h vg vb) :
    Calls Try.prog 45 #[.pointer (some ⟨S, 0, none⟩)] w fun r w' => r = .returned (.tuple #[.int .i64 (st.sn : Int), .int .i64 (st.rc : Int)]) ∧ Below w.heap.size w w' := by
  obtain ⟨-, y1, y2, -⟩ := s.cells
  clear s
  go_enter Try.func45, Try.ntmps45
  go_wp2_with fail
  go_region
  go_wp2_with fail
  go_ret2
  exact ⟨rfl, Ba.bdrew1 _⟩
/-- New -/
theorem new_bad (n : Int) (w : World) (hn : n < 0 ∨ 4 < n) : Calls Try.prog 5 #[.int .i64 n] w fun r w' => r = .returned (.tuple #[.pointer none, .int .i64 1]) ∧ w' = w := by
  by_cases h1 : n < 0
  · have d : decide (n < 0) = true := by simp [h1]
    go_enter Try.func5, Try.ntmps5
    go_wp2_with fail
    go_ret2
    exact ⟨rfl, rfl⟩
  · have d : decide (n < 0) = false := by simp; omega
    have d2 : decide (4 < n) = true := by simp; omega
    go_enter Try.func5, Try.ntmps5
    go_wp2_with fail
    go_ret2
    exact ⟨rfl, rfl⟩
theorem new_any (n : Nat) (Y : Nat → Prop) (h : Nat → Option (List Int)) (w : World) (hn : n ≤ 4) (hc : Cx Y w (hx h)) :
    Calls Try.prog 5 #[.int .i64 (n : Int)] w fun r w' => ∃ S, r = .returned (.tuple #[.pointer (some ⟨S, 0, none⟩), .int .i64 0]) ∧ SX Y S w' ⟨n, 0, 0, [], [], none⟩ h (.slice none 0 0) (.slice none 0 0) ∧ Below w.heap.size w w' := by
  have d : decide ((n : Int) < 0) = false := by simp
  have d2 : decide (4 < (n : Int)) = false := by simp; omega
  have HC := hide hc
  clear hc
  go_enter Try.func5, Try.ntmps5
  go_wp2_with fail
  go_ret2
  have b1 := below_alloc w (.cells #[.int .i64 (n : Int), .int .i64 0, .int .i64 0, .slice none 0 0, .slice none 0 0, .pointer none] 93)
  have nn : ∀ k, (Value.slice none 0 0).ownBlock ≠ some k := fun k e => nomatch e
  refine ⟨_, rfl, ⟨heap_new _ _, World.ownsRow_nil _ _ _ _, World.ownsRow_nil _ _ _ _, fun k e => absurd e (nn k), fun q => ?_, fun k e => absurd e (nn k), fun k e => absurd e (nn k), nn _, nn _, ?_, fun b hb => ?_⟩, b1⟩
  · exact Nat.lt_irrefl _ (HC.out.base _ q)
  · refine cx_ext HC.out (fun k hk _ => b1.block k hk) ?_ ?_
    · rintro k (q | q | q | q)
      · exact .inl q
      · exact .inr (by omega)
      · cases q
      · cases q
    · rintro k (q | q | q | q)
      · exact Nat.lt_of_lt_of_le (HC.out.base k q) b1.size
      · rw [q, World.size_alloc]; omega
      · cases q
      · cases q
  · simp at hb
end Sl
end Go.Proofs.Ytekdcfdjohlfcaa
