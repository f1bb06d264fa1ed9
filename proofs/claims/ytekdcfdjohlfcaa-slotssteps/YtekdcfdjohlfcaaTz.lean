/- Layer 15's law SlotsSteps: what a round keeps, over this seat's program. -/
import Derived.Test.YtekdcfdjohlfcaaTy
namespace Go.Proofs.Ytekdcfdjohlfcaa
open Go.ChangeShapes Go.WideShapes Go.ChangeAt Go.RowKit
namespace Sl
open Ck
open Ba (KF Bd Nw)

theorem rnew_bad {w : World} {z : Int} (h : z < 0 ∨ 4 < z) :
    Calls Try.prog 6 #[.int .i64 z] w fun r w' => r = .returned (.tuple #[.pointer none, .int .i64 1]) ∧ w' = w := by
  have key : ∀ (Gl : Prop), (decide (z < 0) = true → Gl) → (decide (z < 0) = false → decide (4 < z) = true → Gl) → Gl := by
    intro Gl g1 g2
    by_cases q : z < 0
    · exact g1 (decide_eq_true q)
    · exact g2 (decide_eq_false q) (decide_eq_true (by omega))
  refine key _ (fun d1 => ?_) (fun d1 d2 => ?_)
  all_goals
    clear key h
    go_enter Try.func6, Try.ntmps6
    go_wp2_with fail
    exact bodyPost_ret (results_tmp2 Try.results6 _ _ _) rfl ⟨rfl, rfl⟩
section
variable {Y0 Y1 : Nat → Prop} {S G : Nat} {w w' : World} {st : Sst} {h : Nat → Option (List Int)} {rs : Rst}
theorem JH.more (j : JH Y0 S G w st h rs) (b : Below w.heap.size w w') (hz : ∀ x, Y1 x → Y0 x ∨ w.heap.size ≤ x) (hd : ∀ x, Y1 x → x < w'.heap.size) : JH Y1 S G w' st h rs := by
  obtain ⟨vs, vr, s, r, n⟩ := j
  refine ⟨vs, vr, s.more b ?_ ?_, r.below b, fun k q y => ?_⟩
  · rintro k (q | q)
    · rcases hz k q with q | q
      · exact .inl (.inl q)
      · exact .inr q
    · exact .inl (.inr q)
  · rintro k (q | q)
    · exact hd k q
    · exact Nat.lt_of_lt_of_le (r.rlt k q) b.size
  · rcases hz k y with y | y
    · exact n k q y
    · have := r.rlt k q; omega
theorem JH.new (j : JH Y0 S G w st h rs) (o : Obj) : JH (fun x => Y0 x ∨ x = w.heap.size) S G (w.alloc o) st h rs :=
  j.more (below_alloc _ _) (fun x q => q.elim .inl fun e => .inr (by omega)) (fun x q => by rw [World.size_alloc]; rcases q with q | q; exact Nat.lt_succ_of_lt (j.ylt x q); omega)
theorem JH.less (j : JH Y0 S G w st h rs) (hz : ∀ x, Y1 x → Y0 x) : JH Y1 S G w st h rs := j.more (Below.refl _ _) (fun x q => .inl (hz x q)) fun x q => j.ylt x (hz x q)
end
/-- what a round keeps -/
def IV (w : World) (S G : Nat) (wr : World) (k : Nat) : Prop := ∃ st h rs, JH (Lw w) S G wr st h rs ∧ CR st h rs ∧ rs.sent.length ≤ k ∧ rs.sz ≤ 4 ∧ Kp (Lw w) w wr
/-- the same, with blocks of the round's own -/
def MV (w : World) (Y1 : Nat → Prop) (S G : Nat) (wr : World) (k : Nat) : Prop := (∀ x, Lw w x → Y1 x) ∧ ∃ st h rs, JH Y1 S G wr st h rs ∧ CR st h rs ∧ rs.sent.length ≤ k ∧ rs.sz ≤ 4 ∧ Kp (Lw w) w wr
theorem MV.iv {w : World} {Y1 : Nat → Prop} {S G : Nat} {wr : World} {k : Nat} (m : MV w Y1 S G wr k) : IV w S G wr k := by
  obtain ⟨i, st, h, rs, j, c, hl, hz, kp⟩ := m
  exact ⟨st, h, rs, j.less i, c, hl, hz, kp⟩
theorem MV.below {w : World} {Y1 : Nat → Prop} {S G : Nat} {wr w' : World} {k : Nat} (m : MV w Y1 S G wr k) (b : Below wr.heap.size wr w') : MV w Y1 S G w' k := by
  obtain ⟨i, st, h, rs, j, c, hl, hz, kp⟩ := m
  exact ⟨i, st, h, rs, j.below b, c, hl, hz, kp_b kp b fun x q => j.ylt x (i x q)⟩
theorem looks_mv {w : World} {Y1 : Nat → Prop} {S G : Nat} {wr : World} {k : Nat} (m : MV w Y1 S G wr k) (hk : k ≤ 1000) :
    Calls Try.prog 19 #[.pointer (some ⟨S, 0, none⟩), .pointer (some ⟨G, 0, none⟩)] wr fun r w' => r = .returned (.bool true) ∧ IV w S G w' k := by
  obtain ⟨i, st, h, rs, j, c, hl, hz, kp⟩ := m
  refine (looks_any j c (by omega) hz).mono ?_
  rintro r w' ⟨rfl, h', e, j', k'⟩
  exact ⟨rfl, st, h', rs, j'.less i, c.ext e, hl, hz, kp.trans (Kp.mono k' i)⟩
theorem ofJ {Y0 : Nat → Prop} {S G : Nat} {w : World} {st : Sst} {h : Nat → Option (List Int)} {rs : Rst} (j : JH Y0 S G w st h rs) (oa : Option Addr) (l : List Int) (n c : Nat) (hn : l.length = n) (hA : Ck.At w oa l) (hlc : n ≤ c) (hc : c ≤ maxLen) (hl : n ≤ 256) (hv : Valid l) :
    Calls Try.prog 8 #[.slice oa n c] w fun r w' => ∃ A h', r = .returned (.tuple #[.pointer (some ⟨A, 0, none⟩), .int .i64 0]) ∧ Ext h h' ∧ h' A = some (trm l) ∧ JH Y0 S G w' st h' rs ∧ Below w.heap.size w w' := by
  obtain ⟨vs, vr, s, r, q⟩ := j
  refine (of_sw s oa l n c hn hA hlc hc hl hv).mono ?_
  rintro r' w' ⟨A, h', rfl, e, hA', s', b⟩
  exact ⟨A, h', rfl, e, hA', ⟨vs, vr, s', r.below b, q⟩, b⟩
theorem good_trm (l : List Int) : Good (trm l) (nth l) := fun k _ => nth_trm l k
theorem se_len (rs : Rst) (F : Nat → Int) : (seS rs F).sent.length ≤ rs.sent.length + 1 ∧ (seS rs F).sz = rs.sz := by
  unfold seS
  split
  · exact ⟨Nat.le_succ _, rfl⟩
  · exact ⟨by simp, rfl⟩
theorem re_len (rs : Rst) (F : Nat → Int) : (reS rs F).sent.length ≤ rs.sent.length + 1 ∧ (reS rs F).sz = rs.sz := by
  unfold reS
  split
  · exact ⟨Nat.le_succ _, rfl⟩
  · exact ⟨Nat.le_succ _, rfl⟩
theorem cl_len (rs : Rst) (F : Nat → Int) : (clS rs F).sent.length ≤ rs.sent.length + 1 ∧ (clS rs F).sz = rs.sz := by
  unfold clS
  split
  · exact ⟨Nat.le_succ _, rfl⟩
  · exact ⟨Nat.le_succ _, rfl⟩
theorem dr_len (rs : Rst) (t : Int) : (drS rs t).sent.length ≤ rs.sent.length + 1 ∧ (drS rs t).sz = rs.sz := by
  refine ⟨?_, rfl⟩
  show (rs.sent.map (zf t)).length ≤ _
  rw [List.length_map]
  exact Nat.le_succ _
theorem jh_zero {w w1 : World} {S m : Nat} {vg vb : Value} (s : SX (Lw w) S w1 ⟨m, 0, 0, [], [], none⟩ h0 vg vb) (b : Below w.heap.size w w1) {w2 : World} (r : RX w2 w1.heap.size (rs0 m) nsl nsl) (b2 : Below w1.heap.size w1 w2) : JH (Lw w) S w1.heap.size w2 ⟨m, 0, 0, [], [], none⟩ h0 (rs0 m) := by
  have hs := b.size
  have hr := r.lt
  refine ⟨nsl, nsl, ⟨vg, vb, s.more b2 ?_ ?_⟩, r, ?_⟩
  · rintro k (q | q | q | q)
    · exact .inl q
    · exact .inr (by omega)
    · simp [nsl, Value.ownBlock] at q
    · simp [nsl, Value.ownBlock] at q
  · rintro k (q | q | q | q)
    · have : k < w.heap.size := q
      have := b2.size
      omega
    · omega
    · simp [nsl, Value.ownBlock] at q
    · simp [nsl, Value.ownBlock] at q
  · rintro k (q | q | q) (y : k < w.heap.size)
    · omega
    · simp [nsl, Value.ownBlock] at q
    · simp [nsl, Value.ownBlock] at q
end Sl
end Go.Proofs.Ytekdcfdjohlfcaa
