/- The law ClockSteps: one step of it on the clocks and on the references, over this seat's program. -/
import Derived.Test.YtkgddkpolckacaaSa
namespace Go.Proofs.Ytkgddkpolckacaa
open Go.ChangeShapes Go.WideShapes Go.ChangeAt Go.RowKit
namespace Ck

def XT (w0 : World) (S R sb : Nat) : Nat → Prop := fun k => k < w0.heap.size ∨ k = S ∨ k = R ∨ k = sb
/-- the three clocks, the three references, and the step -/
structure HT (w0 : World) (S R sb : Nat) (sv : Array Value) (P : Nat → Nat) (L : Nat → List Int) (F : Nat → Nat → Int) (wr : World) : Prop where
  cx : Cx (XT w0 S R sb) wr (hh P L)
  sl : wr.heap[S]? = some (.cells (ptrs P) 23 (0, 0))
  ra : ∀ i, i < 3 → RA wr R (i * 256) (F i)
  bl : Below w0.heap.size w0 wr
  hS : w0.heap.size ≤ S
  hR : w0.heap.size ≤ R
  ne : S ≠ R
  sk : wr.heap[sb]? = some (.cells sv 32 (0, 0))
  hb : w0.heap.size ≤ sb
  nS : sb ≠ S
  nR : sb ≠ R

theorem Cx.more {X Y : Nat → Prop} {w w' : World} {h : Nat → Option (Nat × List Int)} (hs : Cx X w h) (hb : Below w.heap.size w w') (h1 : ∀ k, Y k → X k ∨ w.heap.size ≤ k) (h2 : ∀ k, Y k → k < w'.heap.size) : Cx Y w' h := by
  obtain ⟨f, st, hf⟩ := hs
  refine ⟨f, ⟨fun i c hc => ?_, fun i c hc => ?_, st.apart, h2⟩, hf⟩
  · obtain ⟨cap, r⟩ := st.rep i c hc; exact ⟨cap, r.below hb⟩
  · obtain ⟨cap, r⟩ := st.rep i c hc
    have ok := st.ok i c hc
    refine ⟨ok.1, ok.2.1, fun q => ?_, fun x hx q => ?_⟩
    · rcases h1 _ q with q | q
      · exact ok.2.2.1 q
      · have := r.lt; omega
    · rcases h1 _ q with q | q
      · exact ok.2.2.2 x hx q
      · have := r.glt hx; omega

theorem HT.of {w0 wr : World} {S R : Nat} {P : Nat → Nat} {L : Nat → List Int} {F : Nat → Nat → Int} (h : HS w0 S R P L F wr) (sv : Array Value) : HT w0 S R wr.heap.size sv P L F (wr.alloc (.cells sv 32)) := by
  have h' := h.below (below_alloc wr (.cells sv 32))
  have hSl : S < wr.heap.size := (Array.getElem?_eq_some_iff.1 h.sl).1
  have hRl : R < wr.heap.size := by
    have := World.block_lt_of_cell? wr _ (h.ra 0 (by decide) 0 (by decide)).1
    exact this
  have hz := h.bl.size
  refine ⟨h.cx.more (below_alloc _ _) (fun k hk => ?_) (fun k hk => ?_), h'.sl, h'.ra, h'.bl, h.hS, h.hR, h.ne, heap_new _ _, hz, by omega, by omega⟩
  · rcases hk with q | q | q | q
    · exact .inl (.inl q)
    · exact .inl (.inr (.inl q))
    · exact .inl (.inr (.inr q))
    · right; omega
  · rw [World.size_alloc]
    rcases hk with q | q | q | q <;> omega
theorem HT.hs {w0 wr : World} {S R sb : Nat} {sv : Array Value} {P : Nat → Nat} {L : Nat → List Int} {F : Nat → Nat → Int} (h : HT w0 S R sb sv P L F wr) : HS w0 S R P L F wr :=
  ⟨h.cx.more (Below.refl _ _) (fun k hk => .inl (by rcases hk with q | q | q; exact .inl q; exact .inr (.inl q); exact .inr (.inr (.inl q)))) (fun k hk => h.cx.base k (by rcases hk with q | q | q; exact .inl q; exact .inr (.inl q); exact .inr (.inr (.inl q)))), h.sl, h.ra, h.bl, h.hS, h.hR, h.ne⟩
theorem HT.below {w0 wr w' : World} {S R sb : Nat} {sv : Array Value} {P : Nat → Nat} {L : Nat → List Int} {F : Nat → Nat → Int} (h : HT w0 S R sb sv P L F wr) (hb : Below wr.heap.size wr w') : HT w0 S R sb sv P L F w' := by
  have hSl : S < wr.heap.size := (Array.getElem?_eq_some_iff.1 h.sl).1
  have hsl : sb < wr.heap.size := (Array.getElem?_eq_some_iff.1 h.sk).1
  exact ⟨h.cx.below hb, (hb.block S hSl).trans h.sl, fun i hi => (h.ra i hi).below hb, h.bl.trans (hb.mono h.bl.size), h.hS, h.hR, h.ne, (hb.block sb hsl).trans h.sk, h.hb, h.nS, h.nR⟩
theorem HT.clock {w0 wr w' : World} {S R sb : Nat} {sv : Array Value} {P : Nat → Nat} {L : Nat → List Int} {F : Nat → Nat → Int} (h : HT w0 S R sb sv P L F wr) {L' : Nat → List Int} {P' : Nat → Nat} (hc : Cx (XT w0 S R sb) w' (hh P' L')) (hk : Kp (XT w0 S R sb) wr w') (hp : ptrs P' = ptrs P) : HT w0 S R sb sv P' L' F w' := by
  refine ⟨hc, (hk.block S (.inr (.inl rfl))).trans (by rw [hp]; exact h.sl), fun i hi k hk2 => ?_, ⟨hk.os.trans h.bl.os, hk.tape.trans h.bl.tape, hk.output.trans h.bl.output, Nat.le_trans h.bl.size hk.size, fun k hk2 => (hk.block k (.inl hk2)).trans (h.bl.block k hk2)⟩, h.hS, h.hR, h.ne, (hk.block sb (.inr (.inr (.inr rfl)))).trans h.sk, h.hb, h.nS, h.nR⟩
  obtain ⟨h1, h2⟩ := h.ra i hi k hk2
  have e := hk.block R (.inr (.inr (.inl rfl)))
  exact ⟨(World.cell?_of_block (w := wr) e).trans h1, (World.frozen?_of_block (w := wr) e).trans h2⟩
theorem HT.ref {w0 wr W w' : World} {S R sb : Nat} {sv : Array Value} {P : Nat → Nat} {L : Nat → List Int} {F : Nat → Nat → Int} (h : HT w0 S R sb sv P L F wr) (hb : Below wr.heap.size wr W) {i : Nat} {G : Nat → Int} (hr : RJ W R (i * 256) G w') : HT w0 S R sb sv P L (up F i G) w' := by
  have h' := h.below hb
  obtain ⟨ra, h1, h2, h3, h4, h5, h6, h7⟩ := hr
  refine ⟨h'.cx.other (Nat.le_of_eq h4.symm) (fun k _ hx => h5 k (fun e => hx (.inr (.inr (.inl e))))), (h5 S h.ne).trans h'.sl, fun j hj => ?_, ⟨h1.trans h'.bl.os, h2.trans h'.bl.tape, h3.trans h'.bl.output, Nat.le_trans h'.bl.size (Nat.le_of_eq h4.symm), fun k hk => (h5 k (fun e => by have := h.hR; omega)).trans (h'.bl.block k hk)⟩, h.hS, h.hR, h.ne, (h5 sb h.nR).trans h'.sk, h.hb, h.nS, h.nR⟩
  by_cases e : j = i
  · subst e; rw [up_same]; exact ra
  · rw [up_other _ _ _ _ e]
    intro k hk
    obtain ⟨c1, c2⟩ := h'.ra j hj k hk
    exact ⟨(h6 _ (by omega)).trans c1, (h7 _).trans c2⟩

/-- what both say of each tid is the same -/
def Same (L : Nat → List Int) (F : Nat → Nat → Int) : Prop := ∀ i, i < 3 → ∀ k, k < 256 → nth (L i) k = F i k
theorem Same.up {L : Nat → List Int} {F : Nat → Nat → Int} (h : Same L F) (i : Nat) (l : List Int) (G : Nat → Int) (hl : ∀ k, k < 256 → nth l k = G k) : Same (up L i l) (up F i G) := by
  intro j hj k hk
  by_cases e : j = i
  · subst e; rw [up_same, up_same]; exact hl k hk
  · rw [up_other _ _ _ _ e, up_other _ _ _ _ e]; exact h j hj k hk

section pairs
variable {w0 : World} {S R sb : Nat} {sv : Array Value} {P : Nat → Nat} {L : Nat → List Int} {F : Nat → Nat → Int}

/-- a call on the clock i, then one on the reference i: the same answer, and both say the same again -/
def Both (w0 : World) (S R sb : Nat) (sv : Array Value) (P : Nat → Nat) (L : Nat → List Int) (F : Nat → Nat → Int) (e : Value) (A B : Nat) (xs ys : Array Value) : Prop :=
  ∀ wv, HT w0 S R sb sv P L F wv → Calls Try.prog A xs wv fun r w1 => r = .returned e ∧ ∃ L', HT w0 S R sb sv P L' F w1 ∧
    ∀ wu, HT w0 S R sb sv P L' F wu → Calls Try.prog B ys wu fun r w2 => r = .returned e ∧ ∃ F', HT w0 S R sb sv P L' F' w2 ∧ Same L' F'

theorem both_arg {L : Nat → List Int} {F : Nat → Nat → Int} (hs : Same L F) {e : Value} {A B : Nat} {xs ys : Array Value} (hA : ∀ w, Calls Try.prog A xs w fun r w' => r = .returned e ∧ w' = w) (hB : ∀ w, HT w0 S R sb sv P L F w → Calls Try.prog B ys w fun r w' => r = .returned e ∧ w' = w) : Both w0 S R sb sv P L F e A B xs ys := by
  intro wv hv
  refine (hA wv).mono ?_
  rintro r w1 ⟨rfl, rfl⟩
  refine ⟨rfl, L, hv, fun wu hu => ?_⟩
  refine (hB wu hu).mono ?_
  rintro r w2 ⟨rfl, rfl⟩
  exact ⟨rfl, F, hu, hs⟩

theorem tick_both (hs : Same L F) (i : Nat) (hi : i < 3) (t n : Int) (hv0 : ∀ i, i < 3 → Valid (L i)) :
    ∃ e : Int, Both w0 S R sb sv P L F (.int .i64 e) 12 13 #[.pointer (some ⟨P i, 0, none⟩), .int .i64 t, .int .i64 n] #[.pointer (some ⟨R, i * 256, none⟩), .int .i64 t, .int .i64 n] := by
  by_cases ha : okT t = false ∨ okM n = false
  · exact ⟨1, both_arg hs (fun w => tick_arg _ t n w ha) (fun w _ => rtick_no _ t n w ha)⟩
  have h1 : okT t = true := by
    cases q : okT t
    · exact absurd (.inl q) ha
    · rfl
  have h2 : okM n = true := by
    cases q : okM n
    · exact absurd (.inr q) ha
    · rfl
  obtain ⟨t0, t1⟩ := (okT_iff t).1 h1
  obtain ⟨k, rfl⟩ := Int.eq_ofNat_of_zero_le t0
  have hk : k < 256 := by omega
  by_cases hf : n ≤ nth (L i) k
  · refine ⟨5, fun wv hv => ?_⟩
    refine (tick_full (P i) (L i) k n wv (hv.cx.get (hh_at P L i hi)).1 hk h2 hf).mono ?_
    rintro r w1 ⟨rfl, rfl⟩
    refine ⟨rfl, L, hv, fun wu hu => ?_⟩
    refine (rtick_full R (i * 256) (F i) k n wu (hu.ra i hi) hk h2 (by rw [← hs i hi k hk]; exact hf)).mono ?_
    rintro r w2 ⟨rfl, rfl⟩
    exact ⟨rfl, F, hu, hs⟩
  · refine ⟨0, fun wv hv => ?_⟩
    refine (cx_tick hv.cx (hh_at P L i hi) k n hk h2 (by omega)).mono ?_
    rintro r w1 ⟨rfl, l', _, _, hn, hc, hkp⟩
    rw [hh_upd P L i (P i) l' hi, up_id] at hc
    refine ⟨rfl, up L i l', hv.clock hc hkp rfl, fun wu hu => ?_⟩
    refine (rtick_ok R (i * 256) (F i) k n wu (hu.ra i hi) hk h2 (by rw [← hs i hi k hk]; exact nth_nonneg (hv0 i hi) k) (by rw [← hs i hi k hk]; omega)).mono ?_
    rintro r w2 ⟨rfl, rfl⟩
    have hr : RJ wu R (i * 256) (fun j => if j = k then F i k + 1 else F i j) ((wu.setCell ⟨R, i * 256 + k, none⟩ (.int .i64 (F i k + 1))).drew) := (RJ.refl (hu.ra i hi)).set hk _ (fun _ => rfl)
    refine ⟨rfl, _, hu.ref (Below.refl _ _) hr, hs.up i l' _ (fun j hj => ?_)⟩
    rw [hn j, hs i hi k hk, hs i hi j hj]

theorem set_both (hs : Same L F) (i : Nat) (hi : i < 3) (t n : Int) :
    ∃ e : Int, Both w0 S R sb sv P L F (.int .i64 e) 14 15 #[.pointer (some ⟨P i, 0, none⟩), .int .i64 t, .int .i64 n] #[.pointer (some ⟨R, i * 256, none⟩), .int .i64 t, .int .i64 n] := by
  by_cases ha : okT t = false ∨ okN n = false
  · exact ⟨1, both_arg hs (fun w => set_arg _ t n w ha) (fun w _ => rset_no _ t n w ha)⟩
  have h1 : okT t = true := by
    cases q : okT t
    · exact absurd (.inl q) ha
    · rfl
  have h2 : okN n = true := by
    cases q : okN n
    · exact absurd (.inr q) ha
    · rfl
  obtain ⟨t0, t1⟩ := (okT_iff t).1 h1
  obtain ⟨k, rfl⟩ := Int.eq_ofNat_of_zero_le t0
  have hk : k < 256 := by omega
  refine ⟨0, fun wv hv => ?_⟩
  refine (cx_set hv.cx (hh_at P L i hi) k n hk h2).mono ?_
  rintro r w1 ⟨rfl, l', _, _, hn, hc, hkp⟩
  rw [hh_upd P L i (P i) l' hi, up_id] at hc
  refine ⟨rfl, up L i l', hv.clock hc hkp rfl, fun wu hu => ?_⟩
  refine (rset_ok R (i * 256) (F i) k n wu (hu.ra i hi) hk h2).mono ?_
  rintro r w2 ⟨rfl, rfl⟩
  have hr : RJ wu R (i * 256) (fun j => if j = k then n else F i j) (wu.setCell ⟨R, i * 256 + k, none⟩ (.int .i64 n)) := (RJ.refl (hu.ra i hi)).set hk _ (fun _ => rfl)
  refine ⟨rfl, _, hu.ref (Below.refl _ _) hr, hs.up i l' _ (fun j hj => ?_)⟩
  rw [hn j, hs i hi j hj]

theorem same_within (hs : Same L F) (hv0 : ∀ i, i < 3 → Valid (L i)) (hl : ∀ i, i < 3 → (L i).length ≤ 256) (i j : Nat) (hi : i < 3) (hj : j < 3) : rwithin (F i) (F j) = within (L i) (L j) := by
  rw [Bool.eq_iff_iff, rwithin_iff, Ck.within_iff (hv0 j hj)]
  constructor
  · intro h k
    by_cases hk : k < 256
    · rw [hs i hi k hk, hs j hj k hk]; exact h k hk
    · rw [nth_out _ _ (by have := hl i hi; omega), nth_out _ _ (by have := hl j hj; omega)]; exact Int.le_refl _
  · intro h k hk
    rw [← hs i hi k hk, ← hs j hj k hk]; exact h k

theorem join_both (hs : Same L F) (i j : Nat) (hi : i < 3) (hj : j < 3) (hv0 : ∀ i, i < 3 → Valid (L i)) (hl : ∀ i, i < 3 → (L i).length ≤ 256) :
    ∃ e : Bool, Both w0 S R sb sv P L F (.bool e) 16 17 #[.pointer (some ⟨P i, 0, none⟩), .pointer (some ⟨P j, 0, none⟩)] #[.pointer (some ⟨R, i * 256, none⟩), .agg (ra (F j))] := by
  refine ⟨!within (L j) (L i), fun wv hv => ?_⟩
  refine (cx_join hv.cx (hh_at P L i hi) (hh_at P L j hj)).mono ?_
  rintro r w1 ⟨rfl, hc, hkp⟩
  rw [hh_upd P L i (P i) _ hi, up_id] at hc
  refine ⟨rfl, up L i (jn (L i) (L j)), hv.clock hc hkp rfl, fun wu hu => ?_⟩
  rw [← same_within hs hv0 hl j i hj hi]
  refine (rjoin_any R (i * 256) (F i) (F j) wu (hu.ra i hi)).mono ?_
  rintro r w2 ⟨rfl, hr⟩
  refine ⟨rfl, _, hu.ref (below_alloc _ _) hr, hs.up i _ _ (fun k hk => ?_)⟩
  rw [nth_jn, hs i hi k hk, hs j hj k hk]
  simp [jf, hk]
end pairs
end Ck
end Go.Proofs.Ytkgddkpolckacaa
