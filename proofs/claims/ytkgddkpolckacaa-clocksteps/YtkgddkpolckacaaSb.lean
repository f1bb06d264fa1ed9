/- The law ClockSteps: its loop, over this seat's program. -/
import Derived.Test.YtkgddkpolckacaaSc
import Derived.Deep.DeepCutAuto
import Derived.Deep.CutBlock
import Derived.Deep.LoopGhost
import Derived.Deep.RegionHeld2
namespace Go.Proofs.Ytkgddkpolckacaa
open Go.ChangeShapes Go.WideShapes Go.ChangeAt Go.RowKit
namespace Ck

/-- clocks and references, and that they say the same -/
def Inv (w0 : World) (wr : World) : Prop := ∃ P L F, HS w0 (w0.heap.size + 1 + 1 + 1) (w0.heap.size + 1 + 1 + 1 + 1) P L F wr ∧ Same L F
theorem Inv.below {w0 wr w' : World} (h : Inv w0 wr) (hb : Below wr.heap.size wr w') : Inv w0 w' := by
  obtain ⟨P, L, F, hs, he⟩ := h
  exact ⟨P, L, F, hs.below hb, he⟩
theorem Inv.bl {w0 wr : World} (h : Inv w0 wr) : Below w0.heap.size w0 wr := by
  obtain ⟨P, L, F, hs, he⟩ := h
  exact hs.bl

theorem ht_cells {w0 wr : World} {S R sb : Nat} {q t n : Int} {i j : Nat} {P : Nat → Nat} {L : Nat → List Int} {F : Nat → Nat → Int} (h : HT w0 S R sb #[.int .i64 q, .int .i64 (i : Int), .int .i64 (j : Int), .int .i64 t, .int .i64 n] P L F wr) (hi : i < 3) (hj : j < 3) :
    wr.cell? ⟨sb, 1, none⟩ = some (.int .i64 (i : Int)) ∧ wr.cell? ⟨sb, 2, none⟩ = some (.int .i64 (j : Int)) ∧ wr.cell? ⟨sb, 3, none⟩ = some (.int .i64 t) ∧ wr.cell? ⟨sb, 4, none⟩ = some (.int .i64 n) ∧ wr.cell? ⟨S, i, none⟩ = some (.pointer (some ⟨P i, 0, none⟩)) ∧ wr.cell? ⟨S, j, none⟩ = some (.pointer (some ⟨P j, 0, none⟩)) :=
  ⟨cell_of h.sk 1, cell_of h.sk 2, cell_of h.sk 3, cell_of h.sk 4, (cell_of h.sl i).trans (ptrs_at P i hi), (cell_of h.sl j).trans (ptrs_at P j hj)⟩
/-- 256 cells are there from o on; what they hold -/
def Full (v : World) (R o : Nat) : Prop := ∀ k, k < 256 → (v.cell? ⟨R, o + k, none⟩).isSome = true
def rd (v : World) (R o : Nat) : Array Value := ((List.range 256).map fun k => (v.cell? ⟨R, o + k, none⟩).getD undef).toArray
/-- a load of a whole reference, closed to the walk's own rules -/
def LD (x : Value) : Sem Value := Instr.loadAt 29 x
theorem ld_is (x : Value) : Instr.loadAt 29 x = LD x := rfl
theorem run_ld (v : World) (R o : Nat) (h : Full v R o) : (LD (.pointer (some ⟨R, o, none⟩))).run Try.prog v = .ok (.agg (rd v R o)) v := by
  have hr : v.rangeAt R o ((List.range 256).map fun k => (v.cell? ⟨R, o + k, none⟩).getD undef) := by
    intro j u hu
    have hj : j < 256 := by
      have := (List.getElem?_eq_some_iff.1 hu).1
      simpa using this
    have hs := h j hj
    obtain ⟨x, hx⟩ := Option.isSome_iff_exists.1 hs
    simp [hj, hx] at hu
    rw [hx, hu]
  exact run_loadAt_mid (P := Try.prog) v R o 29 _ _ hr Try.underlying29 rfl (by rw [size_ref]; simp)
theorem RA.full {w : World} {b off : Nat} {F : Nat → Int} (h : RA w b off F) : Full w b off := fun k hk => by rw [(h k hk).1]; rfl
theorem RA.rd {w : World} {b off : Nat} {F : Nat → Int} (h : RA w b off F) : rd w b off = ra F := by
  unfold Ck.rd ra
  congr 1
  apply List.map_congr_left
  intro k hk
  rw [(h k (by simpa using hk)).1]
  rfl
theorem ht_rng {w0 wr : World} {S R sb : Nat} {q t n : Int} {i j m : Nat} {P : Nat → Nat} {L : Nat → List Int} {F : Nat → Nat → Int} (h : HT w0 S R sb #[.int .i64 q, .int .i64 (i : Int), .int .i64 (j : Int), .int .i64 t, .int .i64 n] P L F wr) (hm : m < 3) (hj : j < 3) :
    wr.cell? ⟨sb, 2, none⟩ = some (.int .i64 (j : Int)) ∧ wr.cell? ⟨sb, 3, none⟩ = some (.int .i64 t) ∧ wr.cell? ⟨S, m, none⟩ = some (.pointer (some ⟨P m, 0, none⟩)) ∧ wr.cell? ⟨S, j, none⟩ = some (.pointer (some ⟨P j, 0, none⟩)) ∧ Full wr R (m * 256) ∧ rd wr R (m * 256) = ra (F m) ∧ Full wr R (j * 256) ∧ rd wr R (j * 256) = ra (F j) :=
  ⟨cell_of h.sk 2, cell_of h.sk 3, (cell_of h.sl m).trans (ptrs_at P m hm), (cell_of h.sl j).trans (ptrs_at P j hj), (h.ra m hm).full, (h.ra m hm).rd, (h.ra j hj).full, (h.ra j hj).rd⟩
theorem same_get {L : Nat → List Int} {F : Nat → Nat → Int} (hs : Same L F) (hl : ∀ i, i < 3 → (L i).length ≤ 256) (m : Nat) (hm : m < 3) (t : Int) : rg (F m) t = gt (L m) t := by
  by_cases h0 : t < 0
  · rw [gt_neg _ _ h0, rg_out _ _ (.inl h0)]
  · obtain ⟨k, rfl⟩ := Int.eq_ofNat_of_zero_le (by omega : 0 ≤ t)
    rw [gt_nat]
    by_cases h1 : k < 256
    · rw [rg_nat _ k h1, hs m hm k h1]
    · rw [rg_out _ _ (.inr (by omega)), nth_out _ _ (by have := hl m hm; omega)]
theorem list_at (b : Nat) (l : List Int) (w : World) (h : CK w b l) :
    Calls Try.prog 20 #[.pointer (some ⟨b, 0, none⟩)] w fun r w' => ∃ g, r = .returned (.slice (some ⟨g, 0, none⟩) l.length l.length) ∧ At w' (some ⟨g, 0, none⟩) l ∧ Below w.heap.size w w' := by
  refine (list_any b l w h).mono ?_
  rintro r w' ⟨rfl, rfl⟩
  exact ⟨_, rfl, At.new _ _ _, below_alloc _ _⟩
theorem rlist_is {b off : Nat} (l : List Int) (F : Nat → Int) (w : World) (h : RA w b off F) (hs : ∀ k, k < 256 → nth l k = F k) (hv : Valid l) (hc : Canon l) (hl : l.length ≤ 256) :
    Calls Try.prog 21 #[.pointer (some ⟨b, off, none⟩)] w fun r w' => ∃ oa c, r = .returned (.slice oa l.length c) ∧ At w' oa l ∧ Below w.heap.size w w' := by
  refine (rlist_any b off F w h (fun k hk => by rw [← hs k hk]; exact nth_nonneg hv k)).mono ?_
  rintro r w' ⟨L, oa, c, rfl, hat, hlen, hcan, hnth, hb⟩
  have e : L = l := canon_eq hcan hc fun k => by
    by_cases q : k < 256
    · rw [hnth k q, hs k q]
    · rw [nth_out _ _ (by omega), nth_out _ _ (by omega)]
  subst e
  exact ⟨oa, c, rfl, hat, hb⟩
theorem get_is (b : Nat) (l : List Int) (t n : Int) (hn : gt l t = n) (w : World) (h : CK w b l) :
    Calls Try.prog 22 #[.pointer (some ⟨b, 0, none⟩), .int .i64 t] w fun r w' => r = .returned (.int .i64 n) ∧ w' = w := by
  subst hn
  exact get_any b l t w h
theorem rget_is (b off : Nat) (G : Nat → Int) (t n : Int) (hn : rg G t = n) (w : World) (h : RA w b off G) :
    Calls Try.prog 23 #[.pointer (some ⟨b, off, none⟩), .int .i64 t] w fun r w' => r = .returned (.int .i64 n) ∧ w' = w := by
  subst hn
  exact rget_any b off G t w h
theorem rwithin_is (F G : Nat → Int) (x : Bool) (hx : rwithin F G = x) (w : World) :
    Calls Try.prog 25 #[.agg (ra F), .agg (ra G)] w fun r w' => r = .returned (.bool x) ∧ Below w.heap.size w w' := by
  subst hx
  exact rwithin_any F G w
theorem bdw (w : World) : Below w.heap.size w w.drew := ⟨rfl, rfl, rfl, Nat.le_refl _, fun _ _ => rfl⟩
/-- a store of a whole reference, closed to the walk's own rules -/
def SD (x y : Value) : Sem Unit := Instr.storeAt 29 x y
theorem sd_is (x y : Value) : Instr.storeAt 29 x y = SD x y := rfl
theorem run_sd (v : World) (R o : Nat) (G : Nat → Int) (h : v.there R o 256) : (SD (.pointer (some ⟨R, o, none⟩)) (.agg (ra G))).run Try.prog v = .ok () (v.setCells R o (ra G).toList) :=
  run_storeAt_mid (P := Try.prog) v R o 29 (ra G) (by rw [ra_size]; exact h) (by rw [size_ref, ra_size]) (ra_one G)
theorem RA.there {w : World} {b off : Nat} {F : Nat → Int} (h : RA w b off F) : w.there b off 256 := fun k hk => ⟨by rw [(h k hk).1]; rfl, (h k hk).2⟩
theorem tape_setCells (b : Nat) : ∀ (vs : List Value) (o : Nat) (w : World), (w.setCells b o vs).tape = w.tape ∧ (w.setCells b o vs).heap.size = w.heap.size
  | [], _, _ => ⟨rfl, rfl⟩
  | v :: r, o, w => by
    have := tape_setCells b r (o + 1) (w.setCell ⟨b, o, none⟩ v)
    refine ⟨this.1.trans rfl, this.2.trans ?_⟩
    simp [World.setCell]
theorem heap_setCells (b : Nat) : ∀ (vs : List Value) (o : Nat) (w : World) (k : Nat), k ≠ b → (w.setCells b o vs).heap[k]? = w.heap[k]?
  | [], _, _, _, _ => rfl
  | v :: r, o, w, k, h => (heap_setCells b r (o + 1) (w.setCell ⟨b, o, none⟩ v) k h).trans (Below.heap_setCell _ _ _ _ h)
theorem rj_cells {W : World} {R off : Nat} {F : Nat → Int} (h : RA W R off F) (G : Nat → Int) : RJ W R off G (W.setCells R off (ra G).toList) := by
  have hl : (ra G).toList.length = 256 := by simp [ra_size]
  have kb := World.keptBut_setCells R (may := fun _ => True) (ra G).toList off W (fun _ _ => trivial)
  refine ⟨fun k hk => ⟨?_, ?_⟩, kb.1, (tape_setCells R _ off W).1, kb.2.1, (tape_setCells R _ off W).2, fun k hk => heap_setCells R _ off W k hk, fun o ho => ?_, fun o => World.frozen?_setCells R _ off W _⟩
  · have := World.cell?_setCells_in R (ra G).toList off W (fun j hj => by rw [(h j (by omega)).1]; rfl) k (by omega)
    rw [this]
    have e := ra_at G k hk
    rw [← Array.getElem?_toList] at e
    rw [List.getElem?_eq_getElem (by omega)] at e
    exact e
  · rw [World.frozen?_setCells]; exact (h k hk).2
  · exact World.cell?_setCells_out R _ off W _ (fun _ _ => by rw [hl]; simpa using ho)

/-- the i'th clock is a copy of the j'th from now on -/
theorem HT.copy {w0 wr w1 : World} {S R sb : Nat} {sv : Array Value} {P : Nat → Nat} {L : Nat → List Int} {F : Nat → Nat → Int} (h : HT w0 S R sb sv P L F wr) {i A : Nat} {l : List Int} (hi : i < 3) (hc : Cx (XT w0 S R sb) w1 (upd (hh P L) i (A, l))) (hk : Kp (XT w0 S R sb) wr w1) : HT w0 S R sb sv (up P i A) (up L i l) F (w1.setCell ⟨S, i, none⟩ (.pointer (some ⟨A, 0, none⟩))) := by
  rw [hh_upd P L i A l hi] at hc
  have eS := (hk.block S (.inr (.inl rfl))).trans h.sl
  have eb := (hk.block sb (.inr (.inr (.inr rfl)))).trans h.sk
  have eR := hk.block R (.inr (.inr (.inl rfl)))
  have hz : (w1.setCell ⟨S, i, none⟩ (.pointer (some ⟨A, 0, none⟩))).heap.size = w1.heap.size := by simp [World.setCell]
  have ho : ∀ k, k ≠ S → (w1.setCell ⟨S, i, none⟩ (.pointer (some ⟨A, 0, none⟩))).heap[k]? = w1.heap[k]? := fun k hk => Below.heap_setCell _ _ _ _ hk
  have hb0 : Below 0 w1 (w1.setCell ⟨S, i, none⟩ (.pointer (some ⟨A, 0, none⟩))) := (Below.refl 0 w1).setCell (Nat.zero_le _) _
  refine ⟨hc.other (Nat.le_of_eq hz.symm) (fun k _ hx => ho k (fun e => hx (.inr (.inl e)))), ?_, fun m hm k hk2 => ?_, ⟨hb0.os.trans (hk.os.trans h.bl.os), hb0.tape.trans (hk.tape.trans h.bl.tape), hb0.output.trans (hk.output.trans h.bl.output), Nat.le_trans h.bl.size (Nat.le_trans hk.size hb0.size), fun k hk2 => (ho k (fun e => by have := h.hS; omega)).trans ((hk.block k (.inl hk2)).trans (h.bl.block k hk2))⟩, h.hS, h.hR, h.ne, (ho sb h.nS).trans eb, h.hb, h.nS, h.nR⟩
  · rw [Ck.heap_setCell_same eS, ptrs_set P i A hi]
  · obtain ⟨h1, h2⟩ := h.ra m hm k hk2
    have e := (ho R (Ne.symm h.ne)).trans eR
    exact ⟨(World.cell?_of_block (w := wr) e).trans h1, (World.frozen?_of_block (w := wr) e).trans h2⟩

theorem copy_ht {w0 : World} {S R sb : Nat} {q t n : Int} {i j : Nat} {P : Nat → Nat} {L : Nat → List Int} {F : Nat → Nat → Int} (hi : i < 3) (hj : j < 3) (wv : World) (h : HT w0 S R sb #[.int .i64 q, .int .i64 (i : Int), .int .i64 (j : Int), .int .i64 t, .int .i64 n] P L F wv) :
    Calls Try.prog 18 #[.pointer (some ⟨P j, 0, none⟩)] wv fun r w1 => ∃ A, r = .returned (.pointer (some ⟨A, 0, none⟩)) ∧ w1.cell? ⟨sb, 1, none⟩ = some (.int .i64 (i : Int)) ∧ w1.cell? ⟨S, i, none⟩ = some (.pointer (some ⟨P i, 0, none⟩)) ∧ w1.frozen? ⟨S, i, none⟩ = false ∧ Hid (HT w0 S R sb #[.int .i64 q, .int .i64 (i : Int), .int .i64 (j : Int), .int .i64 t, .int .i64 n] (up P i A) (up L i (L j)) F (w1.setCell ⟨S, i, none⟩ (.pointer (some ⟨A, 0, none⟩)))) := by
  refine (cx_copy h.cx (hh_at P L j hj)).mono ?_
  rintro r w1 ⟨A, rfl, hc, hk⟩
  have eS := (hk.block S (.inr (.inl rfl))).trans h.sl
  have eb := (hk.block sb (.inr (.inr (.inr rfl)))).trans h.sk
  exact ⟨A, rfl, cell_of eb 1, (cell_of eS i).trans (ptrs_at P i hi), frozen_of eS i, h.copy hi (hc i) hk⟩

theorem ht_j {w0 wr : World} {S R sb : Nat} {q t n : Int} {i j : Nat} {P : Nat → Nat} {L : Nat → List Int} {F : Nat → Nat → Int} {G : Nat → Int} (h : HT w0 S R sb #[.int .i64 q, .int .i64 (i : Int), .int .i64 (j : Int), .int .i64 t, .int .i64 n] P L F wr) (hi : i < 3) (hj : j < 3) (hG : F j = G) :
    wr.cell? ⟨sb, 1, none⟩ = some (.int .i64 (i : Int)) ∧ wr.cell? ⟨sb, 2, none⟩ = some (.int .i64 (j : Int)) ∧ wr.cell? ⟨S, i, none⟩ = some (.pointer (some ⟨P i, 0, none⟩)) ∧ wr.cell? ⟨S, j, none⟩ = some (.pointer (some ⟨P j, 0, none⟩)) ∧ Full wr R (j * 256) ∧ rd wr R (j * 256) = ra G ∧ wr.there R (i * 256) 256 := by
  subst hG
  exact ⟨cell_of h.sk 1, cell_of h.sk 2, (cell_of h.sl i).trans (ptrs_at P i hi), (cell_of h.sl j).trans (ptrs_at P j hj), (h.ra j hj).full, (h.ra j hj).rd, (h.ra i hi).there⟩

theorem join_both2 {w0 : World} {S R sb : Nat} {sv : Array Value} {P : Nat → Nat} {L : Nat → List Int} {F : Nat → Nat → Int} (hs : Same L F) (i j : Nat) (hi : i < 3) (hj : j < 3) (hv0 : ∀ i, i < 3 → Valid (L i)) (hl : ∀ i, i < 3 → (L i).length ≤ 256) :
    ∃ e : Bool, ∀ wv, HT w0 S R sb sv P L F wv → Calls Try.prog 16 #[.pointer (some ⟨P i, 0, none⟩), .pointer (some ⟨P j, 0, none⟩)] wv fun r w1 => r = .returned (.bool e) ∧ ∃ L', HT w0 S R sb sv P L' F w1 ∧
      ∀ wu, HT w0 S R sb sv P L' F wu → Calls Try.prog 17 #[.pointer (some ⟨R, i * 256, none⟩), .agg (ra (F j))] wu fun r w2 => r = .returned (.bool e) ∧ ∃ F', HT w0 S R sb sv P L' F' w2 ∧ Same L' F' ∧ F' j = F j := by
  refine ⟨!within (L j) (L i), fun wv hv => ?_⟩
  refine (cx_join hv.cx (hh_at P L i hi) (hh_at P L j hj)).mono ?_
  rintro r w1 ⟨rfl, hc, hkp⟩
  rw [hh_upd P L i (P i) _ hi, up_id] at hc
  refine ⟨rfl, up L i (jn (L i) (L j)), hv.clock hc hkp rfl, fun wu hu => ?_⟩
  rw [← same_within hs hv0 hl j i hj hi]
  refine (rjoin_any R (i * 256) (F i) (F j) wu (hu.ra i hi)).mono ?_
  rintro r w2 ⟨rfl, hr⟩
  refine ⟨rfl, _, hu.ref (below_alloc _ _) hr, hs.up i _ _ (fun k hk => ?_), ?_⟩
  · rw [nth_jn, hs i hi k hk, hs j hj k hk]
    simp [jf, hk]
  · by_cases e : j = i
    · subst e
      rw [up_same]
      funext k
      simp [jf]
    · rw [up_other _ _ _ _ e]

attribute [local go_sem ↓] ld_is sd_is
attribute [local go_sem] run_ld
set_option maxRecDepth 100000 in
set_option maxHeartbeats 25600000 in
theorem steps_walk (oa : Option Addr) (len c : Nat) (V : Nat → Nat → Int) (w : World) (hA : StepsAt w oa len V) (hl : len ≤ 300) :
    Calls Try.prog 3 #[.slice oa len c] w fun r w' => r = .returned (.bool true) ∧ Below w.heap.size w w' := by
  have HA := hide hA
  have zr := zero_three
  have hl' : decide ((300 : Int) < (len : Int)) = false := by simp; omega
  have IV : Hid (Inv w (W0 w)) := ⟨_, _, _, hs_start w, fun i _ k _ => rfl⟩
  clear hA
  go_enter Try.func3, Try.ntmps3
  go_wp2_with (go_at_call 9; refine (new_any _).mono ?_; rintro r w' ⟨rfl, rfl⟩)
  clear zr
  unfold W0 at IV
  generalize ((((w.alloc (.cells #[.slice none 0 0, .bool false] 69)).alloc (.cells #[.slice none 0 0, .bool false] 69)).alloc (.cells #[.slice none 0 0, .bool false] 69)).alloc (.cells #[.pointer (some ⟨w.heap.size, 0, none⟩), .pointer (some ⟨w.heap.size + 1, 0, none⟩), .pointer (some ⟨w.heap.size + 1 + 1, 0, none⟩)] 23)).alloc (.cells z3 30) = W at IV ⊢
  go_loopw [30] (fun i wr => ∃ k : Nat, k ≤ len ∧ i = .int .i64 k ∧ Inv w wr) (fun i _ => len - (intOf i).toNat)
  case atStart => exact ⟨0, Nat.zero_le _, rfl, IV.out⟩
  case round =>
    obtain ⟨k, hk, rfl, hinv⟩ := hrel
    have HI := hide hinv
    clear hinv IV
    by_cases hlt : k < len
    · obtain ⟨b, off, rfl, hcell⟩ := (HA.out.below HI.out.bl) k hlt
      have hlt' : (k : Int) < (len : Int) := by omega
      have d0 := hcell 0 (by decide)
      have d1 := hcell 1 (by decide)
      have d2 := hcell 2 (by decide)
      have d3 := hcell 3 (by decide)
      have d4 := hcell 4 (by decide)
      clear hcell
      simp only [Nat.add_zero] at d0
      by_cases ht : (decide (0 ≤ V k 1) && decide (V k 1 < 3) && decide (0 ≤ V k 2) && decide (V k 2 < 3)) = true
      · obtain ⟨P, L, F, hs, hsame⟩ := HI.out
        have ht2 : (0 ≤ V k 1 ∧ V k 1 < 3) ∧ 0 ≤ V k 2 ∧ V k 2 < 3 := by simpa [and_assoc] using ht
        obtain ⟨i, hi⟩ := Int.eq_ofNat_of_zero_le ht2.1.1
        obtain ⟨j, hj⟩ := Int.eq_ofNat_of_zero_le ht2.2.1
        have hi3 : i < 3 := by omega
        have hj3 : j < 3 := by omega
        rw [hi] at d1
        rw [hj] at d2
        have T3 : Hid ((decide (0 ≤ (i : Int)) && decide ((i : Int) < 3) && decide (0 ≤ (j : Int)) && decide ((j : Int) < 3)) = true) := by show _ = _; rw [← hi, ← hj]; exact ht
        clear ht ht2 hi hj
        generalize V k 0 = q0 at d0
        generalize V k 3 = t at d3
        generalize V k 4 = n at d4
        have H1 := hide (HT.of hs #[.int .i64 q0, .int .i64 (i : Int), .int .i64 (j : Int), .int .i64 t, .int .i64 n])
        have SM := hide hsame
        have VL : Hid (∀ i, i < 3 → Valid (L i)) := fun x hx => (hs.cx.get (hh_at P L x hx)).2.2
        have LL : Hid (∀ i, i < 3 → (L i).length ≤ 256) := fun x hx => (hs.cx.get (hh_at P L x hx)).1.len
        clear hs hsame
        go_upto_block 2 with (go_at_call 11; refine (three_is _ _ true T3.out _).mono ?_; rintro r w' ⟨rfl, rfl⟩)
        clear d0 d1 d2 d3 d4 T3
        generalize hsb : wr.heap.size = sb at H1 ⊢
        generalize wr.alloc (.cells #[.int .i64 q0, .int .i64 (i : Int), .int .i64 (j : Int), .int .i64 t, .int .i64 n] 32) = W1 at H1 ⊢
        go_cut [] (fun wc => ∃ P L F, HT w (w.heap.size + 1 + 1 + 1) (w.heap.size + 1 + 1 + 1 + 1) sb #[.int .i64 q0, .int .i64 (i : Int), .int .i64 (j : Int), .int .i64 t, .int .i64 n] P L F wc ∧ Same L F)
        case first =>
          have hi' : (i : Int) < 3 := by omega
          have hj' : (j : Int) < 3 := by omega
          by_cases c0 : q0 = 0
          · subst c0
            obtain ⟨e, hB⟩ := tick_both (w0 := w) (S := w.heap.size + 1 + 1 + 1) (R := w.heap.size + 1 + 1 + 1 + 1) (sb := sb) (sv := #[.int .i64 0, .int .i64 (i : Int), .int .i64 (j : Int), .int .i64 t, .int .i64 n]) (P := P) SM.out i hi3 t n VL.out
            have TB := hide hB
            clear hB
            go_wp2_with fail
            go_region_held (fun w' => w'.cell? ⟨sb, 1, none⟩ = some (.int .i64 (i : Int)) ∧ w'.cell? ⟨sb, 2, none⟩ = some (.int .i64 (j : Int)) ∧ w'.cell? ⟨sb, 3, none⟩ = some (.int .i64 t) ∧ w'.cell? ⟨sb, 4, none⟩ = some (.int .i64 n) ∧ w'.cell? ⟨w.heap.size + 1 + 1 + 1, i, none⟩ = some (.pointer (some ⟨P i, 0, none⟩)) ∧ w'.cell? ⟨w.heap.size + 1 + 1 + 1, j, none⟩ = some (.pointer (some ⟨P j, 0, none⟩))) (first | exact ht_cells (H1.out.below (bdw _)) hi3 hj3 | exact ht_cells h1 hi3 hj3 | exact ht_cells h3 hi3 hj3)
              (first | (go_at_call 12; refine (TB.out _ (HT.below H1.out (bdw _))).mono ?_; rintro r w1 ⟨rfl, L1, h1, h2⟩) | (go_at_call 13; refine (h2 _ h1).mono ?_; rintro r w2 ⟨rfl, F2, h3, h4⟩))
            all_goals
              go_wp2
              go_meet
              case rel => exact ⟨P, L1, F2, h3, h4⟩
          by_cases c1 : q0 = 1
          · subst c1
            obtain ⟨e, hB⟩ := tick_both (w0 := w) (S := w.heap.size + 1 + 1 + 1) (R := w.heap.size + 1 + 1 + 1 + 1) (sb := sb) (sv := #[.int .i64 1, .int .i64 (i : Int), .int .i64 (j : Int), .int .i64 t, .int .i64 n]) (P := P) SM.out i hi3 t n VL.out
            have TB := hide hB
            clear hB
            go_wp2_with fail
            go_region_held (fun w' => w'.cell? ⟨sb, 1, none⟩ = some (.int .i64 (i : Int)) ∧ w'.cell? ⟨sb, 2, none⟩ = some (.int .i64 (j : Int)) ∧ w'.cell? ⟨sb, 3, none⟩ = some (.int .i64 t) ∧ w'.cell? ⟨sb, 4, none⟩ = some (.int .i64 n) ∧ w'.cell? ⟨w.heap.size + 1 + 1 + 1, i, none⟩ = some (.pointer (some ⟨P i, 0, none⟩)) ∧ w'.cell? ⟨w.heap.size + 1 + 1 + 1, j, none⟩ = some (.pointer (some ⟨P j, 0, none⟩))) (first | exact ht_cells (H1.out.below (bdw _)) hi3 hj3 | exact ht_cells h1 hi3 hj3 | exact ht_cells h3 hi3 hj3)
              (first | (go_at_call 12; refine (TB.out _ (HT.below H1.out (bdw _))).mono ?_; rintro r w1 ⟨rfl, L1, h1, h2⟩) | (go_at_call 13; refine (h2 _ h1).mono ?_; rintro r w2 ⟨rfl, F2, h3, h4⟩))
            all_goals
              go_wp2
              go_meet
              case rel => exact ⟨P, L1, F2, h3, h4⟩
          by_cases c2 : q0 = 2
          · subst c2
            obtain ⟨e, hB⟩ := set_both (w0 := w) (S := w.heap.size + 1 + 1 + 1) (R := w.heap.size + 1 + 1 + 1 + 1) (sb := sb) (sv := #[.int .i64 2, .int .i64 (i : Int), .int .i64 (j : Int), .int .i64 t, .int .i64 n]) (P := P) SM.out i hi3 t n
            have TB := hide hB
            clear hB
            go_wp2_with fail
            go_region_held (fun w' => w'.cell? ⟨sb, 1, none⟩ = some (.int .i64 (i : Int)) ∧ w'.cell? ⟨sb, 2, none⟩ = some (.int .i64 (j : Int)) ∧ w'.cell? ⟨sb, 3, none⟩ = some (.int .i64 t) ∧ w'.cell? ⟨sb, 4, none⟩ = some (.int .i64 n) ∧ w'.cell? ⟨w.heap.size + 1 + 1 + 1, i, none⟩ = some (.pointer (some ⟨P i, 0, none⟩)) ∧ w'.cell? ⟨w.heap.size + 1 + 1 + 1, j, none⟩ = some (.pointer (some ⟨P j, 0, none⟩))) (first | exact ht_cells (H1.out.below (bdw _)) hi3 hj3 | exact ht_cells h1 hi3 hj3 | exact ht_cells h3 hi3 hj3)
              (first | (go_at_call 14; refine (TB.out _ (HT.below H1.out (bdw _))).mono ?_; rintro r w1 ⟨rfl, L1, h1, h2⟩) | (go_at_call 15; refine (h2 _ h1).mono ?_; rintro r w2 ⟨rfl, F2, h3, h4⟩))
            all_goals
              go_wp2
              go_meet
              case rel => exact ⟨P, L1, F2, h3, h4⟩
          by_cases c3 : q0 = 3
          · subst c3
            obtain ⟨e, hB⟩ := join_both2 (w0 := w) (S := w.heap.size + 1 + 1 + 1) (R := w.heap.size + 1 + 1 + 1 + 1) (sb := sb) (sv := #[.int .i64 3, .int .i64 (i : Int), .int .i64 (j : Int), .int .i64 t, .int .i64 n]) (P := P) SM.out i j hi3 hj3 VL.out LL.out
            have TB := hide hB
            clear hB
            go_wp2_with fail
            go_region_held (fun w' => w'.cell? ⟨sb, 1, none⟩ = some (.int .i64 (i : Int)) ∧ w'.cell? ⟨sb, 2, none⟩ = some (.int .i64 (j : Int)) ∧ w'.cell? ⟨w.heap.size + 1 + 1 + 1, i, none⟩ = some (.pointer (some ⟨P i, 0, none⟩)) ∧ w'.cell? ⟨w.heap.size + 1 + 1 + 1, j, none⟩ = some (.pointer (some ⟨P j, 0, none⟩)) ∧ Full w' (w.heap.size + 1 + 1 + 1 + 1) (j * 256) ∧ rd w' (w.heap.size + 1 + 1 + 1 + 1) (j * 256) = ra (F j) ∧ w'.there (w.heap.size + 1 + 1 + 1 + 1) (i * 256) 256) (first | exact ht_j (H1.out.below (bdw _)) hi3 hj3 rfl | exact ht_j h1 hi3 hj3 rfl | exact ht_j h3 hi3 hj3 h5)
              (first | (go_at_call 16; refine (TB.out _ (HT.below H1.out (bdw _))).mono ?_; rintro r w1 ⟨rfl, L1, h1, h2⟩) | (go_at_call 17; refine (h2 _ h1).mono ?_; rintro r w2 ⟨rfl, F2, h3, h4, h5⟩))
            all_goals
              go_wp2
              go_meet
              case rel => exact ⟨P, L1, F2, h3, h4⟩
          by_cases c4 : q0 = 4
          · subst c4
            obtain ⟨z1, z2, _, _, z5, z6⟩ := ht_cells H1.out hi3 hj3
            go_wp2_with fail
            go_region_with (first | (go_at_call 18; refine (copy_ht hi3 hj3 _ (HT.below H1.out (bdw _))).mono ?_; rintro r w1 ⟨A, rfl, y1, y2, y3, h5⟩))
            all_goals
              clear z1 z2 z5 z6 y1 y2 y3
              generalize w1.setCell ⟨w.heap.size + 1 + 1 + 1, i, none⟩ (.pointer (some ⟨A, 0, none⟩)) = W5 at h5 ⊢
              obtain ⟨sc, hsd, hst⟩ : ∃ sc : World → Nat → Nat → (Nat → Int) → World, (∀ v R o G, v.there R o 256 → (SD (.pointer (some ⟨R, o, none⟩)) (.agg (ra G))).run Try.prog v = .ok () (sc v R o G)) ∧
                  Hid (∀ v, HT w (w.heap.size + 1 + 1 + 1) (w.heap.size + 1 + 1 + 1 + 1) sb (#[.int .i64 4, .int .i64 (i : Int), .int .i64 (j : Int), .int .i64 t, .int .i64 n]) (up P i A) (up L i (L j)) F v → HT w (w.heap.size + 1 + 1 + 1) (w.heap.size + 1 + 1 + 1 + 1) sb (#[.int .i64 4, .int .i64 (i : Int), .int .i64 (j : Int), .int .i64 t, .int .i64 n]) (up P i A) (up L i (L j)) (up F i (F j)) (sc v (w.heap.size + 1 + 1 + 1 + 1) (i * 256) (F j))) :=
                ⟨fun v R o G => v.setCells R o (ra G).toList, run_sd, fun v hv => hv.ref (Below.refl _ _) (rj_cells (hv.ra i hi3) (F j))⟩
              have FJ : Hid (up F i (F j) j = F j) := by
                show _ = _
                by_cases e : j = i
                · rw [e, up_same]
                · rw [up_other _ _ _ _ e]
              go_wp2_with fail
              go_region_held (fun w' => w'.cell? ⟨sb, 1, none⟩ = some (.int .i64 (i : Int)) ∧ w'.cell? ⟨sb, 2, none⟩ = some (.int .i64 (j : Int)) ∧ w'.cell? ⟨w.heap.size + 1 + 1 + 1, i, none⟩ = some (.pointer (some ⟨up P i A i, 0, none⟩)) ∧ w'.cell? ⟨w.heap.size + 1 + 1 + 1, j, none⟩ = some (.pointer (some ⟨up P i A j, 0, none⟩)) ∧ Full w' (w.heap.size + 1 + 1 + 1 + 1) (j * 256) ∧ rd w' (w.heap.size + 1 + 1 + 1 + 1) (j * 256) = ra (F j) ∧ w'.there (w.heap.size + 1 + 1 + 1 + 1) (i * 256) 256) (first | exact ht_j (h5.out.below (bdw _)) hi3 hj3 rfl | exact ht_j (hst.out _ (h5.out.below (bdw _))) hi3 hj3 FJ.out) (fail)
              all_goals
                go_wp2
                go_meet
                case rel => exact ⟨up P i A, up L i (L j), up F i (F j), hst.out _ (h5.out.below (bdw _)), SM.out.up i (L j) (F j) (SM.out j hj3)⟩
          have e0 : (q0 == 0) = false := by simpa using c0
          have e1 : (q0 == 1) = false := by simpa using c1
          have e2 : (q0 == 2) = false := by simpa using c2
          have e3 : (q0 == 3) = false := by simpa using c3
          have e4 : (q0 == 4) = false := by simpa using c4
          clear c0 c1 c2 c3 c4
          go_wp2
          go_meet
          case rel => exact ⟨P, L, F, H1.out, SM.out⟩
        case rest =>
          obtain ⟨P, L, F, h, hsame⟩ := hcut
          have H2 := hide h
          have SM2 := hide hsame
          have VL2 : Hid (∀ i, i < 3 → Valid (L i)) := fun x hx => (h.cx.get (hh_at P L x hx)).2.2
          have LL2 : Hid (∀ i, i < 3 → (L i).length ≤ 256) := fun x hx => (h.cx.get (hh_at P L x hx)).1.len
          have CA2 : Hid (∀ i, i < 3 → Canon (L i)) := fun x hx => (h.cx.get (hh_at P L x hx)).2.1
          clear h hsame SM VL LL H1 HI
          have hj' : (j : Int) < 3 := by omega
          go_wp2_with fail
          go_loopw [7] (fun a wq => ∃ m : Nat, m ≤ 3 ∧ a = .int .i64 m ∧ HT w (w.heap.size + 1 + 1 + 1) (w.heap.size + 1 + 1 + 1 + 1) sb #[.int .i64 q0, .int .i64 (i : Int), .int .i64 (j : Int), .int .i64 t, .int .i64 n] P L F wq) (fun a _ => 3 - (intOf a).toNat)
          case atStart => exact ⟨0, by decide, rfl, H2.out⟩
          case round =>
            obtain ⟨m, hm, rfl, hq⟩ := hrel
            have HQ := hide hq
            clear hq H2
            by_cases hm3 : m < 3
            · have hm' : (m : Int) < 3 := by omega
              have KM := hide (fun (v : World) (hv : HT w (w.heap.size + 1 + 1 + 1) (w.heap.size + 1 + 1 + 1 + 1) sb #[.int .i64 q0, .int .i64 (i : Int), .int .i64 (j : Int), .int .i64 t, .int .i64 n] P L F v) => (hv.cx.get (hh_at P L m hm3)).1)
              have KJ := hide (fun (v : World) (hv : HT w (w.heap.size + 1 + 1 + 1) (w.heap.size + 1 + 1 + 1 + 1) sb #[.int .i64 q0, .int .i64 (i : Int), .int .i64 (j : Int), .int .i64 t, .int .i64 n] P L F v) => (hv.cx.get (hh_at P L j hj3)).1)
              obtain ⟨gv, GV⟩ : ∃ g, Hid (gt (L m) t = g) := ⟨_, rfl⟩
              have RV : Hid (rg (F m) t = gv) := by show _ = _; rw [← GV.out]; exact same_get SM2.out LL2.out m hm3 t
              obtain ⟨xw, XW⟩ : ∃ x, Hid (within (L m) (L j) = x) := ⟨_, rfl⟩
              have RWX : Hid (rwithin (F m) (F j) = xw) := by show _ = _; rw [← XW.out]; exact same_within SM2.out VL2.out LL2.out m j hm3 hj3
              go_wp2_with fail
              go_region_held (fun w' => w'.cell? ⟨sb, 2, none⟩ = some (.int .i64 (j : Int)) ∧ w'.cell? ⟨sb, 3, none⟩ = some (.int .i64 t) ∧ w'.cell? ⟨w.heap.size + 1 + 1 + 1, m, none⟩ = some (.pointer (some ⟨P m, 0, none⟩)) ∧ w'.cell? ⟨w.heap.size + 1 + 1 + 1, j, none⟩ = some (.pointer (some ⟨P j, 0, none⟩)) ∧ Full w' (w.heap.size + 1 + 1 + 1 + 1) (m * 256) ∧ rd w' (w.heap.size + 1 + 1 + 1 + 1) (m * 256) = ra (F m) ∧ Full w' (w.heap.size + 1 + 1 + 1 + 1) (j * 256) ∧ rd w' (w.heap.size + 1 + 1 + 1 + 1) (j * 256) = ra (F j)) (first | exact ht_rng (HQ.out.below (bdw _)) hm3 hj3 | exact ht_rng k7 hm3 hj3 | exact ht_rng k6 hm3 hj3 | exact ht_rng k5 hm3 hj3 | exact ht_rng k4 hm3 hj3 | exact ht_rng k3 hm3 hj3 | exact ht_rng k2 hm3 hj3 | exact ht_rng k1 hm3 hj3)
                (first
                  | (go_at_call 20; refine (list_at (P m) (L m) _ (KM.out _ (HQ.out.below (bdw _)))).mono ?_; rintro r v1 ⟨g1, rfl, a1, b1⟩; have k1 := (HQ.out.below (bdw _)).below b1)
                  | (go_at_call 21; refine (rlist_is (L m) (F m) _ (k1.ra m hm3) (SM2.out m hm3) (VL2.out m hm3) (CA2.out m hm3) (LL2.out m hm3)).mono ?_; rintro r v2 ⟨o2, c2, rfl, a2, b2⟩; have k2 := k1.below b2)
                  | (go_at_call 19; refine (ints_is _ _ (L m) (L m) _ _ _ _ true (by simp) rfl rfl _ (a1.below b2) a2 (LL2.out m hm3) (LL2.out m hm3)).mono ?_; rintro r v3 ⟨rfl, q3, b3⟩; have k3 : HT w (w.heap.size + 1 + 1 + 1) (w.heap.size + 1 + 1 + 1 + 1) sb #[.int .i64 q0, .int .i64 (i : Int), .int .i64 (j : Int), .int .i64 t, .int .i64 n] P L F v3 := (by rw [b3]; exact k2.below (bdrew _ _)); clear b3)
                  | (go_at_call 22; refine (get_is (P m) (L m) t gv GV.out _ (KM.out _ k3)).mono ?_; rintro r v4 ⟨rfl, b4⟩; have k4 : HT w (w.heap.size + 1 + 1 + 1) (w.heap.size + 1 + 1 + 1 + 1) sb #[.int .i64 q0, .int .i64 (i : Int), .int .i64 (j : Int), .int .i64 t, .int .i64 n] P L F v4 := (by rw [b4]; exact k3); clear b4)
                  | (go_at_call 23; refine (rget_is _ _ (F m) t gv RV.out _ (k4.ra m hm3)).mono ?_; rintro r v5 ⟨rfl, b5⟩; have k5 : HT w (w.heap.size + 1 + 1 + 1) (w.heap.size + 1 + 1 + 1 + 1) sb #[.int .i64 q0, .int .i64 (i : Int), .int .i64 (j : Int), .int .i64 t, .int .i64 n] P L F v5 := (by rw [b5]; exact k4); clear b5)
                  | (go_at_call 24; refine (within_is (P m) (P j) (L m) (L j) xw XW.out _ (KM.out _ k5) (KJ.out _ k5)).mono ?_; rintro r v6 ⟨rfl, b6⟩; have k6 : HT w (w.heap.size + 1 + 1 + 1) (w.heap.size + 1 + 1 + 1 + 1) sb #[.int .i64 q0, .int .i64 (i : Int), .int .i64 (j : Int), .int .i64 t, .int .i64 n] P L F v6 := (by rw [b6]; exact k5); clear b6)
                  | (go_at_call 25; refine (rwithin_is (F m) (F j) xw RWX.out _).mono ?_; rintro r v7 ⟨rfl, b7⟩; have k7 := k6.below b7))
              all_goals
                go_wp2
                go_roundw
                case rel => exact ⟨m + 1, by omega, by go_num, k7⟩
                case measure => simp [intOf]; omega
            · go_wp2
              go_roundw
              case rel => exact ⟨k + 1, by omega, by go_num, ⟨P, L, F, HQ.out.hs, SM2.out⟩⟩
              case measure => simp [intOf]; omega
      · have hf : (decide (0 ≤ V k 1) && decide (V k 1 < 3) && decide (0 ≤ V k 2) && decide (V k 2 < 3)) = false := by simpa using ht
        have HF := hide hf
        clear hf ht
        go_wp2_with (go_at_call 11; refine (three_is _ _ false HF.out _).mono ?_; rintro r w' ⟨rfl, rfl⟩)
        go_roundw
        case rel => exact ⟨k + 1, by omega, by go_num, HI.out.below (below_alloc _ _)⟩
        case measure => simp [intOf]; omega
    · go_wp2_with (go_at_call 10; refine (joins_any _).mono ?_; rintro r w9 ⟨rfl, hb9⟩)
      go_ret
      exact ⟨rfl, btr HI.out.bl hb9⟩
end Ck
end Go.Proofs.Ytkgddkpolckacaa
