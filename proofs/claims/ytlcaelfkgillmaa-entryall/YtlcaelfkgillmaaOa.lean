/- Lists of events in memory; package entry: All, over this seat's program. -/
import Derived.Test.YtlcaelfkgillmaaNl
namespace Go.Proofs.Ytlcaelfkgillmaa
open Go.ChangeShapes Go.WideShapes Go.ChangeAt Go.RowKit
namespace En
open Ba Re

/-- the cells from oa on are those of the events l -/
def EsAt (w : World) (oa : Option Addr) (l : List Ev) : Prop :=
  ∀ k e, l[k]? = some e → ∃ b off, oa = some ⟨b, off, none⟩ ∧ ∀ j, j < 8 → w.cell? ⟨b, off + k * 8 + j, none⟩ = (evc e)[j]?
theorem EsAt.nil (w : World) (oa : Option Addr) : EsAt w oa [] := fun _ _ h => by simp at h
theorem evc_some (e : Ev) (j : Nat) (h : j < 8) : ∃ v, (evc e)[j]? = some v := ⟨_, Array.getElem?_eq_getElem h⟩
theorem EsAt.below {w w' : World} {oa : Option Addr} {l : List Ev} (h : EsAt w oa l) (hb : Below w.heap.size w w') : EsAt w' oa l := by
  intro k e hk
  obtain ⟨b, off, he, hc⟩ := h k e hk
  refine ⟨b, off, he, fun j hj => ?_⟩
  obtain ⟨v, hv⟩ := evc_some e j hj
  have := hc j hj
  rw [hv] at this ⊢
  exact (hb.cell (World.block_lt_of_cell? w _ this)).trans this
theorem EsAt.read {w : World} {b off : Nat} {l : List Ev} {k : Nat} {e : Ev} (h : EsAt w (some ⟨b, off, none⟩) l) (hk : l[k]? = some e) : w.cell? ⟨b, off + k * 8, none⟩ = some (.int .i64 e.k) ∧ w.cell? ⟨b, off + k * 8 + 1, none⟩ = some (.int .i64 e.g) ∧ w.cell? ⟨b, off + k * 8 + 2, none⟩ = some (.int .i64 e.c) ∧ w.cell? ⟨b, off + k * 8 + 3, none⟩ = some (.int .i64 e.a) ∧ w.cell? ⟨b, off + k * 8 + 4, none⟩ = some (.int .i64 e.v) ∧ w.cell? ⟨b, off + k * 8 + 5, none⟩ = some (.int .i64 e.m) ∧ w.cell? ⟨b, off + k * 8 + 6, none⟩ = some (.bool e.s) ∧ w.cell? ⟨b, off + k * 8 + 7, none⟩ = some (.bool e.o) := by
  obtain ⟨b', off', he, hc⟩ := h k e hk
  cases he
  exact ⟨hc 0 (by decide), hc 1 (by decide), hc 2 (by decide), hc 3 (by decide), hc 4 (by decide), hc 5 (by decide), hc 6 (by decide), hc 7 (by decide)⟩
/-- the first error of events -/
def fe : List Ev → Int
  | [] => 0
  | e :: l => if chk e = 0 then fe l else chk e
theorem fe_app : ∀ (l m : List Ev), fe l = 0 → fe (l ++ m) = fe m
  | [], _, _ => rfl
  | e :: l, m, h => by
    simp only [List.cons_append, fe] at h ⊢
    split at h
    · rw [if_pos ‹_›]
      exact fe_app l m h
    · exact absurd h ‹_›
theorem fe_bad {l : List Ev} {k : Nat} {e : Ev} (h : fe (l.take k) = 0) (hk : l[k]? = some e) (hc : chk e ≠ 0) : fe l = chk e := by
  have hkl := (List.getElem?_eq_some_iff.1 hk).1
  have he := (List.getElem?_eq_some_iff.1 hk).2
  rw [← List.take_append_drop k l, fe_app _ _ h, List.drop_eq_getElem_cons hkl, he]
  simp [fe, hc]
theorem fe_ok {l : List Ev} {k : Nat} {e : Ev} (h : fe (l.take k) = 0) (hk : l[k]? = some e) (hc : chk e = 0) : fe (l.take (k + 1)) = 0 := by
  rw [List.take_add_one, hk, fe_app _ _ h]
  simp [fe, hc]
/-- all events' bytes -/
def encs (l : List Ev) : List Nat := l.flatMap enc
theorem encs_take {l : List Ev} {k : Nat} {e : Ev} (hk : l[k]? = some e) : encs (l.take (k + 1)) = encs (l.take k) ++ enc e := by
  unfold encs
  rw [List.take_add_one, hk, List.flatMap_append]
  simp
theorem encs_len (l : List Ev) : (encs l).length ≤ 49 * l.length := by
  unfold encs
  induction l with
  | nil => simp
  | cons x l ih =>
    have := enc_len x
    simp only [List.flatMap_cons, List.length_append, List.length_cons]
    omega
theorem encs_lt (l : List Ev) : ∀ b ∈ encs l, b < 256 := by
  intro b hb
  simp only [encs, List.mem_flatMap] at hb
  obtain ⟨e, _, hb⟩ := hb
  exact pls_lt _ b hb
theorem all_long (oa : Option Addr) (n c : Nat) (w : World) (hn : n ≤ maxLen) (h : 2000 < n) :
    Calls Try.prog 16 #[.slice oa n c] w fun r w' => r = .returned (.tuple #[.string (bs []), .int .i64 2]) ∧ Below w.heap.size w w' := by
  unfold maxLen at hn
  have h' : (2000 : Int) < (n : Int) := by omega
  go_enter Try.func16, Try.ntmps16
  go_wp2_with fail
  go_ret2
  exact ⟨rfl, Below.refl _ _⟩
/-- the builder of All -/
structure AlW (w u : World) (b : Nat) (L : List Nat) : Prop where
  bl : BL u b (bs L)
  bel : Below w.heap.size w u
  lt : w.heap.size ≤ b ∧ b < u.heap.size
theorem AlW.below {w u v : World} {b : Nat} {L : List Nat} (h : AlW w u b L) (hb : Below u.heap.size u v) : AlW w v b L :=
  ⟨h.bl.below hb, btr h.bel hb, h.lt.1, Nat.lt_of_lt_of_le h.lt.2 hb.size⟩
theorem AlW.bk {w u v : World} {b : Nat} {L L' : List Nat} (h : AlW w u b L) (k : BK b u v) (hl : BL v b (bs L')) : AlW w v b L' :=
  ⟨hl, h.bel.trans (k.bel.mono h.lt.1), h.lt.1, Nat.lt_of_lt_of_le h.lt.2 k.bel.size⟩
theorem AlW.start (w : World) : AlW w (w.alloc (.cells #[.pointer none, .slice none 0 0] 55)) w.heap.size [] :=
  ⟨BL.fresh w, below_alloc _ _, Nat.le_refl _, by rw [World.size_alloc]; omega⟩
set_option maxRecDepth 100000 in
set_option maxHeartbeats 3200000 in
theorem all_any (oa : Option Addr) (l : List Ev) (c : Nat) (w : World) (hA : EsAt w oa l) (hl : l.length ≤ 2000) (x : Int) (L : List Nat) (hx : fe l = x) (hL : (if x = 0 then encs l else []) = L) :
    Calls Try.prog 16 #[.slice oa l.length c] w fun r w' => r = .returned (.tuple #[.string (bs L), .int .i64 x]) ∧ Below w.heap.size w w' := by
  have HA := hide hA
  have HX := hide hx
  have HL := hide hL
  clear hA hx hL
  have A0 := hide (AlW.start w)
  go_enter Try.func16, Try.ntmps16
  go_wp2_with fail
  generalize w.alloc (.cells #[.pointer none, .slice none 0 0] 55) = W at A0 ⊢
  generalize w.heap.size = b at A0 ⊢
  go_loopw [14] (fun i wr => ∃ k : Nat, k ≤ l.length ∧ i = .int .i64 k ∧ fe (l.take k) = 0 ∧ AlW w wr b (encs (l.take k))) (fun i _ => l.length - (intOf i).toNat)
  case atStart => exact ⟨0, Nat.zero_le _, rfl, rfl, A0.out⟩
  case round =>
    clear A0
    obtain ⟨k, hk, rfl, hf, a1⟩ := hrel
    have HF := hide hf
    have A1 := hide a1
    clear hf a1
    by_cases hlt : k < l.length
    · have hlt' : (k : Int) < (l.length : Int) := by omega
      obtain ⟨x0, hx0⟩ : ∃ x0, l[k]? = some x0 := ⟨_, List.getElem?_eq_getElem hlt⟩
      obtain ⟨bb, off, rfl, _⟩ := HA.out k x0 hx0
      obtain ⟨q0, q1, q2, q3, q4, q5, q6, q7⟩ := (HA.out.below A1.out.bel).read hx0
      have HX0 := hide hx0
      clear hx0
      have ENA := hide fun u (h : chk x0 = 0) => encode_ok x0 u h
      have NOA := hide fun u (h : (chk x0 != 0) = true) => encode_no x0 u _ rfl h
      have A2 := hide (A1.out.below (below_alloc wr (.cells #[.int .i64 x0.k, .int .i64 x0.g, .int .i64 x0.c, .int .i64 x0.a, .int .i64 x0.v, .int .i64 x0.m, .bool x0.s, .bool x0.o] 23)))
      unfold evv evc at ENA NOA
      have hlen := encs_len (l.take k)
      rw [List.length_take] at hlen
      have henc := enc_len x0
      cases hc : (chk x0 != 0)
      · have hc0 : chk x0 = 0 := by simpa using hc
        have EN := hide fun u => ENA.out u hc0
        have F2 := hide (fe_ok HF.out HX0.out hc0)
        have E2 := hide (encs_take HX0.out)
        clear ENA NOA hc hc0
        go_wp2_with fail
        refine (EN.out _).mono ?_
        rintro r w3 ⟨rfl, b3⟩
        have A3 := hide (A2.out.below b3)
        clear b3
        go_wp2_with fail
        refine (write_bs b _ _ _ A3.out.bl (by omega) A3.out.lt.2).mono ?_
        rintro r w4 ⟨⟨mm, rfl⟩, h4, k4⟩
        have A4 := hide (A3.out.bk k4 h4)
        rw [← E2.out] at A4
        clear h4 k4
        go_wp2_with fail
        go_roundw
        case rel => exact ⟨k + 1, by omega, by go_num, F2.out, A4.out⟩
        case measure => simp [intOf]; omega
      · have hc0 : chk x0 ≠ 0 := by simpa using hc
        have EN := hide fun u => NOA.out u hc
        have F2 := hide (fe_bad HF.out HX0.out hc0)
        have hx2 : chk x0 = x := F2.out.symm.trans HX.out
        rw [hx2] at EN hc hc0
        have HL2 : Hid (L = []) := by show _ = _; rw [← HL.out, if_neg hc0]
        obtain rfl := HL2.out
        clear ENA NOA hc0 F2 hx2
        go_wp2_with fail
        refine (EN.out _).mono ?_
        rintro r w3 ⟨rfl, b3⟩
        have A3 := hide (A2.out.below b3)
        clear b3
        go_wp2_with fail
        go_ret2
        exact ⟨rfl, A3.out.bel⟩
    · have hlt' : ¬ ((k : Int) < (l.length : Int)) := by omega
      rw [List.take_of_length_le (by omega)] at HF A1
      have hx0 : x = 0 := HX.out.symm.trans HF.out
      have hL2 : L = encs l := by rw [← HL.out, if_pos hx0]
      clear HL HX
      subst hx0 hL2
      go_wp2_with fail
      refine (string_any b _ _ A1.out.bl (Nat.le_of_lt A1.out.lt.2)).mono ?_
      rintro r w6 ⟨rfl, k6⟩
      have B6 := hide (A1.out.bel.trans (k6.bel.mono A1.out.lt.1))
      clear k6
      go_wp2_with fail
      go_ret2
      exact ⟨rfl, B6.out⟩
end En
end Go.Proofs.Ytlcaelfkgillmaa
