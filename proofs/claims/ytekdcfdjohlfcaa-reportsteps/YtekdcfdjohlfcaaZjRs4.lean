import Derived.Test.YtekdcfdjohlfcaaZjRs3
import Derived.Laws.EntriesVeiled
import Derived.Deep.RegionHeld3
import Derived.Maps.RangeWalk
import Derived.Maps.Views
import Derived.Deep.WholeRow
import Derived.Deep.Cut
import Derived.Maps.AppendAt
/- Package cell, over this seat's program: Write, New, Last, Tailed, Wide, and a nil cell. -/
namespace Go.Proofs.Ytekdcfdjohlfcaa
open Go.ChangeShapes Go.WideShapes Go.ChangeAt Go.RowKit
namespace Ce
open Ck
open Ba (KF Bd Nw hide)
open Ep (tidOf clkOf ownB)

theorem ag1_any (own : Int) (A B C b : Nat) (l : List Int) (o : Int) (a0 : 0 ≤ o) (a1 : o ≤ 18446744073709551615) (w : World) (hC : w.cell? ⟨C, 0, none⟩ = some (knF A B)) (hB : w.cell? ⟨B, 0, none⟩ = some (.int .i64 own)) (hA : w.cell? ⟨A, 0, none⟩ = some (.pointer (some ⟨b, 0, none⟩))) (hc : CK w b l) :
    Calls Try.prog 92 #[.int .u64 o, .pointer (some ⟨C, 0, none⟩)] w fun r w' => r = .returned (.bool (!kn own l o)) ∧ w' = w := by
  have K := hide (kn_any own A B b l o a0 a1 w hB hA hc)
  have en := enter_kn
  unfold knF at hC
  clear hB hA hc
  generalize kn own l o = z at *
  go_enter Try.func92, Try.ntmps92
  go_wp2_with fail
  refine K.out.mono ?_
  rintro r w1 ⟨rfl, e1⟩
  obtain rfl := e1.symm
  go_wp2_with fail
  go_ret
  exact ⟨rfl, rfl⟩
theorem enter_ag : ∀ (a : Array Value) (u : World), (callFunc 92 a).run Try.prog u = .ok (.enter 92 a) u := fun _ _ => by rfl

/-- a write -/
def wrR (st : Cst) (e : Int) (l : List Int) : Int := if kn (tidOf e) l st.last = false then 1 else if (st.tl || st.rd.any fun x => !kn (tidOf e) l x) = true then 2 else 0
def wrS (e : Int) : Cst := ⟨e, [], false⟩

set_option maxRecDepth 100000 in
set_option maxHeartbeats 3200000 in
theorem against_any {Y : Nat → Prop} {X : Nat} {w : World} {st : Cst} (h : CW Y X w st) (e : Int) (b : Nat) (l : List Int) (hc : CL Y w b l) (A B : Nat) (hB : w.heap[B]? = some (.cells #[.int .i64 (tidOf e)] 3 (0, 0))) (hA : w.heap[A]? = some (.cells #[.pointer (some ⟨b, 0, none⟩)] 34 (0, 0))) :
    Calls Try.prog 79 #[.pointer (some ⟨X, 0, none⟩), knF A B] w fun r w' => r = .returned (.int .i64 (wrR st e l)) ∧ Below w.heap.size w w' := by
  obtain ⟨v, h⟩ := h
  obtain ⟨w1, hw1⟩ : ∃ w1, w1 = w.alloc (.cells #[knF A B] 145) := ⟨_, rfl⟩
  have b1 : Below w.heap.size w w1 := by rw [hw1]; exact Ba.below_alloc _ _
  have C1 := h.kept b1
  have hC : w1.cell? ⟨w.heap.size, 0, none⟩ = some (knF A B) := by rw [hw1, cell_of (heap_new _ _)]; rfl
  have hB1 : w1.cell? ⟨B, 0, none⟩ = some (.int .i64 (tidOf e)) := by rw [cell_of ((b1.block B (Array.getElem?_eq_some_iff.1 hB).1).trans hB)]; rfl
  have hA1 : w1.cell? ⟨A, 0, none⟩ = some (.pointer (some ⟨b, 0, none⟩)) := by rw [cell_of ((b1.block A (Array.getElem?_eq_some_iff.1 hA).1).trans hA)]; rfl
  have ck := hc w1 (KY.of b1 h.yl)
  have AA := fun o h0 h1 => ag1_any (tidOf e) A B w.heap.size b l o h0 h1 w1 hC hB1 hA1 ck
  have A1 := hide (AA st.last h.gd.last.1 h.gd.last.2)
  have CF := hide (contains_any 92 #[.pointer (some ⟨w.heap.size, 0, none⟩)] enter_ag (fun x => !kn (tidOf e) l x) v st.rd w1 C1.own (fun k _ => AA _ (h.gd.u.nth k).1 (h.gd.u.nth k).2))
  obtain ⟨oa, c, rfl⟩ := own_sl C1.own
  have x0 := cell_of C1.head 0
  have x1 := cell_of C1.head 1
  have x2 := cell_of C1.head 2
  simp at x0 x1 x2
  have B1 := hide b1
  have en := enter_ag
  clear C1 h AA ck hA1 hB1 hC hA hB hc b1
  unfold wrR
  generalize (st.rd.any fun x => !kn (tidOf e) l x) = q2 at *
  generalize kn (tidOf e) l st.last = q1 at *
  generalize st.tl = q3 at *
  unfold knF at hw1 ⊢
  have hw2 := hw1.symm
  clear hw1
  cases q1
  · go_enter Try.func79, Try.ntmps79
    go_wp2_with fail
    refine A1.out.mono ?_
    rintro r w0 ⟨rfl, e0⟩
    obtain rfl := e0.symm
    go_wp2_with fail
    go_ret
    exact ⟨rfl, B1.out⟩
  · cases q3
    · cases q2
      all_goals
        go_enter Try.func79, Try.ntmps79
        go_wp2_with fail
        refine A1.out.mono ?_
        rintro r w0 ⟨rfl, e0⟩
        obtain rfl := e0.symm
        go_wp2_with fail
        refine CF.out.mono ?_
        rintro r w0 ⟨rfl, e0⟩
        obtain rfl := e0.symm
        go_wp2_with fail
        go_ret
        exact ⟨rfl, B1.out⟩
    · go_enter Try.func79, Try.ntmps79
      go_wp2_with fail
      refine A1.out.mono ?_
      rintro r w0 ⟨rfl, e0⟩
      obtain rfl := e0.symm
      go_wp2_with fail
      go_ret
      exact ⟨rfl, B1.out⟩

set_option maxRecDepth 100000 in
set_option maxHeartbeats 3200000 in
theorem write_ok {Y : Nat → Prop} {X : Nat} {w : World} {st : Cst} (h : CW Y X w st) (e : Int) (ho : ownB e = true) (b : Nat) (l : List Int) (hc : CL Y w b l) :
    Calls Try.prog 65 #[.pointer (some ⟨X, 0, none⟩), .int .u64 e, .pointer (some ⟨b, 0, none⟩)] w fun r w' => r = .returned (.tuple #[.int .i64 (wrR st e l), .int .i64 0]) ∧ CW Y X w' (wrS e) ∧ KY Y w w' := by
  have a0 := (own_u ho).1
  have a1 := (own_u ho).2
  have T := hide (takes_any e a0 a1 (some ⟨X, 0, none⟩) w)
  rw [ho] at T
  simp at T
  have KA := hide (know_any e a0 a1 b w)
  obtain ⟨w1, hw1⟩ : ∃ w1, w1 = (w.alloc (.cells #[.pointer (some ⟨b, 0, none⟩)] 34)).alloc (.cells #[.int .i64 (tidOf e)] 3) := ⟨_, rfl⟩
  rw [← hw1] at KA
  have b1 : Below w.heap.size w w1 := by rw [hw1]; exact btr (Ba.below_alloc _ _) (Ba.below_alloc _ _)
  have hA : w1.heap[w.heap.size]? = some (.cells #[.pointer (some ⟨b, 0, none⟩)] 34 (0, 0)) := by
    rw [hw1, Below.heap_alloc _ _ _ (by rw [World.size_alloc]; omega)]; exact heap_new _ _
  have hB : w1.heap[w.heap.size + 1]? = some (.cells #[.int .i64 (tidOf e)] 3 (0, 0)) := by
    rw [hw1]
    have := heap_new (w.alloc (.cells #[.pointer (some ⟨b, 0, none⟩)] 34)) (.cells #[.int .i64 (tidOf e)] 3)
    rwa [World.size_alloc] at this
  have k1 : KY Y w w1 := KY.of b1 h.yl
  have AG := hide (against_any (h.kept b1) e b l (hc.keep k1) w.heap.size (w.heap.size + 1) hB hA)
  have HH := hide h
  have HB := hide b1
  generalize wrR st e l = R at *
  unfold knF at KA AG
  clear h hw1 hA hB k1 hc b1
  generalize hF : w.heap.size = A at *
  go_enter Try.func65, Try.ntmps65
  go_wp2_with fail
  refine T.out.mono ?_
  rintro r w0 ⟨rfl, e0⟩
  obtain rfl := e0.symm
  go_wp2_with fail
  refine KA.out.mono ?_
  rintro r w0 ⟨rfl, e0⟩
  obtain rfl := e0.symm
  go_wp2_with fail
  refine AG.out.mono ?_
  rintro r w2 ⟨rfl, b2⟩
  have B2 := hide b2
  obtain ⟨v, h⟩ := HH.out
  have B12 : Below w.heap.size w w2 := btr (by rw [hF]; exact HB.out) b2
  have h2 := h.kept B12
  have KK : Hid (KY Y w w2) := KY.of B12 h.yl
  have hd := h2.head
  have x0 := cell_of hd 0
  have x1 := cell_of hd 1
  have x2 := cell_of hd 2
  simp at x0 x1 x2
  have f0 : w2.frozen? ⟨X, 0, none⟩ = false := Ba.frozen_of hd 0
  have f1 : w2.frozen? ⟨X, 1, none⟩ = false := Ba.frozen_of hd 1
  have f2 : w2.frozen? ⟨X, 2, none⟩ = false := Ba.frozen_of hd 2
  have FIN : Hid (CW Y X (((w2.setCell ⟨X, 0, none⟩ (.int .u64 e)).setCell ⟨X, 1, none⟩ (.slice none 0 0)).setCell ⟨X, 2, none⟩ (.bool false)) (wrS e) ∧ KY Y w (((w2.setCell ⟨X, 0, none⟩ (.int .u64 e)).setCell ⟨X, 1, none⟩ (.slice none 0 0)).setCell ⟨X, 2, none⟩ (.bool false))) := by
    refine ⟨⟨.slice none 0 0, ?_, World.ownsRow_nil _ _ _ _, by simp [Value.ownBlock], h2.yx, by simp [Value.ownBlock], ?_, ⟨.inr (.inr ho), by simp [wrS], srt_nil⟩⟩, ?_⟩
    · have q1 := Ba.heap_setCell_same (i := 0) hd (.int .u64 e)
      have q2 := Ba.heap_setCell_same (i := 1) q1 (.slice none 0 0)
      have q3 := Ba.heap_setCell_same (i := 2) q2 (.bool false)
      simpa [wrS] using q3
    · intro k hk
      have := h2.yl k hk
      simpa [World.setCell] using this
    · exact ((KK.out.trans (KY.set _ h2.yx _ _)).trans (KY.set _ h2.yx _ _)).trans (KY.set _ h2.yx _ _)
  clear h h2 hd HH B12 B2 b2 HB AG KA T KK
  go_wp2_with fail
  go_ret2
  exact ⟨rfl, FIN.out⟩

theorem new_any (w : World) : Calls Try.prog 49 #[] w fun r w' => r = .returned (.pointer (some ⟨w.heap.size, 0, none⟩)) ∧ CW (Lw w) w.heap.size w' ⟨0, [], false⟩ ∧ Below w.heap.size w w' := by
  have FIN : Hid (CW (Lw w) w.heap.size (w.alloc (.cells #[.int .u64 0, .slice none 0 0, .bool false] 134)) ⟨0, [], false⟩ ∧ Below w.heap.size w (w.alloc (.cells #[.int .u64 0, .slice none 0 0, .bool false] 134))) := by
    refine ⟨⟨.slice none 0 0, heap_new _ _, World.ownsRow_nil _ _ _ _, by simp [Value.ownBlock], Nat.lt_irrefl _, by simp [Value.ownBlock], fun k hk => ?_, ⟨.inl rfl, by simp, srt_nil⟩⟩, Ba.below_alloc _ _⟩
    rw [World.size_alloc]
    exact Nat.lt_succ_of_lt hk
  go_enter Try.func49, Try.ntmps49
  go_wp2_with fail
  go_ret
  exact ⟨rfl, FIN.out⟩
theorem reads_nil (w : World) : Calls Try.prog 29 #[.pointer none] w fun r w' => r = .returned (.slice none 0 0) ∧ w' = w := by
  go_enter Try.func29, Try.ntmps29
  go_wp2_with fail
  go_ret
  exact ⟨rfl, rfl⟩
/-- an access that is none, or of a nil cell -/
def accE (e : Int) : Int := if ownB e = false then 1 else 7
theorem read_no (e : Int) (a0 : 0 ≤ e) (a1 : e ≤ 18446744073709551615) (p : Option Addr) (q : Value) (w : World) (hp : ownB e = false ∨ p = none) : Calls Try.prog 64 #[.pointer p, .int .u64 e, q] w fun r w' => r = .returned (.tuple #[.int .i64 0, .int .i64 (accE e)]) ∧ w' = w := by
  have T := hide (takes_any e a0 a1 p w)
  unfold accE
  have hx : (if ownB e = false then (1 : Int) else if p = none then 7 else 0) = if ownB e = false then 1 else 7 := by
    rcases hp with h | h <;> simp [h]
  rw [hx] at T
  obtain ⟨x, hx2⟩ : ∃ x, (if ownB e = false then (1 : Int) else 7) = x := ⟨_, rfl⟩
  have hx0 : (x == 0) = false := by rw [← hx2]; split <;> rfl
  rw [hx2] at T ⊢
  clear hx hp hx2
  go_enter Try.func64, Try.ntmps64
  go_wp2_with fail
  refine T.out.mono ?_
  rintro r w0 ⟨rfl, e0⟩
  obtain rfl := e0.symm
  go_wp2_with fail
  go_ret2
  exact ⟨rfl, rfl⟩
theorem write_no (e : Int) (a0 : 0 ≤ e) (a1 : e ≤ 18446744073709551615) (p : Option Addr) (q : Value) (w : World) (hp : ownB e = false ∨ p = none) : Calls Try.prog 65 #[.pointer p, .int .u64 e, q] w fun r w' => r = .returned (.tuple #[.int .i64 0, .int .i64 (accE e)]) ∧ w' = w := by
  have T := hide (takes_any e a0 a1 p w)
  unfold accE
  have hx : (if ownB e = false then (1 : Int) else if p = none then 7 else 0) = if ownB e = false then 1 else 7 := by
    rcases hp with h | h <;> simp [h]
  rw [hx] at T
  obtain ⟨x, hx2⟩ : ∃ x, (if ownB e = false then (1 : Int) else 7) = x := ⟨_, rfl⟩
  have hx0 : (x == 0) = false := by rw [← hx2]; split <;> rfl
  rw [hx2] at T ⊢
  clear hx hp hx2
  go_enter Try.func65, Try.ntmps65
  go_wp2_with fail
  refine T.out.mono ?_
  rintro r w0 ⟨rfl, e0⟩
  obtain rfl := e0.symm
  go_wp2_with fail
  go_ret2
  exact ⟨rfl, rfl⟩
end Ce
end Go.Proofs.Ytekdcfdjohlfcaa
/- Package cell, over this seat's program: Reads, Retire. -/
namespace Go.Proofs.Ytekdcfdjohlfcaa
open Go.ChangeShapes Go.WideShapes Go.ChangeAt Go.RowKit
namespace Ce
open Ck
open Ba (KF Bd Nw hide)
open Ep (tidOf clkOf ownB)

theorem run_mkE (w : World) (n : Nat) (hn : n ≤ 256) : (Instr.makeSlice 86 (.int .i64 (n : Int)) (.int .i64 (n : Int))).run Try.prog w = .ok (.slice (some ⟨w.heap.size, 0, none⟩) n n) (w.alloc (.cells (madeCells #[.int .u64 0] n) 61)) := by
  obtain ⟨i0, hi, hz0, hz1, hz2⟩ := info_parts info_e
  have := run_make (P := Try.prog) w 86 61 i0 (.int .u64 0) Try.underlying86 hi hz0 .i64 .i64 n n (by omega) (Int.le_refl _) (by rw [hz2]; omega) (by omega)
  rw [hz1] at this
  simpa [Value.cells] using this
theorem mkE0 : madeCells #[Value.int .u64 0] 0 = #[] := Array.eq_empty_of_size_eq_zero (size_madeCells _ _)
theorem run_cpE (w : World) (oa : Option Addr) (l : List Int) (c : Nat) (ty : TypeId) (ho : w.ownsRow 0 61 1 (.slice oa l.length c) l.length (us l)) :
    (Builtin.copy_ #[86, 86] ty #[.slice (some ⟨w.heap.size, 0, none⟩) l.length l.length, .slice oa l.length c]).run Try.prog (w.alloc (.cells (madeCells #[.int .u64 0] l.length) 61)) = .ok (goInt l.length) (w.alloc (.cells (us l).toArray 61)) := by
  obtain ⟨i0, hi, hz0, hz1, hz2⟩ := info_parts info_e
  have hsz : (Try.prog.info? 61).map (·.size) = some 1 := info_e1
  by_cases h0 : l.length = 0
  · have e : l = [] := List.eq_nil_of_length_eq_zero h0
    subst e
    have := run_copy_none (P := Try.prog) (w.alloc (.cells (madeCells #[.int .u64 0] 0) 61)) 86 86 ty 61 (some ⟨w.heap.size, 0, none⟩) oa 0 0 0 c Try.underlying86 hsz rfl
    rw [mkE0] at this
    rw [List.length_nil, mkE0]
    exact this
  · obtain ⟨g, rfl, -⟩ := own_cell ho (k := 0) (by omega)
    obtain ⟨cur, hg, hs, hlc, hcm, hcell⟩ := own_cur ho
    have hg' : (w.alloc (.cells (madeCells #[.int .u64 0] l.length) 61)).heap[g]? = some (.cells cur 61 (0, 0)) := (Below.heap_alloc w _ g (Array.getElem?_eq_some_iff.1 hg).1).trans hg
    have := run_copy_row (P := Try.prog) (w.alloc (.cells (madeCells #[.int .u64 0] l.length) 61)) 86 86 ty 61 w.heap.size 0 l.length l.length ⟨g, 0, none⟩ l.length c (madeCells #[.int .u64 0] l.length) 61 (us l)
      Try.underlying86 hsz (heap_new _ _) (by simp [us]) (by
        intro j v hj
        have hjl : j < l.length := by
          have := (List.getElem?_eq_some_iff.1 hj).1
          simpa [us] using this
        rw [Addr.add_lit, Nat.zero_add, cell_of hg', hcell j hjl, ← us_at l j hjl, hj]) (by simp [size_madeCells, us]) (us_one l)
    rw [this, setRow_new]
    have hd : (madeCells #[Value.int .u64 0] l.length).toList.drop l.length = [] := by
      apply List.drop_eq_nil_of_le
      simp [size_madeCells]
    simp [us, hd]

theorem reads_any {Y : Nat → Prop} {X : Nat} {w : World} {st : Cst} (h : CW Y X w st) : Calls Try.prog 29 #[.pointer (some ⟨X, 0, none⟩)] w fun r w' => r = .returned (.slice (some ⟨w.heap.size, 0, none⟩) st.rd.length st.rd.length) ∧ w' = w.alloc (.cells (us st.rd).toArray 61) := by
  obtain ⟨v, h⟩ := h
  have hl := srt_len h.gd.so h.gd.ro
  have hm := run_mkE w st.rd.length hl
  obtain ⟨oa, c, rfl⟩ := own_sl h.own
  have hcp := run_cpE w oa st.rd c 3 h.own
  have x0 := cell_of h.head 1
  simp at x0
  have hd1 := (h.kept (Ba.below_alloc w (.cells (madeCells #[.int .u64 0] st.rd.length) 61))).head
  have x1 := cell_of hd1 1
  simp at x1
  clear h hd1
  generalize hN : st.rd.length = N at *
  go_enter Try.func29, Try.ntmps29
  go_wp2_with fail
  go_ret
  exact ⟨rfl, rfl⟩

theorem retire_arg (p : Option Addr) (tid cut : Int) (h : tid < 0 ∨ 256 ≤ tid ∨ cut < 0 ∨ 1048576 < cut) (w : World) : Calls Try.prog 67 #[.pointer p, .int .i64 tid, .int .i64 cut] w fun r w' => r = .returned (.int .i64 1) ∧ w' = w := by
  by_cases h1 : tid < 0
  · clear h
    go_enter Try.func67, Try.ntmps67
    go_wp2_with fail
    go_ret
    exact ⟨rfl, rfl⟩
  by_cases h2 : 256 ≤ tid
  · clear h
    go_enter Try.func67, Try.ntmps67
    go_wp2_with fail
    go_ret
    exact ⟨rfl, rfl⟩
  by_cases h3 : cut < 0
  · clear h
    go_enter Try.func67, Try.ntmps67
    go_wp2_with fail
    go_ret
    exact ⟨rfl, rfl⟩
  have h4 : 1048576 < cut := by omega
  clear h
  go_enter Try.func67, Try.ntmps67
  go_wp2_with fail
  go_ret
  exact ⟨rfl, rfl⟩
theorem retire_nil (tid cut : Int) (h0 : 0 ≤ tid) (h1 : tid < 256) (h2 : 0 ≤ cut) (h3 : cut ≤ 1048576) (w : World) : Calls Try.prog 67 #[.pointer none, .int .i64 tid, .int .i64 cut] w fun r w' => r = .returned (.int .i64 7) ∧ w' = w := by
  go_enter Try.func67, Try.ntmps67
  go_wp2_with fail
  go_ret
  exact ⟨rfl, rfl⟩

/-- a tid is retired -/
def retL (st : Cst) (tid cut : Int) : Int := if (tidOf st.last == tid) = true then remE st.last cut else st.last
def retT (st : Cst) (tid cut : Int) : Bool := st.tl || (has st.rd tid && (remE (nth st.rd (pos st.rd tid)) cut == 18446744073709551615))
def retD (st : Cst) (tid : Int) : List Int := if has st.rd tid = true then outL st.rd (pos st.rd tid) else st.rd
def retS (st : Cst) (tid cut : Int) : Cst := ⟨retL st tid cut, retD st tid, retT st tid cut⟩
theorem has_pos {l : List Int} (hs : Srt l) {t : Int} (h : has l t = true) : pos l t < l.length ∧ tidOf (nth l (pos l t)) = t := by
  unfold has at h
  obtain ⟨x, hx, he⟩ := List.any_eq_true.1 h
  obtain ⟨k, hk, rfl⟩ := mem_nth hx
  have he' : tidOf (nth l k) = t := by simpa using he
  have hpk : pos l t = k := pos_is (by omega) (fun j hj => by have := hs j k hj hk; omega) (fun j hj hl => by
    by_cases e : j = k
    · rw [e]; omega
    · have := hs k j (by omega) hl; omega)
  rw [hpk]
  exact ⟨hk, he'⟩
theorem srt_out {l : List Int} (hs : Srt l) {i : Nat} (hi : i < l.length) : Srt (outL l i) := by
  intro a b hab hb
  rw [out_len l i hi] at hb
  by_cases h1 : b < i
  · rw [nth_out_lt l i a hi (by omega), nth_out_lt l i b hi h1]; exact hs a b hab (by omega)
  · rw [nth_out_ge l i b hi (by omega)]
    by_cases h2 : a < i
    · rw [nth_out_lt l i a hi h2]; exact hs a (b + 1) (by omega) (by omega)
    · rw [nth_out_ge l i a hi (by omega)]; exact hs _ _ (by omega) (by omega)
theorem mem_outL {l : List Int} {i : Nat} {x : Int} (h : x ∈ outL l i) : x ∈ l := by
  rcases List.mem_append.1 h with q | q
  · exact List.mem_of_mem_take q
  · exact List.mem_of_mem_drop q
theorem Gd.retire {st : Cst} (h : Gd st) (tid cut : Int) : Gd (retS st tid cut) := by
  refine ⟨?_, ?_, ?_⟩
  · show retL st tid cut = 0 ∨ retL st tid cut = _ ∨ ownB (retL st tid cut) = true
    unfold retL
    split
    · unfold remE; split
      · exact .inl rfl
      · exact .inr (.inl rfl)
    · exact h.la
  · show ∀ x ∈ retD st tid, ownB x = true
    unfold retD
    split
    · exact fun x hx => h.ro x (mem_outL hx)
    · exact h.ro
  · show Srt (retD st tid)
    unfold retD
    split
    · rename_i hh; exact srt_out h.so (has_pos h.so hh).1
    · exact h.so
theorem CX.setLast {Y : Nat → Prop} {X : Nat} {w : World} {st : Cst} {v : Value} (h : CX Y X w st v) (x : Int) (hx : x = 0 ∨ x = 18446744073709551615 ∨ ownB x = true) : CX Y X (w.setCell ⟨X, 0, none⟩ (.int .u64 x)) ⟨x, st.rd, st.tl⟩ v := by
  refine ⟨?_, own_set1 h.own h.ne, h.ne, h.yx, h.yg, fun k hk => ?_, ⟨hx, h.gd.ro, h.gd.so⟩⟩
  · have := Ba.heap_setCell_same (i := 0) h.head (.int .u64 x)
    simpa using this
  · have := h.yl k hk
    simpa [World.setCell] using this
theorem CX.setTl {Y : Nat → Prop} {X : Nat} {w : World} {st : Cst} {v : Value} (h : CX Y X w st v) (x : Bool) : CX Y X (w.setCell ⟨X, 2, none⟩ (.bool x)) ⟨st.last, st.rd, x⟩ v := by
  refine ⟨?_, own_set1 h.own h.ne, h.ne, h.yx, h.yg, fun k hk => ?_, ⟨h.gd.la, h.gd.ro, h.gd.so⟩⟩
  · have := Ba.heap_setCell_same (i := 2) h.head (.bool x)
    simpa using this
  · have := h.yl k hk
    simpa [World.setCell] using this

end Ce
end Go.Proofs.Ytekdcfdjohlfcaa
/- Package cell, over this seat's program: Retire. -/
namespace Go.Proofs.Ytekdcfdjohlfcaa
open Go.ChangeShapes Go.WideShapes Go.ChangeAt Go.RowKit
namespace Ce
open Ck
open Ba (KF Bd Nw hide)
open Ep (tidOf clkOf ownB)

/-- what Retire gives -/
def RetR (Y : Nat → Prop) (X : Nat) (w : World) (st : Cst) (tid cut : Int) (r : Ending) (w' : World) : Prop := r = .returned (.int .i64 0) ∧ CW Y X w' (retS st tid cut) ∧ KY Y w w'

set_option maxRecDepth 100000 in
set_option maxHeartbeats 800000 in
theorem ret_fff {Y : Nat → Prop} {X : Nat} {w : World} {st : Cst} (h : CW Y X w st) (tid cut : Int) (h0 : 0 ≤ tid) (h1 : tid < 256) (h2 : 0 ≤ cut) (h3 : cut ≤ 1048576) (hq : (tidOf st.last == tid) = false) (hB : has st.rd tid = false) (htl : st.tl = false) :
    Calls Try.prog 67 #[.pointer (some ⟨X, 0, none⟩), .int .i64 tid, .int .i64 cut] w (RetR Y X w st tid cut) := by
  unfold RetR
  have GD := hide (h.gd.retire tid cut)
  have GU := hide h.gd.u
  obtain ⟨v, h⟩ := h
  obtain ⟨oa, c, rfl⟩ := own_sl h.own
  have la := h.gd.last
  have HT := hide (Ep.tid_any st.last la.1 la.2 w)
  have x0 := cell_of h.head 0
  simp at x0
  have ES : Hid (retS st tid cut = ⟨st.last, st.rd, false⟩) := by
    show retS st tid cut = ⟨st.last, st.rd, false⟩
    have g1 : retL st tid cut = st.last := by simp [retL, hq]
    have g2 : retD st tid = st.rd := by simp [retD, hB]
    have g3 : retT st tid cut = false := by simp [retT, hB, htl]
    unfold retS
    rw [g1, g2, g3]
  have CC := hide h
  have KK : Hid (KY Y w w) := KY.refl _ _
  clear h la
  have CC : Hid (CX Y X (w) ⟨st.last, st.rd, false⟩ (.slice oa st.rd.length c)) := by
    have := CC.out
    show CX Y X w ⟨st.last, st.rd, false⟩ _; rw [← htl]
    exact this
  go_enter Try.func67, Try.ntmps67
  go_wp2_with fail
  refine HT.out.mono ?_
  rintro r w0 ⟨rfl, e0⟩
  obtain rfl := e0.symm
  go_wp2_with fail
  clear x0
  have FN := hide (find_any ⟨_, CC.out⟩ tid)
  rw [show (⟨st.last, st.rd, false⟩ : Cst).rd = st.rd from rfl, hB] at FN
  refine FN.out.mono ?_
  rintro r w0 ⟨rfl, e0⟩
  obtain rfl := e0.symm
  clear FN HT
  go_wp2_with fail
  go_ret
  rw [ES.out]
  exact ⟨rfl, ⟨_, CC.out⟩, KK.out⟩

set_option maxRecDepth 100000 in
set_option maxHeartbeats 800000 in
theorem ret_fft {Y : Nat → Prop} {X : Nat} {w : World} {st : Cst} (h : CW Y X w st) (tid cut : Int) (h0 : 0 ≤ tid) (h1 : tid < 256) (h2 : 0 ≤ cut) (h3 : cut ≤ 1048576) (hq : (tidOf st.last == tid) = false) (hB : has st.rd tid = false) (htl : st.tl = true) :
    Calls Try.prog 67 #[.pointer (some ⟨X, 0, none⟩), .int .i64 tid, .int .i64 cut] w (RetR Y X w st tid cut) := by
  unfold RetR
  have GD := hide (h.gd.retire tid cut)
  have GU := hide h.gd.u
  obtain ⟨v, h⟩ := h
  obtain ⟨oa, c, rfl⟩ := own_sl h.own
  have la := h.gd.last
  have HT := hide (Ep.tid_any st.last la.1 la.2 w)
  have x0 := cell_of h.head 0
  simp at x0
  have ES : Hid (retS st tid cut = ⟨st.last, st.rd, true⟩) := by
    show retS st tid cut = ⟨st.last, st.rd, true⟩
    have g1 : retL st tid cut = st.last := by simp [retL, hq]
    have g2 : retD st tid = st.rd := by simp [retD, hB]
    have g3 : retT st tid cut = true := by simp [retT, hB, htl]
    unfold retS
    rw [g1, g2, g3]
  have CC := hide h
  have KK : Hid (KY Y w w) := KY.refl _ _
  clear h la
  have CC : Hid (CX Y X (w) ⟨st.last, st.rd, true⟩ (.slice oa st.rd.length c)) := by
    have := CC.out
    show CX Y X w ⟨st.last, st.rd, true⟩ _; rw [← htl]
    exact this
  go_enter Try.func67, Try.ntmps67
  go_wp2_with fail
  refine HT.out.mono ?_
  rintro r w0 ⟨rfl, e0⟩
  obtain rfl := e0.symm
  go_wp2_with fail
  clear x0
  have FN := hide (find_any ⟨_, CC.out⟩ tid)
  rw [show (⟨st.last, st.rd, true⟩ : Cst).rd = st.rd from rfl, hB] at FN
  refine FN.out.mono ?_
  rintro r w0 ⟨rfl, e0⟩
  obtain rfl := e0.symm
  clear FN HT
  go_wp2_with fail
  go_ret
  rw [ES.out]
  exact ⟨rfl, ⟨_, CC.out⟩, KK.out⟩

set_option maxRecDepth 100000 in
set_option maxHeartbeats 800000 in
theorem ret_ftt {Y : Nat → Prop} {X : Nat} {w : World} {st : Cst} (h : CW Y X w st) (tid cut : Int) (h0 : 0 ≤ tid) (h1 : tid < 256) (h2 : 0 ≤ cut) (h3 : cut ≤ 1048576) (hq : (tidOf st.last == tid) = false) (hB : has st.rd tid = true) (htl : st.tl = true) :
    Calls Try.prog 67 #[.pointer (some ⟨X, 0, none⟩), .int .i64 tid, .int .i64 cut] w (RetR Y X w st tid cut) := by
  unfold RetR
  have GD := hide (h.gd.retire tid cut)
  have GU := hide h.gd.u
  have hPl := (has_pos h.gd.so hB).1
  have hl256 := srt_len h.gd.so h.gd.ro
  obtain ⟨v, h⟩ := h
  obtain ⟨oa, c, rfl⟩ := own_sl h.own
  have la := h.gd.last
  have HT := hide (Ep.tid_any st.last la.1 la.2 w)
  have x0 := cell_of h.head 0
  simp at x0
  have ES : Hid (retS st tid cut = ⟨st.last, outL st.rd (pos st.rd tid), true⟩) := by
    show retS st tid cut = ⟨st.last, outL st.rd (pos st.rd tid), true⟩
    have g1 : retL st tid cut = st.last := by simp [retL, hq]
    have g2 : retD st tid = outL st.rd (pos st.rd tid) := by simp [retD, hB]
    have g3 : retT st tid cut = true := by simp [retT, hB, htl]
    unfold retS
    rw [g1, g2, g3]
  have CC := hide h
  have KK : Hid (KY Y w w) := KY.refl _ _
  clear h la
  have CC : Hid (CX Y X (w) ⟨st.last, st.rd, true⟩ (.slice oa st.rd.length c)) := by
    have := CC.out
    show CX Y X w ⟨st.last, st.rd, true⟩ _; rw [← htl]
    exact this
  go_enter Try.func67, Try.ntmps67
  go_wp2_with fail
  refine HT.out.mono ?_
  rintro r w0 ⟨rfl, e0⟩
  obtain rfl := e0.symm
  go_wp2_with fail
  clear x0
  have FN := hide (find_any ⟨_, CC.out⟩ tid)
  rw [show (⟨st.last, st.rd, true⟩ : Cst).rd = st.rd from rfl, hB] at FN
  refine FN.out.mono ?_
  rintro r w0 ⟨rfl, e0⟩
  obtain rfl := e0.symm
  clear FN HT
  obtain ⟨P, hP⟩ : ∃ P, pos st.rd tid = P := ⟨_, rfl⟩
  simp only [hP] at ES hPl ⊢
  obtain ⟨g, rfl, d0, -⟩ := own_cell CC.out.own hPl
  have d0 : w.cell? ⟨g, P, none⟩ = some (.int .u64 (nth st.rd P)) := d0
  have hPi : (P : Int) < (st.rd.length : Int) := by omega
  have hPw : (P : Int) < 256 := by omega
  have hPx : IntKind.i64.wrap ((P : Int) + 1) = (P : Int) + 1 := by rw [IntKind.wrap_i64]; omega
  have y1 := cell_of CC.out.head 1
  have y2 := cell_of CC.out.head 2
  simp at y1 y2
  have y3 : w.frozen? ⟨X, 2, none⟩ = false := Ba.frozen_of CC.out.head 2
  have CC2 := hide (CC.out.setTl true)
  have KK2 := hide (KK.out.trans (KY.set w CC.out.yx 2 (.bool true)))
  have u1 := cell_of CC2.out.head 1
  simp at u1
  have DL := hide (delete_any _ st.rd P _ CC2.out.own hPl)
  clear CC KK
  go_wp2_with fail
  generalize w.setCell ⟨X, 2, none⟩ (.bool true) = W2 at *
  refine DL.out.mono ?_
  rintro r w3 ⟨v3, rfl, o3, bk3, g3⟩
  obtain ⟨oa3, c3, rfl⟩ := own_sl o3
  have h3 : w3.heap[X]? = some (.cells #[.int .u64 (st.last), .slice (some ⟨g, 0, none⟩) st.rd.length c, .bool true] 134 (0, 0)) := (g3.block X CC2.out.lt (fun q => CC2.out.ne q.symm)).trans CC2.out.head
  have y5 := cell_of h3 1
  simp at y5
  have f5 : w3.frozen? ⟨X, 1, none⟩ = false := Ba.frozen_of h3 1
  have ne3 := CC2.out.ne
  rw [← bk3] at ne3
  rw [ES.out] at GD
  have C4 : Hid (CX Y X (w3.setCell ⟨X, 1, none⟩ (.slice oa3 (outL st.rd P).length c3)) ⟨st.last, outL st.rd P, true⟩ (.slice oa3 (outL st.rd P).length c3)) := by
    refine ⟨head_set h3, own_set1 o3 ne3, ne3, CC2.out.yx, fun g q => ?_, fun k hk => ?_, GD.out⟩
    · rw [bk3] at q; exact CC2.out.yg g q
    · rw [show (w3.setCell ⟨X, 1, none⟩ (.slice oa3 (outL st.rd P).length c3)).heap.size = w3.heap.size by simp [World.setCell]]; exact Nat.lt_of_lt_of_le (CC2.out.yl k hk) g3.size
  have K4 : Hid (KY Y w (w3.setCell ⟨X, 1, none⟩ (.slice oa3 (outL st.rd P).length c3))) := (KK2.out.trans (KY.grown g3 CC2.out.yl CC2.out.yg)).trans (KY.set _ CC2.out.yx _ _)
  clear h3 ne3 bk3 g3 o3 DL CC2 KK2 GD
  generalize hn3 : (outL st.rd P).length = n3 at *
  go_wp2_with fail
  go_ret
  rw [ES.out]
  exact ⟨rfl, ⟨_, C4.out⟩, K4.out⟩

set_option maxRecDepth 100000 in
set_option maxHeartbeats 800000 in
theorem ret_ftff {Y : Nat → Prop} {X : Nat} {w : World} {st : Cst} (h : CW Y X w st) (tid cut : Int) (h0 : 0 ≤ tid) (h1 : tid < 256) (h2 : 0 ≤ cut) (h3 : cut ≤ 1048576) (hq : (tidOf st.last == tid) = false) (hB : has st.rd tid = true) (htl : st.tl = false) (hz : (remE (nth st.rd (pos st.rd tid)) cut == 18446744073709551615) = false) :
    Calls Try.prog 67 #[.pointer (some ⟨X, 0, none⟩), .int .i64 tid, .int .i64 cut] w (RetR Y X w st tid cut) := by
  unfold RetR
  have GD := hide (h.gd.retire tid cut)
  have GU := hide h.gd.u
  have hPl := (has_pos h.gd.so hB).1
  have hl256 := srt_len h.gd.so h.gd.ro
  obtain ⟨v, h⟩ := h
  obtain ⟨oa, c, rfl⟩ := own_sl h.own
  have la := h.gd.last
  have HT := hide (Ep.tid_any st.last la.1 la.2 w)
  have x0 := cell_of h.head 0
  simp at x0
  have ES : Hid (retS st tid cut = ⟨st.last, outL st.rd (pos st.rd tid), false⟩) := by
    show retS st tid cut = ⟨st.last, outL st.rd (pos st.rd tid), false⟩
    have g1 : retL st tid cut = st.last := by simp [retL, hq]
    have g2 : retD st tid = outL st.rd (pos st.rd tid) := by simp [retD, hB]
    have g3 : retT st tid cut = false := by simp only [retT, hB, htl, hz]; rfl
    unfold retS
    rw [g1, g2, g3]
  have CC := hide h
  have KK : Hid (KY Y w w) := KY.refl _ _
  clear h la
  have CC : Hid (CX Y X (w) ⟨st.last, st.rd, false⟩ (.slice oa st.rd.length c)) := by
    have := CC.out
    show CX Y X w ⟨st.last, st.rd, false⟩ _; rw [← htl]
    exact this
  go_enter Try.func67, Try.ntmps67
  go_wp2_with fail
  refine HT.out.mono ?_
  rintro r w0 ⟨rfl, e0⟩
  obtain rfl := e0.symm
  go_wp2_with fail
  clear x0
  have FN := hide (find_any ⟨_, CC.out⟩ tid)
  rw [show (⟨st.last, st.rd, false⟩ : Cst).rd = st.rd from rfl, hB] at FN
  refine FN.out.mono ?_
  rintro r w0 ⟨rfl, e0⟩
  obtain rfl := e0.symm
  clear FN HT
  obtain ⟨P, hP⟩ : ∃ P, pos st.rd tid = P := ⟨_, rfl⟩
  simp only [hP] at ES hPl ⊢
  obtain ⟨g, rfl, d0, -⟩ := own_cell CC.out.own hPl
  have d0 : w.cell? ⟨g, P, none⟩ = some (.int .u64 (nth st.rd P)) := d0
  have hPi : (P : Int) < (st.rd.length : Int) := by omega
  have hPw : (P : Int) < 256 := by omega
  have hPx : IntKind.i64.wrap ((P : Int) + 1) = (P : Int) + 1 := by rw [IntKind.wrap_i64]; omega
  have y1 := cell_of CC.out.head 1
  have y2 := cell_of CC.out.head 2
  simp at y1 y2
  have y3 : w.frozen? ⟨X, 2, none⟩ = false := Ba.frozen_of CC.out.head 2
  have RM := hide (rem_any (nth st.rd P) cut (GU.out.nth P).1 (GU.out.nth P).2 w)
  rw [hP] at hz
  generalize remE (nth st.rd P) cut = rm at *
  go_wp2_with fail
  refine RM.out.mono ?_
  rintro r w0 ⟨rfl, e0⟩
  obtain rfl := e0.symm
  clear RM
  have CC2 := hide (CC.out.setTl false)
  have KK2 := hide (KK.out.trans (KY.set w CC.out.yx 2 (.bool false)))
  have u1 := cell_of CC2.out.head 1
  simp at u1
  have DL := hide (delete_any _ st.rd P _ CC2.out.own hPl)
  clear CC KK
  go_wp2_with fail
  generalize w.setCell ⟨X, 2, none⟩ (.bool false) = W2 at *
  refine DL.out.mono ?_
  rintro r w3 ⟨v3, rfl, o3, bk3, g3⟩
  obtain ⟨oa3, c3, rfl⟩ := own_sl o3
  have h3 : w3.heap[X]? = some (.cells #[.int .u64 (st.last), .slice (some ⟨g, 0, none⟩) st.rd.length c, .bool false] 134 (0, 0)) := (g3.block X CC2.out.lt (fun q => CC2.out.ne q.symm)).trans CC2.out.head
  have y5 := cell_of h3 1
  simp at y5
  have f5 : w3.frozen? ⟨X, 1, none⟩ = false := Ba.frozen_of h3 1
  have ne3 := CC2.out.ne
  rw [← bk3] at ne3
  rw [ES.out] at GD
  have C4 : Hid (CX Y X (w3.setCell ⟨X, 1, none⟩ (.slice oa3 (outL st.rd P).length c3)) ⟨st.last, outL st.rd P, false⟩ (.slice oa3 (outL st.rd P).length c3)) := by
    refine ⟨head_set h3, own_set1 o3 ne3, ne3, CC2.out.yx, fun g q => ?_, fun k hk => ?_, GD.out⟩
    · rw [bk3] at q; exact CC2.out.yg g q
    · rw [show (w3.setCell ⟨X, 1, none⟩ (.slice oa3 (outL st.rd P).length c3)).heap.size = w3.heap.size by simp [World.setCell]]; exact Nat.lt_of_lt_of_le (CC2.out.yl k hk) g3.size
  have K4 : Hid (KY Y w (w3.setCell ⟨X, 1, none⟩ (.slice oa3 (outL st.rd P).length c3))) := (KK2.out.trans (KY.grown g3 CC2.out.yl CC2.out.yg)).trans (KY.set _ CC2.out.yx _ _)
  clear h3 ne3 bk3 g3 o3 DL CC2 KK2 GD
  generalize hn3 : (outL st.rd P).length = n3 at *
  go_wp2_with fail
  go_ret
  rw [ES.out]
  exact ⟨rfl, ⟨_, C4.out⟩, K4.out⟩

set_option maxRecDepth 100000 in
set_option maxHeartbeats 800000 in
theorem ret_ftft {Y : Nat → Prop} {X : Nat} {w : World} {st : Cst} (h : CW Y X w st) (tid cut : Int) (h0 : 0 ≤ tid) (h1 : tid < 256) (h2 : 0 ≤ cut) (h3 : cut ≤ 1048576) (hq : (tidOf st.last == tid) = false) (hB : has st.rd tid = true) (htl : st.tl = false) (hz : (remE (nth st.rd (pos st.rd tid)) cut == 18446744073709551615) = true) :
    Calls Try.prog 67 #[.pointer (some ⟨X, 0, none⟩), .int .i64 tid, .int .i64 cut] w (RetR Y X w st tid cut) := by
  unfold RetR
  have GD := hide (h.gd.retire tid cut)
  have GU := hide h.gd.u
  have hPl := (has_pos h.gd.so hB).1
  have hl256 := srt_len h.gd.so h.gd.ro
  obtain ⟨v, h⟩ := h
  obtain ⟨oa, c, rfl⟩ := own_sl h.own
  have la := h.gd.last
  have HT := hide (Ep.tid_any st.last la.1 la.2 w)
  have x0 := cell_of h.head 0
  simp at x0
  have ES : Hid (retS st tid cut = ⟨st.last, outL st.rd (pos st.rd tid), true⟩) := by
    show retS st tid cut = ⟨st.last, outL st.rd (pos st.rd tid), true⟩
    have g1 : retL st tid cut = st.last := by simp [retL, hq]
    have g2 : retD st tid = outL st.rd (pos st.rd tid) := by simp [retD, hB]
    have g3 : retT st tid cut = true := by simp only [retT, hB, htl, hz]; rfl
    unfold retS
    rw [g1, g2, g3]
  have CC := hide h
  have KK : Hid (KY Y w w) := KY.refl _ _
  clear h la
  have CC : Hid (CX Y X (w) ⟨st.last, st.rd, false⟩ (.slice oa st.rd.length c)) := by
    have := CC.out
    show CX Y X w ⟨st.last, st.rd, false⟩ _; rw [← htl]
    exact this
  go_enter Try.func67, Try.ntmps67
  go_wp2_with fail
  refine HT.out.mono ?_
  rintro r w0 ⟨rfl, e0⟩
  obtain rfl := e0.symm
  go_wp2_with fail
  clear x0
  have FN := hide (find_any ⟨_, CC.out⟩ tid)
  rw [show (⟨st.last, st.rd, false⟩ : Cst).rd = st.rd from rfl, hB] at FN
  refine FN.out.mono ?_
  rintro r w0 ⟨rfl, e0⟩
  obtain rfl := e0.symm
  clear FN HT
  obtain ⟨P, hP⟩ : ∃ P, pos st.rd tid = P := ⟨_, rfl⟩
  simp only [hP] at ES hPl ⊢
  obtain ⟨g, rfl, d0, -⟩ := own_cell CC.out.own hPl
  have d0 : w.cell? ⟨g, P, none⟩ = some (.int .u64 (nth st.rd P)) := d0
  have hPi : (P : Int) < (st.rd.length : Int) := by omega
  have hPw : (P : Int) < 256 := by omega
  have hPx : IntKind.i64.wrap ((P : Int) + 1) = (P : Int) + 1 := by rw [IntKind.wrap_i64]; omega
  have y1 := cell_of CC.out.head 1
  have y2 := cell_of CC.out.head 2
  simp at y1 y2
  have y3 : w.frozen? ⟨X, 2, none⟩ = false := Ba.frozen_of CC.out.head 2
  have RM := hide (rem_any (nth st.rd P) cut (GU.out.nth P).1 (GU.out.nth P).2 w)
  rw [hP] at hz
  generalize remE (nth st.rd P) cut = rm at *
  go_wp2_with fail
  refine RM.out.mono ?_
  rintro r w0 ⟨rfl, e0⟩
  obtain rfl := e0.symm
  clear RM
  have CC2 := hide (CC.out.setTl true)
  have KK2 := hide (KK.out.trans (KY.set w CC.out.yx 2 (.bool true)))
  have u1 := cell_of CC2.out.head 1
  simp at u1
  have DL := hide (delete_any _ st.rd P _ CC2.out.own hPl)
  clear CC KK
  go_wp2_with fail
  generalize w.setCell ⟨X, 2, none⟩ (.bool true) = W2 at *
  refine DL.out.mono ?_
  rintro r w3 ⟨v3, rfl, o3, bk3, g3⟩
  obtain ⟨oa3, c3, rfl⟩ := own_sl o3
  have h3 : w3.heap[X]? = some (.cells #[.int .u64 (st.last), .slice (some ⟨g, 0, none⟩) st.rd.length c, .bool true] 134 (0, 0)) := (g3.block X CC2.out.lt (fun q => CC2.out.ne q.symm)).trans CC2.out.head
  have y5 := cell_of h3 1
  simp at y5
  have f5 : w3.frozen? ⟨X, 1, none⟩ = false := Ba.frozen_of h3 1
  have ne3 := CC2.out.ne
  rw [← bk3] at ne3
  rw [ES.out] at GD
  have C4 : Hid (CX Y X (w3.setCell ⟨X, 1, none⟩ (.slice oa3 (outL st.rd P).length c3)) ⟨st.last, outL st.rd P, true⟩ (.slice oa3 (outL st.rd P).length c3)) := by
    refine ⟨head_set h3, own_set1 o3 ne3, ne3, CC2.out.yx, fun g q => ?_, fun k hk => ?_, GD.out⟩
    · rw [bk3] at q; exact CC2.out.yg g q
    · rw [show (w3.setCell ⟨X, 1, none⟩ (.slice oa3 (outL st.rd P).length c3)).heap.size = w3.heap.size by simp [World.setCell]]; exact Nat.lt_of_lt_of_le (CC2.out.yl k hk) g3.size
  have K4 : Hid (KY Y w (w3.setCell ⟨X, 1, none⟩ (.slice oa3 (outL st.rd P).length c3))) := (KK2.out.trans (KY.grown g3 CC2.out.yl CC2.out.yg)).trans (KY.set _ CC2.out.yx _ _)
  clear h3 ne3 bk3 g3 o3 DL CC2 KK2 GD
  generalize hn3 : (outL st.rd P).length = n3 at *
  go_wp2_with fail
  go_ret
  rw [ES.out]
  exact ⟨rfl, ⟨_, C4.out⟩, K4.out⟩

set_option maxRecDepth 100000 in
set_option maxHeartbeats 800000 in
theorem ret_tff {Y : Nat → Prop} {X : Nat} {w : World} {st : Cst} (h : CW Y X w st) (tid cut : Int) (h0 : 0 ≤ tid) (h1 : tid < 256) (h2 : 0 ≤ cut) (h3 : cut ≤ 1048576) (hq : (tidOf st.last == tid) = true) (hB : has st.rd tid = false) (htl : st.tl = false) :
    Calls Try.prog 67 #[.pointer (some ⟨X, 0, none⟩), .int .i64 tid, .int .i64 cut] w (RetR Y X w st tid cut) := by
  unfold RetR
  have GD := hide (h.gd.retire tid cut)
  have GU := hide h.gd.u
  obtain ⟨v, h⟩ := h
  obtain ⟨oa, c, rfl⟩ := own_sl h.own
  have la := h.gd.last
  have HT := hide (Ep.tid_any st.last la.1 la.2 w)
  have x0 := cell_of h.head 0
  simp at x0
  have ES : Hid (retS st tid cut = ⟨remE st.last cut, st.rd, false⟩) := by
    show retS st tid cut = ⟨remE st.last cut, st.rd, false⟩
    have g1 : retL st tid cut = remE st.last cut := by simp [retL, hq]
    have g2 : retD st tid = st.rd := by simp [retD, hB]
    have g3 : retT st tid cut = false := by simp [retT, hB, htl]
    unfold retS
    rw [g1, g2, g3]
  have HR := hide (rem_any st.last cut la.1 la.2 w)
  have f0 : w.frozen? ⟨X, 0, none⟩ = false := Ba.frozen_of h.head 0
  have la2 : remE st.last cut = 0 ∨ remE st.last cut = 18446744073709551615 ∨ ownB (remE st.last cut) = true := by
    unfold remE; split
    · exact .inl rfl
    · exact .inr (.inl rfl)
  have CC := hide (h.setLast _ la2)
  have KK := hide (KY.set w h.yx 0 (.int .u64 (remE st.last cut)))
  clear h la la2
  have CC : Hid (CX Y X (w.setCell ⟨X, 0, none⟩ (.int .u64 (remE st.last cut))) ⟨remE st.last cut, st.rd, false⟩ (.slice oa st.rd.length c)) := by
    have := CC.out
    rw [htl] at this
    exact this
  go_enter Try.func67, Try.ntmps67
  go_wp2_with fail
  refine HT.out.mono ?_
  rintro r w0 ⟨rfl, e0⟩
  obtain rfl := e0.symm
  go_wp2_with fail
  refine HR.out.mono ?_
  rintro r w0 ⟨rfl, e0⟩
  obtain rfl := e0.symm
  go_wp2_with fail
  generalize w.setCell ⟨X, 0, none⟩ (.int .u64 (remE st.last cut)) = W at *
  clear x0 f0
  have FN := hide (find_any ⟨_, CC.out⟩ tid)
  rw [show (⟨remE st.last cut, st.rd, false⟩ : Cst).rd = st.rd from rfl, hB] at FN
  refine FN.out.mono ?_
  rintro r w0 ⟨rfl, e0⟩
  obtain rfl := e0.symm
  clear FN HT
  go_wp2_with fail
  go_ret
  rw [ES.out]
  exact ⟨rfl, ⟨_, CC.out⟩, KK.out⟩

set_option maxRecDepth 100000 in
set_option maxHeartbeats 800000 in
theorem ret_tft {Y : Nat → Prop} {X : Nat} {w : World} {st : Cst} (h : CW Y X w st) (tid cut : Int) (h0 : 0 ≤ tid) (h1 : tid < 256) (h2 : 0 ≤ cut) (h3 : cut ≤ 1048576) (hq : (tidOf st.last == tid) = true) (hB : has st.rd tid = false) (htl : st.tl = true) :
    Calls Try.prog 67 #[.pointer (some ⟨X, 0, none⟩), .int .i64 tid, .int .i64 cut] w (RetR Y X w st tid cut) := by
  unfold RetR
  have GD := hide (h.gd.retire tid cut)
  have GU := hide h.gd.u
  obtain ⟨v, h⟩ := h
  obtain ⟨oa, c, rfl⟩ := own_sl h.own
  have la := h.gd.last
  have HT := hide (Ep.tid_any st.last la.1 la.2 w)
  have x0 := cell_of h.head 0
  simp at x0
  have ES : Hid (retS st tid cut = ⟨remE st.last cut, st.rd, true⟩) := by
    show retS st tid cut = ⟨remE st.last cut, st.rd, true⟩
    have g1 : retL st tid cut = remE st.last cut := by simp [retL, hq]
    have g2 : retD st tid = st.rd := by simp [retD, hB]
    have g3 : retT st tid cut = true := by simp [retT, hB, htl]
    unfold retS
    rw [g1, g2, g3]
  have HR := hide (rem_any st.last cut la.1 la.2 w)
  have f0 : w.frozen? ⟨X, 0, none⟩ = false := Ba.frozen_of h.head 0
  have la2 : remE st.last cut = 0 ∨ remE st.last cut = 18446744073709551615 ∨ ownB (remE st.last cut) = true := by
    unfold remE; split
    · exact .inl rfl
    · exact .inr (.inl rfl)
  have CC := hide (h.setLast _ la2)
  have KK := hide (KY.set w h.yx 0 (.int .u64 (remE st.last cut)))
  clear h la la2
  have CC : Hid (CX Y X (w.setCell ⟨X, 0, none⟩ (.int .u64 (remE st.last cut))) ⟨remE st.last cut, st.rd, true⟩ (.slice oa st.rd.length c)) := by
    have := CC.out
    rw [htl] at this
    exact this
  go_enter Try.func67, Try.ntmps67
  go_wp2_with fail
  refine HT.out.mono ?_
  rintro r w0 ⟨rfl, e0⟩
  obtain rfl := e0.symm
  go_wp2_with fail
  refine HR.out.mono ?_
  rintro r w0 ⟨rfl, e0⟩
  obtain rfl := e0.symm
  go_wp2_with fail
  generalize w.setCell ⟨X, 0, none⟩ (.int .u64 (remE st.last cut)) = W at *
  clear x0 f0
  have FN := hide (find_any ⟨_, CC.out⟩ tid)
  rw [show (⟨remE st.last cut, st.rd, true⟩ : Cst).rd = st.rd from rfl, hB] at FN
  refine FN.out.mono ?_
  rintro r w0 ⟨rfl, e0⟩
  obtain rfl := e0.symm
  clear FN HT
  go_wp2_with fail
  go_ret
  rw [ES.out]
  exact ⟨rfl, ⟨_, CC.out⟩, KK.out⟩

set_option maxRecDepth 100000 in
set_option maxHeartbeats 800000 in
theorem ret_ttt {Y : Nat → Prop} {X : Nat} {w : World} {st : Cst} (h : CW Y X w st) (tid cut : Int) (h0 : 0 ≤ tid) (h1 : tid < 256) (h2 : 0 ≤ cut) (h3 : cut ≤ 1048576) (hq : (tidOf st.last == tid) = true) (hB : has st.rd tid = true) (htl : st.tl = true) :
    Calls Try.prog 67 #[.pointer (some ⟨X, 0, none⟩), .int .i64 tid, .int .i64 cut] w (RetR Y X w st tid cut) := by
  unfold RetR
  have GD := hide (h.gd.retire tid cut)
  have GU := hide h.gd.u
  have hPl := (has_pos h.gd.so hB).1
  have hl256 := srt_len h.gd.so h.gd.ro
  obtain ⟨v, h⟩ := h
  obtain ⟨oa, c, rfl⟩ := own_sl h.own
  have la := h.gd.last
  have HT := hide (Ep.tid_any st.last la.1 la.2 w)
  have x0 := cell_of h.head 0
  simp at x0
  have ES : Hid (retS st tid cut = ⟨remE st.last cut, outL st.rd (pos st.rd tid), true⟩) := by
    show retS st tid cut = ⟨remE st.last cut, outL st.rd (pos st.rd tid), true⟩
    have g1 : retL st tid cut = remE st.last cut := by simp [retL, hq]
    have g2 : retD st tid = outL st.rd (pos st.rd tid) := by simp [retD, hB]
    have g3 : retT st tid cut = true := by simp [retT, hB, htl]
    unfold retS
    rw [g1, g2, g3]
  have HR := hide (rem_any st.last cut la.1 la.2 w)
  have f0 : w.frozen? ⟨X, 0, none⟩ = false := Ba.frozen_of h.head 0
  have la2 : remE st.last cut = 0 ∨ remE st.last cut = 18446744073709551615 ∨ ownB (remE st.last cut) = true := by
    unfold remE; split
    · exact .inl rfl
    · exact .inr (.inl rfl)
  have CC := hide (h.setLast _ la2)
  have KK := hide (KY.set w h.yx 0 (.int .u64 (remE st.last cut)))
  clear h la la2
  have CC : Hid (CX Y X (w.setCell ⟨X, 0, none⟩ (.int .u64 (remE st.last cut))) ⟨remE st.last cut, st.rd, true⟩ (.slice oa st.rd.length c)) := by
    have := CC.out
    rw [htl] at this
    exact this
  go_enter Try.func67, Try.ntmps67
  go_wp2_with fail
  refine HT.out.mono ?_
  rintro r w0 ⟨rfl, e0⟩
  obtain rfl := e0.symm
  go_wp2_with fail
  refine HR.out.mono ?_
  rintro r w0 ⟨rfl, e0⟩
  obtain rfl := e0.symm
  go_wp2_with fail
  generalize w.setCell ⟨X, 0, none⟩ (.int .u64 (remE st.last cut)) = W at *
  clear x0 f0
  have FN := hide (find_any ⟨_, CC.out⟩ tid)
  rw [show (⟨remE st.last cut, st.rd, true⟩ : Cst).rd = st.rd from rfl, hB] at FN
  refine FN.out.mono ?_
  rintro r w0 ⟨rfl, e0⟩
  obtain rfl := e0.symm
  clear FN HT
  obtain ⟨P, hP⟩ : ∃ P, pos st.rd tid = P := ⟨_, rfl⟩
  simp only [hP] at ES hPl ⊢
  obtain ⟨g, rfl, d0, -⟩ := own_cell CC.out.own hPl
  have d0 : W.cell? ⟨g, P, none⟩ = some (.int .u64 (nth st.rd P)) := d0
  have hPi : (P : Int) < (st.rd.length : Int) := by omega
  have hPw : (P : Int) < 256 := by omega
  have hPx : IntKind.i64.wrap ((P : Int) + 1) = (P : Int) + 1 := by rw [IntKind.wrap_i64]; omega
  have y1 := cell_of CC.out.head 1
  have y2 := cell_of CC.out.head 2
  simp at y1 y2
  have y3 : W.frozen? ⟨X, 2, none⟩ = false := Ba.frozen_of CC.out.head 2
  have CC2 := hide (CC.out.setTl true)
  have KK2 := hide (KK.out.trans (KY.set W CC.out.yx 2 (.bool true)))
  have u1 := cell_of CC2.out.head 1
  simp at u1
  have DL := hide (delete_any _ st.rd P _ CC2.out.own hPl)
  clear CC KK
  go_wp2_with fail
  generalize W.setCell ⟨X, 2, none⟩ (.bool true) = W2 at *
  refine DL.out.mono ?_
  rintro r w3 ⟨v3, rfl, o3, bk3, g3⟩
  obtain ⟨oa3, c3, rfl⟩ := own_sl o3
  have h3 : w3.heap[X]? = some (.cells #[.int .u64 (remE st.last cut), .slice (some ⟨g, 0, none⟩) st.rd.length c, .bool true] 134 (0, 0)) := (g3.block X CC2.out.lt (fun q => CC2.out.ne q.symm)).trans CC2.out.head
  have y5 := cell_of h3 1
  simp at y5
  have f5 : w3.frozen? ⟨X, 1, none⟩ = false := Ba.frozen_of h3 1
  have ne3 := CC2.out.ne
  rw [← bk3] at ne3
  rw [ES.out] at GD
  have C4 : Hid (CX Y X (w3.setCell ⟨X, 1, none⟩ (.slice oa3 (outL st.rd P).length c3)) ⟨remE st.last cut, outL st.rd P, true⟩ (.slice oa3 (outL st.rd P).length c3)) := by
    refine ⟨head_set h3, own_set1 o3 ne3, ne3, CC2.out.yx, fun g q => ?_, fun k hk => ?_, GD.out⟩
    · rw [bk3] at q; exact CC2.out.yg g q
    · rw [show (w3.setCell ⟨X, 1, none⟩ (.slice oa3 (outL st.rd P).length c3)).heap.size = w3.heap.size by simp [World.setCell]]; exact Nat.lt_of_lt_of_le (CC2.out.yl k hk) g3.size
  have K4 : Hid (KY Y w (w3.setCell ⟨X, 1, none⟩ (.slice oa3 (outL st.rd P).length c3))) := (KK2.out.trans (KY.grown g3 CC2.out.yl CC2.out.yg)).trans (KY.set _ CC2.out.yx _ _)
  clear h3 ne3 bk3 g3 o3 DL CC2 KK2 GD
  generalize hn3 : (outL st.rd P).length = n3 at *
  go_wp2_with fail
  go_ret
  rw [ES.out]
  exact ⟨rfl, ⟨_, C4.out⟩, K4.out⟩

set_option maxRecDepth 100000 in
set_option maxHeartbeats 800000 in
theorem ret_ttff {Y : Nat → Prop} {X : Nat} {w : World} {st : Cst} (h : CW Y X w st) (tid cut : Int) (h0 : 0 ≤ tid) (h1 : tid < 256) (h2 : 0 ≤ cut) (h3 : cut ≤ 1048576) (hq : (tidOf st.last == tid) = true) (hB : has st.rd tid = true) (htl : st.tl = false) (hz : (remE (nth st.rd (pos st.rd tid)) cut == 18446744073709551615) = false) :
    Calls Try.prog 67 #[.pointer (some ⟨X, 0, none⟩), .int .i64 tid, .int .i64 cut] w (RetR Y X w st tid cut) := by
  unfold RetR
  have GD := hide (h.gd.retire tid cut)
  have GU := hide h.gd.u
  have hPl := (has_pos h.gd.so hB).1
  have hl256 := srt_len h.gd.so h.gd.ro
  obtain ⟨v, h⟩ := h
  obtain ⟨oa, c, rfl⟩ := own_sl h.own
  have la := h.gd.last
  have HT := hide (Ep.tid_any st.last la.1 la.2 w)
  have x0 := cell_of h.head 0
  simp at x0
  have ES : Hid (retS st tid cut = ⟨remE st.last cut, outL st.rd (pos st.rd tid), false⟩) := by
    show retS st tid cut = ⟨remE st.last cut, outL st.rd (pos st.rd tid), false⟩
    have g1 : retL st tid cut = remE st.last cut := by simp [retL, hq]
    have g2 : retD st tid = outL st.rd (pos st.rd tid) := by simp [retD, hB]
    have g3 : retT st tid cut = false := by simp only [retT, hB, htl, hz]; rfl
    unfold retS
    rw [g1, g2, g3]
  have HR := hide (rem_any st.last cut la.1 la.2 w)
  have f0 : w.frozen? ⟨X, 0, none⟩ = false := Ba.frozen_of h.head 0
  have la2 : remE st.last cut = 0 ∨ remE st.last cut = 18446744073709551615 ∨ ownB (remE st.last cut) = true := by
    unfold remE; split
    · exact .inl rfl
    · exact .inr (.inl rfl)
  have CC := hide (h.setLast _ la2)
  have KK := hide (KY.set w h.yx 0 (.int .u64 (remE st.last cut)))
  clear h la la2
  have CC : Hid (CX Y X (w.setCell ⟨X, 0, none⟩ (.int .u64 (remE st.last cut))) ⟨remE st.last cut, st.rd, false⟩ (.slice oa st.rd.length c)) := by
    have := CC.out
    rw [htl] at this
    exact this
  go_enter Try.func67, Try.ntmps67
  go_wp2_with fail
  refine HT.out.mono ?_
  rintro r w0 ⟨rfl, e0⟩
  obtain rfl := e0.symm
  go_wp2_with fail
  refine HR.out.mono ?_
  rintro r w0 ⟨rfl, e0⟩
  obtain rfl := e0.symm
  go_wp2_with fail
  generalize w.setCell ⟨X, 0, none⟩ (.int .u64 (remE st.last cut)) = W at *
  clear x0 f0
  have FN := hide (find_any ⟨_, CC.out⟩ tid)
  rw [show (⟨remE st.last cut, st.rd, false⟩ : Cst).rd = st.rd from rfl, hB] at FN
  refine FN.out.mono ?_
  rintro r w0 ⟨rfl, e0⟩
  obtain rfl := e0.symm
  clear FN HT
  obtain ⟨P, hP⟩ : ∃ P, pos st.rd tid = P := ⟨_, rfl⟩
  simp only [hP] at ES hPl ⊢
  obtain ⟨g, rfl, d0, -⟩ := own_cell CC.out.own hPl
  have d0 : W.cell? ⟨g, P, none⟩ = some (.int .u64 (nth st.rd P)) := d0
  have hPi : (P : Int) < (st.rd.length : Int) := by omega
  have hPw : (P : Int) < 256 := by omega
  have hPx : IntKind.i64.wrap ((P : Int) + 1) = (P : Int) + 1 := by rw [IntKind.wrap_i64]; omega
  have y1 := cell_of CC.out.head 1
  have y2 := cell_of CC.out.head 2
  simp at y1 y2
  have y3 : W.frozen? ⟨X, 2, none⟩ = false := Ba.frozen_of CC.out.head 2
  have RM := hide (rem_any (nth st.rd P) cut (GU.out.nth P).1 (GU.out.nth P).2 W)
  rw [hP] at hz
  generalize remE (nth st.rd P) cut = rm at *
  go_wp2_with fail
  refine RM.out.mono ?_
  rintro r w0 ⟨rfl, e0⟩
  obtain rfl := e0.symm
  clear RM
  have CC2 := hide (CC.out.setTl false)
  have KK2 := hide (KK.out.trans (KY.set W CC.out.yx 2 (.bool false)))
  have u1 := cell_of CC2.out.head 1
  simp at u1
  have DL := hide (delete_any _ st.rd P _ CC2.out.own hPl)
  clear CC KK
  go_wp2_with fail
  generalize W.setCell ⟨X, 2, none⟩ (.bool false) = W2 at *
  refine DL.out.mono ?_
  rintro r w3 ⟨v3, rfl, o3, bk3, g3⟩
  obtain ⟨oa3, c3, rfl⟩ := own_sl o3
  have h3 : w3.heap[X]? = some (.cells #[.int .u64 (remE st.last cut), .slice (some ⟨g, 0, none⟩) st.rd.length c, .bool false] 134 (0, 0)) := (g3.block X CC2.out.lt (fun q => CC2.out.ne q.symm)).trans CC2.out.head
  have y5 := cell_of h3 1
  simp at y5
  have f5 : w3.frozen? ⟨X, 1, none⟩ = false := Ba.frozen_of h3 1
  have ne3 := CC2.out.ne
  rw [← bk3] at ne3
  rw [ES.out] at GD
  have C4 : Hid (CX Y X (w3.setCell ⟨X, 1, none⟩ (.slice oa3 (outL st.rd P).length c3)) ⟨remE st.last cut, outL st.rd P, false⟩ (.slice oa3 (outL st.rd P).length c3)) := by
    refine ⟨head_set h3, own_set1 o3 ne3, ne3, CC2.out.yx, fun g q => ?_, fun k hk => ?_, GD.out⟩
    · rw [bk3] at q; exact CC2.out.yg g q
    · rw [show (w3.setCell ⟨X, 1, none⟩ (.slice oa3 (outL st.rd P).length c3)).heap.size = w3.heap.size by simp [World.setCell]]; exact Nat.lt_of_lt_of_le (CC2.out.yl k hk) g3.size
  have K4 : Hid (KY Y w (w3.setCell ⟨X, 1, none⟩ (.slice oa3 (outL st.rd P).length c3))) := (KK2.out.trans (KY.grown g3 CC2.out.yl CC2.out.yg)).trans (KY.set _ CC2.out.yx _ _)
  clear h3 ne3 bk3 g3 o3 DL CC2 KK2 GD
  generalize hn3 : (outL st.rd P).length = n3 at *
  go_wp2_with fail
  go_ret
  rw [ES.out]
  exact ⟨rfl, ⟨_, C4.out⟩, K4.out⟩

set_option maxRecDepth 100000 in
set_option maxHeartbeats 800000 in
theorem ret_ttft {Y : Nat → Prop} {X : Nat} {w : World} {st : Cst} (h : CW Y X w st) (tid cut : Int) (h0 : 0 ≤ tid) (h1 : tid < 256) (h2 : 0 ≤ cut) (h3 : cut ≤ 1048576) (hq : (tidOf st.last == tid) = true) (hB : has st.rd tid = true) (htl : st.tl = false) (hz : (remE (nth st.rd (pos st.rd tid)) cut == 18446744073709551615) = true) :
    Calls Try.prog 67 #[.pointer (some ⟨X, 0, none⟩), .int .i64 tid, .int .i64 cut] w (RetR Y X w st tid cut) := by
  unfold RetR
  have GD := hide (h.gd.retire tid cut)
  have GU := hide h.gd.u
  have hPl := (has_pos h.gd.so hB).1
  have hl256 := srt_len h.gd.so h.gd.ro
  obtain ⟨v, h⟩ := h
  obtain ⟨oa, c, rfl⟩ := own_sl h.own
  have la := h.gd.last
  have HT := hide (Ep.tid_any st.last la.1 la.2 w)
  have x0 := cell_of h.head 0
  simp at x0
  have ES : Hid (retS st tid cut = ⟨remE st.last cut, outL st.rd (pos st.rd tid), true⟩) := by
    show retS st tid cut = ⟨remE st.last cut, outL st.rd (pos st.rd tid), true⟩
    have g1 : retL st tid cut = remE st.last cut := by simp [retL, hq]
    have g2 : retD st tid = outL st.rd (pos st.rd tid) := by simp [retD, hB]
    have g3 : retT st tid cut = true := by simp only [retT, hB, htl, hz]; rfl
    unfold retS
    rw [g1, g2, g3]
  have HR := hide (rem_any st.last cut la.1 la.2 w)
  have f0 : w.frozen? ⟨X, 0, none⟩ = false := Ba.frozen_of h.head 0
  have la2 : remE st.last cut = 0 ∨ remE st.last cut = 18446744073709551615 ∨ ownB (remE st.last cut) = true := by
    unfold remE; split
    · exact .inl rfl
    · exact .inr (.inl rfl)
  have CC := hide (h.setLast _ la2)
  have KK := hide (KY.set w h.yx 0 (.int .u64 (remE st.last cut)))
  clear h la la2
  have CC : Hid (CX Y X (w.setCell ⟨X, 0, none⟩ (.int .u64 (remE st.last cut))) ⟨remE st.last cut, st.rd, false⟩ (.slice oa st.rd.length c)) := by
    have := CC.out
    rw [htl] at this
    exact this
  go_enter Try.func67, Try.ntmps67
  go_wp2_with fail
  refine HT.out.mono ?_
  rintro r w0 ⟨rfl, e0⟩
  obtain rfl := e0.symm
  go_wp2_with fail
  refine HR.out.mono ?_
  rintro r w0 ⟨rfl, e0⟩
  obtain rfl := e0.symm
  go_wp2_with fail
  generalize w.setCell ⟨X, 0, none⟩ (.int .u64 (remE st.last cut)) = W at *
  clear x0 f0
  have FN := hide (find_any ⟨_, CC.out⟩ tid)
  rw [show (⟨remE st.last cut, st.rd, false⟩ : Cst).rd = st.rd from rfl, hB] at FN
  refine FN.out.mono ?_
  rintro r w0 ⟨rfl, e0⟩
  obtain rfl := e0.symm
  clear FN HT
  obtain ⟨P, hP⟩ : ∃ P, pos st.rd tid = P := ⟨_, rfl⟩
  simp only [hP] at ES hPl ⊢
  obtain ⟨g, rfl, d0, -⟩ := own_cell CC.out.own hPl
  have d0 : W.cell? ⟨g, P, none⟩ = some (.int .u64 (nth st.rd P)) := d0
  have hPi : (P : Int) < (st.rd.length : Int) := by omega
  have hPw : (P : Int) < 256 := by omega
  have hPx : IntKind.i64.wrap ((P : Int) + 1) = (P : Int) + 1 := by rw [IntKind.wrap_i64]; omega
  have y1 := cell_of CC.out.head 1
  have y2 := cell_of CC.out.head 2
  simp at y1 y2
  have y3 : W.frozen? ⟨X, 2, none⟩ = false := Ba.frozen_of CC.out.head 2
  have RM := hide (rem_any (nth st.rd P) cut (GU.out.nth P).1 (GU.out.nth P).2 W)
  rw [hP] at hz
  generalize remE (nth st.rd P) cut = rm at *
  go_wp2_with fail
  refine RM.out.mono ?_
  rintro r w0 ⟨rfl, e0⟩
  obtain rfl := e0.symm
  clear RM
  have CC2 := hide (CC.out.setTl true)
  have KK2 := hide (KK.out.trans (KY.set W CC.out.yx 2 (.bool true)))
  have u1 := cell_of CC2.out.head 1
  simp at u1
  have DL := hide (delete_any _ st.rd P _ CC2.out.own hPl)
  clear CC KK
  go_wp2_with fail
  generalize W.setCell ⟨X, 2, none⟩ (.bool true) = W2 at *
  refine DL.out.mono ?_
  rintro r w3 ⟨v3, rfl, o3, bk3, g3⟩
  obtain ⟨oa3, c3, rfl⟩ := own_sl o3
  have h3 : w3.heap[X]? = some (.cells #[.int .u64 (remE st.last cut), .slice (some ⟨g, 0, none⟩) st.rd.length c, .bool true] 134 (0, 0)) := (g3.block X CC2.out.lt (fun q => CC2.out.ne q.symm)).trans CC2.out.head
  have y5 := cell_of h3 1
  simp at y5
  have f5 : w3.frozen? ⟨X, 1, none⟩ = false := Ba.frozen_of h3 1
  have ne3 := CC2.out.ne
  rw [← bk3] at ne3
  rw [ES.out] at GD
  have C4 : Hid (CX Y X (w3.setCell ⟨X, 1, none⟩ (.slice oa3 (outL st.rd P).length c3)) ⟨remE st.last cut, outL st.rd P, true⟩ (.slice oa3 (outL st.rd P).length c3)) := by
    refine ⟨head_set h3, own_set1 o3 ne3, ne3, CC2.out.yx, fun g q => ?_, fun k hk => ?_, GD.out⟩
    · rw [bk3] at q; exact CC2.out.yg g q
    · rw [show (w3.setCell ⟨X, 1, none⟩ (.slice oa3 (outL st.rd P).length c3)).heap.size = w3.heap.size by simp [World.setCell]]; exact Nat.lt_of_lt_of_le (CC2.out.yl k hk) g3.size
  have K4 : Hid (KY Y w (w3.setCell ⟨X, 1, none⟩ (.slice oa3 (outL st.rd P).length c3))) := (KK2.out.trans (KY.grown g3 CC2.out.yl CC2.out.yg)).trans (KY.set _ CC2.out.yx _ _)
  clear h3 ne3 bk3 g3 o3 DL CC2 KK2 GD
  generalize hn3 : (outL st.rd P).length = n3 at *
  go_wp2_with fail
  go_ret
  rw [ES.out]
  exact ⟨rfl, ⟨_, C4.out⟩, K4.out⟩

theorem retire_ok {Y : Nat → Prop} {X : Nat} {w : World} {st : Cst} (h : CW Y X w st) (tid cut : Int) (h0 : 0 ≤ tid) (h1 : tid < 256) (h2 : 0 ≤ cut) (h3 : cut ≤ 1048576) :
    Calls Try.prog 67 #[.pointer (some ⟨X, 0, none⟩), .int .i64 tid, .int .i64 cut] w (RetR Y X w st tid cut) := by
  cases hq : (tidOf st.last == tid) <;> cases hB : has st.rd tid <;> cases htl : st.tl
  · exact ret_fff h tid cut h0 h1 h2 h3 hq hB htl
  · exact ret_fft h tid cut h0 h1 h2 h3 hq hB htl
  · cases hz : (remE (nth st.rd (pos st.rd tid)) cut == 18446744073709551615)
    · exact ret_ftff h tid cut h0 h1 h2 h3 hq hB htl hz
    · exact ret_ftft h tid cut h0 h1 h2 h3 hq hB htl hz
  · exact ret_ftt h tid cut h0 h1 h2 h3 hq hB htl
  · exact ret_tff h tid cut h0 h1 h2 h3 hq hB htl
  · exact ret_tft h tid cut h0 h1 h2 h3 hq hB htl
  · cases hz : (remE (nth st.rd (pos st.rd tid)) cut == 18446744073709551615)
    · exact ret_ttff h tid cut h0 h1 h2 h3 hq hB htl hz
    · exact ret_ttft h tid cut h0 h1 h2 h3 hq hB htl hz
  · exact ret_ttt h tid cut h0 h1 h2 h3 hq hB htl
end Ce
end Go.Proofs.Ytekdcfdjohlfcaa
/- Layer 18's laws, over this seat's program: what any 64 bits are (split), new clocks beside a cell. -/
namespace Go.Proofs.Ytekdcfdjohlfcaa
open Go.ChangeShapes Go.WideShapes Go.ChangeAt Go.RowKit
namespace Ce
open Ck
open Ba (KF Bd Nw hide)
open Ep (tidOf clkOf ownB rdN rdT rdt rdc rdk)

theorem rread_any (e : Int) (a0 : 0 ≤ e) (a1 : e ≤ 18446744073709551615) (w : World) :
    Calls Try.prog 55 #[.int .i64 (e / 4294967296), .int .i64 (e % 4294967296)] w fun r w' => r = .returned (.tuple #[.agg #[.bool (rdN e), .bool (rdT e), .int .i64 (rdt e), .int .i64 (rdc e)], .bool (rdk e)]) ∧ w' = w.alloc (.cells #[.bool (rdN e), .bool (rdT e), .int .i64 (rdt e), .int .i64 (rdc e)] 127) := by
  by_cases hn : e = 0
  · subst hn
    obtain ⟨e1, e2, e3, e4, e5⟩ := Ep.rd_none
    rw [e1, e2, e3, e4, e5]; exact Ep.rread_none w
  by_cases ht : e = 18446744073709551615
  · subst ht
    obtain ⟨e1, e2, e3, e4, e5⟩ := Ep.rd_tail
    rw [e1, e2, e3, e4, e5]; exact Ep.rread_tail w
  cases ho : ownB e
  · obtain ⟨e1, e2, e3, e4, e5⟩ := Ep.rd_bad e ho hn ht
    rw [e1, e2, e3, e4, e5]
    exact Ep.rread_bad _ _ (by omega) (by omega) (Ep.not_bd e ho) w
  · obtain ⟨e1, e2, e3, e4, e5⟩ := Ep.rd_own e ho
    rw [e1, e2, e3, e4, e5]
    obtain ⟨h0, h1, h2, h3⟩ := Ep.own_bd e ho
    exact Ep.rread_own _ _ h0 h1 h2 h3 w
/-- an epoch, opened -/
def rdV (e : Int) : Array Value := #[.bool (rdN e), .bool (rdT e), .int .i64 (rdt e), .int .i64 (rdc e)]
/-- what split gives -/
def SplR (e : Int) (w : World) (r : Ending) (w' : World) : Prop := r = .returned (.tuple #[.agg (rdV e), .bool (ownB e)]) ∧ Below w.heap.size w w'

/-- Y, and what is new -/
def Yp (Y : Nat → Prop) (w w' : World) : Nat → Prop := fun k => Y k ∨ (w.heap.size ≤ k ∧ k < w'.heap.size)
theorem CW.new {Y : Nat → Prop} {X : Nat} {w w' : World} {st : Cst} (h : CW Y X w st) (hb : Below w.heap.size w w') : CW (Yp Y w w') X w' st :=
  h.more hb (fun k q => q.imp id And.left) (fun k q => by
    rcases q with q | q
    · exact Nat.lt_of_lt_of_le (h.yl k q) hb.size
    · exact q.2)
theorem clk_new {Z : Nat → Prop} {w : World} {b g n c : Nat} {l : List Int} {s : Bool} (h1 : w.heap[b]? = some (.cells #[.slice (some ⟨g, 0, none⟩) n c, .bool s] 103 (0, 0))) (h2 : w.heap[g]? = some (.cells (row l) 3 (0, 0))) (hn : l.length = n) (zb : Z b) (zg : Z g) (hl : l.length ≤ 256) : CL Z w b l := by
  subst hn
  intro W k
  have e1 := (k.block b zb).trans h1
  have e2 := (k.block g zg).trans h2
  refine ⟨_, c, s, by rw [cell_of e1]; rfl, by rw [cell_of e1]; rfl, fun j hj => ⟨g, 0, rfl, ?_⟩, hl⟩
  rw [Nat.zero_add, cell_of e2]
  exact row_at l j hj
theorem clk_nil {Z : Nat → Prop} {w : World} {b : Nat} {s : Bool} (h1 : w.heap[b]? = some (.cells #[.slice none 0 0, .bool s] 103 (0, 0))) (zb : Z b) : CL Z w b [] := by
  intro W k
  have e1 := (k.block b zb).trans h1
  exact ⟨none, 0, s, by rw [cell_of e1]; rfl, by rw [cell_of e1]; rfl, fun j hj => absurd hj (Nat.not_lt_zero _), by simp⟩
/-- what Of gives of a right list -/
def OfR (w : World) (l : List Int) (r : Ending) (w' : World) : Prop := ∃ b, r = .returned (.tuple #[.pointer (some ⟨b, 0, none⟩), .int .i64 0]) ∧ Below w.heap.size w w' ∧ ∀ Y, CL (Yp Y w w') w' b (trm l)
theorem of_y (oa : Option Addr) (l : List Int) (n c : Nat) (hn : l.length = n) (w : World) (hA : At w oa l) (hl : n ≤ 256) (hlc : n ≤ c) (hc : c ≤ maxLen) (hv : Valid l) :
    Calls Try.prog 8 #[.slice oa n c] w (OfR w l) := by
  subst hn
  refine (of_ok oa l c w hA hl hlc hc hv).mono ?_
  rintro r w' ⟨rfl, rfl⟩
  have h1 : ((w.alloc (.cells (row (trm l)) 3)).alloc (.cells #[.slice (some ⟨w.heap.size, 0, none⟩) (tlen l) (tlen l), .bool false] 103)).heap[w.heap.size + 1]? = some (.cells #[.slice (some ⟨w.heap.size, 0, none⟩) (tlen l) (tlen l), .bool false] 103 (0, 0)) := by
    have := heap_new (w.alloc (.cells (row (trm l)) 3)) (.cells #[.slice (some ⟨w.heap.size, 0, none⟩) (tlen l) (tlen l), .bool false] 103)
    rwa [World.size_alloc] at this
  have h2 : ((w.alloc (.cells (row (trm l)) 3)).alloc (.cells #[.slice (some ⟨w.heap.size, 0, none⟩) (tlen l) (tlen l), .bool false] 103)).heap[w.heap.size]? = some (.cells (row (trm l)) 3 (0, 0)) := by
    rw [Below.heap_alloc _ _ _ (by rw [World.size_alloc]; omega)]; exact heap_new _ _
  refine ⟨w.heap.size + 1, rfl, btr (Ba.below_alloc _ _) (Ba.below_alloc _ _), fun Y => clk_new h1 h2 (trm_length l) ?_ ?_ (by rw [trm_length]; exact Nat.le_trans (tlen_le l) hl)⟩
  · refine .inr ⟨by omega, ?_⟩
    rw [World.size_alloc, World.size_alloc]; omega
  · refine .inr ⟨by omega, ?_⟩
    rw [World.size_alloc, World.size_alloc]; omega
def CnR (w : World) (r : Ending) (w' : World) : Prop := ∃ b, r = .returned (.pointer (some ⟨b, 0, none⟩)) ∧ Below w.heap.size w w' ∧ ∀ Y, CL (Yp Y w w') w' b []
theorem cnew_any (w : World) : Calls Try.prog 52 #[] w (CnR w) := by
  have FIN : Hid (CnR w (.returned (.pointer (some ⟨w.heap.size, 0, none⟩))) (w.alloc (.cells #[.slice none 0 0, .bool false] 103))) :=
    ⟨w.heap.size, rfl, Ba.below_alloc _ _, fun Y => clk_nil (heap_new _ _) (.inr ⟨Nat.le_refl _, by rw [World.size_alloc]; omega⟩)⟩
  go_enter Try.func52, Try.ntmps52
  go_wp2_with fail
  go_ret
  exact FIN.out
theorem Yp.sub {Y : Nat → Prop} {w w' : World} {k : Nat} (h : Y k) : Yp Y w w' k := .inl h

end Ce
end Go.Proofs.Ytekdcfdjohlfcaa
/- Package report, over this seat's program: what lies in memory. -/
namespace Go.Proofs.Ytekdcfdjohlfcaa
open Go.ChangeShapes Go.WideShapes Go.ChangeAt Go.RowKit
namespace Rep
open Ck Ce
open Ba (hide)
open Go.Maps (Keyed int_keyed keyOf_int_mk)

/-- a race -/
structure Rc where
  c : Int
  p : Int
  g : Int
  wi : Int
  wr : Bool
def r0 : Rc := ⟨0, 0, 0, 0, false⟩
def ra5 (r : Rc) : Array Value := #[.int .i64 r.c, .int .i64 r.p, .int .i64 r.g, .int .i64 r.wi, .bool r.wr]
def rv (r : Rc) : Value := .agg (ra5 r)
def rD (r : Rc) : DataW Unit := .agg [.lit (.int .i64 r.c), .lit (.int .i64 r.p), .lit (.int .i64 r.g), .lit (.int .i64 r.wi), .lit (.bool r.wr)]
def mE : Value → Option (DataW Unit × List MemPlace)
  | .agg a => match a.toList with
    | [.int .i64 c, .int .i64 p, .int .i64 g, .int .i64 x, .bool b] => some (rD ⟨c, p, g, x, b⟩, [])
    | _ => none
  | _ => none
theorem mE_v (r : Rc) : mE (rv r) = some (rD r, []) := rfl
theorem mE_inv {v : Value} {y : DataW Unit × List MemPlace} (h : mE v = some y) : ∃ r, v = rv r ∧ y = (rD r, []) := by
  unfold mE at h
  split at h
  · rename_i a
    split at h
    · rename_i c p g x b he
      cases h
      refine ⟨⟨c, p, g, x, b⟩, ?_, rfl⟩
      unfold rv ra5
      congr 1
      exact Array.ext' (by rw [he])
    · cases h
  · cases h
theorem rD_inj {r s : Rc} (h : rD r = rD s) : r = s := by
  obtain ⟨a, b, c, d, e⟩ := r
  obtain ⟨a', b', c', d', e'⟩ := s
  unfold rD at h
  simp at h
  obtain ⟨rfl, rfl, rfl, rfl, rfl⟩ := h
  rfl
theorem law : Keyed Try.prog 3 := int_keyed Try.underlying3
theorem info_rc : (Try.prog.info? 73).map (fun i => (i.zero, i.size)) = some (some (rv r0), 5) := by kernel_rfl
theorem zero_rc (w : World) : (zeroValue 73).run Try.prog w = .ok (rv r0) w := (zero_of_info info_rc).1 w
def kl (g : Int) : Lit := .int .i64 g
theorem kl_inj {a b : Int} (h : kl a = kl b) : a = b := by cases h; rfl
def wfk (g : Int) : Prop := (Lit.int .i64 g).wf = true
theorem key_kl (g : Int) (h : wfk g) : keyOf Try.prog 3 (.int .i64 g) = some (kl g) := keyOf_int_mk Try.underlying3 h
theorem lit_key (g : Int) (h : wfk g) : WideAt.IsKeyLit (kl g) := law.key (key_kl g h)
/-- a map reads as which cell has which race -/
structure MI (D : DataW Unit) (f : Int → Option Rc) : Prop where
  tidy : Maps.Tidy D
  has : ∀ g, Maps.has D (kl g) = (f g).isSome
  at_ : ∀ g r z, f g = some r → D.atKey (kl g) z = rD r
theorem MI.no {D : DataW Unit} {f : Int → Option Rc} (h : MI D f) {g : Int} (e : f g = none) (z : DataW Unit) : D.atKey (kl g) z = z := Maps.atKey_of_not_has (by rw [h.has, e]; rfl) z
def upf (f : Int → Option Rc) (g : Int) (v : Option Rc) : Int → Option Rc := fun x => if x = g then v else f x
theorem upf_same (f : Int → Option Rc) (g : Int) (v : Option Rc) : upf f g v g = v := if_pos rfl
theorem upf_other (f : Int → Option Rc) (g x : Int) (v : Option Rc) (h : x ≠ g) : upf f g v x = f x := if_neg h
theorem MI.put {D : DataW Unit} {f : Int → Option Rc} (h : MI D f) {g : Int} (hg : wfk g) (r : Rc) : MI (D.put (kl g) (rD r)) (upf f g (some r)) := by
  refine ⟨h.tidy.put (lit_key g hg) _, fun x => ?_, fun x r' z e => ?_⟩
  · by_cases q : x = g
    · subst q
      rw [Maps.has_put_same h.tidy.isMap (lit_key x hg), upf_same]; rfl
    · rw [Maps.has_put_other (fun e => q (kl_inj e)), h.has, upf_other _ _ _ _ q]
  · by_cases q : x = g
    · subst q
      rw [upf_same] at e
      cases e
      exact Maps.atKey_put_same h.tidy.isMap (lit_key x hg) _ _
    · rw [upf_other _ _ _ _ q] at e
      rw [Maps.atKey_put_other (fun e => q (kl_inj e))]
      exact h.at_ x r' z e
theorem look_shape {D : DataW Unit} {f : Int → Option Rc} (h : MI D f) {g : Int} {v : Value} {ps : List MemPlace} (e : mE v = some (D.atKey (kl g) (rD r0), ps)) : v = rv ((f g).getD r0) := by
  obtain ⟨r, rfl, q⟩ := mE_inv e
  cases hf : f g with
  | none =>
    rw [h.no hf] at q
    rw [← rD_inj (congrArg Prod.fst q)]
    rfl
  | some p =>
    rw [h.at_ g p _ hf] at q
    rw [← rD_inj (congrArg Prod.fst q)]
    rfl
/-- how many races there are -/
def o1 (o : Option Rc) : Nat := if o.isSome then 1 else 0
def cnt (f : Int → Option Rc) : Nat := o1 (f 0) + o1 (f 1) + o1 (f 2) + o1 (f 3) + o1 (f 4) + o1 (f 5) + o1 (f 6) + o1 (f 7)
theorem o1_le (o : Option Rc) : o1 o ≤ 1 := by unfold o1; split <;> omega
theorem cnt_le (f : Int → Option Rc) : cnt f ≤ 8 := by
  unfold cnt
  have h0 := o1_le (f 0); have h1 := o1_le (f 1); have h2 := o1_le (f 2); have h3 := o1_le (f 3); have h4 := o1_le (f 4); have h5 := o1_le (f 5); have h6 := o1_le (f 6); have h7 := o1_le (f 7)
  omega
theorem eight {g : Int} (h0 : 0 ≤ g) (h1 : g < 8) : g = 0 ∨ g = 1 ∨ g = 2 ∨ g = 3 ∨ g = 4 ∨ g = 5 ∨ g = 6 ∨ g = 7 := by omega
theorem cnt_put {f : Int → Option Rc} {g : Int} (h0 : 0 ≤ g) (h1 : g < 8) (hf : f g = none) (r : Rc) : cnt (upf f g (some r)) = cnt f + 1 := by
  rcases eight h0 h1 with rfl | rfl | rfl | rfl | rfl | rfl | rfl | rfl <;> simp [cnt, upf, o1, hf] <;> omega

theorem own_sm {w w' : World} {base : Nat} {e : TypeId} {sz : Nat} {v : Value} {n : Nat} {xs : List Value} (h : w.ownsRow base e sz v n xs) (hb : ∀ g, v.ownBlock = some g → w'.heap[g]? = w.heap[g]?) : w'.ownsRow base e sz v n xs := by
  refine ⟨h.1, ?_⟩
  rcases h.2 with q | ⟨g, cap, cr, rfl, h0, hg, q⟩
  · exact .inl q
  · exact .inr ⟨g, cap, cr, rfl, h0, (hb g rfl).trans hg, q⟩
theorem _root_.Go.Proofs.Ytekdcfdjohlfcaa.Ce.CX.mv {Y Z : Nat → Prop} {X : Nat} {w w' : World} {st : Cst} {v : Value} (h : CX Y X w st v) (hX : w'.heap[X]? = w.heap[X]?) (hg : ∀ g, v.ownBlock = some g → w'.heap[g]? = w.heap[g]?) (zx : ¬ Z X) (zg : ∀ g, v.ownBlock = some g → ¬ Z g) (zl : ∀ k, Z k → k < w'.heap.size) : CX Z X w' st v :=
  ⟨hX.trans h.head, own_sm h.own hg, h.ne, zx, zg, zl, h.gd⟩

/-- a report: its cells, its first races -/
structure Rst where
  c : Nat → Cst
  f : Int → Option Rc
def pt (b : Nat) : Value := .pointer (some ⟨b, 0, none⟩)
def hd9 (p : Nat → Value) (mb : Nat) : Array Value := #[p 0, p 1, p 2, p 3, p 4, p 5, p 6, p 7, .map (some mb)]
theorem hd9_at (p : Nat → Value) (mb i : Nat) (h : i < 8) : (hd9 p mb)[i]? = some (p i) := by
  match i, h with
  | 0, _ | 1, _ | 2, _ | 3, _ | 4, _ | 5, _ | 6, _ | 7, _ => rfl
def upn {α : Type} (p : Nat → α) (k : Nat) (v : α) : Nat → α := fun i => if i = k then v else p i
theorem upn_same {α : Type} (p : Nat → α) (k : Nat) (v : α) : upn p k v k = v := if_pos rfl
theorem upn_other {α : Type} (p : Nat → α) (k i : Nat) (v : α) (h : i ≠ k) : upn p k v i = p i := if_neg h
theorem hd9_set (p : Nat → Value) (mb k : Nat) (h : k < 8) (v : Value) : (hd9 p mb).setIfInBounds k v = hd9 (upn p k v) mb := by
  match k, h with
  | 0, _ | 1, _ | 2, _ | 3, _ | 4, _ | 5, _ | 6, _ | 7, _ => rfl
/-- the report's own blocks, and what is foreign to its cell i -/
def Rb (X mb : Nat) (xs : Nat → Nat) (vs : Nat → Value) : Nat → Prop := fun k => k = X ∨ k = mb ∨ ∃ j, j < 8 ∧ (k = xs j ∨ (vs j).ownBlock = some k)
def Ot (Y : Nat → Prop) (X mb : Nat) (xs : Nat → Nat) (vs : Nat → Value) (i : Nat) : Nat → Prop := fun k => Y k ∨ k = X ∨ k = mb ∨ ∃ j, j < 8 ∧ j ≠ i ∧ (k = xs j ∨ (vs j).ownBlock = some k)
structure RX (Y : Nat → Prop) (X : Nat) (w : World) (S : Rst) (mb : Nat) (D : DataW Unit) (xs : Nat → Nat) (vs : Nat → Value) : Prop where
  hd : w.heap[X]? = some (.cells (hd9 (fun i => pt (xs i)) mb) 120 (0, 0))
  ow : w.ownsMap Try.prog 3 mE mb (cnt S.f) D
  mi : MI D S.f
  ne : X ≠ mb
  yx : ¬ Y X
  ym : ¬ Y mb
  lm : mb < w.heap.size
  cx : ∀ i, i < 8 → CX (Ot Y X mb xs vs i) (xs i) w (S.c i) (vs i)
  fk : ∀ g, (S.f g).isSome = true → 0 ≤ g ∧ g < 8
def RW (Y B : Nat → Prop) (X : Nat) (w : World) (S : Rst) : Prop := ∃ mb D xs vs, RX Y X w S mb D xs vs ∧ B = Rb X mb xs vs
end Rep
end Go.Proofs.Ytekdcfdjohlfcaa
/- Package report, over this seat's program: how a report is kept; isCell, Cell, First, tell. -/
namespace Go.Proofs.Ytekdcfdjohlfcaa
open Go.ChangeShapes Go.WideShapes Go.ChangeAt Go.RowKit
namespace Rep
open Ck Ce
open Ba (hide)

theorem map_same {w w' : World} {mb n : Nat} {D : DataW Unit} (h : w.ownsMap Try.prog 3 mE mb n D) (e : w'.heap[mb]? = w.heap[mb]?) : w'.ownsMap Try.prog 3 mE mb n D := by
  obtain ⟨es, clock, hb, r⟩ := h
  exact ⟨es, clock, e.trans hb, r⟩
section
variable {Y Z : Nat → Prop} {X : Nat} {w w' : World} {S : Rst} {mb : Nat} {D : DataW Unit} {xs : Nat → Nat} {vs : Nat → Value}
theorem RX.lt (s : RX Y X w S mb D xs vs) : X < w.heap.size := (Array.getElem?_eq_some_iff.1 s.hd).1
theorem RX.bl (s : RX Y X w S mb D xs vs) : ∀ k, Rb X mb xs vs k → k < w.heap.size := by
  rintro k (rfl | rfl | ⟨j, hj, rfl | q⟩)
  · exact s.lt
  · exact s.lm
  · exact (s.cx j hj).lt
  · exact ((s.cx j hj).own.lt k q).2
theorem RX.bd (s : RX Y X w S mb D xs vs) : ∀ k, Rb X mb xs vs k → ¬ Y k := by
  rintro k (rfl | rfl | ⟨j, hj, rfl | q⟩) h
  · exact s.yx h
  · exact s.ym h
  · exact (s.cx j hj).yx (.inl h)
  · exact (s.cx j hj).yg k q (.inl h)
theorem RX.yl (s : RX Y X w S mb D xs vs) : ∀ k, Y k → k < w.heap.size := fun k q => (s.cx 0 (by decide)).yl k (.inl q)
/-- nothing of its own has changed -/
theorem RX.mv (s : RX Y X w S mb D xs vs) (hb : ∀ k, Rb X mb xs vs k → w'.heap[k]? = w.heap[k]?) (hz : ∀ k, Z k → ¬ Rb X mb xs vs k) (zl : ∀ k, Z k → k < w'.heap.size) (hs : w.heap.size ≤ w'.heap.size) : RX Z X w' S mb D xs vs := by
  refine ⟨(hb X (.inl rfl)).trans s.hd, map_same s.ow (hb mb (.inr (.inl rfl))), s.mi, s.ne, fun q => hz X q (.inl rfl), fun q => hz mb q (.inr (.inl rfl)), Nat.lt_of_lt_of_le s.lm hs, fun i hi => ?_, s.fk⟩
  refine (s.cx i hi).mv (hb _ (.inr (.inr ⟨i, hi, .inl rfl⟩))) (fun g q => hb _ (.inr (.inr ⟨i, hi, .inr q⟩))) ?_ ?_ ?_
  · rintro (q | q)
    · exact hz _ q (.inr (.inr ⟨i, hi, .inl rfl⟩))
    · exact (s.cx i hi).yx (.inr q)
  · rintro g h (q | q)
    · exact hz _ q (.inr (.inr ⟨i, hi, .inr h⟩))
    · exact (s.cx i hi).yg g h (.inr q)
  · rintro k (q | q)
    · exact zl k q
    · exact Nat.lt_of_lt_of_le ((s.cx i hi).yl k (.inr q)) hs
theorem RX.below (s : RX Y X w S mb D xs vs) (b : Below w.heap.size w w') : RX Y X w' S mb D xs vs :=
  s.mv (fun k q => b.block k (s.bl k q)) (fun k q r => s.bd k r q) (fun k q => Nat.lt_of_lt_of_le (s.yl k q) b.size) b.size
/-- a cell has changed -/
theorem RX.cell (s : RX Y X w S mb D xs vs) {i : Nat} (hi : i < 8) {st' : Cst} {v' : Value} (c : CX (Ot Y X mb xs vs i) (xs i) w' st' v') (k : KY (Ot Y X mb xs vs i) w w') : RX Y X w' ⟨upn S.c i st', S.f⟩ mb D xs (upn vs i v') := by
  refine ⟨(k.block X (.inr (.inl rfl))).trans s.hd, map_same s.ow (k.block mb (.inr (.inr (.inl rfl)))), s.mi, s.ne, s.yx, s.ym, Nat.lt_of_lt_of_le s.lm k.size, fun j hj => ?_, s.fk⟩
  show CX _ (xs j) w' (upn S.c i st' j) (upn vs i v' j)
  by_cases e : j = i
  · subst e
    rw [upn_same, upn_same]
    have sub : ∀ x, Ot Y X mb xs (upn vs j v') j x → Ot Y X mb xs vs j x := by
      rintro x (q | q | q | ⟨l, hl, hne, q⟩)
      · exact .inl q
      · exact .inr (.inl q)
      · exact .inr (.inr (.inl q))
      · rw [upn_other _ _ _ _ hne] at q
        exact .inr (.inr (.inr ⟨l, hl, hne, q⟩))
    exact c.mv rfl (fun _ _ => rfl) (fun q => c.yx (sub _ q)) (fun g h q => c.yg g h (sub _ q)) (fun x q => c.yl x (sub _ q))
  · rw [upn_other _ _ _ _ e, upn_other _ _ _ _ e]
    have inX : Ot Y X mb xs vs i (xs j) := .inr (.inr (.inr ⟨j, hj, e, .inl rfl⟩))
    have inG : ∀ g, (vs j).ownBlock = some g → Ot Y X mb xs vs i g := fun g h => .inr (.inr (.inr ⟨j, hj, e, .inr h⟩))
    have sub : ∀ x, Ot Y X mb xs (upn vs i v') j x → Ot Y X mb xs vs j x ∨ v'.ownBlock = some x := by
      rintro x (q | q | q | ⟨l, hl, hne, q⟩)
      · exact .inl (.inl q)
      · exact .inl (.inr (.inl q))
      · exact .inl (.inr (.inr (.inl q)))
      · by_cases e2 : l = i
        · subst e2
          rw [upn_same] at q
          rcases q with q | q
          · exact .inl (.inr (.inr (.inr ⟨l, hl, hne, .inl q⟩)))
          · exact .inr q
        · rw [upn_other _ _ _ _ e2] at q
          exact .inl (.inr (.inr (.inr ⟨l, hl, hne, q⟩)))
    refine (s.cx j hj).mv (k.block _ inX) (fun g h => k.block _ (inG g h)) (fun q => ?_) (fun g h q => ?_) (fun x q => ?_)
    · rcases sub _ q with q | q
      · exact (s.cx j hj).yx q
      · exact c.yg _ q inX
    · rcases sub _ q with q | q
      · exact (s.cx j hj).yg g h q
      · exact c.yg _ q (inG g h)
    · rcases sub _ q with q | q
      · exact Nat.lt_of_lt_of_le ((s.cx j hj).yl x q) k.size
      · exact (c.own.lt x q).2
theorem RX.nx (s : RX Y X w S mb D xs vs) {i : Nat} (hi : i < 8) : xs i ≠ mb ∧ ∀ g, (vs i).ownBlock = some g → g ≠ mb := ⟨fun e => (s.cx i hi).yx (.inr (.inr (.inl e))), fun g h e => (s.cx i hi).yg g h (.inr (.inr (.inl e)))⟩
/-- the map has changed -/
theorem RX.map (s : RX Y X w S mb D xs vs) {f' : Int → Option Rc} {D' : DataW Unit} (g : w.grownBy w' (some mb)) (o : w'.ownsMap Try.prog 3 mE mb (cnt f') D') (mi : MI D' f') (fk : ∀ g, (f' g).isSome = true → 0 ≤ g ∧ g < 8) : RX Y X w' ⟨S.c, f'⟩ mb D' xs vs := by
  refine ⟨(g.block X s.lt (fun e => s.ne (by cases e; rfl))).trans s.hd, o, mi, s.ne, s.yx, s.ym, Nat.lt_of_lt_of_le s.lm g.size, fun i hi => ?_, fk⟩
  have nx := s.nx hi
  exact (s.cx i hi).mv (g.block _ (s.cx i hi).lt (fun e => nx.1 (by cases e; rfl))) (fun x h => g.block _ ((s.cx i hi).own.lt x h).2 (fun e => nx.2 x h (by cases e; rfl))) (s.cx i hi).yx (s.cx i hi).yg (fun x q => Nat.lt_of_lt_of_le ((s.cx i hi).yl x q) g.size)
end

theorem isc_yes (i : Int) (h0 : 0 ≤ i) (h1 : i < 8) (w : World) : Calls Try.prog 58 #[.int .i64 i] w fun r w' => r = .returned (.bool true) ∧ w' = w := by
  go_enter Try.func58, Try.ntmps58
  go_wp2_with fail
  go_ret
  exact ⟨rfl, rfl⟩
theorem isc_no (i : Int) (h : i < 0 ∨ 8 ≤ i) (w : World) : Calls Try.prog 58 #[.int .i64 i] w fun r w' => r = .returned (.bool false) ∧ w' = w := by
  by_cases h0 : i < 0
  · clear h
    go_enter Try.func58, Try.ntmps58
    go_wp2_with fail
    go_ret
    exact ⟨rfl, rfl⟩
  · have h1 : 8 ≤ i := by omega
    have h2 : ¬ (i < 8) := by omega
    clear h
    go_enter Try.func58, Try.ntmps58
    go_wp2_with fail
    go_ret
    exact ⟨by simp, rfl⟩
theorem cell_nil (i : Int) (w : World) : Calls Try.prog 28 #[.pointer none, .int .i64 i] w fun r w' => r = .returned (.pointer none) ∧ w' = w := by
  go_enter Try.func28, Try.ntmps28
  go_wp2_with fail
  go_ret
  exact ⟨rfl, rfl⟩
theorem cell_out (p : Option Addr) (i : Int) (h : i < 0 ∨ 8 ≤ i) (w : World) : Calls Try.prog 28 #[.pointer p, .int .i64 i] w fun r w' => r = .returned (.pointer none) ∧ w' = w := by
  cases p with
  | none => exact cell_nil i w
  | some a =>
    have I := hide (isc_no i h w)
    clear h
    go_enter Try.func28, Try.ntmps28
    go_wp2_with fail
    refine I.out.mono ?_
    rintro r w1 ⟨rfl, e1⟩
    obtain rfl := e1.symm
    go_wp2_with fail
    go_ret
    exact ⟨rfl, rfl⟩
theorem cell_at {Y : Nat → Prop} {X : Nat} {w : World} {S : Rst} {mb : Nat} {D : DataW Unit} {xs : Nat → Nat} {vs : Nat → Value} (s : RX Y X w S mb D xs vs) (i : Nat) (h : i < 8) :
    Calls Try.prog 28 #[.pointer (some ⟨X, 0, none⟩), .int .i64 (i : Int)] w fun r w' => r = .returned (pt (xs i)) ∧ w' = w := by
  have I := hide (isc_yes (i : Int) (by omega) (by omega) w)
  have c1 : w.cell? ⟨X, i, none⟩ = some (pt (xs i)) := (cell_of s.hd i).trans (hd9_at _ _ _ h)
  have h' : (i : Int) < 8 := by omega
  unfold pt at c1 ⊢
  have hlt := s.lt
  clear s
  go_enter Try.func28, Try.ntmps28
  go_wp2_with fail
  refine I.out.mono ?_
  rintro r w1 ⟨rfl, e1⟩
  obtain rfl := e1.symm
  go_wp2_with fail
  go_ret
  exact ⟨rfl, rfl⟩
theorem loadVar_rc {w : World} {b : Nat} {c : Array Value} {t : TypeId} (h : w.heap[b]? = some (.cells c t (0, 0))) (hc : c.size = 5) : (loadVar 73 ⟨b, 0, none⟩).run Try.prog w = .ok (.agg c) w :=
  run_loadVar_row w b t _ _ _ _ h Try.underlying73 rfl (by rw [(zero_of_info info_rc).2, hc])
theorem first_nil (g : Int) (w : World) : Calls Try.prog 27 #[.pointer none, .int .i64 g] w fun r w' => r = .returned (.tuple #[rv r0, .bool false]) ∧ Below w.heap.size w w' := by
  go_enter Try.func27, Try.ntmps27
  go_wp2_with fail
  exact bodyPost_ret (Ba.results_row2 Try.results27 _ _ _ _ _ rfl rfl (loadVar_rc (heap_new _ _) rfl)) rfl ⟨rfl, Ba.below_alloc _ _⟩
/-- what First tells -/
def fV (o : Option Rc) : Value := .tuple #[rv (o.getD r0), .bool o.isSome]
set_option maxRecDepth 100000 in
theorem first_any {Y : Nat → Prop} {X : Nat} {w : World} {S : Rst} {mb : Nat} {D : DataW Unit} {xs : Nat → Nat} {vs : Nat → Value} (s : RX Y X w S mb D xs vs) (g : Int) (hg : wfk g) :
    Calls Try.prog 27 #[.pointer (some ⟨X, 0, none⟩), .int .i64 g] w fun r w' => r = .returned (fV (S.f g)) ∧ Below w.heap.size w w' := by
  have y2 : w.cell? ⟨X, 8, none⟩ = some (.map (some mb)) := cell_of s.hd 8
  have hlt := s.lt
  have OW := hide (s.ow.alloc (.cells #[.int .i64 0, .int .i64 0, .int .i64 0, .int .i64 0, .bool false] 73))
  have HK := hide (key_kl g hg)
  have LS := hide (fun v ps (e : mE v = some (D.atKey (kl g) (rD r0), ps)) => look_shape s.mi e)
  have hh : Maps.has D (kl g) = (S.f g).isSome := s.mi.has g
  have ZR := hide (fun u => zero_rc u)
  have hmz : mE (rv r0) = some (rD r0, []) := rfl
  unfold fV
  generalize S.f g = o at *
  clear s hg
  cases o with
  | none =>
    simp only [Option.isSome_none, Option.getD_none] at hh LS ⊢
    unfold rv ra5 at LS ZR ⊢
    go_enter Try.func27, Try.ntmps27
    go_wp2_with (at_lookup; refine wpList_lookup_own_ok _ rfl _ _ 117 rfl 3 73 law Try.underlying117 mE (ZR.out _) (rD r0) [] hmz mb _ D rfl OW.out _ _ rfl HK.out ?_; intro v ps hv; obtain rfl := LS.out v ps hv; clear hv)
    exact bodyPost_ret (Ba.results_row2 Try.results27 _ _ _ _ _ rfl rfl (loadVar_rc (Ba.heap_below (heap_new w _) (Ba.below_alloc _ _)) rfl)) rfl ⟨rfl, btr (Ba.below_alloc _ _) (Ba.below_alloc _ _)⟩
  | some r =>
    simp only [Option.isSome_some, Option.getD_some] at hh LS ⊢
    unfold rv ra5 at LS ZR ⊢
    obtain ⟨a, b, c, d, e⟩ := r
    simp only at LS ⊢
    go_enter Try.func27, Try.ntmps27
    go_wp2_with (at_lookup; refine wpList_lookup_own_ok _ rfl _ _ 117 rfl 3 73 law Try.underlying117 mE (ZR.out _) (rD r0) [] hmz mb _ D rfl OW.out _ _ rfl HK.out ?_; intro v ps hv; obtain rfl := LS.out v ps hv; clear hv)
    exact bodyPost_ret (Ba.results_row2 Try.results27 _ _ _ _ _ rfl rfl (loadVar_rc (Ba.heap_below (heap_new w _) (Ba.below_alloc _ _)) rfl)) rfl ⟨rfl, btr (Ba.below_alloc _ _) (Ba.below_alloc _ _)⟩
set_option maxRecDepth 100000 in
theorem tell_no {Y : Nat → Prop} {X : Nat} {w : World} {S : Rst} {mb : Nat} {D : DataW Unit} {xs : Nat → Nat} {vs : Nat → Value} (s : RX Y X w S mb D xs vs) (r : Rc) (h0 : 0 ≤ r.c) (h1 : r.c < 8) (q : Rc) (hf : S.f r.c = some q) :
    Calls Try.prog 66 #[.pointer (some ⟨X, 0, none⟩), rv r] w fun o w' => o = .returned (.bool false) ∧ Below w.heap.size w w' := by
  have wf : wfk r.c := by unfold wfk; simp [Lit.wf, IntKind.min, IntKind.max, IntKind.bits, IntKind.signed]; omega
  have FI := hide (first_any (s.below (Ba.below_alloc w (.cells (ra5 r) 73))) r.c wf)
  rw [hf] at FI
  unfold fV at FI
  simp only [Option.getD_some, Option.isSome_some] at FI
  unfold rv ra5 at FI ⊢
  clear s hf wf
  go_enter Try.func66, Try.ntmps66
  go_wp2_with fail
  refine FI.out.mono ?_
  rintro o w1 ⟨rfl, b1⟩
  have B1 := hide (btr (Ba.below_alloc _ _) b1)
  clear b1
  go_wp2_with fail
  go_ret
  exact ⟨rfl, btr B1.out (Ba.below_alloc _ _)⟩
set_option maxRecDepth 100000 in
theorem tell_yes {Y : Nat → Prop} {X : Nat} {w : World} {S : Rst} {mb : Nat} {D : DataW Unit} {xs : Nat → Nat} {vs : Nat → Value} (s : RX Y X w S mb D xs vs) (r : Rc) (h0 : 0 ≤ r.c) (h1 : r.c < 8) (hf : S.f r.c = none) :
    Calls Try.prog 66 #[.pointer (some ⟨X, 0, none⟩), rv r] w fun o w' => o = .returned (.bool true) ∧ (∃ D', RX Y X w' ⟨S.c, upf S.f r.c (some r)⟩ mb D' xs vs) ∧ KY Y w w' := by
  have wf : wfk r.c := by unfold wfk; simp [Lit.wf, IntKind.min, IntKind.max, IntKind.bits, IntKind.signed]; omega
  have FI := hide (first_any (s.below (Ba.below_alloc w (.cells (ra5 r) 73))) r.c wf)
  rw [hf] at FI
  unfold fV at FI
  simp only [Option.getD_none, Option.isSome_none] at FI
  have hb : (w.alloc (.cells (ra5 r) 73)).heap[w.heap.size]? = some (.cells (ra5 r) 73 (0, 0)) := heap_new _ _
  have HB := hide hb
  have HS := hide s
  have WF := hide wf
  have HF := hide hf
  clear s hf wf hb
  unfold rv ra5 at FI ⊢
  go_enter Try.func66, Try.ntmps66
  go_wp2_with fail
  refine FI.out.mono ?_
  rintro o w1 ⟨rfl, b1⟩
  have B1 := hide (btr (Ba.below_alloc _ _) b1)
  have HB1 := hide ((b1.block w.heap.size (by rw [World.size_alloc]; omega)).trans HB.out)
  clear b1 HB FI
  go_upto_region 4 with fail
  have B2 := hide (btr B1.out (Ba.below_alloc w1 (.cells (ra5 r0) 73)))
  have HB2 := hide (((Ba.below_alloc w1 (.cells (ra5 r0) 73)).block w.heap.size (Ba.heap_lt HB1.out)).trans HB1.out)
  have S2 := hide (HS.out.below B2.out)
  unfold ra5 at B2 HB2 S2
  generalize w1.alloc (.cells #[.int .i64 r0.c, .int .i64 r0.p, .int .i64 r0.g, .int .i64 r0.wi, .bool r0.wr] 73) = w2 at *
  obtain ⟨w3, hrun, o3, g3⟩ := (map_same (w' := w2.drew) S2.out.ow rfl).update law Try.underlying117 (Nat.lt_of_le_of_lt (cnt_le _) (by unfold maxLen; decide)) (key_kl r.c WF.out) (mE_v r)
  unfold rv ra5 at hrun
  have y8 : w2.cell? ⟨X, 8, none⟩ = some (.map (some mb)) := cell_of S2.out.hd 8
  have z0 := cell_of HB2.out 0
  have z1 := cell_of HB2.out 1
  have z2 := cell_of HB2.out 2
  have z3 := cell_of HB2.out 3
  have z4 := cell_of HB2.out 4
  simp at z0 z1 z2 z3 z4
  have KY3 : Hid (KY Y w w3) := (KY.of (btr B2.out (Ba.bdrew1 w2)) HS.out.yl).trans (KY.grown g3 (fun k q => Nat.lt_of_lt_of_le (HS.out.yl k q) B2.out.size) (fun g e q => HS.out.ym (by cases e; exact q)))
  have RX3 : Hid (RX Y X w3 ⟨S.c, upf S.f r.c (some r)⟩ mb (D.put (kl r.c) (rD r)) xs vs) := by
    refine (S2.out.below (Ba.bdrew1 w2)).map g3 ?_ (S2.out.mi.put WF.out r) (fun g e => ?_)
    · rw [cnt_put h0 h1 HF.out]; exact o3
    · by_cases q : g = r.c
      · rw [q]; exact ⟨h0, h1⟩
      · rw [upf_other _ _ _ _ q] at e; exact S2.out.fk g e
  clear S2 HB2 HB1 B1 B2 o3 g3 HS
  go_region
  all_goals
    go_wp2_with fail
    go_ret
    exact ⟨rfl, ⟨_, RX3.out⟩, KY3.out⟩
end Rep
end Go.Proofs.Ytekdcfdjohlfcaa
/- Package report, over this seat's program: Put. -/
namespace Go.Proofs.Ytekdcfdjohlfcaa
open Go.ChangeShapes Go.WideShapes Go.ChangeAt Go.RowKit
namespace Rep
open Ck Ce
open Ba (hide)
open Ep (tidOf clkOf ownB)

section
variable {Y Z : Nat → Prop} {X : Nat} {w w' : World} {S : Rst} {mb : Nat} {D : DataW Unit} {xs : Nat → Nat} {vs : Nat → Value}
theorem RX.less (s : RX Y X w S mb D xs vs) (h : ∀ k, Z k → Y k) : RX Z X w S mb D xs vs := s.mv (fun _ _ => rfl) (fun k q r => s.bd k r (h k q)) (fun k q => s.yl k (h k q)) (Nat.le_refl _)
theorem RX.box (s : RX Y X w S mb D xs vs) (o : Obj) : RX (fun k => Y k ∨ k = w.heap.size) X (w.alloc o) S mb D xs vs := by
  refine s.mv (fun k q => (Ba.below_alloc w o).block k (s.bl k q)) (fun k q r => ?_) (fun k q => ?_) (Ba.below_alloc w o).size
  · rcases q with q | q
    · exact s.bd k r q
    · have := s.bl k r; omega
  · rw [World.size_alloc]
    rcases q with q | q
    · exact Nat.lt_succ_of_lt (s.yl k q)
    · omega
end
/-- an access -/
structure Aq where
  p : Int
  g : Int
  c : Int
  wr : Bool
def aV (a : Aq) : Array Value := #[.int .i64 a.p, .int .i64 a.g, .int .i64 a.c, .bool a.wr]
/-- what the cell answers, and what it is then -/
def acS (a : Aq) (st : Cst) (e : Int) (l : List Int) : Cst := if a.wr then wrS e else rdS st e l
def acR (a : Aq) (st : Cst) (e : Int) (l : List Int) : Int := if a.wr then wrR st e l else rdR st e l
def rcOf (a : Aq) (x : Int) : Rc := ⟨a.c, a.p, a.g, x, a.wr⟩
def putF (S : Rst) (a : Aq) (x : Int) : Int → Option Rc := if x = 0 ∨ (S.f a.c).isSome = true then S.f else upf S.f a.c (some (rcOf a x))
def putS (S : Rst) (a : Aq) (i : Nat) (e : Int) (l : List Int) : Rst := ⟨upn S.c i (acS a (S.c i) e l), putF S a (acR a (S.c i) e l)⟩
def putB (S : Rst) (a : Aq) (i : Nat) (e : Int) (l : List Int) : Bool := !(acR a (S.c i) e l == 0) && (S.f a.c).isNone
def badA (a : Aq) : Prop := a.c < 0 ∨ 8 ≤ a.c ∨ a.p < 0 ∨ a.g < 0
set_option maxRecDepth 100000 in
theorem put_arg (o : Option Addr) (a : Aq) (e q : Value) (h : badA a) (w : World) :
    Calls Try.prog 51 #[.pointer o, .agg (aV a), e, q] w fun r w' => r = .returned (.tuple #[.bool false, .int .i64 1]) ∧ Below w.heap.size w w' := by
  obtain ⟨p, g, c, wr⟩ := a
  unfold badA at h
  unfold aV
  simp only at h ⊢
  by_cases hc : c < 0 ∨ 8 ≤ c
  · have I := hide (fun u => isc_no c hc u)
    clear h hc
    go_enter Try.func51, Try.ntmps51
    go_wp2_with fail
    refine (I.out _).mono ?_
    rintro r w1 ⟨rfl, rfl⟩
    go_wp2_with fail
    go_ret2
    exact ⟨rfl, Ba.below_alloc _ _⟩
  · have I := hide (fun u => isc_yes c (by omega) (by omega) u)
    by_cases hp : p < 0
    · clear h hc
      go_enter Try.func51, Try.ntmps51
      go_wp2_with fail
      refine (I.out _).mono ?_
      rintro r w1 ⟨rfl, rfl⟩
      go_wp2_with fail
      go_ret2
      exact ⟨rfl, Ba.below_alloc _ _⟩
    · have hg : g < 0 := by omega
      clear h hc
      go_enter Try.func51, Try.ntmps51
      go_wp2_with fail
      refine (I.out _).mono ?_
      rintro r w1 ⟨rfl, rfl⟩
      go_wp2_with fail
      go_ret2
      exact ⟨rfl, Ba.below_alloc _ _⟩
set_option maxRecDepth 100000 in
theorem put_nil (a : Aq) (e : Int) (a0 : 0 ≤ e) (a1 : e ≤ 18446744073709551615) (q : Value) (h : ¬ badA a) (w : World) :
    Calls Try.prog 51 #[.pointer none, .agg (aV a), .int .u64 e, q] w fun r w' => r = .returned (.tuple #[.bool false, .int .i64 (accE e)]) ∧ Below w.heap.size w w' := by
  obtain ⟨p, g, c, wr⟩ := a
  unfold badA at h
  unfold aV
  simp only at h ⊢
  have I := hide (fun u => isc_yes c (by omega) (by omega) u)
  have hp : ¬ (p < 0) := by omega
  have hg : ¬ (g < 0) := by omega
  have CN := hide (fun u => cell_nil c u)
  have RN := hide (fun u => read_no e a0 a1 none q u (.inr rfl))
  have WN := hide (fun u => write_no e a0 a1 none q u (.inr rfl))
  have h7 : ¬ (accE e = 0) := by unfold accE; split <;> decide
  clear h
  generalize accE e = x at *
  cases wr
  all_goals
    go_enter Try.func51, Try.ntmps51
    go_wp2_with fail
    refine (I.out _).mono ?_
    rintro r w1 ⟨rfl, rfl⟩
    go_wp2_with fail
    refine (CN.out _).mono ?_
    rintro r w1 ⟨rfl, rfl⟩
    go_wp2_with fail
    first
      | refine (RN.out _).mono ?_
      | refine (WN.out _).mono ?_
    rintro r w1 ⟨rfl, rfl⟩
    go_wp2_with fail
    go_ret2
    exact ⟨rfl, Ba.below_alloc _ _⟩
section
variable {Y : Nat → Prop} {X : Nat} {w : World} {S : Rst} {mb : Nat} {D : DataW Unit} {xs : Nat → Nat} {vs : Nat → Value}
set_option maxRecDepth 100000 in
theorem put_bad (s : RX Y X w S mb D xs vs) (a : Aq) (e : Int) (a0 : 0 ≤ e) (a1 : e ≤ 18446744073709551615) (q : Value) (h : ¬ badA a) (ho : ownB e = false) :
    Calls Try.prog 51 #[.pointer (some ⟨X, 0, none⟩), .agg (aV a), .int .u64 e, q] w fun r w' => r = .returned (.tuple #[.bool false, .int .i64 1]) ∧ Below w.heap.size w w' := by
  have s1 := s.box (.cells (aV a) 59)
  obtain ⟨p, g, c, wr⟩ := a
  unfold badA at h
  unfold aV at s1 ⊢
  simp only at h s1 ⊢
  obtain ⟨i, rfl⟩ : ∃ i : Nat, c = (i : Int) := ⟨c.toNat, by omega⟩
  have I := hide (fun u => isc_yes (i : Int) (by omega) (by omega) u)
  have hp : ¬ (p < 0) := by omega
  have hg : ¬ (g < 0) := by omega
  have CN := hide (cell_at s1 i (by omega))
  have RN := hide (fun u => read_no e a0 a1 (some ⟨xs i, 0, none⟩) q u (.inl ho))
  have WN := hide (fun u => write_no e a0 a1 (some ⟨xs i, 0, none⟩) q u (.inl ho))
  have h1 : accE e = 1 := by unfold accE; rw [if_pos ho]
  rw [h1] at RN WN
  unfold pt at CN
  clear h s s1 ho h1
  cases wr
  all_goals
    go_enter Try.func51, Try.ntmps51
    go_wp2_with fail
    refine (I.out _).mono ?_
    rintro r w1 ⟨rfl, rfl⟩
    go_wp2_with fail
    refine CN.out.mono ?_
    rintro r w1 ⟨rfl, rfl⟩
    go_wp2_with fail
    first
      | refine (RN.out _).mono ?_
      | refine (WN.out _).mono ?_
    rintro r w1 ⟨rfl, rfl⟩
    go_wp2_with fail
    go_ret2
    exact ⟨rfl, Ba.below_alloc _ _⟩
/-- what Put gives -/
def PutR (Y : Nat → Prop) (X : Nat) (w : World) (S' : Rst) (mb : Nat) (xs : Nat → Nat) (b : Bool) (r : Ending) (w' : World) : Prop := r = .returned (.tuple #[.bool b, .int .i64 0]) ∧ (∃ D' vs', RX Y X w' S' mb D' xs vs') ∧ KY Y w w'
set_option maxRecDepth 100000 in
set_option maxHeartbeats 3200000 in
theorem put_ok (s : RX Y X w S mb D xs vs) (a : Aq) (i : Nat) (hi : a.c = (i : Int)) (h : ¬ badA a) (e : Int) (ho : ownB e = true) (b : Nat) (l : List Int) (hc : CL Y w b l) :
    Calls Try.prog 51 #[.pointer (some ⟨X, 0, none⟩), .agg (aV a), .int .u64 e, .pointer (some ⟨b, 0, none⟩)] w (PutR Y X w (putS S a i e l) mb xs (putB S a i e l)) := by
  unfold PutR
  have s1 := s.box (.cells (aV a) 59)
  have hi8 : i < 8 := by unfold badA at h; omega
  have hb1 : (w.alloc (.cells (aV a) 59)).heap[w.heap.size]? = some (.cells (aV a) 59 (0, 0)) := heap_new _ _
  have hc1 : CL (fun k => Y k ∨ k = w.heap.size) (w.alloc (.cells (aV a) 59)) b l := (hc.keep (KY.of (Ba.below_alloc w _) s.yl)).mono fun _ q => .inl q
  have k1 : KY Y w (w.alloc (.cells (aV a) 59)) := KY.of (Ba.below_alloc w _) s.yl
  have OP : Hid (∀ (f : Nat), (a.wr = true → f = 65) → (a.wr = false → f = 64) → Calls Try.prog f #[.pointer (some ⟨xs i, 0, none⟩), .int .u64 e, .pointer (some ⟨b, 0, none⟩)] (w.alloc (.cells (aV a) 59)) fun r w' => r = .returned (.tuple #[.int .i64 (acR a (S.c i) e l), .int .i64 0]) ∧ (∃ v', CX (Ot (fun k => Y k ∨ k = w.heap.size) X mb xs vs i) (xs i) w' (acS a (S.c i) e l) v') ∧ KY (Ot (fun k => Y k ∨ k = w.heap.size) X mb xs vs i) (w.alloc (.cells (aV a) 59)) w') := by
    intro f h1 h2
    unfold acR acS
    cases hw : a.wr
    · rw [h2 hw]
      exact read_ok ⟨_, s1.cx i hi8⟩ e ho b l (hc1.mono fun _ q => .inl q)
    · rw [h1 hw]
      exact write_ok ⟨_, s1.cx i hi8⟩ e ho b l (hc1.mono fun _ q => .inl q)
  have CN := hide (cell_at s1 i hi8)
  have I := hide (fun u => isc_yes (i : Int) (by omega) (by omega) u)
  unfold pt at CN
  have HB := hide hb1
  have S1 := hide s1
  have K1 := hide k1
  obtain ⟨x, hx⟩ : ∃ x, acR a (S.c i) e l = x := ⟨_, rfl⟩
  obtain ⟨st', hst⟩ : ∃ st', acS a (S.c i) e l = st' := ⟨_, rfl⟩
  unfold putS putB
  rw [hx, hst] at OP ⊢
  clear hx hst s s1 k1 hb1 hc hc1
  obtain ⟨p, g, c, wr⟩ := a
  simp only at hi
  subst hi
  unfold badA at h
  unfold aV at OP CN HB S1 K1 ⊢
  simp only at h OP CN HB S1 K1 ⊢
  have hp : ¬ (p < 0) := by omega
  have hg : ¬ (g < 0) := by omega
  have hi0 : (0 : Int) ≤ (i : Int) := by omega
  have hi1 : (i : Int) < 8 := by omega
  clear h
  generalize hw1 : w.alloc (.cells #[.int .i64 p, .int .i64 g, .int .i64 (i : Int), .bool wr] 59) = w1 at *
  have HW := hide hw1
  clear hw1
  have TL : Hid (∀ w2 v2, CX (Ot (fun k => Y k ∨ k = w.heap.size) X mb xs vs i) (xs i) w2 st' v2 → KY (Ot (fun k => Y k ∨ k = w.heap.size) X mb xs vs i) w1 w2 → RX (fun k => Y k ∨ k = w.heap.size) X w2 ⟨upn S.c i st', S.f⟩ mb D xs (upn vs i v2) ∧ KY Y w w2 ∧ w2.heap[w.heap.size]? = some (.cells #[.int .i64 p, .int .i64 g, .int .i64 (i : Int), .bool wr] 59 (0, 0))) := by
    intro w2 v2 c2 k2
    exact ⟨S1.out.cell hi8 c2 k2, K1.out.trans (k2.mono fun _ q => .inl (.inl q)), (k2.block _ (.inl (.inr rfl))).trans HB.out⟩
  have y0 := cell_of HB.out 0
  have y1 := cell_of HB.out 1
  have y2 := cell_of HB.out 2
  have y3 := cell_of HB.out 3
  simp at y0 y1 y2 y3
  clear HB S1 K1
  have OPW : Hid (wr = true → _) := fun q => OP.out 65 (fun _ => rfl) (fun z => by rw [q] at z; cases z)
  have OPR : Hid (wr = false → _) := fun q => OP.out 64 (fun z => by rw [q] at z; cases z) (fun _ => rfl)
  clear OP
  by_cases hx0 : x = 0
  · subst hx0
    have TF : Hid (putF S ⟨p, g, (i : Int), wr⟩ 0 = S.f) := by show _ = _; unfold putF; rw [if_pos (.inl rfl)]
    rw [TF.out]
    cases wr
    all_goals
      go_enter Try.func51, Try.ntmps51
      go_wp2_with fail
      rw [HW.out]
      refine (I.out _).mono ?_
      rintro r w0 ⟨rfl, e0⟩
      obtain rfl := e0.symm
      go_wp2_with fail
      refine CN.out.mono ?_
      rintro r w0 ⟨rfl, e0⟩
      obtain rfl := e0.symm
      go_wp2_with fail
      first
        | refine (OPR.out (by first | rfl | trivial)).mono ?_
        | refine (OPW.out (by first | rfl | trivial)).mono ?_
      rintro r w2 ⟨rfl, ⟨v2, c2⟩, k2⟩
      have F2 := hide (TL.out w2 v2 c2 k2)
      clear c2 k2 TL
      go_wp2_with fail
      go_ret2
      exact ⟨rfl, ⟨_, _, F2.out.1.less fun _ q => .inl q⟩, F2.out.2.1⟩
  have hx1 : (x == 0) = false := beq_eq_false_iff_ne.2 hx0
  have TN : Hid (∀ w2 v2 q, S.f (i : Int) = some q → RX (fun k => Y k ∨ k = w.heap.size) X w2 ⟨upn S.c i st', S.f⟩ mb D xs (upn vs i v2) → _) := fun w2 v2 q hq s2 => tell_no s2 (rcOf ⟨p, g, (i : Int), wr⟩ x) hi0 hi1 q hq
  have TY : Hid (∀ w2 v2, S.f (i : Int) = none → RX (fun k => Y k ∨ k = w.heap.size) X w2 ⟨upn S.c i st', S.f⟩ mb D xs (upn vs i v2) → _) := fun w2 v2 hq s2 => tell_yes s2 (rcOf ⟨p, g, (i : Int), wr⟩ x) hi0 hi1 hq
  unfold rcOf rv ra5 at TN TY
  simp only at TN TY
  cases hf : S.f (i : Int) with
  | some q =>
    have TF : Hid (putF S ⟨p, g, (i : Int), wr⟩ x = S.f) := by show _ = _; unfold putF; rw [if_pos (.inr (by simp only [hf]; rfl))]
    rw [TF.out, hx1]
    simp only [Option.isNone_some, Bool.and_false]
    clear TY
    cases wr
    all_goals
      go_enter Try.func51, Try.ntmps51
      go_wp2_with fail
      rw [HW.out]
      refine (I.out _).mono ?_
      rintro r w0 ⟨rfl, e0⟩
      obtain rfl := e0.symm
      go_wp2_with fail
      refine CN.out.mono ?_
      rintro r w0 ⟨rfl, e0⟩
      obtain rfl := e0.symm
      go_wp2_with fail
      first
        | refine (OPR.out (by first | rfl | trivial)).mono ?_
        | refine (OPW.out (by first | rfl | trivial)).mono ?_
      rintro r w2 ⟨rfl, ⟨v2, c2⟩, k2⟩
      have F2 := hide (TL.out w2 v2 c2 k2)
      have u0 := cell_of F2.out.2.2 0
      have u1 := cell_of F2.out.2.2 1
      have u2 := cell_of F2.out.2.2 2
      have u3 := cell_of F2.out.2.2 3
      simp at u0 u1 u2 u3
      clear c2 k2 TL
      go_wp2_with fail
      refine (TN.out w2 v2 q hf F2.out.1).mono ?_
      rintro r w3 ⟨rfl, b3⟩
      have F3 := hide (F2.out.1.below b3)
      have K3 := hide (F2.out.2.1.trans (KY.of b3 (fun k q => F2.out.1.yl k (.inl q))))
      clear b3
      go_wp2_with fail
      go_ret2
      exact ⟨rfl, ⟨_, _, F3.out.less fun _ q => .inl q⟩, K3.out⟩
  | none =>
    have TF : Hid (putF S ⟨p, g, (i : Int), wr⟩ x = upf S.f (i : Int) (some (rcOf ⟨p, g, (i : Int), wr⟩ x))) := by
      show _ = _; unfold putF; rw [if_neg (by simp only [hf]; simp [hx0])]
    rw [TF.out, hx1]
    simp only [Option.isNone_none, Bool.and_true, Bool.not_false]
    clear TN
    cases wr
    all_goals
      go_enter Try.func51, Try.ntmps51
      go_wp2_with fail
      rw [HW.out]
      refine (I.out _).mono ?_
      rintro r w0 ⟨rfl, e0⟩
      obtain rfl := e0.symm
      go_wp2_with fail
      refine CN.out.mono ?_
      rintro r w0 ⟨rfl, e0⟩
      obtain rfl := e0.symm
      go_wp2_with fail
      first
        | refine (OPR.out (by first | rfl | trivial)).mono ?_
        | refine (OPW.out (by first | rfl | trivial)).mono ?_
      rintro r w2 ⟨rfl, ⟨v2, c2⟩, k2⟩
      have F2 := hide (TL.out w2 v2 c2 k2)
      have u0 := cell_of F2.out.2.2 0
      have u1 := cell_of F2.out.2.2 1
      have u2 := cell_of F2.out.2.2 2
      have u3 := cell_of F2.out.2.2 3
      simp at u0 u1 u2 u3
      clear c2 k2 TL
      go_wp2_with fail
      refine (TY.out w2 v2 hf F2.out.1).mono ?_
      rintro r w3 ⟨rfl, ⟨D3, s3⟩, k3⟩
      have F3 := hide s3
      have K3 := hide (F2.out.2.1.trans (k3.mono fun _ q => .inl q))
      clear s3 k3
      go_wp2_with fail
      go_ret2
      exact ⟨rfl, ⟨_, _, F3.out.less fun _ q => .inl q⟩, K3.out⟩
end
end Rep
end Go.Proofs.Ytekdcfdjohlfcaa
/- Package report, over this seat's program: Retire, New. -/
namespace Go.Proofs.Ytekdcfdjohlfcaa
open Go.ChangeShapes Go.WideShapes Go.ChangeAt Go.RowKit
namespace Rep
open Ck Ce
open Ba (hide KF)
open Ep (tidOf clkOf ownB)

def badR (tid cut : Int) : Prop := tid < 0 ∨ 256 ≤ tid ∨ cut < 0 ∨ 1048576 < cut
set_option maxRecDepth 100000 in
theorem retire_nil' (tid cut : Int) (h : ¬ badR tid cut) (w : World) : Calls Try.prog 53 #[.pointer none, .int .i64 tid, .int .i64 cut] w fun r w' => r = .returned (.int .i64 7) ∧ w' = w := by
  unfold badR at h
  have CN := hide (fun u => cell_nil 0 u)
  have RN := hide (fun u => Ce.retire_nil tid cut (by omega) (by omega) (by omega) (by omega) u)
  clear h
  go_enter Try.func53, Try.ntmps53
  go_wp2_with fail
  go_loopw [9] (fun i wr => i = .int .i64 0 ∧ wr = w) (fun _ _ => 0)
  case atStart => exact ⟨rfl, rfl⟩
  case round =>
    obtain ⟨rfl, rfl⟩ := hrel
    go_wp2_with fail
    refine (CN.out _).mono ?_
    rintro r w1 ⟨rfl, e1⟩
    obtain rfl := e1.symm
    go_wp2_with fail
    refine (RN.out _).mono ?_
    rintro r w1 ⟨rfl, e1⟩
    obtain rfl := e1.symm
    go_wp2_with fail
    go_ret
    exact ⟨rfl, rfl⟩
set_option maxRecDepth 100000 in
theorem retire_arg' (o : Option Addr) (tid cut : Int) (h : badR tid cut) (w : World) (hc : ∃ p, Calls Try.prog 28 #[.pointer o, .int .i64 0] w fun r w' => r = .returned (.pointer p) ∧ w' = w) : Calls Try.prog 53 #[.pointer o, .int .i64 tid, .int .i64 cut] w fun r w' => r = .returned (.int .i64 1) ∧ w' = w := by
  obtain ⟨p, hc⟩ := hc
  have CN := hide hc
  have RN := hide (fun u => Ce.retire_arg p tid cut h u)
  clear h hc
  go_enter Try.func53, Try.ntmps53
  go_wp2_with fail
  go_loopw [9] (fun i wr => i = .int .i64 0 ∧ wr = w) (fun _ _ => 0)
  case atStart => exact ⟨rfl, rfl⟩
  case round =>
    obtain ⟨rfl, rfl⟩ := hrel
    go_wp2_with fail
    refine CN.out.mono ?_
    rintro r w1 ⟨rfl, e1⟩
    obtain rfl := e1.symm
    go_wp2_with fail
    refine (RN.out _).mono ?_
    rintro r w1 ⟨rfl, e1⟩
    obtain rfl := e1.symm
    go_wp2_with fail
    go_ret
    exact ⟨rfl, rfl⟩
/-- the first k cells have forgotten a tid -/
def rtC (S : Rst) (tid cut : Int) (k : Nat) : Nat → Cst := fun j => if j < k then retS (S.c j) tid cut else S.c j
theorem rtC_zero (S : Rst) (tid cut : Int) : rtC S tid cut 0 = S.c := by funext j; simp [rtC]
theorem rtC_succ (S : Rst) (tid cut : Int) (k : Nat) : upn (rtC S tid cut k) k (retS (rtC S tid cut k k) tid cut) = rtC S tid cut (k + 1) := by
  funext j
  unfold upn rtC
  by_cases e : j = k
  · subst e; simp
  · rw [if_neg e]
    by_cases h : j < k
    · rw [if_pos h, if_pos (by omega)]
    · rw [if_neg h, if_neg (by omega)]
section
variable {Y : Nat → Prop} {X : Nat} {w : World} {S : Rst} {mb : Nat} {D : DataW Unit} {xs : Nat → Nat} {vs : Nat → Value}
set_option maxRecDepth 100000 in
theorem retire_ok' (s : RX Y X w S mb D xs vs) (tid cut : Int) (h : ¬ badR tid cut) :
    Calls Try.prog 53 #[.pointer (some ⟨X, 0, none⟩), .int .i64 tid, .int .i64 cut] w fun r w' => r = .returned (.int .i64 0) ∧ (∃ vs', RX Y X w' ⟨rtC S tid cut 8, S.f⟩ mb D xs vs') ∧ KY Y w w' := by
  unfold badR at h
  have S0 : Hid (RX Y X w ⟨rtC S tid cut 0, S.f⟩ mb D xs vs) := by rw [rtC_zero]; exact s
  have YL := hide s.yl
  clear s
  go_enter Try.func53, Try.ntmps53
  go_wp2_with fail
  go_loopw [9] (fun i wr => ∃ (k : Nat) (v : Nat → Value), k ≤ 8 ∧ i = .int .i64 (k : Int) ∧ RX Y X wr ⟨rtC S tid cut k, S.f⟩ mb D xs v ∧ KY Y w wr) (fun i _ => 8 - (intOf i).toNat)
  case atStart => exact ⟨0, vs, by decide, rfl, S0.out, KY.refl _ _⟩
  case round =>
    clear S0
    obtain ⟨k, v, hk, rfl, s, ky⟩ := hrel
    have KH := hide ky
    by_cases hlt : k < 8
    · have hlt' : (k : Int) < 8 := by omega
      have CA := hide (cell_at s k hlt)
      have RT := hide (retire_ok ⟨_, s.cx k hlt⟩ tid cut (by omega) (by omega) (by omega) (by omega))
      unfold RetR at RT
      unfold pt at CA
      have SH := hide s
      clear s ky
      go_wp2_with fail
      refine CA.out.mono ?_
      rintro r w1 ⟨rfl, e1⟩
      obtain rfl := e1.symm
      go_wp2_with fail
      refine RT.out.mono ?_
      rintro r w2 ⟨rfl, ⟨v2, c2⟩, k2⟩
      have S2 := SH.out.cell hlt c2 k2
      rw [rtC_succ] at S2
      have S2H := hide S2
      have K2 := hide (KH.out.trans (k2.mono fun _ q => .inl q))
      clear c2 k2 S2 RT CA SH KH
      go_wp2_with fail
      go_roundw
      case rel => exact ⟨k + 1, _, by omega, by go_num, S2H.out, K2.out⟩
      case measure => simp [intOf]; omega
    · obtain rfl : k = 8 := by omega
      have SH := hide s
      clear s ky
      go_wp2_with fail
      go_ret
      exact ⟨rfl, ⟨_, SH.out⟩, KH.out⟩
end
/-- a report without accesses -/
def c00 : Cst := ⟨0, [], false⟩
def S00 : Rst := ⟨fun _ => c00, fun _ => none⟩
def hp (B k : Nat) : Nat → Value := fun j => if j < k then pt (B + j) else .pointer none
theorem hp_succ (B k : Nat) : upn (hp B k) k (pt (B + k)) = hp B (k + 1) := by
  funext j
  unfold upn hp
  by_cases e : j = k
  · subst e; simp
  · rw [if_neg e]
    by_cases h : j < k
    · rw [if_pos h, if_pos (by omega)]
    · rw [if_neg h, if_neg (by omega)]
theorem cnew_is (w : World) : Calls Try.prog 49 #[] w fun r w' => r = .returned (pt w.heap.size) ∧ w' = w.alloc (.cells #[.int .u64 0, .slice none 0 0, .bool false] 134) := by
  unfold pt
  go_enter Try.func49, Try.ntmps49
  go_wp2_with fail
  go_ret
  exact ⟨rfl, rfl⟩
end Rep
end Go.Proofs.Ytekdcfdjohlfcaa
/- Package report, over this seat's program: New, Races. -/
namespace Go.Proofs.Ytekdcfdjohlfcaa
open Go.ChangeShapes Go.WideShapes Go.ChangeAt Go.RowKit
namespace Rep
open Ck Ce
open Ba (hide KF)
open Ep (tidOf clkOf ownB)

def cel0 : Obj := .cells #[.int .u64 0, .slice none 0 0, .bool false] 134
/-- while New goes on -/
structure NI (w W wr : World) (k : Nat) : Prop where
  sz : wr.heap.size = w.heap.size + 2 + k
  hd : wr.heap[w.heap.size + 1]? = some (.cells (hd9 (hp (w.heap.size + 2) k) w.heap.size) 120 (0, 0))
  ce : ∀ j, j < k → wr.heap[w.heap.size + 2 + j]? = some (.cells #[.int .u64 0, .slice none 0 0, .bool false] 134 (0, 0))
  ky : KY (fun x => x < w.heap.size + 1) W wr
theorem NI.step {w W wr : World} {k : Nat} (h : NI w W wr k) (hk : k < 8) : NI w W (((wr.drew).alloc (.cells #[.int .u64 0, .slice none 0 0, .bool false] 134)).setCell ⟨w.heap.size + 1, k, none⟩ (pt (w.heap.size + 2 + k))) (k + 1) := by
  have b1 : Below wr.heap.size wr (wr.drew.alloc (.cells #[.int .u64 0, .slice none 0 0, .bool false] 134)) := btr (Ba.bdrew1 wr) (Ba.below_alloc wr.drew _)
  have hs : wr.drew.heap.size = wr.heap.size := rfl
  have hz : (((wr.drew).alloc (.cells #[.int .u64 0, .slice none 0 0, .bool false] 134)).setCell ⟨w.heap.size + 1, k, none⟩ (pt (w.heap.size + 2 + k))).heap.size = wr.heap.size + 1 := by
    simp [World.setCell, World.size_alloc]
  have e1 := (b1.block (w.heap.size + 1) (by rw [h.sz]; omega)).trans h.hd
  refine ⟨by rw [hz, h.sz]; omega, ?_, fun j hj => ?_, ?_⟩
  · rw [Ba.heap_setCell_same e1, hd9_set _ _ _ hk, hp_succ]
  · rw [Below.heap_setCell _ _ _ _ (by show w.heap.size + 2 + j ≠ w.heap.size + 1; omega)]
    by_cases e : j = k
    · subst e
      have := heap_new wr.drew (.cells #[.int .u64 0, .slice none 0 0, .bool false] 134)
      rw [hs, h.sz] at this
      exact this
    · rw [b1.block _ (by rw [h.sz]; omega)]
      exact h.ce j (by omega)
  · exact h.ky.trans ((KY.of b1 (fun x (q : x < w.heap.size + 1) => by rw [h.sz]; omega)).trans (KY.set _ (by omega) _ _))
theorem NI.fin {w wr : World} (h : NI w ((w.alloc (.map #[] 0)).alloc (.cells (hd9 (hp (w.heap.size + 2) 0) w.heap.size) 120)) wr 8) : RX (Lw w) (w.heap.size + 1) wr S00 w.heap.size (.map []) (fun j => w.heap.size + 2 + j) (fun _ => .slice none 0 0) ∧ KY (Lw w) w wr := by
  have b1 := btr (Ba.below_alloc w (.map #[] 0)) (Ba.below_alloc _ (.cells (hd9 (hp (w.heap.size + 2) 0) w.heap.size) 120))
  have hsz := h.sz
  refine ⟨⟨?_, ?_, ⟨Maps.tidy_empty, fun g => rfl, fun g r z e => (by cases e)⟩, by omega, fun q => ?_, fun q => ?_, by omega, fun i hi => ?_, fun g e => by cases e⟩, ?_⟩
  · rw [h.hd]
    rfl
  · have o := (World.ownsMap_made (H := Unit) w Try.prog 3 mE).alloc (.cells (hd9 (hp (w.heap.size + 2) 0) w.heap.size) 120)
    exact map_same o (h.ky.block w.heap.size (by omega))
  · unfold Lw at q; omega
  · unfold Lw at q; omega
  · refine ⟨h.ce i hi, World.ownsRow_nil _ _ _ _, by simp [Value.ownBlock], ?_, by simp [Value.ownBlock], ?_, ⟨.inl rfl, by simp [S00, c00], srt_nil⟩⟩
    · rintro (q | q | q | ⟨j, hj, hne, q | q⟩)
      · unfold Lw at q; omega
      · omega
      · omega
      · simp only at q; omega
      · simp [Value.ownBlock] at q
    · rintro k (q | q | q | ⟨j, hj, hne, q | q⟩)
      · unfold Lw at q; omega
      · omega
      · omega
      · simp only at q; omega
      · simp [Value.ownBlock] at q
  · exact (KY.of b1 fun _ q => q).trans (h.ky.mono fun k q => Nat.lt_succ_of_lt q)
set_option maxRecDepth 100000 in
set_option maxHeartbeats 1600000 in
theorem new_any' (w : World) : Calls Try.prog 20 #[] w fun r w' => r = .returned (pt (w.heap.size + 1)) ∧ RX (Lw w) (w.heap.size + 1) w' S00 w.heap.size (.map []) (fun j => w.heap.size + 2 + j) (fun _ => .slice none 0 0) ∧ KY (Lw w) w w' := by
  have hmm := @run_makeMap Try.prog
  go_enter Try.func20, Try.ntmps20
  go_wp2_with fail
  clear hmm
  have N0 : Hid (NI w ((w.alloc (.map #[] 0)).alloc (.cells (hd9 (hp (w.heap.size + 2) 0) w.heap.size) 120)) ((w.alloc (.map #[] 0)).alloc (.cells (hd9 (hp (w.heap.size + 2) 0) w.heap.size) 120)) 0) := by
    refine ⟨by rw [World.size_alloc, World.size_alloc], ?_, fun j hj => absurd hj (Nat.not_lt_zero _), KY.refl _ _⟩
    have := heap_new (w.alloc (.map #[] 0)) (.cells (hd9 (hp (w.heap.size + 2) 0) w.heap.size) 120)
    rwa [World.size_alloc] at this
  have F8 := hide (fun wr h => @NI.fin w wr h)
  have e0 : Obj.cells (hd9 (hp (w.heap.size + 2) 0) w.heap.size) 120 = .cells #[.pointer none, .pointer none, .pointer none, .pointer none, .pointer none, .pointer none, .pointer none, .pointer none, .map (some w.heap.size)] 120 := rfl
  rw [e0] at N0 F8
  clear e0
  generalize (w.alloc (.map #[] 0)).alloc (.cells #[.pointer none, .pointer none, .pointer none, .pointer none, .pointer none, .pointer none, .pointer none, .pointer none, .map (some w.heap.size)] 120) = W at *
  go_loopw [6] (fun i wr => ∃ k : Nat, k ≤ 8 ∧ i = .int .i64 (k : Int) ∧ NI w W wr k) (fun i _ => 8 - (intOf i).toNat)
  case atStart => exact ⟨0, by decide, rfl, N0.out⟩
  case round =>
    clear N0
    obtain ⟨k, hk, rfl, n⟩ := hrel
    have NH := hide n
    by_cases hlt : k < 8
    · have hlt' : (k : Int) < 8 := by omega
      have N2 := hide (n.step hlt)
      have hx : (wr.drew.alloc (.cells #[.int .u64 0, .slice none 0 0, .bool false] 134)).heap[w.heap.size + 1]? = some (.cells (hd9 (hp (w.heap.size + 2) k) w.heap.size) 120 (0, 0)) := ((Ba.below_alloc wr.drew _).block _ (by show _ < wr.heap.size; rw [n.sz]; omega)).trans n.hd
      have y1 : (wr.drew.alloc (.cells #[.int .u64 0, .slice none 0 0, .bool false] 134)).cell? ⟨w.heap.size + 1, k, none⟩ = some (.pointer none) := by
        rw [cell_of hx, hd9_at _ _ _ hlt]
        unfold hp; rw [if_neg (by omega)]
      have y2 : (wr.drew.alloc (.cells #[.int .u64 0, .slice none 0 0, .bool false] 134)).frozen? ⟨w.heap.size + 1, k, none⟩ = false := Ba.frozen_of hx k
      have CN := hide (cnew_is wr.drew)
      have hs : wr.drew.heap.size = w.heap.size + 2 + k := n.sz
      rw [hs] at CN
      unfold pt at CN N2
      clear n hx hs
      generalize hWA : wr.drew.alloc (.cells #[.int .u64 0, .slice none 0 0, .bool false] 134) = WA at *
      clear hWA
      go_wp2_with fail
      go_region_with (go_at_call 49; refine CN.out.mono ?_; rintro r w1 ⟨rfl, rfl⟩)
      all_goals
        go_wp2_with fail
        go_roundw
        case rel => exact ⟨k + 1, by omega, by go_num, N2.out⟩
        case measure => simp [intOf]; omega
    · obtain rfl : k = 8 := by omega
      clear n
      go_wp2_with fail
      go_ret
      exact ⟨rfl, F8.out _ NH.out⟩
/-- the first races of the cells below k -/
def rl (f : Int → Option Rc) : Nat → List Rc
  | 0 => []
  | k + 1 => rl f k ++ (f (k : Int)).toList
def rcC (l : List Rc) : List Value := l.flatMap fun r => (ra5 r).toList
theorem rcC_app (l : List Rc) (r : Rc) : rcC (l ++ [r]) = rcC l ++ (ra5 r).toList := by simp [rcC]
theorem rl_len (f : Int → Option Rc) : ∀ k, (rl f k).length ≤ k
  | 0 => Nat.le_refl _
  | k + 1 => by
    have := rl_len f k
    unfold rl
    rw [List.length_append]
    cases f (k : Int) <;> simp <;> omega
theorem info_rc3 : (Try.prog.info? 73).map (fun i => (i.zero, i.size, i.bytes)) = some (some (rv r0), 5, 40) := by kernel_rfl
theorem cell_five (w : World) (a b c d e : Value) (t : TypeId) : ∀ j u, [a, b, c, d, e][j]? = some u → (w.alloc (.cells #[a, b, c, d, e] t)).cell? ((⟨w.heap.size, 0, none⟩ : Addr).add j) = some u := by
  intro j u hj
  match j, hj with
  | 0, hj | 1, hj | 2, hj | 3, hj | 4, hj =>
    simp at hj
    subst hj
    simp [Addr.add]
theorem one_five (r : Rc) : ∀ u ∈ (ra5 r).toList, u.oneCell' = true := by
  intro u hu
  simp [ra5] at hu
  rcases hu with rfl | rfl | rfl | rfl | rfl <;> rfl
theorem wf_small {g : Int} (h0 : 0 ≤ g) (h1 : g < 1000) : wfk g := by unfold wfk; simp [Lit.wf, IntKind.min, IntKind.max, IntKind.bits, IntKind.signed]; omega
/-- what Races gives -/
def RcR (w : World) (l : List Rc) (r : Ending) (w' : World) : Prop := ∃ v, r = .returned v ∧ w'.ownsRow w.heap.size 73 5 v l.length (rcC l) ∧ Below w.heap.size w w'
theorem races_nil (w : World) : Calls Try.prog 24 #[.pointer none] w (RcR w []) := by
  unfold RcR
  have FN := hide (fun g u => first_nil g u)
  unfold rv ra5 at FN
  go_enter Try.func24, Try.ntmps24
  go_wp2_with fail
  go_loopw [3, 7] (fun v i wr => ∃ k : Nat, k ≤ 8 ∧ v = .slice none 0 0 ∧ i = .int .i64 (k : Int) ∧ Below w.heap.size w wr) (fun _ i _ => 8 - (intOf i).toNat)
  case atStart => exact ⟨0, by decide, rfl, rfl, Below.refl _ _⟩
  case round =>
    obtain ⟨k, hk, rfl, rfl, b⟩ := hrel
    have BH := hide b
    clear b
    by_cases hlt : k < 8
    · have hlt' : (k : Int) < 8 := by omega
      go_wp2_with fail
      refine (FN.out _ _).mono ?_
      rintro r w1 ⟨rfl, b1⟩
      have B1 := hide (btr BH.out b1)
      clear b1
      go_wp2_with fail
      go_roundw
      case rel => exact ⟨k + 1, by omega, rfl, by go_num, btr B1.out (Ba.below_alloc _ _)⟩
      case measure => simp [intOf]; omega
    · obtain rfl : k = 8 := by omega
      go_wp2_with fail
      go_ret
      exact ⟨_, rfl, World.ownsRow_nil _ _ _ _, BH.out⟩
section
variable {Y : Nat → Prop} {X : Nat} {w : World} {S : Rst} {mb : Nat} {D : DataW Unit} {xs : Nat → Nat} {vs : Nat → Value}
set_option maxRecDepth 100000 in
set_option maxHeartbeats 1600000 in
theorem races_any' (s : RX Y X w S mb D xs vs) : Calls Try.prog 24 #[.pointer (some ⟨X, 0, none⟩)] w (RcR w (rl S.f 8)) := by
  unfold RcR
  have FI := hide (fun u (b : Below w.heap.size w u) g (hg : wfk g) => first_any (s.below b) g hg)
  unfold fV at FI
  obtain ⟨i1, hi1, hy1, hy2, hy3⟩ := info_parts info_rc3
  have INA := hide (And.intro hi1 (And.intro hy1 (And.intro hy2 hy3)))
  clear hi1 hy1 hy2 hy3 s
  go_enter Try.func24, Try.ntmps24
  go_wp2_with fail
  go_loopw [3, 7] (fun v i wr => ∃ k : Nat, k ≤ 8 ∧ i = .int .i64 (k : Int) ∧ wr.ownsRow w.heap.size 73 5 v (rl S.f k).length (rcC (rl S.f k)) ∧ Below w.heap.size w wr) (fun _ i _ => 8 - (intOf i).toNat)
  case atStart => exact ⟨0, by decide, rfl, World.ownsRow_nil _ _ _ _, Below.refl _ _⟩
  case round =>
    rename_i v
    obtain ⟨k, hk, rfl, o, b⟩ := hrel
    have OH := hide o
    have BH := hide b
    by_cases hlt : k < 8
    · have hlt' : (k : Int) < 8 := by omega
      have FK := hide (FI.out wr b (k : Int) (wf_small (by omega) (by omega)))
      have hE : rl S.f (k + 1) = rl S.f k ++ (S.f (k : Int)).toList := rfl
      have HE := hide hE
      have HL := hide (rl_len S.f k)
      clear o b hE
      generalize S.f (k : Int) = o at *
      cases o with
      | none =>
        simp only [Option.getD_none, Option.isSome_none] at FK
        unfold rv ra5 at FK
        go_wp2_with fail
        refine FK.out.mono ?_
        rintro r w1 ⟨rfl, b1⟩
        have O1 := hide (own_sm OH.out (fun g e => b1.block g (OH.out.lt g e).2))
        have B1 := hide (btr BH.out b1)
        clear b1 FK
        go_wp2_with fail
        go_roundw
        case rel => exact ⟨k + 1, by omega, by go_num, by rw [HE.out]; simp only [Option.toList_none, List.append_nil]; exact own_sm O1.out (fun g e => (Ba.below_alloc w1 _).block g (O1.out.lt g e).2), btr B1.out (Ba.below_alloc _ _)⟩
        case measure => simp [intOf]; omega
      | some rc =>
        simp only [Option.getD_some, Option.isSome_some] at FK
        unfold rv ra5 at FK
        go_wp2_with fail
        refine FK.out.mono ?_
        rintro r w1 ⟨rfl, b1⟩
        have b2 := btr (btr b1 (Ba.below_alloc w1 (.cells #[.int .i64 rc.c, .int .i64 rc.p, .int .i64 rc.g, .int .i64 rc.wi, .bool rc.wr] 73))) (Ba.below_alloc _ (.cells #[.int .i64 rc.c, .int .i64 rc.p, .int .i64 rc.g, .int .i64 rc.wi, .bool rc.wr] 73))
        have O2 := hide (own_sm OH.out (fun g e => b2.block g (OH.out.lt g e).2))
        have B2 := hide (btr BH.out b2)
        have CF := hide (cell_five (w1.alloc (.cells #[.int .i64 rc.c, .int .i64 rc.p, .int .i64 rc.g, .int .i64 rc.wi, .bool rc.wr] 73)) (.int .i64 rc.c) (.int .i64 rc.p) (.int .i64 rc.g) (.int .i64 rc.wi) (.bool rc.wr) 73)
        rw [World.size_alloc] at CF
        have ON := hide (one_five rc)
        have L2 := hide B2.out.size
        have hn1 : (rl S.f k).length + 1 ≤ maxLen := by have := HL.out; simp only [maxLen]; omega
        have hn2 : ((rl S.f k).length + 1) * 40 ≤ 140737488355328 := by have := HL.out; omega
        clear b1 b2 FK OH
        go_wp2_with (at_builtin; refine wpList_append_own_at _ rfl _ _ 65 rfl w.heap.size 73 i1 _ 5 40 Try.underlying65 INA.out.1 INA.out.2.1 INA.out.2.2.1 INA.out.2.2.2 rfl (by decide) _ _ _ rfl O2.out ⟨w1.heap.size + 1, 0, none⟩ 1 1 ((ra5 rc).toList) rfl rfl CF.out ON.out hn1 hn2 L2.out ?_)
        intro v' w' o' g' x' e'
        have O3 := hide o'
        have B3 : Hid (Below w.heap.size w w') := by
          refine ⟨g'.os.trans B2.out.os, g'.tape.trans B2.out.tape, g'.output.trans B2.out.output, Nat.le_trans B2.out.size g'.size, fun x hx => (g'.block x (Nat.lt_of_lt_of_le hx B2.out.size) (fun q => ?_)).trans (B2.out.block x hx)⟩
          have := (O2.out.lt x q.symm).1
          omega
        clear o' g' x' e' O2 B2 CF ON L2 hn1 hn2
        go_wp2_with fail
        go_roundw
        case rel => exact ⟨k + 1, by omega, by go_num, by rw [HE.out, Option.toList_some, rcC_app, List.length_append]; exact O3.out, B3.out⟩
        case measure => simp [intOf]; omega
    · obtain rfl : k = 8 := by omega
      clear o b
      go_wp2_with fail
      go_ret
      exact ⟨_, rfl, OH.out, BH.out⟩
end
end Rep
end Go.Proofs.Ytekdcfdjohlfcaa
