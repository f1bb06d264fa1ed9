/- Package cell, over this seat's program: Reads, Retire. -/
import Derived.Test.YtekdcfdjohlfcaaAh
namespace Go.Proofs.Ytekdcfdjohlfcaa
open Go.ChangeShapes Go.WideShapes Go.ChangeAt Go.RowKit
namespace Ce
open Ck
open Ba (KF Bd Nw hide)
open Ep (tidOf clkOf ownB)

theorem run_mkE (w : World) (n : Nat) (hn : n ≤ 256) : (Instr.makeSlice 86 (.int .i64 (n : Int)) (.int .i64 (n : Int))).run Try.prog w = .ok (.slice (some ⟨w.heap.size, 0, none⟩) n n) (w.alloc (.cells (madeCells #[.int .u64 0] n) 61)) := by
  obtain ⟨i0, hi, hz0, hz1, hz2⟩ := info_parts info_e
  have := run_make (P := Try.prog) w 86 61 i0 (.int .u64 0) Try.underlying86 hi hz0 .i64 .i64 n n (by omega) (Int.le_refl _) (by rw [hz2]; omega) (by omega)
  rw [hz1] at this
  simpa [Value.cells] using this
theorem mkE0 : madeCells #[Value.int .u64 0] 0 = #[] := Array.eq_empty_of_size_eq_zero (size_madeCells _ _)
theorem run_cpE (w : World) (oa : Option Addr) (l : List Int) (c : Nat) (ty : TypeId) (ho : w.ownsRow 0 61 1 (.slice oa l.length c) l.length (us l)) :
    (Builtin.copy_ #[86, 86] ty #[.slice (some ⟨w.heap.size, 0, none⟩) l.length l.length, .slice oa l.length c]).run Try.prog (w.alloc (.cells (madeCells #[.int .u64 0] l.length) 61)) = .ok (goInt l.length) (w.alloc (.cells (us l).toArray 61)) := by
  obtain ⟨i0, hi, hz0, hz1, hz2⟩ := info_parts info_e
  have hsz : (Try.prog.info? 61).map (·.size) = some 1 := info_e1
  by_cases h0 : l.length = 0
  · have e : l = [] := List.eq_nil_of_length_eq_zero h0
    subst e
    have := run_copy_none (P := Try.prog) (w.alloc (.cells (madeCells #[.int .u64 0] 0) 61)) 86 86 ty 61 (some ⟨w.heap.size, 0, none⟩) oa 0 0 0 c Try.underlying86 hsz rfl
    rw [mkE0] at this
    rw [List.length_nil, mkE0]
    exact this
  · obtain ⟨g, rfl, -⟩ := own_cell ho (k := 0) (by omega)
    obtain ⟨cur, hg, hs, hlc, hcm, hcell⟩ := own_cur ho
    have hg' : (w.alloc (.cells (madeCells #[.int .u64 0] l.length) 61)).heap[g]? = some (.cells cur 61 (0, 0)) := (Below.heap_alloc w _ g (Array.getElem?_eq_some_iff.1 hg).1).trans hg
    have := run_copy_row (P := Try.prog) (w.alloc (.cells (madeCells #[.int .u64 0] l.length) 61)) 86 86 ty 61 w.heap.size 0 l.length l.length ⟨g, 0, none⟩ l.length c (madeCells #[.int .u64 0] l.length) 61 (us l)
      Try.underlying86 hsz (heap_new _ _) (by simp [us]) (by
        intro j v hj
        have hjl : j < l.length := by
          have := (List.getElem?_eq_some_iff.1 hj).1
          simpa [us] using this
        rw [Addr.add_lit, Nat.zero_add, cell_of hg', hcell j hjl, ← us_at l j hjl, hj]) (by simp [size_madeCells, us]) (us_one l)
    rw [this, setRow_new]
    have hd : (madeCells #[Value.int .u64 0] l.length).toList.drop l.length = [] := by
      apply List.drop_eq_nil_of_le
      simp [size_madeCells]
    simp [us, hd]

theorem reads_any {Y : Nat → Prop} {X : Nat} {w : World} {st : Cst} (h : CW Y X w st) : Calls Try.prog 29 #[.pointer (some ⟨X, 0, none⟩)] w fun r w' => r = .returned (.slice (some ⟨w.heap.size, 0, none⟩) st.rd.length st.rd.length) ∧ w' = w.alloc (.cells (us st.rd).toArray 61) := by
  obtain ⟨v, h⟩ := h
  have hl := srt_len h.gd.so h.gd.ro
  have hm := run_mkE w st.rd.length hl
  obtain ⟨oa, c, rfl⟩ := own_sl h.own
  have hcp := run_cpE w oa st.rd c 3 h.own
  have x0 := cell_of h.head 1
  simp at x0
  have hd1 := (h.kept (Ba.below_alloc w (.cells (madeCells #[.int .u64 0] st.rd.length) 61))).head
  have x1 := cell_of hd1 1
  simp at x1
  clear h hd1
  generalize hN : st.rd.length = N at *
  go_enter Try.func29, Try.ntmps29
  go_wp2_with fail
  go_ret
  exact ⟨rfl, rfl⟩

theorem retire_arg (p : Option Addr) (tid cut : Int) (h : tid < 0 ∨ 256 ≤ tid ∨ cut < 0 ∨ 1048576 < cut) (w : World) : Calls Try.prog 67 #[.pointer p, .int .i64 tid, .int .i64 cut] w fun r w' => r = .returned (.int .i64 1) ∧ w' = w := by
  by_cases h1 : tid < 0
  · clear h
    go_enter Try.func67, Try.ntmps67
    go_wp2_with fail
    go_ret
    exact ⟨rfl, rfl⟩
  by_cases h2 : 256 ≤ tid
  · clear h
    go_enter Try.func67, Try.ntmps67
    go_wp2_with fail
    go_ret
    exact ⟨rfl, rfl⟩
  by_cases h3 : cut < 0
  · clear h
    go_enter Try.func67, Try.ntmps67
    go_wp2_with fail
    go_ret
    exact ⟨rfl, rfl⟩
  have h4 : 1048576 < cut := by omega
  clear h
  go_enter Try.func67, Try.ntmps67
  go_wp2_with fail
  go_ret
  exact ⟨rfl, rfl⟩
theorem retire_nil (tid cut : Int) (h0 : 0 ≤ tid) (h1 : tid < 256) (h2 : 0 ≤ cut) (h3 : cut ≤ 1048576) (w : World) : Calls Try.prog 67 #[.pointer none, .int .i64 tid, .int .i64 cut] w fun r w' => r = .returned (.int .i64 7) ∧ w' = w := by
  go_enter Try.func67, Try.ntmps67
  go_wp2_with fail
  go_ret
  exact ⟨rfl, rfl⟩

/-- a tid is retired -/
def retL (st : Cst) (tid cut : Int) : Int := if (tidOf st.last == tid) = true then remE st.last cut else st.last
def retT (st : Cst) (tid cut : Int) : Bool := st.tl || (has st.rd tid && (remE (nth st.rd (pos st.rd tid)) cut == 18446744073709551615))
def retD (st : Cst) (tid : Int) : List Int := if has st.rd tid = true then outL st.rd (pos st.rd tid) else st.rd
def retS (st : Cst) (tid cut : Int) : Cst := ⟨retL st tid cut, retD st tid, retT st tid cut⟩
theorem has_pos {l : List Int} (hs : Srt l) {t : Int} (h : has l t = true) : pos l t < l.length ∧ tidOf (nth l (pos l t)) = t := by
  unfold has at h
  obtain ⟨x, hx, he⟩ := List.any_eq_true.1 h
  obtain ⟨k, hk, rfl⟩ := mem_nth hx
  have he' : tidOf (nth l k) = t := by simpa using he
  have hpk : pos l t = k := pos_is (by omega) (fun j hj => by have := hs j k hj hk; omega) (fun j hj hl => by
    by_cases e : j = k
    · rw [e]; omega
    · have := hs k j (by omega) hl; omega)
  rw [hpk]
  exact ⟨hk, he'⟩
theorem srt_out {l : List Int} (hs : Srt l) {i : Nat} (hi : i < l.length) : Srt (outL l i) := by
  intro a b hab hb
  rw [out_len l i hi] at hb
  by_cases h1 : b < i
  · rw [nth_out_lt l i a hi (by omega), nth_out_lt l i b hi h1]; exact hs a b hab (by omega)
  · rw [nth_out_ge l i b hi (by omega)]
    by_cases h2 : a < i
    · rw [nth_out_lt l i a hi h2]; exact hs a (b + 1) (by omega) (by omega)
    · rw [nth_out_ge l i a hi (by omega)]; exact hs _ _ (by omega) (by omega)
theorem mem_outL {l : List Int} {i : Nat} {x : Int} (h : x ∈ outL l i) : x ∈ l := by
  rcases List.mem_append.1 h with q | q
  · exact List.mem_of_mem_take q
  · exact List.mem_of_mem_drop q
theorem Gd.retire {st : Cst} (h : Gd st) (tid cut : Int) : Gd (retS st tid cut) := by
  refine ⟨?_, ?_, ?_⟩
  · show retL st tid cut = 0 ∨ retL st tid cut = _ ∨ ownB (retL st tid cut) = true
    unfold retL
    split
    · unfold remE; split
      · exact .inl rfl
      · exact .inr (.inl rfl)
    · exact h.la
  · show ∀ x ∈ retD st tid, ownB x = true
    unfold retD
    split
    · exact fun x hx => h.ro x (mem_outL hx)
    · exact h.ro
  · show Srt (retD st tid)
    unfold retD
    split
    · rename_i hh; exact srt_out h.so (has_pos h.so hh).1
    · exact h.so
theorem CX.setLast {Y : Nat → Prop} {X : Nat} {w : World} {st : Cst} {v : Value} (h : CX Y X w st v) (x : Int) (hx : x = 0 ∨ x = 18446744073709551615 ∨ ownB x = true) : CX Y X (w.setCell ⟨X, 0, none⟩ (.int .u64 x)) ⟨x, st.rd, st.tl⟩ v := by
  refine ⟨?_, own_set1 h.own h.ne, h.ne, h.yx, h.yg, fun k hk => ?_, ⟨hx, h.gd.ro, h.gd.so⟩⟩
  · have := Ba.heap_setCell_same (i := 0) h.head (.int .u64 x)
    simpa using this
  · have := h.yl k hk
    simpa [World.setCell] using this
theorem CX.setTl {Y : Nat → Prop} {X : Nat} {w : World} {st : Cst} {v : Value} (h : CX Y X w st v) (x : Bool) : CX Y X (w.setCell ⟨X, 2, none⟩ (.bool x)) ⟨st.last, st.rd, x⟩ v := by
  refine ⟨?_, own_set1 h.own h.ne, h.ne, h.yx, h.yg, fun k hk => ?_, ⟨h.gd.la, h.gd.ro, h.gd.so⟩⟩
  · have := Ba.heap_setCell_same (i := 2) h.head (.bool x)
    simpa using this
  · have := h.yl k hk
    simpa [World.setCell] using this

end Ce
end Go.Proofs.Ytekdcfdjohlfcaa
