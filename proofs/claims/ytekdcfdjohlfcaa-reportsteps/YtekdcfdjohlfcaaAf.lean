/- Package cell, over this seat's program: what an access knows, and a cell in memory. -/
import Derived.Test.YtekdcfdjohlfcaaAc
import Derived.Test.YtekdcfdjohlfcaaAe
namespace Go.Proofs.Ytekdcfdjohlfcaa
open Go.ChangeShapes Go.WideShapes Go.ChangeAt Go.RowKit
namespace Ce
open Ck
open Ba (KF Bd Nw hide)
open Ep (tidOf clkOf ownB)

/-- whether an epoch is seen by one that knows its tid up to c -/
def seenB (e c : Int) : Bool := (e == 0) || (decide (1 ≤ clkOf e) && decide (clkOf e ≤ c))
theorem seen_is (e c : Int) (a0 : 0 ≤ e) (a1 : e ≤ 18446744073709551615) (w : World) : Calls Try.prog 84 #[.int .u64 e, .int .i64 c] w fun r w' => r = .returned (.bool (seenB e c)) ∧ w' = w := by
  by_cases h : e = 0
  · subst h
    exact Ep.seen_none c w
  · have e1 : seenB e c = (decide (1 ≤ clkOf e) && decide (clkOf e ≤ c)) := by simp [seenB, h]
    rw [e1]
    exact Ep.seen_any e c a0 a1 h w
/-- whether an epoch is known to an access of a tid, by its clock -/
def kn (own : Int) (l : List Int) (o : Int) : Bool := (tidOf o == own) || seenB o (gt l (tidOf o))

theorem kn_any (own : Int) (A B b : Nat) (l : List Int) (o : Int) (a0 : 0 ≤ o) (a1 : o ≤ 18446744073709551615) (w : World) (hB : w.cell? ⟨B, 0, none⟩ = some (.int .i64 own)) (hA : w.cell? ⟨A, 0, none⟩ = some (.pointer (some ⟨b, 0, none⟩))) (hc : CK w b l) :
    Calls Try.prog 83 #[.int .u64 o, .pointer (some ⟨B, 0, none⟩), .pointer (some ⟨A, 0, none⟩)] w fun r w' => r = .returned (.bool (kn own l o)) ∧ w' = w := by
  have T := hide (Ep.tid_any o a0 a1 w)
  have G := hide (get_any b l (tidOf o) w hc)
  have SE := hide (seen_is o (gt l (tidOf o)) a0 a1 w)
  clear hc
  cases hq : (tidOf o == own)
  · have K : Hid (kn own l o = seenB o (gt l (tidOf o))) := by show kn own l o = _; simp [kn, hq]
    rw [K.out]
    generalize gt l (tidOf o) = y at *
    generalize seenB o y = z at *
    go_enter Try.func83, Try.ntmps83
    go_wp2_with fail
    refine T.out.mono ?_
    rintro r w1 ⟨rfl, e1⟩
    obtain rfl := e1.symm
    go_wp2_with fail
    refine G.out.mono ?_
    rintro r w1 ⟨rfl, e1⟩
    obtain rfl := e1.symm
    go_wp2_with fail
    refine SE.out.mono ?_
    rintro r w1 ⟨rfl, e1⟩
    obtain rfl := e1.symm
    go_wp2_with fail
    go_ret
    exact ⟨rfl, rfl⟩
  · have K : Hid (kn own l o = true) := by show kn own l o = _; simp [kn, hq]
    rw [K.out]
    clear G SE
    go_enter Try.func83, Try.ntmps83
    go_wp2_with fail
    refine T.out.mono ?_
    rintro r w1 ⟨rfl, e1⟩
    obtain rfl := e1.symm
    go_wp2_with fail
    go_ret
    exact ⟨rfl, rfl⟩

/-- the closure of an access -/
def knF (A B : Nat) : Value := .func (.func 83) #[] #[.pointer (some ⟨B, 0, none⟩), .pointer (some ⟨A, 0, none⟩)]
theorem know_any (e : Int) (a0 : 0 ≤ e) (a1 : e ≤ 18446744073709551615) (b : Nat) (w : World) :
    Calls Try.prog 74 #[.int .u64 e, .pointer (some ⟨b, 0, none⟩)] w fun r w' => r = .returned (knF w.heap.size (w.heap.size + 1)) ∧ w' = (w.alloc (.cells #[.pointer (some ⟨b, 0, none⟩)] 34)).alloc (.cells #[.int .i64 (tidOf e)] 3) := by
  have T := hide (Ep.tid_any e a0 a1 (w.alloc (.cells #[.pointer (some ⟨b, 0, none⟩)] 34)))
  unfold knF
  go_enter Try.func74, Try.ntmps74
  go_wp2_with fail
  refine T.out.mono ?_
  rintro r w1 ⟨rfl, e1⟩
  obtain rfl := e1.symm
  go_wp2_with fail
  go_ret
  exact ⟨rfl, rfl⟩

theorem takes_any (e : Int) (a0 : 0 ≤ e) (a1 : e ≤ 18446744073709551615) (p : Option Addr) (w : World) :
    Calls Try.prog 73 #[.pointer p, .int .u64 e] w fun r w' => r = .returned (.int .i64 (if ownB e = false then 1 else if p = none then 7 else 0)) ∧ w' = w := by
  have T := hide (Ep.tid_any e a0 a1 w)
  cases ho : ownB e
  · have ht := Ep.tid_not e ho
    rw [ht] at T
    clear ho ht
    go_enter Try.func73, Try.ntmps73
    go_wp2_with fail
    refine T.out.mono ?_
    rintro r w1 ⟨rfl, e1⟩
    obtain rfl := e1.symm
    go_wp2_with fail
    go_ret
    exact ⟨rfl, rfl⟩
  · have h0 : ¬ (tidOf e < 0) := by
      rw [Ep.tid_own e ho]
      have := Ep.own_bd e ho
      omega
    clear ho
    generalize tidOf e = t at *
    cases p with
    | none =>
      go_enter Try.func73, Try.ntmps73
      go_wp2_with fail
      refine T.out.mono ?_
      rintro r w1 ⟨rfl, e1⟩
      obtain rfl := e1.symm
      go_wp2_with fail
      go_ret
      exact ⟨rfl, rfl⟩
    | some a =>
      go_enter Try.func73, Try.ntmps73
      go_wp2_with fail
      refine T.out.mono ?_
      rintro r w1 ⟨rfl, e1⟩
      obtain rfl := e1.symm
      go_wp2_with fail
      go_ret
      exact ⟨by simp, rfl⟩
/-- what is left of an epoch -/
def remE (e cut : Int) : Int := if seenB e cut = true then 0 else 18446744073709551615
theorem rem_any (e cut : Int) (a0 : 0 ≤ e) (a1 : e ≤ 18446744073709551615) (w : World) :
    Calls Try.prog 80 #[.int .u64 e, .int .i64 cut] w fun r w' => r = .returned (.int .u64 (remE e cut)) ∧ w' = w := by
  have SE := hide (seen_is e cut a0 a1 w)
  unfold remE
  cases hs : seenB e cut
  all_goals
    rw [hs] at SE
    clear hs
    go_enter Try.func80, Try.ntmps80
    go_wp2_with fail
    refine SE.out.mono ?_
    rintro r w1 ⟨rfl, e1⟩
    obtain rfl := e1.symm
    go_wp2_with fail
    go_ret
    exact ⟨rfl, rfl⟩

/-- a cell -/
structure Cst where
  last : Int
  rd : List Int
  tl : Bool
structure Gd (st : Cst) : Prop where
  la : st.last = 0 ∨ st.last = 18446744073709551615 ∨ ownB st.last = true
  ro : ∀ x ∈ st.rd, ownB x = true
  so : Srt st.rd
theorem own_u {e : Int} (h : ownB e = true) : 0 ≤ e ∧ e ≤ 18446744073709551615 := by
  have := Ep.own_bd e h
  omega
theorem Gd.last {st : Cst} (h : Gd st) : 0 ≤ st.last ∧ st.last ≤ 18446744073709551615 := by
  rcases h.la with q | q | q
  · omega
  · omega
  · exact own_u q
theorem Gd.u {st : Cst} (h : Gd st) : U64 st.rd := fun x hx => own_u (h.ro x hx)
theorem srt_ge {l : List Int} (h : Srt l) (ho : ∀ x ∈ l, ownB x = true) : ∀ i, i < l.length → (i : Int) ≤ tidOf (nth l i)
  | 0, hi => by
    have hx := ho _ (List.getElem_mem hi)
    rw [nth_lt l 0 hi, Ep.tid_own _ hx]
    have := Ep.own_bd _ hx
    omega
  | i + 1, hi => by
    have := srt_ge h ho i (by omega)
    have := h i (i + 1) (by omega) hi
    omega
theorem srt_len {l : List Int} (h : Srt l) (ho : ∀ x ∈ l, ownB x = true) : l.length ≤ 256 := by
  by_cases h0 : l.length = 0
  · omega
  · have h1 := srt_ge h ho (l.length - 1) (by omega)
    have h2 := Ep.tid_rng (nth l (l.length - 1))
    omega

/-- nothing of Y has changed -/
structure KY (Y : Nat → Prop) (w w' : World) : Prop where
  os : w'.os = w.os
  tape : w'.tape = w.tape
  output : w'.output = w.output
  size : w.heap.size ≤ w'.heap.size
  block : ∀ k, Y k → w'.heap[k]? = w.heap[k]?
theorem KY.refl (Y : Nat → Prop) (w : World) : KY Y w w := ⟨rfl, rfl, rfl, Nat.le_refl _, fun _ _ => rfl⟩
theorem KY.trans {Y : Nat → Prop} {a b c : World} (h : KY Y a b) (k : KY Y b c) : KY Y a c := ⟨k.os.trans h.os, k.tape.trans h.tape, k.output.trans h.output, Nat.le_trans h.size k.size, fun x hx => (k.block x hx).trans (h.block x hx)⟩
theorem KY.mono {Y Z : Nat → Prop} {a b : World} (h : KY Y a b) (i : ∀ k, Z k → Y k) : KY Z a b := ⟨h.os, h.tape, h.output, h.size, fun x hx => h.block x (i x hx)⟩
theorem KY.of {Y : Nat → Prop} {a b : World} (h : Below a.heap.size a b) (hy : ∀ k, Y k → k < a.heap.size) : KY Y a b := ⟨h.os, h.tape, h.output, h.size, fun x hx => h.block x (hy x hx)⟩
theorem KY.grown {Y : Nat → Prop} {a b : World} {o : Option Nat} (h : a.grownBy b o) (hy : ∀ k, Y k → k < a.heap.size) (ho : ∀ g, o = some g → ¬ Y g) : KY Y a b := ⟨h.os, h.tape, h.output, h.size, fun x hx => h.block x (hy x hx) (fun e => ho x e.symm hx)⟩
theorem KY.set {Y : Nat → Prop} (w : World) {X : Nat} (hX : ¬ Y X) (i : Nat) (v : Value) : KY Y w (w.setCell ⟨X, i, none⟩ v) :=
  ⟨rfl, rfl, rfl, by simp [World.setCell], fun k hk => by simp [World.setCell, Array.getElem?_modify, show X ≠ k from fun e => hX (e ▸ hk)]⟩
/-- the blocks that were there -/
def Lw (w : World) : Nat → Prop := fun k => k < w.heap.size
theorem KY.lw {w w' : World} (h : KY (Lw w) w w') : Below w.heap.size w w' := ⟨h.os, h.tape, h.output, h.size, fun k hk => h.block k hk⟩
/-- a clock that lies in Y -/
def CL (Y : Nat → Prop) (w : World) (b : Nat) (l : List Int) : Prop := ∀ W, KY Y w W → CK W b l
theorem CL.keep {Y : Nat → Prop} {w w' : World} {b : Nat} {l : List Int} (h : CL Y w b l) (k : KY Y w w') : CL Y w' b l := fun W hW => h W (k.trans hW)
theorem CL.ck {Y : Nat → Prop} {w : World} {b : Nat} {l : List Int} (h : CL Y w b l) : CK w b l := h w (KY.refl _ _)
theorem CL.mono {Y Z : Nat → Prop} {w : World} {b : Nat} {l : List Int} (h : CL Y w b l) (i : ∀ k, Y k → Z k) : CL Z w b l := fun W hW => h W (hW.mono i)

/-- a cell in memory, beside Y -/
structure CX (Y : Nat → Prop) (X : Nat) (w : World) (st : Cst) (v : Value) : Prop where
  head : w.heap[X]? = some (.cells #[.int .u64 st.last, v, .bool st.tl] 134 (0, 0))
  own : w.ownsRow 0 61 1 v st.rd.length (us st.rd)
  ne : v.ownBlock ≠ some X
  yx : ¬ Y X
  yg : ∀ g, v.ownBlock = some g → ¬ Y g
  yl : ∀ k, Y k → k < w.heap.size
  gd : Gd st
def CW (Y : Nat → Prop) (X : Nat) (w : World) (st : Cst) : Prop := ∃ v, CX Y X w st v
theorem CX.lt {Y : Nat → Prop} {X : Nat} {w : World} {st : Cst} {v : Value} (h : CX Y X w st v) : X < w.heap.size := (Array.getElem?_eq_some_iff.1 h.head).1
theorem CX.more {Y Z : Nat → Prop} {X : Nat} {w w' : World} {st : Cst} {v : Value} (h : CX Y X w st v) (hb : Below w.heap.size w w') (hz : ∀ k, Z k → Y k ∨ w.heap.size ≤ k) (hl : ∀ k, Z k → k < w'.heap.size) : CX Z X w' st v := by
  refine ⟨(hb.block X h.lt).trans h.head, ?_, h.ne, fun q => ?_, fun g hg q => ?_, hl, h.gd⟩
  · have hh : w.grownBy w' none := ⟨hb.os, hb.tape, hb.output, hb.size, fun k hk _ => hb.block k hk⟩
    exact h.own.kept hh (by cases v.ownBlock <;> simp)
  · rcases hz X q with q | q
    · exact h.yx q
    · have := h.lt; omega
  · rcases hz g q with q | q
    · exact h.yg g hg q
    · have := (h.own.lt g hg).2; omega
theorem CX.kept {Y : Nat → Prop} {X : Nat} {w w' : World} {st : Cst} {v : Value} (h : CX Y X w st v) (hb : Below w.heap.size w w') : CX Y X w' st v := h.more hb (fun _ q => .inl q) (fun k q => Nat.lt_of_lt_of_le (h.yl k q) hb.size)
theorem CW.kept {Y : Nat → Prop} {X : Nat} {w w' : World} {st : Cst} (h : CW Y X w st) (hb : Below w.heap.size w w') : CW Y X w' st := by
  obtain ⟨v, h⟩ := h; exact ⟨v, h.kept hb⟩
theorem CW.more {Y Z : Nat → Prop} {X : Nat} {w w' : World} {st : Cst} (h : CW Y X w st) (hb : Below w.heap.size w w') (hz : ∀ k, Z k → Y k ∨ w.heap.size ≤ k) (hl : ∀ k, Z k → k < w'.heap.size) : CW Z X w' st := by
  obtain ⟨v, h⟩ := h; exact ⟨v, h.more hb hz hl⟩
theorem CW.gd {Y : Nat → Prop} {X : Nat} {w : World} {st : Cst} (h : CW Y X w st) : Gd st := by obtain ⟨v, h⟩ := h; exact h.gd
theorem CW.yl {Y : Nat → Prop} {X : Nat} {w : World} {st : Cst} (h : CW Y X w st) : ∀ k, Y k → k < w.heap.size := by obtain ⟨v, h⟩ := h; exact h.yl

theorem find_any {Y : Nat → Prop} {X : Nat} {w : World} {st : Cst} (h : CW Y X w st) (t : Int) :
    Calls Try.prog 76 #[.pointer (some ⟨X, 0, none⟩), .int .i64 t] w fun r w' => r = .returned (.tuple #[.int .i64 (pos st.rd t : Nat), .bool (has st.rd t)]) ∧ w' = w := by
  obtain ⟨v, h⟩ := h
  have SR := hide (search_any v st.rd t w h.own h.gd.u h.gd.so (Nat.le_trans (srt_len h.gd.so h.gd.ro) (by decide)))
  obtain ⟨oa, c, rfl⟩ := own_sl h.own
  have c1 := cell_of h.head 1
  simp at c1
  clear h
  generalize pos st.rd t = P at *
  generalize has st.rd t = B at *
  go_enter Try.func76, Try.ntmps76
  go_wp2_with fail
  refine SR.out.mono ?_
  rintro r w1 ⟨rfl, e1⟩
  obtain rfl := e1.symm
  go_wp2_with fail
  go_ret2
  exact ⟨rfl, rfl⟩
end Ce
end Go.Proofs.Ytekdcfdjohlfcaa
