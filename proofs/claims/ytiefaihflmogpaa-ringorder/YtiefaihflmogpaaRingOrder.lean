/- For every size and every list of steps, the law RingOrder returns true, so what is popped was pushed, in that order: under no condition. -/
import Derived.Test.YtiefaihflmogpaaGd
import Derived.Test.YtiefaihflmogpaaGf
import Derived.Test.YtiefaihflmogpaaBc
import Derived.ShutString
import Derived.ChangeOld
import Derived.Below
import Derived.Maps.AppendAt
namespace Go.Proofs.Ytiefaihflmogpaa.ringOrder
open Go.ChangeShapes Go.WideShapes Go.ChangeAt Go.RowKit
open Go.ChangeMaps (open_string shut_string)
open Rn Ba

theorem own : ownKnob Try.prog.godebug = none := by kernel_rfl
theorem laidOut : laidOutB Try.prog = true := by kernel_rfl

theorem own_other {W w3 : World} {base size : Nat} {e : TypeId} {v o : Value} {n : Nat} {xs : List Value} (ho : W.ownsRow base e size o n xs) (hg : W.grownBy w3 v.ownBlock) (hne : ∀ k, o.ownBlock = some k → v.ownBlock ≠ some k) : w3.ownsRow base e size o n xs := by
  refine ⟨ho.1, ?_⟩
  rcases ho.2 with q | ⟨g, cap, cur, rfl, q2, q3, q4⟩
  · exact .inl q
  · exact .inr ⟨g, cap, cur, rfl, q2, (hg.block g (heap_lt q3) (fun e => hne g rfl e.symm)).trans q3, q4⟩
theorem ne_new {W : World} {base size : Nat} {e : TypeId} {v v' o : Value} {n : Nat} {xs : List Value} (ho : W.ownsRow base e size o n xs) (hne : ∀ k, o.ownBlock = some k → v.ownBlock ≠ some k) (hat : v'.ownBlock = v.ownBlock ∨ v'.ownBlock = some W.heap.size) : ∀ k, o.ownBlock = some k → v'.ownBlock ≠ some k := by
  intro k hk hv
  rcases hat with e | e
  · exact hne k hk (e ▸ hv)
  · have := (ho.lt k hk).2
    rw [e] at hv
    cases hv
    omega
theorem rg_grown {W w3 : World} {base R s n : Nat} {v : Value} {xs : List Value} {l : List Int} (h : Rg W R s l) (ho : W.ownsRow base 3 1 v n xs) (hg : W.grownBy w3 v.ownBlock) : Rg w3 R s l := by
  obtain ⟨f, g, h1, h2, h3, h4, h5⟩ := h
  exact ⟨f, g, h1, h2, h3, h4, (hg.block R (heap_lt h5) (own_ty ho h5 (by decide))).trans h5⟩
/-- where the law's walk is: the ring, and both rows -/
structure Ro (w wr : World) (s k : Nat) (cur pu al : List Int) (v7 v8 : Value) : Prop where
  g : Rg wr w.heap.size s cur
  p : wr.ownsRow (w.heap.size + 1) 3 1 v7 pu.length (pu.map (Value.int .i64))
  a : wr.ownsRow (w.heap.size + 1) 3 1 v8 al.length (al.map (Value.int .i64))
  ne : ∀ k, v7.ownBlock = some k → v8.ownBlock ≠ some k
  eq : pu = al ++ cur
  len : pu.length ≤ k
  b : Below w.heap.size w wr
theorem Ro.below {w a c : World} {s k : Nat} {cur pu al : List Int} {v7 v8 : Value} (h : Ro w a s k cur pu al v7 v8) (hb : Below a.heap.size a c) : Ro w c s k cur pu al v7 v8 := ⟨h.g.below hb, owns_below h.p hb, owns_below h.a hb, h.ne, h.eq, h.len, btr h.b hb⟩
theorem Ro.size {w a : World} {s k : Nat} {cur pu al : List Int} {v7 v8 : Value} (h : Ro w a s k cur pu al v7 v8) : w.heap.size + 1 ≤ a.heap.size := h.g.lt
theorem owns_kb {w w' : World} {base size : Nat} {e : TypeId} {v : Value} {n R : Nat} {xs : List Value} (h : w.ownsRow base e size v n xs) (k : KB R w w') (hR : R < base) : w'.ownsRow base e size v n xs := by
  refine ⟨h.1, ?_⟩
  rcases h.2 with q | ⟨g, cap, cur, q1, q2, q3, q4⟩
  · exact .inl q
  · exact .inr ⟨g, cap, cur, q1, q2, k.heap q3 (by omega), q4⟩
/-- the state but for the equation -/
structure Rp (w wr : World) (s : Nat) (cur pu al : List Int) (v7 v8 : Value) : Prop where
  g : Rg wr w.heap.size s cur
  p : wr.ownsRow (w.heap.size + 1) 3 1 v7 pu.length (pu.map (Value.int .i64))
  a : wr.ownsRow (w.heap.size + 1) 3 1 v8 al.length (al.map (Value.int .i64))
  ne : ∀ k, v7.ownBlock = some k → v8.ownBlock ≠ some k
  b : Below w.heap.size w wr
theorem Ro.turned {w a c : World} {s k : Nat} {cur pu al m : List Int} {v7 v8 : Value} (h : Ro w a s k cur pu al v7 v8) (hg : Rg c w.heap.size s m) (hk : KB w.heap.size a c) : Rp w c s m pu al v7 v8 :=
  ⟨hg, owns_kb h.p hk (by omega), owns_kb h.a hk (by omega), h.ne, KB.below h.b hk (Nat.le_refl _)⟩
theorem Rp.below {w a c : World} {s : Nat} {cur pu al : List Int} {v7 v8 : Value} (h : Rp w a s cur pu al v7 v8) (hb : Below a.heap.size a c) : Rp w c s cur pu al v7 v8 := ⟨h.g.below hb, owns_below h.p hb, owns_below h.a hb, h.ne, btr h.b hb⟩
theorem Rp.size {w a : World} {s : Nat} {cur pu al : List Int} {v7 v8 : Value} (h : Rp w a s cur pu al v7 v8) : w.heap.size + 1 ≤ a.heap.size := h.g.lt
theorem Rp.pu {w a c : World} {s : Nat} {cur pu al xs : List Int} {v7 v8 v' : Value} (h : Rp w a s cur pu al v7 v8) (ho : c.ownsRow (w.heap.size + 1) 3 1 v' (pu.length + xs.length) (pu.map (Value.int .i64) ++ xs.map (Value.int .i64))) (hg : a.grownBy c v7.ownBlock) (hat : v'.ownBlock = v7.ownBlock ∨ v'.ownBlock = some a.heap.size) : Rp w c s cur (pu ++ xs) al v' v8 := by
  refine ⟨rg_grown h.g h.p hg, ?_, own_other h.a hg (fun k hk e => h.ne k e hk), fun k hk e => ne_new h.a (fun k hk e => h.ne k e hk) hat k e hk, h.b.grown hg h.b.size (fun x hx => by have := (h.p.lt x hx).1; omega)⟩
  rw [List.length_append, List.map_append]
  exact ho
theorem Rp.al {w a c : World} {s : Nat} {cur pu al xs : List Int} {v7 v8 v' : Value} (h : Rp w a s cur pu al v7 v8) (ho : c.ownsRow (w.heap.size + 1) 3 1 v' (al.length + xs.length) (al.map (Value.int .i64) ++ xs.map (Value.int .i64))) (hg : a.grownBy c v8.ownBlock) (hat : v'.ownBlock = v8.ownBlock ∨ v'.ownBlock = some a.heap.size) : Rp w c s cur pu (al ++ xs) v7 v' := by
  refine ⟨rg_grown h.g h.a hg, own_other h.p hg h.ne, ?_, ne_new h.p h.ne hat, h.b.grown hg h.b.size (fun x hx => by have := (h.a.lt x hx).1; omega)⟩
  rw [List.length_append, List.map_append]
  exact ho
theorem Rp.ro {w a : World} {s k : Nat} {cur pu al : List Int} {v7 v8 : Value} (h : Rp w a s cur pu al v7 v8) (he : pu = al ++ cur) (hl : pu.length ≤ k) : Ro w a s k cur pu al v7 v8 := ⟨h.g, h.p, h.a, h.ne, he, hl, h.b⟩

set_option maxRecDepth 100000 in
set_option maxHeartbeats 3200000 in
theorem err_walk {w : World} (s : Int) (oa : Option Addr) (n c : Nat) (hs : s < 0 ∨ 4 < s) :
    Calls Try.prog 6 #[.int .i64 s, .slice oa n c] w fun r w' => r = .returned (.bool true) ∧ Below w.heap.size w w' := by
  have NW := hide (new_err s w hs)
  clear hs
  go_enter Try.func6, Try.ntmps6
  go_wp2_with fail
  refine NW.out.mono ?_
  rintro r w1 ⟨rfl, rfl⟩
  go_wp2_with fail
  refine (two_any _).mono ?_
  rintro r w5 ⟨rfl, b5⟩
  have B5 := hide b5
  clear b5
  go_wp2_with fail
  go_ret
  exact ⟨rfl, B5.out⟩

set_option maxRecDepth 100000 in
set_option maxHeartbeats 6400000 in
theorem core {w : World} (s0 : Int) (oa : Option Addr) (l : List (List Int)) (c : Nat) (hA : RAt w oa 2 l) (hl : l.length ≤ maxLen) :
    Calls Try.prog 6 #[.int .i64 s0, .slice oa l.length c] w fun r w' => r = .returned (.bool true) ∧ Below w.heap.size w w' := by
  by_cases hs : s0 < 0 ∨ 4 < s0
  · exact err_walk s0 oa l.length c hs
  obtain ⟨s, rfl⟩ := Int.eq_ofNat_of_zero_le (show 0 ≤ s0 by omega)
  have hs4 : s ≤ 4 := by omega
  have HA := hide hA
  unfold maxLen at hl
  clear hA hs
  cases hi : Try.prog.info? 3 with
  | none => have := Ba.info_int; rw [hi] at this; cases this
  | some i0 =>
  have hx := Ba.info_int
  rw [hi] at hx
  simp at hx
  have INF := hide (And.intro hi hx)
  clear hx hi
  go_enter Try.func6, Try.ntmps6
  go_wp2_with fail
  refine (new_ok s _ hs4).mono ?_
  rintro r w1 ⟨rfl, g1, b1⟩
  have T1 : Hid (Ro w w1 s 0 [] [] [] (.slice none 0 0) (.slice none 0 0)) := ⟨g1, World.ownsRow_nil _ _ _ _, World.ownsRow_nil _ _ _ _, fun k hk => by simp [Value.ownBlock] at hk, rfl, Nat.le_refl _, b1⟩
  clear g1 b1
  by_cases h3 : 300 < l.length
  · have h3' : decide ((300 : Int) < (l.length : Int)) = true := decide_eq_true (by omega)
    go_wp2_with fail
    refine (two_any _).mono ?_
    rintro r w5 ⟨rfl, b5⟩
    have B5 := hide (btr T1.out.b b5)
    clear b5
    go_wp2_with fail
    go_ret
    exact ⟨rfl, B5.out⟩
  have h3' : decide ((300 : Int) < (l.length : Int)) = false := decide_eq_false (by omega)
  go_wp2_with fail
  go_loopw [7, 8, 41] (fun o7 o8 j wr => ∃ (k : Nat) (cur pu al : List Int) (v7 v8 : Value), k ≤ l.length ∧ j = .int .i64 k ∧ o7 = v7 ∧ o8 = v8 ∧ Ro w wr s k cur pu al v7 v8) (fun _ _ j _ => l.length - (intOf j).toNat)
  case atStart => exact ⟨0, [], [], [], _, _, Nat.zero_le _, rfl, rfl, rfl, T1.out⟩
  case round =>
    clear T1
    obtain ⟨k, cur, pu, al, v7, v8, hk, rfl, rfl, rfl, t3⟩ := hrel
    have T3 := hide t3
    clear t3
    by_cases hlt : k < l.length
    · have hlt' : (k : Int) < (l.length : Int) := by omega
      obtain ⟨x, hx⟩ : ∃ x, l[k]? = some x := ⟨_, List.getElem?_eq_getElem hlt⟩
      obtain ⟨b', o', rfl, hc⟩ := (HA.out.below T3.out.b) k x hx
      have q0 := hc 0 (by decide)
      have q1 := hc 1 (by decide)
      rw [Nat.add_zero] at q0
      clear hc hx
      generalize nth x 0 = what at q0
      generalize nth x 1 = v at q1
      have hSR : wr.heap.size ≠ w.heap.size := by have := T3.out.g.lt; omega
      have Q := hide (heap_new wr (.cells #[.int .i64 what, .int .i64 v] 52))
      have T4 := hide (T3.out.below (below_alloc wr (.cells #[.int .i64 what, .int .i64 v] 52)))
      clear T3
      cases h2 : what == 2
      · cases h4 : what == 3
        · skip
          go_wp2_with fail
          generalize wr.alloc (.cells #[.int .i64 what, .int .i64 v] 52) = W4 at Q T4 ⊢
          have e1 := cell_of Q.out 1
          simp at e1
          refine (push_any _ s cur v _ T4.out.g).mono ?_
          rintro r v1 ⟨rfl, g1, c1⟩
          have e2 := c1.cell e1 hSR
          have EQ := hide T4.out.eq
          have hlen := T4.out.len
          have hall : al.length ≤ pu.length := by rw [EQ.out]; simp
          by_cases hp : cur.length < s
          · have P1 : Hid (Rp w v1 s (cur ++ [v]) pu al u7 u8) := by
              have := T4.out.turned g1 c1
              unfold pl at this
              rw [if_pos hp] at this
              exact this
            rw [show pe s cur = 0 by unfold pe; rw [if_pos hp]]
            clear g1 c1 T4 e1 Q
            have XB := hide (P1.out.below (below_alloc v1 (.cells #[.int .i64 v] 3)))
            have XS := hide (cell_one_new v1 (.int .i64 v) 3)
            go_wp2_with (at_builtin; refine wpList_append_own_at _ rfl _ _ 24 rfl (w.heap.size + 1) 3 i0 (.int .i64 0) 1 8 Try.underlying24 INF.out.1 INF.out.2.1 INF.out.2.2.1 INF.out.2.2.2 rfl (by decide) _ _ _ rfl XB.out.p ⟨v1.heap.size, 0, none⟩ 1 1 [.int .i64 v] rfl rfl ?c1 ?c2 ?c3 ?c4 ?c5 ?_)
            case c1 => exact XS.out
            case c2 => intro u hu; simp at hu; subst hu; rfl
            case c3 => unfold maxLen; omega
            case c4 => omega
            case c5 => exact XB.out.size
            intro v' w3 ho hg _ hat
            have P3 := hide (XB.out.pu (xs := [v]) ho hg (by first | exact hat | (rw [World.size_alloc]; exact hat)))
            clear ho hg hat
            go_wp2_with fail
            go_roundw
            case rel => exact ⟨k + 1, cur ++ [v], pu ++ [v], al, _, _, by omega, by go_num, rfl, rfl, P3.out.ro (by rw [EQ.out, List.append_assoc]) (by simp; omega)⟩
            case measure => simp [intOf]; omega
          · have P1 : Hid (Rp w v1 s cur pu al u7 u8) := by
              have := T4.out.turned g1 c1
              unfold pl at this
              rw [if_neg hp] at this
              exact this
            rw [show pe s cur = 5 by unfold pe; rw [if_neg hp]]
            clear g1 c1 T4 e1 Q
            go_wp2_with fail
            go_roundw
            case rel => exact ⟨k + 1, cur, pu, al, _, _, by omega, by go_num, rfl, rfl, P1.out.ro EQ.out (by omega)⟩
            case measure => simp [intOf]; omega
        · skip
          go_wp2_with fail
          generalize wr.alloc (.cells #[.int .i64 what, .int .i64 v] 52) = W4 at Q T4 ⊢
          have e1 := cell_of Q.out 1
          simp at e1
          refine (turn_any _ s cur v _ T4.out.g).mono ?_
          rintro r v1 ⟨rfl, g1, c1⟩
          have e2 := c1.cell e1 hSR
          have EQ := hide T4.out.eq
          have hlen := T4.out.len
          have hall : al.length ≤ pu.length := by rw [EQ.out]; simp
          cases cur with
          | nil =>
            have P1 : Hid (Rp w v1 s [] pu al u7 u8) := T4.out.turned g1 c1
            rw [show oe [] = 6 from rfl, show nth [] 0 = 0 from rfl]
            clear g1 c1 T4 e1 Q
            go_wp2_with fail
            go_roundw
            case rel => exact ⟨k + 1, [], pu, al, _, _, by omega, by go_num, rfl, rfl, P1.out.ro EQ.out (by omega)⟩
            case measure => simp [intOf]; omega
          | cons y t =>
            have P1 : Hid (Rp w v1 s (t ++ [v]) pu al u7 u8) := T4.out.turned g1 c1
            rw [show oe (y :: t) = 0 from rfl, show nth (y :: t) 0 = y from rfl]
            have Q2 := hide (c1.heap Q.out hSR)
            clear g1 c1 T4 e1 Q
            have XB := hide (P1.out.below (below_alloc v1 (.cells #[.int .i64 y] 3)))
            have XS := hide (cell_one_new v1 (.int .i64 y) 3)
            go_wp2_with (at_builtin; refine wpList_append_own_at _ rfl _ _ 24 rfl (w.heap.size + 1) 3 i0 (.int .i64 0) 1 8 Try.underlying24 INF.out.1 INF.out.2.1 INF.out.2.2.1 INF.out.2.2.2 rfl (by decide) _ _ _ rfl XB.out.a ⟨v1.heap.size, 0, none⟩ 1 1 [.int .i64 y] rfl rfl ?c1 ?c2 ?c3 ?c4 ?c5 ?_)
            case c1 => exact XS.out
            case c2 => intro u hu; simp at hu; subst hu; rfl
            case c3 => unfold maxLen; omega
            case c4 => omega
            case c5 => exact XB.out.size
            intro v' w3 ho hg _ hat
            have P3 := hide (XB.out.al (xs := [y]) ho hg (by first | exact hat | (rw [World.size_alloc]; exact hat)))
            have e3 := (cell_of ((hg.block _ (heap_lt (heap_below Q2.out (below_alloc v1 (.cells #[.int .i64 y] 3)))) (own_ty XB.out.a (heap_below Q2.out (below_alloc v1 (.cells #[.int .i64 y] 3))) (by decide))).trans (heap_below Q2.out (below_alloc v1 (.cells #[.int .i64 y] 3)))) 1).trans (show _ = some (Value.int .i64 v) from rfl)
            clear ho hg hat XB XS P1 e2 Q2
            have YB := hide (P3.out.below (below_alloc w3 (.cells #[.int .i64 v] 3)))
            have YS := hide (cell_one_new w3 (.int .i64 v) 3)
            go_wp2_with (at_builtin; refine wpList_append_own_at _ rfl _ _ 24 rfl (w.heap.size + 1) 3 i0 (.int .i64 0) 1 8 Try.underlying24 INF.out.1 INF.out.2.1 INF.out.2.2.1 INF.out.2.2.2 rfl (by decide) _ _ _ rfl YB.out.p ⟨w3.heap.size, 0, none⟩ 1 1 [.int .i64 v] rfl rfl ?c1 ?c2 ?c3 ?c4 ?c5 ?_)
            case c1 => exact YS.out
            case c2 => intro u hu; simp at hu; subst hu; rfl
            case c3 => unfold maxLen; omega
            case c4 => omega
            case c5 => exact YB.out.size
            intro v'' w4 ho hg _ hat
            have P4 := hide (YB.out.pu (xs := [v]) ho hg (by first | exact hat | (rw [World.size_alloc]; exact hat)))
            clear ho hg hat
            go_wp2_with fail
            go_roundw
            case rel => exact ⟨k + 1, t ++ [v], pu ++ [v], al ++ [y], _, _, by omega, by go_num, rfl, rfl, P4.out.ro (by rw [EQ.out]; simp) (by simp; omega)⟩
            case measure => simp [intOf]; omega
      · skip
        go_wp2_with fail
        generalize wr.alloc (.cells #[.int .i64 what, .int .i64 v] 52) = W4 at Q T4 ⊢
        have e1 := cell_of Q.out 1
        simp at e1
        refine (pop_any _ s cur _ T4.out.g).mono ?_
        rintro r v1 ⟨rfl, g1, c1⟩
        have e2 := c1.cell e1 hSR
        have EQ := hide T4.out.eq
        have hlen := T4.out.len
        have hall : al.length ≤ pu.length := by rw [EQ.out]; simp
        cases cur with
        | nil =>
          have P1 : Hid (Rp w v1 s [] pu al u7 u8) := T4.out.turned g1 c1
          rw [show oe [] = 6 from rfl, show nth [] 0 = 0 from rfl]
          clear g1 c1 T4 e1 Q
          go_wp2_with fail
          go_roundw
          case rel => exact ⟨k + 1, [], pu, al, _, _, by omega, by go_num, rfl, rfl, P1.out.ro EQ.out (by omega)⟩
          case measure => simp [intOf]; omega
        | cons y t =>
          have P1 : Hid (Rp w v1 s (t) pu al u7 u8) := T4.out.turned g1 c1
          rw [show oe (y :: t) = 0 from rfl, show nth (y :: t) 0 = y from rfl]
          clear g1 c1 T4 e1 Q
          have XB := hide (P1.out.below (below_alloc v1 (.cells #[.int .i64 y] 3)))
          have XS := hide (cell_one_new v1 (.int .i64 y) 3)
          go_wp2_with (at_builtin; refine wpList_append_own_at _ rfl _ _ 24 rfl (w.heap.size + 1) 3 i0 (.int .i64 0) 1 8 Try.underlying24 INF.out.1 INF.out.2.1 INF.out.2.2.1 INF.out.2.2.2 rfl (by decide) _ _ _ rfl XB.out.a ⟨v1.heap.size, 0, none⟩ 1 1 [.int .i64 y] rfl rfl ?c1 ?c2 ?c3 ?c4 ?c5 ?_)
          case c1 => exact XS.out
          case c2 => intro u hu; simp at hu; subst hu; rfl
          case c3 => unfold maxLen; omega
          case c4 => omega
          case c5 => exact XB.out.size
          intro v' w3 ho hg _ hat
          have P3 := hide (XB.out.al (xs := [y]) ho hg (by first | exact hat | (rw [World.size_alloc]; exact hat)))
          clear ho hg hat
          go_wp2_with fail
          go_roundw
          case rel => exact ⟨k + 1, t, pu, al ++ [y], _, _, by omega, by go_num, rfl, rfl, P3.out.ro (by rw [EQ.out]; simp) (by omega)⟩
          case measure => simp [intOf]; omega
    · have hlt' : ¬ ((k : Int) < (l.length : Int)) := by omega
      go_wp2_with fail
      refine (list_any _ s cur _ T3.out.g).mono ?_
      rintro r w5 ⟨rfl, a5, b5⟩
      have A5 := hide (at_cs a5)
      have T5 := hide (T3.out.below b5)
      have hcl : cur.length ≤ 4 := by have := T3.out.g.le; omega
      have EQ := hide T5.out.eq
      have hlen := T5.out.len
      have hall : al.length ≤ pu.length := by rw [EQ.out]; simp
      have P5 : Hid (Rp w w5 s cur pu al u7 u8) := ⟨T5.out.g, T5.out.p, T5.out.a, T5.out.ne, T5.out.b⟩
      clear a5 b5 T3
      go_wp2_with (at_builtin; refine wpList_append_own_at _ rfl _ _ 24 rfl (w.heap.size + 1) 3 i0 (.int .i64 0) 1 8 Try.underlying24 INF.out.1 INF.out.2.1 INF.out.2.2.1 INF.out.2.2.2 rfl (by decide) _ _ _ rfl T5.out.a _ cur.length _ (cur.map (Value.int .i64)) rfl ?c0 ?c1 ?c2 ?c3 ?c4 ?c5 ?_)
      case c0 => simp
      case c1 =>
        intro j u hj
        obtain ⟨b', o', e, hc⟩ := A5.out j u hj
        simp at e
        obtain ⟨rfl, rfl⟩ := e
        rw [Addr.add_lit]
        exact hc
      case c2 =>
        intro u hu
        obtain ⟨z, _, rfl⟩ := List.mem_map.1 hu
        rfl
      case c3 => unfold maxLen; omega
      case c4 => omega
      case c5 => exact T5.out.size
      intro v' w6 ho hg _ hat
      have P6 := hide (P5.out.al (xs := cur) ho hg (by first | exact hat | (rw [World.size_alloc]; exact hat)))
      clear ho hg hat P5 T5
      obtain ⟨o1, c1, hv1, at1⟩ := owns_at P6.out.a
      obtain ⟨o2, c2, hv2, at2⟩ := owns_at P6.out.p
      have B6 := hide P6.out.b
      have IN := hide (ints_is o1 o2 (al ++ cur) pu (al.length + cur.length) pu.length c1 c2 true (by rw [EQ.out]; simp) (by simp) rfl w6 at1 at2 (by omega) (by omega))
      rw [List.length_append] at hv1
      clear P6 at1 at2
      subst hv1 hv2
      go_wp2_with fail
      refine IN.out.mono ?_
      rintro r w7 ⟨rfl, b7⟩
      have B7 := hide (btr B6.out b7)
      clear b7
      go_wp2_with fail
      refine (two_any _).mono ?_
      rintro r w8 ⟨rfl, b8⟩
      have B8 := hide (btr B7.out b8)
      clear b8
      go_wp2_with fail
      go_ret
      exact ⟨rfl, B8.out⟩

/-! ### the row -/
set_option maxRecDepth 100000 in
theorem lifted (os : Os) (started : os.Started) (H : Type) (enc : TypeId × Value → H) :
    ReturnsInHanded {} Try.checked os 6 .any (Rows.ringOrderSpec.pre6 enc Try.prog Try.f6 Rows.ringOrderRow.domain false) (Rows.ringOrderSpec.post enc Try.prog Try.f6 false true false false) := by
  refine returnsInHanded_of_change (C := Try.checked) own started (by kernel_rfl) Try.func6
    (ChangeSpec.witness6 (enc := enc) (C := Try.checked) false ⟨#[], #[.int .i64 0, .slice none 0 0], []⟩ 8 (by kernel_rfl) (by kernel_rfl) (by kernel_rfl) (by kernel_rfl)) ?_
  intro W base args ds gs before hval0 hW hcnd _
  have hval : ∀ (j : Nat) t v, Try.f6.params[j]? = some t → args[j]? = some v → Value.okWide Try.prog W .any base t v := hval0
  have hW' := hW
  obtain ⟨p, q, hA0, hV, rfl, hfz, hnd⟩ := hW
  have hA : DataW.TrodAll enc Try.prog W 0 (fun _ => true) true Try.f6.params.toList args.toList ds p := hA0
  rw [Try.params6] at hA hval
  obtain ⟨v0, vs0, d0, ds0, p0, q0, hargs, rfl, rfl, h0, r0⟩ := trodAll_cons hA
  obtain ⟨v1, vs1, d1, ds1, p1, q1, rfl, rfl, rfl, h1, r1⟩ := trodAll_cons r0
  obtain ⟨rfl, rfl, rfl⟩ := trodAll_nil r1
  obtain rfl : args = #[v0, v1] := by cases args; simp_all
  obtain ⟨rfl, rfl⟩ := trodVars_none hV
  obtain ⟨a0, rfl, rfl, rfl, w0⟩ := open_int Try.underlying3 (hval 0 3 v0 rfl rfl) h0
  obtain ⟨oa1, n1, c1, rfl⟩ := okWide_slice Try.underlying44 (hval 1 44 v1 rfl rfl)
  have k1 := h1
  have lt1 : ∀ x ∈ p1, x.block < W.heap.size := by obtain ⟨m, hm⟩ := k1; exact DataW.trod_lt m _ _ _ hm
  obtain ⟨l1, rfl, A1, C1, M1⟩ := h1.elim fun _ hf => steps_open hf
  clear hA0 hval0
  refine (core (w := W) a0 oa1 l1 c1 A1 (Nat.le_trans C1 M1)).mono fun e W' ⟨he, bel⟩ => ?_
  subst he
  exact ⟨_, rfl, _, _, _, [], _, [], hW', trodAll_mk1 (shut_bool Try.underlying4 _), (trodAll_cons_mk (shut_int Try.underlying3 w0) (trodAll_cons_mk (Below.trod laidOut (by kernel_rfl) (of_decide_eq_true (by kernel_rfl)) k1 bel lt1) trodAll_mk0)), rfl, bel.frame _, fun h => by cases h⟩

theorem over : Rows.ringOrderRow.holds Try.pinned (OpenSpec.ofChange Rows.ringOrderSpec) :=
  OpenClaim.holds_of_wide 6 Try.f6 rfl rfl rfl rfl rfl rfl rfl ⟨rfl, rfl, rfl, rfl, rfl⟩ rfl rfl rfl rfl rfl (by kernel_rfl) Try.func6 (by kernel_rfl)
    (of_decide_eq_true (by kernel_rfl)) (by unfold Func.isWrapper; first | (rw [if_pos (by decide +kernel)]; kernel_rfl) | (rw [if_neg (by decide +kernel)]; exact ⟨rfl, rfl⟩))
    (fun os started H enc _ => lifted os started H enc)

/-- the statement -/
theorem proved : Rows.RingOrderSaid := over
#print axioms proved
end Go.Proofs.Ytiefaihflmogpaa.ringOrder
