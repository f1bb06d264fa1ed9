/- The reference's table, over this seat's program: New, At, Born, Gone. -/
import Derived.Test.YtledfepeoajgoaaUb1
namespace Go.Proofs.Ytledfepeoajgoaa
open Go.ChangeShapes Go.WideShapes Go.ChangeAt Go.RowKit
namespace Rk
open Ba

abbrev RT (w : World) (B : Nat) (F : Nat → Prop) (l : List Rd) : Prop := Tq 40 36 w B F l
/-- where g's stands; -1: nowhere -/
def rat (m : List Rd) (g : Int) : Int := match m.findIdx? (fun x => x.g == g) with | some i => (i : Int) | none => -1
theorem rat_none {m : List Rd} {g : Int} (h : ∀ (j : Nat) (z : Rd), m[j]? = some z → (z.g == g) = false) : rat m g = -1 := by
  have : m.findIdx? (fun x => x.g == g) = none := by
    rw [List.findIdx?_eq_none_iff]
    intro x hx
    obtain ⟨j, hj, rfl⟩ := List.getElem_of_mem hx
    exact h j _ (List.getElem?_eq_getElem hj)
  simp [rat, this]
theorem rat_some {m : List Rd} {g : Int} {k : Nat} {x : Rd} (hk : m[k]? = some x) (h : ∀ (j : Nat) (z : Rd), j < k → m[j]? = some z → (z.g == g) = false) (hp : (x.g == g) = true) : rat m g = (k : Int) := by
  obtain ⟨hkl, e⟩ := List.getElem?_eq_some_iff.1 hk
  have : m.findIdx? (fun x => x.g == g) = some k := by
    rw [List.findIdx?_eq_some_iff_getElem]
    refine ⟨hkl, by rw [e]; exact hp, fun j hj => ?_⟩
    simp [h j _ hj (List.getElem?_eq_getElem (by omega))]
  simp [rat, this]
theorem rat_hs (m : List Rd) (g : Int) : decide (0 ≤ rat m g) = hs m g := by
  cases h : hs m g with
  | false =>
    have : rat m g = -1 := rat_none fun j z hz => by
      unfold hs at h
      rw [List.any_eq_false] at h
      simpa using h z (List.mem_of_getElem? hz)
    rw [this]; rfl
  | true =>
    unfold rat
    cases hf : m.findIdx? (fun x => x.g == g) with
    | some i => simp
    | none =>
      rw [List.findIdx?_eq_none_iff] at hf
      obtain ⟨k, x, hx, e⟩ := hs_iff.1 h
      have := hf x (List.mem_of_getElem? hx)
      simp [e] at this
theorem rat_at {m : List Rd} {g : Int} (h : hs m g = true) : ∃ (k : Nat) (x : Rd), rat m g = (k : Int) ∧ m[k]? = some x ∧ x.g = g ∧ k < m.length := by
  unfold rat
  cases hf : m.findIdx? (fun x => x.g == g) with
  | some i =>
    obtain ⟨h1, h2, -⟩ := List.findIdx?_eq_some_iff_getElem.1 hf
    exact ⟨i, m[i], rfl, List.getElem?_eq_getElem h1, by simpa using h2, h1⟩
  | none =>
    rw [List.findIdx?_eq_none_iff] at hf
    obtain ⟨k, x, hx, e⟩ := hs_iff.1 h
    have := hf x (List.mem_of_getElem? hx)
    simp [e] at this
set_option maxHeartbeats 1600000 in
theorem rnew_any (w : World) :
    Calls Try.prog 9 #[] w fun r w' => ∃ B F, r = .returned (.pointer (some ⟨B, 0, none⟩)) ∧ RT w' B F [nb 0 0 (-1)] ∧ (∀ x, F x → w.heap.size ≤ x) ∧ Below w.heap.size w w' := by
  go_enter Try.func9, Try.ntmps9
  go_wp2_with fail
  go_ret
  obtain ⟨o1, ho1⟩ : ∃ o1, o1 = Obj.cells #[.int .i64 0, .int .i64 0, .int .i64 (-1), .bool false, .int .i64 0, .int .i64 0] 36 := ⟨_, rfl⟩
  rw [← ho1]
  have s1 := World.size_alloc w o1
  have s2 := World.size_alloc (w.alloc o1) (.cells #[.slice (some ⟨w.heap.size, 0, none⟩) 1 1] 40)
  have bb := btr (below_alloc w o1) (below_alloc (w.alloc o1) (.cells #[.slice (some ⟨w.heap.size, 0, none⟩) 1 1] 40))
  refine ⟨(w.alloc o1).heap.size, fun k => k = w.heap.size ∨ k = (w.alloc o1).heap.size, by rw [s1]; rfl, ⟨some ⟨w.heap.size, 0, none⟩, 1, ?_, ?_, .inr rfl, ?_, ?_⟩, ?_, bb⟩
  · exact heap_new _ _
  · refine ⟨rfl, .inr ⟨w.heap.size, 1, #[.int .i64 0, .int .i64 0, .int .i64 (-1), .bool false, .int .i64 0, .int .i64 0], rfl, Nat.zero_le _, ?_, Nat.le_refl _, by unfold maxLen; decide, rfl, rfl⟩⟩
    rw [ho1]; exact heap_below (heap_new _ _) (below_alloc _ _)
  · intro g e
    simp [Value.ownBlock] at e
    exact .inl e.symm
  · rintro k (rfl | rfl)
    · omega
    · omega
  · rintro k (rfl | rfl) <;> omega
set_option maxRecDepth 100000 in
set_option maxHeartbeats 3200000 in
theorem rat_any (B : Nat) (F : Nat → Prop) (m : List Rd) (g : Int) (w : World) (h : RT w B F m) (hl : m.length ≤ 10000) :
    Calls Try.prog 12 #[.pointer (some ⟨B, 0, none⟩), .int .i64 g] w fun r w' => r = .returned (.int .i64 (rat m g)) ∧ Below w.heap.size w w' := by
  obtain ⟨oa, c, h⟩ := h
  have y0 : w.cell? ⟨B, 0, none⟩ = some (.slice oa m.length c) := cell_of h.hp 0
  have HA := hide h.at.1
  have RS := hide (fun (k : Nat) (x : Rd) => @rat_some m g k x)
  have RN := hide (@rat_none m g)
  generalize rat m g = O at RS RN ⊢
  obtain ⟨N, hN⟩ : ∃ N, m.length = N := ⟨_, rfl⟩
  have HN := hide hN
  rw [hN] at y0 hl
  clear h hN
  go_enter Try.func12, Try.ntmps12
  go_wp2_with fail
  go_loopw [12] (fun i wr => ∃ k : Nat, k ≤ N ∧ i = .int .i64 k ∧ (∀ (j : Nat) (z : Rd), j < k → m[j]? = some z → (z.g == g) = false) ∧ Below w.heap.size w wr) (fun i _ => N - (intOf i).toNat)
  case atStart => exact ⟨0, Nat.zero_le _, rfl, fun j _ hj => absurd hj (Nat.not_lt_zero _), Below.refl _ _⟩
  case round =>
    obtain ⟨k, hk, rfl, hall, bl⟩ := hrel
    have HL := hide hall
    have BL := hide bl
    clear hall bl
    by_cases hlt : k < N
    · have hlt' : (k : Int) < (N : Int) := by omega
      obtain ⟨x, hx⟩ : ∃ x, m[k]? = some x := ⟨_, List.getElem?_eq_getElem (by rw [HN.out]; exact hlt)⟩
      obtain ⟨b, rfl, c0, c1, c2, c3, c4, c5⟩ := (HA.out.below BL.out) k x hx
      have HX := hide hx
      have B2 := hide (btr BL.out (below_alloc wr (.cells #[.int .i64 x.g, .int .i64 x.t, .int .i64 x.f, .bool x.b, .int .i64 x.l, .int .i64 x.c] 36)))
      clear hx
      cases hp : (x.g == g)
      · have HP := hide hp
        go_wp2_with fail
        go_roundw
        case rel => exact ⟨k + 1, by omega, by go_num, fun j y hj hy => by
          by_cases e : j = k
          · rw [e, HX.out] at hy; cases hy; exact HP.out
          · exact HL.out j y (by omega) hy, B2.out⟩
        case measure => simp [intOf]; omega
      · have hO := RS.out k x HX.out HL.out hp
        subst hO
        go_wp2_with fail
        go_ret
        exact ⟨rfl, B2.out⟩
    · have hlt' : ¬ ((k : Int) < (N : Int)) := by omega
      have hO := RN.out fun j z hz => HL.out j z (by have := (List.getElem?_eq_some_iff.1 hz).1; rw [HN.out] at this; omega) hz
      subst hO
      go_wp2_with fail
      go_ret
      exact ⟨rfl, BL.out⟩
/-- the record stays at a place, by the reference -/
def stR (x : Rd) (a : Int) : Bool := !x.b || decide (a < x.l)
def tkR (m : List Rd) (t a : Int) : Bool := m.any fun x => x.t == t && stR x a
def rbE (m : List Rd) (g t a : Int) : Int := if bdN g t a then 1 else if hs m g || tkR m t a then 7 else 0
def rbL (m : List Rd) (g t a : Int) : List Rd := if bdN g t a then m else if hs m g || tkR m t a then m else m ++ [nb g t a]
theorem bdR {g t a : Int} (h : bdN g t a = true) : g < 0 ∨ t < 0 ∨ 255 < t ∨ a < -1 := by
  unfold bdN isT at h
  simp at h
  omega
set_option maxHeartbeats 1600000 in
theorem rborn_arg (B : Nat) (g t a : Int) (w : World) (h : bdN g t a = true) :
    Calls Try.prog 20 #[.pointer (some ⟨B, 0, none⟩), .int .i64 g, .int .i64 t, .int .i64 a] w fun r w' => r = .returned (.int .i64 1) ∧ w' = w := by
  have hd := bdR h
  clear h
  by_cases h1 : g < 0
  · clear hd
    go_enter Try.func20, Try.ntmps20
    go_wp2_with fail
    go_ret
    exact ⟨rfl, rfl⟩
  by_cases h2 : t < 0
  · clear hd
    go_enter Try.func20, Try.ntmps20
    go_wp2_with fail
    go_ret
    exact ⟨rfl, rfl⟩
  by_cases h3 : 255 < t
  · clear hd
    go_enter Try.func20, Try.ntmps20
    go_wp2_with fail
    go_ret
    exact ⟨rfl, rfl⟩
  · have h4 : a < -1 := by omega
    clear hd
    go_enter Try.func20, Try.ntmps20
    go_wp2_with fail
    go_ret
    exact ⟨rfl, rfl⟩
theorem tkR_yes {m : List Rd} {t a : Int} {k : Nat} {x : Rd} (hx : m[k]? = some x) (h : (x.t == t && stR x a) = true) : tkR m t a = true := List.any_eq_true.2 ⟨x, List.mem_of_getElem? hx, h⟩
theorem tkR_no {m : List Rd} {t a : Int} (h : ∀ (j : Nat) (z : Rd), m[j]? = some z → (z.t == t && stR z a) = false) : tkR m t a = false := by
  unfold tkR
  rw [List.any_eq_false]
  intro x hx
  obtain ⟨j, hj, rfl⟩ := List.getElem_of_mem hx
  simp [h j _ (List.getElem?_eq_getElem hj)]
set_option maxRecDepth 100000 in
set_option maxHeartbeats 3200000 in
theorem rborn_any (B : Nat) (F : Nat → Prop) (m : List Rd) (g t a : Int) (w : World) (h : RT w B F m) (hl : m.length ≤ 10000) :
    Calls Try.prog 20 #[.pointer (some ⟨B, 0, none⟩), .int .i64 g, .int .i64 t, .int .i64 a] w fun r w' => r = .returned (.int .i64 (rbE m g t a)) ∧ Po 40 36 w w' B F (rbL m g t a) := by
  cases hd : bdN g t a with
  | true =>
    rw [show rbE m g t a = 1 by simp [rbE, hd], show rbL m g t a = m by simp [rbL, hd]]
    refine (rborn_arg B g t a w hd).mono ?_
    rintro r w1 ⟨rfl, rfl⟩
    exact ⟨rfl, Po.of h (Below.refl _ _)⟩
  | false =>
    have hd' : ¬ g < 0 ∧ ¬ t < 0 ∧ ¬ 255 < t ∧ ¬ a < -1 := by
      obtain ⟨h1, h2, h3⟩ := bdN_yes hd
      unfold isT at h2
      simp at h2
      omega
    obtain ⟨h1, h2, h3, h4⟩ := hd'
    have AT := hide (rat_any B F m g w h hl)
    have RH := rat_hs m g
    obtain ⟨oa, c, h⟩ := h
    have H := hide h
    have LEN := hide hl
    clear hl
    cases hh : hs m g with
    | true =>
      rw [show rbE m g t a = 7 by simp [rbE, hd, hh], show rbL m g t a = m by simp [rbL, hd, hh]]
      rw [hh] at RH
      generalize rat m g = O at AT RH
      clear h hh hd
      go_enter Try.func20, Try.ntmps20
      go_wp2_with fail
      refine AT.out.mono ?_
      rintro r w1 ⟨rfl, b1⟩
      have B1 := hide b1
      clear b1
      go_wp2_with fail
      go_ret
      exact ⟨rfl, Po.of ⟨_, _, H.out⟩ B1.out⟩
    | false =>
      have EE : Hid (rbE m g t a = if tkR m t a then 7 else 0) := by show rbE m g t a = _; simp [rbE, hd, hh]
      have EL : Hid (rbL m g t a = if tkR m t a then m else m ++ [nb g t a]) := by show rbL m g t a = _; simp [rbL, hd, hh]
      rw [hh] at RH
      have TY := hide (fun (k : Nat) (x : Rd) => @tkR_yes m t a k x)
      have TN := hide (@tkR_no m t a)
      rw [EE.out, EL.out]
      generalize tkR m t a = z at TY TN ⊢
      generalize rat m g = O at AT RH
      clear h hh hd EE EL
      obtain ⟨N, hN⟩ : ∃ N, m.length = N := ⟨_, rfl⟩
      have HN := hide hN
      clear hN
      have hl : N ≤ 10000 := by have := LEN.out; rw [HN.out] at this; exact this
      go_enter Try.func20, Try.ntmps20
      go_wp2_with fail
      refine AT.out.mono ?_
      rintro r w1 ⟨rfl, b1⟩
      have B1 := hide b1
      clear b1
      have H1 := hide (H.out.below B1.out)
      have y1 : w1.cell? ⟨B, 0, none⟩ = some (.slice oa N c) := by rw [← HN.out]; exact cell_of H1.out.hp 0
      go_wp2_with fail
      go_loopw [34] (fun i wr => ∃ k : Nat, k ≤ N ∧ i = .int .i64 k ∧ (∀ (j : Nat) (z : Rd), j < k → m[j]? = some z → (z.t == t && stR z a) = false) ∧ Below w1.heap.size w1 wr) (fun i _ => N - (intOf i).toNat)
      case atStart => exact ⟨0, Nat.zero_le _, rfl, fun j _ hj => absurd hj (Nat.not_lt_zero _), Below.refl _ _⟩
      case round =>
        clear y1
        obtain ⟨k, hk, rfl, hall, bl⟩ := hrel
        have HL := hide hall
        have BL := hide bl
        clear hall bl
        by_cases hlt : k < N
        · have hlt' : (k : Int) < (N : Int) := by omega
          obtain ⟨x, hx⟩ : ∃ x, m[k]? = some x := ⟨_, List.getElem?_eq_getElem (by rw [HN.out]; exact hlt)⟩
          obtain ⟨b, rfl, c0, c1, c2, c3, c4, c5⟩ := (H1.out.at.1.below BL.out) k x hx
          have HX := hide hx
          have B2 := hide (btr BL.out (below_alloc wr (.cells #[.int .i64 x.g, .int .i64 x.t, .int .i64 x.f, .bool x.b, .int .i64 x.l, .int .i64 x.c] 36)))
          have NO : Hid ((x.t == t && stR x a) = false → ∀ (j : Nat) (z : Rd), j < k + 1 → m[j]? = some z → (z.t == t && stR z a) = false) := fun hq j z hj hz => by
            by_cases e : j = k
            · rw [e, HX.out] at hz; cases hz; exact hq
            · exact HL.out j z (by omega) hz
          have YES := hide (TY.out k x HX.out)
          have B3 := hide (btr B1.out B2.out)
          unfold stR at NO YES
          clear hx
          obtain ⟨xg, xt, xf, xb, xl, xc⟩ := x
          simp only at *
          cases e1 : (xt == t)
          · have NQ := hide (NO.out (by rw [e1]; rfl))
            clear NO YES
            go_wp2_with fail
            go_roundw
            case rel => exact ⟨k + 1, by omega, by go_num, NQ.out, B2.out⟩
            case measure => simp [intOf]; omega
          cases xb
          · have hz := YES.out (by rw [e1]; rfl)
            clear NO YES
            subst hz
            go_wp2_with fail
            go_ret
            exact ⟨rfl, Po.of ⟨_, _, H.out⟩ B3.out⟩
          · cases e2 : decide (a < xl)
            · have NQ := hide (NO.out (by rw [e1, e2]; rfl))
              clear NO YES
              go_wp2_with fail
              go_roundw
              case rel => exact ⟨k + 1, by omega, by go_num, NQ.out, B2.out⟩
              case measure => simp [intOf]; omega
            · have hz := YES.out (by rw [e1, e2]; rfl)
              clear NO YES
              subst hz
              go_wp2_with fail
              go_ret
              exact ⟨rfl, Po.of ⟨_, _, H.out⟩ B3.out⟩
        · have hlt' : ¬ ((k : Int) < (N : Int)) := by omega
          have hz := TN.out fun j z hz => HL.out j z (by have := (List.getElem?_eq_some_iff.1 hz).1; rw [HN.out] at this; omega) hz
          subst hz
          have H2 := hide (H1.out.below BL.out)
          have B2 := hide (btr B1.out BL.out)
          have y0 : wr.cell? ⟨B, 0, none⟩ = some (.slice oa N c) := by rw [← HN.out]; exact cell_of H2.out.hp 0
          clear TY TN AT RH HL
          obtain ⟨i0, hi, hz0, hz1, hz2⟩ := info_p info_rr
          have INF := hide (And.intro hi (And.intro hz0 (And.intro hz1 hz2)))
          have O2 : Hid ((wr.alloc (.cells #[.int .i64 g, .int .i64 t, .int .i64 a, .bool false, .int .i64 0, .int .i64 0] 36)).ownsRow 0 36 6 (.slice oa N c) N (rc m)) := by
            have := H2.out.ow
            rw [HN.out] at this
            exact own_keep this fun k hk => (below_alloc wr _).block k (H2.out.bd k (H2.out.fr k (by rw [HN.out]; exact hk)))
          have HB : Hid ((Value.slice oa N c).ownBlock ≠ some B) := fun e => by
            obtain ⟨_, cur, q⟩ := own_blk H2.out.ow B (by rw [HN.out]; exact e)
            rw [H2.out.hp] at q
            cases q
          have HBW := H2.out.lt
          have X3 := hide (heap_new wr (.cells #[.int .i64 g, .int .i64 t, .int .i64 a, .bool false, .int .i64 0, .int .i64 0] 36))
          have P3 := hide (heap_below H2.out.hp (below_alloc wr (.cells #[.int .i64 g, .int .i64 t, .int .i64 a, .bool false, .int .i64 0, .int .i64 0] 36)))
          have B4 := hide (btr B2.out (below_alloc wr (.cells #[.int .i64 g, .int .i64 t, .int .i64 a, .bool false, .int .i64 0, .int .i64 0] 36)))
          have hBW := HBW
          clear hi hz0 hz1 hz2
          go_wp2_with (at_builtin; refine wpList_append_own_at _ rfl _ _ 38 rfl 0 36 i0 _ 6 48 Try.underlying38 INF.out.1 INF.out.2.1 INF.out.2.2.1 INF.out.2.2.2 rfl (by decide) _ _ _ rfl O2.out ⟨wr.heap.size, 0, none⟩ 1 1 (cl (nb g t a)) rfl rfl ?c1 (cl_one _) ?c3 ?c4 (Nat.zero_le _) ?_)
          case c1 =>
            intro j u hj
            simpa [cl, nb] using hj
          case c3 => unfold maxLen; omega
          case c4 => omega
          intro v' w2 ho hg _ hat
          obtain ⟨oa2, c2, e2⟩ := own_sl ho
          subst e2
          have hp2 : w2.heap[B]? = some (.cells #[.slice oa m.length c] 40 (0, 0)) := (hg.block B (by rw [World.size_alloc]; omega) (fun e => HB.out e.symm)).trans P3.out
          have y2 : w2.cell? ⟨B, 0, none⟩ = some (.slice oa m.length c) := cell_of hp2 0
          have z2 : w2.frozen? ⟨B, 0, none⟩ = false := frozen_of hp2 0
          have K2 : Hid (KF F w w2) := by
            refine ⟨hg.os.trans B4.out.os, hg.tape.trans B4.out.tape, hg.output.trans B4.out.output, Nat.le_trans B4.out.size hg.size, fun k hk hF => ?_⟩
            exact (hg.block k (Nat.lt_of_lt_of_le hk B4.out.size) (fun e => hF (H.out.fr k (by rw [HN.out]; exact e.symm)))).trans (B4.out.block k hk)
          have NW2 : Hid (∀ k, (Value.slice oa2 (N + 1) c2).ownBlock = some k → F k ∨ w.heap.size ≤ k) := by
            intro k hk
            rcases hat with q | q
            · rw [q] at hk; exact .inl (H.out.fr k (by rw [HN.out]; exact hk))
            · rw [q] at hk; cases hk
              exact .inr (by have := B4.out.size; rw [World.size_alloc] at this; omega)
          have LE2 : Hid ((m ++ [nb g t a]).length = N + 1) := by show _ = _; rw [List.length_append, HN.out]; rfl
          have RC2 : Hid (rc (m ++ [nb g t a]) = rc m ++ cl (nb g t a)) := by show _ = _; rw [rc_app]; simp [rc]
          have PUT : Hid (Tb 40 36 (w2.setCell ⟨B, 0, none⟩ (.slice oa2 (N + 1) c2)) B (Fw F (.slice oa2 (N + 1) c2)) oa2 c2 (m ++ [nb g t a])) := by
            have := Tb.put (oa := oa2) (c := c2) (m := m ++ [nb g t a]) (F := F) hp2 (by rw [LE2.out, RC2.out]; exact ho) (by decide) H.out.fb (fun k hk => Nat.lt_of_lt_of_le (H.out.bd k hk) K2.out.size)
            rw [LE2.out] at this
            exact this
          clear hp2 ho hg hat O2 P3 X3
          go_wp2_with fail
          go_ret
          refine ⟨rfl, _, ⟨_, _, PUT.out⟩, K2.out.set H.out.fb _ _, ?_⟩
          rintro k (q | q)
          · exact .inl q
          · exact NW2.out k q
def rgE (m : List Rd) (g a c : Int) : Int := if gnN a c then 1 else if hs m g = false then 6 else match m[(rat m g).toNat]? with
  | none => 6
  | some x => if x.b || decide (a < x.f) then 7 else 0
def rgL (m : List Rd) (g a c : Int) : List Rd := if gnN a c then m else if hs m g = false then m else match m[(rat m g).toNat]? with
  | none => m
  | some x => if x.b || decide (a < x.f) then m else m.set (rat m g).toNat (gn1 x a c)
set_option maxHeartbeats 1600000 in
theorem rgone_arg (B : Nat) (g a c : Int) (w : World) (h : gnN a c = true) :
    Calls Try.prog 21 #[.pointer (some ⟨B, 0, none⟩), .int .i64 g, .int .i64 a, .int .i64 c] w fun r w' => r = .returned (.int .i64 1) ∧ w' = w := by
  have hd : a < -1 ∨ c < 0 ∨ 1048576 < c := by
    unfold gnN at h
    simp at h
    omega
  clear h
  by_cases h1 : a < -1
  · clear hd
    go_enter Try.func21, Try.ntmps21
    go_wp2_with fail
    go_ret
    exact ⟨rfl, rfl⟩
  by_cases h2 : c < 0
  · clear hd
    go_enter Try.func21, Try.ntmps21
    go_wp2_with fail
    go_ret
    exact ⟨rfl, rfl⟩
  · have h3 : 1048576 < c := by omega
    clear hd
    go_enter Try.func21, Try.ntmps21
    go_wp2_with fail
    go_ret
    exact ⟨rfl, rfl⟩
set_option maxRecDepth 100000 in
set_option maxHeartbeats 3200000 in
theorem rgone_any (B : Nat) (F : Nat → Prop) (m : List Rd) (g a c : Int) (w : World) (h : RT w B F m) (hl : m.length ≤ 10000) :
    Calls Try.prog 21 #[.pointer (some ⟨B, 0, none⟩), .int .i64 g, .int .i64 a, .int .i64 c] w fun r w' => r = .returned (.int .i64 (rgE m g a c)) ∧ Po 40 36 w w' B F (rgL m g a c) := by
  cases hd : gnN a c with
  | true =>
    rw [show rgE m g a c = 1 by simp [rgE, hd], show rgL m g a c = m by simp [rgL, hd]]
    refine (rgone_arg B g a c w hd).mono ?_
    rintro r w1 ⟨rfl, rfl⟩
    exact ⟨rfl, Po.of h (Below.refl _ _)⟩
  | false =>
    obtain ⟨h1, h2, h3⟩ := gnN_yes hd
    have AT := hide (rat_any B F m g w h hl)
    have RH := rat_hs m g
    obtain ⟨oa, cp, h⟩ := h
    have H := hide h
    cases hh : hs m g with
    | false =>
      rw [show rgE m g a c = 6 by simp [rgE, hd, hh], show rgL m g a c = m by simp [rgL, hd, hh]]
      rw [hh] at RH
      have RH2 : rat m g < 0 := by simpa using RH
      generalize rat m g = O at AT RH RH2
      clear h hh hd hl
      go_enter Try.func21, Try.ntmps21
      go_wp2_with fail
      refine AT.out.mono ?_
      rintro r w1 ⟨rfl, b1⟩
      have B1 := hide b1
      clear b1
      go_wp2_with fail
      go_ret
      exact ⟨rfl, Po.of ⟨_, _, H.out⟩ B1.out⟩
    | true =>
      obtain ⟨P, x, hk, hx, hxg, hpl⟩ := rat_at hh
      have EE : Hid (rgE m g a c = if x.b || decide (a < x.f) then 7 else 0) := by
        show rgE m g a c = _
        simp [rgE, hd, hh, hk, hx]
      have EL : Hid (rgL m g a c = if x.b || decide (a < x.f) then m else m.set P (gn1 x a c)) := by
        show rgL m g a c = _
        simp [rgL, hd, hh, hk, hx]
      rw [hk] at AT
      have HX := hide hx
      have hpl' : (P : Int) < (m.length : Int) := by omega
      have hl2 : m.length ≤ 9223372036854775807 := by omega
      obtain ⟨q, rfl, -⟩ := h.at.1 P x HX.out
      rw [EE.out, EL.out]
      clear h hh hd hx hxg hk EE EL RH hl
      obtain ⟨xb, hxb⟩ : ∃ xb, x.b = xb := ⟨_, rfl⟩
      rw [hxb]
      cases xb with
      | true =>
        rw [show (if (true || decide (a < x.f)) = true then (7 : Int) else 0) = 7 by simp, show (if (true || decide (a < x.f)) = true then m else m.set P (gn1 x a c)) = m by simp]
        go_enter Try.func21, Try.ntmps21
        go_wp2_with fail
        refine AT.out.mono ?_
        rintro r w1 ⟨rfl, b1⟩
        have B1 := hide b1
        clear b1
        have H1 := hide (H.out.below B1.out)
        have y0 : w1.cell? ⟨B, 0, none⟩ = some (.slice (some ⟨q, 0, none⟩) m.length cp) := cell_of H1.out.hp 0
        obtain ⟨q', e', q0, q1, q2, q3, q4, q5⟩ := H1.out.at.1 P x HX.out
        cases e'
        rw [hxb] at q3
        clear hxb
        go_wp2_with fail
        go_ret
        exact ⟨rfl, Po.of ⟨_, _, H.out⟩ B1.out⟩
      | false =>
        cases hax : decide (a < x.f) with
        | true =>
          rw [show (if (false || true) = true then (7 : Int) else 0) = 7 by simp, show (if (false || true) = true then m else m.set P (gn1 x a c)) = m by simp]
          go_enter Try.func21, Try.ntmps21
          go_wp2_with fail
          refine AT.out.mono ?_
          rintro r w1 ⟨rfl, b1⟩
          have B1 := hide b1
          clear b1
          have H1 := hide (H.out.below B1.out)
          have y0 : w1.cell? ⟨B, 0, none⟩ = some (.slice (some ⟨q, 0, none⟩) m.length cp) := cell_of H1.out.hp 0
          obtain ⟨q', e', q0, q1, q2, q3, q4, q5⟩ := H1.out.at.1 P x HX.out
          cases e'
          rw [hxb] at q3
          clear hxb
          go_wp2_with fail
          go_ret
          exact ⟨rfl, Po.of ⟨_, _, H.out⟩ B1.out⟩
        | false =>
          rw [show (if (false || false) = true then (7 : Int) else 0) = 0 by simp, show (if (false || false) = true then m else m.set P (gn1 x a c)) = m.set P (gn1 x a c) by simp]
          go_enter Try.func21, Try.ntmps21
          go_wp2_with fail
          refine AT.out.mono ?_
          rintro r w1 ⟨rfl, b1⟩
          have B1 := hide b1
          clear b1
          have H1 := hide (H.out.below B1.out)
          have y0 : w1.cell? ⟨B, 0, none⟩ = some (.slice (some ⟨q, 0, none⟩) m.length cp) := cell_of H1.out.hp 0
          obtain ⟨q', e', q0, q1, q2, q3, q4, q5⟩ := H1.out.at.1 P x HX.out
          cases e'
          rw [hxb] at q3
          clear hxb
          obtain ⟨_, cur, hm⟩ := own_blk H1.out.ow q rfl
          have hqB : q ≠ B := by
            intro e
            rw [e, H1.out.hp] at hm
            cases hm
          have z3 := frozen_of hm (P * 6 + 3)
          have z4 := frozen_of hm (P * 6 + 4)
          have z5 := frozen_of hm (P * 6 + 5)
          clear hm
          have FM := hide (H.out.fr q rfl)
          have GO := hide (H1.out.gone (by decide) HX.out true a c)
          go_wp2_with fail
          go_ret
          exact ⟨rfl, F, ⟨_, _, GO.out⟩, ((((KF.of B1.out).set FM.out _ _).set FM.out _ _).set FM.out _ _), Nw.refl _ _⟩
end Rk
end Go.Proofs.Ytledfepeoajgoaa
