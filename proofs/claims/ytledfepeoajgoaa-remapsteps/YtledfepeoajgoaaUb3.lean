/- A table and the reference's say the same (plain); both side by side; the law's does(). -/
import Derived.Test.YtledfepeoajgoaaUb2
namespace Go.Proofs.Ytledfepeoajgoaa
open Go.ChangeShapes Go.WideShapes Go.ChangeAt Go.RowKit
namespace Rk
open Ba

theorem Srt.pw {l : List Rd} (h : Srt l) : l.Pairwise fun x y => x.g ≠ y.g := by
  rw [List.pairwise_iff_getElem]
  intro i j hi hj hij
  have := h i j l[i] l[j] hij (List.getElem?_eq_getElem hi) (List.getElem?_eq_getElem hj)
  omega
/-- each goroutine's stands once -/
def Nd (m : List Rd) : Prop := ∀ (i j : Nat) (x y : Rd), m[i]? = some x → m[j]? = some y → x.g = y.g → i = j
theorem Nd.of {m : List Rd} (h : m.Pairwise fun x y => x.g ≠ y.g) : Nd m := by
  intro i j x y hx hy e
  obtain ⟨hi, ex⟩ := List.getElem?_eq_some_iff.1 hx
  obtain ⟨hj, ey⟩ := List.getElem?_eq_some_iff.1 hy
  rw [List.pairwise_iff_getElem] at h
  rcases Nat.lt_trichotomy i j with q | q | q
  · exact absurd (by rw [ex, ey]; exact e) (h i j hi hj q)
  · exact q
  · exact absurd (by rw [ex, ey]; exact e.symm) (h j i hj hi q)
/-- the program's list and the reference's -/
structure Rel (l m : List Rd) : Prop where
  gd : Gd l
  pm : l.Perm m
theorem Rel.one : Rel [nb 0 0 (-1)] [nb 0 0 (-1)] := ⟨Gd.one, List.Perm.refl _⟩
theorem any_perm {l m : List Rd} (h : l.Perm m) (p : Rd → Bool) : l.any p = m.any p := by
  rw [Bool.eq_iff_iff, List.any_eq_true, List.any_eq_true]
  exact ⟨fun ⟨x, hx, e⟩ => ⟨x, h.mem_iff.1 hx, e⟩, fun ⟨x, hx, e⟩ => ⟨x, h.mem_iff.2 hx, e⟩⟩
theorem Rel.nd {l m : List Rd} (h : Rel l m) : Nd m := Nd.of ((h.pm.pairwise_iff (fun h => h.symm)).1 h.gd.srt.pw)
theorem Rel.hs {l m : List Rd} (h : Rel l m) (g : Int) : Rk.hs l g = Rk.hs m g := any_perm h.pm _
theorem Rel.ok {l m : List Rd} (h : Rel l m) : ∀ x ∈ m, Ok x := fun x hx => h.gd.ok x (h.pm.mem_iff.2 hx)
theorem Rel.tk {l m : List Rd} (h : Rel l m) (t a : Int) : tkn l t a = tkR m t a := by
  unfold tkn tkR
  rw [← any_perm h.pm, Bool.eq_iff_iff, List.any_eq_true, List.any_eq_true]
  constructor
  · rintro ⟨x, hx, e⟩
    refine ⟨x, hx, ?_⟩
    rw [← e]
    unfold st stR
    rw [lv_ok (h.gd.ok x hx)]
  · rintro ⟨x, hx, e⟩
    refine ⟨x, hx, ?_⟩
    rw [← e]
    unfold st stR
    rw [lv_ok (h.gd.ok x hx)]
theorem Rel.len {l m : List Rd} (h : Rel l m) : l.length = m.length := h.pm.length_eq
theorem Rel.bnE {l m : List Rd} (h : Rel l m) (g t a : Int) : Rk.bnE l g t a = rbE m g t a := by
  unfold Rk.bnE rbE
  rw [h.hs, h.tk]
theorem Rel.born {l m : List Rd} (h : Rel l m) (g t a : Int) : Rel (bnL l g t a) (rbL m g t a) := by
  refine ⟨h.gd.born g t a, ?_⟩
  unfold bnL rbL
  rw [h.hs, h.tk]
  split
  · exact h.pm
  · split
    · exact h.pm
    · have h1 : (insL l (ps l g) (nb g t a)).Perm (nb g t a :: l) := by
        unfold insL
        refine List.perm_middle.trans ?_
        rw [List.take_append_drop]
      exact h1.trans ((List.Perm.cons _ h.pm).trans (List.perm_append_singleton _ _).symm)
/-- the first with g -/
theorem Rel.fd {l m : List Rd} (h : Rel l m) {g : Int} (hg : Rk.hs m g = true) : ∃ (k : Nat) (x : Rd), rat m g = (k : Int) ∧ m[k]? = some x ∧ x.g = g ∧ k < m.length ∧ Rk.fd l g = some x ∧ l[ps l g]? = some x := by
  obtain ⟨k, x, h1, h2, h3, h4⟩ := rat_at hg
  obtain ⟨y, q1, q2, q3⟩ := h.gd.srt.some (by rw [h.hs]; exact hg)
  have hm : y ∈ m := h.pm.mem_iff.1 (List.mem_of_getElem? q1)
  obtain ⟨j, hj, e⟩ := List.getElem_of_mem hm
  have hy : m[j]? = some y := by rw [List.getElem?_eq_getElem hj, e]
  have : j = k := h.nd j k y x hy h2 (by omega)
  subst this
  rw [hy] at h2; cases h2
  exact ⟨j, x, h1, hy, h3, h4, q3, q1⟩
def up (g a c : Int) (z : Rd) : Rd := if z.g = g then gn1 z a c else z
theorem set_map {l : List Rd} {k : Nat} {x : Rd} (hx : l[k]? = some x) (hn : Nd l) (a c : Int) : l.set k (gn1 x a c) = l.map (up x.g a c) := by
  apply List.ext_getElem?
  intro i
  rw [List.getElem?_map]
  by_cases e : i = k
  · subst e
    rw [List.getElem?_set_self (List.getElem?_eq_some_iff.1 hx).1, hx]
    simp [up]
  · rw [List.getElem?_set_ne (Ne.symm e)]
    cases hz : l[i]? with
    | none => rfl
    | some z =>
      have : z.g ≠ x.g := fun q => e (hn i k z x hz hx q)
      simp [up, this]
theorem Rel.gnE {l m : List Rd} (h : Rel l m) (g a c : Int) : Rk.gnE l g a c = rgE m g a c := by
  unfold Rk.gnE rgE
  split
  · rfl
  · cases hh : Rk.hs m g with
    | false => rw [fd_none (by rw [h.hs]; exact hh)]; simp
    | true =>
      obtain ⟨k, x, h1, h2, h3, h4, h5, h6⟩ := h.fd hh
      rw [h5, h1]
      simp only [Bool.true_eq_false, if_false, Int.toNat_natCast, h2]
      rw [lv_ok (h.ok x (List.mem_of_getElem? h2)), Bool.not_not]
theorem Rel.gone {l m : List Rd} (h : Rel l m) (g a c : Int) : Rel (gnL l g a c) (rgL m g a c) := by
  refine ⟨h.gd.gone g a c, ?_⟩
  unfold gnL rgL
  split
  · exact h.pm
  · cases hh : Rk.hs m g with
    | false => rw [fd_none (by rw [h.hs]; exact hh)]; simpa using h.pm
    | true =>
      obtain ⟨k, x, h1, h2, h3, h4, h5, h6⟩ := h.fd hh
      rw [h5, h1]
      simp only [Bool.true_eq_false, if_false, Int.toNat_natCast, h2]
      rw [lv_ok (h.ok x (List.mem_of_getElem? h2)), Bool.not_not]
      split
      · exact h.pm
      · rw [set_map h6 (Nd.of h.gd.srt.pw), set_map h2 h.nd]
        exact h.pm.map _
/-- what a step does -/
def stE (s : S4) (l : List Rd) : List Rd := if s.q = 0 ∨ s.q = 1 then bnL l s.g s.n s.a else if s.q = 2 ∨ s.q = 3 then gnL l s.g s.a s.n else l
def stM (s : S4) (m : List Rd) : List Rd := if s.q = 0 ∨ s.q = 1 then rbL m s.g s.n s.a else if s.q = 2 ∨ s.q = 3 then rgL m s.g s.a s.n else m
theorem Rel.step {l m : List Rd} (h : Rel l m) (s : S4) : Rel (stE s l) (stM s m) := by
  unfold stE stM
  split
  · exact h.born _ _ _
  · split
    · exact h.gone _ _ _
    · exact h
theorem stE_len (s : S4) (l : List Rd) : (stE s l).length ≤ l.length + 1 := by
  unfold stE
  split
  · exact len_born _ _ _ _
  · split
    · rw [len_gone]; omega
    · omega

/-- both side by side: all of both is new since w -/
structure Dx (w wr : World) (B : Nat) (F : Nat → Prop) (G : Nat) (H : Nat → Prop) (l m : List Rd) : Prop where
  p : PT wr B F l
  r : RT wr G H m
  pf : ∀ x, F x → w.heap.size ≤ x
  rf : ∀ x, H x → w.heap.size ≤ x
  ap : ∀ x, F x → ¬ H x
  b : Below w.heap.size w wr
/-- what is neither's stays -/
def Rs (F H : Nat → Prop) (a b : World) : Prop := a.heap.size ≤ b.heap.size ∧ ∀ k, k < a.heap.size → ¬ F k → ¬ H k → b.heap[k]? = a.heap[k]?
section
variable {w a b : World} {B G : Nat} {F H : Nat → Prop} {l m l' m' : List Rd}
theorem Dx.below (h : Dx w a B F G H l m) (k : Below a.heap.size a b) : Dx w b B F G H l m := ⟨h.p.below k, h.r.below k, h.pf, h.rf, h.ap, btr h.b k⟩
theorem Rs.below (k : Below a.heap.size a b) : Rs F H a b := ⟨k.size, fun x hx _ _ => k.block x hx⟩
theorem Dx.tx (h : Dx w a B F G H l m) : Tx w a B l := ⟨F, h.p, h.pf, h.b⟩
theorem Dx.pp (h : Dx w a B F G H l m) (k : Po 53 32 a b B F l') : ∃ F', Dx w b B F' G H l' m ∧ Rs F H a b ∧ Nw F' F a := by
  obtain ⟨F', k1, k2, k3⟩ := k
  refine ⟨F', ⟨k1, h.r.kf k2 fun x hx hf => h.ap x hf hx, fun x hx => ?_, h.rf, fun x hx hh => ?_, k2.below h.b h.pf⟩, ⟨k2.size, fun x hx hf _ => k2.block x hx hf⟩, k3⟩
  · rcases k3 x hx with q | q
    · exact h.pf x q
    · exact Nat.le_trans h.b.size q
  · rcases k3 x hx with q | q
    · exact h.ap x q hh
    · have := h.r.bd x hh; omega
theorem Dx.rr (h : Dx w a B F G H l m) (k : Po 40 36 a b G H m') : ∃ H', Dx w b B F G H' l m' ∧ Rs F H a b ∧ Nw H' H a := by
  obtain ⟨H', k1, k2, k3⟩ := k
  refine ⟨H', ⟨h.p.kf k2 fun x hx hf => h.ap x hx hf, k1, h.pf, fun x hx => ?_, fun x hx hh => ?_, k2.below h.b h.rf⟩, ⟨k2.size, fun x hx _ hf => k2.block x hx hf⟩, k3⟩
  · rcases k3 x hx with q | q
    · exact h.rf x q
    · exact Nat.le_trans h.b.size q
  · rcases k3 x hh with q | q
    · exact h.ap x hx q
    · have := h.p.bd x hx; omega
end
/-- what does() leaves -/
def Do (w u w' : World) (B : Nat) (F : Nat → Prop) (G : Nat) (H : Nat → Prop) (l m : List Rd) : Prop := ∃ F' H', Dx w w' B F' G H' l m ∧ Rs F H u w' ∧ Nw F' F u ∧ Nw H' H u
theorem Do.two {w u v w' : World} {B G : Nat} {F F' H H' : Nat → Prop} {l m : List Rd} (s1 : Rs F H u v) (n1 : Nw F' F u) (h2 : Dx w w' B F' G H' l m) (s2 : Rs F' H v w') (n2 : Nw H' H v) : Do w u w' B F G H l m := by
  refine ⟨F', H', h2, ⟨Nat.le_trans s1.1 s2.1, fun k hk hf hh => ?_⟩, n1, fun k hk => ?_⟩
  · refine (s2.2 k (Nat.lt_of_lt_of_le hk s1.1) (fun e => ?_) hh).trans (s1.2 k hk hf hh)
    rcases n1 k e with q | q
    · exact hf q
    · omega
  · rcases n2 k hk with q | q
    · exact .inl q
    · exact .inr (Nat.le_trans s1.1 q)
theorem Do.from {w u v w' : World} {B G : Nat} {F H : Nat → Prop} {l m : List Rd} (b : Below u.heap.size u v) (h : Do w v w' B F G H l m) : Do w u w' B F G H l m := by
  obtain ⟨F', H', h1, h2, h3, h4⟩ := h
  refine ⟨F', H', h1, ⟨Nat.le_trans b.size h2.1, fun k hk hf hh => (h2.2 k (Nat.lt_of_lt_of_le hk b.size) hf hh).trans (b.block k hk)⟩, fun k hk => ?_, fun k hk => ?_⟩
  · rcases h3 k hk with q | q
    · exact .inl q
    · exact .inr (Nat.le_trans b.size q)
  · rcases h4 k hk with q | q
    · exact .inl q
    · exact .inr (Nat.le_trans b.size q)
theorem cellR {F H : Nat → Prop} {a b : World} {X i : Nat} {v : Value} (h : Rs F H a b) (hF : ¬ F X) (hH : ¬ H X) (hc : a.cell? ⟨X, i, none⟩ = some v) : b.cell? ⟨X, i, none⟩ = some v := by
  have := h.2 X (World.block_lt_of_cell? a _ hc) hF hH
  rw [← hc]
  simp only [World.cell?, this]
set_option maxRecDepth 100000 in
set_option maxHeartbeats 6400000 in
theorem does_any (w u : World) (B : Nat) (F : Nat → Prop) (G : Nat) (H : Nat → Prop) (l m : List Rd) (s : S4) (h : Dx w u B F G H l m) (hr : Rel l m) (hl : l.length ≤ 5000) :
    Calls Try.prog 10 #[.pointer (some ⟨B, 0, none⟩), .pointer (some ⟨G, 0, none⟩), sv s] u fun r w' => r = .returned (.bool true) ∧ Do w u w' B F G H (stE s l) (stM s m) := by
  have hm := hr.len
  have BN := hide fun v (hv : Dx w v B F G H l m) => born_any B F l s.g s.n s.a v hv.p hr.gd (by omega)
  have GN := hide fun v (hv : Dx w v B F G H l m) => gone_any B F l s.g s.a s.n v hv.p hr.gd (by omega)
  have RB := hide fun l' F' v (hv : Dx w v B F' G H l' m) => rborn_any G H m s.g s.n s.a v hv.r (by omega)
  have RG := hide fun l' F' v (hv : Dx w v B F' G H l' m) => rgone_any G H m s.g s.a s.n v hv.r (by omega)
  rw [← hr.bnE] at RB
  rw [← hr.gnE] at RG
  generalize bnE l s.g s.n s.a = e1 at BN RB
  generalize gnE l s.g s.a s.n = e2 at GN RG
  obtain ⟨q, g, n, a⟩ := s
  unfold sv stE stM
  simp only at *
  generalize bnL l g n a = l1 at BN ⊢
  generalize gnL l g a n = l2 at GN ⊢
  generalize rbL m g n a = m1 at RB ⊢
  generalize rgL m g a n = m2 at RG ⊢
  have b0 := below_alloc u (.cells #[.int .i64 q, .int .i64 g, .int .i64 n, .int .i64 a] 29)
  have H0 := hide (h.below b0)
  have B0 := hide b0
  have X0 := hide (heap_new u (.cells #[.int .i64 q, .int .i64 g, .int .i64 n, .int .i64 a] 29))
  have NF : Hid (¬ F u.heap.size) := fun e => by have := h.p.bd _ e; omega
  have NH : Hid (¬ H u.heap.size) := fun e => by have := h.r.bd _ e; omega
  clear h hr hm hl b0
  by_cases k1 : q = 0 ∨ q = 1
  · rw [if_pos k1, if_pos k1]
    rcases k1 with rfl | rfl
    all_goals
      go_enter Try.func10, Try.ntmps10
      go_wp2_with fail
      generalize u.alloc (.cells #[.int .i64 _, .int .i64 g, .int .i64 n, .int .i64 a] 29) = W at H0 B0 X0 ⊢
      have x1 : W.cell? ⟨u.heap.size, 1, none⟩ = some (.int .i64 g) := cell_of X0.out 1
      have x2 : W.cell? ⟨u.heap.size, 2, none⟩ = some (.int .i64 n) := cell_of X0.out 2
      have x3 : W.cell? ⟨u.heap.size, 3, none⟩ = some (.int .i64 a) := cell_of X0.out 3
      generalize hX : u.heap.size = X at *
      have HX := hide hX
      clear hX
      go_region_held3 (fun w' => w'.cell? ⟨X, 1, none⟩ = some (.int .i64 g) ∧ w'.cell? ⟨X, 2, none⟩ = some (.int .i64 n) ∧ w'.cell? ⟨X, 3, none⟩ = some (.int .i64 a))
        (first
          | (go_keep; done)
          | (go_split_ands; refine ⟨?_, ?_, ?_⟩ <;> (refine cellR s2 N2.out NH.out ?_; assumption))
          | (go_split_ands; refine ⟨?_, ?_, ?_⟩ <;> (refine cellR s1 NF.out NH.out ?_; assumption)))
        (first
          | (go_at_call 17; refine (BN.out _ (H0.out.below (bdrew1 _))).mono ?_; rintro r v1 ⟨rfl, p1⟩; obtain ⟨F1, d1, s1, n1⟩ := (H0.out.below (bdrew1 _)).pp p1; have N2 : Hid (¬ F1 X) := (fun e => by
              rcases n1 X e with q | q
              · exact NF.out q
              · have := World.block_lt_of_cell? W _ x1
                have e3 : W.drew.heap.size = W.heap.size := rfl
                rw [e3] at q
                exact absurd q (by simpa using this)))
          | (go_at_call 20; refine (RB.out _ _ _ d1).mono ?_; rintro r v2 ⟨rfl, p2⟩; obtain ⟨H1, d2, s2, n2⟩ := d1.rr p2))
      have B1 : Hid (Below u.heap.size u W) := by show Below u.heap.size u W; rw [HX.out]; exact B0.out
      have DD := hide (Do.from (btr B1.out (bdrew1 W)) (Do.two s1 n1 d2 s2 n2))
      clear s1 n1 d1 d2 s2 n2 p1 p2
      go_wp2_with fail
      go_ret
      exact ⟨ret_bool (by simp), DD.out⟩
  rw [if_neg k1, if_neg k1]
  by_cases k2 : q = 2 ∨ q = 3
  · rw [if_pos k2, if_pos k2]
    clear k1
    rcases k2 with rfl | rfl
    all_goals
      go_enter Try.func10, Try.ntmps10
      go_wp2_with fail
      generalize u.alloc (.cells #[.int .i64 _, .int .i64 g, .int .i64 n, .int .i64 a] 29) = W at H0 B0 X0 ⊢
      have x1 : W.cell? ⟨u.heap.size, 1, none⟩ = some (.int .i64 g) := cell_of X0.out 1
      have x2 : W.cell? ⟨u.heap.size, 2, none⟩ = some (.int .i64 n) := cell_of X0.out 2
      have x3 : W.cell? ⟨u.heap.size, 3, none⟩ = some (.int .i64 a) := cell_of X0.out 3
      generalize hX : u.heap.size = X at *
      have HX := hide hX
      clear hX
      go_region_held3 (fun w' => w'.cell? ⟨X, 1, none⟩ = some (.int .i64 g) ∧ w'.cell? ⟨X, 2, none⟩ = some (.int .i64 n) ∧ w'.cell? ⟨X, 3, none⟩ = some (.int .i64 a))
        (first
          | (go_keep; done)
          | (go_split_ands; refine ⟨?_, ?_, ?_⟩ <;> (refine cellR s2 N2.out NH.out ?_; assumption))
          | (go_split_ands; refine ⟨?_, ?_, ?_⟩ <;> (refine cellR s1 NF.out NH.out ?_; assumption)))
        (first
          | (go_at_call 18; refine (GN.out _ (H0.out.below (bdrew1 _))).mono ?_; rintro r v1 ⟨rfl, p1⟩; obtain ⟨F1, d1, s1, n1⟩ := (H0.out.below (bdrew1 _)).pp p1; have N2 : Hid (¬ F1 X) := (fun e => by
              rcases n1 X e with q | q
              · exact NF.out q
              · have := World.block_lt_of_cell? W _ x1
                have e3 : W.drew.heap.size = W.heap.size := rfl
                rw [e3] at q
                exact absurd q (by simpa using this)))
          | (go_at_call 21; refine (RG.out _ _ _ d1).mono ?_; rintro r v2 ⟨rfl, p2⟩; obtain ⟨H1, d2, s2, n2⟩ := d1.rr p2))
      have B1 : Hid (Below u.heap.size u W) := by show Below u.heap.size u W; rw [HX.out]; exact B0.out
      have DD := hide (Do.from (btr B1.out (bdrew1 W)) (Do.two s1 n1 d2 s2 n2))
      clear s1 n1 d1 d2 s2 n2 p1 p2
      go_wp2_with fail
      go_ret
      exact ⟨ret_bool (by simp), DD.out⟩
  · rw [if_neg k2, if_neg k2]
    have e0 : (q == 0) = false := beq_eq_false_iff_ne.2 fun e => k1 (.inl e)
    have e1 : (q == 1) = false := beq_eq_false_iff_ne.2 fun e => k1 (.inr e)
    have e2 : (q == 2) = false := beq_eq_false_iff_ne.2 fun e => k2 (.inl e)
    have e3 : (q == 3) = false := beq_eq_false_iff_ne.2 fun e => k2 (.inr e)
    clear k1 k2
    go_enter Try.func10, Try.ntmps10
    go_wp2_with fail
    go_ret
    exact ⟨rfl, F, H, H0.out, Rs.below B0.out, Nw.refl _ _, Nw.refl _ _⟩
end Rk
end Go.Proofs.Ytledfepeoajgoaa
