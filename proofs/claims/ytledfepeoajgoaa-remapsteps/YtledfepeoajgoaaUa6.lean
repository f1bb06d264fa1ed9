/- Package remap, over this seat's program: New, Born, Gone, Of, Owner, All. -/
import Derived.Test.YtledfepeoajgoaaUa5
namespace Go.Proofs.Ytledfepeoajgoaa
open Go.ChangeShapes Go.WideShapes Go.ChangeAt Go.RowKit
namespace Rk
open Ba

set_option maxHeartbeats 1600000 in
theorem new_any (w : World) :
    Calls Try.prog 7 #[] w fun r w' => ∃ B F, r = .returned (.pointer (some ⟨B, 0, none⟩)) ∧ PT w' B F [nb 0 0 (-1)] ∧ (∀ x, F x → w.heap.size ≤ x) ∧ Below w.heap.size w w' := by
  have NW := hide (newborn_any 0 0 (-1) w)
  unfold rv nb at NW
  simp only at NW
  go_enter Try.func7, Try.ntmps7
  go_wp2_with fail
  refine NW.out.mono ?_
  rintro r w1 ⟨rfl, b1⟩
  have B1 := hide b1
  clear b1
  go_wp2_with fail
  go_ret
  obtain ⟨o1, ho1⟩ : ∃ o1, o1 = Obj.cells #[.int .i64 0, .int .i64 0, .int .i64 (-1), .bool false, .int .i64 0, .int .i64 0] 32 := ⟨_, rfl⟩
  rw [← ho1]
  have s1 := World.size_alloc w1 o1
  have s2 := World.size_alloc (w1.alloc o1) (.cells #[.slice (some ⟨w1.heap.size, 0, none⟩) 1 1] 53)
  have bb := btr (below_alloc w1 o1) (below_alloc (w1.alloc o1) (.cells #[.slice (some ⟨w1.heap.size, 0, none⟩) 1 1] 53))
  refine ⟨(w1.alloc o1).heap.size, fun k => k = w1.heap.size ∨ k = (w1.alloc o1).heap.size, by rw [s1]; rfl, ⟨some ⟨w1.heap.size, 0, none⟩, 1, ?_, ?_, .inr rfl, ?_, ?_⟩, ?_, btr B1.out bb⟩
  · exact heap_new _ _
  · refine own_mk (m := [nb 0 0 (-1)]) (cap := 1) (cur := #[.int .i64 0, .int .i64 0, .int .i64 (-1), .bool false, .int .i64 0, .int .i64 0]) ?_ rfl (Nat.le_refl _) (by unfold maxLen; decide) ?_
    · rw [ho1]; exact heap_below (heap_new _ _) (below_alloc _ _)
    · intro k hk
      simp only [List.length_singleton, Nat.one_mul] at hk
      match k, hk with
      | 0, _ => rfl
      | 1, _ => rfl
      | 2, _ => rfl
      | 3, _ => rfl
      | 4, _ => rfl
      | 5, _ => rfl
  · intro g e
    simp [Value.ownBlock] at e
    exact .inl e.symm
  · rintro k (rfl | rfl)
    · omega
    · omega
  · have := B1.out.size
    rintro k (rfl | rfl) <;> omega
theorem bdN_no {g t a : Int} (h : bdN g t a = true) : g < 0 ∨ isT t = false ∨ a < -1 := by
  unfold bdN at h
  simp at h
  rcases h with (q | q) | q
  · exact .inl q
  · exact .inr (.inl q)
  · exact .inr (.inr q)
set_option maxHeartbeats 1600000 in
/-- whoever's table: ErrArg -/
theorem born_arg (v : Value) (hv : ∃ p, v = .pointer p) (g t a : Int) (w : World) (h : bdN g t a = true) :
    Calls Try.prog 17 #[v, .int .i64 g, .int .i64 t, .int .i64 a] w fun r w' => r = .returned (.int .i64 1) ∧ w' = w := by
  obtain ⟨p, rfl⟩ := hv
  have TI := hide fun u => ist_any t u
  have PI := hide fun u => isp_any a u
  have hd := bdN_no h
  clear h
  by_cases h1 : g < 0
  · clear hd
    go_enter Try.func17, Try.ntmps17
    go_wp2_with fail
    go_ret
    exact ⟨rfl, rfl⟩
  cases h2 : isT t
  · clear hd
    rw [h2] at TI
    go_enter Try.func17, Try.ntmps17
    go_wp2_with fail
    refine (TI.out _).mono ?_
    rintro r w1 ⟨rfl, e1⟩
    obtain rfl := e1.symm
    go_wp2_with fail
    go_ret
    exact ⟨rfl, rfl⟩
  · have h3 : a < -1 := by
      rcases hd with q | q | q
      · omega
      · rw [h2] at q; cases q
      · exact q
    rw [h2] at TI
    rw [decide_eq_true h3] at PI
    clear hd h3
    go_enter Try.func17, Try.ntmps17
    go_wp2_with fail
    refine (TI.out _).mono ?_
    rintro r w1 ⟨rfl, e1⟩
    obtain rfl := e1.symm
    go_wp2_with fail
    refine (PI.out _).mono ?_
    rintro r w1 ⟨rfl, e1⟩
    obtain rfl := e1.symm
    go_wp2_with fail
    go_ret
    exact ⟨rfl, rfl⟩
theorem bdN_yes {g t a : Int} (h : bdN g t a = false) : ¬ g < 0 ∧ isT t = true ∧ ¬ a < -1 := by
  unfold bdN at h
  simp at h
  exact ⟨by omega, h.1.2, by omega⟩
set_option maxHeartbeats 1600000 in
theorem born_nil (g t a : Int) (w : World) (h : bdN g t a = false) :
    Calls Try.prog 17 #[.pointer none, .int .i64 g, .int .i64 t, .int .i64 a] w fun r w' => r = .returned (.int .i64 7) ∧ w' = w := by
  obtain ⟨h1, h2, h3⟩ := bdN_yes h
  have TI := hide fun u => ist_any t u
  have PI := hide fun u => isp_any a u
  rw [h2] at TI
  rw [decide_eq_false h3] at PI
  clear h h2 h3
  go_enter Try.func17, Try.ntmps17
  go_wp2_with fail
  refine (TI.out _).mono ?_
  rintro r w1 ⟨rfl, e1⟩
  obtain rfl := e1.symm
  go_wp2_with fail
  refine (PI.out _).mono ?_
  rintro r w1 ⟨rfl, e1⟩
  obtain rfl := e1.symm
  go_wp2_with fail
  go_ret
  exact ⟨rfl, rfl⟩
/-- behind Insert the cells of the table's own block are as they were -/
theorem grown_cell {w w' : World} {v : Value} {B i : Nat} {u : Value} (h : w.grownBy w' v.ownBlock) (hB : v.ownBlock ≠ some B) (hc : w.cell? ⟨B, i, none⟩ = some u) : w'.cell? ⟨B, i, none⟩ = some u := by
  have := h.block B (World.block_lt_of_cell? w _ hc) (fun e => hB e.symm)
  rw [← hc]
  simp only [World.cell?, this]
theorem frozB {w w' : World} {B i : Nat} {u : Value} (hc : w.cell? ⟨B, i, none⟩ = some u) (hf : w.frozen? ⟨B, i, none⟩ = false) (b : Below w.heap.size w w') : w'.frozen? ⟨B, i, none⟩ = false := by
  have := b.block B (World.block_lt_of_cell? w _ hc)
  rw [← hf]
  simp only [World.frozen?, this]
theorem frozG {w w' : World} {v : Value} {B i : Nat} {u : Value} (h : w.grownBy w' v.ownBlock) (hB : v.ownBlock ≠ some B) (hc : w.cell? ⟨B, i, none⟩ = some u) (hf : w.frozen? ⟨B, i, none⟩ = false) : w'.frozen? ⟨B, i, none⟩ = false := by
  have := h.block B (World.block_lt_of_cell? w _ hc) (fun e => hB e.symm)
  rw [← hf]
  simp only [World.frozen?, this]
theorem keepB {w w' : World} {B i : Nat} {u : Value} (hc : w.cell? ⟨B, i, none⟩ = some u) (hf : w.frozen? ⟨B, i, none⟩ = false) (b : Below w.heap.size w w') : w'.cell? ⟨B, i, none⟩ = some u ∧ w'.frozen? ⟨B, i, none⟩ = false := ⟨cellB hc b, frozB hc hf b⟩
theorem keepG {w w' : World} {v : Value} {B i : Nat} {u : Value} (hc : w.cell? ⟨B, i, none⟩ = some u) (hf : w.frozen? ⟨B, i, none⟩ = false) (h : w.grownBy w' v.ownBlock) (hB : v.ownBlock ≠ some B) : w'.cell? ⟨B, i, none⟩ = some u ∧ w'.frozen? ⟨B, i, none⟩ = false := ⟨grown_cell h hB hc, frozG h hB hc hf⟩
set_option maxRecDepth 100000 in
set_option maxHeartbeats 3200000 in
theorem born_any (B : Nat) (F : Nat → Prop) (l : List Rd) (g t a : Int) (w : World) (h : PT w B F l) (hg : Gd l) (hl : l.length ≤ 10000) :
    Calls Try.prog 17 #[.pointer (some ⟨B, 0, none⟩), .int .i64 g, .int .i64 t, .int .i64 a] w fun r w' => r = .returned (.int .i64 (bnE l g t a)) ∧ Po 53 32 w w' B F (bnL l g t a) := by
  cases hd : bdN g t a with
  | true =>
    rw [show bnE l g t a = 1 by simp [bnE, hd], show bnL l g t a = l by simp [bnL, hd]]
    refine (born_arg _ ⟨_, rfl⟩ g t a w hd).mono ?_
    rintro r w1 ⟨rfl, rfl⟩
    exact ⟨rfl, Po.of h (Below.refl _ _)⟩
  | false =>
    obtain ⟨h1, h2, h3⟩ := bdN_yes hd
    have TI := hide fun u => ist_any t u
    have PI := hide fun u => isp_any a u
    rw [h2] at TI
    rw [decide_eq_false h3] at PI
    clear h2 h3
    obtain ⟨oa, c, h⟩ := h
    have H := hide h
    have FI := hide fun u (hu : Tb 53 32 u B F oa c l) => find_any B F oa c l g u hu hg.srt (by omega)
    have TK := hide fun u (hu : Tb 53 32 u B F oa c l) => taken_any B F oa c l t a u hu (by omega)
    have hps := ps_le l g
    have LEN := hide hl
    clear hl
    cases hh : hs l g with
    | true =>
      rw [show bnE l g t a = 7 by simp [bnE, hd, hh], show bnL l g t a = l by simp [bnL, hd, hh]]
      rw [hh] at FI
      generalize ps l g = P at FI hps
      clear h hh hg hd
      go_enter Try.func17, Try.ntmps17
      go_wp2_with fail
      refine (TI.out _).mono ?_
      rintro r w1 ⟨rfl, e1⟩
      obtain rfl := e1.symm
      go_wp2_with fail
      refine (PI.out _).mono ?_
      rintro r w1 ⟨rfl, e1⟩
      obtain rfl := e1.symm
      go_wp2_with fail
      refine (FI.out _ H.out).mono ?_
      rintro r w1 ⟨rfl, b1⟩
      have B1 := hide b1
      clear b1
      go_wp2_with fail
      go_ret
      exact ⟨rfl, Po.of ⟨_, _, H.out⟩ B1.out⟩
    | false =>
      rw [hh] at FI
      cases ht : tkn l t a with
      | true =>
        rw [show bnE l g t a = 7 by simp [bnE, hd, hh, ht], show bnL l g t a = l by simp [bnL, hd, hh, ht]]
        rw [ht] at TK
        generalize ps l g = P at FI hps
        clear h hh hg ht hd
        go_enter Try.func17, Try.ntmps17
        go_wp2_with fail
        refine (TI.out _).mono ?_
        rintro r w1 ⟨rfl, e1⟩
        obtain rfl := e1.symm
        go_wp2_with fail
        refine (PI.out _).mono ?_
        rintro r w1 ⟨rfl, e1⟩
        obtain rfl := e1.symm
        go_wp2_with fail
        refine (FI.out _ H.out).mono ?_
        rintro r w1 ⟨rfl, b1⟩
        have B1 := hide b1
        clear b1
        go_wp2_with fail
        refine (TK.out _ (H.out.below B1.out)).mono ?_
        rintro r w2 ⟨rfl, b2⟩
        have B2 := hide (btr B1.out b2)
        clear b2
        go_wp2_with fail
        go_ret
        exact ⟨rfl, Po.of ⟨_, _, H.out⟩ B2.out⟩
      | false =>
        rw [show bnE l g t a = 0 by simp [bnE, hd, hh, ht], show bnL l g t a = insL l (ps l g) (nb g t a) by simp [bnL, hd, hh, ht]]
        rw [ht] at TK
        have NW := hide fun u => newborn_any g t a u
        have IN := hide fun (u : World) (vb : Nat) (ho : u.ownsRow 0 32 6 (.slice oa l.length c) l.length (rc l)) (hv : u.heap[vb]? = some (.cells (cl (nb g t a)).toArray 32 (0, 0))) (hne : (Value.slice oa l.length c).ownBlock ≠ some vb) => insert_any (.slice oa l.length c) l (ps l g) (nb g t a) vb u ho hps (by have := LEN.out; omega) hv hne
        unfold InsR at IN
        unfold rv nb at NW
        unfold cl nb at IN
        simp only at NW IN
        have HT : Hid (insL l (ps l g) ⟨g, t, a, false, 0, 0⟩ = insL l (ps l g) (nb g t a)) := rfl
        generalize insL l (ps l g) ⟨g, t, a, false, 0, 0⟩ = l' at IN HT
        generalize ps l g = P at FI hps IN HT ⊢
        clear h hh hg ht hd
        go_enter Try.func17, Try.ntmps17
        go_wp2_with fail
        refine (TI.out _).mono ?_
        rintro r w1 ⟨rfl, e1⟩
        obtain rfl := e1.symm
        go_wp2_with fail
        refine (PI.out _).mono ?_
        rintro r w1 ⟨rfl, e1⟩
        obtain rfl := e1.symm
        go_wp2_with fail
        refine (FI.out _ H.out).mono ?_
        rintro r w1 ⟨rfl, b1⟩
        have B1 := hide b1
        clear b1
        go_wp2_with fail
        refine (TK.out _ (H.out.below B1.out)).mono ?_
        rintro r w2 ⟨rfl, b2⟩
        have B2 := hide (btr B1.out b2)
        clear b2 B1
        have H2 := hide (H.out.below B2.out)
        have y0 : w2.cell? ⟨B, 0, none⟩ = some (.slice oa l.length c) := cell_of H2.out.hp 0
        have z0 : w2.frozen? ⟨B, 0, none⟩ = false := frozen_of H2.out.hp 0
        have HB : Hid ((Value.slice oa l.length c).ownBlock ≠ some B) := fun e => by
          obtain ⟨_, cur, q⟩ := own_blk H2.out.ow B e
          rw [H2.out.hp] at q
          cases q
        clear FI TK TI PI
        go_wp2_with fail
        have y1 : w2.drew.cell? ⟨B, 0, none⟩ = some (.slice oa l.length c) := y0
        have z1 : w2.drew.frozen? ⟨B, 0, none⟩ = false := z0
        go_region_with (first
            | (go_at_call 19; refine (NW.out _).mono ?_; rintro r v1 ⟨rfl, c1⟩; obtain ⟨y2, z2⟩ := keepB y1 z1 c1; obtain ⟨y3, z3⟩ := keepB y2 z2 (below_alloc v1 (.cells #[.int .i64 g, .int .i64 t, .int .i64 a, .bool false, .int .i64 0, .int .i64 0] 32)))
            | (go_at_call 28; refine (IN.out _ _ (own_keep H2.out.ow fun k hk => ((btr (btr (bdrew1 w2) c1) (below_alloc v1 _)).block k (H2.out.bd k (H2.out.fr k hk)))) (heap_new _ _) (fun hk => by have := H2.out.bd _ (H2.out.fr _ hk); have := c1.size; have : w2.heap.size = w2.drew.heap.size := rfl; omega)).mono ?_; rintro r v2 ⟨v', rfl, o2, bk, g2⟩; obtain ⟨oa2, c2, rfl⟩ := own_sl o2; obtain ⟨y4, z4⟩ := keepG y3 z3 g2 HB.out))
        all_goals
          have K2 : Hid (KF F w v2) := by
            have b3 : Below w.heap.size w (v1.alloc (.cells #[.int .i64 g, .int .i64 t, .int .i64 a, .bool false, .int .i64 0, .int .i64 0] 32)) := btr (btr (btr B2.out (bdrew1 w2)) c1) (below_alloc _ _)
            refine ⟨g2.os.trans b3.os, g2.tape.trans b3.tape, g2.output.trans b3.output, Nat.le_trans b3.size g2.size, fun k hk hF => ?_⟩
            refine (g2.block k (Nat.lt_of_lt_of_le hk b3.size) (fun e => hF (H.out.fr k e.symm))).trans (b3.block k hk)
          have hp2 : v2.heap[B]? = some (.cells #[.slice oa l.length c] 53 (0, 0)) := by
            have b3 : Below w.heap.size w (v1.alloc (.cells #[.int .i64 g, .int .i64 t, .int .i64 a, .bool false, .int .i64 0, .int .i64 0] 32)) := btr (btr (btr B2.out (bdrew1 w2)) c1) (below_alloc _ _)
            exact (g2.block B (Nat.lt_of_lt_of_le H.out.lt b3.size) (fun e => HB.out e.symm)).trans (heap_below H.out.hp b3)
          have NW2 : Hid (∀ k, (Value.slice oa2 l'.length c2).ownBlock = some k → F k ∨ w.heap.size ≤ k) := by
            intro k hk
            rcases bk with q | ⟨N, q, hN⟩
            · rw [q] at hk; exact .inl (H.out.fr k hk)
            · rw [q] at hk; cases hk
              have := (btr (btr (btr B2.out (bdrew1 w2)) c1) (below_alloc v1 (.cells #[.int .i64 g, .int .i64 t, .int .i64 a, .bool false, .int .i64 0, .int .i64 0] 32))).size
              exact .inr (by omega)
          have PUT := hide (Tb.put (F := F) hp2 o2 (by decide) H.out.fb (fun k hk => Nat.lt_of_lt_of_le (H.out.bd k hk) K2.out.size))
          clear hp2 o2 g2 bk c1 IN NW y1 y2 y3 z1 z2 z3
          go_wp2_with fail
          go_ret
          refine ⟨rfl, _, ⟨_, _, by rw [← HT.out]; exact PUT.out⟩, K2.out.set H.out.fb _ _, ?_⟩
          rintro k (q | q)
          · exact .inl q
          · exact NW2.out k q
theorem gnN_yes {a c : Int} (h : gnN a c = false) : ¬ a < -1 ∧ ¬ c < 0 ∧ ¬ 1048576 < c := by
  unfold gnN at h
  simp at h
  omega
set_option maxHeartbeats 1600000 in
theorem gone_arg (v : Value) (hv : ∃ p, v = .pointer p) (g a c : Int) (w : World) (h : gnN a c = true) :
    Calls Try.prog 18 #[v, .int .i64 g, .int .i64 a, .int .i64 c] w fun r w' => r = .returned (.int .i64 1) ∧ w' = w := by
  obtain ⟨p, rfl⟩ := hv
  have PI := hide fun u => isp_any a u
  have hd : a < -1 ∨ c < 0 ∨ 1048576 < c := by
    unfold gnN at h
    simp at h
    omega
  clear h
  by_cases h1 : a < -1
  · clear hd
    rw [decide_eq_true h1] at PI
    clear h1
    go_enter Try.func18, Try.ntmps18
    go_wp2_with fail
    refine (PI.out _).mono ?_
    rintro r w1 ⟨rfl, e1⟩
    obtain rfl := e1.symm
    go_wp2_with fail
    go_ret
    exact ⟨rfl, rfl⟩
  rw [decide_eq_false h1] at PI
  by_cases h2 : c < 0
  · clear hd
    go_enter Try.func18, Try.ntmps18
    go_wp2_with fail
    refine (PI.out _).mono ?_
    rintro r w1 ⟨rfl, e1⟩
    obtain rfl := e1.symm
    go_wp2_with fail
    go_ret
    exact ⟨rfl, rfl⟩
  · have h3 : 1048576 < c := by omega
    clear hd
    go_enter Try.func18, Try.ntmps18
    go_wp2_with fail
    refine (PI.out _).mono ?_
    rintro r w1 ⟨rfl, e1⟩
    obtain rfl := e1.symm
    go_wp2_with fail
    go_ret
    exact ⟨rfl, rfl⟩
set_option maxHeartbeats 1600000 in
theorem gone_nil (g a c : Int) (w : World) (h : gnN a c = false) :
    Calls Try.prog 18 #[.pointer none, .int .i64 g, .int .i64 a, .int .i64 c] w fun r w' => r = .returned (.int .i64 7) ∧ w' = w := by
  obtain ⟨h1, h2, h3⟩ := gnN_yes h
  have PI := hide fun u => isp_any a u
  rw [decide_eq_false h1] at PI
  clear h h1
  go_enter Try.func18, Try.ntmps18
  go_wp2_with fail
  refine (PI.out _).mono ?_
  rintro r w1 ⟨rfl, e1⟩
  obtain rfl := e1.symm
  go_wp2_with fail
  go_ret
  exact ⟨rfl, rfl⟩
set_option maxRecDepth 100000 in
set_option maxHeartbeats 3200000 in
theorem gone_any (B : Nat) (F : Nat → Prop) (l : List Rd) (g a c : Int) (w : World) (h : PT w B F l) (hg : Gd l) (hl : l.length ≤ 10000) :
    Calls Try.prog 18 #[.pointer (some ⟨B, 0, none⟩), .int .i64 g, .int .i64 a, .int .i64 c] w fun r w' => r = .returned (.int .i64 (gnE l g a c)) ∧ Po 53 32 w w' B F (gnL l g a c) := by
  cases hd : gnN a c with
  | true =>
    rw [show gnE l g a c = 1 by simp [gnE, hd], show gnL l g a c = l by simp [gnL, hd]]
    refine (gone_arg _ ⟨_, rfl⟩ g a c w hd).mono ?_
    rintro r w1 ⟨rfl, rfl⟩
    exact ⟨rfl, Po.of h (Below.refl _ _)⟩
  | false =>
    obtain ⟨h1, h2, h3⟩ := gnN_yes hd
    have PI := hide fun u => isp_any a u
    rw [decide_eq_false h1] at PI
    clear h1
    obtain ⟨oa, cp, h⟩ := h
    have H := hide h
    have FI := hide fun u (hu : Tb 53 32 u B F oa cp l) => find_any B F oa cp l g u hu hg.srt (by omega)
    have LEN := hide hl
    clear hl
    cases hh : hs l g with
    | false =>
      rw [show gnE l g a c = 6 by simp [gnE, hd, fd_none hh], show gnL l g a c = l by simp [gnL, hd, fd_none hh]]
      rw [hh] at FI
      generalize ps l g = P at FI
      clear h hh hg hd
      go_enter Try.func18, Try.ntmps18
      go_wp2_with fail
      refine (PI.out _).mono ?_
      rintro r w1 ⟨rfl, e1⟩
      obtain rfl := e1.symm
      go_wp2_with fail
      refine (FI.out _ H.out).mono ?_
      rintro r w1 ⟨rfl, b1⟩
      have B1 := hide b1
      clear b1
      go_wp2_with fail
      go_ret
      exact ⟨rfl, Po.of ⟨_, _, H.out⟩ B1.out⟩
    | true =>
      obtain ⟨x, hx, hxg, hf⟩ := hg.srt.some hh
      rw [hh] at FI
      have LI := hide fun u => lives_any x u
      unfold rv at LI
      have EE : Hid (gnE l g a c = if !lv x || decide (a < x.f) then 7 else 0) := by
        show gnE l g a c = _
        simp only [gnE, hd, hf]; rfl
      have EL : Hid (gnL l g a c = if !lv x || decide (a < x.f) then l else l.set (ps l g) (gn1 x a c)) := by
        show gnL l g a c = _
        simp only [gnL, hd, hf]; rfl
      have hpl := (List.getElem?_eq_some_iff.1 hx).1
      have HX := hide hx
      generalize ps l g = P at FI HX EL hpl
      have hpl' : (P : Int) < (l.length : Int) := by omega
      have hl2 : l.length ≤ 9223372036854775807 := by have := LEN.out; omega
      obtain ⟨m, rfl, -⟩ := h.at.1 P x HX.out
      rw [EE.out, EL.out]
      clear h hh hg hd hx hxg hf EE EL
      cases hlv : lv x with
      | false =>
        rw [hlv] at LI
        rw [show (if (!false || decide (a < x.f)) = true then (7 : Int) else 0) = 7 by simp, show (if (!false || decide (a < x.f)) = true then l else l.set P (gn1 x a c)) = l by simp]
        clear hlv
        go_enter Try.func18, Try.ntmps18
        go_wp2_with fail
        refine (PI.out _).mono ?_
        rintro r w1 ⟨rfl, e1⟩
        obtain rfl := e1.symm
        go_wp2_with fail
        refine (FI.out _ H.out).mono ?_
        rintro r w1 ⟨rfl, b1⟩
        have B1 := hide b1
        clear b1
        have H1 := hide (H.out.below B1.out)
        have y0 : w1.cell? ⟨B, 0, none⟩ = some (.slice (some ⟨m, 0, none⟩) l.length cp) := cell_of H1.out.hp 0
        obtain ⟨m', e', q0, q1, q2, q3, q4, q5⟩ := H1.out.at.1 P x HX.out
        cases e'
        go_wp2_with fail
        refine (LI.out _).mono ?_
        rintro r w2 ⟨rfl, b2⟩
        have B2 := hide (btr B1.out b2)
        clear b2
        go_wp2_with fail
        go_ret
        exact ⟨rfl, Po.of ⟨_, _, H.out⟩ B2.out⟩
      | true =>
        rw [hlv] at LI
        cases hax : decide (a < x.f) with
        | true =>
          rw [show (if (!true || true) = true then (7 : Int) else 0) = 7 by simp, show (if (!true || true) = true then l else l.set P (gn1 x a c)) = l by simp]
          clear hlv
          go_enter Try.func18, Try.ntmps18
          go_wp2_with fail
          refine (PI.out _).mono ?_
          rintro r w1 ⟨rfl, e1⟩
          obtain rfl := e1.symm
          go_wp2_with fail
          refine (FI.out _ H.out).mono ?_
          rintro r w1 ⟨rfl, b1⟩
          have B1 := hide b1
          clear b1
          have H1 := hide (H.out.below B1.out)
          have y0 : w1.cell? ⟨B, 0, none⟩ = some (.slice (some ⟨m, 0, none⟩) l.length cp) := cell_of H1.out.hp 0
          obtain ⟨m', e', q0, q1, q2, q3, q4, q5⟩ := H1.out.at.1 P x HX.out
          cases e'
          go_wp2_with fail
          refine (LI.out _).mono ?_
          rintro r w2 ⟨rfl, b2⟩
          have B2 := hide (btr B1.out b2)
          have r2 := cellB q2 b2
          clear b2
          go_wp2_with fail
          go_ret
          exact ⟨rfl, Po.of ⟨_, _, H.out⟩ B2.out⟩
        | false =>
          rw [show (if (!true || false) = true then (7 : Int) else 0) = 0 by simp, show (if (!true || false) = true then l else l.set P (gn1 x a c)) = l.set P (gn1 x a c) by simp]
          clear hlv
          go_enter Try.func18, Try.ntmps18
          go_wp2_with fail
          refine (PI.out _).mono ?_
          rintro r w1 ⟨rfl, e1⟩
          obtain rfl := e1.symm
          go_wp2_with fail
          refine (FI.out _ H.out).mono ?_
          rintro r w1 ⟨rfl, b1⟩
          have B1 := hide b1
          clear b1
          have H1 := hide (H.out.below B1.out)
          have y0 : w1.cell? ⟨B, 0, none⟩ = some (.slice (some ⟨m, 0, none⟩) l.length cp) := cell_of H1.out.hp 0
          obtain ⟨m', e', q0, q1, q2, q3, q4, q5⟩ := H1.out.at.1 P x HX.out
          cases e'
          go_wp2_with fail
          refine (LI.out _).mono ?_
          rintro r w2 ⟨rfl, b2⟩
          have B2 := hide (btr B1.out b2)
          have H2 := hide (H1.out.below b2)
          have r2 := cellB q2 b2
          have r3 := cellB q3 b2
          have r4 := cellB q4 b2
          have r5 := cellB q5 b2
          obtain ⟨_, cur, hm⟩ := own_blk H2.out.ow m rfl
          have z3 := frozen_of hm (P * 6 + 3)
          have z4 := frozen_of hm (P * 6 + 4)
          have z5 := frozen_of hm (P * 6 + 5)
          clear b2 hm
          have FM := hide (H.out.fr m rfl)
          have GO := hide (H2.out.gone (by decide) HX.out true a c)
          go_wp2_with fail
          go_ret
          exact ⟨rfl, F, ⟨_, _, GO.out⟩, ((((KF.of B2.out).set FM.out _ _).set FM.out _ _).set FM.out _ _), Nw.refl _ _⟩
end Rk
end Go.Proofs.Ytledfepeoajgoaa
