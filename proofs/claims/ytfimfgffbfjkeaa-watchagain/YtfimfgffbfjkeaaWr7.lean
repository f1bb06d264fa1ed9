/- Layer 16's reference, over this seat's program: Spawn. -/
import Derived.Test.YtfimfgffbfjkeaaWr6
import Derived.Deep.AppendSrc
import Derived.Lib.Slices
namespace Go.Proofs.Ytfimfgffbfjkeaa
open Go.ChangeShapes Go.WideShapes Go.ChangeAt Go.RowKit
namespace Wq
open Ck
open Ba (KF Bd Nw)

section
variable {ops : Array Oper} {o : Oper} {a : Act} {w : World} {K : Act → World → Prop} {Q : Exit → Act → World → Prop} {E : Prop}
theorem step_load (hgd : o.guard = none) (ty : TypeId) (x : Operand) (ho : o.op = .load ty x) (ad : Addr) (v : Value) (hx : a.eval x = .pointer (some ad)) (hl : (loadVar ty ad).run Try.prog w = .ok v w) (h : K (a.put o.dst v) w) :
    if Region.wanted o (yielded ops a.tmps) = true then Oper.wp Try.prog o a w K Q else E := by
  have hw : Region.wanted o (yielded ops a.tmps) = true := by simp [Region.wanted, hgd]
  rw [if_pos hw]
  unfold Oper.wp execOp
  simp only [ho, hx, Instr.loadAt, Instr.sureAddr, Sem.run_bind, Sem.run_pure, Result.andThen_ok, hl]
  exact h
theorem step_app (hgd : o.guard = none) (s x : Operand) (t tn : TypeId)
    (ho : o.op = .call { callee := .builtin .append, args := #[s, x], argTypes := #[t, tn] }) (vs vx : Value) (hs : a.eval s = vs) (hx : a.eval x = vx)
    (v' : Value) (w' : World) (hr : (Builtin.append_ #[t, tn] o.type #[vs, vx]).run Try.prog w = .ok v' w') (h : K (a.put o.dst v') w') :
    if Region.wanted o (yielded ops a.tmps) = true then Oper.wp Try.prog o a w K Q else E := by
  have hw : Region.wanted o (yielded ops a.tmps) = true := by simp [Region.wanted, hgd]
  rw [if_pos hw]
  exact Lib.wp_append_run w s x t tn ho vs vx hs hx v' w' hr h
end
theorem ldv_cell {w : World} {b i : Nat} {oa : Option Addr} {n c : Nat} (h : w.cell? ⟨b, i, none⟩ = some (.slice oa n c)) : (loadVar 37 ⟨b, i, none⟩).run Try.prog w = .ok (.slice oa n c) w := by
  simp [go_sem, h]
theorem stv_cell {w : World} {b i : Nat} {old : Value} (oa : Option Addr) (n c : Nat) (h : w.cell? ⟨b, i, none⟩ = some old) (hf : w.frozen? ⟨b, i, none⟩ = false) : (storeVar 37 ⟨b, i, none⟩ (.slice oa n c)).run Try.prog w = .ok () (w.setCell ⟨b, i, none⟩ (.slice oa n c)) := by
  simp [go_sem, h, hf]
section
variable {w w' : World} {G : Nat} {st : Qst} {v : Value}
set_option maxRecDepth 100000 in
set_option maxHeartbeats 800000 in
theorem sp_none (s : QX w G st v) (p q : Int) (hl : st.L.length ≤ 100000) (h : at_ st.L p = -1) :
    Calls Try.prog 27 #[.pointer (some ⟨G, 0, none⟩), .int .i64 p, .int .i64 q] w fun r w' => r = .returned (.tuple #[.int .i64 0, .int .i64 6]) ∧ Below w.heap.size w w' := by
  have A := hide (at_any s p hl)
  rw [h] at A
  clear s h
  go_enter Try.func27, Try.ntmps27
  go_wp2_with fail
  refine A.out.mono ?_
  rintro r w1 ⟨rfl, b1⟩
  have B1 := hide b1
  clear b1
  go_wp2_with fail
  go_ret2
  exact ⟨rfl, B1.out⟩
set_option maxRecDepth 100000 in
set_option maxHeartbeats 800000 in
theorem sp_arg (s : QX w G st v) (p q : Int) (hl : st.L.length ≤ 100000) (k : Nat) (h : at_ st.L p = (k : Int)) (hq : q < 0 ∨ 0 ≤ at_ st.L q) :
    Calls Try.prog 27 #[.pointer (some ⟨G, 0, none⟩), .int .i64 p, .int .i64 q] w fun r w' => r = .returned (.tuple #[.int .i64 0, .int .i64 1]) ∧ Below w.heap.size w w' := by
  have A := hide (at_any s p hl)
  rw [h] at A
  have A2 := hide (fun u (b : Below w.heap.size w u) => at_any (s.below b) q hl)
  by_cases hq0 : q < 0
  · have d : decide (q < 0) = true := decide_eq_true hq0
    clear s h hq A2
    go_enter Try.func27, Try.ntmps27
    go_wp2_with fail
    refine A.out.mono ?_
    rintro r w1 ⟨rfl, b1⟩
    have B1 := hide b1
    clear b1
    go_wp2_with fail
    go_ret2
    exact ⟨rfl, B1.out⟩
  · have d : decide (q < 0) = false := decide_eq_false hq0
    have d2 : decide (0 ≤ at_ st.L q) = true := decide_eq_true (hq.resolve_left hq0)
    obtain ⟨z, hz⟩ : ∃ z, at_ st.L q = z := ⟨_, rfl⟩
    rw [hz] at A2 d2
    clear s h hq hz hq0
    go_enter Try.func27, Try.ntmps27
    go_wp2_with fail
    refine A.out.mono ?_
    rintro r w1 ⟨rfl, b1⟩
    have B1 := hide b1
    clear b1
    go_wp2_with fail
    refine (A2.out _ B1.out).mono ?_
    rintro r w2 ⟨rfl, b2⟩
    have B2 := hide (btr B1.out b2)
    clear b2
    go_wp2_with fail
    go_ret2
    exact ⟨rfl, B2.out⟩
set_option maxRecDepth 100000 in
set_option maxHeartbeats 800000 in
theorem sp_full (s : QX w G st v) (p q : Int) (hl : st.L.length ≤ 100000) (hT : st.T ≤ 256) (k : Nat) (h : at_ st.L p = (k : Int)) (hq0 : 0 ≤ q) (hq : at_ st.L q = -1) (hf : frI st.L st.T = -1) :
    Calls Try.prog 27 #[.pointer (some ⟨G, 0, none⟩), .int .i64 p, .int .i64 q] w fun r w' => r = .returned (.tuple #[.int .i64 0, .int .i64 5]) ∧ Below w.heap.size w w' := by
  have A := hide (at_any s p hl)
  rw [h] at A
  have A2 := hide (fun u (b : Below w.heap.size w u) => at_any (s.below b) q hl)
  rw [hq] at A2
  have A3 := hide (fun u (b : Below w.heap.size w u) => free_any (s.below b) hl hT)
  rw [hf] at A3
  have d : decide (q < 0) = false := decide_eq_false (by omega)
  clear s h hq hf hq0
  go_enter Try.func27, Try.ntmps27
  go_wp2_with fail
  refine A.out.mono ?_
  rintro r w1 ⟨rfl, b1⟩
  have B1 := hide b1
  clear b1
  go_wp2_with fail
  refine (A2.out _ B1.out).mono ?_
  rintro r w2 ⟨rfl, b2⟩
  have B2 := hide (btr B1.out b2)
  clear b2
  go_wp2_with fail
  refine (A3.out _ B2.out).mono ?_
  rintro r w3 ⟨rfl, b3⟩
  have B3 := hide (btr B2.out b3)
  clear b3
  go_wp2_with fail
  go_ret2
  exact ⟨rfl, B3.out⟩
set_option maxRecDepth 100000 in
set_option maxHeartbeats 3200000 in
theorem sp_ok (s : QX w G st v) (p q : Int) (hl : st.L.length ≤ 100000) (hT : st.T ≤ 256) (k : Nat) (o : On) (t : Nat) (h : at_ st.L p = (k : Int)) (hk : st.L[k]? = some o) (hq0 : 0 ≤ q) (hq : at_ st.L q = -1) (hf : frI st.L st.T = (t : Int)) (ht : t < 256) :
    Calls Try.prog 27 #[.pointer (some ⟨G, 0, none⟩), .int .i64 p, .int .i64 q] w fun r w' => r = .returned (.tuple #[.int .i64 (t : Int), .int .i64 0]) ∧ ∃ v', QX w' G { st with L := st.L ++ [⟨q, t, upF o.F t 1⟩] } v' ∧ (v'.ownBlock = v.ownBlock ∨ ∃ N, v'.ownBlock = some N ∧ w.heap.size ≤ N) ∧ KF (QB G v) w w' := by
  obtain ⟨oa, c, rfl⟩ := own_sl s.ow
  have hkl : k < st.L.length := (List.getElem?_eq_some_iff.1 hk).1
  obtain ⟨b, rfl, ro⟩ := row_ro s.ow hk
  have A := hide (at_any s p hl)
  rw [h] at A
  have A2 := hide (fun u (b : Below w.heap.size w u) => at_any (s.below b) q hl)
  rw [hq] at A2
  have A3 := hide (fun u (b : Below w.heap.size w u) => free_any (s.below b) hl hT)
  rw [hf] at A3
  have d : decide (q < 0) = false := decide_eq_false (by omega)
  have HS := hide s
  have RO := hide ro
  have hbb : b < w.heap.size := World.block_lt_of_cell? w _ ro.g
  obtain ⟨n, hn⟩ : ∃ n, st.L.length = n := ⟨_, rfl⟩
  have HN := hide hn
  have CE := hide (fun u (b : Below w.heap.size w u) => (s.below b).cells)
  rw [hn] at CE hkl hl ⊢
  have hkl' : (k : Int) < (n : Int) := by omega
  have hlt := s.lt
  have zr := zero_ref
  have zs := ra_size nf
  have vs_ := ra_size o.F
  have HT := hide ht
  clear s h hk ro hn hq hf hq0 ht
  go_enter Try.func27, Try.ntmps27
  go_wp2_with fail
  refine A.out.mono ?_
  rintro r w1 ⟨rfl, b1⟩
  have B1 := hide b1
  clear b1
  go_wp2_with fail
  refine (A2.out _ B1.out).mono ?_
  rintro r w2 ⟨rfl, b2⟩
  have B2 := hide (btr B1.out b2)
  clear b2
  go_wp2_with fail
  refine (A3.out _ B2.out).mono ?_
  rintro r w3 ⟨rfl, b3⟩
  have B3 := hide (btr B2.out b3)
  obtain ⟨-, -, y2⟩ := CE.out w3 B3.out
  have hG3 : G < w3.heap.size := Nat.lt_of_lt_of_le hlt B3.out.size
  have hw3 := B3.out.size
  have LD := hide (ldv_ref (RO.out.below B3.out).F)
  have st1 := st_ref o.F (heap_new w3 (.cells (ra nf) 59)) (ra_size nf)
  rw [setRow_new] at st1
  have SE := hide (rset_ok w3.heap.size 0 o.F t 1 _ (RA.of (heap_new w3 (.cells (ra o.F) 59))) HT.out (by decide))
  have B4 := hide (btr B3.out (below_alloc w3 (.cells (ra o.F) 59)))
  have Y4 := hide (heap_new w3 (.cells (ra o.F) 59))
  clear b3 A A2 A3
  obtain ⟨V, hV⟩ : ∃ V, ra o.F = V := ⟨_, rfl⟩
  obtain ⟨Z, hZ⟩ : ∃ Z, ra nf = Z := ⟨_, rfl⟩
  rw [hV] at LD st1 SE B4 Y4 vs_
  rw [hZ] at st1 zr zs
  have HV := hide hV
  clear hV hZ
  go_wp2_with (refine wpL_load rfl 59 _ rfl _ _ rfl LD.out ?_)
  refine SE.out.mono ?_
  rintro r w5 ⟨rfl, e5⟩
  clear st1 zr zs LD SE y2
  have X5 : Hid (w5.heap[w3.heap.size]? = some (.cells (ra (upF o.F t 1)) 59 (0, 0))) := by
    show _ = _
    rw [e5, Ba.heap_setCell_same Y4.out, ← HV.out, ra_set o.F (upF o.F t 1) (0 + t) _ (by have := HT.out; omega) (fun j => by rw [Nat.zero_add]; rfl)]
  have B5 : Hid (Below w.heap.size w w5) := by
    show Below _ _ _
    rw [e5]
    exact B4.out.setCell hw3 _
  clear e5 Y4 B4
  generalize hB10 : w3.heap.size = B10 at *
  have hBw : w.heap.size ≤ B10 := hw3
  clear hB10 hG3 hw3
  -- the append
  have Q5 : Hid (QX w5 G st (.slice (some ⟨b, 0, none⟩) n c)) := by
    have hh := HS.out
    rw [HN.out] at hh
    exact hh.below B5.out
  have hB5 : B10 < w5.heap.size := Ba.heap_lt X5.out
  obtain ⟨F', hF'⟩ : ∃ F', upF o.F t 1 = F' := ⟨_, rfl⟩
  rw [hF'] at X5
  have HF' := hide hF'
  clear hF'
  obtain ⟨on, hon⟩ : ∃ on : On, on = ⟨q, t, F'⟩ := ⟨_, rfl⟩
  have BO : Try.prog.built 62 [(0, .int .i64 q), (1, .int .i64 (t : Int)), (2, .agg (ra F'))] = some (onA on) := by rw [hon]; exact built_on3 q (t : Int) F'
  have BS := hide (bs_on on w5.drew)
  have bN : Below w5.drew.heap.size w5.drew (w5.drew.alloc (.cells (onA on) 62)) := below_alloc _ _
  have hs6 : (w5.drew.alloc (.cells (onA on) 62)).heap.size = w5.heap.size + 1 := World.size_alloc w5.drew _
  have OW6 : (w5.drew.alloc (.cells (onA on) 62)).ownsRow 0 62 258 (.slice (some ⟨b, 0, none⟩) n c) st.L.length (ons st.L) := ((Q5.out.below (Ba.bdrew1 w5)).below bN).ow
  obtain ⟨v', w7, hr7, ho7, hg7, hat7⟩ := rapp on w5.heap.size OW6 (heap_new w5.drew _) (by have := HN.out; omega)
  obtain ⟨oa', c', hv7⟩ := own_sl ho7
  obtain ⟨n', hn'⟩ : ∃ n' : Nat, n' = (st.L ++ [on]).length := ⟨_, rfl⟩
  rw [← hn'] at hv7
  subst hv7
  have hbG : G ≠ b := fun e => HS.out.ne (by rw [e]; rfl)
  have hGl : G < w5.heap.size := Q5.out.lt
  have hbl : b < w5.heap.size := Nat.lt_of_lt_of_le hbb B5.out.size
  have BK7 : Hid (∀ x, x < w5.heap.size → x ≠ b → w7.heap[x]? = w5.heap[x]?) := fun x hx hne => (hg7.block x (by rw [hs6]; omega) (fun e => hne (by simpa [Value.ownBlock] using e))).trans (bN.block x hx)
  have H7 : Hid (w7.heap[G]? = some (.cells #[.int .i64 (st.T : Int), .int .i64 (st.M : Int), .slice (some ⟨b, 0, none⟩) n c] 39 (0, 0))) := (BK7.out G hGl hbG).trans Q5.out.hp
  have STO := hide (stv_cell oa' n' c' (cell_of H7.out 2) (frozen_of H7.out 2))
  have hGN : ∀ x, (Value.slice oa' n' c').ownBlock = some x → x ≠ G := fun x e => by
    rcases hat7 with q7 | q7
    · rw [q7] at e
      simp only [Value.ownBlock, Option.some.injEq] at e
      omega
    · rw [q7, hs6] at e
      simp only [Option.some.injEq] at e
      omega
  have QF : Hid (QX (w7.setCell ⟨G, 2, none⟩ (.slice oa' n' c')) G { st with L := st.L ++ [on] } (.slice oa' n' c')) := by
    refine ⟨?_, own_blk ho7 fun x e => Below.heap_setCell _ _ _ _ (hGN x e), fun e => hGN G e rfl⟩
    rw [Ba.heap_setCell_same H7.out]
    rfl
  have NF : Hid ((Value.slice oa' n' c').ownBlock = (Value.slice (some ⟨b, 0, none⟩) n c).ownBlock ∨ ∃ N, (Value.slice oa' n' c').ownBlock = some N ∧ w.heap.size ≤ N) := by
    rcases hat7 with q7 | q7
    · exact .inl q7
    · exact .inr ⟨_, q7, by rw [hs6]; have := B5.out.size; omega⟩
  have KFF : Hid (KF (QB G (.slice (some ⟨b, 0, none⟩) n c)) w (w7.setCell ⟨G, 2, none⟩ (.slice oa' n' c'))) := by
    have hs5 := B5.out.size
    have hs7 := hg7.size
    refine ⟨hg7.os.trans (bN.os.trans B5.out.os), hg7.tape.trans (bN.tape.trans B5.out.tape), hg7.output.trans (bN.output.trans B5.out.output), ?_, fun x hx hr => ?_⟩
    · have : (w7.setCell ⟨G, 2, none⟩ (.slice oa' n' c')).heap.size = w7.heap.size := by simp [World.setCell]
      rw [this]
      rw [hs6] at hs7
      omega
    · rw [Below.heap_setCell _ _ _ _ (fun e => hr (.inl e)), BK7.out x (by omega) (fun e => hr (.inr (by rw [e]; rfl))), B5.out.block x hx]
  have R7 : Hid (∀ u, u.heap[B10]? = w5.heap[B10]? → RA u B10 0 F') := fun u hu => RA.of (hu.trans X5.out)
  have hBb : B10 ≠ b := by omega
  have hBG : B10 ≠ G := by omega
  obtain ⟨LC, hLC⟩ : ∃ LC : Nat → Sem (Array Value), ∀ n, loadCellsFrom (⟨B10, 0, none⟩ : Addr) 0 n #[] = LC n := ⟨fun n => loadCellsFrom (⟨B10, 0, none⟩ : Addr) 0 n #[], fun _ => rfl⟩
  obtain ⟨VJ, hVJ⟩ : ∃ VJ, ra F' = VJ := ⟨_, rfl⟩
  have LK : Hid (∀ u, u.heap[B10]? = w5.heap[B10]? → (LC 256).run Try.prog u = .ok VJ u) := fun u hu => by rw [← hLC, ← hVJ]; exact ld_ref (R7.out u hu)
  have K9 : Hid ((LC 256).run Try.prog (w5.drew.alloc (.cells (onA on) 62)) = .ok VJ (w5.drew.alloc (.cells (onA on) 62))) := LK.out _ (bN.block B10 hB5)
  have K10 : Hid ((LC 256).run Try.prog w7 = .ok VJ w7) := LK.out _ (BK7.out B10 hB5 hBb)
  have K13 : Hid ((LC 256).run Try.prog (w7.setCell ⟨G, 2, none⟩ (.slice oa' n' c')) = .ok VJ (w7.setCell ⟨G, 2, none⟩ (.slice oa' n' c'))) := LK.out _ ((Below.heap_setCell _ _ _ _ hBG).trans (BK7.out B10 hB5 hBb))
  have L4 : Hid ((LC 256).run Try.prog w5.drew = .ok VJ w5.drew) := LK.out _ rfl
  have y2 : w5.drew.cell? ⟨G, 2, none⟩ = some (.slice (some ⟨b, 0, none⟩) n c) := Q5.out.cells.2.2
  have y2b : (w5.drew.alloc (.cells (onA on) 62)).cell? ⟨G, 2, none⟩ = some (.slice (some ⟨b, 0, none⟩) n c) := cellB y2 bN
  have LS1 := hide (ldv_cell y2)
  have LS2 := hide (ldv_cell y2b)
  have HR := hide hr7
  rw [hVJ] at BO
  rw [← HF'.out] at hon
  rw [hon] at QF
  have OSZ := on_size on
  clear hVJ R7 hr7 ho7 hg7 hat7 hn' OW6 bN Q5 H7 hGN LK y2 y2b hon
  have e9 : w5.drew.heap.size = w5.heap.size := rfl
  rw [e9] at BS
  generalize onA on = A1 at *
  clear e9
  go_upto_region 11 with fail
  try simp only [List.append_eq, List.cons_append, List.nil_append]
  refine wp_region_held_drew (S := (fun w' => (LC 256).run Try.prog w' = .ok VJ w')) (by kernel_rfl) ?_ (fun hHeld => ?_)
  · exact L4.out
  refine wpAnyH_take (i := 0) (v := ?_) rfl (by kernel_rfl) (by kernel_rfl) (by kernel_rfl) (fun _ _ _ h => h) (Or.inl ⟨by rfl, ?_⟩) (by assumption) ?_
  rotate_left
  · intro w0 hSw; (try dsimp only at hSw); go_simp <;> with_reducible rfl
  try simp only [Act.put, List.getElem_toArray, List.getElem_cons_zero, List.setIfInBounds_toArray, List.set_cons_zero, List.set_cons_succ]
  refine wpAnyH_take (i := 1) (v := ?_) rfl (by kernel_rfl) (by kernel_rfl) (by kernel_rfl) (fun _ _ _ h => h) (Or.inl ⟨by rfl, ?_⟩) (by assumption) ?_
  rotate_left
  · intro w0 hSw; (try dsimp only at hSw); go_simp <;> with_reducible rfl
  try simp only [Act.put, List.getElem_toArray, List.getElem_cons_zero, List.getElem_cons_succ, List.setIfInBounds_toArray, List.set_cons_zero, List.set_cons_succ]
  refine wpAnyH_take (i := 2) (v := ?_) rfl (by kernel_rfl) (by kernel_rfl) (by kernel_rfl) (fun _ _ _ h => h) (Or.inl ⟨by rfl, ?_⟩) (by assumption) ?_
  rotate_left
  · intro w0 hSw; (try dsimp only at hSw); go_simp <;> with_reducible rfl
  try simp only [Act.put, List.getElem_toArray, List.getElem_cons_zero, List.getElem_cons_succ, List.setIfInBounds_toArray, List.set_cons_zero, List.set_cons_succ]
  refine wpAnyH_take (i := 3) (v := ?_) rfl (by kernel_rfl) (by kernel_rfl) (by kernel_rfl) (fun _ _ _ h => h) (Or.inl ⟨by rfl, ?_⟩) (by assumption) ?_
  rotate_left
  · intro w0 hSw; (try dsimp only at hSw); go_simp <;> with_reducible rfl
  try simp only [Act.put, List.getElem_toArray, List.getElem_cons_zero, List.getElem_cons_succ, List.setIfInBounds_toArray, List.set_cons_zero, List.set_cons_succ]
  refine wpAnyH_take (i := 5) (v := ?_) rfl (by kernel_rfl) (by kernel_rfl) (by kernel_rfl) (fun _ _ _ h => h) (Or.inl ⟨by rfl, ?_⟩) (by assumption) ?_
  rotate_left
  · intro w0 hSw; (try dsimp only at hSw); go_simp <;> with_reducible rfl
  try simp only [Act.put, List.getElem_toArray, List.getElem_cons_zero, List.getElem_cons_succ, List.setIfInBounds_toArray, List.set_cons_zero, List.set_cons_succ]
  refine wpAnyH_take (i := 6) (v := ?_) rfl (by kernel_rfl) (by kernel_rfl) (by kernel_rfl) (fun _ _ _ h => h) (Or.inl ⟨by rfl, ?_⟩) (by assumption) ?_
  rotate_left
  · intro w0 hSw; (try dsimp only at hSw); go_simp <;> with_reducible rfl
  try simp only [Act.put, List.getElem_toArray, List.getElem_cons_zero, List.getElem_cons_succ, List.setIfInBounds_toArray, List.set_cons_zero, List.set_cons_succ]
  refine wpAnyH_take (i := 7) (v := ?_) rfl (by kernel_rfl) (by kernel_rfl) (by kernel_rfl) (fun _ _ _ h => h) (Or.inl ⟨by rfl, ?_⟩) (by assumption) ?_
  rotate_left
  · intro w0 hSw; (try dsimp only at hSw); go_simp <;> with_reducible rfl
  try simp only [Act.put, List.getElem_toArray, List.getElem_cons_zero, List.getElem_cons_succ, List.setIfInBounds_toArray, List.set_cons_zero, List.set_cons_succ]
  refine wpAnyH_take (i := 8) (v := .agg A1) rfl (by kernel_rfl) (by kernel_rfl) (by kernel_rfl) (fun _ _ _ h => h) (Or.inl ⟨by rfl, ?_⟩) (by assumption) ?_
  · intro w0 hSw; refine Eq.trans (b := Sem.run Try.prog (Instr.build 62 #[(0, .int .i64 q), (1, .int .i64 (t : Int)), (2, .agg VJ)] >>= fun x => pure (Next.value x)) w0) (by kernel_rfl) ?_; rw [Sem.run_bind, run_build w0 _ _ _ BO]; rfl
  try simp only [Act.put, List.getElem_toArray, List.getElem_cons_zero, List.getElem_cons_succ, List.setIfInBounds_toArray, List.set_cons_zero, List.set_cons_succ]
  refine wpAnyH_ready (rs := [4, 9]) (by kernel_rfl) (by simp) ?_
  refine AllReadyH.cons rfl (fun K hK => ?_) (AllReadyH.cons rfl (fun K hK => ?_) AllReadyH.nil)
  · refine step_load (by rfl) 37 _ (by rfl) ⟨G, 2, none⟩ _ (by rfl) LS1.out ?_
    refine hK.out _ _ ?_ (fun hHeld => ?_)
    · exact L4.out
    clear hK K
    try simp only [Act.put, List.getElem_toArray, List.getElem_cons_zero, List.getElem_cons_succ, List.setIfInBounds_toArray, List.set_cons_zero, List.set_cons_succ]
    refine wpAnyH_ready (rs := [9]) (by kernel_rfl) (by simp) ?_
    refine AllReadyH.cons rfl (fun K hK => ?_) AllReadyH.nil
    refine step_bs (by rfl) 37 1 _ (by rfl) #[(0, .agg A1)] (by first | kernel_rfl | simp [Act.eval]) _ _ BS.out ?_
    refine hK.out _ _ ?_ (fun hHeld => ?_)
    · exact K9.out
    clear hK K
    try simp only [Act.put, List.getElem_toArray, List.getElem_cons_zero, List.getElem_cons_succ, List.setIfInBounds_toArray, List.set_cons_zero, List.set_cons_succ]
    refine wpAnyH_ready (rs := [10]) (by kernel_rfl) (by simp) ?_
    refine AllReadyH.cons rfl (fun K hK => ?_) AllReadyH.nil
    refine step_app (by rfl) _ _ _ _ (by rfl) _ _ (by rfl) (by rfl) _ _ HR.out ?_
    refine hK.out _ _ ?_ (fun hHeld => ?_)
    · exact K10.out
    clear hK K
    try simp only [Act.put, List.getElem_toArray, List.getElem_cons_zero, List.getElem_cons_succ, List.setIfInBounds_toArray, List.set_cons_zero, List.set_cons_succ]
    refine wpAnyH_take (i := 11) (v := ?_) rfl (by kernel_rfl) (by kernel_rfl) (by kernel_rfl) (fun _ _ _ h => h) (Or.inl ⟨by rfl, ?_⟩) (by assumption) ?_
    rotate_left
    · intro w0 hSw; (try dsimp only at hSw); go_simp <;> with_reducible rfl
    try simp only [Act.put, List.getElem_toArray, List.getElem_cons_zero, List.getElem_cons_succ, List.setIfInBounds_toArray, List.set_cons_zero, List.set_cons_succ]
    refine wpAnyH_take (i := 12) (v := ?_) rfl (by kernel_rfl) (by kernel_rfl) (by kernel_rfl) (fun _ _ _ h => h) (Or.inl ⟨by rfl, ?_⟩) (by assumption) ?_
    rotate_left
    · intro w0 hSw; (try dsimp only at hSw); go_simp <;> with_reducible rfl
    try simp only [Act.put, List.getElem_toArray, List.getElem_cons_zero, List.getElem_cons_succ, List.setIfInBounds_toArray, List.set_cons_zero, List.set_cons_succ]
    refine wpAnyH_ready (rs := [13]) (by kernel_rfl) (by simp) ?_
    refine AllReadyH.cons rfl (fun K hK => ?_) AllReadyH.nil
    refine step_store (by rfl) 37 _ _ (by rfl) ⟨G, 2, none⟩ (.slice oa' n' c') _ (by rfl) (by rfl) STO.out ?_
    refine hK.out _ _ ?_ (fun hHeld => ?_)
    · exact K13.out
    clear hK K
    try simp only [Act.put, List.getElem_toArray, List.getElem_cons_zero, List.getElem_cons_succ]
    refine wpAnyH_done (by kernel_rfl) ?_ _
    go_wp2_with fail
    go_ret2
    exact ⟨rfl, _, QF.out, NF.out, KFF.out⟩
  · refine step_bs (by rfl) 37 1 _ (by rfl) #[(0, .agg A1)] (by first | kernel_rfl | simp [Act.eval]) _ _ BS.out ?_
    refine hK.out _ _ ?_ (fun hHeld => ?_)
    · exact K9.out
    clear hK K
    try simp only [Act.put, List.getElem_toArray, List.getElem_cons_zero, List.getElem_cons_succ, List.setIfInBounds_toArray, List.set_cons_zero, List.set_cons_succ]
    refine wpAnyH_ready (rs := [4]) (by kernel_rfl) (by simp) ?_
    refine AllReadyH.cons rfl (fun K hK => ?_) AllReadyH.nil
    refine step_load (by rfl) 37 _ (by rfl) ⟨G, 2, none⟩ _ (by rfl) LS2.out ?_
    refine hK.out _ _ ?_ (fun hHeld => ?_)
    · exact K9.out
    clear hK K
    try simp only [Act.put, List.getElem_toArray, List.getElem_cons_zero, List.getElem_cons_succ, List.setIfInBounds_toArray, List.set_cons_zero, List.set_cons_succ]
    refine wpAnyH_ready (rs := [10]) (by kernel_rfl) (by simp) ?_
    refine AllReadyH.cons rfl (fun K hK => ?_) AllReadyH.nil
    refine step_app (by rfl) _ _ _ _ (by rfl) _ _ (by rfl) (by rfl) _ _ HR.out ?_
    refine hK.out _ _ ?_ (fun hHeld => ?_)
    · exact K10.out
    clear hK K
    try simp only [Act.put, List.getElem_toArray, List.getElem_cons_zero, List.getElem_cons_succ, List.setIfInBounds_toArray, List.set_cons_zero, List.set_cons_succ]
    refine wpAnyH_take (i := 11) (v := ?_) rfl (by kernel_rfl) (by kernel_rfl) (by kernel_rfl) (fun _ _ _ h => h) (Or.inl ⟨by rfl, ?_⟩) (by assumption) ?_
    rotate_left
    · intro w0 hSw; (try dsimp only at hSw); go_simp <;> with_reducible rfl
    try simp only [Act.put, List.getElem_toArray, List.getElem_cons_zero, List.getElem_cons_succ, List.setIfInBounds_toArray, List.set_cons_zero, List.set_cons_succ]
    refine wpAnyH_take (i := 12) (v := ?_) rfl (by kernel_rfl) (by kernel_rfl) (by kernel_rfl) (fun _ _ _ h => h) (Or.inl ⟨by rfl, ?_⟩) (by assumption) ?_
    rotate_left
    · intro w0 hSw; (try dsimp only at hSw); go_simp <;> with_reducible rfl
    try simp only [Act.put, List.getElem_toArray, List.getElem_cons_zero, List.getElem_cons_succ, List.setIfInBounds_toArray, List.set_cons_zero, List.set_cons_succ]
    refine wpAnyH_ready (rs := [13]) (by kernel_rfl) (by simp) ?_
    refine AllReadyH.cons rfl (fun K hK => ?_) AllReadyH.nil
    refine step_store (by rfl) 37 _ _ (by rfl) ⟨G, 2, none⟩ (.slice oa' n' c') _ (by rfl) (by rfl) STO.out ?_
    refine hK.out _ _ ?_ (fun hHeld => ?_)
    · exact K13.out
    clear hK K
    try simp only [Act.put, List.getElem_toArray, List.getElem_cons_zero, List.getElem_cons_succ]
    refine wpAnyH_done (by kernel_rfl) ?_ _
    go_wp2_with fail
    go_ret2
    exact ⟨rfl, _, QF.out, NF.out, KFF.out⟩
end
end Wq
end Go.Proofs.Ytfimfgffbfjkeaa
