/- The gauge's reader, over this seat's program: a channel put into the map; numbers (rule 3). -/
import Derived.Test.YtakbbhngcdccpaaGreatGua
namespace Go.Proofs.YtakbbhngcdccpaaGreat
open Go.ChangeShapes Go.WideShapes Go.ChangeAt Go.RowKit
namespace Gu
open En Ba

theorem own_tight {w : World} {mb n m : Nat} {D : DataW Unit} (h : w.ownsMap Tryz.prog 3 mE mb n D) (hm : Maps.size D ≤ m) : w.ownsMap Tryz.prog 3 mE mb m D := by
  obtain ⟨es, ck, hb, F, hs, rfl⟩ := h
  refine ⟨es, ck, hb, F, ?_, rfl⟩
  rw [Maps.size_eq, length_read] at hm
  exact hm
section
variable {w w' : World} {N R mb : Nat} {ev vs : Value} {D : DataW Unit} {cs : List Sv} {s : Gs}
/-- the map's block is none of the others -/
theorem GR.noM (h : GR w N R mb ev vs D cs s) : vs.ownBlock ≠ some mb ∧ ∀ (i : Nat) x, cs[i]? = some x → x.nil = false → x.b ≠ mb := by
  obtain ⟨es, ck, hb, -⟩ := h.mp
  refine ⟨?_, fun i x hx hn e => ?_⟩
  · intro e
    rcases h.st.2 with ⟨rfl, -⟩ | ⟨g', cap', cur, rfl, -, q3, -⟩
    · cases e
    · cases e; rw [hb] at q3; cases q3
  · have hil : i < cs.length := (List.getElem?_eq_some_iff.1 hx).1
    obtain ⟨c, hc⟩ : ∃ c, s.ch[i]? = some c := ⟨_, List.getElem?_eq_getElem (by rw [← h.len]; exact hil)⟩
    obtain ⟨-, cur, hb', -⟩ := (h.ch i x c hx hc).1.row hn
    rw [e, hb] at hb'; cases hb'
def upl {α : Type} (l : List α) (i : Nat) (x : α) : List α := if i < l.length then l.set i x else l ++ [x]
theorem upl_at {α : Type} (l : List α) {i : Nat} (hi : i ≤ l.length) (x : α) (j : Nat) (y : α) (h : (upl l i x)[j]? = some y) : (j = i ∧ y = x) ∨ (j ≠ i ∧ l[j]? = some y) := by
  unfold upl at h
  by_cases e : j = i
  · subst e
    left
    refine ⟨rfl, ?_⟩
    split at h
    · rw [List.getElem?_set_self (by assumption)] at h; cases h; rfl
    · have : j = l.length := by omega
      subst this
      simp at h; exact h.symm
  · right
    refine ⟨e, ?_⟩
    split at h
    · rwa [List.getElem?_set_ne (Ne.symm e)] at h
    · rwa [List.getElem?_append_left (by have := (List.getElem?_eq_some_iff.1 h).1; simp at this; omega)] at h
theorem upl_len {α β : Type} (l : List α) (m : List β) (h : l.length = m.length) (i : Nat) (x : α) (y : β) : (upl l i x).length = (upl m i y).length := by
  unfold upl
  rw [h]
  split <;> simp [h]
/-- a channel is put into the map -/
theorem GR.put (h : GR w N R mb ev vs D cs s) {i : Nat} (hi : i ≤ cs.length) (hb : cs.length ≤ 4000) (x : Sv) (c : Chn) (hv : VR w N x c.vs) (hcap : x.cap = c.cap) (hcl : x.cl = c.cl)
    (hd : ∀ (j : Nat) y, cs[j]? = some y → j ≠ i → x.nil = false → y.nil = false → x.b ≠ y.b) (hdv : x.nil = false → vs.ownBlock ≠ some x.b) (hm : x.nil = false → x.b ≠ mb) :
    ∃ w', (Instr.mapUpdate 85 (.map (some mb)) (.int .i64 (i : Int)) (chV x)).run Tryz.prog w = .ok () w' ∧ GR w' N R mb ev vs (D.put (kl (i : Int)) (chD x)) (upl cs i x) { s with ch := upl s.ch i c } ∧ Fb N w w' ∧ w.grownBy w' (some mb) := by
  have hk : -1 ≤ (i : Int) ∧ (i : Int) ≤ 100000 := by omega
  obtain ⟨w', hrun, ho, hg⟩ := (own_tight h.mp (m := cs.length) (by rw [h.mi.sz]; exact Nat.le_refl _)).update law Tryz.underlying85 (by unfold maxLen; omega) (key_kl hk) (mE_v hv.sn)
  have MI' := h.mi.put hi (by omega) x
  have ho' : w'.ownsMap Tryz.prog 3 mE mb 100000 (D.put (kl (i : Int)) (chD x)) := ho.mono (by omega)
  have g1 : ∀ {b : Nat} {o : Obj}, w.heap[b]? = some o → b ≠ mb → w'.heap[b]? = some o := fun hb hn => (hg.block _ (heap_lt hb) (fun e => hn (by cases e; rfl))).trans hb
  obtain ⟨m1, m2⟩ := h.noM
  obtain ⟨-, n2, -⟩ := h.noR
  refine ⟨w', hrun, ⟨h.hN, g1 h.hR n2, h.st.kept hg (.inr m1), ho', MI', by
      show (upl cs i x).length = (upl s.ch i c).length
      exact upl_len cs s.ch h.len i x c, fun j y d hy hd' => ?_, fun j k y z hy hz hjk hyn hzn => ?_, fun j y hy hyn => ?_⟩, ⟨⟨hg.os, hg.tape, hg.output, hg.size, fun k hk' => hg.block k (by have := h.mp.lt; have := h.hN.2; omega) (fun e => by cases e; have := h.hN.2; omega)⟩, fun k cc hk => g1 hk (fun e => by obtain ⟨es, ck, hb, -⟩ := h.mp; rw [e, hb] at hk; cases hk)⟩, hg⟩
  · have hyc : ∀ y d, VR w N y d → (y.nil = false → y.b ≠ mb) → VR w' N y d := fun y d v hn => v.keep fun hq => by
      obtain ⟨-, cur, hb', -⟩ := v.row hq
      rw [g1 hb' (hn hq), hb']
    rcases upl_at cs hi x j y hy with ⟨rfl, rfl⟩ | ⟨hne, hy'⟩
    · rcases upl_at s.ch (by rw [← h.len]; exact hi) c j d hd' with ⟨-, rfl⟩ | ⟨hne, -⟩
      · exact ⟨hyc _ _ hv hm, hcap, hcl⟩
      · exact absurd rfl hne
    · rcases upl_at s.ch (by rw [← h.len]; exact hi) c j d hd' with ⟨e, -⟩ | ⟨-, hd''⟩
      · exact absurd e hne
      · obtain ⟨v, r⟩ := h.ch j y d hy' hd''
        exact ⟨hyc _ _ v (m2 j y hy'), r⟩
  · rcases upl_at cs hi x j y hy with ⟨rfl, rfl⟩ | ⟨hne, hy'⟩
    · rcases upl_at cs hi y k z hz with ⟨rfl, rfl⟩ | ⟨hne', hz'⟩
      · exact absurd rfl hjk
      · exact hd k z hz' hne' hyn hzn
    · rcases upl_at cs hi x k z hz with ⟨rfl, rfl⟩ | ⟨hne', hz'⟩
      · exact fun e => hd j y hy' hne hzn hyn e.symm
      · exact h.dj j k y z hy' hz' hjk hyn hzn
  · rcases upl_at cs hi x j y hy with ⟨rfl, rfl⟩ | ⟨-, hy'⟩
    · exact hdv hyn
    · exact h.dv j y hy' hyn
theorem GR.len_run (h : GR w N R mb ev vs D cs s) (ty : TypeId) : (Builtin.len_ #[85] ty #[.map (some mb)]).run Tryz.prog w = .ok (.int .i64 (s.ch.length : Int)) w := by
  have := h.mp.len Tryz.underlying85 ty
  rw [h.mi.sz, h.len] at this
  exact this
end
/-- behind a rule of channels -/
def ChP (R3 : Option (List Chn)) (N R : Nat) (ev : Value) (s : Gs) (w : World) (r : Ending) (w' : World) : Prop := ((R3 = none ∧ r = .returned (.bool false)) ∨ ∃ ch, R3 = some ch ∧ r = .returned (.bool true) ∧ GW w' N R ev { s with ch := ch }) ∧ Fb N w w'
theorem ChP.no {R3 : Option (List Chn)} {N R : Nat} {ev : Value} {s : Gs} {w w' : World} (h : R3 = none) (b : Fb N w w') : ChP R3 N R ev s w (.returned (.bool false)) w' := ⟨.inl ⟨h, rfl⟩, b⟩
theorem ChP.yes {R3 : Option (List Chn)} {N R mb : Nat} {ev vs : Value} {D : DataW Unit} {cs : List Sv} {s : Gs} {w w' : World} {ch : List Chn} (h : R3 = some ch) (g : GR w' N R mb ev vs D cs { s with ch := ch }) (b : Fb N w w') : ChP R3 N R ev s w (.returned (.bool true)) w' := ⟨.inr ⟨ch, h, rfl, mb, vs, D, cs, g⟩, b⟩
set_option maxRecDepth 100000 in
set_option maxHeartbeats 6400000 in
theorem numb_any {w : World} {N R c : Nat} {oa : Option Addr} {l : List Ev} {s : Gs} (h : GW w N R (.slice oa l.length c) s) (hA : EsAt w oa l) {i : Nat} {e : Ev} (hi : l[i]? = some e) (hch : s.ch.length ≤ 3000) (hNw : N ≤ w.heap.size) :
    Calls Tryz.prog 51 #[.pointer (some ⟨R, 0, none⟩), .int .i64 (i : Int)] w fun r w' => ChP (r3 s.ch e) N R (.slice oa l.length c) s w r w' := by
  obtain ⟨mb, vs, D, cs, h⟩ := h
  have hil : i < l.length := (List.getElem?_eq_some_iff.1 hi).1
  obtain ⟨b1, o1, rfl, -⟩ := hA i e hi
  obtain ⟨p0, p1, p2, p3, p4, p5, p6, p7⟩ := hA.read hi
  have hiM : (i : Int) < (l.length : Int) := by omega
  clear hA hi
  generalize l.length = M at *
  have H1 := hide (h.below (below_alloc w (.cells #[.int .i64 e.k, .int .i64 e.g, .int .i64 e.c, .int .i64 e.a, .int .i64 e.v, .int .i64 e.m, .bool e.s, .bool e.o] 23)))
  have E1 := hide (heap_new w (.cells #[.int .i64 e.k, .int .i64 e.g, .int .i64 e.c, .int .i64 e.a, .int .i64 e.v, .int .i64 e.m, .bool e.s, .bool e.o] 23))
  have B1 := hide (Fb.of (below_alloc w (.cells #[.int .i64 e.k, .int .i64 e.g, .int .i64 e.c, .int .i64 e.a, .int .i64 e.v, .int .i64 e.m, .bool e.s, .bool e.o] 23)) hNw)
  have c0 : w.cell? ⟨R, 0, none⟩ = some (.slice (some ⟨b1, o1, none⟩) M c) := cell_of h.hR 0
  have hRw : R < w.heap.size := heap_lt h.hR
  obtain ⟨R3, hR3⟩ : ∃ R3, r3 s.ch e = R3 := ⟨_, rfl⟩
  rw [hR3]
  unfold r3 at hR3
  clear h
  obtain ⟨E, hE⟩ : ∃ E, w.heap.size = E := ⟨_, rfl⟩
  go_enter Tryz.func51, Tryz.ntmps51
  go_upto_region 2 with fail
  rw [hE] at E1 hRw
  clear p0 p1 p2 p3 p4 p5 p6 p7 hE c0
  generalize w.alloc (.cells #[.int .i64 e.k, .int .i64 e.g, .int .i64 e.c, .int .i64 e.a, .int .i64 e.v, .int .i64 e.m, .bool e.s, .bool e.o] 23) = W1 at *
  have c2 : W1.cell? ⟨R, 2, none⟩ = some (.map (some mb)) := cell_of H1.out.hR 2
  have v0 : W1.cell? ⟨E, 0, none⟩ = some (.int .i64 e.k) := cell_of E1.out 0
  have v2 : W1.cell? ⟨E, 2, none⟩ = some (.int .i64 e.c) := cell_of E1.out 2
  have v4 : W1.cell? ⟨E, 4, none⟩ = some (.int .i64 e.v) := cell_of E1.out 4
  have LN : ∀ q ty, (Builtin.len_ #[85] ty #[.map (some mb)]).run Tryz.prog (W1.drewN q) = .ok (.int .i64 (s.ch.length : Int)) (W1.drewN q) := fun q ty => (H1.out.below (bdrew W1 q)).len_run ty
  obtain ⟨n, hn⟩ : ∃ n, s.ch.length = n := ⟨_, rfl⟩
  have HNn := hide hn
  rw [hn] at LN hR3 hch
  clear hn
  by_cases h2 : e.k = 2
  · rw [if_pos h2] at hR3
    have d2 : (e.k == 2) = true := by simp [h2]
    clear h2
    by_cases hc : e.c = (n : Int)
    case neg =>
      rw [if_pos hc] at hR3
      have dc : (e.c != (n : Int)) = true := by simp [hc]
      go_wp2_with fail
      go_quiet (fail)
      go_wp2_with fail
      go_ret
      exact ChP.no hR3.symm (B1.out.trans (Fb.of (bdrew _ _) (by have := B1.out.size; omega)))
    rw [if_neg (by simp [hc])] at hR3
    have dc : (e.c != (n : Int)) = false := by simp [hc]
    rw [hc] at v2 dc
    have hcl : cs.length = n := by rw [H1.out.len, HNn.out]
    go_upto_region 3 with fail
    go_cut [23] (fun s23 wc => s23 = .bool false ∧ ∃ q, wc = W1.drewN q)
    case first =>
      go_quiet (fail)
      go_wp2_with fail
      go_meet
      case rel => exact ⟨by simp, _, rfl⟩
    case rest =>
    obtain ⟨rfl, q2, e2⟩ := hcut
    have K2 : Below W1.heap.size W1 wc := by rw [e2]; exact bdrew _ _
    have H2 := hide (H1.out.below K2)
    have E2 := hide (heap_below E1.out K2)
    have B2 := hide (B1.out.trans (Fb.of K2 (by have := B1.out.size; omega)))
    clear e2 K2 c2 v0 v2 v4 LN H1 E1 B1
    rename World => W2
    have c2' : W2.drew.cell? ⟨R, 2, none⟩ = some (.map (some mb)) := cell_of H2.out.hR 2
    have v2' : W2.drew.cell? ⟨E, 2, none⟩ = some (.int .i64 (n : Int)) := by rw [← hc]; exact cell_of E2.out 2
    have v4' : W2.drew.cell? ⟨E, 4, none⟩ = some (.int .i64 e.v) := cell_of E2.out 4
    obtain ⟨w3, mu, g3, b3, gr3⟩ := (H2.out.below (bdrew1 W2)).put (i := n) (by omega) (by omega) ⟨true, 0, 0, 0, 0, e.v, false⟩ ⟨e.v, [], false⟩ (VR.zero _ _ _ _) rfl rfl (fun _ _ _ _ q => by cases q) (fun q => by cases q) (fun q => by cases q)
    have MU : (Instr.mapUpdate 85 (.map (some mb)) (.int .i64 (n : Int)) (.agg #[.int .i64 e.v, .slice none 0 0, .bool false])).run Tryz.prog W2.drew = .ok () w3 := mu
    have hup : upl s.ch n ⟨e.v, [], false⟩ = s.ch ++ [⟨e.v, [], false⟩] := by unfold upl; rw [if_neg (by rw [HNn.out]; omega)]
    rw [hup] at g3
    have G3 := hide g3
    have E3 := hide ((gr3.block E (heap_lt (show W2.drew.heap[E]? = _ from E2.out)) (fun e => by injection e with e; have := heap_lt E2.out; obtain ⟨es, ck, hb, -⟩ := H2.out.mp; rw [← e, E2.out] at hb; cases hb)).trans (show W2.drew.heap[E]? = _ from E2.out))
    have B3 := hide ((B2.out.trans (Fb.of (bdrew1 W2) (by have := B2.out.size; omega))).trans b3)
    have LN3 : ∀ q ty, (Builtin.len_ #[85] ty #[.map (some mb)]).run Tryz.prog (w3.drewN q) = .ok (.int .i64 ((n : Int) + 1)) (w3.drewN q) := fun q ty => by
      have := (G3.out.below (bdrew w3 q)).len_run ty
      simp only [List.length_append, List.length_singleton, HNn.out] at this
      exact this
    have x2 : w3.cell? ⟨R, 2, none⟩ = some (.map (some mb)) := cell_of G3.out.hR 2
    have y2 : w3.cell? ⟨E, 2, none⟩ = some (.int .i64 (n : Int)) := by rw [← hc]; exact cell_of E3.out 2
    have dl : decide ((n : Int) < (n : Int) + 1) = true := by simp; omega
    clear mu b3 gr3 g3 hup
    go_upto_region 5 with fail
    go_cut [] (fun wc => wc = w3)
    case first =>
      go_region
      all_goals
        go_wp2_with fail
        go_meet
        case rel => rfl
    case rest =>
    obtain rfl := hcut
    clear MU c2' v2' v4'
    go_wp2_with fail
    go_quiet (fail)
    go_wp2_with fail
    go_ret
    exact ChP.yes hR3.symm (G3.out.below (bdrew _ _)) (B3.out.trans (Fb.of (bdrew _ _) (by have := B3.out.size; omega)))
  · rw [if_neg h2] at hR3
    have d2 : (e.k == 2) = false := by simp [h2]
    clear h2
    by_cases hc : e.c < (n : Int)
    · rw [if_pos hc] at hR3
      have dc : decide (e.c < (n : Int)) = true := decide_eq_true hc
      go_wp2_with fail
      go_quiet (fail)
      go_wp2_with fail
      go_ret
      exact ChP.yes hR3.symm (show GR _ N R mb _ vs D cs { s with ch := s.ch } from H1.out.below (bdrew _ _)) (B1.out.trans (Fb.of (bdrew _ _) (by have := B1.out.size; omega)))
    · rw [if_neg hc] at hR3
      have dc : decide (e.c < (n : Int)) = false := decide_eq_false hc
      go_wp2_with fail
      go_quiet (fail)
      go_wp2_with fail
      go_ret
      exact ChP.no hR3.symm (B1.out.trans (Fb.of (bdrew _ _) (by have := B1.out.size; omega)))
end Gu
end Go.Proofs.YtakbbhngcdccpaaGreat
