/- For every list of events and every string, the law EntryBack returns true, so what was encoded is decoded and what is decoded was encoded so: under no condition. -/
import Derived.Test.YtlcaelfkgillmaaOc
import Derived.ShutString
import Derived.ChangeOld
import Derived.Below
namespace Go.Proofs.Ytlcaelfkgillmaa.entryBack
open Go.ChangeShapes Go.WideShapes Go.ChangeAt Go.RowKit
open Go.ChangeMaps (open_string shut_string)
open En Ba Re

theorem own : ownKnob Try.prog.godebug = none := by kernel_rfl
theorem laidOut : laidOutB Try.prog = true := by kernel_rfl

theorem rd_encs : ∀ (l : List Ev), fe l = 0 → rd (encs l) = some l
  | [], _ => rfl
  | e :: l, h => by
    simp only [fe] at h
    split at h
    · rename_i hc
      have hd : dec (encs (e :: l)) = some (e, (enc e).length) := by
        show dec (enc e ++ encs l) = _
        exact dec_enc hc _
      rw [rd_cons hd]
      have : (encs (e :: l)).drop (enc e).length = encs l := by
        show (enc e ++ encs l).drop (enc e).length = _
        rw [List.drop_left]
      rw [this, rd_encs l h]
      rfl
    · exact absurd h ‹_›
theorem rdf_put : ∀ (n : Nat) (L : List Nat) (es : List Ev), L.length ≤ n → (∀ b ∈ L, b < 256) → rdf n L = some es → fe es = 0 ∧ encs es = L
  | 0, L, es, hn, _, h => by
    have : L = [] := List.eq_nil_of_length_eq_zero (by omega)
    subst this
    simp [rdf] at h
    subst h
    exact ⟨rfl, rfl⟩
  | n + 1, L, es, hn, hL, h => by
    simp only [rdf] at h
    split at h
    · rename_i q
      subst q
      cases h
      exact ⟨rfl, rfl⟩
    · cases hd : dec L with
      | none => rw [hd] at h; cases h
      | some p =>
        obtain ⟨e, z⟩ := p
        rw [hd] at h
        simp only at h
        obtain ⟨hc, hp, hz, hz2⟩ := dec_put hL hd
        cases hr : rdf n (L.drop z) with
        | none => rw [hr] at h; cases h
        | some fs =>
          rw [hr] at h
          simp at h
          subst h
          obtain ⟨h1, h2⟩ := rdf_put n (L.drop z) fs (by rw [List.length_drop]; omega) (fun b hb => hL b (List.mem_of_mem_drop hb)) hr
          refine ⟨?_, ?_⟩
          · simp [fe, hc, h1]
          · show enc e ++ encs fs = L
            rw [h2, hp]
theorem rd_put {L : List Nat} {es : List Ev} (hL : ∀ b ∈ L, b < 256) (h : rd L = some es) : fe es = 0 ∧ encs es = L := rdf_put _ L es (Nat.le_refl _) hL h
theorem rdE_zero {L : List Nat} (h : rdE L = 0) : ∃ es, rd L = some es ∧ es.length ≤ 2000 ∧ rdL L = es := by
  unfold rdE at h
  unfold rdL
  cases hr : rd L with
  | none => rw [hr] at h; cases h
  | some es =>
    rw [hr] at h
    simp only at h ⊢
    split at h
    · exact ⟨es, rfl, ‹_›, by rw [if_pos ‹_›]⟩
    · cases h
theorem read_is (s : ByteArray) (x : Int) (es : List Ev) (hE : rdE (nbs s) = x) (hL : rdL (nbs s) = es) (w : World) :
    Calls Try.prog 18 #[.string s] w fun r w' => (∃ oa c, r = .returned (.tuple #[.slice oa es.length c, .int .i64 x]) ∧ EsAt w' oa es) ∧ Below w.heap.size w w' := by
  subst hE hL
  exact read_any s w
set_option maxRecDepth 100000 in
set_option maxHeartbeats 6400000 in
theorem core {w : World} (oa : Option Addr) (l : List Ev) (c : Nat) (hA : EsAt w oa l) (hl : l.length ≤ maxLen) (s : ByteArray) (hs : s.size ≤ maxLen) :
    Calls Try.prog 6 #[.slice oa l.length c, .string s] w fun r w' => r = .returned (.bool true) ∧ Below w.heap.size w w' := by
  unfold maxLen at hl hs
  have HA := hide hA
  clear hA
  have B0 := hide (Below.refl w.heap.size w)
  by_cases h1 : 500 < l.length
  · have h1' : (500 : Int) < (l.length : Int) := by omega
    clear HA
    go_enter Try.func6, Try.ntmps6
    go_wp2_with fail
    refine (exit_any _).mono ?_
    rintro r w9 ⟨rfl, b9⟩
    have B9 := hide (btr B0.out b9)
    clear b9
    go_wp2_with fail
    go_ret
    exact ⟨rfl, B9.out⟩
  have h1' : ¬ (500 : Int) < (l.length : Int) := by omega
  by_cases h2 : 10000 < s.size
  · have h2' : (10000 : Int) < (s.size : Int) := by omega
    clear HA
    go_enter Try.func6, Try.ntmps6
    go_wp2_with fail
    refine (exit_any _).mono ?_
    rintro r w9 ⟨rfl, b9⟩
    have B9 := hide (btr B0.out b9)
    clear b9
    go_wp2_with fail
    go_ret
    exact ⟨rfl, B9.out⟩
  have h2' : ¬ (10000 : Int) < (s.size : Int) := by omega
  cases hf : (fe l == 0)
  · obtain ⟨x, hx⟩ : ∃ x, fe l = x := ⟨_, rfl⟩
    have AL := hide (all_any oa l c w HA.out (by omega) x _ hx rfl)
    rw [hx] at hf
    clear hx
    generalize (if x = 0 then encs l else []) = LL at AL
    go_enter Try.func6, Try.ntmps6
    go_wp2_with fail
    refine AL.out.mono ?_
    rintro r w1 ⟨rfl, b1⟩
    have B1 := hide b1
    clear b1 AL
    cases hr : (rdE (nbs s) == 0)
    · have RE : Hid ((rdE (nbs s) == 0) = false) := hr
      obtain ⟨x, hx⟩ : ∃ x, rdE (nbs s) = x := ⟨_, rfl⟩
      have RR := hide fun u => read_is s x _ hx rfl u
      rw [hx] at hr
      clear hx RE
      generalize rdL (nbs s) = es at RR
      go_wp2_with fail
      refine (RR.out _).mono ?_
      rintro r w5 ⟨⟨ox, cx, rfl, -⟩, b5⟩
      have B5 := hide (btr B1.out b5)
      clear b5 RR
      go_wp2_with fail
      refine (exit_any _).mono ?_
      rintro r w9 ⟨rfl, b9⟩
      have B9 := hide (btr B5.out b9)
      clear b9
      go_wp2_with fail
      go_ret
      exact ⟨rfl, B9.out⟩
    · have hr0 : rdE (nbs s) = 0 := by simpa using hr
      obtain ⟨es, h1, h2, h3⟩ := rdE_zero hr0
      obtain ⟨h4, h5⟩ := rd_put (nbs_lt s) h1
      have RR := hide fun u => read_is s 0 es hr0 h3 u
      have AA := hide fun oa c u (h : EsAt u oa es) => all_any oa es c u h h2 0 (encs es) h4 (if_pos rfl)
      rw [h5] at AA
      have hbs : bs (nbs s) = s := nbs_inj (nbs_bs _ (nbs_lt s))
      rw [hbs] at AA
      clear hr hr0 h1 h2 h3 h4 h5 hbs
      go_wp2_with fail
      refine (RR.out _).mono ?_
      rintro r w5 ⟨⟨ox, cx, rfl, a5⟩, b5⟩
      have B5 := hide (btr B1.out b5)
      have A5 := hide (AA.out ox cx _ a5)
      clear b5 a5 RR AA
      go_wp2_with fail
      refine A5.out.mono ?_
      rintro r w6 ⟨rfl, b6⟩
      have B6 := hide (btr B5.out b6)
      clear b6 A5
      go_wp2_with fail
      refine (exit_any _).mono ?_
      rintro r w9 ⟨rfl, b9⟩
      have B9 := hide (btr B6.out b9)
      clear b9
      go_wp2_with fail
      go_ret
      exact ⟨rfl, B9.out⟩
  · have hf0 : fe l = 0 := by simpa using hf
    have AL := hide (all_any oa l c w HA.out (by omega) 0 (encs l) hf0 (if_pos rfl))
    have hrd := rd_encs l hf0
    have hnb : nbs (bs (encs l)) = encs l := nbs_bs _ (encs_lt l)
    have hE : rdE (nbs (bs (encs l))) = 0 := by
      unfold rdE
      rw [hnb, hrd]
      simp only
      rw [if_pos (by omega)]
    have hL : rdL (nbs (bs (encs l))) = l := by
      unfold rdL
      rw [hnb, hrd]
      simp only
      rw [if_pos (by omega)]
    have RD := hide fun u => read_is (bs (encs l)) 0 l hE hL u
    clear hf hf0 hrd hnb hE hL
    generalize bs (encs l) = ba at AL RD
    go_enter Try.func6, Try.ntmps6
    go_wp2_with fail
    refine AL.out.mono ?_
    rintro r w1 ⟨rfl, b1⟩
    have B1 := hide b1
    clear b1 AL
    go_wp2_with fail
    refine (RD.out _).mono ?_
    rintro r w2 ⟨⟨ox, cx, rfl, a2⟩, b2⟩
    have B2 := hide (btr B1.out b2)
    have EV := hide (events_same ox oa l cx c w2 a2 (HA.out.below B2.out) (by omega))
    clear b2 a2 RD
    go_wp2_with fail
    refine EV.out.mono ?_
    rintro r w3 ⟨rfl, b3⟩
    have B3 := hide (btr B2.out b3)
    clear b3 EV
    cases hr : (rdE (nbs s) == 0)
    · have RE : Hid ((rdE (nbs s) == 0) = false) := hr
      obtain ⟨x, hx⟩ : ∃ x, rdE (nbs s) = x := ⟨_, rfl⟩
      have RR := hide fun u => read_is s x _ hx rfl u
      rw [hx] at hr
      clear hx RE
      generalize rdL (nbs s) = es at RR
      go_wp2_with fail
      refine (RR.out _).mono ?_
      rintro r w5 ⟨⟨ox, cx, rfl, -⟩, b5⟩
      have B5 := hide (btr B3.out b5)
      clear b5 RR
      go_wp2_with fail
      refine (exit_any _).mono ?_
      rintro r w9 ⟨rfl, b9⟩
      have B9 := hide (btr B5.out b9)
      clear b9
      go_wp2_with fail
      go_ret
      exact ⟨rfl, B9.out⟩
    · have hr0 : rdE (nbs s) = 0 := by simpa using hr
      obtain ⟨es, h1, h2, h3⟩ := rdE_zero hr0
      obtain ⟨h4, h5⟩ := rd_put (nbs_lt s) h1
      have RR := hide fun u => read_is s 0 es hr0 h3 u
      have AA := hide fun oa c u (h : EsAt u oa es) => all_any oa es c u h h2 0 (encs es) h4 (if_pos rfl)
      rw [h5] at AA
      have hbs : bs (nbs s) = s := nbs_inj (nbs_bs _ (nbs_lt s))
      rw [hbs] at AA
      clear hr hr0 h1 h2 h3 h4 h5 hbs
      go_wp2_with fail
      refine (RR.out _).mono ?_
      rintro r w5 ⟨⟨ox, cx, rfl, a5⟩, b5⟩
      have B5 := hide (btr B3.out b5)
      have A5 := hide (AA.out ox cx _ a5)
      clear b5 a5 RR AA
      go_wp2_with fail
      refine A5.out.mono ?_
      rintro r w6 ⟨rfl, b6⟩
      have B6 := hide (btr B5.out b6)
      clear b6 A5
      go_wp2_with fail
      refine (exit_any _).mono ?_
      rintro r w9 ⟨rfl, b9⟩
      have B9 := hide (btr B6.out b9)
      clear b9
      go_wp2_with fail
      go_ret
      exact ⟨rfl, B9.out⟩

/-! ### the row -/
set_option maxRecDepth 100000 in
theorem lifted (os : Os) (started : os.Started) (H : Type) (enc : TypeId × Value → H) :
    ReturnsInHanded {} Try.checked os 6 .any (Rows.entryBackSpec.pre6 enc Try.prog Try.f6 Rows.entryBackRow.domain false) (Rows.entryBackSpec.post enc Try.prog Try.f6 false true false false) := by
  refine returnsInHanded_of_change (C := Try.checked) own started (by kernel_rfl) Try.func6
    (ChangeSpec.witness6 (enc := enc) (C := Try.checked) false ⟨#[], #[.slice none 0 0, .string ByteArray.empty], []⟩ 8 (by kernel_rfl) (by kernel_rfl) (by kernel_rfl) (by kernel_rfl)) ?_
  intro W base args ds gs before hval0 hW hcnd _
  have hval : ∀ (j : Nat) t v, Try.f6.params[j]? = some t → args[j]? = some v → Value.okWide Try.prog W .any base t v := hval0
  have hW' := hW
  obtain ⟨p, q, hA0, hV, rfl, hfz, hnd⟩ := hW
  have hA : DataW.TrodAll enc Try.prog W 0 (fun _ => true) true Try.f6.params.toList args.toList ds p := hA0
  rw [Try.params6] at hA hval
  obtain ⟨v0, vs0, d0, ds0, p0, q0, hargs, rfl, rfl, h0, r0⟩ := trodAll_cons hA
  obtain ⟨v1, vs1, d1, ds1, p1, q1, rfl, rfl, rfl, h1, r1⟩ := trodAll_cons r0
  obtain ⟨rfl, rfl, rfl⟩ := trodAll_nil r1
  obtain rfl : args = #[v0, v1] := by cases args; simp_all
  obtain ⟨rfl, rfl⟩ := trodVars_none hV
  obtain ⟨oa0, n0, c0, rfl⟩ := okWide_slice Try.underlying40 (hval 0 40 v0 rfl rfl)
  have k0 := h0
  have lt0 : ∀ x ∈ p0, x.block < W.heap.size := by obtain ⟨m, hm⟩ := k0; exact DataW.trod_lt m _ _ _ hm
  obtain ⟨l0, rfl, A0, C0, M0⟩ := h0.elim fun _ hf => events_open hf
  obtain ⟨a1, rfl, rfl, rfl, w1⟩ := open_string Try.underlying9 (hval 1 9 v1 rfl rfl) h1
  clear hA0 hval0
  refine (core (w := W) oa0 l0 c0 A0 (Nat.le_trans C0 M0) a1 w1).mono fun e W' ⟨he, bel⟩ => ?_
  subst he
  exact ⟨_, rfl, _, _, _, [], _, [], hW', trodAll_mk1 (shut_bool Try.underlying4 _), (trodAll_cons_mk (Below.trod laidOut (by kernel_rfl) (of_decide_eq_true (by kernel_rfl)) k0 bel lt0) (trodAll_cons_mk (shut_string Try.underlying9 w1) trodAll_mk0)), rfl, bel.frame _, fun h => by cases h⟩

theorem over : Rows.entryBackRow.holds Try.pinned (OpenSpec.ofChange Rows.entryBackSpec) :=
  OpenClaim.holds_of_wide 6 Try.f6 rfl rfl rfl rfl rfl rfl rfl ⟨rfl, rfl, rfl, rfl, rfl⟩ rfl rfl rfl rfl rfl (by kernel_rfl) Try.func6 (by kernel_rfl)
    (of_decide_eq_true (by kernel_rfl)) (by unfold Func.isWrapper; first | (rw [if_pos (by decide +kernel)]; kernel_rfl) | (rw [if_neg (by decide +kernel)]; exact ⟨rfl, rfl⟩))
    (fun os started H enc _ => lifted os started H enc)

/-- the statement -/
theorem proved : Rows.EntryBackSaid := over
#print axioms proved
end Go.Proofs.Ytlcaelfkgillmaa.entryBack
