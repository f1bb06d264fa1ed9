/- Package retire, over this seat's program: All. -/
import Derived.Test.YtbceiakihplbcaaTa9
namespace Go.Proofs.Ytbceiakihplbcaa
open Go.ChangeShapes Go.WideShapes Go.ChangeAt Go.RowKit
namespace Rt
open Ck

/-- the cuts of those tids that are settled -/
def csF (Ls Hs : List (List Int)) (ts : List Int) : List (Int × Int) := ts.filterMap fun t => (cutOf t Ls Hs).map fun c => (t, c)
def cuC (l : List (Int × Int)) : List Value := l.flatMap fun z => [.int .i64 z.1, .int .i64 z.2]
theorem cuC_app (l : List (Int × Int)) (z : Int × Int) : cuC (l ++ [z]) = cuC l ++ [.int .i64 z.1, .int .i64 z.2] := by simp [cuC]
theorem cuC_len (l : List (Int × Int)) : (cuC l).length = l.length * 2 := by
  induction l with
  | nil => rfl
  | cons z r ih =>
    have e : cuC (z :: r) = [Value.int .i64 z.1, .int .i64 z.2] ++ cuC r := rfl
    rw [e, List.length_append, ih, List.length_cons (a := z)]
    show 2 + _ = _
    omega
theorem cuC_at : ∀ (l : List (Int × Int)) (k : Nat) (z : Int × Int), l[k]? = some z → (cuC l)[k * 2]? = some (.int .i64 z.1) ∧ (cuC l)[k * 2 + 1]? = some (.int .i64 z.2)
  | [], k, z, h => by simp at h
  | y :: r, 0, z, h => by
    simp at h
    subst h
    exact ⟨rfl, rfl⟩
  | y :: r, k + 1, z, h => by
    obtain ⟨h1, h2⟩ := cuC_at r k z (by simpa using h)
    have e : cuC (y :: r) = [Value.int .i64 y.1, .int .i64 y.2] ++ cuC r := rfl
    rw [e]
    refine ⟨?_, ?_⟩
    · rw [List.getElem?_append_right (by show 2 ≤ (k + 1) * 2; omega), ← h1]
      congr 1
      show (k + 1) * 2 - 2 = _
      omega
    · rw [List.getElem?_append_right (by show 2 ≤ (k + 1) * 2 + 1; omega), ← h2]
      congr 1
      show (k + 1) * 2 + 1 - 2 = _
      omega
theorem csF_take (Ls Hs : List (List Int)) {ts : List Int} {k : Nat} (hk : k < ts.length) : csF Ls Hs (ts.take (k + 1)) = csF Ls Hs (ts.take k) ++ ((cutOf (nth ts k) Ls Hs).map fun c => (nth ts k, c)).toList := by
  unfold csF
  rw [List.take_succ_eq_append_getElem hk, List.filterMap_append, nth_lt ts k hk]
  cases h : cutOf ts[k] Ls Hs <;> simp [h]
theorem csF_len (Ls Hs : List (List Int)) (ts : List Int) : (csF Ls Hs ts).length ≤ ts.length := List.length_filterMap_le _ _
/-- the next one -/
theorem csF_next (Ls Hs : List (List Int)) {ts : List Int} {k : Nat} (hk : k < ts.length) {c : Int} (hc : cutOf (nth ts k) Ls Hs = some c) : (csF Ls Hs ts)[(csF Ls Hs (ts.take k)).length]? = some (nth ts k, c) := by
  have e : csF Ls Hs ts = csF Ls Hs (ts.take (k + 1)) ++ csF Ls Hs (ts.drop (k + 1)) := by
    unfold csF
    rw [← List.filterMap_append, List.take_append_drop]
  rw [e, csF_take Ls Hs hk, hc]
  simp
theorem info_ct : (Try.prog.info? 43).map (fun i => (i.zero, i.size, i.bytes)) = some (some (.agg #[.int .i64 0, .int .i64 0]), 2, 16) := by kernel_rfl
theorem cell_two (w : World) (a b : Value) (t : TypeId) : ∀ j u, [a, b][j]? = some u → (w.alloc (.cells #[a, b] t)).cell? ((⟨w.heap.size, 0, none⟩ : Addr).add j) = some u := by
  intro j u hj
  match j, hj with
  | 0, hj | 1, hj =>
    simp at hj
    subst hj
    simp [Addr.add]
theorem one_two (a b : Int) : ∀ u ∈ [Value.int .i64 a, .int .i64 b], u.oneCell' = true := by
  intro u hu
  simp at hu
  rcases hu with rfl | rfl <;> rfl
set_option maxRecDepth 100000 in
set_option maxHeartbeats 3200000 in
theorem all20_any (ot : Option Addr) (ct : Nat) (ts : List Int) (nt : Nat) (hnt : ts.length = nt) (oa ob : Option Addr) (c d n m : Nat) (ks hs : List (Nat × List Int)) (hn : ks.length = n) (hm : hs.length = m) (w : World) (hT : Ck.At w ot ts) (hA : KAt w oa ks) (hB : KAt w ob hs) (hl : ks.length ≤ 100000) (hl2 : hs.length ≤ 100000) (hl3 : nt ≤ 100000) :
    Calls Try.prog 14 #[.slice ot nt ct, .slice oa n c, .slice ob m d] w fun r w' => ∃ v, r = .returned v ∧ w'.ownsRow w.heap.size 43 2 v (csF (ks.map Prod.snd) (hs.map Prod.snd) ts).length (cuC (csF (ks.map Prod.snd) (hs.map Prod.snd) ts)) ∧ Below w.heap.size w w' := by
  have OF := hide (fun u (bu : Below w.heap.size w u) t => Rt.of_any t oa ob c d n m ks hs hn hm u (hA.below bu) (hB.below bu) hl hl2)
  unfold ofV at OF
  have HT := hide hT
  have HNT := hide hnt
  obtain ⟨i1, hi1, hy1, hy2, hy3⟩ := info_parts info_ct
  have INA := hide (And.intro hi1 (And.intro hy1 (And.intro hy2 hy3)))
  clear hi1 hy1 hy2 hy3 hA hB hT hl hl2 hnt hn hm
  generalize ks.map Prod.snd = Ls at *
  generalize hs.map Prod.snd = Hs at *
  have hn2 : nt ≤ 9223372036854775807 := by omega
  go_enter Try.func14, Try.ntmps14
  go_wp2_with fail
  go_loopw [7, 14] (fun v i wr => ∃ k : Nat, k ≤ nt ∧ i = .int .i64 (k : Int) ∧ wr.ownsRow w.heap.size 43 2 v (csF Ls Hs (ts.take k)).length (cuC (csF Ls Hs (ts.take k))) ∧ Below w.heap.size w wr) (fun _ i _ => nt - (intOf i).toNat)
  case atStart => exact ⟨0, Nat.zero_le _, rfl, World.ownsRow_nil _ _ _ _, Below.refl _ _⟩
  case round =>
    obtain ⟨k, hk, rfl, o, b⟩ := hrel
    have OH := hide o
    have BH := hide b
    by_cases hlt : k < nt
    · have hlt' : (k : Int) < (nt : Int) := by omega
      obtain ⟨g, off, rfl, c0⟩ := HT.out k (by rw [HNT.out]; exact hlt)
      have c1 := cellB c0 b
      have OK := hide (OF.out wr b (nth ts k))
      have HE := hide (csF_take Ls Hs (ts := ts) (k := k) (by rw [HNT.out]; exact hlt))
      have HL := hide (Nat.le_trans (csF_len Ls Hs (ts.take k)) (by rw [List.length_take]; omega : (ts.take k).length ≤ k))
      clear o b c0
      generalize cutOf (nth ts k) Ls Hs = o at *
      generalize nth ts k = t at *
      cases o with
      | none =>
        simp only [Option.getD_none, Option.isSome_none] at OK
        go_wp2_with fail
        refine OK.out.mono ?_
        rintro r w1 ⟨rfl, b1⟩
        have O1 := hide (own_sm OH.out (fun g e => b1.block g (OH.out.lt g e).2))
        have B1 := hide (Rt.btr BH.out b1)
        clear b1 OK
        go_wp2_with fail
        go_roundw
        case rel => exact ⟨k + 1, by omega, by go_num, by rw [HE.out]; simp only [Option.map_none, Option.toList_none, List.append_nil]; exact O1.out, B1.out⟩
        case measure => simp [intOf]; omega
      | some cut =>
        simp only [Option.getD_some, Option.isSome_some] at OK
        go_wp2_with fail
        refine OK.out.mono ?_
        rintro r w1 ⟨rfl, b1⟩
        have b2 := Rt.btr b1 (Ba.below_alloc w1 (.cells #[.int .i64 t, .int .i64 cut] 43))
        have O2 := hide (own_sm OH.out (fun g e => b2.block g (OH.out.lt g e).2))
        have B2 := hide (Rt.btr BH.out b2)
        have CF := hide (cell_two w1 (.int .i64 t) (.int .i64 cut) 43)
        have ON := hide (one_two t cut)
        have L2 := hide B2.out.size
        have hm1 : (csF Ls Hs (ts.take k)).length + 1 ≤ maxLen := by have := HL.out; simp only [maxLen]; omega
        have hm2 : ((csF Ls Hs (ts.take k)).length + 1) * 16 ≤ 140737488355328 := by have := HL.out; omega
        clear b1 b2 OK OH
        go_wp2_with (at_builtin; refine wpList_append_own_at _ rfl _ _ 40 rfl w.heap.size 43 i1 _ 2 16 Try.underlying40 INA.out.1 INA.out.2.1 INA.out.2.2.1 INA.out.2.2.2 rfl (by decide) _ _ _ rfl O2.out ⟨w1.heap.size, 0, none⟩ 1 1 [.int .i64 t, .int .i64 cut] rfl rfl CF.out ON.out hm1 hm2 L2.out ?_)
        intro v' w' o' g' x' e'
        have O3 := hide o'
        have B3 : Hid (Below w.heap.size w w') := by
          refine ⟨g'.os.trans B2.out.os, g'.tape.trans B2.out.tape, g'.output.trans B2.out.output, Nat.le_trans B2.out.size g'.size, fun x hx => (g'.block x (Nat.lt_of_lt_of_le hx B2.out.size) (fun q => ?_)).trans (B2.out.block x hx)⟩
          have := (O2.out.lt x q.symm).1
          omega
        clear o' g' x' e' O2 B2 CF ON L2 hm1 hm2
        go_wp2_with fail
        go_roundw
        case rel => exact ⟨k + 1, by omega, by go_num, by rw [HE.out, Option.map_some, Option.toList_some, cuC_app, List.length_append]; exact O3.out, B3.out⟩
        case measure => simp [intOf]; omega
    · have hlt' : ¬ ((k : Int) < (nt : Int)) := by omega
      have ET : Hid (ts.take k = ts) := by show _ = _; exact List.take_of_length_le (by rw [HNT.out]; omega)
      rw [ET.out] at OH
      clear o b ET
      go_wp2_with fail
      go_ret
      exact ⟨_, rfl, OH.out, BH.out⟩
end Rt
end Go.Proofs.Ytbceiakihplbcaa
