/- Layer 16's reference, over this seat's program: free. -/
import Derived.Test.YtfimfgffbfjkeaaWr1
namespace Go.Proofs.Ytfimfgffbfjkeaa
open Go.ChangeShapes Go.WideShapes Go.ChangeAt Go.RowKit
namespace Wq
open Ck
open Ba (KF Bd Nw)

def us (l : List On) (t : Nat) : Bool := l.any fun o => (o.t : Int) == (t : Int)
def frI (l : List On) (T : Nat) : Int := match (List.range T).find? fun t => !us l t with
  | some t => (t : Int)
  | none => -1
theorem fr_some {l : List On} {T k : Nat} (hk : k < T) (hu : us l k = false) (h : ∀ j, j < k → us l j = true) : frI l T = (k : Int) := by
  have : (List.range T).find? (fun t => !us l t) = some k := by
    rw [List.find?_eq_some_iff_getElem]
    refine ⟨by simp [hu], k, by simpa using hk, by simp, fun j hj => ?_⟩
    simp [h j hj]
  simp [frI, this]
theorem fr_none {l : List On} {T : Nat} (h : ∀ j, j < T → us l j = true) : frI l T = -1 := by
  have : (List.range T).find? (fun t => !us l t) = none := by
    rw [List.find?_eq_none]
    intro t ht
    simp [h t (by simpa using ht)]
  simp [frI, this]
theorem any_take {l : List On} {k : Nat} {o : On} (hk : l[k]? = some o) (p : On → Bool) : (l.take (k + 1)).any p = ((l.take k).any p || p o) := by
  rw [List.take_add_one, hk, List.any_append]
  simp
set_option maxRecDepth 100000 in
set_option maxHeartbeats 3200000 in
theorem free_any {w : World} {G : Nat} {st : Qst} {v : Value} (s : QX w G st v) (hl : st.L.length ≤ 100000) (hT : st.T ≤ 256) :
    Calls Try.prog 48 #[.pointer (some ⟨G, 0, none⟩)] w fun r w' => r = .returned (.int .i64 (frI st.L st.T)) ∧ Below w.heap.size w w' := by
  obtain ⟨oa, c, rfl⟩ := own_sl s.ow
  have HS := hide s
  have hlt := s.lt
  have zo := zero_on
  have zs := on_size on0
  obtain ⟨n, hn⟩ : ∃ n, st.L.length = n := ⟨_, rfl⟩
  have HN := hide hn
  have CE := hide (fun u (b : Below w.heap.size w u) => (s.below b).cells)
  have OW := hide s.ow
  rw [hn] at CE OW hl
  have hn2 : n ≤ 9223372036854775807 := by omega
  obtain ⟨T, hTe⟩ : ∃ T, st.T = T := ⟨_, rfl⟩
  rw [hTe] at CE hT ⊢
  clear s hn HS hTe
  go_enter Try.func48, Try.ntmps48
  go_wp2_with fail
  go_loopw [3] (fun i wr => ∃ k : Nat, k ≤ T ∧ i = .int .i64 (k : Int) ∧ Hid (∀ j, j < k → us st.L j = true) ∧ Below w.heap.size w wr) (fun i _ => T - (intOf i).toNat)
  case atStart => exact ⟨0, Nat.zero_le _, rfl, fun j h => absurd h (Nat.not_lt_zero _), Below.refl _ _⟩
  case round =>
    obtain ⟨k, hk, rfl, NO, bl⟩ := hrel
    have BL := hide bl
    obtain ⟨y0, -, y2⟩ := CE.out wr bl
    have hG : G < wr.heap.size := Nat.lt_of_lt_of_le hlt bl.size
    clear bl
    by_cases hlt2 : k < T
    · have hlt' : (k : Int) < (T : Int) := by omega
      go_wp2_with fail
      rename World => w0
      go_loopw [4, 20] (fun u i wr => ∃ (m : Nat) (z : Bool), m ≤ n ∧ u = .bool z ∧ i = .int .i64 (m : Int) ∧ Hid (z = (st.L.take m).any fun o => (o.t : Int) == (k : Int)) ∧ Below w.heap.size w wr) (fun _ i _ => n - (intOf i).toNat)
      case atStart => exact ⟨0, false, Nat.zero_le _, rfl, rfl, rfl, BL.out⟩
      case round =>
        obtain ⟨m, z, hm, rfl, rfl, ZJ, bm⟩ := hrel
        have BM := hide bm
        clear bm BL y0 y2
        by_cases hml : m < n
        · have hml' : (m : Int) < (n : Int) := by omega
          obtain ⟨o, ho⟩ : ∃ o, st.L[m]? = some o := ⟨_, List.getElem?_eq_getElem (by have := HN.out; omega)⟩
          have OW2 := own_blk OW.out (fun g e => BM.out.block g (OW.out.lt g e).2)
          rw [← HN.out] at OW2
          obtain ⟨b, rfl, ro⟩ := row_ro OW2 ho
          have LD := hide (ldv_on ro)
          have st1 := st_on o (heap_new wr (.cells (onA on0) 62)) (on_size on0)
          rw [setRow_new] at st1
          have g1 : (wr.alloc (.cells (onA o) 62)).cell? ⟨wr.heap.size, 1, none⟩ = some (.int .i64 (o.t : Int)) := (cell_of (heap_new wr _) 1).trans (on_1 o)
          have os_ := on_size o
          have TK := hide (any_take ho fun o => (o.t : Int) == (k : Int))
          rw [← ZJ.out] at TK
          clear OW2 ro ho ZJ
          obtain ⟨A, hA⟩ : ∃ A, onA o = A := ⟨_, rfl⟩
          obtain ⟨Z, hZ⟩ : ∃ Z, onA on0 = Z := ⟨_, rfl⟩
          rw [hA] at LD st1 g1 os_
          rw [hZ] at st1 zo zs
          have B2 := hide (btr BM.out (below_alloc wr (.cells A 62)))
          clear hA hZ
          obtain ⟨ot, hot⟩ : ∃ ot : Int, (o.t : Int) = ot := ⟨_, rfl⟩
          rw [hot] at g1 TK
          clear hot
          obtain ⟨ki, hki⟩ : ∃ ki : Int, (k : Int) = ki := ⟨_, rfl⟩
          cases z
          · cases hq : (ot == (k : Int))
            · rw [hq] at TK
              have NZ : Hid (false = (st.L.take (m + 1)).any fun o => (o.t : Int) == (k : Int)) := by show false = _; rw [TK.out]; rfl
              have hne : ot ≠ (k : Int) := by simpa using hq
              clear TK hki
              go_wp2_with (refine wpL_load rfl 62 _ rfl _ _ rfl LD.out ?_)
              go_roundw
              case rel => exact ⟨m + 1, false, by omega, rfl, by go_num, NZ.out, B2.out⟩
              case measure => simp [intOf]; omega
            · rw [hq] at TK
              have NZ : Hid (true = (st.L.take (m + 1)).any fun o => (o.t : Int) == (k : Int)) := by show true = _; rw [TK.out]; rfl
              have he : ot = (k : Int) := by simpa using hq
              subst he
              clear TK hki
              go_wp2_with (refine wpL_load rfl 62 _ rfl _ _ rfl LD.out ?_)
              go_roundw
              case rel => exact ⟨m + 1, true, by omega, rfl, by go_num, NZ.out, B2.out⟩
              case measure => simp [intOf]; omega
          · have NZ : Hid (true = (st.L.take (m + 1)).any fun o => (o.t : Int) == (k : Int)) := by show true = _; rw [TK.out, Bool.true_or]
            clear TK hki
            go_wp2_with (refine wpL_load rfl 62 _ rfl _ _ rfl LD.out ?_)
            go_roundw
            case rel => exact ⟨m + 1, true, by omega, rfl, by go_num, NZ.out, B2.out⟩
            case measure => simp [intOf]; omega
        · have hml' : ¬ ((m : Int) < (n : Int)) := by omega
          have ZA : Hid (z = us st.L k) := by
            have e := ZJ.out
            rw [List.take_of_length_le (by have := HN.out; omega)] at e
            exact e
          clear ZJ
          cases z
          · have EN := hide (fr_some hlt2 ZA.out.symm NO.out)
            go_wp2_with fail
            go_ret
            exact ⟨by rw [EN.out]; rfl, BM.out⟩
          · have N2 : Hid (∀ j, j < k + 1 → us st.L j = true) := fun j hj => by
              by_cases e : j = k
              · subst e; exact ZA.out.symm
              · exact NO.out j (by omega)
            go_wp2_with fail
            go_roundw
            case rel => exact ⟨k + 1, by omega, by go_num, N2.out, BM.out⟩
            case measure => simp [intOf]; omega
    · have hlt' : ¬ ((k : Int) < (T : Int)) := by omega
      have EN := hide (fr_none (l := st.L) (T := T) fun j hj => NO.out j (by omega))
      go_wp2_with fail
      go_ret
      exact ⟨by rw [EN.out]; rfl, BL.out⟩
end Wq
end Go.Proofs.Ytfimfgffbfjkeaa
