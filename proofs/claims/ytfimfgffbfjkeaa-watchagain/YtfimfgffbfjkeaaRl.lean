/- The reference's List, over this seat's program. -/
import Derived.Test.YtfimfgffbfjkeaaRb
namespace Go.Proofs.Ytfimfgffbfjkeaa
open Go.ChangeShapes Go.WideShapes Go.ChangeAt Go.RowKit
namespace Ck

/-- n: how many numbers there are up to the last one that is not nought -/
def IsL (F : Nat → Int) (n : Nat) : Prop := n ≤ 256 ∧ (∀ j, n ≤ j → j < 256 → F j = 0) ∧ (n = 0 ∨ F (n - 1) ≠ 0)
/-- the first k numbers -/
def pre (F : Nat → Int) (k : Nat) : List Int := (List.range k).map F
theorem pre_length (F : Nat → Int) (k : Nat) : (pre F k).length = k := by simp [pre]
theorem nth_pre (F : Nat → Int) (k j : Nat) (h : j < k) : nth (pre F k) j = F j := by simp [nth, pre, h]
theorem pre_succ (F : Nat → Int) (k : Nat) : pre F (k + 1) = pre F k ++ [F k] := by simp [pre, List.range_succ]
theorem canon_pre (F : Nat → Int) (n : Nat) (h : IsL F n) : Canon (pre F n) := by
  have : IsT (pre F n) (pre F n).length := by
    refine ⟨Nat.le_refl _, fun j hj => nth_out _ _ hj, ?_⟩
    rw [pre_length]
    rcases h.2.2 with h | h
    · exact .inl h
    · by_cases e : n = 0
      · exact .inl e
      · right; rw [nth_pre F n _ (by omega)]; exact h
  exact this.uniq.symm
theorem nth_pre_all (F : Nat → Int) (n : Nat) (h : IsL F n) (k : Nat) (hk : k < 256) : nth (pre F n) k = F k := by
  by_cases q : k < n
  · exact nth_pre F n k q
  · rw [nth_out _ _ (by rw [pre_length]; omega), h.2.1 k (by omega) hk]

theorem owns_at {w : World} {base : Nat} {e : TypeId} {v : Value} {l : List Int} (h : w.ownsRow base e 1 v l.length (l.map (Value.int .i64))) : ∃ oa c, v = .slice oa l.length c ∧ At w oa l := by
  rcases h.2 with ⟨rfl, h0⟩ | ⟨g, cap, cur, rfl, _, hg, _, _, hcs, htk⟩
  · refine ⟨none, 0, by rw [h0], fun k hk => by omega⟩
  · refine ⟨_, cap, rfl, fun k hk => ⟨g, 0, rfl, ?_⟩⟩
    rw [Nat.zero_add, cell_of hg k]
    have : (cur.toList.take (l.length * 1))[k]? = (l.map (Value.int .i64))[k]? := by rw [htk]
    rw [List.getElem?_take] at this
    simp [hk] at this
    rw [nth_lt l k hk]
    rw [← this]

set_option maxRecDepth 100000 in
set_option maxHeartbeats 1600000 in
theorem rlist_any (b off : Nat) (F : Nat → Int) (w : World) (h : RA w b off F) (hF : ∀ k, k < 256 → 0 ≤ F k) :
    Calls Try.prog 32 #[.pointer (some ⟨b, off, none⟩)] w fun r w' => ∃ L oa c, r = .returned (.slice oa L.length c) ∧ At w' oa L ∧ L.length ≤ 256 ∧ Canon L ∧ (∀ k, k < 256 → nth L k = F k) ∧ Below w.heap.size w w' := by
  have H := hide h
  have HF := hide hF
  have hlt : b < w.heap.size := World.block_lt_of_cell? w _ (h 0 (by decide)).1
  clear h hF
  obtain ⟨i0, hi, hz0, hz1, hz2⟩ := info_parts info_int
  have INF := hide (And.intro hi (And.intro hz0 (And.intro hz1 hz2)))
  clear hi hz0 hz1 hz2
  go_enter Try.func32, Try.ntmps32
  go_wp2_with fail
  go_loop [3, 4] (fun la i => ∃ k n : Nat, k ≤ 256 ∧ i = .int .i64 k ∧ la = .int .i64 n ∧ n ≤ k ∧ (∀ j, n ≤ j → j < k → F j = 0) ∧ (n = 0 ∨ F (n - 1) ≠ 0)) (fun _ i => 256 - (intOf i).toNat)
  case atStart => exact ⟨0, 0, by decide, rfl, rfl, Nat.le_refl _, fun j _ hj => absurd hj (Nat.not_lt_zero _), .inl rfl⟩
  case round =>
    obtain ⟨k, n, hk, rfl, rfl, hnk, hz, hl⟩ := hrel
    have HZ := hide hz
    have HL := hide hl
    clear hz hl
    by_cases hk2 : k < 256
    · have c1 := (H.out k hk2).1
      have hk' : (k : Int) < 256 := by omega
      have h0 := HF.out k hk2
      by_cases hp : 0 < F k
      · have hp' : decide (0 < F k) = true := by simpa using hp
        go_wp2
        go_round
        case rel => exact ⟨k + 1, k + 1, by omega, by go_num, by go_num, Nat.le_refl _, fun j h1 h2 => by omega, .inr (by simp; omega)⟩
        case measure => simp [intOf]; omega
      · have hp' : decide (0 < F k) = false := by simpa using hp
        go_wp2
        go_round
        case rel => exact ⟨k + 1, n, by omega, by go_num, rfl, by omega, fun j h1 h2 => by
          by_cases e : j = k
          · subst e; omega
          · exact HZ.out j h1 (by omega), HL.out⟩
        case measure => simp [intOf]; omega
    · have e : k = 256 := by omega
      subst e
      have IS : Hid (IsL F n) := ⟨hnk, HZ.out, HL.out⟩
      clear HZ HL
      go_wp2_with fail
      go_loopw [5, 6] (fun v i wr => ∃ k : Nat, k ≤ n ∧ i = .int .i64 k ∧ wr.ownsRow w.heap.size 3 1 v k ((pre F k).map (Value.int .i64)) ∧ Below w.heap.size w wr) (fun _ i _ => n - (intOf i).toNat)
      case atStart => exact ⟨0, Nat.zero_le _, rfl, World.ownsRow_nil _ _ _ _, Below.refl _ _⟩
      case round =>
        obtain ⟨k, hk3, rfl, hown, hbl⟩ := hrel
        by_cases hkn : k < n
        · have hk4 : k < 256 := by omega
          have c1 := ((hbl.cell (p := ⟨b, off + k, none⟩) hlt).trans (H.out k hk4).1)
          have OW := hide hown
          have BL := hide hbl
          clear hown hbl
          have hk' : (k : Int) < 256 := by omega
          go_wp2_with (at_builtin; refine wpList_append_own _ rfl _ _ 31 rfl w.heap.size 3 i0 (.int .i64 0) 1 8 Try.underlying31 INF.out.1 INF.out.2.1 INF.out.2.2.1 INF.out.2.2.2 rfl (by decide) _ _ _ rfl (OW.out.alloc _) ⟨wr.heap.size, 0, none⟩ 1 1 [.int .i64 (F k)] rfl rfl ?c1 ?c2 ?c3 ?c4 ?c5 ?_)
          case c1 =>
            intro j u hj
            match j, hj with
            | 0, hj => simp at hj; subst hj; simp [Addr.add]
          case c2 => intro u hu; simp at hu; subst hu; rfl
          case c3 => unfold maxLen; omega
          case c4 => omega
          case c5 => have := BL.out.size; simp; omega
          · intro v' w1 hown' hgrow _
            have BL2 : Hid (Below w.heap.size w w1) := (BL.out.alloc BL.out.size _).grown hgrow (by have := BL.out.size; simp; omega) (fun x hx => (OW.out.lt x hx).1)
            have OW2 : Hid (w1.ownsRow w.heap.size 3 1 v' (k + 1) ((pre F (k + 1)).map (Value.int .i64))) := by
              show World.ownsRow _ _ _ _ _ _ _
              rw [pre_succ, List.map_append]
              exact hown'
            clear hown' hgrow
            go_wp2
            go_roundw
            case rel => exact ⟨k + 1, by omega, by go_num, OW2.out, BL2.out⟩
            case measure => simp [intOf]; omega
        · have e : k = n := by omega
          subst e
          have OW := hide hown
          have BL := hide hbl
          obtain ⟨oa, c, hv, hat⟩ := owns_at (l := pre F k) (by rw [pre_length]; exact hown)
          rw [hv]
          have AT := hide hat
          clear hown hbl hv hat OW
          go_wp2
          go_ret
          exact ⟨pre F k, oa, c, rfl, AT.out, by rw [pre_length]; omega, canon_pre F k IS.out, nth_pre_all F k IS.out, BL.out⟩
end Ck
end Go.Proofs.Ytfimfgffbfjkeaa
