/- Package reel: Take of more bytes, over this seat's program. -/
import Derived.Test.YtakbbhngcdccpaaGreatEd
namespace Go.Proofs.YtakbbhngcdccpaaGreat
open Go.ChangeShapes Go.WideShapes Go.ChangeAt Go.RowKit
namespace Re
open Ba

theorem nbs_length (s : ByteArray) : (nbs s).length = s.size := by
  show (s.data.toList.map _).length = s.data.size
  simp
theorem nbs_extract (s : ByteArray) (a b : Nat) : nbs (s.extract a b) = ((nbs s).take b).drop a := by
  simp [nbs, ByteArray.data_extract, Array.toList_extract, List.map_take, List.map_drop, List.drop_take]
theorem nbs_bs (L : List Nat) (h : ∀ b ∈ L, b < 256) : nbs (bs L) = L := by
  have e : L.map (UInt8.toNat ∘ fun b => UInt8.ofNat b) = L.map id := List.map_congr_left fun b hb => by
    have := h b hb
    simp
    omega
  simpa [nbs, bs] using e
theorem nbs_lt (s : ByteArray) : ∀ b ∈ nbs s, b < 256 := by
  intro b hb
  simp [nbs] at hb
  obtain ⟨x, _, rfl⟩ := hb
  exact x.toNat_lt
theorem nbs_inj {s t : ByteArray} (h : nbs s = nbs t) : s = t := by
  have : s.data.toList = t.data.toList := (List.map_inj_right (fun a b e => UInt8.toNat_inj.1 e)).1 h
  have : s.data = t.data := Array.toList_inj.1 this
  cases s; cases t; simp_all
theorem or_byte (n b : Nat) (hn : n < 1099511627776) (hb : b < 256) : bits .or .i64 ((n : Int) * 256) (b : Int) = ((256 * n + b : Nat) : Int) := by
  have h1 : (BitVec.ofInt 64 ((n * 256 : Nat) : Int)).toNat = n * 256 := ofInt_u64 _ (by omega)
  have h2 : (BitVec.ofInt 64 (b : Int)).toNat = b := ofInt_u64 _ (by omega)
  have e : ((n : Int) * 256) = ((n * 256 : Nat) : Int) := by omega
  rw [e]
  have hj : n * 256 ||| b = n * 256 + b := nat_join 8 _ _ (by omega) hb
  show IntKind.i64.wrap ((BitVec.ofInt 64 ((n * 256 : Nat) : Int) ||| BitVec.ofInt 64 (b : Int)).toNat : Int) = _
  rw [BitVec.toNat_or, h1, h2, hj]
  rw [IntKind.wrap_i64]
  omega

theorem vl_snoc (L : List Nat) (b : Nat) : vl (L ++ [b]) = 256 * vl L + b := by simp [vl]
theorem vl_take (L : List Nat) (j b : Nat) (h : L[j]? = some b) : vl (L.take (j + 1)) = 256 * vl (L.take j) + b := by
  rw [List.take_add_one, h]
  exact vl_snoc _ _
theorem vl_lt (L : List Nat) (h : ∀ b ∈ L, b < 256) (j : Nat) : vl (L.take j) < 256 ^ j := by
  induction j with
  | zero => simp [vl]
  | succ j ih =>
    by_cases hj : j < L.length
    · rw [vl_take L j L[j] (by simp [hj]), Nat.pow_succ]
      have := h L[j] (List.getElem_mem hj)
      omega
    · rw [List.take_of_length_le (by omega)]
      rw [List.take_of_length_le (by omega)] at ih
      rw [Nat.pow_succ]
      omega

theorem szn_lo (n : Nat) (h : n ≤ 1099511627776) : szn n = (spl n).length := by simp [szn, h]
theorem szn_hi (n : Nat) (h : ¬ n ≤ 1099511627776) : szn n = 0 := by simp [szn, h]
theorem szn_le (n : Nat) : szn n ≤ 7 := by
  by_cases h : n ≤ 1099511627776
  · rw [szn_lo n h]; exact (spl_len n).2
  · rw [szn_hi n h]; omega
end Re
end Go.Proofs.YtakbbhngcdccpaaGreat
