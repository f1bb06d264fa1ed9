/- Package reel: Take of more bytes, over this seat's program. -/
import Derived.Test.YtlcaelfkgillmaaEd
namespace Go.Proofs.Ytlcaelfkgillmaa
open Go.ChangeShapes Go.WideShapes Go.ChangeAt Go.RowKit
namespace Re
open Ba

set_option maxRecDepth 100000 in
set_option maxHeartbeats 800000 in
theorem take_bad (s : ByteArray) (b : Nat) (h0 : 0 < s.size) (hb : 240 ≤ b) (hb2 : b < 256) (hs : (nbs s)[0]? = some b) (h : b = 240 ∨ 246 < b ∨ (s.size : Int) ≤ (b : Int) - 240) (w : World) :
    Calls Try.prog 32 #[.string s] w fun r w' => r = .returned (.tuple #[.int .i64 0, .string (bs []), .int .i64 4]) ∧ w' = w := by
  have ix := ix_str s 0 b hs
  have hne := ne_empty s h0
  simp at ix
  have d0 : decide ((b : Int) < 240) = false := by simp; omega
  by_cases h1 : b = 240
  · have d1 : decide ((b : Int) - 240 < 1) = true := by simp; omega
    clear hs h
    go_enter Try.func32, Try.ntmps32
    go_wp2_with fail
    go_ret3
    exact ⟨rfl, rfl⟩
  have d1 : decide ((b : Int) - 240 < 1) = false := by simp; omega
  by_cases h2 : 246 < b
  · have d2 : decide (6 < (b : Int) - 240) = true := by simp; omega
    clear hs h
    go_enter Try.func32, Try.ntmps32
    go_wp2_with fail
    go_ret3
    exact ⟨rfl, rfl⟩
  have d2 : decide (6 < (b : Int) - 240) = false := by simp; omega
  have d3 : decide ((s.size : Int) ≤ (b : Int) - 240) = true := by simp; omega
  clear hs h
  go_enter Try.func32, Try.ntmps32
  go_wp2_with fail
  go_ret3
  exact ⟨rfl, rfl⟩

theorem nbs_length (s : ByteArray) : (nbs s).length = s.size := by
  show (s.data.toList.map _).length = s.data.size
  simp
theorem nbs_extract (s : ByteArray) (a b : Nat) : nbs (s.extract a b) = ((nbs s).take b).drop a := by
  simp [nbs, ByteArray.data_extract, Array.toList_extract, List.map_take, List.map_drop, List.drop_take]
theorem nbs_bs (L : List Nat) (h : ∀ b ∈ L, b < 256) : nbs (bs L) = L := by
  have e : L.map (UInt8.toNat ∘ fun b => UInt8.ofNat b) = L.map id := List.map_congr_left fun b hb => by
    have := h b hb
    simp
    omega
  simpa [nbs, bs] using e
theorem nbs_lt (s : ByteArray) : ∀ b ∈ nbs s, b < 256 := by
  intro b hb
  simp [nbs] at hb
  obtain ⟨x, _, rfl⟩ := hb
  exact x.toNat_lt
theorem nbs_inj {s t : ByteArray} (h : nbs s = nbs t) : s = t := by
  have : s.data.toList = t.data.toList := (List.map_inj_right (fun a b e => UInt8.toNat_inj.1 e)).1 h
  have : s.data = t.data := Array.toList_inj.1 this
  cases s; cases t; simp_all
theorem conv_bytes (t : ByteArray) (w : World) : ∃ C W, (convert 9 53 (.string t)).run Try.prog w = .ok (.slice (some ⟨w.heap.size, 0, none⟩) t.size C) W ∧ Below w.heap.size w W ∧ ∀ j b : Nat, (nbs t)[j]? = some b → W.cell? ⟨w.heap.size, j, none⟩ = some (.int .u8 (b : Int)) := by
  refine ⟨_, _, run_bytes_of_string (P := Try.prog) w 9 53 5 t Try.underlying9 Try.underlying53 Try.underlying5, btr (bdrew1 w) (below_alloc w.drew _), fun j b hj => ?_⟩
  have hl : j < t.data.size := by
    have := (List.getElem?_eq_some_iff.1 hj).1
    simpa [nbs] using this
  have := World.cell?_alloc_mark w.drew (bytesRow t (grownCap w t.size 0 5)) 5 ((bytesRow t (grownCap w t.size 0 5)).size, (bytesRow t (grownCap w t.size 0 5)).size + 1) j
  rw [bytesRow_at _ _ _ hl] at this
  refine this.trans ?_
  have e := (List.getElem?_eq_some_iff.1 hj).2
  simp [nbs] at e
  rw [e]

theorem or_byte (n b : Nat) (hn : n < 1099511627776) (hb : b < 256) : bits .or .i64 ((n : Int) * 256) (b : Int) = ((256 * n + b : Nat) : Int) := by
  have h1 : (BitVec.ofInt 64 ((n * 256 : Nat) : Int)).toNat = n * 256 := ofInt_u64 _ (by omega)
  have h2 : (BitVec.ofInt 64 (b : Int)).toNat = b := ofInt_u64 _ (by omega)
  have e : ((n : Int) * 256) = ((n * 256 : Nat) : Int) := by omega
  rw [e]
  have hj : n * 256 ||| b = n * 256 + b := nat_join 8 _ _ (by omega) hb
  show IntKind.i64.wrap ((BitVec.ofInt 64 ((n * 256 : Nat) : Int) ||| BitVec.ofInt 64 (b : Int)).toNat : Int) = _
  rw [BitVec.toNat_or, h1, h2, hj]
  rw [IntKind.wrap_i64]
  omega

theorem vl_snoc (L : List Nat) (b : Nat) : vl (L ++ [b]) = 256 * vl L + b := by simp [vl]
theorem vl_take (L : List Nat) (j b : Nat) (h : L[j]? = some b) : vl (L.take (j + 1)) = 256 * vl (L.take j) + b := by
  rw [List.take_add_one, h]
  exact vl_snoc _ _
theorem vl_lt (L : List Nat) (h : ∀ b ∈ L, b < 256) (j : Nat) : vl (L.take j) < 256 ^ j := by
  induction j with
  | zero => simp [vl]
  | succ j ih =>
    by_cases hj : j < L.length
    · rw [vl_take L j L[j] (by simp [hj]), Nat.pow_succ]
      have := h L[j] (List.getElem_mem hj)
      omega
    · rw [List.take_of_length_le (by omega)]
      rw [List.take_of_length_le (by omega)] at ih
      rw [Nat.pow_succ]
      omega

theorem szn_lo (n : Nat) (h : n ≤ 1099511627776) : szn n = (spl n).length := by simp [szn, h]
theorem szn_hi (n : Nat) (h : ¬ n ≤ 1099511627776) : szn n = 0 := by simp [szn, h]
theorem szn_le (n : Nat) : szn n ≤ 7 := by
  by_cases h : n ≤ 1099511627776
  · rw [szn_lo n h]; exact (spl_len n).2
  · rw [szn_hi n h]; omega
theorem size_any (n : Nat) (w : World) :
    Calls Try.prog 42 #[.int .i64 (n : Int)] w fun r w' => r = .returned (.int .i64 (szn n : Int)) ∧ Below w.heap.size w w' := by
  by_cases h : n ≤ 1099511627776
  · rw [szn_lo n h]
    exact size_ok n h w
  · rw [szn_hi n h]
    refine (size_no (n : Int) (by
      have : ¬ (okR (n : Int) = true) := by rw [okR_iff]; omega
      simpa using this) w).mono ?_
    rintro r w' ⟨rfl, rfl⟩
    exact ⟨rfl, Below.refl _ _⟩

set_option maxRecDepth 100000 in
set_option maxHeartbeats 1600000 in
theorem take_loop (s : ByteArray) (b k : Nat) (h1 : 1 ≤ k) (h6 : k ≤ 6) (hk : k < s.size) (hbk : b = 240 + k) (hs : (nbs s)[0]? = some b) (w : World) :
    Calls Try.prog 32 #[.string s] w fun r w' => r = .returned (bif szn (vl (nbs (s.extract 1 (1 + k)))) == 1 + k then .tuple #[.int .i64 (vl (nbs (s.extract 1 (1 + k))) : Int), .string (s.extract (1 + k) s.size), .int .i64 0] else .tuple #[.int .i64 0, .string (bs []), .int .i64 4]) ∧ Below w.heap.size w w' := by
  have ix := ix_str s 0 b hs
  have hne := ne_empty s (by omega)
  simp at ix
  have h1' : (1 : Int) ≤ (k : Int) := by omega
  have h6' : (k : Int) ≤ 6 := by omega
  have hk' : (k : Int) < (s.size : Int) := by omega
  have hb' : (b : Int) - 240 = (k : Int) := by omega
  have d0 : decide ((b : Int) < 240) = false := by simp; omega
  have d1 : decide ((k : Int) < 1) = false := by simp; omega
  have d2 : decide (6 < (k : Int)) = false := by simp; omega
  have d3 : decide ((s.size : Int) ≤ (k : Int)) = false := by simp; omega
  obtain ⟨C, W, cv, hW, hcell⟩ := conv_bytes (s.extract 1 (1 + k)) w
  have esz : (s.extract 1 (1 + k)).size = k := by rw [← nbs_length, nbs_extract, List.length_drop, List.length_take, nbs_length]; omega
  rw [esz] at cv
  have ES := hide esz
  have HW := hide hW
  have HC := hide hcell
  have HL := hide (nbs_lt (s.extract 1 (1 + k)))
  have HN := hide ((nbs_length (s.extract 1 (1 + k))).trans esz)
  generalize hD : nbs (s.extract 1 (1 + k)) = D at HC HL HN ⊢
  clear hs hbk hW hcell esz hD
  go_enter Try.func32, Try.ntmps32
  go_wp2_with fail
  go_loop [6, 41] (fun n i => ∃ j : Nat, j ≤ k ∧ i = .int .i64 (j : Int) ∧ n = .int .i64 ((vl (D.take j) : Nat) : Int)) (fun _ i => k - (intOf i).toNat)
  case atStart => exact ⟨0, Nat.zero_le _, rfl, rfl⟩
  case round =>
    obtain ⟨j, hj, rfl, rfl⟩ := hrel
    by_cases hjk : j < k
    · have hjk' : decide ((j : Int) < (k : Int)) = true := by simp; omega
      obtain ⟨x, hx⟩ : ∃ x, D[j]? = some x := ⟨D[j]'(by rw [HN.out]; exact hjk), by simp [HN.out, hjk]⟩
      have hx256 : x < 256 := HL.out x (List.mem_of_getElem? hx)
      have hcl := HC.out j x hx
      have hvl : vl (D.take j) < 1099511627776 := Nat.lt_of_lt_of_le (vl_lt D HL.out j) (by
        have : 256 ^ j ≤ 256 ^ 5 := Nat.pow_le_pow_right (by decide) (by omega)
        exact this)
      have hor := or_byte (vl (D.take j)) x hvl hx256
      have VT := hide (vl_take D j x hx)
      clear hx
      generalize vl (D.take j) = V at hvl hor VT ⊢
      go_wp2_with fail
      go_round
      case rel => exact ⟨j + 1, by omega, by go_num, by rw [VT.out]; simp⟩
      case measure => simp [intOf]; omega
    · have hjk' : decide ((j : Int) < (k : Int)) = false := by simp; omega
      have e : j = k := by omega
      subst e
      rw [List.take_of_length_le (by rw [HN.out]; exact Nat.le_refl _)]
      generalize hV : vl D = V
      have HV := hide hV
      clear hV
      have hz := szn_le V
      generalize hS : szn V = Z at hz ⊢
      have HS := hide hS
      clear hS
      go_wp2_with fail
      refine (size_any V _).mono ?_
      rw [HS.out]
      rintro r w1 ⟨rfl, hb1⟩
      have B1 := hide (btr HW.out hb1)
      clear hb1
      by_cases hZ : Z = 1 + j
      · have hz' : ((Z : Int) != 1 + (j : Int)) = false := by simp; omega
        have HZ : Hid ((Z == 1 + j) = true) := by show _ = _; simpa using hZ
        clear hZ
        go_wp2_with fail
        go_region
        all_goals
          go_wp2
          go_ret3
          exact ⟨by rw [HV.out, HS.out, HZ.out]; rfl, btr B1.out (bdrew1 _)⟩
      · have hz' : ((Z : Int) != 1 + (j : Int)) = true := by simp; omega
        have HZ : Hid ((Z == 1 + j) = false) := by show _ = _; simpa using hZ
        clear hZ
        go_wp2_with fail
        go_ret3
        exact ⟨by rw [HV.out, HS.out, HZ.out]; rfl, B1.out⟩

set_option maxRecDepth 100000 in
theorem take_any (s : ByteArray) (w : World) :
    Calls Try.prog 32 #[.string s] w fun r w' => r = .returned (match tk (nbs s) with | some (n, k) => .tuple #[.int .i64 (n : Int), .string (s.extract k s.size), .int .i64 0] | none => .tuple #[.int .i64 0, .string (bs []), .int .i64 4]) ∧ Below w.heap.size w w' := by
  cases hn : nbs s with
  | nil =>
    have e : s = bs [] := nbs_inj (by rw [hn, nbs_bs _ (by simp)])
    subst e
    refine (take_empty w).mono ?_
    rintro r w' ⟨rfl, rfl⟩
    exact ⟨rfl, Below.refl _ _⟩
  | cons b t =>
    have hb : (nbs s)[0]? = some b := by rw [hn]; rfl
    have hl : s.size = t.length + 1 := by rw [← nbs_length, hn]; rfl
    have hb2 : b < 256 := nbs_lt s b (by rw [hn]; simp)
    by_cases h : b < 240
    · refine (take_lo s b (by omega) h hb w).mono ?_
      rintro r w' ⟨rfl, h2⟩
      exact ⟨by simp [tk, h], h2⟩
    · by_cases h2 : 1 ≤ b - 240 ∧ b - 240 ≤ 6 ∧ b - 240 ≤ t.length
      · refine (take_loop s b (b - 240) h2.1 h2.2.1 (by omega) (by omega) hb w).mono ?_
        have e : nbs (s.extract 1 (1 + (b - 240))) = t.take (b - 240) := by
          rw [nbs_extract, hn, Nat.add_comm 1]
          rfl
        rw [e]
        rintro r w' ⟨rfl, h3⟩
        refine ⟨?_, h3⟩
        cases hz : szn (vl (t.take (b - 240))) == 1 + (b - 240)
        · have : ¬ (szn (vl (t.take (b - 240))) = 1 + (b - 240)) := by simpa using hz
          simp [tk, h, this]
        · have : szn (vl (t.take (b - 240))) = 1 + (b - 240) := by simpa using hz
          simp only [tk, if_neg h, h2.1, h2.2.1, h2.2.2, this, and_self, if_true, cond_true]
      · refine (take_bad s b (by omega) (by omega) hb2 hb (by omega) w).mono ?_
        rintro r w' ⟨rfl, rfl⟩
        refine ⟨?_, Below.refl _ _⟩
        have : ¬ (1 ≤ b - 240 ∧ b - 240 ≤ 6 ∧ b - 240 ≤ t.length ∧ szn (vl (t.take (b - 240))) = 1 + (b - 240)) := fun q => h2 ⟨q.1, q.2.1, q.2.2.1⟩
        simp only [tk, if_neg h, if_neg this]
theorem take_none (s : ByteArray) (h : tk (nbs s) = none) (w : World) :
    Calls Try.prog 32 #[.string s] w fun r w' => r = .returned (.tuple #[.int .i64 0, .string (bs []), .int .i64 4]) ∧ Below w.heap.size w w' := by
  have := take_any s w
  rw [h] at this
  exact this
theorem take_some (s : ByteArray) (n k : Nat) (h : tk (nbs s) = some (n, k)) (w : World) :
    Calls Try.prog 32 #[.string s] w fun r w' => r = .returned (.tuple #[.int .i64 (n : Int), .string (s.extract k s.size), .int .i64 0]) ∧ Below w.heap.size w w' := by
  have := take_any s w
  rw [h] at this
  exact this
end Re
end Go.Proofs.Ytlcaelfkgillmaa
