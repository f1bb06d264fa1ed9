import Derived.Test.YtocmdehpbipmlaaZjSheet6
/- Encode and Decode, by what lies in memory; a right script is small. -/
namespace Go.Proofs.Ytocmdehpbipmlaa
open Go.ChangeShapes Go.WideShapes Go.ChangeAt Go.RowKit
namespace Sh
open De Ba Re

theorem epls_lt (l : List Int) : ∀ b ∈ De.pls l, b < 256 := by
  intro b hb
  simp only [De.pls, List.mem_flatMap] at hb
  obtain ⟨n, _, hb⟩ := hb
  exact spl_lt _ b hb
theorem rpls_lt (l : List Int) : ∀ b ∈ Re.pls l, b < 256 := by
  intro b hb
  simp only [Re.pls, List.mem_flatMap] at hb
  obtain ⟨n, _, hb⟩ := hb
  exact spl_lt _ b hb
theorem plist_lt (l : List Int) : ∀ b ∈ plist l, b < 256 := by
  intro b hb
  rw [plist, List.mem_append] at hb
  rcases hb with hb | hb
  · exact spl_lt _ b hb
  · exact rpls_lt _ b hb
theorem eps_lt (ps : List (List OpD)) : ∀ b ∈ eps ps, b < 256 := by
  intro b hb
  rw [eps, List.mem_flatMap] at hb
  obtain ⟨q, _, hb⟩ := hb
  rw [epr, List.mem_append] at hb
  rcases hb with hb | hb
  · exact spl_lt _ b hb
  · rw [List.mem_flatMap] at hb
    obtain ⟨o, _, hb⟩ := hb
    exact epls_lt _ b hb
theorem sen_lt (s : Sc) : ∀ b ∈ sen s, b < 256 := by
  intro b hb
  simp only [sen, List.mem_append] at hb
  rcases hb with ((hb | hb) | hb) | hb
  · exact epls_lt _ b hb
  · exact eps_lt _ b hb
  · exact plist_lt _ b hb
  · exact plist_lt _ b hb
theorem sen_len {s : Sc} (h : schk s = 0) : (sen s).length ≤ 500000 := by
  obtain ⟨t12, m12, h32, h8, h200, h64, h0, har, hap, had⟩ := schk_zero h
  have h1 := De.pls_len [s.T, s.M, (s.ps.length : Int)]
  have h2 := eps_len har h32 h8 s.ps.length
  rw [List.take_length] at h2
  have h3 := plist_len (mv 1 s.pl) 200 (by rw [mv_len]; exact h200)
  have h4 := plist_len s.dr 64 h64
  simp only [sen, List.length_append]
  simp only [List.length_cons, List.length_nil] at h1
  omega
theorem schk_small {T M : Int} {ps : List (List OpD)} {pl dr : List Int} (h : schk ⟨T, M, ps, pl, dr⟩ = 0) : Small ps pl dr := by
  obtain ⟨t12, m12, h32, h8, h200, h64, h0, har, hap, had⟩ := schk_zero h
  simp only at h32 h8 h200 h64 har
  exact ⟨by omega, fun q hq => Nat.le_trans (h32 q hq) (by decide), fun q hq o ho => Nat.le_trans (chk_zero (ari_mem har hq ho)).2.2.1 (by decide), by omega, by omega⟩
theorem decode_is (E : ByteArray) (T M : Int) (ps : List (List OpD)) (pl dr : List Int) (hE : sdec E = some ⟨T, M, ps, pl, dr⟩) (w : World) (hs : E.size ≤ 5000000) :
    Calls Try.prog 19 #[.string E] w fun r w' => (∃ pa la da pc lc dc, r = .returned (.tuple #[.agg #[.int .i64 T, .int .i64 M, .slice pa ps.length pc, .slice la pl.length lc, .slice da dr.length dc], .int .i64 0]) ∧ SAt w' ⟨T, M, ps, pl, dr⟩ pa la da) ∧ Below w.heap.size w w' := by
  refine (sdecode_any E w hs).mono ?_
  rintro r w' ⟨hD, b⟩
  refine ⟨?_, b⟩
  rcases hD with ⟨hn, _⟩ | ⟨T', M', ps', pl', dr', pa, la, da, pc, lc, dc, hs, rfl, hA⟩
  · rw [hE] at hn
    cases hn
  · rw [hE] at hs
    cases hs
    exact ⟨pa, la, da, pc, lc, dc, rfl, hA⟩
theorem decode_no (E : ByteArray) (hE : sdec E = none) (w : World) (hs : E.size ≤ 5000000) :
    Calls Try.prog 19 #[.string E] w fun r w' => r = .returned (.tuple #[.agg #[.int .i64 0, .int .i64 0, .slice none 0 0, .slice none 0 0, .slice none 0 0], .int .i64 4]) ∧ Below w.heap.size w w' := by
  refine (sdecode_any E w hs).mono ?_
  rintro r w' ⟨hD, b⟩
  refine ⟨?_, b⟩
  rcases hD with ⟨_, h⟩ | ⟨T', M', ps', pl', dr', pa, la, da, pc, lc, dc, hs, _⟩
  · exact h
  · rw [hE] at hs
    cases hs
theorem encode_is (T M : Int) (ps : List (List OpD)) (pl dr : List Int) (pa la da : Option Addr) (pc lc dc : Nat) (w : World) (hS : SAt w ⟨T, M, ps, pl, dr⟩ pa la da) (hx : schk ⟨T, M, ps, pl, dr⟩ = 0) (E : ByteArray) (hE : bs (sen ⟨T, M, ps, pl, dr⟩) = E) :
    Calls Try.prog 15 #[.agg #[.int .i64 T, .int .i64 M, .slice pa ps.length pc, .slice la pl.length lc, .slice da dr.length dc]] w fun r w' => r = .returned (.tuple #[.string E, .int .i64 0]) ∧ Below w.heap.size w w' := by
  subst hE
  exact sencode_ok T M ps pl dr pa la da pc lc dc w hS hx
theorem sdec_bytes {b : ByteArray} {s : Sc} (h : sdec b = some s) : bs (sen s) = b ∧ schk s = 0 := by
  obtain ⟨h1, h2⟩ := sdec_cut h
  exact ⟨nbs_inj (by rw [nbs_bs _ (sen_lt s), h1]), h2⟩
theorem sen_back {s : Sc} (h : schk s = 0) (E : ByteArray) (hE : bs (sen s) = E) : sdec E = some s ∧ E.size ≤ 5000000 := by
  subst hE
  refine ⟨sdec_enc h _ (nbs_bs _ (sen_lt s)), ?_⟩
  rw [bs_size]
  have := sen_len h
  omega
end Sh
end Go.Proofs.Ytocmdehpbipmlaa
/- The reference's row and within, over this seat's program. -/
namespace Go.Proofs.Ytocmdehpbipmlaa
open Go.ChangeShapes Go.WideShapes Go.ChangeAt Go.RowKit
namespace De
open Ba Re

theorem row_1 (w : World) :
    Calls Try.prog 30 #[.int .i64 1] w fun r w' => r = .returned (.string (bs [112, 46])) ∧ Below w.heap.size w w' := by
  show Calls Try.prog 30 #[.int .i64 1] w fun r w' => r = .returned (.string ⟨#[112, 46]⟩) ∧ Below w.heap.size w w'
  go_enter Try.func30, Try.ntmps30
  go_wp2
  go_ret
  exact ⟨rfl, below_alloc _ _⟩
theorem row_2 (w : World) :
    Calls Try.prog 30 #[.int .i64 2] w fun r w' => r = .returned (.string (bs [99, 109])) ∧ Below w.heap.size w w' := by
  show Calls Try.prog 30 #[.int .i64 2] w fun r w' => r = .returned (.string ⟨#[99, 109]⟩) ∧ Below w.heap.size w w'
  go_enter Try.func30, Try.ntmps30
  go_wp2
  go_ret
  exact ⟨rfl, below_alloc _ _⟩
theorem row_3 (w : World) :
    Calls Try.prog 30 #[.int .i64 3] w fun r w' => r = .returned (.string (bs [99, 118])) ∧ Below w.heap.size w w' := by
  show Calls Try.prog 30 #[.int .i64 3] w fun r w' => r = .returned (.string ⟨#[99, 118]⟩) ∧ Below w.heap.size w w'
  go_enter Try.func30, Try.ntmps30
  go_wp2
  go_ret
  exact ⟨rfl, below_alloc _ _⟩
theorem row_4 (w : World) :
    Calls Try.prog 30 #[.int .i64 4] w fun r w' => r = .returned (.string (bs [99, 46])) ∧ Below w.heap.size w w' := by
  show Calls Try.prog 30 #[.int .i64 4] w fun r w' => r = .returned (.string ⟨#[99, 46]⟩) ∧ Below w.heap.size w w'
  go_enter Try.func30, Try.ntmps30
  go_wp2
  go_ret
  exact ⟨rfl, below_alloc _ _⟩
theorem row_5 (w : World) :
    Calls Try.prog 30 #[.int .i64 5] w fun r w' => r = .returned (.string (bs [99, 46])) ∧ Below w.heap.size w w' := by
  show Calls Try.prog 30 #[.int .i64 5] w fun r w' => r = .returned (.string ⟨#[99, 46]⟩) ∧ Below w.heap.size w w'
  go_enter Try.func30, Try.ntmps30
  go_wp2
  go_ret
  exact ⟨rfl, below_alloc _ _⟩
theorem row_6 (w : World) :
    Calls Try.prog 30 #[.int .i64 6] w fun r w' => r = .returned (.string (bs [46, 46])) ∧ Below w.heap.size w w' := by
  show Calls Try.prog 30 #[.int .i64 6] w fun r w' => r = .returned (.string ⟨#[46, 46]⟩) ∧ Below w.heap.size w w'
  go_enter Try.func30, Try.ntmps30
  go_wp2
  go_ret
  exact ⟨rfl, below_alloc _ _⟩
theorem row_7 (w : World) :
    Calls Try.prog 30 #[.int .i64 7] w fun r w' => r = .returned (.string (bs [120, 46])) ∧ Below w.heap.size w w' := by
  show Calls Try.prog 30 #[.int .i64 7] w fun r w' => r = .returned (.string ⟨#[120, 46]⟩) ∧ Below w.heap.size w w'
  go_enter Try.func30, Try.ntmps30
  go_wp2
  go_ret
  exact ⟨rfl, below_alloc _ _⟩
theorem row_8 (w : World) :
    Calls Try.prog 30 #[.int .i64 8] w fun r w' => r = .returned (.string (bs [120, 46])) ∧ Below w.heap.size w w' := by
  show Calls Try.prog 30 #[.int .i64 8] w fun r w' => r = .returned (.string ⟨#[120, 46]⟩) ∧ Below w.heap.size w w'
  go_enter Try.func30, Try.ntmps30
  go_wp2
  go_ret
  exact ⟨rfl, below_alloc _ _⟩
theorem row_9 (w : World) :
    Calls Try.prog 30 #[.int .i64 9] w fun r w' => r = .returned (.string (bs [46, 46])) ∧ Below w.heap.size w w' := by
  show Calls Try.prog 30 #[.int .i64 9] w fun r w' => r = .returned (.string ⟨#[46, 46]⟩) ∧ Below w.heap.size w w'
  go_enter Try.func30, Try.ntmps30
  go_wp2
  go_ret
  exact ⟨rfl, below_alloc _ _⟩
theorem within_p (n p : Int) (w : World) :
    Calls Try.prog 65 #[.int .i64 n, .int .u8 112, .int .i64 p] w fun r w' => r = .returned (.bool (decide (0 ≤ n) && decide (n < p))) ∧ w' = w := by
  by_cases h1 : 0 ≤ n
  · have e : (decide (0 ≤ n) && decide (n < p)) = decide (n < p) := by simp [h1]
    rw [e]
    clear e
    go_enter Try.func65, Try.ntmps65
    go_wp2
    go_ret
    exact ⟨rfl, rfl⟩
  · have e : (decide (0 ≤ n) && decide (n < p)) = false := by simp [h1]
    rw [e]
    clear e
    go_enter Try.func65, Try.ntmps65
    go_wp2
    go_ret
    exact ⟨rfl, rfl⟩
theorem within_c (n p : Int) (w : World) :
    Calls Try.prog 65 #[.int .i64 n, .int .u8 99, .int .i64 p] w fun r w' => r = .returned (.bool (decide (0 ≤ n) && decide (n < 8))) ∧ w' = w := by
  by_cases h1 : 0 ≤ n
  · have e : (decide (0 ≤ n) && decide (n < 8)) = decide (n < 8) := by simp [h1]
    rw [e]
    clear e
    go_enter Try.func65, Try.ntmps65
    go_wp2
    go_ret
    exact ⟨rfl, rfl⟩
  · have e : (decide (0 ≤ n) && decide (n < 8)) = false := by simp [h1]
    rw [e]
    clear e
    go_enter Try.func65, Try.ntmps65
    go_wp2
    go_ret
    exact ⟨rfl, rfl⟩
theorem within_x (n p : Int) (w : World) :
    Calls Try.prog 65 #[.int .i64 n, .int .u8 120, .int .i64 p] w fun r w' => r = .returned (.bool (decide (0 ≤ n) && decide (n < 8))) ∧ w' = w := by
  by_cases h1 : 0 ≤ n
  · have e : (decide (0 ≤ n) && decide (n < 8)) = decide (n < 8) := by simp [h1]
    rw [e]
    clear e
    go_enter Try.func65, Try.ntmps65
    go_wp2
    go_ret
    exact ⟨rfl, rfl⟩
  · have e : (decide (0 ≤ n) && decide (n < 8)) = false := by simp [h1]
    rw [e]
    clear e
    go_enter Try.func65, Try.ntmps65
    go_wp2
    go_ret
    exact ⟨rfl, rfl⟩
theorem within_m (n p : Int) (w : World) :
    Calls Try.prog 65 #[.int .i64 n, .int .u8 109, .int .i64 p] w fun r w' => r = .returned (.bool (decide (0 ≤ n) && decide (n ≤ 4))) ∧ w' = w := by
  by_cases h1 : 0 ≤ n
  · have e : (decide (0 ≤ n) && decide (n ≤ 4)) = decide (n ≤ 4) := by simp [h1]
    rw [e]
    clear e
    go_enter Try.func65, Try.ntmps65
    go_wp2
    go_ret
    exact ⟨rfl, rfl⟩
  · have e : (decide (0 ≤ n) && decide (n ≤ 4)) = false := by simp [h1]
    rw [e]
    clear e
    go_enter Try.func65, Try.ntmps65
    go_wp2
    go_ret
    exact ⟨rfl, rfl⟩
theorem within_v (n p : Int) (w : World) :
    Calls Try.prog 65 #[.int .i64 n, .int .u8 118, .int .i64 p] w fun r w' => r = .returned (.bool (decide (0 ≤ n) && decide (n ≤ 99))) ∧ w' = w := by
  by_cases h1 : 0 ≤ n
  · have e : (decide (0 ≤ n) && decide (n ≤ 99)) = decide (n ≤ 99) := by simp [h1]
    rw [e]
    clear e
    go_enter Try.func65, Try.ntmps65
    go_wp2
    go_ret
    exact ⟨rfl, rfl⟩
  · have e : (decide (0 ≤ n) && decide (n ≤ 99)) = false := by simp [h1]
    rw [e]
    clear e
    go_enter Try.func65, Try.ntmps65
    go_wp2
    go_ret
    exact ⟨rfl, rfl⟩
theorem within_d (n p : Int) (w : World) :
    Calls Try.prog 65 #[.int .i64 n, .int .u8 46, .int .i64 p] w fun r w' => r = .returned (.bool (n == 0)) ∧ w' = w := by
  go_enter Try.func65, Try.ntmps65
  go_wp2
  go_ret
  exact ⟨rfl, rfl⟩
/-- a kind's two signs -/
def sA (k : Int) : Nat := if k = 1 then 112 else if k = 2 ∨ k = 3 ∨ k = 4 ∨ k = 5 then 99 else if k = 7 ∨ k = 8 then 120 else 46
def sB (k : Int) : Nat := if k = 2 then 109 else if k = 3 then 118 else 46
theorem row_any (k : Int) (h1 : 1 ≤ k) (h2 : k ≤ 9) (w : World) :
    Calls Try.prog 30 #[.int .i64 k] w fun r w' => r = .returned (.string (bs [sA k, sB k])) ∧ Below w.heap.size w w' := by
  rcases kind_cases h1 h2 with rfl | rfl | rfl | rfl | rfl | rfl | rfl | rfl | rfl
  · exact row_1 w
  · exact row_2 w
  · exact row_3 w
  · exact row_4 w
  · exact row_5 w
  · exact row_6 w
  · exact row_7 w
  · exact row_8 w
  · exact row_9 w
theorem withinA (k n p : Int) (h1 : 1 ≤ k) (h2 : k ≤ 9) (w : World) :
    Calls Try.prog 65 #[.int .i64 n, .int .u8 (sA k : Int), .int .i64 p] w fun r w' => r = .returned (.bool (upB n (mA k p))) ∧ w' = w := by
  rcases kind_cases h1 h2 with rfl | rfl | rfl | rfl | rfl | rfl | rfl | rfl | rfl
  · have e : upB n (mA 1 p) = (decide (0 ≤ n) && decide (n < p)) := by
      simp only [upB, mA, if_true]
      congr 1
      exact decide_eq_decide.2 (by omega)
    rw [e]
    exact within_p n p w
  · have e : upB n (mA 2 p) = (decide (0 ≤ n) && decide (n < 8)) := by
      have : mA 2 p = 7 := rfl
      simp only [upB, this]
      congr 1
      exact decide_eq_decide.2 (by omega)
    rw [e]
    exact within_c n p w
  · have e : upB n (mA 3 p) = (decide (0 ≤ n) && decide (n < 8)) := by
      have : mA 3 p = 7 := rfl
      simp only [upB, this]
      congr 1
      exact decide_eq_decide.2 (by omega)
    rw [e]
    exact within_c n p w
  · have e : upB n (mA 4 p) = (decide (0 ≤ n) && decide (n < 8)) := by
      have : mA 4 p = 7 := rfl
      simp only [upB, this]
      congr 1
      exact decide_eq_decide.2 (by omega)
    rw [e]
    exact within_c n p w
  · have e : upB n (mA 5 p) = (decide (0 ≤ n) && decide (n < 8)) := by
      have : mA 5 p = 7 := rfl
      simp only [upB, this]
      congr 1
      exact decide_eq_decide.2 (by omega)
    rw [e]
    exact within_c n p w
  · have e : upB n (mA 6 p) = (n == 0) := by
      have : mA 6 p = 0 := rfl
      rw [Bool.eq_iff_iff, upB_iff, this]
      simp
      omega
    rw [e]
    exact within_d n p w
  · have e : upB n (mA 7 p) = (decide (0 ≤ n) && decide (n < 8)) := by
      have : mA 7 p = 7 := rfl
      simp only [upB, this]
      congr 1
      exact decide_eq_decide.2 (by omega)
    rw [e]
    exact within_x n p w
  · have e : upB n (mA 8 p) = (decide (0 ≤ n) && decide (n < 8)) := by
      have : mA 8 p = 7 := rfl
      simp only [upB, this]
      congr 1
      exact decide_eq_decide.2 (by omega)
    rw [e]
    exact within_x n p w
  · have e : upB n (mA 9 p) = (n == 0) := by
      have : mA 9 p = 0 := rfl
      rw [Bool.eq_iff_iff, upB_iff, this]
      simp
      omega
    rw [e]
    exact within_d n p w
theorem withinB (k n p : Int) (h1 : 1 ≤ k) (h2 : k ≤ 9) (w : World) :
    Calls Try.prog 65 #[.int .i64 n, .int .u8 (sB k : Int), .int .i64 p] w fun r w' => r = .returned (.bool (upB n (mB k))) ∧ w' = w := by
  rcases kind_cases h1 h2 with rfl | rfl | rfl | rfl | rfl | rfl | rfl | rfl | rfl
  · have e : upB n (mB 1) = (n == 0) := by
      have : mB 1 = 0 := rfl
      rw [Bool.eq_iff_iff, upB_iff, this]
      simp
      omega
    rw [e]
    exact within_d n p w
  · exact within_m n p w
  · exact within_v n p w
  · have e : upB n (mB 4) = (n == 0) := by
      have : mB 4 = 0 := rfl
      rw [Bool.eq_iff_iff, upB_iff, this]
      simp
      omega
    rw [e]
    exact within_d n p w
  · have e : upB n (mB 5) = (n == 0) := by
      have : mB 5 = 0 := rfl
      rw [Bool.eq_iff_iff, upB_iff, this]
      simp
      omega
    rw [e]
    exact within_d n p w
  · have e : upB n (mB 6) = (n == 0) := by
      have : mB 6 = 0 := rfl
      rw [Bool.eq_iff_iff, upB_iff, this]
      simp
      omega
    rw [e]
    exact within_d n p w
  · have e : upB n (mB 7) = (n == 0) := by
      have : mB 7 = 0 := rfl
      rw [Bool.eq_iff_iff, upB_iff, this]
      simp
      omega
    rw [e]
    exact within_d n p w
  · have e : upB n (mB 8) = (n == 0) := by
      have : mB 8 = 0 := rfl
      rw [Bool.eq_iff_iff, upB_iff, this]
      simp
      omega
    rw [e]
    exact within_d n p w
  · have e : upB n (mB 9) = (n == 0) := by
      have : mB 9 = 0 := rfl
      rw [Bool.eq_iff_iff, upB_iff, this]
      simp
      omega
    rw [e]
    exact within_d n p w
end De
end Go.Proofs.Ytocmdehpbipmlaa
/- The reference's Check, over this seat's program. -/
namespace Go.Proofs.Ytocmdehpbipmlaa
open Go.ChangeShapes Go.WideShapes Go.ChangeAt Go.RowKit
namespace De
open Ba Re

theorem up7 (n : Int) : upB n 7 = (decide (0 ≤ n) && decide (n < 8)) := by
  unfold upB
  congr 1
  exact decide_eq_decide.2 (by omega)
theorem rchan (n : Int) (x : Bool) (h : upB n 7 = x) (w : World) :
    Calls Try.prog 65 #[.int .i64 n, .int .u8 99, .int .i64 0] w fun r w' => r = .returned (.bool x) ∧ w' = w := by
  rw [← h, up7]
  exact within_c n 0 w
theorem rval (n : Int) (x : Bool) (h : upB n 99 = x) (w : World) :
    Calls Try.prog 65 #[.int .i64 n, .int .u8 118, .int .i64 0] w fun r w' => r = .returned (.bool x) ∧ w' = w := by
  rw [← h]
  exact within_v n 0 w
theorem withinA_is (k n p : Int) (x : Bool) (h1 : 1 ≤ k) (h2 : k ≤ 9) (hx : upB n (mA k p) = x) (w : World) :
    Calls Try.prog 65 #[.int .i64 n, .int .u8 (sA k : Int), .int .i64 p] w fun r w' => r = .returned (.bool x) ∧ w' = w := by
  rw [← hx]
  exact withinA k n p h1 h2 w
theorem withinB_is (k n p : Int) (x : Bool) (h1 : 1 ≤ k) (h2 : k ≤ 9) (hx : upB n (mB k) = x) (w : World) :
    Calls Try.prog 65 #[.int .i64 n, .int .u8 (sB k : Int), .int .i64 p] w fun r w' => r = .returned (.bool x) ∧ w' = w := by
  rw [← hx]
  exact withinB k n p h1 h2 w
theorem sgA (k : Int) (h1 : 1 ≤ k) (h2 : k ≤ 9) : sA k < 256 ∧ sB k < 256 := by
  rcases kind_cases h1 h2 with rfl | rfl | rfl | rfl | rfl | rfl | rfl | rfl | rfl <;> decide
theorem ixA (k : Int) (h1 : 1 ≤ k) (h2 : k ≤ 9) (w : World) : (Instr.index 9 (.string (bs [sA k, sB k])) (.int .i64 0)).run Try.prog w = .ok (.int .u8 (sA k : Int)) w := by
  have h := sgA k h1 h2
  have := ix_str (bs [sA k, sB k]) 0 (sA k) (by rw [nbs_bs _ (by simp; omega)]; rfl) w
  exact this
theorem ixB (k : Int) (h1 : 1 ≤ k) (h2 : k ≤ 9) (w : World) : (Instr.index 9 (.string (bs [sA k, sB k])) (.int .i64 1)).run Try.prog w = .ok (.int .u8 (sB k : Int)) w := by
  have h := sgA k h1 h2
  have := ix_str (bs [sA k, sB k]) 1 (sB k) (by rw [nbs_bs _ (by simp; omega)]; rfl) w
  exact this

set_option maxHeartbeats 800000 in
theorem rcheck_arg (o : OpD) (oa : Option Addr) (c : Nat) (p : Int) (w : World) (h : (okP p && (decide (1 ≤ o.kind) && decide (o.kind ≤ 9))) = false) :
    Calls Try.prog 31 #[.agg #[.int .i64 o.kind, .int .i64 o.a, .int .i64 o.b, .slice oa o.cases.length c, .bool o.def_], .int .i64 p] w fun r w' => r = .returned (.int .i64 1) ∧ Below w.heap.size w w' := by
  obtain ⟨k, a, b, cs, d⟩ := o
  have hk : p < 1 ∨ 8 < p ∨ k < 1 ∨ 9 < k := by
    simp [okP] at h
    by_cases q1 : 1 ≤ p
    · by_cases q2 : p ≤ 8
      · by_cases q3 : 1 ≤ k
        · have := h q1 q2 q3; omega
        · omega
      · omega
    · omega
  clear h
  by_cases h1 : p < 1
  · have d1 : decide (p < 1) = true := by simpa using h1
    clear hk
    go_enter Try.func31, Try.ntmps31
    go_wp2_with fail
    go_ret
    exact ⟨rfl, below_alloc _ _⟩
  have d1 : decide (p < 1) = false := by simpa using h1
  by_cases h2 : 8 < p
  · have d2 : decide (8 < p) = true := by simpa using h2
    clear hk
    go_enter Try.func31, Try.ntmps31
    go_wp2_with fail
    go_ret
    exact ⟨rfl, below_alloc _ _⟩
  have d2 : decide (8 < p) = false := by simpa using h2
  by_cases h3 : k < 1
  · have d3 : decide (k < 1) = true := by simpa using h3
    clear hk
    go_enter Try.func31, Try.ntmps31
    go_wp2_with fail
    go_ret
    exact ⟨rfl, below_alloc _ _⟩
  have d3 : decide (k < 1) = false := by simpa using h3
  have d4 : decide (9 < k) = true := by simp; omega
  clear hk
  go_enter Try.func31, Try.ntmps31
  go_wp2_with fail
  go_ret
  exact ⟨rfl, below_alloc _ _⟩

set_option maxHeartbeats 800000 in
theorem rcheck_long (o : OpD) (oa : Option Addr) (c : Nat) (p : Int) (w : World) (hp : okP p = true) (h1 : 1 ≤ o.kind) (h2 : o.kind ≤ 9) (hl : 4 < o.cases.length) (hm : o.cases.length ≤ maxLen) :
    Calls Try.prog 31 #[.agg #[.int .i64 o.kind, .int .i64 o.a, .int .i64 o.b, .slice oa o.cases.length c, .bool o.def_], .int .i64 p] w fun r w' => r = .returned (.int .i64 2) ∧ Below w.heap.size w w' := by
  obtain ⟨k, a, b, cs, d⟩ := o
  unfold maxLen at hm
  obtain ⟨p1, p2⟩ := (okP_iff p).1 hp
  simp only at h1 h2 hl hm ⊢
  have e1 : decide (p < 1) = false := by simp; omega
  have e2 : decide (8 < p) = false := by simp; omega
  have d1 : decide (k < 1) = false := by simp; omega
  have d2 : decide (9 < k) = false := by simp; omega
  have d3 : decide ((4 : Int) < (cs.length : Int)) = true := by simp; omega
  clear hp
  go_enter Try.func31, Try.ntmps31
  go_wp2_with fail
  go_ret
  exact ⟨rfl, below_alloc _ _⟩
theorem op_cells {w : World} {b : Nat} {x0 x1 x2 x3 x4 : Value} {t : TypeId} {fr : Nat × Nat} (h : w.heap[b]? = some (.cells #[x0, x1, x2, x3, x4] t fr)) : w.cell? ⟨b, 0, none⟩ = some x0 ∧ w.cell? ⟨b, 1, none⟩ = some x1 ∧ w.cell? ⟨b, 2, none⟩ = some x2 ∧ w.cell? ⟨b, 3, none⟩ = some x3 ∧ w.cell? ⟨b, 4, none⟩ = some x4 := ⟨cell_of h 0, cell_of h 1, cell_of h 2, cell_of h 3, cell_of h 4⟩

set_option maxHeartbeats 1600000 in
theorem rcheck_main (o : OpD) (oa : Option Addr) (c : Nat) (p : Int) (w : World) (hp : okP p = true) (h1 : 1 ≤ o.kind) (h2 : o.kind ≤ 9) (hl : o.cases.length ≤ 4) (hA : CAt w oa o.cases) (x1 x2 x3 x4 : Bool) (hx1 : upB o.a (mA o.kind p) = x1) (hx2 : upB o.b (mB o.kind) = x2) (hx3 : (o.kind == 6) = x3) (hx4 : (o.def_ || decide (0 < o.cases.length)) = x4) :
    Calls Try.prog 31 #[.agg #[.int .i64 o.kind, .int .i64 o.a, .int .i64 o.b, .slice oa o.cases.length c, .bool o.def_], .int .i64 p] w fun r w' => r = .returned (.int .i64 (bif x1 && x2 && (x3 || !x4) && o.cases.all okC then 0 else 4)) ∧ Below w.heap.size w w' := by
  obtain ⟨k, a, b, cs, d⟩ := o
  simp only at h1 h2 hl hA hx1 hx2 hx3 hx4 ⊢
  obtain ⟨p1, p2⟩ := (okP_iff p).1 hp
  have HA := hide hA
  have X1 := hide hx1
  have X2 := hide hx2
  have e1 : decide (p < 1) = false := by simp; omega
  have e2 : decide (8 < p) = false := by simp; omega
  have d1 : decide (k < 1) = false := by simp; omega
  have d2 : decide (9 < k) = false := by simp; omega
  have d3 : decide ((4 : Int) < (cs.length : Int)) = false := by simp; omega
  have d4 : (k != 6) = !x3 := by rw [← hx3]; rfl
  have i0 := ixA k h1 h2
  have i1 := ixB k h1 h2
  have WA := hide (fun w => withinA_is k a p x1 h1 h2 hx1 w)
  have WB := hide (fun w => withinB_is k b p x2 h1 h2 hx2 w)
  have RW := hide (fun w => row_any k h1 h2 w)
  generalize sA k = u at WA RW i0 i1
  generalize sB k = v at WB RW i0 i1
  clear hp hA hx1 hx2 X1 X2
  cases x1
  · clear hx3 hx4 d4
    go_enter Try.func31, Try.ntmps31
    go_wp2_with fail
    refine (RW.out _).mono ?_
    rintro r w1 ⟨rfl, br⟩
    have P1 := hide (heap_below (heap_new w (.cells #[.int .i64 k, .int .i64 a, .int .i64 b, .slice oa cs.length c, .bool d] 24)) br)
    have B1 := hide (btr (below_alloc _ _) br)
    obtain ⟨y0, y1, y2, y3, y4⟩ := op_cells P1.out
    have HA1 := hide (HA.out.below B1.out)
    clear br
    go_wp2_with fail
    go_quiet ((first | (go_at_call_of 65 (Value.int IntKind.i64 a); exact Calls.quiet_of_same (WA.out _)) | (go_at_call_of 65 (Value.int IntKind.i64 b); exact Calls.quiet_of_same (WB.out _))))
    all_goals
      go_wp2_with fail
      go_ret
      exact ⟨rfl, btr B1.out (bdrew _ _)⟩
  cases x2
  · clear hx3 hx4 d4
    go_enter Try.func31, Try.ntmps31
    go_wp2_with fail
    refine (RW.out _).mono ?_
    rintro r w1 ⟨rfl, br⟩
    have P1 := hide (heap_below (heap_new w (.cells #[.int .i64 k, .int .i64 a, .int .i64 b, .slice oa cs.length c, .bool d] 24)) br)
    have B1 := hide (btr (below_alloc _ _) br)
    obtain ⟨y0, y1, y2, y3, y4⟩ := op_cells P1.out
    have HA1 := hide (HA.out.below B1.out)
    clear br
    go_wp2_with fail
    go_quiet ((first | (go_at_call_of 65 (Value.int IntKind.i64 a); exact Calls.quiet_of_same (WA.out _)) | (go_at_call_of 65 (Value.int IntKind.i64 b); exact Calls.quiet_of_same (WB.out _))))
    all_goals
      go_wp2_with fail
      go_ret
      exact ⟨rfl, btr B1.out (bdrew _ _)⟩
  go_enter Try.func31, Try.ntmps31
  go_wp2_with fail
  refine (RW.out _).mono ?_
  rintro r w1 ⟨rfl, br⟩
  have P1 := hide (heap_below (heap_new w (.cells #[.int .i64 k, .int .i64 a, .int .i64 b, .slice oa cs.length c, .bool d] 24)) br)
  have B1 := hide (btr (below_alloc _ _) br)
  obtain ⟨y0, y1, y2, y3, y4⟩ := op_cells P1.out
  have HA1 := hide (HA.out.below B1.out)
  clear br
  go_wp2_with fail
  go_quiet ((first | (go_at_call_of 65 (Value.int IntKind.i64 a); exact Calls.quiet_of_same (WA.out _)) | (go_at_call_of 65 (Value.int IntKind.i64 b); exact Calls.quiet_of_same (WB.out _))))
  cases x3
  · cases x4
    · have hd : d = false := by
        cases d
        · rfl
        · simp at hx4
      have hc0 : cs = [] := by
        rw [hd] at hx4
        simpa using hx4
      subst hd hc0
      clear hx4 hx3
      go_wp2_with fail
      refine wp_loop_rounds 1 ?_
      rw [rounds_succ]
      go_wp2
      go_ret
      exact ⟨rfl, by first | exact btr B1.out (bdrew _ _) | exact btr B1.out (by rw [World.drewN_drewN]; exact bdrew _ _) | exact B1.out⟩
    · clear hx3
      cases cs with
      | nil =>
        have hd : d = true := by simpa using hx4
        subst hd
        clear hx4
        go_wp2_with fail
        go_ret
        exact ⟨rfl, by first | exact btr B1.out (bdrew _ _) | exact btr B1.out (by rw [World.drewN_drewN]; exact bdrew _ _) | exact B1.out⟩
      | cons x t =>
        clear hx4
        go_wp2_with fail
        go_ret
        exact ⟨rfl, by first | exact btr B1.out (bdrew _ _) | exact btr B1.out (by rw [World.drewN_drewN]; exact bdrew _ _) | exact B1.out⟩
  · clear hx4 hx3
    go_wp2_with fail
    go_loopw [63] (fun i wr => ∃ j : Nat, j ≤ cs.length ∧ i = .int .i64 (j : Int) ∧ (∀ q x, q < j → cs[q]? = some x → okC x = true) ∧ Below w.heap.size w wr) (fun i _ => cs.length - (intOf i).toNat)
    case atStart => exact ⟨0, Nat.zero_le _, rfl, fun q x hq => absurd hq (Nat.not_lt_zero _), btr B1.out (bdrew _ _)⟩
    case round =>
      obtain ⟨j, hj, rfl, hall, hb⟩ := hrel
      have HK := hide hall
      have HB := hide hb
      clear hall hb
      by_cases hlt : j < cs.length
      · have hlt' : decide ((j : Int) < (cs.length : Int)) = true := by simp; omega
        obtain ⟨x, hx⟩ : ∃ x, cs[j]? = some x := ⟨cs[j], by simp [hlt]⟩
        obtain ⟨b', off, rfl, q1, q2, q3⟩ := (HA.out.below HB.out) j x hx
        have HX := hide hx
        clear hx
        obtain ⟨sd, ch, vl⟩ := x
        simp only at q1 q2 q3
        obtain ⟨u7, hu7⟩ : ∃ u, upB ch 7 = u := ⟨_, rfl⟩
        obtain ⟨u99, hu99⟩ : ∃ u, upB vl 99 = u := ⟨_, rfl⟩
        have C1 : Hid (∀ w, Calls Try.prog 65 #[.int .i64 ch, .int .u8 99, .int .i64 0] w fun r w' => r = .returned (.bool u7) ∧ w' = w) := fun w => rchan ch _ hu7 w
        have C2 : Hid (∀ w, Calls Try.prog 65 #[.int .i64 vl, .int .u8 118, .int .i64 0] w fun r w' => r = .returned (.bool u99) ∧ w' = w) := fun w => rval vl _ hu99 w
        have H7 := hide hu7
        have H99 := hide hu99
        clear hu7 hu99
        cases u7
        · have HO : Hid (okC ⟨sd, ch, vl⟩ = false) := by show _ = _; simp only [okC]; rw [H7.out]; rfl
          go_wp2_with (first | (go_at_call_of 65 (Value.int IntKind.u8 99); refine (C1.out _).mono ?_; rintro r w' ⟨rfl, rfl⟩) | (go_at_call_of 65 (Value.int IntKind.u8 118); refine (C2.out _).mono ?_; rintro r w' ⟨rfl, rfl⟩))
          all_goals
            go_ret
            exact ⟨by rw [all_no HX.out HO.out]; simp, btr HB.out (below_alloc _ _)⟩
        · cases sd
          · cases hz : vl == 0
            · have hz' : (vl != 0) = true := by simp [bne, hz]
              have HO : Hid (okC ⟨false, ch, vl⟩ = false) := by show _ = _; simp only [okC]; rw [H7.out]; simp only [cond_false, Bool.true_and]; simp at hz; simp [upB]; omega
              go_wp2_with (first | (go_at_call_of 65 (Value.int IntKind.u8 99); refine (C1.out _).mono ?_; rintro r w' ⟨rfl, rfl⟩) | (go_at_call_of 65 (Value.int IntKind.u8 118); refine (C2.out _).mono ?_; rintro r w' ⟨rfl, rfl⟩))
              all_goals
                go_ret
                exact ⟨by rw [all_no HX.out HO.out]; simp, btr HB.out (below_alloc _ _)⟩
            · have hz' : (vl != 0) = false := by simp [bne, hz]
              have HO : Hid (okC ⟨false, ch, vl⟩ = true) := by show _ = _; simp only [okC]; rw [H7.out]; simp only [cond_false, Bool.true_and]; simp at hz; simp [upB]; omega
              go_wp2_with (first | (go_at_call_of 65 (Value.int IntKind.u8 99); refine (C1.out _).mono ?_; rintro r w' ⟨rfl, rfl⟩) | (go_at_call_of 65 (Value.int IntKind.u8 118); refine (C2.out _).mono ?_; rintro r w' ⟨rfl, rfl⟩))
              all_goals
                go_roundw
                case rel => exact ⟨j + 1, by omega, by go_num, fun q y hq hy => by
                    by_cases e : q = j
                    · subst e
                      have := HX.out
                      rw [hy] at this
                      simp at this
                      subst this
                      exact HO.out
                    · exact HK.out q y (by omega) hy, btr HB.out (below_alloc _ _)⟩
                case measure => simp [intOf]; omega
          · cases u99
            · have HO : Hid (okC ⟨true, ch, vl⟩ = false) := by show _ = _; simp only [okC]; rw [H7.out]; simp only [cond_true, Bool.true_and]; exact H99.out
              go_wp2_with (first | (go_at_call_of 65 (Value.int IntKind.u8 99); refine (C1.out _).mono ?_; rintro r w' ⟨rfl, rfl⟩) | (go_at_call_of 65 (Value.int IntKind.u8 118); refine (C2.out _).mono ?_; rintro r w' ⟨rfl, rfl⟩))
              all_goals
                go_ret
                exact ⟨by rw [all_no HX.out HO.out]; simp, btr HB.out (below_alloc _ _)⟩
            · have HO : Hid (okC ⟨true, ch, vl⟩ = true) := by show _ = _; simp only [okC]; rw [H7.out]; simp only [cond_true, Bool.true_and]; exact H99.out
              go_wp2_with (first | (go_at_call_of 65 (Value.int IntKind.u8 99); refine (C1.out _).mono ?_; rintro r w' ⟨rfl, rfl⟩) | (go_at_call_of 65 (Value.int IntKind.u8 118); refine (C2.out _).mono ?_; rintro r w' ⟨rfl, rfl⟩))
              all_goals
                go_roundw
                case rel => exact ⟨j + 1, by omega, by go_num, fun q y hq hy => by
                    by_cases e : q = j
                    · subst e
                      have := HX.out
                      rw [hy] at this
                      simp at this
                      subst this
                      exact HO.out
                    · exact HK.out q y (by omega) hy, btr HB.out (below_alloc _ _)⟩
                case measure => simp [intOf]; omega
      · have hlt' : decide ((j : Int) < (cs.length : Int)) = false := by simp; omega
        go_wp2_with fail
        go_ret
        exact ⟨by rw [all_yes (fun q x hq => HK.out q x (by have := (List.getElem?_eq_some_iff.1 hq).1; omega) hq)]; rfl, HB.out⟩

theorem rcheck_any (o : OpD) (oa : Option Addr) (c : Nat) (p : Int) (w : World) (hA : CAt w oa o.cases) (hm : o.cases.length ≤ maxLen) :
    Calls Try.prog 31 #[.agg #[.int .i64 o.kind, .int .i64 o.a, .int .i64 o.b, .slice oa o.cases.length c, .bool o.def_], .int .i64 p] w fun r w' => r = .returned (.int .i64 (chk o p)) ∧ Below w.heap.size w w' := by
  unfold chk
  by_cases h1 : (okP p && (decide (1 ≤ o.kind) && decide (o.kind ≤ 9))) = false
  · rw [if_pos h1]
    exact rcheck_arg o oa c p w h1
  · rw [if_neg h1]
    have h1' : okP p = true ∧ 1 ≤ o.kind ∧ o.kind ≤ 9 := by simpa using h1
    obtain ⟨hp, hk1, hk2⟩ := h1'
    by_cases h2 : 4 < o.cases.length
    · rw [if_pos h2]
      exact rcheck_long o oa c p w hp hk1 hk2 h2 hm
    · rw [if_neg h2]
      refine (rcheck_main o oa c p w hp hk1 hk2 (by omega) hA _ _ _ _ rfl rfl rfl rfl).mono ?_
      rintro r w' ⟨rfl, hb⟩
      refine ⟨?_, hb⟩
      cases x1 : upB o.a (mA o.kind p) && upB o.b (mB o.kind)
      · simp
      · rw [if_neg (by simp)]
        by_cases h6 : o.kind = 6
        · rw [if_neg (fun q => q.1 h6)]
          have : (o.kind == 6) = true := by simpa using h6
          rw [this]
          cases o.cases.all okC <;> simp
        · have : (o.kind == 6) = false := by simpa using h6
          rw [this]
          cases h4 : (o.def_ || decide (0 < o.cases.length))
          · rw [if_neg (fun q => by simp at q)]
            cases o.cases.all okC <;> simp
          · rw [if_pos ⟨h6, rfl⟩]
            simp
/-- a list is answered -/
def NA (r : Ending) (w' : World) (l : List Int) : Prop := ∃ oa c, r = .returned (.slice oa l.length c) ∧ At w' oa l
end De
end Go.Proofs.Ytocmdehpbipmlaa
/- The reference's Check of a script, over this seat's program. -/
namespace Go.Proofs.Ytocmdehpbipmlaa
open Go.ChangeShapes Go.WideShapes Go.ChangeAt Go.RowKit
namespace Sh
open De Ba Re

section
variable {T M : Int} {ps : List (List OpD)} {pl dr : List Int}
theorem schk_1 (h : T < 1 ∨ 256 < T ∨ M < 1 ∨ 1048576 < M) : schk ⟨T, M, ps, pl, dr⟩ = 1 := by
  have : ((decide (1 ≤ T) && decide (T ≤ 256)) && (decide (1 ≤ M) && decide (M ≤ 1048576))) = false := by
    simp
    omega
  simp only [schk, this]
  rfl
theorem good_tm (h : (1 ≤ T ∧ T ≤ 256) ∧ 1 ≤ M ∧ M ≤ 1048576) : ((decide (1 ≤ T) && decide (T ≤ 256)) && (decide (1 ≤ M) && decide (M ≤ 1048576))) = true := by
  simp
  omega
theorem schk_2 (h : (1 ≤ T ∧ T ≤ 256) ∧ 1 ≤ M ∧ M ≤ 1048576) (h2 : isl ps pl.length dr.length = true) : schk ⟨T, M, ps, pl, dr⟩ = 2 := by
  simp only [schk, good_tm h, h2]
  rfl
theorem schk_4a (h : (1 ≤ T ∧ T ≤ 256) ∧ 1 ≤ M ∧ M ≤ 1048576) (h2 : isl ps pl.length dr.length = false) (h3 : ps.length = 0) : schk ⟨T, M, ps, pl, dr⟩ = 4 := by
  simp only [schk, good_tm h, h2]
  simp [h3]
theorem schk_4c (h : (1 ≤ T ∧ T ≤ 256) ∧ 1 ≤ M ∧ M ≤ 1048576) (h2 : isl ps pl.length dr.length = false) (h3 : ari ps.length ps = false) : schk ⟨T, M, ps, pl, dr⟩ = 4 := by
  simp only [schk, good_tm h, h2, h3]
  simp
theorem schk_4b (h : (1 ≤ T ∧ T ≤ 256) ∧ 1 ≤ M ∧ M ≤ 1048576) (h2 : isl ps pl.length dr.length = false) (h3 : ab (-1) 1000 pl = false ∨ ab 0 1000 dr = false) : schk ⟨T, M, ps, pl, dr⟩ = 4 := by
  have : (ab (-1) 1000 pl && ab 0 1000 dr) = false := by
    rcases h3 with h3 | h3 <;> simp [h3]
  simp only [schk, good_tm h, h2, this]
  cases (!(!decide (ps.length = 0) && ari ps.length ps)) <;> rfl
theorem ab_no {lo hi : Int} {l : List Int} {k : Nat} (hk : k < l.length) (h : nth l k < lo ∨ hi < nth l k) : ab lo hi l = false := by
  rw [← Bool.not_eq_true]
  intro e
  have := ab_nth.1 e k hk
  omega
theorem ret_int {a b : Int} (h : a = b) : Ending.returned (.int .i64 b) = Ending.returned (.int .i64 a) := by rw [h]
end

set_option maxRecDepth 100000 in
set_option maxHeartbeats 6400000 in
theorem rscheck_any (T M : Int) (ps : List (List OpD)) (pl dr : List Int) (pa la da : Option Addr) (pc lc dc : Nat) (w : World) (hS : SAt w ⟨T, M, ps, pl, dr⟩ pa la da) :
    Calls Try.prog 18 #[.agg #[.int .i64 T, .int .i64 M, .slice pa ps.length pc, .slice la pl.length lc, .slice da dr.length dc]] w fun r w' => r = .returned (.int .i64 (schk ⟨T, M, ps, pl, dr⟩)) ∧ Below w.heap.size w w' := by
  have S0 := hide (hS.below (below_alloc w (.cells #[.int .i64 T, .int .i64 M, .slice pa ps.length pc, .slice la pl.length lc, .slice da dr.length dc] 38)))
  have B0 := hide (below_alloc w (.cells #[.int .i64 T, .int .i64 M, .slice pa ps.length pc, .slice la pl.length lc, .slice da dr.length dc] 38))
  have X0 := hide (heap_new w (.cells #[.int .i64 T, .int .i64 M, .slice pa ps.length pc, .slice la pl.length lc, .slice da dr.length dc] 38))
  have h1 := hS.h1
  have h2 := hS.h2
  have h3 := hS.h3
  unfold maxLen at h1 h2 h3
  simp only at h1 h2 h3
  clear hS
  by_cases a1 : T < 1
  · have g1 : decide (T < 1) = true := by simpa using a1
    go_enter Try.func18, Try.ntmps18
    go_wp2_with fail
    go_ret
    exact ⟨ret_int (schk_1 (Or.inl a1)), B0.out⟩
  have g1 : decide (T < 1) = false := by simpa using a1
  by_cases a2 : 256 < T
  · have g2 : decide (256 < T) = true := by simpa using a2
    go_enter Try.func18, Try.ntmps18
    go_wp2_with fail
    go_ret
    exact ⟨ret_int (schk_1 (Or.inr (Or.inl a2))), B0.out⟩
  have g2 : decide (256 < T) = false := by simpa using a2
  by_cases a3 : M < 1
  · have g3 : decide (M < 1) = true := by simpa using a3
    go_enter Try.func18, Try.ntmps18
    go_wp2_with fail
    go_ret
    exact ⟨ret_int (schk_1 (Or.inr (Or.inr (Or.inl a3)))), B0.out⟩
  have g3 : decide (M < 1) = false := by simpa using a3
  by_cases a4 : 1048576 < M
  · have g4 : decide (1048576 < M) = true := by simpa using a4
    go_enter Try.func18, Try.ntmps18
    go_wp2_with fail
    go_ret
    exact ⟨ret_int (schk_1 (Or.inr (Or.inr (Or.inr a4)))), B0.out⟩
  have g4 : decide (1048576 < M) = false := by simpa using a4
  have TM : Hid ((1 ≤ T ∧ T ≤ 256) ∧ 1 ≤ M ∧ M ≤ 1048576) := by
    show _ ∧ _
    omega
  clear a1 a2 a3 a4
  by_cases n1 : 8 < ps.length
  · have q1 : decide (8 < (ps.length : Int)) = true := by simp; omega
    go_enter Try.func18, Try.ntmps18
    go_wp2_with fail
    go_ret
    exact ⟨ret_int (schk_2 TM.out (by simp [isl, n1])), B0.out⟩
  have q1 : decide (8 < (ps.length : Int)) = false := by simp; omega
  by_cases n2 : 200 < pl.length
  · have q2 : decide (200 < (pl.length : Int)) = true := by simp; omega
    go_enter Try.func18, Try.ntmps18
    go_wp2_with fail
    go_ret
    exact ⟨ret_int (schk_2 TM.out (by simp [isl, n2])), B0.out⟩
  have q2 : decide (200 < (pl.length : Int)) = false := by simp; omega
  by_cases n3 : 64 < dr.length
  · have q3 : decide (64 < (dr.length : Int)) = true := by simp; omega
    go_enter Try.func18, Try.ntmps18
    go_wp2_with fail
    go_ret
    exact ⟨ret_int (schk_2 TM.out (by simp [isl, n3])), B0.out⟩
  have q3 : decide (64 < (dr.length : Int)) = false := by simp; omega
  go_enter Try.func18, Try.ntmps18
  go_wp2_with fail
  generalize w.alloc (.cells #[.int .i64 T, .int .i64 M, .slice pa ps.length pc, .slice la pl.length lc, .slice da dr.length dc] 38) = W at S0 B0 X0 ⊢
  obtain ⟨x0, x1, x2, x3, x4⟩ := sc_cells X0.out
  go_loop [50] (fun i => ∃ k : Nat, k ≤ ps.length ∧ i = .int .i64 k ∧ ∀ (j : Nat) (q : List OpD), j < k → ps[j]? = some q → q.length ≤ 32) (fun i => ps.length - (intOf i).toNat)
  case atStart => exact ⟨0, Nat.zero_le _, rfl, fun j q hj => absurd hj (Nat.not_lt_zero _)⟩
  case round =>
    obtain ⟨k, hk, rfl, hall⟩ := hrel
    have HE := hide hall
    clear hall
    by_cases hlt : k < ps.length
    · have hlt' : (k : Int) < (ps.length : Int) := by omega
      obtain ⟨q, hq⟩ : ∃ q, ps[k]? = some q := ⟨ps[k], by simp [hlt]⟩
      obtain ⟨b, off, qa, qc, e1, c1, hO, m1⟩ := S0.out.ps k q hq
      subst e1
      have HQ := hide hq
      unfold maxLen at m1
      clear hq hO
      by_cases hl : 32 < q.length
      · have hl' : decide (32 < (q.length : Int)) = true := by simp; omega
        go_wp2_with fail
        go_ret
        exact ⟨ret_int (schk_2 TM.out (isl_long HQ.out hl)), B0.out⟩
      · have hl' : decide (32 < (q.length : Int)) = false := by simp; omega
        go_wp2_with fail
        go_round
        case rel => exact ⟨k + 1, by omega, by go_num, fun j x hj hx => by
          by_cases e : j = k
          · subst e; rw [HQ.out] at hx; cases hx; omega
          · exact HE.out j x (by omega) hx⟩
        case measure => simp [intOf]; omega
    · have hlt' : ¬ ((k : Int) < (ps.length : Int)) := by omega
      have IS : Hid (isl ps pl.length dr.length = false) := by
        show _ = _
        rw [isl_short fun j q hq => HE.out j q (by have := (List.getElem?_eq_some_iff.1 hq).1; omega) hq]
        simp
        omega
      clear hlt
      by_cases z : ps.length = 0
      · have Z := hide z
        have z' : ((ps.length : Int) == 0) = true := by simpa using z
        clear z
        go_wp2_with fail
        go_ret
        exact ⟨ret_int (schk_4a TM.out IS.out Z.out), B0.out⟩
      have z' : ((ps.length : Int) == 0) = false := by simpa using z
      clear HE
      go_wp2_with fail
      clear hlt' hk
      go_loopw [65] (fun i wr => ∃ k : Nat, k ≤ ps.length ∧ i = .int .i64 k ∧ (∀ (j : Nat) (q : List OpD), j < k → ps[j]? = some q → ∀ (i : Nat) (o : OpD), q[i]? = some o → chk o ps.length = 0) ∧ Below W.heap.size W wr) (fun i _ => ps.length - (intOf i).toNat)
      case atStart => exact ⟨0, Nat.zero_le _, rfl, fun j q hj => absurd hj (Nat.not_lt_zero _), Below.refl _ _⟩
      case round =>
        rename World => w0
        obtain ⟨k, hk, rfl, hall, bw⟩ := hrel
        have HE := hide hall
        have BW := hide bw
        clear hall bw
        by_cases hlt : k < ps.length
        · have hlt' : (k : Int) < (ps.length : Int) := by omega
          obtain ⟨q, hq⟩ : ∃ q, ps[k]? = some q := ⟨ps[k], by simp [hlt]⟩
          obtain ⟨b, off, qa, qc, e1, hc, hO, hm⟩ := (S0.out.ps.below BW.out) k q hq
          subst e1
          have HQ := hide hq
          have HO := hide hO
          unfold maxLen at hm
          clear hq hO
          go_wp2_with fail
          go_loopw [71] (fun i wr => ∃ j : Nat, j ≤ q.length ∧ i = .int .i64 j ∧ (∀ (t : Nat) (o : OpD), t < j → q[t]? = some o → chk o ps.length = 0) ∧ Below w0.heap.size w0 wr) (fun i _ => q.length - (intOf i).toNat)
          case atStart => exact ⟨0, Nat.zero_le _, rfl, fun j q hj => absurd hj (Nat.not_lt_zero _), Below.refl _ _⟩
          case round =>
            obtain ⟨j, hj, rfl, hall, bw2⟩ := hrel
            have HF := hide hall
            have B2 := hide bw2
            clear hall bw2
            by_cases hjl : j < q.length
            · have hjl' : (j : Int) < (q.length : Int) := by omega
              obtain ⟨o, ho⟩ : ∃ o, q[j]? = some o := ⟨q[j], by simp [hjl]⟩
              obtain ⟨b', off', ca, cc, e2, ⟨y0, y1, y2, y3, y4⟩, hC, hM⟩ := (HO.out.below B2.out) j o ho
              subst e2
              have HX := hide ho
              have HC := hide hC
              have HM := hide hM
              clear ho hC hM
              have B3 := hide (btr B2.out (below_alloc wr (.cells #[.int .i64 o.kind, .int .i64 o.a, .int .i64 o.b, .slice ca o.cases.length cc, .bool o.def_] 24)))
              have C3 := hide (HC.out.below (below_alloc wr (.cells #[.int .i64 o.kind, .int .i64 o.a, .int .i64 o.b, .slice ca o.cases.length cc, .bool o.def_] 24)))
              have X3 := hide (heap_below (heap_below X0.out BW.out) B3.out)
              obtain ⟨v0, v1, v2, v3, v4⟩ := sc_cells X3.out
              cases hz : chk o ps.length == 0
              · have hz' : (chk o ps.length != 0) = true := by simp [bne, hz]
                have HZ := hide hz
                clear hz
                go_wp2_with fail
                refine (rcheck_any o ca cc _ _ C3.out HM.out).mono ?_
                rintro r w4 ⟨rfl, b4⟩
                have B4 := hide (btr B3.out b4)
                clear b4
                go_wp2_with fail
                go_ret
                exact ⟨ret_int (schk_4c TM.out IS.out (ari_no HQ.out HX.out HZ.out)), btr B0.out (btr BW.out B4.out)⟩
              · have hz' : (chk o ps.length != 0) = false := by simp [bne, hz]
                have HZ : Hid (chk o ps.length = 0) := by show _ = _; simpa using hz
                clear hz
                go_wp2_with fail
                refine (rcheck_any o ca cc _ _ C3.out HM.out).mono ?_
                rintro r w4 ⟨rfl, b4⟩
                have B4 := hide (btr B3.out b4)
                clear b4
                go_wp2_with fail
                go_roundw
                case rel => exact ⟨j + 1, by omega, by go_num, fun t x ht hx => by
                  by_cases e : t = j
                  · subst e; rw [HX.out] at hx; cases hx; exact HZ.out
                  · exact HF.out t x (by omega) hx, B4.out⟩
                case measure => simp [intOf]; omega
            · have hjl' : ¬ ((j : Int) < (q.length : Int)) := by omega
              go_wp2_with fail
              go_roundw
              case rel =>
                exact ⟨k + 1, by omega, by go_num, fun t r ht hr i o ho => by
                  by_cases e : t = k
                  · subst e; rw [HQ.out] at hr; cases hr
                    exact HF.out i o (by have := (List.getElem?_eq_some_iff.1 ho).1; omega) ho
                  · exact HE.out t r (by omega) hr i o ho, btr BW.out B2.out⟩
              case measure => simp [intOf]; omega
        · have hlt' : ¬ ((k : Int) < (ps.length : Int)) := by omega
          have AR : Hid (ari ps.length ps = true) := ari_yes fun t q hq j o ho => HE.out t q (by have := (List.getElem?_eq_some_iff.1 hq).1; omega) hq j o ho
          have X5 := hide (heap_below X0.out BW.out)
          have L5 := hide (S0.out.below BW.out).pl
          have D5 := hide (S0.out.below BW.out).dr
          have B5 := hide (btr B0.out BW.out)
          clear HE S0 B0 X0 BW x0 x1 x2 x3 x4
          obtain ⟨x0, x1, x2, x3, x4⟩ := sc_cells X5.out
          go_wp2_with fail
          go_loop [86] (fun i => ∃ k : Nat, k ≤ pl.length ∧ i = .int .i64 k ∧ ∀ j, j < k → -1 ≤ nth pl j ∧ nth pl j ≤ 1000) (fun i => pl.length - (intOf i).toNat)
          case atStart => exact ⟨0, Nat.zero_le _, rfl, fun j hj => absurd hj (Nat.not_lt_zero _)⟩
          case round =>
            obtain ⟨k, hk, rfl, hall⟩ := hrel
            have HE := hide hall
            clear hall
            by_cases hlt : k < pl.length
            · have hlt' : (k : Int) < (pl.length : Int) := by omega
              obtain ⟨b1, o1, e, hc1⟩ := L5.out k hlt
              subst e
              by_cases u1 : nth pl k < -1
              · have u1' : decide (nth pl k < -1) = true := by simpa using u1
                go_wp2_with fail
                go_ret
                exact ⟨ret_int (schk_4b TM.out IS.out (Or.inl (ab_no hlt (Or.inl u1)))), B5.out⟩
              have u1' : decide (nth pl k < -1) = false := by simpa using u1
              by_cases u2 : 1000 < nth pl k
              · have u2' : decide (1000 < nth pl k) = true := by simpa using u2
                go_wp2_with fail
                go_ret
                exact ⟨ret_int (schk_4b TM.out IS.out (Or.inl (ab_no hlt (Or.inr u2)))), B5.out⟩
              have u2' : decide (1000 < nth pl k) = false := by simpa using u2
              go_wp2_with fail
              go_round
              case rel => exact ⟨k + 1, by omega, by go_num, fun j hj => by
                by_cases e : j = k
                · subst e; omega
                · exact HE.out j (by omega)⟩
              case measure => simp [intOf]; omega
            · have hlt' : ¬ ((k : Int) < (pl.length : Int)) := by omega
              have AP : Hid (ab (-1) 1000 pl = true) := ab_nth.2 fun j hj => HE.out j (by omega)
              clear HE
              go_wp2_with fail
              go_loop [100] (fun i => ∃ k : Nat, k ≤ dr.length ∧ i = .int .i64 k ∧ ∀ j, j < k → 0 ≤ nth dr j ∧ nth dr j ≤ 1000) (fun i => dr.length - (intOf i).toNat)
              case atStart => exact ⟨0, Nat.zero_le _, rfl, fun j hj => absurd hj (Nat.not_lt_zero _)⟩
              case round =>
                obtain ⟨k, hk, rfl, hall⟩ := hrel
                have HE := hide hall
                clear hall
                by_cases hlt : k < dr.length
                · have hlt' : (k : Int) < (dr.length : Int) := by omega
                  obtain ⟨b1, o1, e, hc1⟩ := D5.out k hlt
                  subst e
                  by_cases u1 : nth dr k < 0
                  · have u1' : decide (nth dr k < 0) = true := by simpa using u1
                    go_wp2_with fail
                    go_ret
                    exact ⟨ret_int (schk_4b TM.out IS.out (Or.inr (ab_no hlt (Or.inl u1)))), B5.out⟩
                  have u1' : decide (nth dr k < 0) = false := by simpa using u1
                  by_cases u2 : 1000 < nth dr k
                  · have u2' : decide (1000 < nth dr k) = true := by simpa using u2
                    go_wp2_with fail
                    go_ret
                    exact ⟨ret_int (schk_4b TM.out IS.out (Or.inr (ab_no hlt (Or.inr u2)))), B5.out⟩
                  have u2' : decide (1000 < nth dr k) = false := by simpa using u2
                  go_wp2_with fail
                  go_round
                  case rel => exact ⟨k + 1, by omega, by go_num, fun j hj => by
                    by_cases e : j = k
                    · subst e; omega
                    · exact HE.out j (by omega)⟩
                  case measure => simp [intOf]; omega
                · have hlt' : ¬ ((k : Int) < (dr.length : Int)) := by omega
                  have AD : Hid (ab 0 1000 dr = true) := ab_nth.2 fun j hj => HE.out j (by omega)
                  have F : Hid (schk ⟨T, M, ps, pl, dr⟩ = 0) := by
                    show _ = _
                    have e3 : decide (ps.length = 0) = false := by simpa using z
                    unfold schk
                    simp only [good_tm TM.out, IS.out, AR.out, AP.out, AD.out, e3]
                    rfl
                  go_wp2_with fail
                  go_ret
                  exact ⟨ret_int F.out, B5.out⟩
end Sh
end Go.Proofs.Ytocmdehpbipmlaa
/- The reference's bit and Numbers, over this seat's program. -/
namespace Go.Proofs.Ytocmdehpbipmlaa
open Go.ChangeShapes Go.WideShapes Go.ChangeAt Go.RowKit
namespace De
open Ba Re

theorem rbit_any (b : Bool) (w : World) :
    Calls Try.prog 80 #[.bool b] w fun r w' => r = .returned (.int .i64 (bt b)) ∧ w' = w := by
  cases b
  all_goals
    go_enter Try.func80, Try.ntmps80
    go_wp2
    go_ret
    exact ⟨rfl, rfl⟩

/-- what the making of the numbers keeps: the operation at B, the numbers so far -/
structure MK (w wr : World) (B : Nat) (k a b : Int) (s : Value) (d : Bool) (v : Value) (xs : List Int) : Prop where
  op : wr.heap[B]? = some (.cells #[.int .i64 k, .int .i64 a, .int .i64 b, s, .bool d] 24 (0, 0))
  own : wr.ownsRow w.heap.size 3 1 v xs.length (xs.map (Value.int .i64))
  bel : Below w.heap.size w wr
theorem MK.below {w wr wr' : World} {B : Nat} {k a b : Int} {s v : Value} {d : Bool} {xs : List Int} (h : MK w wr B k a b s d v xs) (hb : Below wr.heap.size wr wr') : MK w wr' B k a b s d v xs :=
  ⟨heap_below h.op hb, owns_below h.own hb, btr h.bel hb⟩
theorem MK.grown {w wr wr' : World} {B : Nat} {k a b : Int} {s v v' : Value} {d : Bool} {xs xs' : List Int} (h : MK w wr B k a b s d v xs) (hg : wr.grownBy wr' v.ownBlock) (ho : wr'.ownsRow w.heap.size 3 1 v' xs'.length (xs'.map (Value.int .i64))) : MK w wr' B k a b s d v' xs' :=
  ⟨(hg.block B (heap_lt h.op) (own_ne h.own h.op (by decide))).trans h.op, ho, h.bel.grown hg h.bel.size (fun x hx => (h.own.lt x hx).1)⟩
theorem MK.start (w : World) (k a b : Int) (s : Value) (d : Bool) : MK w ((w.alloc (.cells #[.int .i64 k, .int .i64 a, .int .i64 b, s, .bool d] 24)).alloc (.cells #[.int .i64 k] 3)) w.heap.size k a b s d (.slice (some ⟨w.heap.size + 1, 0, none⟩) 1 1) [k] := by
  generalize hO : Obj.cells #[Value.int .i64 k, .int .i64 a, .int .i64 b, s, .bool d] 24 = O
  generalize hK : Obj.cells #[Value.int .i64 k] 3 = K
  have B1 := below_alloc w O
  have B2 := below_alloc (w.alloc O) K
  have q1 := heap_below (heap_new w O) B2
  have q2 := heap_new (w.alloc O) K
  rw [World.size_alloc] at q2
  subst hO hK
  exact ⟨q1, ⟨rfl, .inr ⟨w.heap.size + 1, 1, _, rfl, by omega, q2, Nat.le_refl _, by decide, rfl, rfl⟩⟩, btr B1 B2⟩

set_option maxHeartbeats 1600000 in
theorem rnums_1 (a b : Int) (d : Bool) (oa : Option Addr) (n c : Nat) (w : World) :
    Calls Try.prog 71 #[.agg #[.int .i64 1, .int .i64 a, .int .i64 b, .slice oa n c, .bool d]] w fun r w' => NA r w' [1, a] ∧ Below w.heap.size w w' := by
  obtain ⟨i0, hi, hz0, hz1, hz2⟩ := info_parts info_int
  have INF := hide (And.intro hi (And.intro hz0 (And.intro hz1 hz2)))
  clear hi hz0 hz1 hz2
  have M0 := hide (MK.start w 1 a b (.slice oa n c) d)
  have j0 : ∀ w, (Instr.index 9 (.string (bs [112, 46])) (.int .i64 0)).run Try.prog w = .ok (.int .u8 112) w := ixA 1 (by decide) (by decide)
  have j1 : ∀ w, (Instr.index 9 (.string (bs [112, 46])) (.int .i64 1)).run Try.prog w = .ok (.int .u8 46) w := ixB 1 (by decide) (by decide)
  go_enter Try.func71, Try.ntmps71
  go_wp2_with fail
  refine (row_1 _).mono ?_
  rintro r w1 ⟨rfl, b1⟩
  have M1 := hide (M0.out.below b1)
  clear b1
  have L1 := hide (M1.out.below (below_alloc w1 (.cells #[.int .i64 a] 3)))
  have oc := cell_of M1.out.op 1
  simp at oc
  go_wp2_with (at_builtin; refine wpList_append_own _ rfl _ _ 36 rfl w.heap.size 3 i0 (.int .i64 0) 1 8 Try.underlying36 INF.out.1 INF.out.2.1 INF.out.2.2.1 INF.out.2.2.2 rfl (by decide) _ _ _ rfl L1.out.own ⟨w1.heap.size, 0, none⟩ 1 1 [.int .i64 a] rfl rfl ?c1 ?c2 ?c3 ?c4 ?c5 ?_)
  case c1 => exact src_new w1 [a]
  case c2 => intro u hu; simp at hu; subst hu; rfl
  case c3 => unfold maxLen; simp
  case c4 => simp
  case c5 => exact L1.out.bel.size
  intro v2 w2 hown hgrow _
  have M2 := hide (L1.out.grown (xs' := [1, a]) hgrow hown)
  clear hown hgrow oc
  obtain ⟨oa2, c2, hv2, -⟩ := owns_at M2.out.own
  subst hv2
  go_wp2_with fail
  go_ret
  obtain ⟨oa', c', hv', hat'⟩ := owns_at M2.out.own
  exact ⟨⟨oa', c', by rw [← hv']; rfl, hat'⟩, M2.out.bel⟩

set_option maxHeartbeats 1600000 in
theorem rnums_2 (a b : Int) (d : Bool) (oa : Option Addr) (n c : Nat) (w : World) :
    Calls Try.prog 71 #[.agg #[.int .i64 2, .int .i64 a, .int .i64 b, .slice oa n c, .bool d]] w fun r w' => NA r w' [2, a, b] ∧ Below w.heap.size w w' := by
  obtain ⟨i0, hi, hz0, hz1, hz2⟩ := info_parts info_int
  have INF := hide (And.intro hi (And.intro hz0 (And.intro hz1 hz2)))
  clear hi hz0 hz1 hz2
  have M0 := hide (MK.start w 2 a b (.slice oa n c) d)
  have j0 : ∀ w, (Instr.index 9 (.string (bs [99, 109])) (.int .i64 0)).run Try.prog w = .ok (.int .u8 99) w := ixA 2 (by decide) (by decide)
  have j1 : ∀ w, (Instr.index 9 (.string (bs [99, 109])) (.int .i64 1)).run Try.prog w = .ok (.int .u8 109) w := ixB 2 (by decide) (by decide)
  go_enter Try.func71, Try.ntmps71
  go_wp2_with fail
  refine (row_2 _).mono ?_
  rintro r w1 ⟨rfl, b1⟩
  have M1 := hide (M0.out.below b1)
  clear b1
  have L1 := hide (M1.out.below (below_alloc w1 (.cells #[.int .i64 a] 3)))
  have oc := cell_of M1.out.op 1
  simp at oc
  go_wp2_with (at_builtin; refine wpList_append_own _ rfl _ _ 36 rfl w.heap.size 3 i0 (.int .i64 0) 1 8 Try.underlying36 INF.out.1 INF.out.2.1 INF.out.2.2.1 INF.out.2.2.2 rfl (by decide) _ _ _ rfl L1.out.own ⟨w1.heap.size, 0, none⟩ 1 1 [.int .i64 a] rfl rfl ?c1 ?c2 ?c3 ?c4 ?c5 ?_)
  case c1 => exact src_new w1 [a]
  case c2 => intro u hu; simp at hu; subst hu; rfl
  case c3 => unfold maxLen; simp
  case c4 => simp
  case c5 => exact L1.out.bel.size
  intro v2 w2 hown hgrow _
  have M2 := hide (L1.out.grown (xs' := [2, a]) hgrow hown)
  clear hown hgrow oc
  obtain ⟨oa2, c2, hv2, -⟩ := owns_at M2.out.own
  subst hv2
  have L2 := hide (M2.out.below (below_alloc w2 (.cells #[.int .i64 b] 3)))
  have oc := cell_of M2.out.op 2
  simp at oc
  go_wp2_with (at_builtin; refine wpList_append_own _ rfl _ _ 36 rfl w.heap.size 3 i0 (.int .i64 0) 1 8 Try.underlying36 INF.out.1 INF.out.2.1 INF.out.2.2.1 INF.out.2.2.2 rfl (by decide) _ _ _ rfl L2.out.own ⟨w2.heap.size, 0, none⟩ 1 1 [.int .i64 b] rfl rfl ?c1 ?c2 ?c3 ?c4 ?c5 ?_)
  case c1 => exact src_new w2 [b]
  case c2 => intro u hu; simp at hu; subst hu; rfl
  case c3 => unfold maxLen; simp
  case c4 => simp
  case c5 => exact L2.out.bel.size
  intro v3 w3 hown hgrow _
  have M3 := hide (L2.out.grown (xs' := [2, a, b]) hgrow hown)
  clear hown hgrow oc
  obtain ⟨oa3, c3, hv3, -⟩ := owns_at M3.out.own
  subst hv3
  go_wp2_with fail
  go_ret
  obtain ⟨oa', c', hv', hat'⟩ := owns_at M3.out.own
  exact ⟨⟨oa', c', by rw [← hv']; rfl, hat'⟩, M3.out.bel⟩

set_option maxHeartbeats 1600000 in
theorem rnums_3 (a b : Int) (d : Bool) (oa : Option Addr) (n c : Nat) (w : World) :
    Calls Try.prog 71 #[.agg #[.int .i64 3, .int .i64 a, .int .i64 b, .slice oa n c, .bool d]] w fun r w' => NA r w' [3, a, b] ∧ Below w.heap.size w w' := by
  obtain ⟨i0, hi, hz0, hz1, hz2⟩ := info_parts info_int
  have INF := hide (And.intro hi (And.intro hz0 (And.intro hz1 hz2)))
  clear hi hz0 hz1 hz2
  have M0 := hide (MK.start w 3 a b (.slice oa n c) d)
  have j0 : ∀ w, (Instr.index 9 (.string (bs [99, 118])) (.int .i64 0)).run Try.prog w = .ok (.int .u8 99) w := ixA 3 (by decide) (by decide)
  have j1 : ∀ w, (Instr.index 9 (.string (bs [99, 118])) (.int .i64 1)).run Try.prog w = .ok (.int .u8 118) w := ixB 3 (by decide) (by decide)
  go_enter Try.func71, Try.ntmps71
  go_wp2_with fail
  refine (row_3 _).mono ?_
  rintro r w1 ⟨rfl, b1⟩
  have M1 := hide (M0.out.below b1)
  clear b1
  have L1 := hide (M1.out.below (below_alloc w1 (.cells #[.int .i64 a] 3)))
  have oc := cell_of M1.out.op 1
  simp at oc
  go_wp2_with (at_builtin; refine wpList_append_own _ rfl _ _ 36 rfl w.heap.size 3 i0 (.int .i64 0) 1 8 Try.underlying36 INF.out.1 INF.out.2.1 INF.out.2.2.1 INF.out.2.2.2 rfl (by decide) _ _ _ rfl L1.out.own ⟨w1.heap.size, 0, none⟩ 1 1 [.int .i64 a] rfl rfl ?c1 ?c2 ?c3 ?c4 ?c5 ?_)
  case c1 => exact src_new w1 [a]
  case c2 => intro u hu; simp at hu; subst hu; rfl
  case c3 => unfold maxLen; simp
  case c4 => simp
  case c5 => exact L1.out.bel.size
  intro v2 w2 hown hgrow _
  have M2 := hide (L1.out.grown (xs' := [3, a]) hgrow hown)
  clear hown hgrow oc
  obtain ⟨oa2, c2, hv2, -⟩ := owns_at M2.out.own
  subst hv2
  have L2 := hide (M2.out.below (below_alloc w2 (.cells #[.int .i64 b] 3)))
  have oc := cell_of M2.out.op 2
  simp at oc
  go_wp2_with (at_builtin; refine wpList_append_own _ rfl _ _ 36 rfl w.heap.size 3 i0 (.int .i64 0) 1 8 Try.underlying36 INF.out.1 INF.out.2.1 INF.out.2.2.1 INF.out.2.2.2 rfl (by decide) _ _ _ rfl L2.out.own ⟨w2.heap.size, 0, none⟩ 1 1 [.int .i64 b] rfl rfl ?c1 ?c2 ?c3 ?c4 ?c5 ?_)
  case c1 => exact src_new w2 [b]
  case c2 => intro u hu; simp at hu; subst hu; rfl
  case c3 => unfold maxLen; simp
  case c4 => simp
  case c5 => exact L2.out.bel.size
  intro v3 w3 hown hgrow _
  have M3 := hide (L2.out.grown (xs' := [3, a, b]) hgrow hown)
  clear hown hgrow oc
  obtain ⟨oa3, c3, hv3, -⟩ := owns_at M3.out.own
  subst hv3
  go_wp2_with fail
  go_ret
  obtain ⟨oa', c', hv', hat'⟩ := owns_at M3.out.own
  exact ⟨⟨oa', c', by rw [← hv']; rfl, hat'⟩, M3.out.bel⟩

set_option maxHeartbeats 1600000 in
theorem rnums_4 (a b : Int) (d : Bool) (oa : Option Addr) (n c : Nat) (w : World) :
    Calls Try.prog 71 #[.agg #[.int .i64 4, .int .i64 a, .int .i64 b, .slice oa n c, .bool d]] w fun r w' => NA r w' [4, a] ∧ Below w.heap.size w w' := by
  obtain ⟨i0, hi, hz0, hz1, hz2⟩ := info_parts info_int
  have INF := hide (And.intro hi (And.intro hz0 (And.intro hz1 hz2)))
  clear hi hz0 hz1 hz2
  have M0 := hide (MK.start w 4 a b (.slice oa n c) d)
  have j0 : ∀ w, (Instr.index 9 (.string (bs [99, 46])) (.int .i64 0)).run Try.prog w = .ok (.int .u8 99) w := ixA 4 (by decide) (by decide)
  have j1 : ∀ w, (Instr.index 9 (.string (bs [99, 46])) (.int .i64 1)).run Try.prog w = .ok (.int .u8 46) w := ixB 4 (by decide) (by decide)
  go_enter Try.func71, Try.ntmps71
  go_wp2_with fail
  refine (row_4 _).mono ?_
  rintro r w1 ⟨rfl, b1⟩
  have M1 := hide (M0.out.below b1)
  clear b1
  have L1 := hide (M1.out.below (below_alloc w1 (.cells #[.int .i64 a] 3)))
  have oc := cell_of M1.out.op 1
  simp at oc
  go_wp2_with (at_builtin; refine wpList_append_own _ rfl _ _ 36 rfl w.heap.size 3 i0 (.int .i64 0) 1 8 Try.underlying36 INF.out.1 INF.out.2.1 INF.out.2.2.1 INF.out.2.2.2 rfl (by decide) _ _ _ rfl L1.out.own ⟨w1.heap.size, 0, none⟩ 1 1 [.int .i64 a] rfl rfl ?c1 ?c2 ?c3 ?c4 ?c5 ?_)
  case c1 => exact src_new w1 [a]
  case c2 => intro u hu; simp at hu; subst hu; rfl
  case c3 => unfold maxLen; simp
  case c4 => simp
  case c5 => exact L1.out.bel.size
  intro v2 w2 hown hgrow _
  have M2 := hide (L1.out.grown (xs' := [4, a]) hgrow hown)
  clear hown hgrow oc
  obtain ⟨oa2, c2, hv2, -⟩ := owns_at M2.out.own
  subst hv2
  go_wp2_with fail
  go_ret
  obtain ⟨oa', c', hv', hat'⟩ := owns_at M2.out.own
  exact ⟨⟨oa', c', by rw [← hv']; rfl, hat'⟩, M2.out.bel⟩

set_option maxHeartbeats 1600000 in
theorem rnums_5 (a b : Int) (d : Bool) (oa : Option Addr) (n c : Nat) (w : World) :
    Calls Try.prog 71 #[.agg #[.int .i64 5, .int .i64 a, .int .i64 b, .slice oa n c, .bool d]] w fun r w' => NA r w' [5, a] ∧ Below w.heap.size w w' := by
  obtain ⟨i0, hi, hz0, hz1, hz2⟩ := info_parts info_int
  have INF := hide (And.intro hi (And.intro hz0 (And.intro hz1 hz2)))
  clear hi hz0 hz1 hz2
  have M0 := hide (MK.start w 5 a b (.slice oa n c) d)
  have j0 : ∀ w, (Instr.index 9 (.string (bs [99, 46])) (.int .i64 0)).run Try.prog w = .ok (.int .u8 99) w := ixA 5 (by decide) (by decide)
  have j1 : ∀ w, (Instr.index 9 (.string (bs [99, 46])) (.int .i64 1)).run Try.prog w = .ok (.int .u8 46) w := ixB 5 (by decide) (by decide)
  go_enter Try.func71, Try.ntmps71
  go_wp2_with fail
  refine (row_5 _).mono ?_
  rintro r w1 ⟨rfl, b1⟩
  have M1 := hide (M0.out.below b1)
  clear b1
  have L1 := hide (M1.out.below (below_alloc w1 (.cells #[.int .i64 a] 3)))
  have oc := cell_of M1.out.op 1
  simp at oc
  go_wp2_with (at_builtin; refine wpList_append_own _ rfl _ _ 36 rfl w.heap.size 3 i0 (.int .i64 0) 1 8 Try.underlying36 INF.out.1 INF.out.2.1 INF.out.2.2.1 INF.out.2.2.2 rfl (by decide) _ _ _ rfl L1.out.own ⟨w1.heap.size, 0, none⟩ 1 1 [.int .i64 a] rfl rfl ?c1 ?c2 ?c3 ?c4 ?c5 ?_)
  case c1 => exact src_new w1 [a]
  case c2 => intro u hu; simp at hu; subst hu; rfl
  case c3 => unfold maxLen; simp
  case c4 => simp
  case c5 => exact L1.out.bel.size
  intro v2 w2 hown hgrow _
  have M2 := hide (L1.out.grown (xs' := [5, a]) hgrow hown)
  clear hown hgrow oc
  obtain ⟨oa2, c2, hv2, -⟩ := owns_at M2.out.own
  subst hv2
  go_wp2_with fail
  go_ret
  obtain ⟨oa', c', hv', hat'⟩ := owns_at M2.out.own
  exact ⟨⟨oa', c', by rw [← hv']; rfl, hat'⟩, M2.out.bel⟩

set_option maxHeartbeats 1600000 in
theorem rnums_7 (a b : Int) (d : Bool) (oa : Option Addr) (n c : Nat) (w : World) :
    Calls Try.prog 71 #[.agg #[.int .i64 7, .int .i64 a, .int .i64 b, .slice oa n c, .bool d]] w fun r w' => NA r w' [7, a] ∧ Below w.heap.size w w' := by
  obtain ⟨i0, hi, hz0, hz1, hz2⟩ := info_parts info_int
  have INF := hide (And.intro hi (And.intro hz0 (And.intro hz1 hz2)))
  clear hi hz0 hz1 hz2
  have M0 := hide (MK.start w 7 a b (.slice oa n c) d)
  have j0 : ∀ w, (Instr.index 9 (.string (bs [120, 46])) (.int .i64 0)).run Try.prog w = .ok (.int .u8 120) w := ixA 7 (by decide) (by decide)
  have j1 : ∀ w, (Instr.index 9 (.string (bs [120, 46])) (.int .i64 1)).run Try.prog w = .ok (.int .u8 46) w := ixB 7 (by decide) (by decide)
  go_enter Try.func71, Try.ntmps71
  go_wp2_with fail
  refine (row_7 _).mono ?_
  rintro r w1 ⟨rfl, b1⟩
  have M1 := hide (M0.out.below b1)
  clear b1
  have L1 := hide (M1.out.below (below_alloc w1 (.cells #[.int .i64 a] 3)))
  have oc := cell_of M1.out.op 1
  simp at oc
  go_wp2_with (at_builtin; refine wpList_append_own _ rfl _ _ 36 rfl w.heap.size 3 i0 (.int .i64 0) 1 8 Try.underlying36 INF.out.1 INF.out.2.1 INF.out.2.2.1 INF.out.2.2.2 rfl (by decide) _ _ _ rfl L1.out.own ⟨w1.heap.size, 0, none⟩ 1 1 [.int .i64 a] rfl rfl ?c1 ?c2 ?c3 ?c4 ?c5 ?_)
  case c1 => exact src_new w1 [a]
  case c2 => intro u hu; simp at hu; subst hu; rfl
  case c3 => unfold maxLen; simp
  case c4 => simp
  case c5 => exact L1.out.bel.size
  intro v2 w2 hown hgrow _
  have M2 := hide (L1.out.grown (xs' := [7, a]) hgrow hown)
  clear hown hgrow oc
  obtain ⟨oa2, c2, hv2, -⟩ := owns_at M2.out.own
  subst hv2
  go_wp2_with fail
  go_ret
  obtain ⟨oa', c', hv', hat'⟩ := owns_at M2.out.own
  exact ⟨⟨oa', c', by rw [← hv']; rfl, hat'⟩, M2.out.bel⟩

set_option maxHeartbeats 1600000 in
theorem rnums_8 (a b : Int) (d : Bool) (oa : Option Addr) (n c : Nat) (w : World) :
    Calls Try.prog 71 #[.agg #[.int .i64 8, .int .i64 a, .int .i64 b, .slice oa n c, .bool d]] w fun r w' => NA r w' [8, a] ∧ Below w.heap.size w w' := by
  obtain ⟨i0, hi, hz0, hz1, hz2⟩ := info_parts info_int
  have INF := hide (And.intro hi (And.intro hz0 (And.intro hz1 hz2)))
  clear hi hz0 hz1 hz2
  have M0 := hide (MK.start w 8 a b (.slice oa n c) d)
  have j0 : ∀ w, (Instr.index 9 (.string (bs [120, 46])) (.int .i64 0)).run Try.prog w = .ok (.int .u8 120) w := ixA 8 (by decide) (by decide)
  have j1 : ∀ w, (Instr.index 9 (.string (bs [120, 46])) (.int .i64 1)).run Try.prog w = .ok (.int .u8 46) w := ixB 8 (by decide) (by decide)
  go_enter Try.func71, Try.ntmps71
  go_wp2_with fail
  refine (row_8 _).mono ?_
  rintro r w1 ⟨rfl, b1⟩
  have M1 := hide (M0.out.below b1)
  clear b1
  have L1 := hide (M1.out.below (below_alloc w1 (.cells #[.int .i64 a] 3)))
  have oc := cell_of M1.out.op 1
  simp at oc
  go_wp2_with (at_builtin; refine wpList_append_own _ rfl _ _ 36 rfl w.heap.size 3 i0 (.int .i64 0) 1 8 Try.underlying36 INF.out.1 INF.out.2.1 INF.out.2.2.1 INF.out.2.2.2 rfl (by decide) _ _ _ rfl L1.out.own ⟨w1.heap.size, 0, none⟩ 1 1 [.int .i64 a] rfl rfl ?c1 ?c2 ?c3 ?c4 ?c5 ?_)
  case c1 => exact src_new w1 [a]
  case c2 => intro u hu; simp at hu; subst hu; rfl
  case c3 => unfold maxLen; simp
  case c4 => simp
  case c5 => exact L1.out.bel.size
  intro v2 w2 hown hgrow _
  have M2 := hide (L1.out.grown (xs' := [8, a]) hgrow hown)
  clear hown hgrow oc
  obtain ⟨oa2, c2, hv2, -⟩ := owns_at M2.out.own
  subst hv2
  go_wp2_with fail
  go_ret
  obtain ⟨oa', c', hv', hat'⟩ := owns_at M2.out.own
  exact ⟨⟨oa', c', by rw [← hv']; rfl, hat'⟩, M2.out.bel⟩

set_option maxHeartbeats 1600000 in
theorem rnums_9 (a b : Int) (d : Bool) (oa : Option Addr) (n c : Nat) (w : World) :
    Calls Try.prog 71 #[.agg #[.int .i64 9, .int .i64 a, .int .i64 b, .slice oa n c, .bool d]] w fun r w' => NA r w' [9] ∧ Below w.heap.size w w' := by
  obtain ⟨i0, hi, hz0, hz1, hz2⟩ := info_parts info_int
  have INF := hide (And.intro hi (And.intro hz0 (And.intro hz1 hz2)))
  clear hi hz0 hz1 hz2
  have M0 := hide (MK.start w 9 a b (.slice oa n c) d)
  have j0 : ∀ w, (Instr.index 9 (.string (bs [46, 46])) (.int .i64 0)).run Try.prog w = .ok (.int .u8 46) w := ixA 9 (by decide) (by decide)
  have j1 : ∀ w, (Instr.index 9 (.string (bs [46, 46])) (.int .i64 1)).run Try.prog w = .ok (.int .u8 46) w := ixB 9 (by decide) (by decide)
  go_enter Try.func71, Try.ntmps71
  go_wp2_with fail
  refine (row_9 _).mono ?_
  rintro r w1 ⟨rfl, b1⟩
  have M1 := hide (M0.out.below b1)
  clear b1
  go_wp2_with fail
  go_ret
  obtain ⟨oa', c', hv', hat'⟩ := owns_at M1.out.own
  exact ⟨⟨oa', c', by rw [← hv']; rfl, hat'⟩, M1.out.bel⟩

set_option maxRecDepth 100000 in
set_option maxHeartbeats 1600000 in
theorem rnums_6 (a b : Int) (d : Bool) (cs : List Cs) (oa : Option Addr) (c : Nat) (w : World) (hA : CAt w oa cs) (hl : cs.length ≤ 4) :
    Calls Try.prog 71 #[.agg #[.int .i64 6, .int .i64 a, .int .i64 b, .slice oa cs.length c, .bool d]] w fun r w' => (∃ oa' c', r = .returned (.slice oa' (nums ⟨6, a, b, cs, d⟩).length c') ∧ At w' oa' (nums ⟨6, a, b, cs, d⟩)) ∧ Below w.heap.size w w' := by
  have HA := hide hA
  obtain ⟨i0, hi, hz0, hz1, hz2⟩ := info_parts info_int
  have INF := hide (And.intro hi (And.intro hz0 (And.intro hz1 hz2)))
  clear hi hz0 hz1 hz2 hA
  have L2 := hide (MK.start w 6 a b (.slice oa cs.length c) d)
  go_enter Try.func71, Try.ntmps71
  go_wp2_with fail
  generalize ((w.alloc (.cells #[.int .i64 6, .int .i64 a, .int .i64 b, .slice oa cs.length c, .bool d] 24)).alloc (.cells #[.int .i64 6] 3)) = wr at L2 ⊢
  have oc4 := cell_of L2.out.op 4
  have oc3 := cell_of L2.out.op 3
  have NE := hide (own_ne L2.out.own L2.out.op (by decide))
  have olt := heap_lt L2.out.op
  have BS := hide L2.out.bel.size
  have HN := hide (INF.out)
  simp at oc4 oc3
  go_region_held3 (fun w' => w'.cell? ⟨w.heap.size, 4, none⟩ = some (.bool d) ∧ w'.cell? ⟨w.heap.size, 3, none⟩ = some (.slice oa cs.length c))
    (first
      | go_keep
      | (go_split_ands
         refine ⟨?_, ?_⟩
         · (rw [hgrow.cell_far _ (by simp; omega) NE.out]; assumption)
         · (rw [hgrow.cell_far _ (by simp; omega) NE.out]; assumption)))
    (first
      | (go_at_call 80; refine (rbit_any _ _).mono ?_; rintro r w' ⟨rfl, rfl⟩)
      | ((refine step_append_lies _ (by rfl) _ _ _ (by rfl) w.heap.size 3 i0 _ 1 8 Try.underlying36 INF.out.1 INF.out.2.1 INF.out.2.2.1 INF.out.2.2.2 rfl (by omega) _ _ _ (by rfl) ((L2.out.own.alloc _).drew) ⟨wr.heap.size, 0, none⟩ 2 2 [.int .i64 (bt d), .int .i64 (cs.length : Int)] (by rfl) (by rfl) (World.news_of_block (cs := #[.int .i64 (bt d), .int .i64 (cs.length : Int)]) (t := 3) (fr := (0, 0)) (heap_alloc_new wr _)) (by simp [Value.oneCell']) (by omega) (by simp [maxLen]) (by simp) (by simp; exact Nat.le_succ_of_le BS.out) (wr.heap.size + 1) (by simp) ?_; intro g cap w3 hown hgrow hat hlt)))
  have L3 := hide ((L2.out.below (btr (below_alloc wr (.cells #[.int .i64 (bt d), .int .i64 (cs.length : Int)] 3)) (bdrew1 _))).grown (xs' := [6, bt d, (cs.length : Int)]) hgrow hown)
  have oc3 := cell_of L3.out.op 3
  simp at oc3
  clear hown hgrow hat hlt NE oc4
  go_wp2_with fail
  go_loopw [3, 25] (fun l i wr => ∃ (j : Nat) (v : Value), j ≤ cs.length ∧ i = .int .i64 (j : Int) ∧ l = v ∧ MK w wr w.heap.size 6 a b (.slice oa cs.length c) d v ([6, bt d, (cs.length : Int)] ++ (cs.take j).flatMap cn)) (fun _ i _ => cs.length - (intOf i).toNat)
  case atStart => exact ⟨0, _, Nat.zero_le _, rfl, rfl, by simpa using L3.out⟩
  case round =>
    clear L2 L3 oc3 BS olt
    obtain ⟨j, v, hj, rfl, rfl, hnk⟩ := hrel
    by_cases hlt : j < cs.length
    · have hlt' : decide ((j : Int) < (cs.length : Int)) = true := by simp; omega
      obtain ⟨x, hx⟩ : ∃ x, cs[j]? = some x := ⟨cs[j], by simp [hlt]⟩
      obtain ⟨b', off, rfl, q1, q2, q3⟩ := (HA.out.below hnk.bel) j x hx
      have PS := hide (flat_take cs j x hx)
      have LN := hide (flat_len cs j)
      have L5 := hide (hnk.below (below_alloc wr (.cells #[.bool x.send, .int .i64 x.ch, .int .i64 x.val] 58)))
      have HC := hide (heap_new wr (.cells #[.bool x.send, .int .i64 x.ch, .int .i64 x.val] 58))
      obtain ⟨X, hX⟩ : ∃ X : List Int, [6, bt d, (cs.length : Int)] ++ (cs.take j).flatMap cn = X := ⟨_, rfl⟩
      have XL : Hid (X.length + 3 ≤ 1000) := by
        show _ ≤ _
        have := LN.out
        rw [← hX]
        simp at this ⊢
        omega
      rw [hX] at L5
      have HX := hide hX
      clear hnk hx hX
      go_wp2_with fail
      generalize wr.alloc (.cells #[.bool x.send, .int .i64 x.ch, .int .i64 x.val] 58) = W5 at L5 HC ⊢
      have e0 := cell_of HC.out 0
      have e1 := cell_of HC.out 1
      have e2 := cell_of HC.out 2
      simp at e0 e1 e2
      have clt := heap_lt HC.out
      have NE := hide (own_ne L5.out.own HC.out (by decide))
      have BS := hide L5.out.bel.size
      go_region_held3 (fun w' => w'.cell? ⟨wr.heap.size, 0, none⟩ = some (.bool x.send) ∧ w'.cell? ⟨wr.heap.size, 1, none⟩ = some (.int .i64 x.ch) ∧ w'.cell? ⟨wr.heap.size, 2, none⟩ = some (.int .i64 x.val))
        (first
          | go_keep
          | (go_split_ands
             refine ⟨?_, ?_, ?_⟩
             · (rw [hgrow.cell_far _ (by simp; omega) NE.out]; assumption)
             · (rw [hgrow.cell_far _ (by simp; omega) NE.out]; assumption)
             · (rw [hgrow.cell_far _ (by simp; omega) NE.out]; assumption)))
        (first
          | (go_at_call 80; refine (rbit_any _ _).mono ?_; rintro r w' ⟨rfl, rfl⟩)
          | ((refine step_append_lies _ (by rfl) _ _ _ (by rfl) w.heap.size 3 i0 _ 1 8 Try.underlying36 INF.out.1 INF.out.2.1 INF.out.2.2.1 INF.out.2.2.2 rfl (by omega) _ _ _ (by rfl) ((L5.out.own.alloc _).drew) ⟨W5.heap.size, 0, none⟩ 3 3 [.int .i64 (bt x.send), .int .i64 x.ch, .int .i64 x.val] (by rfl) (by rfl) (World.news_of_block (cs := #[.int .i64 (bt x.send), .int .i64 x.ch, .int .i64 x.val]) (t := 3) (fr := (0, 0)) (heap_alloc_new W5 _)) (by simp [Value.oneCell']) (by omega) (by have := XL.out; unfold maxLen; omega) (by have := XL.out; omega) (by simp; exact Nat.le_succ_of_le BS.out) (W5.heap.size + 1) (by simp) ?_; intro g2 cap2 w6 hown hgrow hat2 hlt2)))
      have L6 := hide ((L5.out.below (btr (below_alloc W5 (.cells #[.int .i64 (bt x.send), .int .i64 x.ch, .int .i64 x.val] 3)) (bdrew1 _))).grown (xs' := X ++ [bt x.send, x.ch, x.val]) hgrow (by
        rw [List.map_append, List.length_append]
        exact hown))
      clear hown hgrow hat2 hlt2 e0 e1 e2
      go_wp2_with fail

      go_roundw
      case rel =>
        repeat apply Exists.intro
        refine ⟨⟨j + 1, _, by omega, by go_num, rfl, by
          rw [PS.out, ← List.append_assoc, HX.out]
          exact L6.out⟩, rfl⟩
      case measure => simp [intOf]; omega
    · have hlt' : decide ((j : Int) < (cs.length : Int)) = false := by simp; omega
      have e : j = cs.length := by omega
      subst e
      have EN : Hid (nums ⟨6, a, b, cs, d⟩ = [6, bt d, (cs.length : Int)] ++ (cs.take cs.length).flatMap cn) := by
        show _ = _
        rw [List.take_length]
        rfl
      obtain ⟨oa', c', hv', hat'⟩ := owns_at hnk.own
      subst hv'
      have AT := hide hat'
      have L2 := hide hnk
      clear hat' hnk
      go_wp2_with fail
      go_ret
      exact ⟨⟨oa', c', by rw [EN.out]; rfl, by rw [EN.out]; exact AT.out⟩, L2.out.bel⟩
theorem rnums_any (o : OpD) (oa : Option Addr) (c : Nat) (w : World) (hA : CAt w oa o.cases) (hl : o.cases.length ≤ 4) (h1 : 1 ≤ o.kind) (h2 : o.kind ≤ 9) :
    Calls Try.prog 71 #[.agg #[.int .i64 o.kind, .int .i64 o.a, .int .i64 o.b, .slice oa o.cases.length c, .bool o.def_]] w fun r w' => (∃ oa' c', r = .returned (.slice oa' (nums o).length c') ∧ At w' oa' (nums o)) ∧ Below w.heap.size w w' := by
  obtain ⟨k, a, b, cs, d⟩ := o
  simp only at h1 h2 hA hl
  rcases kind_cases h1 h2 with rfl | rfl | rfl | rfl | rfl | rfl | rfl | rfl | rfl
  · exact rnums_1 a b d oa _ c w
  · exact rnums_2 a b d oa _ c w
  · exact rnums_3 a b d oa _ c w
  · exact rnums_4 a b d oa _ c w
  · exact rnums_5 a b d oa _ c w
  · exact rnums_6 a b d cs oa c w hA hl
  · exact rnums_7 a b d oa _ c w
  · exact rnums_8 a b d oa _ c w
  · exact rnums_9 a b d oa _ c w
end De
end Go.Proofs.Ytocmdehpbipmlaa
/- The reference's Encode, over this seat's program. -/
namespace Go.Proofs.Ytocmdehpbipmlaa
open Go.ChangeShapes Go.WideShapes Go.ChangeAt Go.RowKit
namespace De
open Ba Re

set_option maxHeartbeats 800000 in
theorem rencode_no (o : OpD) (oa : Option Addr) (c : Nat) (p : Int) (w : World) (hA : CAt w oa o.cases) (hm : o.cases.length ≤ maxLen) (h : (chk o p == 0) = false) :
    Calls Try.prog 40 #[.agg #[.int .i64 o.kind, .int .i64 o.a, .int .i64 o.b, .slice oa o.cases.length c, .bool o.def_], .int .i64 p] w fun r w' => r = .returned (.tuple #[.string (bs []), .int .i64 (chk o p)]) ∧ Below w.heap.size w w' := by
  have HA := hide (hA.below (below_alloc w (.cells #[.int .i64 o.kind, .int .i64 o.a, .int .i64 o.b, .slice oa o.cases.length c, .bool o.def_] 24)))
  have h2 : (chk o p != 0) = true := by simp [bne, h]
  have HM := hide hm
  clear hA hm
  go_enter Try.func40, Try.ntmps40
  go_wp2_with fail
  refine (rcheck_any o _ _ p _ HA.out HM.out).mono ?_
  rintro r w1 ⟨rfl, b1⟩
  have B1 := hide (btr (below_alloc _ _) b1)
  clear b1
  go_wp2_with fail
  go_ret2
  exact ⟨rfl, B1.out⟩

set_option maxRecDepth 100000 in
set_option maxHeartbeats 1600000 in
theorem rencode_ok (o : OpD) (oa : Option Addr) (c : Nat) (p : Int) (w : World) (hA : CAt w oa o.cases) (hl : o.cases.length ≤ 4) (h : chk o p = 0) (hn : ∀ n ∈ nums o, okR n = true) :
    Calls Try.prog 40 #[.agg #[.int .i64 o.kind, .int .i64 o.a, .int .i64 o.b, .slice oa o.cases.length c, .bool o.def_], .int .i64 p] w fun r w' => r = .returned (.tuple #[.string (bs (pls (nums o))), .int .i64 0]) ∧ Below w.heap.size w w' := by
  have HA := hide (hA.below (below_alloc w (.cells #[.int .i64 o.kind, .int .i64 o.a, .int .i64 o.b, .slice oa o.cases.length c, .bool o.def_] 24)))
  have H := hide h
  have HM : Hid (o.cases.length ≤ maxLen) := by show _ ≤ _; unfold maxLen; omega
  have HN := hide hn
  have HK := hide (chk_zero h).2.1
  clear hA h hn
  go_enter Try.func40, Try.ntmps40
  go_wp2_with fail
  refine (rcheck_any o _ _ p _ HA.out HM.out).mono ?_
  rw [H.out]
  rintro r w1 ⟨rfl, b1⟩
  have B1 := hide (btr (below_alloc _ _) b1)
  have HA1 := hide (HA.out.below b1)
  have oc := heap_below (heap_new w (.cells #[.int .i64 o.kind, .int .i64 o.a, .int .i64 o.b, .slice oa o.cases.length c, .bool o.def_] 24)) b1
  have o0 := cell_of oc 0
  have o1 := cell_of oc 1
  have o2 := cell_of oc 2
  have o3 := cell_of oc 3
  have o4 := cell_of oc 4
  simp at o0 o1 o2 o3 o4
  clear b1 oc
  go_wp2_with fail
  refine (rnums_any o _ _ _ HA1.out hl HK.out.1 HK.out.2).mono ?_
  rintro r w2 ⟨⟨oa2, c2, rfl, hat⟩, b2⟩
  have A2 := hide hat
  have B2 := hide (btr B1.out b2)
  generalize hNN : nums o = NN at HN A2 ⊢
  have HNN := hide hNN
  have NL : NN.length ≤ 100 := by rw [← hNN]; exact nums_len o hl
  clear b2 hat hNN
  go_wp2_with fail
  go_loopw [7, 21] (fun t i wr => ∃ k : Nat, k ≤ NN.length ∧ i = .int .i64 (k : Int) ∧ t = .string (bs (pls (NN.take k))) ∧ Below w2.heap.size w2 wr) (fun _ i _ => NN.length - (intOf i).toNat)
  case atStart => exact ⟨0, Nat.zero_le _, rfl, rfl, Below.refl _ _⟩
  case round =>
    obtain ⟨k, hk, rfl, rfl, hb⟩ := hrel
    have HB := hide hb
    have A3 := hide (A2.out.below hb)
    clear hb
    by_cases hlt : k < NN.length
    · have hlt' : decide ((k : Int) < (NN.length : Int)) = true := by simp; omega
      obtain ⟨b', off, rfl, hc⟩ := A3.out k hlt
      have hok := HN.out (nth NN k) (by rw [nth_lt NN k hlt]; exact List.getElem_mem hlt)
      obtain ⟨h0, h1⟩ := (okR_iff _).1 hok
      obtain ⟨m, hm⟩ := Int.eq_ofNat_of_zero_le h0
      have PS := pls_take NN k hlt
      rw [hm] at hc h1 PS
      rw [Int.toNat_natCast] at PS
      have ad : ∀ w, (Op.stringOp .add (bs (pls (NN.take k))) (bs (spl m))).run Try.prog w = .ok (.string (bs (pls (NN.take (k + 1))))) w := fun w => by
        have h2 := pls_len (NN.take k)
        have h3 := spl_len m
        rw [List.length_take] at h2
        rw [add_str _ _ w (by rw [bs_size, bs_size]; omega), bs_append, PS]
      clear hok h0 PS hm
      go_wp2_with fail
      refine (rput_ok m (by omega) _).mono ?_
      rintro r w3 ⟨rfl, b3⟩
      have B3 := hide (btr HB.out b3)
      clear b3
      go_wp2_with fail
      go_roundw
      case rel => exact ⟨k + 1, by omega, by go_num, rfl, B3.out⟩
      case measure => simp [intOf]; omega
    · have hlt' : decide ((k : Int) < (NN.length : Int)) = false := by simp; omega
      have e : k = NN.length := by omega
      subst e
      rw [List.take_length]
      go_wp2_with fail
      go_ret2
      exact ⟨by rw [HNN.out]; rfl, btr B2.out HB.out⟩

end De
end Go.Proofs.Ytocmdehpbipmlaa
/- The reference's number and Decode, over this seat's program. -/
namespace Go.Proofs.Ytocmdehpbipmlaa
open Go.ChangeShapes Go.WideShapes Go.ChangeAt Go.RowKit
namespace De
open Ba Re

/-- what the reference has read: so many bytes, at G -/
def GS (w : World) (G z : Nat) : Prop := w.heap[G]? = some (.cells #[.int .i64 0, .int .i64 0, .int .i64 0, .slice none 0 0, .bool false, .int .i64 (z : Int)] 29 (0, 0))
theorem tk_le' {L : List Nat} {n k : Nat} (h : tk L = some (n, k)) : 1 ≤ k ∧ k ≤ L.length := by
  cases L with
  | nil => simp [tk] at h
  | cons b t =>
    simp only [tk] at h
    split at h
    · simp at h
      obtain ⟨_, rfl⟩ := h
      simp
    · split at h
      · rename_i q
        simp at h
        obtain ⟨_, rfl⟩ := h
        simp
        omega
      · simp at h
theorem rnumber_none (s : ByteArray) (G z : Nat) (w : World) (h : GS w G z) (hz : z ≤ s.size) (hs : s.size ≤ maxLen) (ht : tk ((nbs s).drop z) = none) :
    Calls Try.prog 29 #[.string s, .pointer (some ⟨G, 0, none⟩)] w fun r w' => r = .returned (.int .i64 (-1)) ∧ GS w' G z ∧ KB G w w' := by
  have c5 := cell_of h 5
  simp at c5
  have HS := hide hs
  unfold maxLen at hs
  have H := hide h
  have HT : Hid (tk (nbs (s.extract z s.size)) = none) := by show _ = _; rw [nsfx rfl]; exact ht
  clear h ht
  go_enter Try.func29, Try.ntmps29
  go_wp2_with fail
  refine (rtake_none _ HT.out _).mono ?_
  rintro r w1 ⟨rfl, b1⟩
  have H1 := hide (heap_below H.out b1)
  have K1 := hide (KB.of (R := G) b1)
  clear b1
  go_wp2_with fail
  go_ret
  exact ⟨rfl, heap_below H1.out (below_alloc _ _), K1.out.trans (KB.of (below_alloc _ _))⟩
theorem rnumber_some (s : ByteArray) (G z n k : Nat) (w : World) (h : GS w G z) (hz : z ≤ s.size) (hs : s.size ≤ maxLen) (ht : tk ((nbs s).drop z) = some (n, k)) :
    Calls Try.prog 29 #[.string s, .pointer (some ⟨G, 0, none⟩)] w fun r w' => r = .returned (.int .i64 (n : Int)) ∧ GS w' G (z + k) ∧ KB G w w' := by
  have c5 := cell_of h 5
  simp at c5
  unfold maxLen at hs
  have hk := tk_le' ht
  rw [List.length_drop, nbs_length] at hk
  have H := hide h
  have HT : Hid (tk (nbs (s.extract z s.size)) = some (n, k)) := by show _ = _; rw [nsfx rfl]; exact ht
  clear h ht
  go_enter Try.func29, Try.ntmps29
  go_wp2_with fail
  refine (rtake_some _ n k HT.out _).mono ?_
  rintro r w1 ⟨rfl, b1⟩
  have H1 := hide (heap_below H.out b1)
  have K1 := hide (KB.of (R := G) b1)
  have d5 := cell_of H1.out 5
  have e5 := frozen_of H1.out 5
  have glt := heap_lt H1.out
  simp at d5
  clear b1
  go_wp2_with fail
  go_region
  all_goals
    go_wp2_with fail
    go_ret
    have hg : GS (w1.setCell ⟨G, 5, none⟩ (.int .i64 ((z : Int) + (k : Int)))) G (z + k) := by
      unfold GS
      rw [Ba.heap_setCell_same H1.out, show ((z + k : Nat) : Int) = (z : Int) + (k : Int) by omega]
      rfl
    exact ⟨rfl, heap_below hg (btr (below_alloc _ _) (bdrew1 _)), (K1.out.setCell 5 _).trans (KB.of (btr (below_alloc _ _) (bdrew1 _)))⟩

/-- what the reference's Decode keeps: the answer's room at Z, what is read at G, the operation at O -/
structure DS (w wr : World) (Z G O : Nat) (k a b : Int) (sl : Value) (d : Bool) (z : Nat) : Prop where
  gs : GS wr G z
  op : wr.heap[O]? = some (.cells #[.int .i64 k, .int .i64 a, .int .i64 b, sl, .bool d] 24 (0, 0))
  res : wr.heap[Z]? = some (.cells #[.int .i64 0, .int .i64 0, .int .i64 0, .slice none 0 0, .bool false, .int .i64 0] 29 (0, 0))
  bel : Below w.heap.size w wr
  ne : w.heap.size ≤ Z ∧ Z < G ∧ G < O
theorem DS.below {w wr wr' : World} {Z G O : Nat} {k a b : Int} {sl : Value} {d : Bool} {z : Nat} (h : DS w wr Z G O k a b sl d z) (hb : Below wr.heap.size wr wr') : DS w wr' Z G O k a b sl d z :=
  ⟨heap_below h.gs hb, heap_below h.op hb, heap_below h.res hb, btr h.bel hb, h.ne⟩
theorem DS.reads {w wr wr' : World} {Z G O : Nat} {k a b : Int} {sl : Value} {d : Bool} {z z' : Nat} (h : DS w wr Z G O k a b sl d z) (hg : GS wr' G z') (hk : KB G wr wr') : DS w wr' Z G O k a b sl d z' :=
  ⟨hg, hk.heap h.op (by have := h.ne; omega), hk.heap h.res (by have := h.ne; omega), KB.below h.bel hk (by have := h.ne; omega), h.ne⟩
theorem DS.set {w wr : World} {Z G O : Nat} {k a b : Int} {sl : Value} {d : Bool} {z : Nat} (h : DS w wr Z G O k a b sl d z) (i : Nat) (v : Value) {a' b' : Int} {sl' : Value} {d' : Bool} (he : (#[Value.int .i64 k, .int .i64 a, .int .i64 b, sl, .bool d] : Array Value).setIfInBounds i v = #[Value.int .i64 k, .int .i64 a', .int .i64 b', sl', .bool d']) : DS w (wr.setCell ⟨O, i, none⟩ v) Z G O k a' b' sl' d' z := by
  have hn := h.ne
  refine ⟨?_, ?_, ?_, h.bel.setCell (by show w.heap.size ≤ O; omega) _, hn⟩
  · exact (Below.heap_setCell _ _ _ _ (by show G ≠ O; omega)).trans h.gs
  · rw [Ba.heap_setCell_same h.op, he]
  · exact (Below.heap_setCell _ _ _ _ (by show Z ≠ O; omega)).trans h.res
theorem DS.start {w w1 : World} {z : Nat} (k : Int) (g : GS w1 (w.heap.size + 1) z) (kb : KB (w.heap.size + 1) ((w.alloc (.cells #[.int .i64 0, .int .i64 0, .int .i64 0, .slice none 0 0, .bool false, .int .i64 0] 29)).alloc (.cells #[.int .i64 0, .int .i64 0, .int .i64 0, .slice none 0 0, .bool false, .int .i64 0] 29)) w1) : DS w (w1.alloc (.cells #[.int .i64 k, .int .i64 0, .int .i64 0, .slice none 0 0, .bool false] 24)) w.heap.size (w.heap.size + 1) w1.heap.size k 0 0 (.slice none 0 0) false z := by
  have r0 := heap_below (heap_new w (.cells #[.int .i64 0, .int .i64 0, .int .i64 0, .slice none 0 0, .bool false, .int .i64 0] 29)) (below_alloc (w.alloc (.cells #[.int .i64 0, .int .i64 0, .int .i64 0, .slice none 0 0, .bool false, .int .i64 0] 29)) (.cells #[.int .i64 0, .int .i64 0, .int .i64 0, .slice none 0 0, .bool false, .int .i64 0] 29))
  have b0 := btr (below_alloc w (.cells #[.int .i64 0, .int .i64 0, .int .i64 0, .slice none 0 0, .bool false, .int .i64 0] 29)) (below_alloc (w.alloc (.cells #[.int .i64 0, .int .i64 0, .int .i64 0, .slice none 0 0, .bool false, .int .i64 0] 29)) (.cells #[.int .i64 0, .int .i64 0, .int .i64 0, .slice none 0 0, .bool false, .int .i64 0] 29))
  have hz := kb.size
  simp at hz
  exact ⟨heap_below g (below_alloc _ _), heap_new _ _, heap_below (kb.heap r0 (by omega)) (below_alloc _ _), btr (KB.below b0 kb (by omega)) (below_alloc _ _), Nat.le_refl _, by omega, by omega⟩

end De
end Go.Proofs.Ytocmdehpbipmlaa
