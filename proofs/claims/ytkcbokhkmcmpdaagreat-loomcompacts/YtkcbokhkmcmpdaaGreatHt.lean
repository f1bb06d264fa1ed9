/- Encode and Decode, by what lies in memory; a right script is small. -/
import Derived.Test.YtkcbokhkmcmpdaaGreatZjLoom10
import Derived.Test.YtkcbokhkmcmpdaaGreatHs
namespace Go.Proofs.YtkcbokhkmcmpdaaGreat
open Go.ChangeShapes Go.WideShapes Go.ChangeAt Go.RowKit
namespace Sh
open De Ba Re

theorem epls_lt (l : List Int) : ∀ b ∈ De.pls l, b < 256 := by
  intro b hb
  simp only [De.pls, List.mem_flatMap] at hb
  obtain ⟨n, _, hb⟩ := hb
  exact spl_lt _ b hb
theorem rpls_lt (l : List Int) : ∀ b ∈ Re.pls l, b < 256 := by
  intro b hb
  simp only [Re.pls, List.mem_flatMap] at hb
  obtain ⟨n, _, hb⟩ := hb
  exact spl_lt _ b hb
theorem plist_lt (l : List Int) : ∀ b ∈ plist l, b < 256 := by
  intro b hb
  rw [plist, List.mem_append] at hb
  rcases hb with hb | hb
  · exact spl_lt _ b hb
  · exact rpls_lt _ b hb
theorem eps_lt (ps : List (List OpD)) : ∀ b ∈ eps ps, b < 256 := by
  intro b hb
  rw [eps, List.mem_flatMap] at hb
  obtain ⟨q, _, hb⟩ := hb
  rw [epr, List.mem_append] at hb
  rcases hb with hb | hb
  · exact spl_lt _ b hb
  · rw [List.mem_flatMap] at hb
    obtain ⟨o, _, hb⟩ := hb
    exact epls_lt _ b hb
theorem sen_lt (s : Sc) : ∀ b ∈ sen s, b < 256 := by
  intro b hb
  simp only [sen, List.mem_append] at hb
  rcases hb with ((hb | hb) | hb) | hb
  · exact epls_lt _ b hb
  · exact eps_lt _ b hb
  · exact plist_lt _ b hb
  · exact plist_lt _ b hb
theorem sen_len {s : Sc} (h : schk s = 0) : (sen s).length ≤ 500000 := by
  obtain ⟨t12, m12, h32, h8, h200, h64, h0, har, hap, had⟩ := schk_zero h
  have h1 := De.pls_len [s.T, s.M, (s.ps.length : Int)]
  have h2 := eps_len har h32 h8 s.ps.length
  rw [List.take_length] at h2
  have h3 := plist_len (mv 1 s.pl) 200 (by rw [mv_len]; exact h200)
  have h4 := plist_len s.dr 64 h64
  simp only [sen, List.length_append]
  simp only [List.length_cons, List.length_nil] at h1
  omega
theorem schk_small {T M : Int} {ps : List (List OpD)} {pl dr : List Int} (h : schk ⟨T, M, ps, pl, dr⟩ = 0) : Small ps pl dr := by
  obtain ⟨t12, m12, h32, h8, h200, h64, h0, har, hap, had⟩ := schk_zero h
  simp only at h32 h8 h200 h64 har
  exact ⟨by omega, fun q hq => Nat.le_trans (h32 q hq) (by decide), fun q hq o ho => Nat.le_trans (chk_zero (ari_mem har hq ho)).2.2.1 (by decide), by omega, by omega⟩
theorem sdec_bytes {b : ByteArray} {s : Sc} (h : sdec b = some s) : bs (sen s) = b ∧ schk s = 0 := by
  obtain ⟨h1, h2⟩ := sdec_cut h
  exact ⟨nbs_inj (by rw [nbs_bs _ (sen_lt s), h1]), h2⟩
theorem sen_back {s : Sc} (h : schk s = 0) (E : ByteArray) (hE : bs (sen s) = E) : sdec E = some s ∧ E.size ≤ 5000000 := by
  subst hE
  refine ⟨sdec_enc h _ (nbs_bs _ (sen_lt s)), ?_⟩
  rw [bs_size]
  have := sen_len h
  omega
end Sh
end Go.Proofs.YtkcbokhkmcmpdaaGreat
