/- Layer 15: a step of slots, whatever comes of it, over this seat's program. -/
import Derived.Test.YtekdcfdjohlfcaaTg
namespace Go.Proofs.Ytekdcfdjohlfcaa
open Go.ChangeShapes Go.WideShapes Go.ChangeAt Go.RowKit
namespace Sl
open Ck
open Ba (KF Bd Nw)

/-- behind k steps -/
structure Ok (k : Nat) (st : Sst) : Prop where
  cnt : st.sn = st.rc + st.gv.length
  le : st.sn ≤ k
  bl : st.bk.length ≤ k
theorem Ok.mono {k m : Nat} {st : Sst} (h : Ok k st) (hm : k ≤ m) : Ok m st := ⟨h.cnt, Nat.le_trans h.le hm, Nat.le_trans h.bl hm⟩
theorem Ok.send {k : Nat} {st : Sst} (h : Ok k st) (A : Nat) : Ok (k + 1) (sendS st A) := by
  obtain ⟨h1, h2, h3⟩ := h
  refine ⟨?_, ?_, ?_⟩
  · show st.sn + 1 = st.rc + (st.gv ++ [A]).length
    rw [List.length_append, h1]; rfl
  · show st.sn + 1 ≤ k + 1
    omega
  · show (if st.sn < st.sz then st.bk else st.bk.tail).length ≤ k + 1
    split
    · omega
    · rw [List.length_tail]; omega
theorem Ok.recv {k : Nat} {st : Sst} (h : Ok k st) (A x : Nat) (gl : List Nat) (hg : st.gv = x :: gl) : Ok (k + 1) (recvS st A) := by
  obtain ⟨h1, h2, h3⟩ := h
  rw [hg] at h1
  refine ⟨?_, ?_, ?_⟩
  · show st.sn = st.rc + 1 + st.gv.tail.length
    rw [h1, hg]; simp; omega
  · show st.sn ≤ k + 1
    omega
  · show (if 0 < st.sz then st.bk ++ [A] else st.bk).length ≤ k + 1
    split
    · rw [List.length_append]; simp; omega
    · omega
/-- what comes of a step -/
def After (Y : Nat → Prop) (S : Nat) (w w' : World) (k : Nat) : Prop := ∃ st' h', SW Y S w' st' h' ∧ Kp Y w w' ∧ Ok (k + 1) st'
theorem clv_ptr (p : Option Nat) : ∃ q, clv p = .pointer q := by cases p <;> exact ⟨_, rfl⟩
theorem send_u {Y : Nat → Prop} {S : Nat} {w : World} {st : Sst} {h : Nat → Option (List Int)} {k : Nat} (s : SW Y S w st h) (ok : Ok k st) (hk : k ≤ 1000) (c : Nat) (l : List Int) (hc : h c = some l) :
    Calls Try.prog 10 #[.pointer (some ⟨S, 0, none⟩), .pointer (some ⟨c, 0, none⟩)] w fun r w' => (∃ p e, r = .returned (.tuple #[.pointer p, .int .i64 e])) ∧ After Y S w w' k := by
  have hr : st.rc ≤ st.sn := by have := ok.cnt; omega
  have hg : st.gv.length ≤ 1000 := by have := ok.cnt; have := ok.le; omega
  have hn := ok.le
  by_cases hE : sendE st = 0
  · refine (send_ok s c l hc hE (by omega) hr hg).mono ?_
    rintro r w' ⟨rfl, A, h', -, -, -, s', k'⟩
    obtain ⟨q, hq⟩ := clv_ptr (fetS st)
    exact ⟨⟨q, 0, by rw [hq]⟩, _, h', s', k', ok.send A⟩
  · obtain ⟨vg, vb, s⟩ := s
    refine (send_err s _ hE (by omega) hr).mono ?_
    rintro r w' ⟨rfl, b'⟩
    exact ⟨⟨_, _, rfl⟩, st, h, ⟨vg, vb, s.below b'⟩, Kp.of b' s.ylt, ok.mono (by omega)⟩
theorem recv_u {Y : Nat → Prop} {S : Nat} {w : World} {st : Sst} {h : Nat → Option (List Int)} {k : Nat} (s : SW Y S w st h) (ok : Ok k st) (hk : k ≤ 1000) (c : Nat) (l : List Int) (hc : h c = some l) :
    Calls Try.prog 13 #[.pointer (some ⟨S, 0, none⟩), .pointer (some ⟨c, 0, none⟩)] w fun r w' => (∃ p e, r = .returned (.tuple #[.pointer p, .int .i64 e])) ∧ After Y S w w' k := by
  have hr : st.rc ≤ 1000000 := by have := ok.cnt; have := ok.le; omega
  have hb := ok.bl
  cases hg : st.gv with
  | nil =>
    obtain ⟨vg, vb, s⟩ := s
    refine (recv_none s _ hg).mono ?_
    rintro r w' ⟨rfl, b'⟩
    exact ⟨⟨_, _, rfl⟩, st, h, ⟨vg, vb, s.below b'⟩, Kp.of b' s.ylt, ok.mono (by omega)⟩
  | cons x gl =>
    refine (recv_ok s c l hc x gl hg hr (by omega)).mono ?_
    rintro r w' ⟨rfl, A, h', -, -, s', k'⟩
    exact ⟨⟨_, 0, rfl⟩, _, h', s', k', ok.recv A x gl hg⟩
theorem close_u {Y : Nat → Prop} {S : Nat} {w : World} {st : Sst} {h : Nat → Option (List Int)} {k : Nat} (s : SW Y S w st h) (ok : Ok k st) (c : Nat) (l : List Int) (hc : h c = some l) :
    Calls Try.prog 15 #[.pointer (some ⟨S, 0, none⟩), .pointer (some ⟨c, 0, none⟩)] w fun r w' => (∃ e, r = .returned (.int .i64 e)) ∧ After Y S w w' k := by
  cases hcl : st.cl with
  | some b =>
    obtain ⟨vg, vb, s⟩ := s
    refine (close_err s _ b hcl).mono ?_
    rintro r w' ⟨rfl, rfl⟩
    exact ⟨⟨_, rfl⟩, st, h, ⟨vg, vb, s⟩, Kp.refl _ _, ok.mono (by omega)⟩
  | none =>
    refine (close_ok s c l hc hcl).mono ?_
    rintro r w' ⟨rfl, A, h', -, -, s', k'⟩
    exact ⟨⟨_, rfl⟩, _, h', s', k', ⟨ok.cnt, Nat.le_trans ok.le (by omega), Nat.le_trans ok.bl (by omega)⟩⟩
end Sl
end Go.Proofs.Ytekdcfdjohlfcaa
