/- Layer 18's reference, over this seat's program: Retire, New. -/
import Derived.Test.YtekdcfdjohlfcaaAo
import Derived.Deep.Cut
namespace Go.Proofs.Ytekdcfdjohlfcaa
open Go.ChangeShapes Go.WideShapes Go.ChangeAt Go.RowKit
namespace Ce
open Ck
open Ba (KF Bd Nw)

/-- an access whose tid is retired -/
def rtA (a : Ac) (t cut : Int) : Ac := bif (!a.no && !a.tl && (a.tid == t)) then (bif decide (a.n ≤ cut) then ⟨0, 0, true, false⟩ else ⟨0, 0, false, true⟩) else a
theorem rret_arg (p : Value) (tid cut : Int) (h : tid < 0 ∨ 256 ≤ tid ∨ cut < 0 ∨ 1048576 < cut) (w : World) : Calls Try.prog 68 #[p, .int .i64 tid, .int .i64 cut] w fun r w' => r = .returned (.int .i64 1) ∧ w' = w := by
  by_cases h1 : tid < 0
  · clear h
    go_enter Try.func68, Try.ntmps68
    go_wp2_with fail
    go_ret
    exact ⟨rfl, rfl⟩
  by_cases h2 : 256 ≤ tid
  · clear h
    go_enter Try.func68, Try.ntmps68
    go_wp2_with fail
    go_ret
    exact ⟨rfl, rfl⟩
  by_cases h3 : cut < 0
  · clear h
    go_enter Try.func68, Try.ntmps68
    go_wp2_with fail
    go_ret
    exact ⟨rfl, rfl⟩
  have h4 : 1048576 < cut := by omega
  clear h
  go_enter Try.func68, Try.ntmps68
  go_wp2_with fail
  go_ret
  exact ⟨rfl, rfl⟩

set_option maxRecDepth 100000 in
set_option maxHeartbeats 800000 in
/-- the reads, from whatever world the last write is right in -/
theorem rret_ok {w : World} {R : Nat} {a : Ac} {F : Nat → Int} {tl : Bool} (h : RX w R a F tl) (t : Nat) (ht : t < 256) (cut : Int) (h2 : 0 ≤ cut) (h3 : cut ≤ 1048576) :
    Calls Try.prog 68 #[.pointer (some ⟨R, 0, none⟩), .int .i64 (t : Int), .int .i64 cut] w fun r w' => r = .returned (.int .i64 0) ∧ RX w' R (rtA a (t : Int) cut) (upF F t 0) (tl || decide (cut < F t)) ∧ KF (fun k => k = R) w w' := by
  obtain ⟨z0, z1, z2, z3, zf⟩ := h.cellA
  have zf0 := zf 0
  have zf1 := zf 1
  have zf2 := zf 2
  have zf3 := zf 3
  have HX := hide h
  clear h zf
  have ht' : (t : Int) < 256 := by omega
  obtain ⟨at_, an, ano, atl⟩ := a
  have z0 : w.cell? ⟨R, 0, none⟩ = some (.int .i64 at_) := z0
  have z1 : w.cell? ⟨R, 1, none⟩ = some (.int .i64 an) := z1
  have z2 : w.cell? ⟨R, 2, none⟩ = some (.bool ano) := z2
  have z3 : w.cell? ⟨R, 3, none⟩ = some (.bool atl) := z3
  have REST : Hid (∀ W a', RX W R a' F tl → KF (fun k => k = R) w W → W.cell? ⟨R, 4 + t, none⟩ = some (.int .i64 (F t)) ∧ W.frozen? ⟨R, 4 + t, none⟩ = false ∧ W.cell? ⟨R, 260, none⟩ = some (.bool tl) ∧ W.frozen? ⟨R, 260, none⟩ = false ∧
      (RX (W.setCell ⟨R, 4 + t, none⟩ (.int .i64 0)) R a' (upF F t 0) tl ∧ KF (fun k => k = R) w (W.setCell ⟨R, 4 + t, none⟩ (.int .i64 0))) ∧
      ((W.setCell ⟨R, 260, none⟩ (.bool true)).cell? ⟨R, 4 + t, none⟩ = some (.int .i64 (F t)) ∧ (W.setCell ⟨R, 260, none⟩ (.bool true)).frozen? ⟨R, 4 + t, none⟩ = false ∧ RX ((W.setCell ⟨R, 260, none⟩ (.bool true)).setCell ⟨R, 4 + t, none⟩ (.int .i64 0)) R a' (upF F t 0) true ∧ KF (fun k => k = R) w ((W.setCell ⟨R, 260, none⟩ (.bool true)).setCell ⟨R, 4 + t, none⟩ (.int .i64 0)))) := by
    intro W a' hX hK
    have T := hX.setTl true
    exact ⟨(hX.cellR ht).1, (hX.cellR ht).2, hX.cellT.1, hX.cellT.2, ⟨hX.setRead ht 0, hK.set (q := R) rfl _ _⟩, (T.cellR ht).1, (T.cellR ht).2, T.setRead ht 0, (hK.set (q := R) rfl 260 (.bool true)).set (q := R) rfl _ _⟩
  have A1 := hide (HX.out.setAc 0 0 true false)
  have A2 := hide (HX.out.setAc 0 0 false true)
  have B1 := hide (fun x y => ((((KF.refl (fun k => k = R) w).set (q := R) rfl 0 (.int .i64 0)).set (q := R) rfl 1 (.int .i64 0)).set (q := R) rfl 2 (.bool x)).set (q := R) rfl 3 (.bool y))
  obtain ⟨gb, hgb⟩ : ∃ gb, (!ano && !atl && (at_ == (t : Int))) = gb := ⟨_, rfl⟩
  cases gb
  · have RA1 : Hid (rtA ⟨at_, an, ano, atl⟩ (t : Int) cut = ⟨at_, an, ano, atl⟩) := by show rtA _ _ _ = _; unfold rtA; rw [hgb]; rfl
    rw [RA1.out]
    obtain ⟨y0, y1, -, -, ⟨p1, p2⟩, y4, y5, p3, p4⟩ := REST.out w _ HX.out (KF.refl _ _)
    obtain ⟨y2, y3⟩ := HX.out.cellT
    have P1 := hide p1
    have P2 := hide p2
    have P3 := hide p3
    have P4 := hide p4
    clear p1 p2 p3 p4 REST A1 A2 B1 HX RA1
    by_cases hf : cut < F t
    · have E : Hid ((tl || decide (cut < F t)) = true) := by show _ = true; simp [hf]
      rw [E.out]
      have hf' : decide (cut < F t) = true := by simpa using hf
      cases ano <;> cases atl
      case false.false =>
        have hq : (at_ == (t : Int)) = false := by simpa using hgb
        clear hgb
        go_enter Try.func68, Try.ntmps68
        go_wp2_with fail
        go_ret
        exact ⟨rfl, P3.out, P4.out⟩
      all_goals
        clear hgb
        go_enter Try.func68, Try.ntmps68
        go_wp2_with fail
        go_ret
        exact ⟨rfl, P3.out, P4.out⟩
    · have E : Hid ((tl || decide (cut < F t)) = tl) := by show _ = tl; simp [hf]
      rw [E.out]
      have hf' : decide (cut < F t) = false := by simpa using hf
      cases ano <;> cases atl
      case false.false =>
        have hq : (at_ == (t : Int)) = false := by simpa using hgb
        clear hgb
        go_enter Try.func68, Try.ntmps68
        go_wp2_with fail
        go_ret
        exact ⟨rfl, P1.out, P2.out⟩
      all_goals
        clear hgb
        go_enter Try.func68, Try.ntmps68
        go_wp2_with fail
        go_ret
        exact ⟨rfl, P1.out, P2.out⟩
  · obtain ⟨⟨e1, e2⟩, e3⟩ : (ano = false ∧ atl = false) ∧ (at_ == (t : Int)) = true := by simpa using hgb
    subst e1 e2
    clear hgb
    by_cases hn : an ≤ cut
    · have hn' : decide (an ≤ cut) = true := by simpa using hn
      have RA1 : Hid (rtA ⟨at_, an, false, false⟩ (t : Int) cut = ⟨0, 0, true, false⟩) := by show rtA _ _ _ = _; unfold rtA; simp only [e3, hn']; rfl
      rw [RA1.out]
      have BB := hide (B1.out true false)
      have AA := hide A1.out
      clear A1 A2 B1 HX RA1
      by_cases hf : cut < F t
      · have E : Hid ((tl || decide (cut < F t)) = true) := by show _ = true; simp [hf]
        rw [E.out]
        have hf' : decide (cut < F t) = true := by simpa using hf
        go_enter Try.func68, Try.ntmps68
        go_upto_region 7 with fail
        generalize (((w.setCell ⟨R, 0, none⟩ (.int .i64 0)).setCell ⟨R, 1, none⟩ (.int .i64 0)).setCell ⟨R, 2, none⟩ (.bool true)).setCell ⟨R, 3, none⟩ (.bool false) = W at *
        obtain ⟨y0, y1, y2, y3, ⟨p1, p2⟩, y4, y5, p3, p4⟩ := REST.out W _ AA.out BB.out
        have P1 := hide p1
        have P2 := hide p2
        have P3 := hide p3
        have P4 := hide p4
        clear p1 p2 p3 p4 REST AA BB z0 z1 z2 z3 zf0 zf1 zf2 zf3
        go_wp2_with fail
        go_ret
        exact ⟨rfl, P3.out, P4.out⟩
      · have E : Hid ((tl || decide (cut < F t)) = tl) := by show _ = tl; simp [hf]
        rw [E.out]
        have hf' : decide (cut < F t) = false := by simpa using hf
        go_enter Try.func68, Try.ntmps68
        go_upto_region 7 with fail
        generalize (((w.setCell ⟨R, 0, none⟩ (.int .i64 0)).setCell ⟨R, 1, none⟩ (.int .i64 0)).setCell ⟨R, 2, none⟩ (.bool true)).setCell ⟨R, 3, none⟩ (.bool false) = W at *
        obtain ⟨y0, y1, y2, y3, ⟨p1, p2⟩, y4, y5, p3, p4⟩ := REST.out W _ AA.out BB.out
        have P1 := hide p1
        have P2 := hide p2
        have P3 := hide p3
        have P4 := hide p4
        clear p1 p2 p3 p4 REST AA BB z0 z1 z2 z3 zf0 zf1 zf2 zf3
        go_wp2_with fail
        go_ret
        exact ⟨rfl, P1.out, P2.out⟩
    · have hn' : decide (an ≤ cut) = false := by simpa using hn
      have RA1 : Hid (rtA ⟨at_, an, false, false⟩ (t : Int) cut = ⟨0, 0, false, true⟩) := by show rtA _ _ _ = _; unfold rtA; simp only [e3, hn']; rfl
      rw [RA1.out]
      have BB := hide (B1.out false true)
      have AA := hide A2.out
      clear A1 A2 B1 HX RA1
      by_cases hf : cut < F t
      · have E : Hid ((tl || decide (cut < F t)) = true) := by show _ = true; simp [hf]
        rw [E.out]
        have hf' : decide (cut < F t) = true := by simpa using hf
        go_enter Try.func68, Try.ntmps68
        go_upto_region 7 with fail
        generalize (((w.setCell ⟨R, 0, none⟩ (.int .i64 0)).setCell ⟨R, 1, none⟩ (.int .i64 0)).setCell ⟨R, 2, none⟩ (.bool false)).setCell ⟨R, 3, none⟩ (.bool true) = W at *
        obtain ⟨y0, y1, y2, y3, ⟨p1, p2⟩, y4, y5, p3, p4⟩ := REST.out W _ AA.out BB.out
        have P1 := hide p1
        have P2 := hide p2
        have P3 := hide p3
        have P4 := hide p4
        clear p1 p2 p3 p4 REST AA BB z0 z1 z2 z3 zf0 zf1 zf2 zf3
        go_wp2_with fail
        go_ret
        exact ⟨rfl, P3.out, P4.out⟩
      · have E : Hid ((tl || decide (cut < F t)) = tl) := by show _ = tl; simp [hf]
        rw [E.out]
        have hf' : decide (cut < F t) = false := by simpa using hf
        go_enter Try.func68, Try.ntmps68
        go_upto_region 7 with fail
        generalize (((w.setCell ⟨R, 0, none⟩ (.int .i64 0)).setCell ⟨R, 1, none⟩ (.int .i64 0)).setCell ⟨R, 2, none⟩ (.bool false)).setCell ⟨R, 3, none⟩ (.bool true) = W at *
        obtain ⟨y0, y1, y2, y3, ⟨p1, p2⟩, y4, y5, p3, p4⟩ := REST.out W _ AA.out BB.out
        have P1 := hide p1
        have P2 := hide p2
        have P3 := hide p3
        have P4 := hide p4
        clear p1 p2 p3 p4 REST AA BB z0 z1 z2 z3 zf0 zf1 zf2 zf3
        go_wp2_with fail
        go_ret
        exact ⟨rfl, P1.out, P2.out⟩

def cell0 : Array Value := #[.int .i64 0, .int .i64 0, .bool true, .bool false] ++ ra nf ++ #[.bool false]
theorem zc : ((((Try.zeroCells81.setIfInBounds 0 (Value.int .i64 0)).setIfInBounds 1 (Value.int .i64 0)).setIfInBounds 2 (Value.bool true)).setIfInBounds 3 (Value.bool false)) = cell0 := by kernel_rfl
theorem rx0 : RXc cell0 ⟨0, 0, true, false⟩ nf false := by
  have hs := ra_size nf
  refine ⟨by simp [cell0, hs], ?_, ?_, ?_, ?_, fun k hk => ?_, ?_⟩
  · unfold cell0; rw [Array.append_assoc, Array.getElem?_append_left (by decide)]; rfl
  · unfold cell0; rw [Array.append_assoc, Array.getElem?_append_left (by decide)]; rfl
  · unfold cell0; rw [Array.append_assoc, Array.getElem?_append_left (by decide)]; rfl
  · unfold cell0; rw [Array.append_assoc, Array.getElem?_append_left (by decide)]; rfl
  · unfold cell0
    rw [Array.getElem?_append_left (by rw [Array.size_append, hs]; show 4 + k < 4 + 256; omega), Array.getElem?_append_right (by show 4 ≤ 4 + k; omega)]
    show (ra nf)[4 + k - 4]? = _
    rw [Nat.add_sub_cancel_left]
    exact ra_at nf k hk
  · unfold cell0
    rw [Array.getElem?_append_right (by rw [Array.size_append, hs]; decide)]
    rw [Array.size_append, hs]
    rfl
end Ce
end Go.Proofs.Ytekdcfdjohlfcaa
