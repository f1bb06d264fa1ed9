/- The laws' own acts(): one waits, one closes. -/
import Derived.Test.YtdcmlimglajpkaaJr
namespace Go.Proofs.Ytdcmlimglajpkaa
open Go.ChangeShapes Go.WideShapes Go.ChangeAt Go.RowKit
namespace Fk
open Ba Pe _root_.Go.Proofs.Ytdcmlimglajpkaa.Pi Rp

/-- a name is no channel's, or it is both's -/
theorem Tw.nm {w u : World} {oa : Option Addr} {bs : List (Option Nat)} {Fs : Nat → Nat → Prop} {ob : Option Addr} {gs : List (Option Nat)} {Gs : Nat → Nat → Prop} {s : List (Option St)} (h : Tw w u oa bs Fs ob gs Gs s s) (c : Int) : (nmB gs c = none ∧ nmB s c = none) ∨ ∃ (n B G : Nat) (st : St), c = (n : Int) ∧ n < bs.length ∧ n < gs.length ∧ bs[n]? = some (some B) ∧ gs[n]? = some (some G) ∧ nmB gs c = some G ∧ nmB s c = some st ∧ s[n]? = some (some st) := by
  rcases h.r.nm c with ⟨q1, q2⟩ | ⟨G, st, q1, q2, q3, q4, q5, q6, q7⟩
  · exact .inl ⟨q1, q2⟩
  · rcases h.p.nm c with ⟨p1, p2⟩ | ⟨B, st', p1, p2, p3, p4, p5, p6, p7⟩
    · rw [p2] at q2
      cases q2
    · refine .inr ⟨c.toNat, B, G, st, by omega, p4, q4, p5, q5, q1, q2, q6⟩
set_option maxRecDepth 100000 in
set_option maxHeartbeats 6400000 in
theorem acts4 (w u : World) (what g : Int) (sd : Bool) (ch v : Int) (l : List Ca) (la : Option Addr) (lc : Nat) (oa : Option Addr) (bs : List (Option Nat)) (cp : Nat) (Fs : Nat → Nat → Prop) (ob : Option Addr) (gs : List (Option Nat)) (cq : Nat) (Gs : Nat → Nat → Prop) (s : List (Option St)) (h : Tw w u oa bs Fs ob gs Gs s s) (hw : what = 4) :
    Calls Try.prog 9 #[(.agg #[.slice oa bs.length cp, .slice ob gs.length cq]), .agg #[.int .i64 what, .int .i64 g, .bool sd, .int .i64 ch, .int .i64 v, .slice la l.length lc]] u fun r w' => r = .returned (.bool true) ∧ AcP w u w' oa bs Fs ob gs Gs (match nmB s ch with | none => s | some st => s.set ch.toNat (some (closeS st))) := by
  subst hw
  rcases h.nm ch with ⟨q1, q2⟩ | ⟨n, B, G, st, rfl, hn, hn', hB, hG, q1, q2, hst⟩
  · have H2 := hide (Hd.start h (.cells #[.slice oa bs.length cp, .slice ob gs.length cq] 29) (.cells #[.int .i64 4, .int .i64 g, .bool sd, .int .i64 ch, .int .i64 v, .slice la l.length lc] 35))
    have NM := hide (rnamed_any ob gs ch cq _ H2.out.t.r.row)
    rw [q1] at NM
    simp only [pt, Option.map_none] at NM
    rw [q2]
    simp only
    clear q1 q2 h
    go_enter Try.func9, Try.ntmps9
    go_wp2_with fail
    refine NM.out.mono ?_
    rintro r w3 ⟨rfl, rfl⟩
    have FIN : Hid (AcP w u ((u.alloc (.cells #[.slice oa bs.length cp, .slice ob gs.length cq] 29)).alloc (.cells #[.int .i64 4, .int .i64 g, .bool sd, .int .i64 ch, .int .i64 v, .slice la l.length lc] 35)) oa bs Fs ob gs Gs s) := ⟨_, _, H2.out.t, H2.out.r⟩
    go_wp2_with fail
    go_ret
    exact ⟨rfl, FIN.out⟩
  · have H2 : Hid (Hd w u u.heap.size (u.heap.size + 1) (.cells #[.slice oa bs.length cp, .slice ob gs.length cq] 29) (.cells #[.int .i64 4, .int .i64 g, .bool sd, .int .i64 (n : Int), .int .i64 v, .slice la l.length lc] 35) oa bs ob gs Fs Gs ((u.alloc (.cells #[.slice oa bs.length cp, .slice ob gs.length cq] 29)).alloc (.cells #[.int .i64 4, .int .i64 g, .bool sd, .int .i64 (n : Int), .int .i64 v, .slice la l.length lc] 35)) Fs Gs s s) := Hd.start h (.cells #[.slice oa bs.length cp, .slice ob gs.length cq] 29) (.cells #[.int .i64 4, .int .i64 g, .bool sd, .int .i64 (n : Int), .int .i64 v, .slice la l.length lc] 35)
    have NM := hide (rnamed_any ob gs (n : Int) cq _ H2.out.t.r.row)
    rw [q1] at NM
    simp only [pt, Option.map_some] at NM
    rw [q2]
    simp only [Int.toNat_natCast]
    have CP : Hid (∀ z G1 sr1, Hd w u u.heap.size (u.heap.size + 1) (.cells #[.slice oa bs.length cp, .slice ob gs.length cq] 29) (.cells #[.int .i64 4, .int .i64 g, .bool sd, .int .i64 (n : Int), .int .i64 v, .slice la l.length lc] 35) oa bs ob gs Fs Gs z Fs G1 s sr1 → Calls Try.prog 27 #[.pointer (some ⟨B, 0, none⟩)] z fun r w' => ∃ o1 n1 c1 o2 n2 c2, r = .returned (.tuple #[.slice o1 n1 c1, .slice o2 n2 c2, .int .i64 (closeE st)]) ∧ ∃ F1, Hd w u u.heap.size (u.heap.size + 1) (.cells #[.slice oa bs.length cp, .slice ob gs.length cq] 29) (.cells #[.int .i64 4, .int .i64 g, .bool sd, .int .i64 (n : Int), .int .i64 v, .slice la l.length lc] 35) oa bs ob gs Fs Gs w' F1 G1 (s.set n (some (closeS st))) sr1) := by
      intro z G1 sr1 hz
      obtain ⟨st', e1, pp⟩ := hz.t.p.one n B hB
      rw [hst] at e1
      cases e1
      refine (close_any B _ st z pp).mono ?_
      rintro r v ⟨o1, c1, o2, c2, rfl, -, k, F', nw, q⟩
      exact ⟨o1, _, c1, o2, _, c2, rfl, hz.stepP (Rz.step frP hz.t.p (Below.refl _ _) hB k nw q)⟩
    have CR : Hid (∀ z F1 sp1, Hd w u u.heap.size (u.heap.size + 1) (.cells #[.slice oa bs.length cp, .slice ob gs.length cq] 29) (.cells #[.int .i64 4, .int .i64 g, .bool sd, .int .i64 (n : Int), .int .i64 v, .slice la l.length lc] 35) oa bs ob gs Fs Gs z F1 Gs sp1 s → Calls Try.prog 28 #[.pointer (some ⟨G, 0, none⟩)] z fun r w' => ∃ o1 n1 c1 o2 n2 c2, r = .returned (.tuple #[.slice o1 n1 c1, .slice o2 n2 c2, .int .i64 (closeE st)]) ∧ ∃ G1, Hd w u u.heap.size (u.heap.size + 1) (.cells #[.slice oa bs.length cp, .slice ob gs.length cq] 29) (.cells #[.int .i64 4, .int .i64 g, .bool sd, .int .i64 (n : Int), .int .i64 v, .slice la l.length lc] 35) oa bs ob gs Fs Gs w' F1 G1 sp1 (s.set n (some (closeS st)))) := by
      intro z F1 sp1 hz
      obtain ⟨st', e1, pp⟩ := hz.t.r.one n G hG
      rw [hst] at e1
      cases e1
      refine (rclose_any G _ st z pp).mono ?_
      rintro r v ⟨o1, c1, o2, c2, rfl, -, k, F', nw, q⟩
      exact ⟨o1, _, c1, o2, _, c2, rfl, hz.stepR (Rz.step frR hz.t.r (Below.refl _ _) hG k nw q)⟩
    generalize closeE st = ee at CP CR
    have hn2 : (n : Int) < (bs.length : Int) := by omega
    have ROW := hide (H2.out.t.p.row n (some B) hB)
    clear q1 q2 h hB hG hst
    go_enter Try.func9, Try.ntmps9
    go_wp2_with fail
    generalize (u.alloc (.cells #[.slice oa bs.length cp, .slice ob gs.length cq] 29)).alloc (.cells #[.int .i64 4, .int .i64 g, .bool sd, .int .i64 (n : Int), .int .i64 v, .slice la l.length lc] 35) = U2 at H2 NM ROW ⊢
    refine NM.out.mono ?_
    rintro r w3 ⟨rfl, rfl⟩
    obtain ⟨b, off, eo, hc⟩ := ROW.out
    subst eo
    simp only [pt, Option.map_some] at hc
    have x0 : w3.cell? ⟨u.heap.size, 0, none⟩ = some (.slice (some ⟨b, off, none⟩) bs.length cp) := cell_of H2.out.x 0
    have y3 : w3.cell? ⟨u.heap.size + 1, 3, none⟩ = some (.int .i64 (n : Int)) := cell_of H2.out.y 3
    clear NM ROW
    go_wp2_with fail
    refine (CP.out _ _ _ H2.out).mono ?_
    rintro r z1 ⟨o1, n1, c1, o2, n2, c2, rfl, F1, tP⟩
    have TP := hide tP
    clear tP x0 y3 hc
    go_wp2_with fail
    refine (CR.out _ _ _ TP.out).mono ?_
    rintro r z2 ⟨o3, n3, c3, o4, n4, c4, rfl, G1, tR⟩
    have FIN : Hid (AcP w u z2 (some ⟨b, off, none⟩) bs Fs ob gs Gs (s.set n (some (closeS st)))) := ⟨_, _, tR.t, tR.r⟩
    clear tR TP CP CR
    go_wp2_with fail
    go_ret
    exact ⟨ret_bool (by simp), FIN.out⟩
end Fk
end Go.Proofs.Ytdcmlimglajpkaa
