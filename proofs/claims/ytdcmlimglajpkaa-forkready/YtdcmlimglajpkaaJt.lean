/- The laws' own acts(): one waits. -/
import Derived.Test.YtdcmlimglajpkaaJs
namespace Go.Proofs.Ytdcmlimglajpkaa
open Go.ChangeShapes Go.WideShapes Go.ChangeAt Go.RowKit
namespace Fk
open Ba Pe _root_.Go.Proofs.Ytdcmlimglajpkaa.Pi Rp

/-- the row's cell by a name -/
def RC (w : World) (oa : Option Addr) (n B : Nat) : Prop := ∀ b off, oa = some ⟨b, off, none⟩ → w.cell? ⟨b, off + n, none⟩ = some (.pointer (some ⟨B, 0, none⟩))
theorem RC.of {w : World} {oa : Option Addr} {bs : List (Option Nat)} (h : PR w oa bs) {n B : Nat} (hB : bs[n]? = some (some B)) : RC w oa n B := by
  intro b off e
  obtain ⟨b', off', e', hc⟩ := h n _ hB
  rw [e] at e'
  cases e'
  exact hc
set_option maxRecDepth 100000 in
set_option maxHeartbeats 6400000 in
theorem acts1 (w u : World) (what g : Int) (sd : Bool) (ch v : Int) (l : List Ca) (la : Option Addr) (lc : Nat) (oa : Option Addr) (bs : List (Option Nat)) (cp : Nat) (Fs : Nat → Nat → Prop) (ob : Option Addr) (gs : List (Option Nat)) (cq : Nat) (Gs : Nat → Nat → Prop) (s : List (Option St)) (h : Tw w u oa bs Fs ob gs Gs s s) (hw : what = 1) :
    Calls Try.prog 9 #[(.agg #[.slice oa bs.length cp, .slice ob gs.length cq]), .agg #[.int .i64 what, .int .i64 g, .bool sd, .int .i64 ch, .int .i64 v, .slice la l.length lc]] u fun r w' => r = .returned (.bool true) ∧ AcP w u w' oa bs Fs ob gs Gs (match nmB s ch with | none => s | some st => s.set ch.toNat (some (waitS st sd ⟨g, -1, v⟩))) := by
  subst hw
  rcases h.nm ch with ⟨q1, q2⟩ | ⟨n, B, G, st, rfl, hn, hn', hB, hG, q1, q2, hst⟩
  · have H2 := hide (Hd.start h (.cells #[.slice oa bs.length cp, .slice ob gs.length cq] 29) (.cells #[.int .i64 1, .int .i64 g, .bool sd, .int .i64 ch, .int .i64 v, .slice la l.length lc] 35))
    have NM := hide (rnamed_any ob gs ch cq _ H2.out.t.r.row)
    rw [q1] at NM
    simp only [pt, Option.map_none] at NM
    rw [q2]
    simp only
    clear q1 q2 h
    go_enter Try.func9, Try.ntmps9
    go_wp2_with fail
    refine NM.out.mono ?_
    rintro r w3 ⟨rfl, rfl⟩
    have FIN : Hid (AcP w u ((u.alloc (.cells #[.slice oa bs.length cp, .slice ob gs.length cq] 29)).alloc (.cells #[.int .i64 1, .int .i64 g, .bool sd, .int .i64 ch, .int .i64 v, .slice la l.length lc] 35)) oa bs Fs ob gs Gs s) := ⟨_, _, H2.out.t, H2.out.r⟩
    go_wp2_with fail
    go_ret
    exact ⟨rfl, FIN.out⟩
  · have H2 : Hid (Hd w u u.heap.size (u.heap.size + 1) (.cells #[.slice oa bs.length cp, .slice ob gs.length cq] 29) (.cells #[.int .i64 1, .int .i64 g, .bool sd, .int .i64 (n : Int), .int .i64 v, .slice la l.length lc] 35) oa bs ob gs Fs Gs ((u.alloc (.cells #[.slice oa bs.length cp, .slice ob gs.length cq] 29)).alloc (.cells #[.int .i64 1, .int .i64 g, .bool sd, .int .i64 (n : Int), .int .i64 v, .slice la l.length lc] 35)) Fs Gs s s) := Hd.start h (.cells #[.slice oa bs.length cp, .slice ob gs.length cq] 29) (.cells #[.int .i64 1, .int .i64 g, .bool sd, .int .i64 (n : Int), .int .i64 v, .slice la l.length lc] 35)
    have NM := hide (rnamed_any ob gs (n : Int) cq _ H2.out.t.r.row)
    rw [q1] at NM
    simp only [pt, Option.map_some] at NM
    rw [q2]
    simp only [Int.toNat_natCast]
    have CP : Hid (∀ z G1 sr1, Hd w u u.heap.size (u.heap.size + 1) (.cells #[.slice oa bs.length cp, .slice ob gs.length cq] 29) (.cells #[.int .i64 1, .int .i64 g, .bool sd, .int .i64 (n : Int), .int .i64 v, .slice la l.length lc] 35) oa bs ob gs Fs Gs z Fs G1 s sr1 → Calls Try.prog 24 #[.pointer (some ⟨B, 0, none⟩), .bool sd, wv ⟨g, -1, v⟩] z fun r w' => r = .returned (.int .i64 (waitE st sd ⟨g, -1, v⟩)) ∧ ∃ F1, Hd w u u.heap.size (u.heap.size + 1) (.cells #[.slice oa bs.length cp, .slice ob gs.length cq] 29) (.cells #[.int .i64 1, .int .i64 g, .bool sd, .int .i64 (n : Int), .int .i64 v, .slice la l.length lc] 35) oa bs ob gs Fs Gs w' F1 G1 (s.set n (some (waitS st sd ⟨g, -1, v⟩))) sr1 ∧ RC w' oa n B) := by
      intro z G1 sr1 hz
      obtain ⟨st', e1, pp⟩ := hz.t.p.one n B hB
      rw [hst] at e1
      cases e1
      refine (wait_any B _ st sd _ z pp).mono ?_
      rintro r v ⟨rfl, k, F', nw, q⟩
      obtain ⟨F1, q1⟩ := hz.stepP (Rz.step frP hz.t.p (Below.refl _ _) hB k nw q)
      exact ⟨rfl, F1, q1, RC.of q1.t.p.row hB⟩
    have CR : Hid (∀ z F1 sp1, Hd w u u.heap.size (u.heap.size + 1) (.cells #[.slice oa bs.length cp, .slice ob gs.length cq] 29) (.cells #[.int .i64 1, .int .i64 g, .bool sd, .int .i64 (n : Int), .int .i64 v, .slice la l.length lc] 35) oa bs ob gs Fs Gs z F1 Gs sp1 s → Calls Try.prog 25 #[.pointer (some ⟨G, 0, none⟩), .bool sd, wv ⟨g, -1, v⟩] z fun r w' => r = .returned (.int .i64 (waitE st sd ⟨g, -1, v⟩)) ∧ ∃ G1, Hd w u u.heap.size (u.heap.size + 1) (.cells #[.slice oa bs.length cp, .slice ob gs.length cq] 29) (.cells #[.int .i64 1, .int .i64 g, .bool sd, .int .i64 (n : Int), .int .i64 v, .slice la l.length lc] 35) oa bs ob gs Fs Gs w' F1 G1 sp1 (s.set n (some (waitS st sd ⟨g, -1, v⟩))) ∧ RC w' oa n B) := by
      intro z F1 sp1 hz
      obtain ⟨st', e1, pp⟩ := hz.t.r.one n G hG
      rw [hst] at e1
      cases e1
      refine (rwait_any G _ st sd _ z pp).mono ?_
      rintro r v ⟨rfl, k, F', nw, q⟩
      obtain ⟨G1, q1⟩ := hz.stepR (Rz.step frR hz.t.r (Below.refl _ _) hG k nw q)
      exact ⟨rfl, G1, q1, RC.of q1.t.p.row hB⟩
    generalize waitE st sd ⟨g, -1, v⟩ = ee at CP CR
    unfold wv at CP CR
    have hn2 : (n : Int) < (bs.length : Int) := by omega
    have hn0 : (0 : Int) ≤ (n : Int) := by omega
    have ROW := hide (H2.out.t.p.row n (some B) hB)
    have NR : Hid (∀ a, oa = some a → ∀ i, ¬ Fs i a.block) := H2.out.t.p.nr
    clear q1 q2 h hB hG hst
    go_enter Try.func9, Try.ntmps9
    go_wp2_with fail
    generalize (u.alloc (.cells #[.slice oa bs.length cp, .slice ob gs.length cq] 29)).alloc (.cells #[.int .i64 1, .int .i64 g, .bool sd, .int .i64 (n : Int), .int .i64 v, .slice la l.length lc] 35) = U2 at H2 NM ROW ⊢
    refine NM.out.mono ?_
    rintro r w3 ⟨rfl, rfl⟩
    obtain ⟨b, off, eo, hc⟩ := ROW.out
    subst eo
    simp only [pt, Option.map_some] at hc
    have x0 : w3.cell? ⟨u.heap.size, 0, none⟩ = some (.slice (some ⟨b, off, none⟩) bs.length cp) := cell_of H2.out.x 0
    have y1 : w3.cell? ⟨u.heap.size + 1, 1, none⟩ = some (.int .i64 g) := cell_of H2.out.y 1
    have y2 : w3.cell? ⟨u.heap.size + 1, 2, none⟩ = some (.bool sd) := cell_of H2.out.y 2
    have y3 : w3.cell? ⟨u.heap.size + 1, 3, none⟩ = some (.int .i64 (n : Int)) := cell_of H2.out.y 3
    have y4 : w3.cell? ⟨u.heap.size + 1, 4, none⟩ = some (.int .i64 v) := cell_of H2.out.y 4
    have H3 := hide (H2.out.below (bdrew1 _))
    clear NM ROW
    go_wp2_with fail
    go_region_held3 (fun w' => w'.cell? ⟨u.heap.size, 0, none⟩ = some (.slice (some ⟨b, off, none⟩) bs.length cp) ∧ w'.cell? ⟨u.heap.size + 1, 1, none⟩ = some (.int .i64 g) ∧ w'.cell? ⟨u.heap.size + 1, 2, none⟩ = some (.bool sd) ∧ w'.cell? ⟨u.heap.size + 1, 3, none⟩ = some (.int .i64 (n : Int)) ∧ w'.cell? ⟨u.heap.size + 1, 4, none⟩ = some (.int .i64 v) ∧ w'.cell? ⟨b, off + n, none⟩ = some (.pointer (some ⟨B, 0, none⟩)))
      (first
        | go_keep
        | exact ⟨cell_of tR.x 0, cell_of tR.y 1, cell_of tR.y 2, cell_of tR.y 3, cell_of tR.y 4, rR _ _ rfl⟩
        | exact ⟨cell_of tP.x 0, cell_of tP.y 1, cell_of tP.y 2, cell_of tP.y 3, cell_of tP.y 4, rP _ _ rfl⟩)
      (first
        | (go_at_call 24; refine (CP.out _ _ _ H3.out).mono ?_; rintro r z1 ⟨rfl, F1, tP, rP⟩)
        | (go_at_call 25; refine (CR.out _ _ _ tP).mono ?_; rintro r z2 ⟨rfl, G1, tR, rR⟩))
    have FIN : Hid (AcP w u z2 (some ⟨b, off, none⟩) bs Fs ob gs Gs (s.set n (some (waitS st sd ⟨g, -1, v⟩)))) := ⟨_, _, tR.t, tR.r⟩
    clear tR tP CP CR rP rR
    go_wp2_with fail
    go_ret
    exact ⟨ret_bool (by simp), FIN.out⟩
end Fk
end Go.Proofs.Ytdcmlimglajpkaa
