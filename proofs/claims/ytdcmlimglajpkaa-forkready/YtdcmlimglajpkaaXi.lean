/- Package pipe: Wait, over this seat's program. -/
import Derived.Test.YtdcmlimglajpkaaXh
import Derived.Deep.RegionWith
import Derived.Laws.EntriesVeiled
namespace Go.Proofs.Ytdcmlimglajpkaa
open Go.ChangeShapes Go.WideShapes Go.ChangeAt Go.RowKit
namespace Pi
open Ba Pe

set_option maxRecDepth 100000 in
set_option maxHeartbeats 3200000 in
theorem wait_any (B : Nat) (F : Nat → Prop) (st : St) (send : Bool) (x : Wt) (w : World) (h : Pp w B F st) :
    Calls Try.prog 24 #[.pointer (some ⟨B, 0, none⟩), .bool send, wv x] w fun r w' => r = .returned (.int .i64 (waitE st send x)) ∧ KF F w w' ∧ ∃ F', Nw F' F w ∧ Pp w' B F' (waitS st send x) := by
  have hm := hmf
  have b1 := below_alloc w (.cells #[.pointer (some ⟨B, 0, none⟩)] 55)
  have b2 := below_alloc (w.alloc (.cells #[.pointer (some ⟨B, 0, none⟩)] 55)) (.cells #[.int .i64 x.g, .int .i64 x.c, .int .i64 x.v] 49)
  have b3 := below_alloc ((w.alloc (.cells #[.pointer (some ⟨B, 0, none⟩)] 55)).alloc (.cells #[.int .i64 x.g, .int .i64 x.c, .int .i64 x.v] 49)) (.cells #[.func (.func 50) #[] #[.pointer (some ⟨w.heap.size + 1, 0, none⟩)]] 104)
  have BW := hide (btr b1 (btr b2 b3))
  have HX := hide (heap_below (heap_new w (.cells #[.pointer (some ⟨B, 0, none⟩)] 55)) (btr b2 b3))
  have hy := heap_below (heap_new (w.alloc (.cells #[.pointer (some ⟨B, 0, none⟩)] 55)) (.cells #[.int .i64 x.g, .int .i64 x.c, .int .i64 x.v] 49)) b3
  rw [World.size_alloc] at hy
  have HY := hide hy
  have hv := heap_new ((w.alloc (.cells #[.pointer (some ⟨B, 0, none⟩)] 55)).alloc (.cells #[.int .i64 x.g, .int .i64 x.c, .int .i64 x.v] 49)) (.cells #[.func (.func 50) #[] #[.pointer (some ⟨w.heap.size + 1, 0, none⟩)]] 104)
  rw [World.size_alloc, World.size_alloc] at hv
  have HV := hide hv
  have PP := hide (h.below BW.out)
  have RG := hide (ready_g 52 #[.pointer (some ⟨w.heap.size, 0, none⟩), .pointer (some ⟨w.heap.size + 1 + 1, 0, none⟩)] (fun _ _ => by rfl) (cn x.g (own st (!send))) B F st send _ PP.out (wait2_any B F st (!send) w.heap.size (w.heap.size + 1 + 1) (w.heap.size + 1) x.g _ PP.out (cell_of HX.out 0) (cell_of HV.out 0) (cell_of HY.out 0)))
  have EQ : (st.closed || room st send || cn x.g (own st (!send))) = rdyBut st send x.g := rfl
  rw [EQ] at RG
  clear b1 b2 b3 hy hv h EQ
  cases hq : rdyBut st send x.g
  · rw [hq] at RG
    cases send
    · rw [show waitE st false x = ae st.rcv x by simp [waitE, hq, own], show waitS st false x = { st with rcv := al st.rcv x } by simp [waitS, hq]]
      unfold wv
      go_enter Try.func24, Try.ntmps24
      go_wp2_with fail
      generalize (((w.alloc (.cells #[.pointer (some ⟨B, 0, none⟩)] 55)).alloc (.cells #[.int .i64 x.g, .int .i64 x.c, .int .i64 x.v] 49)).alloc (.cells #[.func (.func 50) #[] #[.pointer (some ⟨w.heap.size + 1, 0, none⟩)]] 104)) = W3 at BW HX HY HV PP RG ⊢
      refine RG.out.mono ?_
      rintro r w4 ⟨rfl, b4⟩
      have B4 := hide (btr BW.out b4)
      have X4 := hide (heap_below HX.out b4)
      have Y4 := hide (heap_below HY.out b4)
      have P4 := hide (PP.out.below b4)
      clear b4 RG HX HY HV PP BW
      obtain ⟨R, S, Q, FS, FQ, h4⟩ := P4.out
      have h5 := h4.below (bdrew1 w4)
      have SD : Hid (Calls Try.prog 54 #[.pointer (some ⟨B, 0, none⟩), .bool false] w4.drew fun r w' => r = .returned (.pointer (some ⟨Q, 0, none⟩)) ∧ w' = w4.drew) := h5.side false
      have P5 := hide h5
      have x0 : w4.cell? ⟨w.heap.size, 0, none⟩ = some (.pointer (some ⟨B, 0, none⟩)) := cell_of X4.out 0
      have y0 : w4.cell? ⟨w.heap.size + 1, 0, none⟩ = some (.int .i64 x.g) := cell_of Y4.out 0
      have y1 : w4.cell? ⟨w.heap.size + 1, 1, none⟩ = some (.int .i64 x.c) := cell_of Y4.out 1
      have y2 : w4.cell? ⟨w.heap.size + 1, 2, none⟩ = some (.int .i64 x.v) := cell_of Y4.out 2
      clear h4 h5 X4 Y4 P4
      have AD := hide (add_any Q FQ st.rcv x _ P5.out.pq)
      unfold wv at AD
      go_wp2_with fail
      go_region_with (first | (go_at_call 54; refine SD.out.mono ?_; rintro r z1 ⟨rfl, rfl⟩) | (go_at_call 49; refine AD.out.mono ?_; rintro r z2 ⟨rfl, k2, F2, n2, p2⟩))
      all_goals
        have RC := hide (P5.out.rcv k2 n2 p2)
        clear k2 n2 p2
        go_wp2_with fail
        go_ret
        exact ⟨rfl, ((KF.of (F := F) B4.out).then (bdrew1 _)).trans RC.out.2.1 (Nw.refl _ _), _, (Nw.refl F w).trans RC.out.2.2 (btr B4.out (bdrew1 _)).size, RC.out.1.pp⟩
    · rw [show waitE st true x = ae st.snd x by simp [waitE, hq, own], show waitS st true x = { st with snd := al st.snd x } by simp [waitS, hq]]
      unfold wv
      go_enter Try.func24, Try.ntmps24
      go_wp2_with fail
      generalize (((w.alloc (.cells #[.pointer (some ⟨B, 0, none⟩)] 55)).alloc (.cells #[.int .i64 x.g, .int .i64 x.c, .int .i64 x.v] 49)).alloc (.cells #[.func (.func 50) #[] #[.pointer (some ⟨w.heap.size + 1, 0, none⟩)]] 104)) = W3 at BW HX HY HV PP RG ⊢
      refine RG.out.mono ?_
      rintro r w4 ⟨rfl, b4⟩
      have B4 := hide (btr BW.out b4)
      have X4 := hide (heap_below HX.out b4)
      have Y4 := hide (heap_below HY.out b4)
      have P4 := hide (PP.out.below b4)
      clear b4 RG HX HY HV PP BW
      obtain ⟨R, S, Q, FS, FQ, h4⟩ := P4.out
      have h5 := h4.below (bdrew1 w4)
      have SD : Hid (Calls Try.prog 54 #[.pointer (some ⟨B, 0, none⟩), .bool true] w4.drew fun r w' => r = .returned (.pointer (some ⟨S, 0, none⟩)) ∧ w' = w4.drew) := h5.side true
      have P5 := hide h5
      have x0 : w4.cell? ⟨w.heap.size, 0, none⟩ = some (.pointer (some ⟨B, 0, none⟩)) := cell_of X4.out 0
      have y0 : w4.cell? ⟨w.heap.size + 1, 0, none⟩ = some (.int .i64 x.g) := cell_of Y4.out 0
      have y1 : w4.cell? ⟨w.heap.size + 1, 1, none⟩ = some (.int .i64 x.c) := cell_of Y4.out 1
      have y2 : w4.cell? ⟨w.heap.size + 1, 2, none⟩ = some (.int .i64 x.v) := cell_of Y4.out 2
      clear h4 h5 X4 Y4 P4
      have AD := hide (add_any S FS st.snd x _ P5.out.ps)
      unfold wv at AD
      go_wp2_with fail
      go_region_with (first | (go_at_call 54; refine SD.out.mono ?_; rintro r z1 ⟨rfl, rfl⟩) | (go_at_call 49; refine AD.out.mono ?_; rintro r z2 ⟨rfl, k2, F2, n2, p2⟩))
      all_goals
        have RC := hide (P5.out.snd k2 n2 p2)
        clear k2 n2 p2
        go_wp2_with fail
        go_ret
        exact ⟨rfl, ((KF.of (F := F) B4.out).then (bdrew1 _)).trans RC.out.2.1 (Nw.refl _ _), _, (Nw.refl F w).trans RC.out.2.2 (btr B4.out (bdrew1 _)).size, RC.out.1.pp⟩
  · rw [hq] at RG
    rw [show waitE st send x = 7 by simp [waitE, hq], show waitS st send x = st by simp [waitS, hq]]
    unfold wv
    go_enter Try.func24, Try.ntmps24
    go_wp2_with fail
    generalize (((w.alloc (.cells #[.pointer (some ⟨B, 0, none⟩)] 55)).alloc (.cells #[.int .i64 x.g, .int .i64 x.c, .int .i64 x.v] 49)).alloc (.cells #[.func (.func 50) #[] #[.pointer (some ⟨w.heap.size + 1, 0, none⟩)]] 104)) = W3 at BW HX HY HV PP RG ⊢
    refine RG.out.mono ?_
    rintro r w4 ⟨rfl, b4⟩
    have B4 := hide (btr BW.out b4)
    have X4 := hide (heap_below HX.out b4)
    have Y4 := hide (heap_below HY.out b4)
    have P4 := hide (PP.out.below b4)
    clear b4 RG HX HY HV PP BW
    go_wp2_with fail
    go_ret
    exact ⟨rfl, KF.of B4.out, F, Nw.refl _ _, P4.out⟩
set_option maxRecDepth 100000 in
set_option maxHeartbeats 1600000 in
theorem wait_nil (send : Bool) (x : Wt) (w : World) :
    Calls Try.prog 24 #[.pointer none, .bool send, wv x] w fun r w' => r = .returned (.int .i64 (ae [] x)) ∧ Below w.heap.size w w' := by
  have b1 := below_alloc w (.cells #[.pointer none] 55)
  have b2 := below_alloc (w.alloc (.cells #[.pointer none] 55)) (.cells #[.int .i64 x.g, .int .i64 x.c, .int .i64 x.v] 49)
  have BW := hide (btr b1 b2)
  have hy := heap_new (w.alloc (.cells #[.pointer none] 55)) (.cells #[.int .i64 x.g, .int .i64 x.c, .int .i64 x.v] 49)
  rw [World.size_alloc] at hy
  have HY := hide hy
  clear b1 b2 hy
  unfold wv
  go_enter Try.func24, Try.ntmps24
  go_wp2_with fail
  generalize ((w.alloc (.cells #[.pointer none] 55)).alloc (.cells #[.int .i64 x.g, .int .i64 x.c, .int .i64 x.v] 49)) = W2 at BW HY ⊢
  have y0 : W2.cell? ⟨w.heap.size + 1, 0, none⟩ = some (.int .i64 x.g) := cell_of HY.out 0
  have y1 : W2.cell? ⟨w.heap.size + 1, 1, none⟩ = some (.int .i64 x.c) := cell_of HY.out 1
  have y2 : W2.cell? ⟨w.heap.size + 1, 2, none⟩ = some (.int .i64 x.v) := cell_of HY.out 2
  have AD := hide fun P F u p => add_any P F [] x u p
  unfold wv at AD
  go_region_with (first | (go_at_call 44; refine (new_any _).mono ?_; rintro r z1 ⟨rfl, p1, c1⟩; have v0 := cellB y0 (btr (bdrew1 _) c1); have v1 := cellB y1 (btr (bdrew1 _) c1); have v2 := cellB y2 (btr (bdrew1 _) c1)) | (go_at_call 49; refine (AD.out _ _ _ p1).mono ?_; rintro r z2 ⟨rfl, k2, -⟩))
  all_goals
    have B3 := hide (k2.below (btr BW.out (btr (bdrew1 _) c1)) (fun k (e : k = _) => by have := BW.out.size; show _ ≤ _; rw [e]; exact this))
    clear k2 c1 p1
    go_wp2_with fail
    go_ret
    exact ⟨rfl, B3.out⟩
end Pi
end Go.Proofs.Ytdcmlimglajpkaa
