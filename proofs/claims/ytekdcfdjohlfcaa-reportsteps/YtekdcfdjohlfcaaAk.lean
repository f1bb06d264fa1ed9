/- Package cell, over this seat's program: Retire. -/
import Derived.Test.YtekdcfdjohlfcaaAi
namespace Go.Proofs.Ytekdcfdjohlfcaa
open Go.ChangeShapes Go.WideShapes Go.ChangeAt Go.RowKit
namespace Ce
open Ck
open Ba (KF Bd Nw hide)
open Ep (tidOf clkOf ownB)

/-- what Retire gives -/
def RetR (Y : Nat → Prop) (X : Nat) (w : World) (st : Cst) (tid cut : Int) (r : Ending) (w' : World) : Prop := r = .returned (.int .i64 0) ∧ CW Y X w' (retS st tid cut) ∧ KY Y w w'

set_option maxRecDepth 100000 in
set_option maxHeartbeats 800000 in
theorem ret_fff {Y : Nat → Prop} {X : Nat} {w : World} {st : Cst} (h : CW Y X w st) (tid cut : Int) (h0 : 0 ≤ tid) (h1 : tid < 256) (h2 : 0 ≤ cut) (h3 : cut ≤ 1048576) (hq : (tidOf st.last == tid) = false) (hB : has st.rd tid = false) (htl : st.tl = false) :
    Calls Try.prog 67 #[.pointer (some ⟨X, 0, none⟩), .int .i64 tid, .int .i64 cut] w (RetR Y X w st tid cut) := by
  unfold RetR
  have GD := hide (h.gd.retire tid cut)
  have GU := hide h.gd.u
  obtain ⟨v, h⟩ := h
  obtain ⟨oa, c, rfl⟩ := own_sl h.own
  have la := h.gd.last
  have HT := hide (Ep.tid_any st.last la.1 la.2 w)
  have x0 := cell_of h.head 0
  simp at x0
  have ES : Hid (retS st tid cut = ⟨st.last, st.rd, false⟩) := by
    show retS st tid cut = ⟨st.last, st.rd, false⟩
    have g1 : retL st tid cut = st.last := by simp [retL, hq]
    have g2 : retD st tid = st.rd := by simp [retD, hB]
    have g3 : retT st tid cut = false := by simp [retT, hB, htl]
    unfold retS
    rw [g1, g2, g3]
  have CC := hide h
  have KK : Hid (KY Y w w) := KY.refl _ _
  clear h la
  have CC : Hid (CX Y X (w) ⟨st.last, st.rd, false⟩ (.slice oa st.rd.length c)) := by
    have := CC.out
    show CX Y X w ⟨st.last, st.rd, false⟩ _; rw [← htl]
    exact this
  go_enter Try.func67, Try.ntmps67
  go_wp2_with fail
  refine HT.out.mono ?_
  rintro r w0 ⟨rfl, e0⟩
  obtain rfl := e0.symm
  go_wp2_with fail
  clear x0
  have FN := hide (find_any ⟨_, CC.out⟩ tid)
  rw [show (⟨st.last, st.rd, false⟩ : Cst).rd = st.rd from rfl, hB] at FN
  refine FN.out.mono ?_
  rintro r w0 ⟨rfl, e0⟩
  obtain rfl := e0.symm
  clear FN HT
  go_wp2_with fail
  go_ret
  rw [ES.out]
  exact ⟨rfl, ⟨_, CC.out⟩, KK.out⟩

set_option maxRecDepth 100000 in
set_option maxHeartbeats 800000 in
theorem ret_fft {Y : Nat → Prop} {X : Nat} {w : World} {st : Cst} (h : CW Y X w st) (tid cut : Int) (h0 : 0 ≤ tid) (h1 : tid < 256) (h2 : 0 ≤ cut) (h3 : cut ≤ 1048576) (hq : (tidOf st.last == tid) = false) (hB : has st.rd tid = false) (htl : st.tl = true) :
    Calls Try.prog 67 #[.pointer (some ⟨X, 0, none⟩), .int .i64 tid, .int .i64 cut] w (RetR Y X w st tid cut) := by
  unfold RetR
  have GD := hide (h.gd.retire tid cut)
  have GU := hide h.gd.u
  obtain ⟨v, h⟩ := h
  obtain ⟨oa, c, rfl⟩ := own_sl h.own
  have la := h.gd.last
  have HT := hide (Ep.tid_any st.last la.1 la.2 w)
  have x0 := cell_of h.head 0
  simp at x0
  have ES : Hid (retS st tid cut = ⟨st.last, st.rd, true⟩) := by
    show retS st tid cut = ⟨st.last, st.rd, true⟩
    have g1 : retL st tid cut = st.last := by simp [retL, hq]
    have g2 : retD st tid = st.rd := by simp [retD, hB]
    have g3 : retT st tid cut = true := by simp [retT, hB, htl]
    unfold retS
    rw [g1, g2, g3]
  have CC := hide h
  have KK : Hid (KY Y w w) := KY.refl _ _
  clear h la
  have CC : Hid (CX Y X (w) ⟨st.last, st.rd, true⟩ (.slice oa st.rd.length c)) := by
    have := CC.out
    show CX Y X w ⟨st.last, st.rd, true⟩ _; rw [← htl]
    exact this
  go_enter Try.func67, Try.ntmps67
  go_wp2_with fail
  refine HT.out.mono ?_
  rintro r w0 ⟨rfl, e0⟩
  obtain rfl := e0.symm
  go_wp2_with fail
  clear x0
  have FN := hide (find_any ⟨_, CC.out⟩ tid)
  rw [show (⟨st.last, st.rd, true⟩ : Cst).rd = st.rd from rfl, hB] at FN
  refine FN.out.mono ?_
  rintro r w0 ⟨rfl, e0⟩
  obtain rfl := e0.symm
  clear FN HT
  go_wp2_with fail
  go_ret
  rw [ES.out]
  exact ⟨rfl, ⟨_, CC.out⟩, KK.out⟩

set_option maxRecDepth 100000 in
set_option maxHeartbeats 800000 in
theorem ret_ftt {Y : Nat → Prop} {X : Nat} {w : World} {st : Cst} (h : CW Y X w st) (tid cut : Int) (h0 : 0 ≤ tid) (h1 : tid < 256) (h2 : 0 ≤ cut) (h3 : cut ≤ 1048576) (hq : (tidOf st.last == tid) = false) (hB : has st.rd tid = true) (htl : st.tl = true) :
    Calls Try.prog 67 #[.pointer (some ⟨X, 0, none⟩), .int .i64 tid, .int .i64 cut] w (RetR Y X w st tid cut) := by
  unfold RetR
  have GD := hide (h.gd.retire tid cut)
  have GU := hide h.gd.u
  have hPl := (has_pos h.gd.so hB).1
  have hl256 := srt_len h.gd.so h.gd.ro
  obtain ⟨v, h⟩ := h
  obtain ⟨oa, c, rfl⟩ := own_sl h.own
  have la := h.gd.last
  have HT := hide (Ep.tid_any st.last la.1 la.2 w)
  have x0 := cell_of h.head 0
  simp at x0
  have ES : Hid (retS st tid cut = ⟨st.last, outL st.rd (pos st.rd tid), true⟩) := by
    show retS st tid cut = ⟨st.last, outL st.rd (pos st.rd tid), true⟩
    have g1 : retL st tid cut = st.last := by simp [retL, hq]
    have g2 : retD st tid = outL st.rd (pos st.rd tid) := by simp [retD, hB]
    have g3 : retT st tid cut = true := by simp [retT, hB, htl]
    unfold retS
    rw [g1, g2, g3]
  have CC := hide h
  have KK : Hid (KY Y w w) := KY.refl _ _
  clear h la
  have CC : Hid (CX Y X (w) ⟨st.last, st.rd, true⟩ (.slice oa st.rd.length c)) := by
    have := CC.out
    show CX Y X w ⟨st.last, st.rd, true⟩ _; rw [← htl]
    exact this
  go_enter Try.func67, Try.ntmps67
  go_wp2_with fail
  refine HT.out.mono ?_
  rintro r w0 ⟨rfl, e0⟩
  obtain rfl := e0.symm
  go_wp2_with fail
  clear x0
  have FN := hide (find_any ⟨_, CC.out⟩ tid)
  rw [show (⟨st.last, st.rd, true⟩ : Cst).rd = st.rd from rfl, hB] at FN
  refine FN.out.mono ?_
  rintro r w0 ⟨rfl, e0⟩
  obtain rfl := e0.symm
  clear FN HT
  obtain ⟨P, hP⟩ : ∃ P, pos st.rd tid = P := ⟨_, rfl⟩
  simp only [hP] at ES hPl ⊢
  obtain ⟨g, rfl, d0, -⟩ := own_cell CC.out.own hPl
  have d0 : w.cell? ⟨g, P, none⟩ = some (.int .u64 (nth st.rd P)) := d0
  have hPi : (P : Int) < (st.rd.length : Int) := by omega
  have hPw : (P : Int) < 256 := by omega
  have hPx : IntKind.i64.wrap ((P : Int) + 1) = (P : Int) + 1 := by rw [IntKind.wrap_i64]; omega
  have y1 := cell_of CC.out.head 1
  have y2 := cell_of CC.out.head 2
  simp at y1 y2
  have y3 : w.frozen? ⟨X, 2, none⟩ = false := Ba.frozen_of CC.out.head 2
  have CC2 := hide (CC.out.setTl true)
  have KK2 := hide (KK.out.trans (KY.set w CC.out.yx 2 (.bool true)))
  have u1 := cell_of CC2.out.head 1
  simp at u1
  have DL := hide (delete_any _ st.rd P _ CC2.out.own hPl)
  clear CC KK
  go_wp2_with fail
  generalize w.setCell ⟨X, 2, none⟩ (.bool true) = W2 at *
  refine DL.out.mono ?_
  rintro r w3 ⟨v3, rfl, o3, bk3, g3⟩
  obtain ⟨oa3, c3, rfl⟩ := own_sl o3
  have h3 : w3.heap[X]? = some (.cells #[.int .u64 (st.last), .slice (some ⟨g, 0, none⟩) st.rd.length c, .bool true] 134 (0, 0)) := (g3.block X CC2.out.lt (fun q => CC2.out.ne q.symm)).trans CC2.out.head
  have y5 := cell_of h3 1
  simp at y5
  have f5 : w3.frozen? ⟨X, 1, none⟩ = false := Ba.frozen_of h3 1
  have ne3 := CC2.out.ne
  rw [← bk3] at ne3
  rw [ES.out] at GD
  have C4 : Hid (CX Y X (w3.setCell ⟨X, 1, none⟩ (.slice oa3 (outL st.rd P).length c3)) ⟨st.last, outL st.rd P, true⟩ (.slice oa3 (outL st.rd P).length c3)) := by
    refine ⟨head_set h3, own_set1 o3 ne3, ne3, CC2.out.yx, fun g q => ?_, fun k hk => ?_, GD.out⟩
    · rw [bk3] at q; exact CC2.out.yg g q
    · rw [show (w3.setCell ⟨X, 1, none⟩ (.slice oa3 (outL st.rd P).length c3)).heap.size = w3.heap.size by simp [World.setCell]]; exact Nat.lt_of_lt_of_le (CC2.out.yl k hk) g3.size
  have K4 : Hid (KY Y w (w3.setCell ⟨X, 1, none⟩ (.slice oa3 (outL st.rd P).length c3))) := (KK2.out.trans (KY.grown g3 CC2.out.yl CC2.out.yg)).trans (KY.set _ CC2.out.yx _ _)
  clear h3 ne3 bk3 g3 o3 DL CC2 KK2 GD
  generalize hn3 : (outL st.rd P).length = n3 at *
  go_wp2_with fail
  go_ret
  rw [ES.out]
  exact ⟨rfl, ⟨_, C4.out⟩, K4.out⟩

set_option maxRecDepth 100000 in
set_option maxHeartbeats 800000 in
theorem ret_ftff {Y : Nat → Prop} {X : Nat} {w : World} {st : Cst} (h : CW Y X w st) (tid cut : Int) (h0 : 0 ≤ tid) (h1 : tid < 256) (h2 : 0 ≤ cut) (h3 : cut ≤ 1048576) (hq : (tidOf st.last == tid) = false) (hB : has st.rd tid = true) (htl : st.tl = false) (hz : (remE (nth st.rd (pos st.rd tid)) cut == 18446744073709551615) = false) :
    Calls Try.prog 67 #[.pointer (some ⟨X, 0, none⟩), .int .i64 tid, .int .i64 cut] w (RetR Y X w st tid cut) := by
  unfold RetR
  have GD := hide (h.gd.retire tid cut)
  have GU := hide h.gd.u
  have hPl := (has_pos h.gd.so hB).1
  have hl256 := srt_len h.gd.so h.gd.ro
  obtain ⟨v, h⟩ := h
  obtain ⟨oa, c, rfl⟩ := own_sl h.own
  have la := h.gd.last
  have HT := hide (Ep.tid_any st.last la.1 la.2 w)
  have x0 := cell_of h.head 0
  simp at x0
  have ES : Hid (retS st tid cut = ⟨st.last, outL st.rd (pos st.rd tid), false⟩) := by
    show retS st tid cut = ⟨st.last, outL st.rd (pos st.rd tid), false⟩
    have g1 : retL st tid cut = st.last := by simp [retL, hq]
    have g2 : retD st tid = outL st.rd (pos st.rd tid) := by simp [retD, hB]
    have g3 : retT st tid cut = false := by simp only [retT, hB, htl, hz]; rfl
    unfold retS
    rw [g1, g2, g3]
  have CC := hide h
  have KK : Hid (KY Y w w) := KY.refl _ _
  clear h la
  have CC : Hid (CX Y X (w) ⟨st.last, st.rd, false⟩ (.slice oa st.rd.length c)) := by
    have := CC.out
    show CX Y X w ⟨st.last, st.rd, false⟩ _; rw [← htl]
    exact this
  go_enter Try.func67, Try.ntmps67
  go_wp2_with fail
  refine HT.out.mono ?_
  rintro r w0 ⟨rfl, e0⟩
  obtain rfl := e0.symm
  go_wp2_with fail
  clear x0
  have FN := hide (find_any ⟨_, CC.out⟩ tid)
  rw [show (⟨st.last, st.rd, false⟩ : Cst).rd = st.rd from rfl, hB] at FN
  refine FN.out.mono ?_
  rintro r w0 ⟨rfl, e0⟩
  obtain rfl := e0.symm
  clear FN HT
  obtain ⟨P, hP⟩ : ∃ P, pos st.rd tid = P := ⟨_, rfl⟩
  simp only [hP] at ES hPl ⊢
  obtain ⟨g, rfl, d0, -⟩ := own_cell CC.out.own hPl
  have d0 : w.cell? ⟨g, P, none⟩ = some (.int .u64 (nth st.rd P)) := d0
  have hPi : (P : Int) < (st.rd.length : Int) := by omega
  have hPw : (P : Int) < 256 := by omega
  have hPx : IntKind.i64.wrap ((P : Int) + 1) = (P : Int) + 1 := by rw [IntKind.wrap_i64]; omega
  have y1 := cell_of CC.out.head 1
  have y2 := cell_of CC.out.head 2
  simp at y1 y2
  have y3 : w.frozen? ⟨X, 2, none⟩ = false := Ba.frozen_of CC.out.head 2
  have RM := hide (rem_any (nth st.rd P) cut (GU.out.nth P).1 (GU.out.nth P).2 w)
  rw [hP] at hz
  generalize remE (nth st.rd P) cut = rm at *
  go_wp2_with fail
  refine RM.out.mono ?_
  rintro r w0 ⟨rfl, e0⟩
  obtain rfl := e0.symm
  clear RM
  have CC2 := hide (CC.out.setTl false)
  have KK2 := hide (KK.out.trans (KY.set w CC.out.yx 2 (.bool false)))
  have u1 := cell_of CC2.out.head 1
  simp at u1
  have DL := hide (delete_any _ st.rd P _ CC2.out.own hPl)
  clear CC KK
  go_wp2_with fail
  generalize w.setCell ⟨X, 2, none⟩ (.bool false) = W2 at *
  refine DL.out.mono ?_
  rintro r w3 ⟨v3, rfl, o3, bk3, g3⟩
  obtain ⟨oa3, c3, rfl⟩ := own_sl o3
  have h3 : w3.heap[X]? = some (.cells #[.int .u64 (st.last), .slice (some ⟨g, 0, none⟩) st.rd.length c, .bool false] 134 (0, 0)) := (g3.block X CC2.out.lt (fun q => CC2.out.ne q.symm)).trans CC2.out.head
  have y5 := cell_of h3 1
  simp at y5
  have f5 : w3.frozen? ⟨X, 1, none⟩ = false := Ba.frozen_of h3 1
  have ne3 := CC2.out.ne
  rw [← bk3] at ne3
  rw [ES.out] at GD
  have C4 : Hid (CX Y X (w3.setCell ⟨X, 1, none⟩ (.slice oa3 (outL st.rd P).length c3)) ⟨st.last, outL st.rd P, false⟩ (.slice oa3 (outL st.rd P).length c3)) := by
    refine ⟨head_set h3, own_set1 o3 ne3, ne3, CC2.out.yx, fun g q => ?_, fun k hk => ?_, GD.out⟩
    · rw [bk3] at q; exact CC2.out.yg g q
    · rw [show (w3.setCell ⟨X, 1, none⟩ (.slice oa3 (outL st.rd P).length c3)).heap.size = w3.heap.size by simp [World.setCell]]; exact Nat.lt_of_lt_of_le (CC2.out.yl k hk) g3.size
  have K4 : Hid (KY Y w (w3.setCell ⟨X, 1, none⟩ (.slice oa3 (outL st.rd P).length c3))) := (KK2.out.trans (KY.grown g3 CC2.out.yl CC2.out.yg)).trans (KY.set _ CC2.out.yx _ _)
  clear h3 ne3 bk3 g3 o3 DL CC2 KK2 GD
  generalize hn3 : (outL st.rd P).length = n3 at *
  go_wp2_with fail
  go_ret
  rw [ES.out]
  exact ⟨rfl, ⟨_, C4.out⟩, K4.out⟩

set_option maxRecDepth 100000 in
set_option maxHeartbeats 800000 in
theorem ret_ftft {Y : Nat → Prop} {X : Nat} {w : World} {st : Cst} (h : CW Y X w st) (tid cut : Int) (h0 : 0 ≤ tid) (h1 : tid < 256) (h2 : 0 ≤ cut) (h3 : cut ≤ 1048576) (hq : (tidOf st.last == tid) = false) (hB : has st.rd tid = true) (htl : st.tl = false) (hz : (remE (nth st.rd (pos st.rd tid)) cut == 18446744073709551615) = true) :
    Calls Try.prog 67 #[.pointer (some ⟨X, 0, none⟩), .int .i64 tid, .int .i64 cut] w (RetR Y X w st tid cut) := by
  unfold RetR
  have GD := hide (h.gd.retire tid cut)
  have GU := hide h.gd.u
  have hPl := (has_pos h.gd.so hB).1
  have hl256 := srt_len h.gd.so h.gd.ro
  obtain ⟨v, h⟩ := h
  obtain ⟨oa, c, rfl⟩ := own_sl h.own
  have la := h.gd.last
  have HT := hide (Ep.tid_any st.last la.1 la.2 w)
  have x0 := cell_of h.head 0
  simp at x0
  have ES : Hid (retS st tid cut = ⟨st.last, outL st.rd (pos st.rd tid), true⟩) := by
    show retS st tid cut = ⟨st.last, outL st.rd (pos st.rd tid), true⟩
    have g1 : retL st tid cut = st.last := by simp [retL, hq]
    have g2 : retD st tid = outL st.rd (pos st.rd tid) := by simp [retD, hB]
    have g3 : retT st tid cut = true := by simp only [retT, hB, htl, hz]; rfl
    unfold retS
    rw [g1, g2, g3]
  have CC := hide h
  have KK : Hid (KY Y w w) := KY.refl _ _
  clear h la
  have CC : Hid (CX Y X (w) ⟨st.last, st.rd, false⟩ (.slice oa st.rd.length c)) := by
    have := CC.out
    show CX Y X w ⟨st.last, st.rd, false⟩ _; rw [← htl]
    exact this
  go_enter Try.func67, Try.ntmps67
  go_wp2_with fail
  refine HT.out.mono ?_
  rintro r w0 ⟨rfl, e0⟩
  obtain rfl := e0.symm
  go_wp2_with fail
  clear x0
  have FN := hide (find_any ⟨_, CC.out⟩ tid)
  rw [show (⟨st.last, st.rd, false⟩ : Cst).rd = st.rd from rfl, hB] at FN
  refine FN.out.mono ?_
  rintro r w0 ⟨rfl, e0⟩
  obtain rfl := e0.symm
  clear FN HT
  obtain ⟨P, hP⟩ : ∃ P, pos st.rd tid = P := ⟨_, rfl⟩
  simp only [hP] at ES hPl ⊢
  obtain ⟨g, rfl, d0, -⟩ := own_cell CC.out.own hPl
  have d0 : w.cell? ⟨g, P, none⟩ = some (.int .u64 (nth st.rd P)) := d0
  have hPi : (P : Int) < (st.rd.length : Int) := by omega
  have hPw : (P : Int) < 256 := by omega
  have hPx : IntKind.i64.wrap ((P : Int) + 1) = (P : Int) + 1 := by rw [IntKind.wrap_i64]; omega
  have y1 := cell_of CC.out.head 1
  have y2 := cell_of CC.out.head 2
  simp at y1 y2
  have y3 : w.frozen? ⟨X, 2, none⟩ = false := Ba.frozen_of CC.out.head 2
  have RM := hide (rem_any (nth st.rd P) cut (GU.out.nth P).1 (GU.out.nth P).2 w)
  rw [hP] at hz
  generalize remE (nth st.rd P) cut = rm at *
  go_wp2_with fail
  refine RM.out.mono ?_
  rintro r w0 ⟨rfl, e0⟩
  obtain rfl := e0.symm
  clear RM
  have CC2 := hide (CC.out.setTl true)
  have KK2 := hide (KK.out.trans (KY.set w CC.out.yx 2 (.bool true)))
  have u1 := cell_of CC2.out.head 1
  simp at u1
  have DL := hide (delete_any _ st.rd P _ CC2.out.own hPl)
  clear CC KK
  go_wp2_with fail
  generalize w.setCell ⟨X, 2, none⟩ (.bool true) = W2 at *
  refine DL.out.mono ?_
  rintro r w3 ⟨v3, rfl, o3, bk3, g3⟩
  obtain ⟨oa3, c3, rfl⟩ := own_sl o3
  have h3 : w3.heap[X]? = some (.cells #[.int .u64 (st.last), .slice (some ⟨g, 0, none⟩) st.rd.length c, .bool true] 134 (0, 0)) := (g3.block X CC2.out.lt (fun q => CC2.out.ne q.symm)).trans CC2.out.head
  have y5 := cell_of h3 1
  simp at y5
  have f5 : w3.frozen? ⟨X, 1, none⟩ = false := Ba.frozen_of h3 1
  have ne3 := CC2.out.ne
  rw [← bk3] at ne3
  rw [ES.out] at GD
  have C4 : Hid (CX Y X (w3.setCell ⟨X, 1, none⟩ (.slice oa3 (outL st.rd P).length c3)) ⟨st.last, outL st.rd P, true⟩ (.slice oa3 (outL st.rd P).length c3)) := by
    refine ⟨head_set h3, own_set1 o3 ne3, ne3, CC2.out.yx, fun g q => ?_, fun k hk => ?_, GD.out⟩
    · rw [bk3] at q; exact CC2.out.yg g q
    · rw [show (w3.setCell ⟨X, 1, none⟩ (.slice oa3 (outL st.rd P).length c3)).heap.size = w3.heap.size by simp [World.setCell]]; exact Nat.lt_of_lt_of_le (CC2.out.yl k hk) g3.size
  have K4 : Hid (KY Y w (w3.setCell ⟨X, 1, none⟩ (.slice oa3 (outL st.rd P).length c3))) := (KK2.out.trans (KY.grown g3 CC2.out.yl CC2.out.yg)).trans (KY.set _ CC2.out.yx _ _)
  clear h3 ne3 bk3 g3 o3 DL CC2 KK2 GD
  generalize hn3 : (outL st.rd P).length = n3 at *
  go_wp2_with fail
  go_ret
  rw [ES.out]
  exact ⟨rfl, ⟨_, C4.out⟩, K4.out⟩

set_option maxRecDepth 100000 in
set_option maxHeartbeats 800000 in
theorem ret_tff {Y : Nat → Prop} {X : Nat} {w : World} {st : Cst} (h : CW Y X w st) (tid cut : Int) (h0 : 0 ≤ tid) (h1 : tid < 256) (h2 : 0 ≤ cut) (h3 : cut ≤ 1048576) (hq : (tidOf st.last == tid) = true) (hB : has st.rd tid = false) (htl : st.tl = false) :
    Calls Try.prog 67 #[.pointer (some ⟨X, 0, none⟩), .int .i64 tid, .int .i64 cut] w (RetR Y X w st tid cut) := by
  unfold RetR
  have GD := hide (h.gd.retire tid cut)
  have GU := hide h.gd.u
  obtain ⟨v, h⟩ := h
  obtain ⟨oa, c, rfl⟩ := own_sl h.own
  have la := h.gd.last
  have HT := hide (Ep.tid_any st.last la.1 la.2 w)
  have x0 := cell_of h.head 0
  simp at x0
  have ES : Hid (retS st tid cut = ⟨remE st.last cut, st.rd, false⟩) := by
    show retS st tid cut = ⟨remE st.last cut, st.rd, false⟩
    have g1 : retL st tid cut = remE st.last cut := by simp [retL, hq]
    have g2 : retD st tid = st.rd := by simp [retD, hB]
    have g3 : retT st tid cut = false := by simp [retT, hB, htl]
    unfold retS
    rw [g1, g2, g3]
  have HR := hide (rem_any st.last cut la.1 la.2 w)
  have f0 : w.frozen? ⟨X, 0, none⟩ = false := Ba.frozen_of h.head 0
  have la2 : remE st.last cut = 0 ∨ remE st.last cut = 18446744073709551615 ∨ ownB (remE st.last cut) = true := by
    unfold remE; split
    · exact .inl rfl
    · exact .inr (.inl rfl)
  have CC := hide (h.setLast _ la2)
  have KK := hide (KY.set w h.yx 0 (.int .u64 (remE st.last cut)))
  clear h la la2
  have CC : Hid (CX Y X (w.setCell ⟨X, 0, none⟩ (.int .u64 (remE st.last cut))) ⟨remE st.last cut, st.rd, false⟩ (.slice oa st.rd.length c)) := by
    have := CC.out
    rw [htl] at this
    exact this
  go_enter Try.func67, Try.ntmps67
  go_wp2_with fail
  refine HT.out.mono ?_
  rintro r w0 ⟨rfl, e0⟩
  obtain rfl := e0.symm
  go_wp2_with fail
  refine HR.out.mono ?_
  rintro r w0 ⟨rfl, e0⟩
  obtain rfl := e0.symm
  go_wp2_with fail
  generalize w.setCell ⟨X, 0, none⟩ (.int .u64 (remE st.last cut)) = W at *
  clear x0 f0
  have FN := hide (find_any ⟨_, CC.out⟩ tid)
  rw [show (⟨remE st.last cut, st.rd, false⟩ : Cst).rd = st.rd from rfl, hB] at FN
  refine FN.out.mono ?_
  rintro r w0 ⟨rfl, e0⟩
  obtain rfl := e0.symm
  clear FN HT
  go_wp2_with fail
  go_ret
  rw [ES.out]
  exact ⟨rfl, ⟨_, CC.out⟩, KK.out⟩

set_option maxRecDepth 100000 in
set_option maxHeartbeats 800000 in
theorem ret_tft {Y : Nat → Prop} {X : Nat} {w : World} {st : Cst} (h : CW Y X w st) (tid cut : Int) (h0 : 0 ≤ tid) (h1 : tid < 256) (h2 : 0 ≤ cut) (h3 : cut ≤ 1048576) (hq : (tidOf st.last == tid) = true) (hB : has st.rd tid = false) (htl : st.tl = true) :
    Calls Try.prog 67 #[.pointer (some ⟨X, 0, none⟩), .int .i64 tid, .int .i64 cut] w (RetR Y X w st tid cut) := by
  unfold RetR
  have GD := hide (h.gd.retire tid cut)
  have GU := hide h.gd.u
  obtain ⟨v, h⟩ := h
  obtain ⟨oa, c, rfl⟩ := own_sl h.own
  have la := h.gd.last
  have HT := hide (Ep.tid_any st.last la.1 la.2 w)
  have x0 := cell_of h.head 0
  simp at x0
  have ES : Hid (retS st tid cut = ⟨remE st.last cut, st.rd, true⟩) := by
    show retS st tid cut = ⟨remE st.last cut, st.rd, true⟩
    have g1 : retL st tid cut = remE st.last cut := by simp [retL, hq]
    have g2 : retD st tid = st.rd := by simp [retD, hB]
    have g3 : retT st tid cut = true := by simp [retT, hB, htl]
    unfold retS
    rw [g1, g2, g3]
  have HR := hide (rem_any st.last cut la.1 la.2 w)
  have f0 : w.frozen? ⟨X, 0, none⟩ = false := Ba.frozen_of h.head 0
  have la2 : remE st.last cut = 0 ∨ remE st.last cut = 18446744073709551615 ∨ ownB (remE st.last cut) = true := by
    unfold remE; split
    · exact .inl rfl
    · exact .inr (.inl rfl)
  have CC := hide (h.setLast _ la2)
  have KK := hide (KY.set w h.yx 0 (.int .u64 (remE st.last cut)))
  clear h la la2
  have CC : Hid (CX Y X (w.setCell ⟨X, 0, none⟩ (.int .u64 (remE st.last cut))) ⟨remE st.last cut, st.rd, true⟩ (.slice oa st.rd.length c)) := by
    have := CC.out
    rw [htl] at this
    exact this
  go_enter Try.func67, Try.ntmps67
  go_wp2_with fail
  refine HT.out.mono ?_
  rintro r w0 ⟨rfl, e0⟩
  obtain rfl := e0.symm
  go_wp2_with fail
  refine HR.out.mono ?_
  rintro r w0 ⟨rfl, e0⟩
  obtain rfl := e0.symm
  go_wp2_with fail
  generalize w.setCell ⟨X, 0, none⟩ (.int .u64 (remE st.last cut)) = W at *
  clear x0 f0
  have FN := hide (find_any ⟨_, CC.out⟩ tid)
  rw [show (⟨remE st.last cut, st.rd, true⟩ : Cst).rd = st.rd from rfl, hB] at FN
  refine FN.out.mono ?_
  rintro r w0 ⟨rfl, e0⟩
  obtain rfl := e0.symm
  clear FN HT
  go_wp2_with fail
  go_ret
  rw [ES.out]
  exact ⟨rfl, ⟨_, CC.out⟩, KK.out⟩

set_option maxRecDepth 100000 in
set_option maxHeartbeats 800000 in
theorem ret_ttt {Y : Nat → Prop} {X : Nat} {w : World} {st : Cst} (h : CW Y X w st) (tid cut : Int) (h0 : 0 ≤ tid) (h1 : tid < 256) (h2 : 0 ≤ cut) (h3 : cut ≤ 1048576) (hq : (tidOf st.last == tid) = true) (hB : has st.rd tid = true) (htl : st.tl = true) :
    Calls Try.prog 67 #[.pointer (some ⟨X, 0, none⟩), .int .i64 tid, .int .i64 cut] w (RetR Y X w st tid cut) := by
  unfold RetR
  have GD := hide (h.gd.retire tid cut)
  have GU := hide h.gd.u
  have hPl := (has_pos h.gd.so hB).1
  have hl256 := srt_len h.gd.so h.gd.ro
  obtain ⟨v, h⟩ := h
  obtain ⟨oa, c, rfl⟩ := own_sl h.own
  have la := h.gd.last
  have HT := hide (Ep.tid_any st.last la.1 la.2 w)
  have x0 := cell_of h.head 0
  simp at x0
  have ES : Hid (retS st tid cut = ⟨remE st.last cut, outL st.rd (pos st.rd tid), true⟩) := by
    show retS st tid cut = ⟨remE st.last cut, outL st.rd (pos st.rd tid), true⟩
    have g1 : retL st tid cut = remE st.last cut := by simp [retL, hq]
    have g2 : retD st tid = outL st.rd (pos st.rd tid) := by simp [retD, hB]
    have g3 : retT st tid cut = true := by simp [retT, hB, htl]
    unfold retS
    rw [g1, g2, g3]
  have HR := hide (rem_any st.last cut la.1 la.2 w)
  have f0 : w.frozen? ⟨X, 0, none⟩ = false := Ba.frozen_of h.head 0
  have la2 : remE st.last cut = 0 ∨ remE st.last cut = 18446744073709551615 ∨ ownB (remE st.last cut) = true := by
    unfold remE; split
    · exact .inl rfl
    · exact .inr (.inl rfl)
  have CC := hide (h.setLast _ la2)
  have KK := hide (KY.set w h.yx 0 (.int .u64 (remE st.last cut)))
  clear h la la2
  have CC : Hid (CX Y X (w.setCell ⟨X, 0, none⟩ (.int .u64 (remE st.last cut))) ⟨remE st.last cut, st.rd, true⟩ (.slice oa st.rd.length c)) := by
    have := CC.out
    rw [htl] at this
    exact this
  go_enter Try.func67, Try.ntmps67
  go_wp2_with fail
  refine HT.out.mono ?_
  rintro r w0 ⟨rfl, e0⟩
  obtain rfl := e0.symm
  go_wp2_with fail
  refine HR.out.mono ?_
  rintro r w0 ⟨rfl, e0⟩
  obtain rfl := e0.symm
  go_wp2_with fail
  generalize w.setCell ⟨X, 0, none⟩ (.int .u64 (remE st.last cut)) = W at *
  clear x0 f0
  have FN := hide (find_any ⟨_, CC.out⟩ tid)
  rw [show (⟨remE st.last cut, st.rd, true⟩ : Cst).rd = st.rd from rfl, hB] at FN
  refine FN.out.mono ?_
  rintro r w0 ⟨rfl, e0⟩
  obtain rfl := e0.symm
  clear FN HT
  obtain ⟨P, hP⟩ : ∃ P, pos st.rd tid = P := ⟨_, rfl⟩
  simp only [hP] at ES hPl ⊢
  obtain ⟨g, rfl, d0, -⟩ := own_cell CC.out.own hPl
  have d0 : W.cell? ⟨g, P, none⟩ = some (.int .u64 (nth st.rd P)) := d0
  have hPi : (P : Int) < (st.rd.length : Int) := by omega
  have hPw : (P : Int) < 256 := by omega
  have hPx : IntKind.i64.wrap ((P : Int) + 1) = (P : Int) + 1 := by rw [IntKind.wrap_i64]; omega
  have y1 := cell_of CC.out.head 1
  have y2 := cell_of CC.out.head 2
  simp at y1 y2
  have y3 : W.frozen? ⟨X, 2, none⟩ = false := Ba.frozen_of CC.out.head 2
  have CC2 := hide (CC.out.setTl true)
  have KK2 := hide (KK.out.trans (KY.set W CC.out.yx 2 (.bool true)))
  have u1 := cell_of CC2.out.head 1
  simp at u1
  have DL := hide (delete_any _ st.rd P _ CC2.out.own hPl)
  clear CC KK
  go_wp2_with fail
  generalize W.setCell ⟨X, 2, none⟩ (.bool true) = W2 at *
  refine DL.out.mono ?_
  rintro r w3 ⟨v3, rfl, o3, bk3, g3⟩
  obtain ⟨oa3, c3, rfl⟩ := own_sl o3
  have h3 : w3.heap[X]? = some (.cells #[.int .u64 (remE st.last cut), .slice (some ⟨g, 0, none⟩) st.rd.length c, .bool true] 134 (0, 0)) := (g3.block X CC2.out.lt (fun q => CC2.out.ne q.symm)).trans CC2.out.head
  have y5 := cell_of h3 1
  simp at y5
  have f5 : w3.frozen? ⟨X, 1, none⟩ = false := Ba.frozen_of h3 1
  have ne3 := CC2.out.ne
  rw [← bk3] at ne3
  rw [ES.out] at GD
  have C4 : Hid (CX Y X (w3.setCell ⟨X, 1, none⟩ (.slice oa3 (outL st.rd P).length c3)) ⟨remE st.last cut, outL st.rd P, true⟩ (.slice oa3 (outL st.rd P).length c3)) := by
    refine ⟨head_set h3, own_set1 o3 ne3, ne3, CC2.out.yx, fun g q => ?_, fun k hk => ?_, GD.out⟩
    · rw [bk3] at q; exact CC2.out.yg g q
    · rw [show (w3.setCell ⟨X, 1, none⟩ (.slice oa3 (outL st.rd P).length c3)).heap.size = w3.heap.size by simp [World.setCell]]; exact Nat.lt_of_lt_of_le (CC2.out.yl k hk) g3.size
  have K4 : Hid (KY Y w (w3.setCell ⟨X, 1, none⟩ (.slice oa3 (outL st.rd P).length c3))) := (KK2.out.trans (KY.grown g3 CC2.out.yl CC2.out.yg)).trans (KY.set _ CC2.out.yx _ _)
  clear h3 ne3 bk3 g3 o3 DL CC2 KK2 GD
  generalize hn3 : (outL st.rd P).length = n3 at *
  go_wp2_with fail
  go_ret
  rw [ES.out]
  exact ⟨rfl, ⟨_, C4.out⟩, K4.out⟩

set_option maxRecDepth 100000 in
set_option maxHeartbeats 800000 in
theorem ret_ttff {Y : Nat → Prop} {X : Nat} {w : World} {st : Cst} (h : CW Y X w st) (tid cut : Int) (h0 : 0 ≤ tid) (h1 : tid < 256) (h2 : 0 ≤ cut) (h3 : cut ≤ 1048576) (hq : (tidOf st.last == tid) = true) (hB : has st.rd tid = true) (htl : st.tl = false) (hz : (remE (nth st.rd (pos st.rd tid)) cut == 18446744073709551615) = false) :
    Calls Try.prog 67 #[.pointer (some ⟨X, 0, none⟩), .int .i64 tid, .int .i64 cut] w (RetR Y X w st tid cut) := by
  unfold RetR
  have GD := hide (h.gd.retire tid cut)
  have GU := hide h.gd.u
  have hPl := (has_pos h.gd.so hB).1
  have hl256 := srt_len h.gd.so h.gd.ro
  obtain ⟨v, h⟩ := h
  obtain ⟨oa, c, rfl⟩ := own_sl h.own
  have la := h.gd.last
  have HT := hide (Ep.tid_any st.last la.1 la.2 w)
  have x0 := cell_of h.head 0
  simp at x0
  have ES : Hid (retS st tid cut = ⟨remE st.last cut, outL st.rd (pos st.rd tid), false⟩) := by
    show retS st tid cut = ⟨remE st.last cut, outL st.rd (pos st.rd tid), false⟩
    have g1 : retL st tid cut = remE st.last cut := by simp [retL, hq]
    have g2 : retD st tid = outL st.rd (pos st.rd tid) := by simp [retD, hB]
    have g3 : retT st tid cut = false := by simp only [retT, hB, htl, hz]; rfl
    unfold retS
    rw [g1, g2, g3]
  have HR := hide (rem_any st.last cut la.1 la.2 w)
  have f0 : w.frozen? ⟨X, 0, none⟩ = false := Ba.frozen_of h.head 0
  have la2 : remE st.last cut = 0 ∨ remE st.last cut = 18446744073709551615 ∨ ownB (remE st.last cut) = true := by
    unfold remE; split
    · exact .inl rfl
    · exact .inr (.inl rfl)
  have CC := hide (h.setLast _ la2)
  have KK := hide (KY.set w h.yx 0 (.int .u64 (remE st.last cut)))
  clear h la la2
  have CC : Hid (CX Y X (w.setCell ⟨X, 0, none⟩ (.int .u64 (remE st.last cut))) ⟨remE st.last cut, st.rd, false⟩ (.slice oa st.rd.length c)) := by
    have := CC.out
    rw [htl] at this
    exact this
  go_enter Try.func67, Try.ntmps67
  go_wp2_with fail
  refine HT.out.mono ?_
  rintro r w0 ⟨rfl, e0⟩
  obtain rfl := e0.symm
  go_wp2_with fail
  refine HR.out.mono ?_
  rintro r w0 ⟨rfl, e0⟩
  obtain rfl := e0.symm
  go_wp2_with fail
  generalize w.setCell ⟨X, 0, none⟩ (.int .u64 (remE st.last cut)) = W at *
  clear x0 f0
  have FN := hide (find_any ⟨_, CC.out⟩ tid)
  rw [show (⟨remE st.last cut, st.rd, false⟩ : Cst).rd = st.rd from rfl, hB] at FN
  refine FN.out.mono ?_
  rintro r w0 ⟨rfl, e0⟩
  obtain rfl := e0.symm
  clear FN HT
  obtain ⟨P, hP⟩ : ∃ P, pos st.rd tid = P := ⟨_, rfl⟩
  simp only [hP] at ES hPl ⊢
  obtain ⟨g, rfl, d0, -⟩ := own_cell CC.out.own hPl
  have d0 : W.cell? ⟨g, P, none⟩ = some (.int .u64 (nth st.rd P)) := d0
  have hPi : (P : Int) < (st.rd.length : Int) := by omega
  have hPw : (P : Int) < 256 := by omega
  have hPx : IntKind.i64.wrap ((P : Int) + 1) = (P : Int) + 1 := by rw [IntKind.wrap_i64]; omega
  have y1 := cell_of CC.out.head 1
  have y2 := cell_of CC.out.head 2
  simp at y1 y2
  have y3 : W.frozen? ⟨X, 2, none⟩ = false := Ba.frozen_of CC.out.head 2
  have RM := hide (rem_any (nth st.rd P) cut (GU.out.nth P).1 (GU.out.nth P).2 W)
  rw [hP] at hz
  generalize remE (nth st.rd P) cut = rm at *
  go_wp2_with fail
  refine RM.out.mono ?_
  rintro r w0 ⟨rfl, e0⟩
  obtain rfl := e0.symm
  clear RM
  have CC2 := hide (CC.out.setTl false)
  have KK2 := hide (KK.out.trans (KY.set W CC.out.yx 2 (.bool false)))
  have u1 := cell_of CC2.out.head 1
  simp at u1
  have DL := hide (delete_any _ st.rd P _ CC2.out.own hPl)
  clear CC KK
  go_wp2_with fail
  generalize W.setCell ⟨X, 2, none⟩ (.bool false) = W2 at *
  refine DL.out.mono ?_
  rintro r w3 ⟨v3, rfl, o3, bk3, g3⟩
  obtain ⟨oa3, c3, rfl⟩ := own_sl o3
  have h3 : w3.heap[X]? = some (.cells #[.int .u64 (remE st.last cut), .slice (some ⟨g, 0, none⟩) st.rd.length c, .bool false] 134 (0, 0)) := (g3.block X CC2.out.lt (fun q => CC2.out.ne q.symm)).trans CC2.out.head
  have y5 := cell_of h3 1
  simp at y5
  have f5 : w3.frozen? ⟨X, 1, none⟩ = false := Ba.frozen_of h3 1
  have ne3 := CC2.out.ne
  rw [← bk3] at ne3
  rw [ES.out] at GD
  have C4 : Hid (CX Y X (w3.setCell ⟨X, 1, none⟩ (.slice oa3 (outL st.rd P).length c3)) ⟨remE st.last cut, outL st.rd P, false⟩ (.slice oa3 (outL st.rd P).length c3)) := by
    refine ⟨head_set h3, own_set1 o3 ne3, ne3, CC2.out.yx, fun g q => ?_, fun k hk => ?_, GD.out⟩
    · rw [bk3] at q; exact CC2.out.yg g q
    · rw [show (w3.setCell ⟨X, 1, none⟩ (.slice oa3 (outL st.rd P).length c3)).heap.size = w3.heap.size by simp [World.setCell]]; exact Nat.lt_of_lt_of_le (CC2.out.yl k hk) g3.size
  have K4 : Hid (KY Y w (w3.setCell ⟨X, 1, none⟩ (.slice oa3 (outL st.rd P).length c3))) := (KK2.out.trans (KY.grown g3 CC2.out.yl CC2.out.yg)).trans (KY.set _ CC2.out.yx _ _)
  clear h3 ne3 bk3 g3 o3 DL CC2 KK2 GD
  generalize hn3 : (outL st.rd P).length = n3 at *
  go_wp2_with fail
  go_ret
  rw [ES.out]
  exact ⟨rfl, ⟨_, C4.out⟩, K4.out⟩

set_option maxRecDepth 100000 in
set_option maxHeartbeats 800000 in
theorem ret_ttft {Y : Nat → Prop} {X : Nat} {w : World} {st : Cst} (h : CW Y X w st) (tid cut : Int) (h0 : 0 ≤ tid) (h1 : tid < 256) (h2 : 0 ≤ cut) (h3 : cut ≤ 1048576) (hq : (tidOf st.last == tid) = true) (hB : has st.rd tid = true) (htl : st.tl = false) (hz : (remE (nth st.rd (pos st.rd tid)) cut == 18446744073709551615) = true) :
    Calls Try.prog 67 #[.pointer (some ⟨X, 0, none⟩), .int .i64 tid, .int .i64 cut] w (RetR Y X w st tid cut) := by
  unfold RetR
  have GD := hide (h.gd.retire tid cut)
  have GU := hide h.gd.u
  have hPl := (has_pos h.gd.so hB).1
  have hl256 := srt_len h.gd.so h.gd.ro
  obtain ⟨v, h⟩ := h
  obtain ⟨oa, c, rfl⟩ := own_sl h.own
  have la := h.gd.last
  have HT := hide (Ep.tid_any st.last la.1 la.2 w)
  have x0 := cell_of h.head 0
  simp at x0
  have ES : Hid (retS st tid cut = ⟨remE st.last cut, outL st.rd (pos st.rd tid), true⟩) := by
    show retS st tid cut = ⟨remE st.last cut, outL st.rd (pos st.rd tid), true⟩
    have g1 : retL st tid cut = remE st.last cut := by simp [retL, hq]
    have g2 : retD st tid = outL st.rd (pos st.rd tid) := by simp [retD, hB]
    have g3 : retT st tid cut = true := by simp only [retT, hB, htl, hz]; rfl
    unfold retS
    rw [g1, g2, g3]
  have HR := hide (rem_any st.last cut la.1 la.2 w)
  have f0 : w.frozen? ⟨X, 0, none⟩ = false := Ba.frozen_of h.head 0
  have la2 : remE st.last cut = 0 ∨ remE st.last cut = 18446744073709551615 ∨ ownB (remE st.last cut) = true := by
    unfold remE; split
    · exact .inl rfl
    · exact .inr (.inl rfl)
  have CC := hide (h.setLast _ la2)
  have KK := hide (KY.set w h.yx 0 (.int .u64 (remE st.last cut)))
  clear h la la2
  have CC : Hid (CX Y X (w.setCell ⟨X, 0, none⟩ (.int .u64 (remE st.last cut))) ⟨remE st.last cut, st.rd, false⟩ (.slice oa st.rd.length c)) := by
    have := CC.out
    rw [htl] at this
    exact this
  go_enter Try.func67, Try.ntmps67
  go_wp2_with fail
  refine HT.out.mono ?_
  rintro r w0 ⟨rfl, e0⟩
  obtain rfl := e0.symm
  go_wp2_with fail
  refine HR.out.mono ?_
  rintro r w0 ⟨rfl, e0⟩
  obtain rfl := e0.symm
  go_wp2_with fail
  generalize w.setCell ⟨X, 0, none⟩ (.int .u64 (remE st.last cut)) = W at *
  clear x0 f0
  have FN := hide (find_any ⟨_, CC.out⟩ tid)
  rw [show (⟨remE st.last cut, st.rd, false⟩ : Cst).rd = st.rd from rfl, hB] at FN
  refine FN.out.mono ?_
  rintro r w0 ⟨rfl, e0⟩
  obtain rfl := e0.symm
  clear FN HT
  obtain ⟨P, hP⟩ : ∃ P, pos st.rd tid = P := ⟨_, rfl⟩
  simp only [hP] at ES hPl ⊢
  obtain ⟨g, rfl, d0, -⟩ := own_cell CC.out.own hPl
  have d0 : W.cell? ⟨g, P, none⟩ = some (.int .u64 (nth st.rd P)) := d0
  have hPi : (P : Int) < (st.rd.length : Int) := by omega
  have hPw : (P : Int) < 256 := by omega
  have hPx : IntKind.i64.wrap ((P : Int) + 1) = (P : Int) + 1 := by rw [IntKind.wrap_i64]; omega
  have y1 := cell_of CC.out.head 1
  have y2 := cell_of CC.out.head 2
  simp at y1 y2
  have y3 : W.frozen? ⟨X, 2, none⟩ = false := Ba.frozen_of CC.out.head 2
  have RM := hide (rem_any (nth st.rd P) cut (GU.out.nth P).1 (GU.out.nth P).2 W)
  rw [hP] at hz
  generalize remE (nth st.rd P) cut = rm at *
  go_wp2_with fail
  refine RM.out.mono ?_
  rintro r w0 ⟨rfl, e0⟩
  obtain rfl := e0.symm
  clear RM
  have CC2 := hide (CC.out.setTl true)
  have KK2 := hide (KK.out.trans (KY.set W CC.out.yx 2 (.bool true)))
  have u1 := cell_of CC2.out.head 1
  simp at u1
  have DL := hide (delete_any _ st.rd P _ CC2.out.own hPl)
  clear CC KK
  go_wp2_with fail
  generalize W.setCell ⟨X, 2, none⟩ (.bool true) = W2 at *
  refine DL.out.mono ?_
  rintro r w3 ⟨v3, rfl, o3, bk3, g3⟩
  obtain ⟨oa3, c3, rfl⟩ := own_sl o3
  have h3 : w3.heap[X]? = some (.cells #[.int .u64 (remE st.last cut), .slice (some ⟨g, 0, none⟩) st.rd.length c, .bool true] 134 (0, 0)) := (g3.block X CC2.out.lt (fun q => CC2.out.ne q.symm)).trans CC2.out.head
  have y5 := cell_of h3 1
  simp at y5
  have f5 : w3.frozen? ⟨X, 1, none⟩ = false := Ba.frozen_of h3 1
  have ne3 := CC2.out.ne
  rw [← bk3] at ne3
  rw [ES.out] at GD
  have C4 : Hid (CX Y X (w3.setCell ⟨X, 1, none⟩ (.slice oa3 (outL st.rd P).length c3)) ⟨remE st.last cut, outL st.rd P, true⟩ (.slice oa3 (outL st.rd P).length c3)) := by
    refine ⟨head_set h3, own_set1 o3 ne3, ne3, CC2.out.yx, fun g q => ?_, fun k hk => ?_, GD.out⟩
    · rw [bk3] at q; exact CC2.out.yg g q
    · rw [show (w3.setCell ⟨X, 1, none⟩ (.slice oa3 (outL st.rd P).length c3)).heap.size = w3.heap.size by simp [World.setCell]]; exact Nat.lt_of_lt_of_le (CC2.out.yl k hk) g3.size
  have K4 : Hid (KY Y w (w3.setCell ⟨X, 1, none⟩ (.slice oa3 (outL st.rd P).length c3))) := (KK2.out.trans (KY.grown g3 CC2.out.yl CC2.out.yg)).trans (KY.set _ CC2.out.yx _ _)
  clear h3 ne3 bk3 g3 o3 DL CC2 KK2 GD
  generalize hn3 : (outL st.rd P).length = n3 at *
  go_wp2_with fail
  go_ret
  rw [ES.out]
  exact ⟨rfl, ⟨_, C4.out⟩, K4.out⟩

theorem retire_ok {Y : Nat → Prop} {X : Nat} {w : World} {st : Cst} (h : CW Y X w st) (tid cut : Int) (h0 : 0 ≤ tid) (h1 : tid < 256) (h2 : 0 ≤ cut) (h3 : cut ≤ 1048576) :
    Calls Try.prog 67 #[.pointer (some ⟨X, 0, none⟩), .int .i64 tid, .int .i64 cut] w (RetR Y X w st tid cut) := by
  cases hq : (tidOf st.last == tid) <;> cases hB : has st.rd tid <;> cases htl : st.tl
  · exact ret_fff h tid cut h0 h1 h2 h3 hq hB htl
  · exact ret_fft h tid cut h0 h1 h2 h3 hq hB htl
  · cases hz : (remE (nth st.rd (pos st.rd tid)) cut == 18446744073709551615)
    · exact ret_ftff h tid cut h0 h1 h2 h3 hq hB htl hz
    · exact ret_ftft h tid cut h0 h1 h2 h3 hq hB htl hz
  · exact ret_ftt h tid cut h0 h1 h2 h3 hq hB htl
  · exact ret_tff h tid cut h0 h1 h2 h3 hq hB htl
  · exact ret_tft h tid cut h0 h1 h2 h3 hq hB htl
  · cases hz : (remE (nth st.rd (pos st.rd tid)) cut == 18446744073709551615)
    · exact ret_ttff h tid cut h0 h1 h2 h3 hq hB htl hz
    · exact ret_ttft h tid cut h0 h1 h2 h3 hq hB htl hz
  · exact ret_ttt h tid cut h0 h1 h2 h3 hq hB htl
end Ce
end Go.Proofs.Ytekdcfdjohlfcaa
