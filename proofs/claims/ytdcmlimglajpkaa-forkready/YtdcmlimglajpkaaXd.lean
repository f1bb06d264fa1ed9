/- Package pipe: Send, out, Recv, over this seat's program. -/
import Derived.Test.YtdcmlimglajpkaaXc
import Derived.Deep.RegionWith
namespace Go.Proofs.Ytdcmlimglajpkaa
open Go.ChangeShapes Go.WideShapes Go.ChangeAt Go.RowKit
namespace Pi
open Ba Pe

theorem size_got : (Try.prog.info? 51).map (·.size) = some 7 := by kernel_rfl
theorem loadVar_got {w : World} {b : Nat} {c : Array Value} {t : TypeId} (h : w.heap[b]? = some (.cells c t (0, 0))) (hc : c.size = 7) : (loadVar 51 ⟨b, 0, none⟩).run Try.prog w = .ok (.agg c) w :=
  run_loadVar_row w b t _ _ _ _ h Try.underlying51 rfl (by rw [size_got, hc])
theorem got_set {w : World} {b : Nat} {x0 x1 x2 x3 x4 x5 x6 : Value} {t : TypeId} (h : w.heap[b]? = some (.cells #[x0, x1, x2, x3, x4, x5, x6] t (0, 0))) (u0 u1 u2 u3 u4 u5 u6 : Value) : (((((((w.setCell ⟨b, 0, none⟩ u0).setCell ⟨b, 1, none⟩ u1).setCell ⟨b, 2, none⟩ u2).setCell ⟨b, 3, none⟩ u3).setCell ⟨b, 4, none⟩ u4).setCell ⟨b, 5, none⟩ u5).setCell ⟨b, 6, none⟩ u6).heap[b]? = some (.cells #[u0, u1, u2, u3, u4, u5, u6] t (0, 0)) := by
  rw [Ba.heap_setCell_same (Ba.heap_setCell_same (Ba.heap_setCell_same (Ba.heap_setCell_same (Ba.heap_setCell_same (Ba.heap_setCell_same (Ba.heap_setCell_same h u0) u1) u2) u3) u4) u5) u6]
  rfl
/-- the result's cells, a new block, are laid last -/
theorem fin7 {w A : World} {B Z : Nat} {F F' : Nat → Prop} {st : St} (k : KF F w A) (i : Nw F' F w) (p : Pp A B F' st) (hz : w.heap.size ≤ Z) (hn : ¬ F' Z) (u0 u1 u2 u3 u4 u5 u6 : Value) :
    KF F w (((((((A.setCell ⟨Z, 0, none⟩ u0).setCell ⟨Z, 1, none⟩ u1).setCell ⟨Z, 2, none⟩ u2).setCell ⟨Z, 3, none⟩ u3).setCell ⟨Z, 4, none⟩ u4).setCell ⟨Z, 5, none⟩ u5).setCell ⟨Z, 6, none⟩ u6) ∧ ∃ F', Nw F' F w ∧ Pp (((((((A.setCell ⟨Z, 0, none⟩ u0).setCell ⟨Z, 1, none⟩ u1).setCell ⟨Z, 2, none⟩ u2).setCell ⟨Z, 3, none⟩ u3).setCell ⟨Z, 4, none⟩ u4).setCell ⟨Z, 5, none⟩ u5).setCell ⟨Z, 6, none⟩ u6) B F' st := by
  have K := (((((((KB.refl Z A).setCell 0 u0).setCell 1 u1).setCell 2 u2).setCell 3 u3).setCell 4 u4).setCell 5 u5).setCell 6 u6
  exact ⟨((((((k.setNew hz 0 u0).setNew hz 1 u1).setNew hz 2 u2).setNew hz 3 u3).setNew hz 4 u4).setNew hz 5 u5).setNew hz 6 u6, F', i, p.sm fun x hx => K.block x (p.bd x hx) (fun e => hn (e ▸ hx))⟩

theorem send_nil (x : Int) (w : World) :
    Calls Try.prog 19 #[.pointer none, .int .i64 x] w fun r w' => r = .returned (.tuple #[gv gz, .int .i64 0]) ∧ Below w.heap.size w w' := by
  go_enter Try.func19, Try.ntmps19
  go_wp2_with fail
  first
    | exact bodyPost_ret (results_row2 Try.results19 _ _ _ _ _ rfl rfl (loadVar_got (heap_new _ _) rfl)) rfl ⟨rfl, below_alloc _ _⟩
    | exact bodyPost_ret (results_row2 Try.results19 _ _ _ _ _ rfl rfl (loadVar_got (got_set (heap_new _ _) _ _ _ _ _ _ _) rfl)) rfl ⟨rfl, (((((((below_alloc _ _).setCell (Nat.le_refl _) _).setCell (Nat.le_refl _) _).setCell (Nat.le_refl _) _).setCell (Nat.le_refl _) _).setCell (Nat.le_refl _) _).setCell (Nat.le_refl _) _).setCell (Nat.le_refl _) _⟩
set_option maxHeartbeats 3200000 in
theorem send_closed (B : Nat) (F : Nat → Prop) (st : St) (x : Int) (w : World) (h : Pp w B F st) (hc : st.closed = true) :
    Calls Try.prog 19 #[.pointer (some ⟨B, 0, none⟩), .int .i64 x] w fun r w' => r = .returned (.tuple #[gv gz, .int .i64 90]) ∧ KF F w w' ∧ ∃ F', Nw F' F w ∧ Pp w' B F' st := by
  have hB := h.lt
  have P1 := hide (h.below (below_alloc w (.cells #[.bool false, .bool false, .bool false, .int .i64 0, .int .i64 0, .int .i64 0, .int .i64 0] 51)))
  have Z1 := hide (heap_new w (.cells #[.bool false, .bool false, .bool false, .int .i64 0, .int .i64 0, .int .i64 0, .int .i64 0] 51))
  have NF : Hid (¬ F w.heap.size) := fun e => Nat.lt_irrefl _ (h.bd _ e)
  have y5 : (w.alloc (.cells #[.bool false, .bool false, .bool false, .int .i64 0, .int .i64 0, .int .i64 0, .int .i64 0] 51)).cell? ⟨B, 5, none⟩ = some (.bool true) := by
    obtain ⟨R, S, Q, FS, FQ, h'⟩ := P1.out
    have := cell_of h'.hp 5
    rw [hc] at this
    exact this
  clear h hc
  go_enter Try.func19, Try.ntmps19
  go_wp2_with fail
  first
    | exact bodyPost_ret (results_row2 Try.results19 _ _ _ _ _ rfl rfl (loadVar_got Z1.out rfl)) rfl ⟨rfl, KF.of (below_alloc _ _), F, Nw.refl _ _, P1.out⟩
    | exact bodyPost_ret (results_row2 Try.results19 _ _ _ _ _ rfl rfl (loadVar_got (got_set Z1.out _ _ _ _ _ _ _) rfl)) rfl ⟨rfl, fin7 (KF.of (below_alloc _ _)) (Nw.refl _ _) P1.out (Nat.le_refl _) NF.out _ _ _ _ _ _ _⟩
end Pi
end Go.Proofs.Ytdcmlimglajpkaa
