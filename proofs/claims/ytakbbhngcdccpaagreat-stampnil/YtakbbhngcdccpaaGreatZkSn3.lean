import Derived.Test.YtakbbhngcdccpaaGreatSp5
import Derived.Deep.Slices
import Derived.ShutString
import Derived.ChangeOld
/- Layer 17: the laws' own spawns(), over this seat's program. -/
namespace Go.Proofs.YtakbbhngcdccpaaGreat
open Go.ChangeShapes Go.WideShapes Go.ChangeAt Go.RowKit
namespace Sp
open Ck Wa
open En (Ev)

def e1 : Ev := ⟨1, 0, -1, -1, 1, 1, false, false⟩
def e2 : Ev := ⟨9, 1, -1, -1, 0, -1, false, false⟩
def e3 : Ev := ⟨9, 0, -1, -1, 0, -1, false, false⟩
theorem fl_of {es : List Ev} {e : Ev} (h : Gu.Chk (es ++ [e]) 0 0) : ∀ b, FlP es e b → b = true := by
  rintro b ⟨n, a, hc, rfl⟩
  obtain ⟨rfl, rfl⟩ := hc.eq h
  rfl
theorem ck1 : Gu.Chk ([] ++ [e1]) 0 0 := .inr ⟨fun j x hx => by
  have : j = 0 := by have := (List.getElem?_eq_some_iff.1 hx).1; simp at this; exact this
  subst this
  cases hx
  decide, by decide⟩
theorem ck2 : Gu.Chk ([] ++ [e1] ++ [e2]) 0 0 := .inr ⟨fun j x hx => by
  have : j = 0 ∨ j = 1 := by have := (List.getElem?_eq_some_iff.1 hx).1; simp at this; omega
  rcases this with rfl | rfl <;> cases hx <;> decide, by decide⟩
theorem ck3 : Gu.Chk ([] ++ [e1] ++ [e2] ++ [e3]) 0 0 := .inr ⟨fun j x hx => by
  have : j = 0 ∨ j = 1 ∨ j = 2 := by have := (List.getElem?_eq_some_iff.1 hx).1; simp at this; omega
  rcases this with rfl | rfl | rfl <;> cases hx <;> decide, by decide⟩
/-- what is kept from one Note to the next -/
def Yn (Y0 : Nat → Prop) (R T : Nat) : Nat → Prop := fun k => Y0 k ∨ k = R ∨ k = T
theorem NoQ.box {Y0 : Nat → Prop} {S B : Nat} {w : World} {es : List Ev} {cv mv dv : Value} {F : Int → Nat → List Int → Wst → (Nat → Option (List Int)) → Prop} {e : Ev} {r : Ending} {w' : World} {ev : Int} {R n : Nat} {l : List Int} {st' : Wst} {h' : Nat → Option (List Int)} {Y' : Nat → Prop} {ea' : Option Addr} {c' : Nat} (q : NoQ Y0 S B w es cv mv dv F e r w' ev R n l st' h' Y' ea' c') :
    ∀ k, Yn Y0 R w'.heap.size k → (Y1 Y' w'.heap.size) k ∧ k ≠ S ∧ (Value.slice ea' (es ++ [e]).length c').ownBlock ≠ some k := by
  rintro k (y | y | y)
  · exact ⟨.inl (q.y0 k y).1, (q.y0 k y).2⟩
  · subst y
    exact ⟨.inl q.yr, q.ar⟩
  · subst y
    exact ⟨.inr rfl, (by have := q.nx.lt; omega), fun z => by have := own_lt q.nx.ev z; omega⟩
def fS (c0 : Nat) : Int → Option (Nat × Nat) := upf (fun _ => none) 0 (some (0, c0))
def F1 (c0 : Nat) : Int → Nat → List Int → Wst → (Nat → Option (List Int)) → Prop := fun ev n l st' h' => ev = 4294967297 ∧ n = 1 ∧ l = [1] ∧ ∃ Ac, st' = ⟨9, 9, 2, upf (fS c0) 1 (some (1, Ac))⟩ ∧ h' c0 = some [2] ∧ h' Ac = some [1, 1]
theorem used0 (c : Nat) (t : Nat) : Used (fS c) t ↔ t = 0 := used1 c t
theorem do1 {S B c0 : Nat} {h : Nat → Option (List Int)} (hc : h c0 = some [1]) : DoQ S B ⟨9, 9, 1, fS c0⟩ h e1 (F1 c0) := by
  intro Y u s hY hS
  have hk : dgF e1.k = 28 := by decide
  rw [hk]
  refine (spawn_ok s hS hY e1 (by decide) (by decide) (by decide) 0 c0 1 1 [1] rfl rfl hc rfl (by show nth [1] 0 < ((9 : Nat) : Int); decide) (by show 1 < 9; decide) (by decide) (fun q => by have := (used0 c0 1).1 q; cases this) (fun t ht => (used0 c0 t).2 (by omega))).mono ?_
  rintro r w' ⟨R, Ac, lb, lc, h', q⟩
  have eb : lb = [2] := set_eq q.isb (by unfold Canon; decide) (fun j => by match j with | 0 => rfl | j + 1 => simp [nth])
  have ec : lc = [1, 1] := set_eq q.isc (by unfold Canon; decide) (fun j => by match j with | 0 => rfl | 1 => rfl | j + 2 => simp [nth])
  subst eb ec
  exact ⟨4294967297, R, 1, [1], _, h', q.res, q.at_, q.new, q.ww, q.kp, rfl, rfl, rfl, Ac, rfl, q.hb, q.hc⟩
def F2 (c0 Ac : Nat) : Int → Nat → List Int → Wst → (Nat → Option (List Int)) → Prop := fun ev n l st' h' => ev = 8589934593 ∧ n = 2 ∧ l = [1, 1] ∧ st' = ⟨9, 9, 2, upf (fS c0) 1 (some (1, Ac))⟩ ∧ h' c0 = some [2]
theorem do2 {S B c0 Ac : Nat} {h : Nat → Option (List Int)} (hc : h c0 = some [2]) (ha : h Ac = some [1, 1]) : DoQ S B ⟨9, 9, 2, upf (fS c0) 1 (some (1, Ac))⟩ h e2 (F2 c0 Ac) := by
  intro Y u s hY hS
  have hk : dgF e2.k = 35 := by decide
  rw [hk]
  refine (stay_some s hS hY e2 (by decide) 1 Ac 2 [1, 1] (by show upf (fS c0) 1 (some (1, Ac)) 1 = _; rw [upf_same]) ha rfl).mono ?_
  rintro r w' ⟨R, A, hA, rfl, at2, hR, s2, k2⟩
  refine ⟨8589934593, R, 2, [1, 1], _, _, rfl, at2, hR, s2, k2, rfl, rfl, rfl, rfl, ?_⟩
  rw [upd_other _ _ _ _ (fun q => by rw [← q, hc] at hA; cases hA)]
  exact hc
def F3 : Int → Nat → List Int → Wst → (Nat → Option (List Int)) → Prop := fun _ n l _ _ => n = 1 ∧ l = [2]
theorem do3 {S B c0 Ac : Nat} {h : Nat → Option (List Int)} (hc : h c0 = some [2]) : DoQ S B ⟨9, 9, 2, upf (fS c0) 1 (some (1, Ac))⟩ h e3 F3 := by
  intro Y u s hY hS
  have hk : dgF e3.k = 35 := by decide
  rw [hk]
  refine (stay_some s hS hY e3 (by decide) 0 c0 1 [2] (by show upf (fS c0) 1 (some (1, Ac)) 0 = _; rw [upf_other _ _ _ _ (by decide)]; rfl) hc rfl).mono ?_
  rintro r w' ⟨R, A, hA, rfl, at2, hR, s2, k2⟩
  exact ⟨_, R, 1, [2], _, _, rfl, at2, hR, s2, k2, rfl, rfl⟩
theorem can1 : ((!((1 : Int) == 1) || decide (1 < 9)) && decide (nth [1] 0 < ((9 : Nat) : Int))) = true := by decide
set_option maxRecDepth 100000 in
set_option maxHeartbeats 12800000 in
theorem spawns_any (w : World) : Calls Tryz.prog 10 #[] w fun r w' => r = .returned (.bool true) ∧ Below w.heap.size w w' := by
  have NW := hide (new_any 9 9 w (by decide) (by decide))
  go_enter Tryz.func10, Tryz.ntmps10
  go_wp2_with fail
  refine NW.out.mono ?_
  rintro r w1 ⟨S, M, B, c0, h, rfl, hS1, -, hM, eSM, s1, hc0, k1⟩
  have HM := hide (And.intro hM eSM)
  clear hM eSM
  have X1 : Hid (NX (Y1 (Y1 (Lw w) M) S) S B w1 ⟨9, 9, 1, fS c0⟩ h none 0 [] (.slice none 0 0) (.map (some M)) (.pointer none)) := ⟨hS1, s1, .inr rfl, World.ownsRow_nil _ _ _ _, fun g q => by simp [Value.ownBlock] at q⟩
  have N1 := hide (note_go (Y0 := Lw w) X1.out (fun k y => ⟨.inl (.inl y), (by have := HM.out.1; have := HM.out.2; unfold Lw at y; omega), fun q => by simp [Value.ownBlock] at q⟩) e1 (by decide) (fl_of ck1) (fun _ => ⟨by decide, 0, c0, [1], rfl, hc0, can1⟩) (F1 c0) (do1 hc0))
  have K1 := hide k1
  rw [show En.evv e1 = .agg #[.int .i64 1, .int .i64 0, .int .i64 (-1), .int .i64 (-1), .int .i64 1, .int .i64 1, .bool false, .bool false] from rfl] at N1
  clear hS1 s1 hc0 k1 NW
  go_wp2_with fail
  refine N1.out.mono ?_
  rintro r w2 ⟨ev, R1, n, l, st', h2, Y2, ea2, c2, q1⟩
  obtain ⟨rfl, rfl, rfl, Ac, rfl, hc2, ha2⟩ := q1.f
  obtain rfl := q1.res
  have x2 := q1.nx.box (.cells #[.int .u64 4294967297, .slice (some ⟨R1, 0, none⟩) 1 1] 29)
  have N2 := hide (note_go x2 q1.box e2 (by decide) (fl_of ck2) (fun q => by cases q) (F2 c0 Ac) (do2 hc2 ha2))
  have T2 := hide (heap_new w2 (.cells #[.int .u64 4294967297, .slice (some ⟨R1, 0, none⟩) 1 1] 29))
  have Q1 := hide q1
  have A1 := hide (q1.at_.below (below_alloc w2 (.cells #[.int .u64 4294967297, .slice (some ⟨R1, 0, none⟩) 1 1] 29)))
  have K2 := hide (K1.out.trans q1.kp)
  have k2b := hide (Kp.of (X := Lw w) (below_alloc w2 (.cells #[.int .u64 4294967297, .slice (some ⟨R1, 0, none⟩) 1 1] 29)) (fun k y => Nat.lt_of_lt_of_le y K2.out.size))
  rw [show En.evv e2 = .agg #[.int .i64 9, .int .i64 1, .int .i64 (-1), .int .i64 (-1), .int .i64 0, .int .i64 (-1), .bool false, .bool false] from rfl] at N2
  clear x2 hc2 ha2 q1 N1
  go_wp2_with fail
  generalize w2.heap.size = T3 at *
  have K2' := hide (K2.out.trans k2b.out)
  clear K2 k2b K1 X1
  generalize w2.alloc (.cells #[.int .u64 4294967297, .slice (some ⟨R1, 0, none⟩) 1 1] 29) = w3 at *
  refine N2.out.mono ?_
  rintro r w4 ⟨ev, R2, n, l, st', h4, Y4, ea4, c4, q2⟩
  obtain ⟨rfl, rfl, rfl, rfl, hc4⟩ := q2.f
  obtain rfl := q2.res
  have x4 := q2.nx.box (.cells #[.int .u64 8589934593, .slice (some ⟨R2, 0, none⟩) 2 2] 29)
  have N3 := hide (note_go x4 q2.box e3 (by decide) (fl_of ck3) (fun q => by cases q) F3 (do3 hc4))
  have b4 := below_alloc w4 (.cells #[.int .u64 8589934593, .slice (some ⟨R2, 0, none⟩) 2 2] 29)
  have T4 := hide (heap_new w4 (.cells #[.int .u64 8589934593, .slice (some ⟨R2, 0, none⟩) 2 2] 29))
  have T34 := hide (Ba.heap_below (kp_heap q2.kp T2.out (.inr (.inr rfl))) b4)
  have A14 := hide ((atK A1.out q2.kp (.inr (.inl rfl))).below b4)
  have A24 := hide (q2.at_.below b4)
  have K4 := hide ((K2'.out.trans (Kp.mono q2.kp fun k y => .inl y)).trans (Kp.of b4 (fun k y => Nat.lt_of_lt_of_le y (Nat.le_trans K2'.out.size q2.kp.size))))
  rw [show En.evv e3 = .agg #[.int .i64 9, .int .i64 0, .int .i64 (-1), .int .i64 (-1), .int .i64 0, .int .i64 (-1), .bool false, .bool false] from rfl] at N3
  clear x4 hc4 q2 N2 b4 T2 A1 K2' Q1
  go_wp2_with fail
  generalize w4.heap.size = T5 at *
  generalize w4.alloc (.cells #[.int .u64 8589934593, .slice (some ⟨R2, 0, none⟩) 2 2] 29) = w5 at *
  refine N3.out.mono ?_
  rintro r w6 ⟨ev, R3, n, l, st', h6, Y6, ea6, c6, q3⟩
  obtain ⟨rfl, rfl⟩ := q3.f
  obtain rfl := q3.res
  have b6 := below_alloc w6 (.cells #[.int .u64 ev, .slice (some ⟨R3, 0, none⟩) 1 1] 29)
  have T76 := hide (heap_new w6 (.cells #[.int .u64 ev, .slice (some ⟨R3, 0, none⟩) 1 1] 29))
  have T56 := hide (Ba.heap_below (kp_heap q3.kp T4.out (.inr (.inr rfl))) b6)
  have T36 := hide (Ba.heap_below (kp_heap q3.kp T34.out (.inl (.inr (.inr rfl)))) b6)
  have A16 := hide ((atK A14.out q3.kp (.inl (.inr (.inl rfl)))).below b6)
  have A26 := hide ((atK A24.out q3.kp (.inr (.inl rfl))).below b6)
  have A36 := hide (q3.at_.below b6)
  have K6 := hide ((K4.out.trans (Kp.mono q3.kp fun k y => .inl (.inl y))).trans (Kp.of b6 (fun k y => Nat.lt_of_lt_of_le y (Nat.le_trans K4.out.size q3.kp.size))))
  clear q3 N3 b6 T4 T34 A14 A24 K4
  have g0 : (w6.alloc (.cells #[.int .u64 ev, .slice (some ⟨R3, 0, none⟩) 1 1] 29)).cell? ⟨T3, 1, none⟩ = some (.slice (some ⟨R1, 0, none⟩) 1 1) := cell_of T36.out 1
  have I1 := hide (At.lit (w6.alloc (.cells #[.int .u64 ev, .slice (some ⟨R3, 0, none⟩) 1 1] 29)) [1] 3 #[.int .i64 1] (by rfl))
  rw [World.size_alloc] at I1
  have B7 := hide (below_alloc (w6.alloc (.cells #[.int .u64 ev, .slice (some ⟨R3, 0, none⟩) 1 1] 29)) (.cells #[.int .i64 1] 3))
  go_wp2_with fail
  refine (ints_b _ _ [1] [1] _ _ _ _ true (by decide) (by rfl) (by rfl) _ (A16.out.below B7.out) I1.out (by decide) (by decide)).mono ?_
  rintro r w7 ⟨rfl, b7⟩
  have bb := btr B7.out b7
  have K7 := hide (K6.out.trans (Kp.of bb (fun k y => Nat.lt_of_lt_of_le y K6.out.size)))
  have T57 := hide (Ba.heap_below T56.out bb)
  have T77 := hide (Ba.heap_below T76.out bb)
  have A27 := hide (A26.out.below bb)
  have A37 := hide (A36.out.below bb)
  clear bb b7 B7 I1 K6 T56 T76 A26 A36 T36 A16 g0
  generalize w6.heap.size = T7 at *
  have g1 : w7.cell? ⟨T5, 1, none⟩ = some (.slice (some ⟨R2, 0, none⟩) 2 2) := cell_of T57.out 1
  go_wp2_with fail
  refine (ints_b _ _ [1, 1] [1, 1] _ _ _ _ true (by decide) (by rfl) (by rfl) _ (A27.out.below (below_alloc _ _)) (At.lit _ _ _ _ (by rfl)) (by decide) (by decide)).mono ?_
  rintro r w8 ⟨rfl, b8⟩
  have bb := btr (below_alloc w7 (.cells #[.int .i64 1, .int .i64 1] 3)) b8
  have K8 := hide (K7.out.trans (Kp.of bb (fun k y => Nat.lt_of_lt_of_le y K7.out.size)))
  have T58 := hide (Ba.heap_below T57.out bb)
  have T78 := hide (Ba.heap_below T77.out bb)
  have A38 := hide (A37.out.below bb)
  clear bb b8 K7 T57 T77 A27 A37 g1
  have g2 : w8.cell? ⟨T7, 1, none⟩ = some (.slice (some ⟨R3, 0, none⟩) 1 1) := cell_of T78.out 1
  go_wp2_with fail
  refine (ints_b _ _ [2] [2] _ _ _ _ true (by decide) (by rfl) (by rfl) _ (A38.out.below (below_alloc _ _)) (At.lit _ _ _ _ (by rfl)) (by decide) (by decide)).mono ?_
  rintro r w9 ⟨rfl, b9⟩
  have bb := btr (below_alloc w8 (.cells #[.int .i64 2] 3)) b9
  have K9 := hide (K8.out.trans (Kp.of bb (fun k y => Nat.lt_of_lt_of_le y K8.out.size)))
  have T59 := hide (Ba.heap_below T58.out bb)
  clear bb b9 K8 T58 T78 A38 g2
  have g3 : w9.cell? ⟨T5, 0, none⟩ = some (.int .u64 8589934593) := cell_of T59.out 0
  have TD := hide (Ep.tid_any 8589934593 (by decide) (by decide) w9)
  rw [show Ep.tidOf 8589934593 = 1 by decide] at TD
  go_wp2_with fail
  refine TD.out.mono ?_
  rintro r wa ⟨rfl, ea⟩
  obtain rfl := ea.symm
  go_wp2_with fail
  go_ret
  exact ⟨rfl, Kp.lw K9.out⟩
end Sp
end Go.Proofs.YtakbbhngcdccpaaGreat
/- An event among a law's arguments, opened, over this seat's program. -/
namespace Go.Proofs.YtakbbhngcdccpaaGreat
open Go.ChangeShapes Go.WideShapes Go.ChangeAt Go.RowKit
namespace Eo
open En Ba

theorem cells_ev : Tryz.prog.cellsOf 23 = 8 := by kernel_rfl
theorem cells_bl : Tryz.prog.cellsOf 4 = 1 := by kernel_rfl
theorem fields8 : ∃ fs : Array Field, Tryz.prog.underlying 23 = some (.struct fs) ∧ fs.size = 8 ∧ (∃ f, fs[0]? = some f ∧ f.offset = 0 ∧ f.type = 3) ∧ (∃ f, fs[1]? = some f ∧ f.offset = 1 ∧ f.type = 3) ∧ (∃ f, fs[2]? = some f ∧ f.offset = 2 ∧ f.type = 3) ∧ (∃ f, fs[3]? = some f ∧ f.offset = 3 ∧ f.type = 3) ∧ (∃ f, fs[4]? = some f ∧ f.offset = 4 ∧ f.type = 3) ∧ (∃ f, fs[5]? = some f ∧ f.offset = 5 ∧ f.type = 3) ∧ (∃ f, fs[6]? = some f ∧ f.offset = 6 ∧ f.type = 4) ∧ (∃ f, fs[7]? = some f ∧ f.offset = 7 ∧ f.type = 4) :=
  ⟨_, Tryz.underlying23, rfl, ⟨_, rfl, rfl, rfl⟩, ⟨_, rfl, rfl, rfl⟩, ⟨_, rfl, rfl, rfl⟩, ⟨_, rfl, rfl, rfl⟩, ⟨_, rfl, rfl, rfl⟩, ⟨_, rfl, rfl, rfl⟩, ⟨_, rfl, rfl, rfl⟩, ⟨_, rfl, rfl, rfl⟩⟩
section
variable {H : Type} {enc : TypeId × Value → H} {w : World}
theorem ev_cells (n : Nat) (cs : List Value) (x : DataW H × List MemPlace) (h : DataW.trod enc Tryz.prog w 0 (fun _ => true) true n 23 cs = some x) : ∃ e : Ev, ∀ j, j < 8 → cs[j]? = (evc e)[j]? := by
  obtain ⟨fs, hu, hsz, F0, F1, F2, F3, F4, F5, F6, F7⟩ := fields8
  obtain ⟨xs, k, _, _, _, hxl, hff⟩ := DataW.trod_struct hu h
  rw [hsz] at hxl
  obtain ⟨f0, g0, o0, t0⟩ := F0
  have h0 := hff 0 f0 g0
  rw [o0, t0, cells_int] at h0
  obtain ⟨f1, g1, o1, t1⟩ := F1
  have h1 := hff 1 f1 g1
  rw [o1, t1, cells_int] at h1
  obtain ⟨f2, g2, o2, t2⟩ := F2
  have h2 := hff 2 f2 g2
  rw [o2, t2, cells_int] at h2
  obtain ⟨f3, g3, o3, t3⟩ := F3
  have h3 := hff 3 f3 g3
  rw [o3, t3, cells_int] at h3
  obtain ⟨f4, g4, o4, t4⟩ := F4
  have h4 := hff 4 f4 g4
  rw [o4, t4, cells_int] at h4
  obtain ⟨f5, g5, o5, t5⟩ := F5
  have h5 := hff 5 f5 g5
  rw [o5, t5, cells_int] at h5
  obtain ⟨f6, g6, o6, t6⟩ := F6
  have h6 := hff 6 f6 g6
  rw [o6, t6, cells_bl] at h6
  obtain ⟨f7, g7, o7, t7⟩ := F7
  have h7 := hff 7 f7 g7
  rw [o7, t7, cells_bl] at h7
  rw [List.getElem?_eq_getElem (by omega)] at h0 h1 h2 h3 h4 h5 h6 h7
  obtain ⟨a0, q0, _⟩ := DataW.trod_int Tryz.underlying3 h0
  obtain ⟨a1, q1, _⟩ := DataW.trod_int Tryz.underlying3 h1
  obtain ⟨a2, q2, _⟩ := DataW.trod_int Tryz.underlying3 h2
  obtain ⟨a3, q3, _⟩ := DataW.trod_int Tryz.underlying3 h3
  obtain ⟨a4, q4, _⟩ := DataW.trod_int Tryz.underlying3 h4
  obtain ⟨a5, q5, _⟩ := DataW.trod_int Tryz.underlying3 h5
  obtain ⟨a6, q6, _⟩ := DataW.trod_bool Tryz.underlying4 h6
  obtain ⟨a7, q7, _⟩ := DataW.trod_bool Tryz.underlying4 h7
  refine ⟨⟨a0, a1, a2, a3, a4, a5, a6, a7⟩, fun j hj => ?_⟩
  match j, hj with
  | 0, _ => exact one_of q0
  | 1, _ => exact one_of q1
  | 2, _ => exact one_of q2
  | 3, _ => exact one_of q3
  | 4, _ => exact one_of q4
  | 5, _ => exact one_of q5
  | 6, _ => exact one_of q6
  | 7, _ => exact one_of q7
theorem ev_open {n : Nat} {v : Value} {x : DataW H × List MemPlace} (h : DataW.trod enc Tryz.prog w 0 (fun _ => true) true n 23 v.cells.toList = some x) : ∃ e : Ev, v = evv e := by
  obtain ⟨fs, hu, hsz, _⟩ := fields8
  obtain ⟨_, _, _, _, hcl, _⟩ := DataW.trod_struct hu h
  rw [cells_ev] at hcl
  obtain ⟨e, hz⟩ := ev_cells _ _ _ h
  refine ⟨e, ?_⟩
  have hc : v.cells = evc e := by
    apply Array.toList_inj.1
    apply List.ext_getElem?
    intro j
    by_cases hj : j < 8
    · rw [hz j hj, Array.getElem?_toList]
    · rw [List.getElem?_eq_none (by omega), List.getElem?_eq_none (by show (evc e).toList.length ≤ j; simp [evc]; omega)]
  cases v with
  | agg cs => unfold evv; rw [← hc]; rfl
  | _ => have := congrArg Array.size hc; simp [Value.cells, evc] at this
end
end Eo
end Go.Proofs.YtakbbhngcdccpaaGreat
