/- Package stamp, over this seat's program: Note, where what is done leaves the channels alone. -/
import Derived.Test.YtakbbhngcdccpaaGreatZkSn2
namespace Go.Proofs.YtakbbhngcdccpaaGreat
open Go.ChangeShapes Go.WideShapes Go.ChangeAt Go.RowKit
namespace Sp
open Ck Wa
open En (Ev)

section
variable {Y Y' : Nat → Prop} {S B : Nat} {w w' : World} {st : Wst} {h : Nat → Option (List Int)} {ea : Option Addr} {c : Nat} {es : List Ev} {cv mv dv : Value}
theorem NX.below (x : NX Y S B w st h ea c es cv mv dv) (b : Below w.heap.size w w') : NX Y S B w' st h ea c es cv mv dv :=
  ⟨(b.block S x.lt).trans x.hp, x.ww.below b, x.ys, own_keep x.ev fun g q => b.block g (own_lt x.ev q), x.ye⟩
theorem NX.box (x : NX Y S B w st h ea c es cv mv dv) (o : Obj) : NX (Y1 Y w.heap.size) S B (w.alloc o) st h ea c es cv mv dv :=
  ⟨((below_alloc w o).block S x.lt).trans x.hp, boxW x.ww o, .inl x.ys, own_keep x.ev fun g q => (below_alloc w o).block g (own_lt x.ev q), fun g q => ⟨.inl (x.ye g q).1, (x.ye g q).2⟩⟩
theorem NX.grown (x : NX Y S B w st h ea c es cv mv dv) (g : w.grownBy w' (Value.slice ea es.length c).ownBlock) (o : w'.ownsRow 0 23 8 (.slice ea es.length c) es.length (ec es)) : NX Y S B w' st h ea c es cv mv dv :=
  ⟨(g.block S x.lt (fun q => (x.ye S q.symm).2 rfl)).trans x.hp, fgnW x.ww g.size (fun k hk hn => g.block k hk (fun q => hn (x.ye k q.symm).1)) (fun _ q => .inl q) (fun k q => Nat.lt_of_lt_of_le (x.ww.ylt k q) g.size), x.ys, o, x.ye⟩
/-- the blocks with those of the new list of events -/
def YB (Y : Nat → Prop) (v : Value) : Nat → Prop := fun k => Y k ∨ v.ownBlock = some k
theorem NX.noted (x : NX Y S B w st h ea c es cv mv dv) {u : World} (b : Below w.heap.size w u) {ea' : Option Addr} {c' n : Nat} {e : Ev} (hn : n = es.length) (g : u.grownBy w' (Value.slice ea n c).ownBlock) (o : w'.ownsRow 0 23 8 (.slice ea' (n + 1) c') (n + 1) (ec (es ++ [e])))
    (hat : (Value.slice ea' (n + 1) c').ownBlock = (Value.slice ea n c).ownBlock ∨ (Value.slice ea' (n + 1) c').ownBlock = some u.heap.size) : NX (YB Y (.slice ea' (n + 1) c')) S B (w'.setCell ⟨S, 1, none⟩ (.slice ea' (n + 1) c')) st h ea' c' (es ++ [e]) cv mv dv := by
  subst hn
  have hl : (es ++ [e]).length = es.length + 1 := by simp
  have hS : w'.heap[S]? = some (.cells #[.pointer (some ⟨B, 0, none⟩), .slice ea es.length c, cv, mv, dv] 49 (0, 0)) := (g.block S (Nat.lt_of_lt_of_le x.lt b.size) (fun q => (x.ye S q.symm).2 rfl)).trans ((b.block S x.lt).trans x.hp)
  have gs : ∀ k, (Value.slice ea' (es.length + 1) c').ownBlock = some k → k ≠ S := fun k q => by
    rcases hat with z | z
    · exact (x.ye k (z.symm.trans q)).2
    · rw [z] at q
      cases q
      have := x.lt
      have := b.size
      omega
  have sz : (w'.setCell ⟨S, 1, none⟩ (.slice ea' (es.length + 1) c')).heap.size = w'.heap.size := by simp [World.setCell]
  refine ⟨?_, ?_, .inl x.ys, ?_, fun k q => ⟨.inr (by rw [hl] at q; exact q), gs k (by rw [hl] at q; exact q)⟩⟩
  · rw [Ba.heap_setCell_same hS, hl]
    rfl
  · refine fgnW x.ww (by rw [sz]; exact Nat.le_trans b.size g.size) (fun k hk hn => ?_) (fun k q => ?_) (fun k q => ?_)
    · rw [Below.heap_setCell _ _ _ _ (fun q => hn (by rw [show k = S from q]; exact x.ys))]
      exact (g.block k (Nat.lt_of_lt_of_le hk b.size) (fun q => hn (x.ye k q.symm).1)).trans (b.block k hk)
    · rcases q with q | q
      · exact .inl q
      · rcases hat with z | z
        · exact .inl (x.ye k (z.symm.trans q)).1
        · rw [z] at q
          cases q
          exact .inr b.size
    · rw [sz]
      rcases q with q | q
      · exact Nat.lt_of_lt_of_le (x.ww.ylt k q) (Nat.le_trans b.size g.size)
      · exact own_lt o q
  · rw [hl]
    exact own_keep o fun k q => Below.heap_setCell _ _ _ _ (gs k q)
end
theorem dg_call (k : Int) : ∀ (args : Array Value) (w : World), (callFunc (dgF k) args).run Tryz.prog w = .ok (.enter (dgF k) args) w := by
  unfold dgF
  intro args w
  cases k == 1
  · cases k == 2
    · cases k == 3
      · cases k == 4
        · cases k == 5
          · cases k == 6
            · cases k == 7
              · exact Tryz.call35 args w
              · exact Tryz.call34 args w
            · exact Tryz.call33 args w
          · exact Tryz.call32 args w
        · exact Tryz.call31 args w
      · exact Tryz.call30 args w
    · exact Tryz.call29 args w
  · exact Tryz.call28 args w
/-- what is done at an event, the channels left alone -/
def DoQ (S B : Nat) (st : Wst) (h : Nat → Option (List Int)) (e : Ev) (F : Int → Nat → List Int → Wst → (Nat → Option (List Int)) → Prop) : Prop :=
  ∀ (Y : Nat → Prop) (u : World), WW Y B u st h → Y S → u.cell? ⟨S, 0, none⟩ = some (.pointer (some ⟨B, 0, none⟩)) → Calls Tryz.prog (dgF e.k) #[.pointer (some ⟨S, 0, none⟩), En.evv e] u fun r w' => ∃ ev R n l st' h', r = .returned (.agg #[.int .u64 ev, .slice (some ⟨R, 0, none⟩) n n]) ∧ Ck.At w' (some ⟨R, 0, none⟩) l ∧ u.heap.size ≤ R ∧ WW (Y1 Y R) B w' st' h' ∧ Kp Y u w' ∧ F ev n l st' h'
/-- Note, an event that follows -/
structure NoQ (Y0 : Nat → Prop) (S B : Nat) (w : World) (es : List Ev) (cv mv dv : Value) (F : Int → Nat → List Int → Wst → (Nat → Option (List Int)) → Prop) (e : Ev) (r : Ending) (w' : World) (ev : Int) (R n : Nat) (l : List Int) (st' : Wst) (h' : Nat → Option (List Int)) (Y' : Nat → Prop) (ea' : Option Addr) (c' : Nat) : Prop where
  res : r = .returned (.tuple #[.agg #[.int .u64 ev, .slice (some ⟨R, 0, none⟩) n n], .int .i64 0])
  at_ : Ck.At w' (some ⟨R, 0, none⟩) l
  nx : NX Y' S B w' st' h' ea' c' (es ++ [e]) cv mv dv
  yr : Y' R
  ar : R ≠ S ∧ (Value.slice ea' (es ++ [e]).length c').ownBlock ≠ some R
  y0 : ∀ k, Y0 k → Y' k ∧ k ≠ S ∧ (Value.slice ea' (es ++ [e]).length c').ownBlock ≠ some k
  new : ¬ Y0 R
  kp : Kp Y0 w w'
  f : F ev n l st' h'
theorem fin_go {Y0 Ya : Nat → Prop} {S B T R n : Nat} {w w7 w8 : World} {st st' : Wst} {h h' : Nat → Option (List Int)} {ea' : Option Addr} {c' : Nat} {es : List Ev} {cv mv dv : Value} {e : Ev} {F : Int → Nat → List Int → Wst → (Nat → Option (List Int)) → Prop} {ev : Int} {l : List Int}
    (x : NX Ya S B w7 st h ea' c' (es ++ [e]) cv mv dv) (q : ∀ k, Y0 k → Ya k ∧ k ≠ S ∧ (Value.slice ea' (es ++ [e]).length c').ownBlock ≠ some k ∧ k ≠ T) (hT : Ya T ∧ T ≠ S ∧ (Value.slice ea' (es ++ [e]).length c').ownBlock ≠ some T) (k7 : Kp Y0 w w7)
    (at8 : Ck.At w8 (some ⟨R, 0, none⟩) l) (hR8 : w7.drew.heap.size ≤ R) (s8 : WW (Y1 Ya R) B w8 st' h') (k8 : Kp Ya w7.drew w8) (f8 : F ev n l st' h') :
    NoQ Y0 S B w es cv mv dv F e (.returned (.tuple #[.agg #[.int .u64 ev, .slice (some ⟨R, 0, none⟩) n n], .int .i64 0])) ((w8.setCell ⟨T, 0, none⟩ (.int .u64 ev)).setCell ⟨T, 1, none⟩ (.slice (some ⟨R, 0, none⟩) n n)) ev R n l st' h' (Y1 Ya R) ea' c' := by
  have sd : w7.drew.heap.size = w7.heap.size := rfl
  rw [sd] at hR8
  have tl := x.ww.ylt T hT.1
  refine ⟨rfl, st2A at8 (by omega) _ _, ⟨?_, st2W s8 (.inl hT.1) _ _ (fun _ q => q), .inl x.ys, ?_, fun g y => ⟨.inl (x.ye g y).1, (x.ye g y).2⟩⟩, .inr rfl, ⟨fun q => ?_, fun q => ?_⟩, fun k y => ⟨.inl (q k y).1, (q k y).2.1, (q k y).2.2.1⟩, fun y => ?_, ?_, f8⟩
  · rw [two_oth _ _ _ _ _ (Ne.symm hT.2.1)]
    exact (k8.block S x.ys).trans x.hp
  · refine own_keep x.ev fun g y => ?_
    rw [two_oth _ _ _ _ _ (fun z => hT.2.2 (by rw [← z]; exact y))]
    exact k8.block g (x.ye g y).1
  · have := x.lt
    omega
  · have := own_lt x.ev q
    omega
  · have := x.ww.ylt R (q R y).1
    omega
  · refine st2K (k7.trans ⟨k8.os, k8.tape, k8.output, k8.size, fun j y => k8.block j (q j y).1⟩) (fun y => (q T y).2.2.2 rfl) _ _
set_option maxRecDepth 100000 in
set_option maxHeartbeats 12800000 in
theorem note_go {Y Y0 : Nat → Prop} {S B : Nat} {w : World} {st : Wst} {h : Nat → Option (List Int)} {ea : Option Addr} {c : Nat} {es : List Ev} {cv mv dv : Value} (x : NX Y S B w st h ea c es cv mv dv) (hy : ∀ k, Y0 k → Y k ∧ k ≠ S ∧ (Value.slice ea es.length c).ownBlock ≠ some k) (e : Ev) (hl : es.length < 2000) (hfo : ∀ b, FlP es e b → b = true)
    (hca : tlB e.k = true → (Lit.int .i64 e.g).wf = true ∧ ∃ t b l, st.f e.g = some (t, b) ∧ h b = some l ∧ ((!(e.k == 1) || decide (st.n < st.T)) && decide (nth l t < (st.M : Int))) = true) (F : Int → Nat → List Int → Wst → (Nat → Option (List Int)) → Prop) (DO : DoQ S B st h e F) :
    Calls Tryz.prog 4 #[.pointer (some ⟨S, 0, none⟩), En.evv e] w fun r w' => ∃ ev R n l st' h' Y' ea' c', NoQ Y0 S B w es cv mv dv F e r w' ev R n l st' h' Y' ea' c' := by
  obtain ⟨n, hn⟩ : ∃ n, n = es.length := ⟨_, rfl⟩
  have x2 := (x.box (.cells #[.int .i64 e.k, .int .i64 e.g, .int .i64 e.c, .int .i64 e.a, .int .i64 e.v, .int .i64 e.m, .bool e.s, .bool e.o] 23)).box (.cells #[.int .u64 0, .slice none 0 0] 29)
  rw [World.size_alloc] at x2
  have FO := hide (follows_any x2 e hl)
  have X2 := hide x2
  have E0 := hide (Ba.heap_below (heap_new w (.cells #[.int .i64 e.k, .int .i64 e.g, .int .i64 e.c, .int .i64 e.a, .int .i64 e.v, .int .i64 e.m, .bool e.s, .bool e.o] 23)) (below_alloc _ (.cells #[.int .u64 0, .slice none 0 0] 29)))
  have E1 := hide (heap_new (w.alloc (.cells #[.int .i64 e.k, .int .i64 e.g, .int .i64 e.c, .int .i64 e.a, .int .i64 e.v, .int .i64 e.m, .bool e.s, .bool e.o] 23)) (.cells #[.int .u64 0, .slice none 0 0] 29))
  rw [World.size_alloc] at E1
  have B2 := hide (btr (below_alloc w (.cells #[.int .i64 e.k, .int .i64 e.g, .int .i64 e.c, .int .i64 e.a, .int .i64 e.v, .int .i64 e.m, .bool e.s, .bool e.o] 23)) (below_alloc (w.alloc (.cells #[.int .i64 e.k, .int .i64 e.g, .int .i64 e.c, .int .i64 e.a, .int .i64 e.v, .int .i64 e.m, .bool e.s, .bool e.o] 23)) (.cells #[.int .u64 0, .slice none 0 0] 29)))
  have hlt := x.lt
  have LT2 : Hid (w.heap.size + 1 < ((w.alloc (.cells #[.int .i64 e.k, .int .i64 e.g, .int .i64 e.c, .int .i64 e.a, .int .i64 e.v, .int .i64 e.m, .bool e.s, .bool e.o] 23)).alloc (.cells #[.int .u64 0, .slice none 0 0] 29)).heap.size) := by show _ < _; rw [World.size_alloc, World.size_alloc]; omega
  clear x2
  have P0 := hide (And.intro x (And.intro hy (And.intro hfo (And.intro hca DO))))
  clear x hy hfo hca DO
  have EU : Hid (En.evv e = .agg #[.int .i64 e.k, .int .i64 e.g, .int .i64 e.c, .int .i64 e.a, .int .i64 e.v, .int .i64 e.m, .bool e.s, .bool e.o]) := rfl
  rw [EU.out] at FO ⊢
  have e0 : ((w.alloc (.cells #[.int .i64 e.k, .int .i64 e.g, .int .i64 e.c, .int .i64 e.a, .int .i64 e.v, .int .i64 e.m, .bool e.s, .bool e.o] 23)).alloc (.cells #[.int .u64 0, .slice none 0 0] 29)).cell? ⟨w.heap.size, 0, none⟩ = some (.int .i64 e.k) := cell_of E0.out 0
  have e1 : ((w.alloc (.cells #[.int .i64 e.k, .int .i64 e.g, .int .i64 e.c, .int .i64 e.a, .int .i64 e.v, .int .i64 e.m, .bool e.s, .bool e.o] 23)).alloc (.cells #[.int .u64 0, .slice none 0 0] 29)).cell? ⟨w.heap.size, 1, none⟩ = some (.int .i64 e.g) := cell_of E0.out 1
  have e2 : ((w.alloc (.cells #[.int .i64 e.k, .int .i64 e.g, .int .i64 e.c, .int .i64 e.a, .int .i64 e.v, .int .i64 e.m, .bool e.s, .bool e.o] 23)).alloc (.cells #[.int .u64 0, .slice none 0 0] 29)).cell? ⟨w.heap.size, 2, none⟩ = some (.int .i64 e.c) := cell_of E0.out 2
  have e3 : ((w.alloc (.cells #[.int .i64 e.k, .int .i64 e.g, .int .i64 e.c, .int .i64 e.a, .int .i64 e.v, .int .i64 e.m, .bool e.s, .bool e.o] 23)).alloc (.cells #[.int .u64 0, .slice none 0 0] 29)).cell? ⟨w.heap.size, 3, none⟩ = some (.int .i64 e.a) := cell_of E0.out 3
  have e4 : ((w.alloc (.cells #[.int .i64 e.k, .int .i64 e.g, .int .i64 e.c, .int .i64 e.a, .int .i64 e.v, .int .i64 e.m, .bool e.s, .bool e.o] 23)).alloc (.cells #[.int .u64 0, .slice none 0 0] 29)).cell? ⟨w.heap.size, 4, none⟩ = some (.int .i64 e.v) := cell_of E0.out 4
  have e5 : ((w.alloc (.cells #[.int .i64 e.k, .int .i64 e.g, .int .i64 e.c, .int .i64 e.a, .int .i64 e.v, .int .i64 e.m, .bool e.s, .bool e.o] 23)).alloc (.cells #[.int .u64 0, .slice none 0 0] 29)).cell? ⟨w.heap.size, 5, none⟩ = some (.int .i64 e.m) := cell_of E0.out 5
  have e6 : ((w.alloc (.cells #[.int .i64 e.k, .int .i64 e.g, .int .i64 e.c, .int .i64 e.a, .int .i64 e.v, .int .i64 e.m, .bool e.s, .bool e.o] 23)).alloc (.cells #[.int .u64 0, .slice none 0 0] 29)).cell? ⟨w.heap.size, 6, none⟩ = some (.bool e.s) := cell_of E0.out 6
  have e7 : ((w.alloc (.cells #[.int .i64 e.k, .int .i64 e.g, .int .i64 e.c, .int .i64 e.a, .int .i64 e.v, .int .i64 e.m, .bool e.s, .bool e.o] 23)).alloc (.cells #[.int .u64 0, .slice none 0 0] 29)).cell? ⟨w.heap.size, 7, none⟩ = some (.bool e.o) := cell_of E0.out 7
  go_enter Tryz.func4, Tryz.ntmps4
  go_wp2_with fail
  refine FO.out.mono ?_
  rintro r w3 ⟨bf, rfl, hf3, o3, g3⟩
  obtain rfl : bf = true := P0.out.2.2.1 bf hf3
  have X3 := hide (X2.out.grown g3 o3)
  have G3 := hide g3
  have E03 := (g3.block w.heap.size (by have := LT2.out; omega) (fun q => by
    have h1 := own_lt P0.out.1.ev q.symm
    omega)).trans E0.out
  have E13 := hide ((g3.block (w.heap.size + 1) LT2.out (fun q => by
    have h1 := own_lt P0.out.1.ev q.symm
    omega)).trans E1.out)
  have v0 : w3.cell? ⟨w.heap.size, 0, none⟩ = some (.int .i64 e.k) := cell_of E03 0
  have v1 : w3.cell? ⟨w.heap.size, 1, none⟩ = some (.int .i64 e.g) := cell_of E03 1
  have EE := hide E03
  clear hf3 o3 g3 E03 e0 e1 e2 e3 e4 e5 e6 e7 FO
  go_wp2_with fail
  refine (tells_any e.k w3).mono ?_
  rintro r w4 ⟨rfl, e4⟩
  obtain rfl := e4.symm
  clear e4
  cases htl : tlB e.k
  case' true =>
    obtain ⟨hg, t, b, l, hft, hbl, hcn⟩ := P0.out.2.2.2.1 htl
    have CA := hide (can_yes X3.out.ww (cell_of X3.out.hp 0) X3.out.ys e.g hg t b l hft hbl (e.k == 1))
    rw [hcn] at CA
    clear hg hft hbl hcn
    go_wp2_with fail
    refine CA.out.mono ?_
    rintro r w4 ⟨rfl, b4⟩
    have X4 := hide (X3.out.below b4)
    have G4 := hide (show ((w.alloc (.cells #[.int .i64 e.k, .int .i64 e.g, .int .i64 e.c, .int .i64 e.a, .int .i64 e.v, .int .i64 e.m, .bool e.s, .bool e.o] 23)).alloc (.cells #[.int .u64 0, .slice none 0 0] 29)).grownBy w4 (Value.slice ea es.length c).ownBlock from ⟨b4.os.trans G3.out.os, b4.tape.trans G3.out.tape, b4.output.trans G3.out.output, Nat.le_trans G3.out.size b4.size, fun k hk hne => (b4.block k (Nat.lt_of_lt_of_le hk G3.out.size)).trans (G3.out.block k hk hne)⟩)
    have E14 := hide (Ba.heap_below E13.out b4)
    have EE4 := hide (Ba.heap_below EE.out b4)
    clear X3 G3 E13 EE b4 v0 v1 CA
  case' false =>
    have X4 := X3
    have G4 := G3
    have E14 := E13
    have EE4 := EE
    clear X3 G3 E13 EE v0 v1
    generalize w3 = w4 at *
  all_goals
    have b5 := btr (below_alloc w4 (.cells #[.int .i64 e.k, .int .i64 e.g, .int .i64 e.c, .int .i64 e.a, .int .i64 e.v, .int .i64 e.m, .bool e.s, .bool e.o] 23)) (Ba.bdrew1 _)
    have o5 : ((w4.alloc (.cells #[.int .i64 e.k, .int .i64 e.g, .int .i64 e.c, .int .i64 e.a, .int .i64 e.v, .int .i64 e.m, .bool e.s, .bool e.o] 23)).drew).ownsRow 0 23 8 (.slice ea es.length c) es.length (ec es) := own_keep X4.out.ev fun g q => b5.block g (own_lt X4.out.ev q)
    obtain ⟨ea', c', w6, hr, ho, -, hg, hat⟩ := app_keep _ ea es.length c es e rfl o5 ⟨w4.heap.size, 0, none⟩ (src8 w4 e 23) (by omega)
    have X6 := hide (X4.out.noted b5 rfl hg ho hat)
    have s6 : w6.heap[S]? = some (.cells #[.pointer (some ⟨B, 0, none⟩), .slice ea es.length c, cv, mv, dv] 49 (0, 0)) := (hg.block S (Nat.lt_of_lt_of_le X4.out.lt b5.size) (fun q => (P0.out.1.ye S q.symm).2 rfl)).trans ((b5.block S X4.out.lt).trans X4.out.hp)
    have y1 : w4.cell? ⟨S, 1, none⟩ = some (.slice ea es.length c) := cell_of X4.out.hp 1
    have y6 : w6.cell? ⟨S, 1, none⟩ = some (.slice ea es.length c) := cell_of s6 1
    have f6 : w6.frozen? ⟨S, 1, none⟩ = false := frozen_of s6 1
    have v0 : w4.cell? ⟨w.heap.size, 0, none⟩ = some (.int .i64 e.k) := cell_of EE4.out 0
    have v1 : w4.cell? ⟨w.heap.size, 1, none⟩ = some (.int .i64 e.g) := cell_of EE4.out 1
    have v2 : w4.cell? ⟨w.heap.size, 2, none⟩ = some (.int .i64 e.c) := cell_of EE4.out 2
    have v3 : w4.cell? ⟨w.heap.size, 3, none⟩ = some (.int .i64 e.a) := cell_of EE4.out 3
    have v4 : w4.cell? ⟨w.heap.size, 4, none⟩ = some (.int .i64 e.v) := cell_of EE4.out 4
    have v5 : w4.cell? ⟨w.heap.size, 5, none⟩ = some (.int .i64 e.m) := cell_of EE4.out 5
    have v6 : w4.cell? ⟨w.heap.size, 6, none⟩ = some (.bool e.s) := cell_of EE4.out 6
    have v7 : w4.cell? ⟨w.heap.size, 7, none⟩ = some (.bool e.o) := cell_of EE4.out 7
    have E07 := hide (show (w6.setCell ⟨S, 1, none⟩ (.slice ea' (es.length + 1) c')).heap[w.heap.size]? = some (.cells #[.int .i64 e.k, .int .i64 e.g, .int .i64 e.c, .int .i64 e.a, .int .i64 e.v, .int .i64 e.m, .bool e.s, .bool e.o] 23 (0, 0)) from by
      rw [Below.heap_setCell _ _ _ _ (show w.heap.size ≠ S by omega)]
      exact (hg.block _ (Nat.lt_of_lt_of_le (Ba.heap_lt EE4.out) b5.size) (fun q => by have h1 := own_lt P0.out.1.ev q.symm; omega)).trans ((b5.block _ (Ba.heap_lt EE4.out)).trans EE4.out))
    have E17 := hide (show (w6.setCell ⟨S, 1, none⟩ (.slice ea' (es.length + 1) c')).heap[w.heap.size + 1]? = some (.cells #[.int .u64 0, .slice none 0 0] 29 (0, 0)) from by
      rw [Below.heap_setCell _ _ _ _ (show w.heap.size + 1 ≠ S by omega)]
      exact (hg.block _ (Nat.lt_of_lt_of_le (Ba.heap_lt E14.out) b5.size) (fun q => by have h1 := own_lt P0.out.1.ev q.symm; omega)).trans ((b5.block _ (Ba.heap_lt E14.out)).trans E14.out))
    have u0 : (w6.setCell ⟨S, 1, none⟩ (.slice ea' (es.length + 1) c')).cell? ⟨w.heap.size, 0, none⟩ = some (.int .i64 e.k) := cell_of E07.out 0
    have u1 : (w6.setCell ⟨S, 1, none⟩ (.slice ea' (es.length + 1) c')).cell? ⟨w.heap.size, 1, none⟩ = some (.int .i64 e.g) := cell_of E07.out 1
    have u2 : (w6.setCell ⟨S, 1, none⟩ (.slice ea' (es.length + 1) c')).cell? ⟨w.heap.size, 2, none⟩ = some (.int .i64 e.c) := cell_of E07.out 2
    have u3 : (w6.setCell ⟨S, 1, none⟩ (.slice ea' (es.length + 1) c')).cell? ⟨w.heap.size, 3, none⟩ = some (.int .i64 e.a) := cell_of E07.out 3
    have u4 : (w6.setCell ⟨S, 1, none⟩ (.slice ea' (es.length + 1) c')).cell? ⟨w.heap.size, 4, none⟩ = some (.int .i64 e.v) := cell_of E07.out 4
    have u5 : (w6.setCell ⟨S, 1, none⟩ (.slice ea' (es.length + 1) c')).cell? ⟨w.heap.size, 5, none⟩ = some (.int .i64 e.m) := cell_of E07.out 5
    have u6 : (w6.setCell ⟨S, 1, none⟩ (.slice ea' (es.length + 1) c')).cell? ⟨w.heap.size, 6, none⟩ = some (.bool e.s) := cell_of E07.out 6
    have u7 : (w6.setCell ⟨S, 1, none⟩ (.slice ea' (es.length + 1) c')).cell? ⟨w.heap.size, 7, none⟩ = some (.bool e.o) := cell_of E07.out 7
    have DD := hide (P0.out.2.2.2.2 _ _ (X6.out.ww.below (Ba.bdrew1 _)) X6.out.ys (cell_of ((Ba.bdrew1 _).block S X6.out.lt |>.trans X6.out.hp) 0))
    rw [EU.out] at DD
    have DG := hide (fun u => doing_any e.k u)
    have hcf := dg_call e.k
    generalize dgF e.k = fk at *
    have OB : Hid (∀ k, k ≤ w.heap.size + 1 → (Value.slice ea es.length c).ownBlock ≠ some k → (Value.slice ea' (es.length + 1) c').ownBlock ≠ some k) := fun k hk h1 q => by
      rcases hat with z | z
      · exact h1 (z.symm.trans q)
      · rw [z] at q
        cases q
        have h2 := Ba.heap_lt E14.out
        have h3 := b5.size
        omega
    have K7 : Hid (Kp Y0 w (w6.setCell ⟨S, 1, none⟩ (.slice ea' (es.length + 1) c'))) := by
      have sz : (w6.setCell ⟨S, 1, none⟩ (.slice ea' (es.length + 1) c')).heap.size = w6.heap.size := by simp [World.setCell]
      refine ⟨hg.os.trans (b5.os.trans (G4.out.os.trans B2.out.os)), hg.tape.trans (b5.tape.trans (G4.out.tape.trans B2.out.tape)), hg.output.trans (b5.output.trans (G4.out.output.trans B2.out.output)), by rw [sz]; exact Nat.le_trans B2.out.size (Nat.le_trans G4.out.size (Nat.le_trans b5.size hg.size)), fun k y => ?_⟩
      obtain ⟨y1, y2, y3⟩ := P0.out.2.1 k y
      have l1 := P0.out.1.ww.ylt k y1
      have l2 := Nat.lt_of_lt_of_le l1 B2.out.size
      have l4 := Nat.lt_of_lt_of_le l2 G4.out.size
      rw [Below.heap_setCell _ _ _ _ y2]
      exact (hg.block k (Nat.lt_of_lt_of_le l4 b5.size) (fun z => y3 z.symm)).trans ((b5.block k l4).trans ((G4.out.block k l2 (fun z => y3 z.symm)).trans (B2.out.block k l1)))
    have FIN : Hid (∀ (w8 : World) (ev : Int) (R nl : Nat) (l : List Int) (st' : Wst) (h' : Nat → Option (List Int)), _ → _ → _ → _ → _ → _) := fun w8 ev R nl l st' h' at8 hR8 s8 k8 f8 => fin_go (F := F) (ev := ev) (R := R) (n := nl) (l := l) (st' := st') (h' := h') (w8 := w8) (T := w.heap.size + 1) X6.out (fun k y => ⟨.inl (.inl (.inl (P0.out.2.1 k y).1)), (P0.out.2.1 k y).2.1, (by rw [show (es ++ [e]).length = es.length + 1 by simp]; exact OB.out k (by have := P0.out.1.ww.ylt k (P0.out.2.1 k y).1; omega) (P0.out.2.1 k y).2.2), (by have := P0.out.1.ww.ylt k (P0.out.2.1 k y).1; omega)⟩) ⟨.inl (.inr rfl), (by omega), (by rw [show (es ++ [e]).length = es.length + 1 by simp]; exact OB.out _ (Nat.le_refl _) (fun q => by have h1 := own_lt P0.out.1.ev q; omega))⟩ K7.out at8 hR8 s8 k8 f8
    have hS4 := X4.out.lt
    have hw4 := Ba.heap_lt EE4.out
    have HR := hide hr
    have G6 := hide hg
    have B5 := hide b5
    have HAT := hide hat
    clear hr ho hg hat b5 o5 s6
    rw [← hn] at *
    go_wp2_with fail
    go_region_law (refine Gu.step_append_run _ (by rfl) _ _ _ _ (by rfl) _ _ (by rfl) (by rfl) _ _ HR.out ?_)
    all_goals
      go_wp2_with fail
      generalize w6.setCell ⟨S, 1, none⟩ (.slice ea' (n + 1) c') = w7 at *
      go_region_with (first | (go_at_call 13; refine (DG.out _).mono ?_; rintro r w8 ⟨rfl, e8⟩; obtain rfl := e8.symm) | (refine DD.out.mono ?_; rintro r w8 ⟨ev, R, nl, l, st', h', rfl, at8, hR8, s8, k8, f8⟩; have r8 := kp_heap (w := w7.drew) k8 E17.out (.inl (.inr rfl)); have f0 : w8.frozen? ⟨w.heap.size + 1, 0, none⟩ = false := frozen_of r8 0; have f1 : w8.frozen? ⟨w.heap.size + 1, 1, none⟩ = false := frozen_of r8 1; have d0 : w8.cell? ⟨w.heap.size + 1, 0, none⟩ = some (.int .u64 0) := cell_of r8 0; have d1 : w8.cell? ⟨w.heap.size + 1, 1, none⟩ = some (.slice none 0 0) := cell_of r8 1; have P8 := hide (And.intro at8 (And.intro hR8 (And.intro s8 (And.intro k8 (And.intro f8 r8))))); clear at8 hR8 s8 k8 f8 r8))
      all_goals
        go_wp2_with fail
        obtain ⟨at8, hR8, s8, k8, f8, r8⟩ := P8.out
        exact bodyPost_ret (Ba.results_row2 Tryz.results4 _ _ _ _ _ rfl rfl (loadVar_stp (two_set _ _ r8 rfl) rfl)) rfl ⟨ev, R, nl, l, st', h', _, ea', c', FIN.out w8 ev R nl l st' h' at8 hR8 s8 k8 f8⟩
end Sp
end Go.Proofs.YtakbbhngcdccpaaGreat
