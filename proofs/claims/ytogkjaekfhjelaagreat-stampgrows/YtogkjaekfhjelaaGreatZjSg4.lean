import Derived.Test.YtogkjaekfhjelaaGreatZjSg3
import Derived.OwnWalk
import Derived.Deep.RegionHeld3
import Derived.Deep.AppendLies
import Derived.Deep.RegionLaw
import Derived.Deep.RegionWith
import Derived.Laws.EntriesVeiled
set_option maxHeartbeats 12800000
namespace Go.Proofs.YtogkjaekfhjelaaGreat
open Go.ChangeShapes Go.WideShapes Go.ChangeAt Go.RowKit
namespace Pi
open Ba Pe
theorem send_woke(B:Nat)(F:Nat→Prop)(st:St)(x:Int)(y:Wt)(t:List Wt)(w:World)(h:Pp w B F st)(hc:st.closed=false)(hr:st.rcv=y::t)(hs:st.sent<1000000000)(hg:st.got<1000000000):
 Calls Tryz.prog 166 #[.pointer (some ⟨B,0,none⟩),.int .i64 x] w fun r w'=>r=.returned (.tuple #[gv ⟨true,false,true,0,y⟩,.int .i64 0])∧KF F w w'∧∃F',Nw F' F w∧Pp w' B F' {st with rcv:=t,sent:=st.sent+1,got:=st.got+1}:=by
 have hB:=h.lt
 have NF:Hid (¬F w.heap.size):=fun e=>Nat.lt_irrefl _ (h.bd _ e)
 obtain⟨R,S,Q,FS,FQ,h⟩:=h
 have P1:=hide (h.below (below_alloc w (.cells #[.bool false,.bool false,.bool false,.int .i64 0,.int .i64 0,.int .i64 0,.int .i64 0] 171)))
 have Z1:=hide (heap_new w (.cells #[.bool false,.bool false,.bool false,.int .i64 0,.int .i64 0,.int .i64 0,.int .i64 0] 171))
 have y5:(w.alloc (.cells #[.bool false,.bool false,.bool false,.int .i64 0,.int .i64 0,.int .i64 0,.int .i64 0] 171)).cell? ⟨B,5,none⟩=some (.bool false):=(cell_of P1.out.hp 5).trans (by rw[hc];rfl)
 have y2:(w.alloc (.cells #[.bool false,.bool false,.bool false,.int .i64 0,.int .i64 0,.int .i64 0,.int .i64 0] 171)).cell? ⟨B,2,none⟩=some (.pointer (some ⟨Q,0,none⟩)):=cell_of P1.out.hp 2
 have TK:=hide (take_any Q FQ st.rcv _ P1.out.pq)
 have FB:=hide h.fb
 rw[hr] at TK
 have HR:=hide hr
 clear h hc hr
 unfold gv
 go_enter Tryz.func166,Tryz.ntmps166
 go_wp2_with fail
 refine TK.out.mono ?_
 rintro r w2 ⟨rfl,k2,p2⟩
 obtain⟨P2,K2,N2⟩:=P1.out.rcv k2 (Nw.refl _ _) p2
 have PP2:=hide (P2.below (below_alloc w2 (.cells #[.int .i64 y.g,.int .i64 y.c,.int .i64 y.v] 169)))
 have M3:=hide (heap_new w2 (.cells #[.int .i64 y.g,.int .i64 y.c,.int .i64 y.v] 169))
 have Z3:=hide (heap_below (k2.heap Z1.out (fun e=>NF.out (P1.out.fq _ e))) (below_alloc w2 (.cells #[.int .i64 y.g,.int .i64 y.c,.int .i64 y.v] 169)))
 have KK:=hide (((KF.of (F:=F) (below_alloc w (.cells #[.bool false,.bool false,.bool false,.int .i64 0,.int .i64 0,.int .i64 0,.int .i64 0] 171))).trans K2 (Nw.refl _ _)).then (below_alloc w2 (.cells #[.int .i64 y.g,.int .i64 y.c,.int .i64 y.v] 169)))
 have N3:Hid (Nw (fun x=>F x∨FQ x) F w):=fun k hk=>hk.elim .inl (fun q=>.inl (P1.out.fq k q))
 have NF3:Hid (¬(F w.heap.size∨FQ w.heap.size)):=fun e=>e.elim NF.out (fun q=>NF.out (P1.out.fq _ q))
 have hz2:w.heap.size<w2.heap.size:=by have:=k2.size;rw[World.size_alloc] at this;omega
 have hM1:w2.heap.size≠B:=by omega
 have hM2:w2.heap.size≠w.heap.size:=by omega
 have hM3:B≠w.heap.size:=by omega
 clear k2 p2 P2 K2 N2 TK P1 Z1 y5 y2
 unfold wv
 simp only[fw,fo,List.isEmpty_cons,Bool.not_false]
 have q0:(w2.alloc (.cells #[.int .i64 y.g,.int .i64 y.c,.int .i64 y.v] 169)).cell? ⟨w2.heap.size,0,none⟩=some (.int .i64 y.g):=cell_of M3.out 0
 have q1:(w2.alloc (.cells #[.int .i64 y.g,.int .i64 y.c,.int .i64 y.v] 169)).cell? ⟨w2.heap.size,1,none⟩=some (.int .i64 y.c):=cell_of M3.out 1
 have q2:(w2.alloc (.cells #[.int .i64 y.g,.int .i64 y.c,.int .i64 y.v] 169)).cell? ⟨w2.heap.size,2,none⟩=some (.int .i64 y.v):=cell_of M3.out 2
 have z0:(w2.alloc (.cells #[.int .i64 y.g,.int .i64 y.c,.int .i64 y.v] 169)).cell? ⟨w.heap.size,0,none⟩=some (.bool false):=cell_of Z3.out 0
 have zf0:=frozen_of Z3.out 0
 have z1:(w2.alloc (.cells #[.int .i64 y.g,.int .i64 y.c,.int .i64 y.v] 169)).cell? ⟨w.heap.size,1,none⟩=some (.bool false):=cell_of Z3.out 1
 have zf1:=frozen_of Z3.out 1
 have z2:(w2.alloc (.cells #[.int .i64 y.g,.int .i64 y.c,.int .i64 y.v] 169)).cell? ⟨w.heap.size,2,none⟩=some (.bool false):=cell_of Z3.out 2
 have zf2:=frozen_of Z3.out 2
 have z3:(w2.alloc (.cells #[.int .i64 y.g,.int .i64 y.c,.int .i64 y.v] 169)).cell? ⟨w.heap.size,3,none⟩=some (.int .i64 0):=cell_of Z3.out 3
 have zf3:=frozen_of Z3.out 3
 have z4:(w2.alloc (.cells #[.int .i64 y.g,.int .i64 y.c,.int .i64 y.v] 169)).cell? ⟨w.heap.size,4,none⟩=some (.int .i64 0):=cell_of Z3.out 4
 have zf4:=frozen_of Z3.out 4
 have z5:(w2.alloc (.cells #[.int .i64 y.g,.int .i64 y.c,.int .i64 y.v] 169)).cell? ⟨w.heap.size,5,none⟩=some (.int .i64 0):=cell_of Z3.out 5
 have zf5:=frozen_of Z3.out 5
 have z6:(w2.alloc (.cells #[.int .i64 y.g,.int .i64 y.c,.int .i64 y.v] 169)).cell? ⟨w.heap.size,6,none⟩=some (.int .i64 0):=cell_of Z3.out 6
 have zf6:=frozen_of Z3.out 6
 have p3:(w2.alloc (.cells #[.int .i64 y.g,.int .i64 y.c,.int .i64 y.v] 169)).cell? ⟨B,3,none⟩=some (.int .i64 (st.sent:Int)):=cell_of PP2.out.hp 3
 have p4:(w2.alloc (.cells #[.int .i64 y.g,.int .i64 y.c,.int .i64 y.v] 169)).cell? ⟨B,4,none⟩=some (.int .i64 (st.got:Int)):=cell_of PP2.out.hp 4
 have pf3:=frozen_of PP2.out.hp 3
 have pf4:=frozen_of PP2.out.hp 4
 go_wp2_with fail
 exact bodyPost_ret (results_row2 Tryz.results166 _ _ _ _ _ rfl rfl (loadVar_got (got_set ((Below.heap_setCell _ _ _ _ (Ne.symm hM3)).trans ((Below.heap_setCell _ _ _ _ (Ne.symm hM3)).trans Z3.out)) _ _ _ _ _ _ _) rfl)) rfl ⟨rfl,fin7 ((KK.out.set FB.out 3 _).set FB.out 4 _) N3.out ((PP2.out.setSent (st.sent+1) _ (by omega)).setGot (st.got+1) _ (by omega)).pp (Nat.le_refl _) NF3.out _ _ _ _ _ _ _⟩
theorem send_room(B:Nat)(F:Nat→Prop)(st:St)(x:Int)(w:World)(h:Pp w B F st)(hc:st.closed=false)(hr:st.rcv=[])(hl:st.buf.length<st.size)(hs:st.sent<1000000000):
 Calls Tryz.prog 166 #[.pointer (some ⟨B,0,none⟩),.int .i64 x] w fun r w'=>r=.returned (.tuple #[gv ⟨true,false,false,0,⟨0,0,0⟩⟩,.int .i64 0])∧KF F w w'∧∃F',Nw F' F w∧Pp w' B F' {st with buf:=st.buf++[x],sent:=st.sent+1}:=by
 have hB:=h.lt
 have NF:Hid (¬F w.heap.size):=fun e=>Nat.lt_irrefl _ (h.bd _ e)
 obtain⟨R,S,Q,FS,FQ,h⟩:=h
 have P1:=hide (h.below (below_alloc w (.cells #[.bool false,.bool false,.bool false,.int .i64 0,.int .i64 0,.int .i64 0,.int .i64 0] 171)))
 have Z1:=hide (heap_new w (.cells #[.bool false,.bool false,.bool false,.int .i64 0,.int .i64 0,.int .i64 0,.int .i64 0] 171))
 have y5:(w.alloc (.cells #[.bool false,.bool false,.bool false,.int .i64 0,.int .i64 0,.int .i64 0,.int .i64 0] 171)).cell? ⟨B,5,none⟩=some (.bool false):=(cell_of P1.out.hp 5).trans (by rw[hc];rfl)
 have y2:(w.alloc (.cells #[.bool false,.bool false,.bool false,.int .i64 0,.int .i64 0,.int .i64 0,.int .i64 0] 171)).cell? ⟨B,2,none⟩=some (.pointer (some ⟨Q,0,none⟩)):=cell_of P1.out.hp 2
 have TK:=hide (take_none Q _ (by have:=P1.out.pq.pw;rw[hr] at this;exact this))
 have FB:=hide h.fb
 have FR:=hide h.fr
 clear h hc hr
 unfold gv
 go_enter Tryz.func166,Tryz.ntmps166
 go_wp2_with fail
 refine TK.out.mono ?_
 rintro r w2 ⟨rfl,b2⟩
 have bb:=btr b2 (below_alloc w2 (.cells #[.int .i64 0,.int .i64 0,.int .i64 0] 169))
 have P3:=hide (P1.out.below bb)
 have Z3:=hide (heap_below Z1.out bb)
 have K3:=hide (KF.of (F:=F) (btr (below_alloc w (.cells #[.bool false,.bool false,.bool false,.int .i64 0,.int .i64 0,.int .i64 0,.int .i64 0] 171)) bb))
 have y0:(w2.alloc (.cells #[.int .i64 0,.int .i64 0,.int .i64 0] 169)).cell? ⟨B,0,none⟩=some (.pointer (some ⟨R,0,none⟩)):=cell_of P3.out.hp 0
 have PU:=hide (Rn.push_ok R st.size st.buf x _ P3.out.rg hl)
 have hM3:B≠w.heap.size:=by omega
 clear b2 bb TK P1 Z1 y5 y2
 unfold wv
 go_wp2_with fail
 generalize w2.alloc (.cells #[.int .i64 0,.int .i64 0,.int .i64 0] 169)=W3 at P3 Z3 K3 PU y0 ⊢
 refine PU.out.mono ?_
 rintro r w4 ⟨rfl,r4,k4⟩
 have P4:=hide (P3.out.ring k4 r4)
 have Z4:=hide (k4.heap Z3.out (fun e=>NF.out (e ▸ FR.out)))
 have K4:=hide (K3.out.trans (KF.kb (F:=F) k4 FR.out) (Nw.refl _ _))
 clear r4 k4 y0
 have z0:w4.cell? ⟨w.heap.size,0,none⟩=some (.bool false):=cell_of Z4.out 0
 have zf0:=frozen_of Z4.out 0
 have z1:w4.cell? ⟨w.heap.size,1,none⟩=some (.bool false):=cell_of Z4.out 1
 have zf1:=frozen_of Z4.out 1
 have z2:w4.cell? ⟨w.heap.size,2,none⟩=some (.bool false):=cell_of Z4.out 2
 have zf2:=frozen_of Z4.out 2
 have z3:w4.cell? ⟨w.heap.size,3,none⟩=some (.int .i64 0):=cell_of Z4.out 3
 have zf3:=frozen_of Z4.out 3
 have z4:w4.cell? ⟨w.heap.size,4,none⟩=some (.int .i64 0):=cell_of Z4.out 4
 have zf4:=frozen_of Z4.out 4
 have z5:w4.cell? ⟨w.heap.size,5,none⟩=some (.int .i64 0):=cell_of Z4.out 5
 have zf5:=frozen_of Z4.out 5
 have z6:w4.cell? ⟨w.heap.size,6,none⟩=some (.int .i64 0):=cell_of Z4.out 6
 have zf6:=frozen_of Z4.out 6
 have p3:w4.cell? ⟨B,3,none⟩=some (.int .i64 (st.sent:Int)):=cell_of P4.out.hp 3
 have pf3:=frozen_of P4.out.hp 3
 go_wp2_with fail
 exact bodyPost_ret (results_row2 Tryz.results166 _ _ _ _ _ rfl rfl (loadVar_got (got_set ((Below.heap_setCell _ _ _ _ (Ne.symm hM3)).trans Z4.out) _ _ _ _ _ _ _) rfl)) rfl ⟨rfl,fin7 (K4.out.set FB.out 3 _) (Nw.refl _ _) (P4.out.setSent (st.sent+1) _ (by omega)).pp (Nat.le_refl _) NF.out _ _ _ _ _ _ _⟩
theorem send_full(B:Nat)(F:Nat→Prop)(st:St)(x:Int)(w:World)(h:Pp w B F st)(hc:st.closed=false)(hr:st.rcv=[])(hl:st.buf.length=st.size):
 Calls Tryz.prog 166 #[.pointer (some ⟨B,0,none⟩),.int .i64 x] w fun r w'=>r=.returned (.tuple #[gv gz,.int .i64 0])∧KF F w w'∧∃F',Nw F' F w∧Pp w' B F' st:=by
 have hB:=h.lt
 have NF:Hid (¬F w.heap.size):=fun e=>Nat.lt_irrefl _ (h.bd _ e)
 obtain⟨R,S,Q,FS,FQ,h⟩:=h
 have P1:=hide (h.below (below_alloc w (.cells #[.bool false,.bool false,.bool false,.int .i64 0,.int .i64 0,.int .i64 0,.int .i64 0] 171)))
 have Z1:=hide (heap_new w (.cells #[.bool false,.bool false,.bool false,.int .i64 0,.int .i64 0,.int .i64 0,.int .i64 0] 171))
 have y5:(w.alloc (.cells #[.bool false,.bool false,.bool false,.int .i64 0,.int .i64 0,.int .i64 0,.int .i64 0] 171)).cell? ⟨B,5,none⟩=some (.bool false):=(cell_of P1.out.hp 5).trans (by rw[hc];rfl)
 have y2:(w.alloc (.cells #[.bool false,.bool false,.bool false,.int .i64 0,.int .i64 0,.int .i64 0,.int .i64 0] 171)).cell? ⟨B,2,none⟩=some (.pointer (some ⟨Q,0,none⟩)):=cell_of P1.out.hp 2
 have TK:=hide (take_none Q _ (by have:=P1.out.pq.pw;rw[hr] at this;exact this))
 clear h hc hr
 unfold gv gz
 go_enter Tryz.func166,Tryz.ntmps166
 go_wp2_with fail
 refine TK.out.mono ?_
 rintro r w2 ⟨rfl,b2⟩
 have bb:=btr b2 (below_alloc w2 (.cells #[.int .i64 0,.int .i64 0,.int .i64 0] 169))
 have P3:=hide (P1.out.below bb)
 have Z3:=hide (heap_below Z1.out bb)
 have K3:=hide (KF.of (F:=F) (btr (below_alloc w (.cells #[.bool false,.bool false,.bool false,.int .i64 0,.int .i64 0,.int .i64 0,.int .i64 0] 171)) bb))
 have y0:(w2.alloc (.cells #[.int .i64 0,.int .i64 0,.int .i64 0] 169)).cell? ⟨B,0,none⟩=some (.pointer (some ⟨R,0,none⟩)):=cell_of P3.out.hp 0
 have PU:=hide (Rn.push_full R st.size st.buf x _ P3.out.rg hl)
 clear b2 bb TK P1 Z1 y5 y2
 unfold wv
 go_wp2_with fail
 generalize w2.alloc (.cells #[.int .i64 0,.int .i64 0,.int .i64 0] 169)=W3 at P3 Z3 K3 PU y0 ⊢
 refine PU.out.mono ?_
 rintro r w4 ⟨rfl,rfl⟩
 have Z4:=Z3
 have z0:w4.cell? ⟨w.heap.size,0,none⟩=some (.bool false):=cell_of Z4.out 0
 have zf0:=frozen_of Z4.out 0
 have z1:w4.cell? ⟨w.heap.size,1,none⟩=some (.bool false):=cell_of Z4.out 1
 have zf1:=frozen_of Z4.out 1
 have z2:w4.cell? ⟨w.heap.size,2,none⟩=some (.bool false):=cell_of Z4.out 2
 have zf2:=frozen_of Z4.out 2
 have z3:w4.cell? ⟨w.heap.size,3,none⟩=some (.int .i64 0):=cell_of Z4.out 3
 have zf3:=frozen_of Z4.out 3
 have z4:w4.cell? ⟨w.heap.size,4,none⟩=some (.int .i64 0):=cell_of Z4.out 4
 have zf4:=frozen_of Z4.out 4
 have z5:w4.cell? ⟨w.heap.size,5,none⟩=some (.int .i64 0):=cell_of Z4.out 5
 have zf5:=frozen_of Z4.out 5
 have z6:w4.cell? ⟨w.heap.size,6,none⟩=some (.int .i64 0):=cell_of Z4.out 6
 have zf6:=frozen_of Z4.out 6
 go_wp2_with fail
 exact bodyPost_ret (results_row2 Tryz.results166 _ _ _ _ _ rfl rfl (loadVar_got (got_set Z3.out _ _ _ _ _ _ _) rfl)) rfl ⟨rfl,fin7 K3.out (Nw.refl _ _) P3.out.pp (Nat.le_refl _) NF.out _ _ _ _ _ _ _⟩
theorem send_any(B:Nat)(F:Nat→Prop)(st:St)(x:Int)(w:World)(h:Pp w B F st)(hs:st.sent<1000000000)(hg:st.got<1000000000):
 Calls Tryz.prog 166 #[.pointer (some ⟨B,0,none⟩),.int .i64 x] w fun r w'=>r=.returned (.tuple #[gv (sendG st),.int .i64 (sendE st)])∧KF F w w'∧∃F',Nw F' F w∧Pp w' B F' (sendS st x):=by
 have hle:st.buf.length≤st.size:=by
  obtain⟨R,S,Q,FS,FQ,h⟩:=h
  exact h.rg.le
 rcases Bool.eq_false_or_eq_true st.closed with hc|hc
 ·rw[show sendG st=gz by simp[sendG,hc],show sendE st=90 by simp[sendE,hc],show sendS st x=st by simp[sendS,hc]]
  exact send_closed B F st x w h hc
 ·rw[show sendE st=0 by simp[sendE,hc]]
  cases hr:st.rcv with
  |cons y t=>
   rw[show sendG st=⟨true,false,true,0,y⟩ by simp[sendG,hc,hr],show sendS st x={st with rcv:=t,sent:=st.sent+1,got:=st.got+1} by simp[sendS,hc,hr]]
   exact send_woke B F st x y t w h hc hr hs hg
  |nil=>
   by_cases hl:st.buf.length<st.size
   ·rw[show sendG st=⟨true,false,false,0,⟨0,0,0⟩⟩ by simp[sendG,hc,hr,hl],show sendS st x={st with buf:=st.buf++[x],sent:=st.sent+1} by simp[sendS,hc,hr,hl]]
    exact send_room B F st x w h hc hr hl hs
   ·rw[show sendG st=gz by simp[sendG,hc,hr,hl],show sendS st x=st by simp[sendS,hc,hr,hl]]
    exact send_full B F st x w h hc hr (by omega)
end Pi
namespace Pi
open Ba Pe
theorem out_pop(B:Nat)(F:Nat→Prop)(st:St)(y:Wt)(x:Int)(b:List Int)(w:World)(h:Pp w B F st)(hb:st.buf=x::b):
 Calls Tryz.prog 185 #[.pointer (some ⟨B,0,none⟩),wv y,.bool false] w fun r w'=>r=.returned (.int .i64 x)∧KF F w w'∧Pp w' B F {st with buf:=b}:=by
 obtain⟨R,S,Q,FS,FQ,h⟩:=h
 have BA:=hide (below_alloc w (.cells #[.int .i64 y.g,.int .i64 y.c,.int .i64 y.v] 169))
 have P1:=hide (h.below BA.out)
 have y0:(w.alloc (.cells #[.int .i64 y.g,.int .i64 y.c,.int .i64 y.v] 169)).cell? ⟨B,0,none⟩=some (.pointer (some ⟨R,0,none⟩)):=cell_of P1.out.hp 0
 have PO:=hide (Rn.pop_some R st.size x b _ (by have:=P1.out.rg;rw[hb] at this;exact this))
 clear h hb
 unfold wv
 go_enter Tryz.func185,Tryz.ntmps185
 go_wp2_with fail
 refine PO.out.mono ?_
 rintro r w2 ⟨rfl,r2,k2⟩
 have P2:=hide (P1.out.ring k2 r2)
 have K2:=hide ((KF.of (F:=F) BA.out).trans (KF.kb (F:=F) k2 P1.out.fr) (Nw.refl _ _))
 clear r2 k2
 go_wp2_with fail
 go_ret
 exact⟨rfl,K2.out,P2.out.pp⟩
theorem out_turn(B:Nat)(F:Nat→Prop)(st:St)(y:Wt)(x:Int)(b:List Int)(w:World)(h:Pp w B F st)(hb:st.buf=x::b):
 Calls Tryz.prog 185 #[.pointer (some ⟨B,0,none⟩),wv y,.bool true] w fun r w'=>r=.returned (.int .i64 x)∧KF F w w'∧Pp w' B F {st with buf:=b++[y.v]}:=by
 obtain⟨R,S,Q,FS,FQ,h⟩:=h
 have BA:=hide (below_alloc w (.cells #[.int .i64 y.g,.int .i64 y.c,.int .i64 y.v] 169))
 have P1:=hide (h.below BA.out)
 have hB:B<w.heap.size:=h.bd B h.fb
 have y0:(w.alloc (.cells #[.int .i64 y.g,.int .i64 y.c,.int .i64 y.v] 169)).cell? ⟨B,0,none⟩=some (.pointer (some ⟨R,0,none⟩)):=cell_of P1.out.hp 0
 have TN:=hide (Rn.turn_any R st.size (x::b) y.v (w.alloc (.cells #[.int .i64 y.g,.int .i64 y.c,.int .i64 y.v] 169)).drew (by have:=P1.out.rg.below (bdrew1 _);rw[hb] at this;exact this))
 clear h hb
 unfold wv
 go_enter Tryz.func185,Tryz.ntmps185
 go_wp2_with fail
 go_region_with (go_at_call 192;refine TN.out.mono ?_;rintro r w2 ⟨rfl,r2,k2⟩)
 all_goals
  have P2:=hide ((P1.out.below (bdrew1 _)).ring k2 r2)
  have K2:=hide ((KF.of (F:=F) (btr BA.out (bdrew1 _))).trans (KF.kb (F:=F) k2 P1.out.fr) (Nw.refl _ _))
  clear r2 k2
  simp only[Rn.oe,List.length_cons,Nat.add_one_ne_zero,if_false,show nth (x::b) 0=x from rfl]
  go_wp2_with fail
  go_ret
  exact⟨rfl,K2.out,P2.out.pp⟩
theorem out_none(B:Nat)(F:Nat→Prop)(st:St)(y:Wt)(w:World)(h:Pp w B F st)(hb:st.buf=[]):
 Calls Tryz.prog 185 #[.pointer (some ⟨B,0,none⟩),wv y,.bool true] w fun r w'=>r=.returned (.int .i64 y.v)∧KF F w w'∧Pp w' B F st:=by
 obtain⟨R,S,Q,FS,FQ,h⟩:=h
 have BA:=hide (below_alloc w (.cells #[.int .i64 y.g,.int .i64 y.c,.int .i64 y.v] 169))
 have P1:=hide (h.below BA.out)
 have hB:B<w.heap.size:=h.bd B h.fb
 have y0:(w.alloc (.cells #[.int .i64 y.g,.int .i64 y.c,.int .i64 y.v] 169)).cell? ⟨B,0,none⟩=some (.pointer (some ⟨R,0,none⟩)):=cell_of P1.out.hp 0
 have TN:=hide (Rn.turn_any R st.size [] y.v (w.alloc (.cells #[.int .i64 y.g,.int .i64 y.c,.int .i64 y.v] 169)).drew (by have:=P1.out.rg.below (bdrew1 _);rw[hb] at this;exact this))
 have HB:=hide hb
 have NR:Hid (w.heap.size≠R):=by have:=h.bd R h.fr;show _≠_;omega
 have M1:=hide (heap_new w (.cells #[.int .i64 y.g,.int .i64 y.c,.int .i64 y.v] 169))
 clear h hb
 unfold wv
 go_enter Tryz.func185,Tryz.ntmps185
 go_wp2_with fail
 go_region_with (go_at_call 192;refine TN.out.mono ?_;rintro r w2 ⟨rfl,r2,k2⟩;have m2:=(cell_of (k2.heap (heap_below M1.out (bdrew1 _)) NR.out) 2).trans (show _=some (.int .i64 y.v) from rfl))
 all_goals
  have P2:Hid (Pp w2 B F st):=by
   have:=((P1.out.below (bdrew1 _)).ring k2 r2).pp
   rw[show Rn.tl [] y.v=[] from rfl,←HB.out] at this
   exact this
  have K2:=hide ((KF.of (F:=F) (btr BA.out (bdrew1 _))).trans (KF.kb (F:=F) k2 P1.out.fr) (Nw.refl _ _))
  clear r2 k2
  simp only[Rn.oe,List.length_nil,if_true]
  go_wp2_with fail
  go_ret
  exact⟨rfl,K2.out,P2.out⟩
end Pi
namespace Pi
open Ba Pe
theorem results_row1{fn:Func}{p:Tmp}{ty:TypeId}(h:fn.results=#[.cell p ty])(tmps:Array Value)(w:World)(g:Nat)(cs:Array Value)
 (hp:tmps.getD p undef=.pointer (some ⟨g,0,none⟩)) (hl:(loadVar ty ⟨g,0,none⟩).run Tryz.prog w=.ok (.agg cs) w):
 (results fn tmps).run Tryz.prog w=.ok (.agg cs) w:=by
 have hp':tmps[p]?.getD undef=.pointer (some ⟨g,0,none⟩):=by simpa using hp
 simp[results,h,hp',asAddr,hl]
theorem recv_nil(w:World):
 Calls Tryz.prog 167 #[.pointer none] w fun r w'=>r=.returned (gv gz)∧Below w.heap.size w w':=by
 go_enter Tryz.func167,Tryz.ntmps167
 go_wp2_with fail
 first
  |exact bodyPost_ret (results_row1 Tryz.results167 _ _ _ _ rfl (loadVar_got (heap_new _ _) rfl)) rfl ⟨rfl,below_alloc _ _⟩
  |exact bodyPost_ret (results_row1 Tryz.results167 _ _ _ _ rfl (loadVar_got (got_set (heap_new _ _) _ _ _ _ _ _ _) rfl)) rfl ⟨rfl,(((((((below_alloc _ _).setCell (Nat.le_refl _) _).setCell (Nat.le_refl _) _).setCell (Nat.le_refl _) _).setCell (Nat.le_refl _) _).setCell (Nat.le_refl _) _).setCell (Nat.le_refl _) _).setCell (Nat.le_refl _) _⟩
theorem recv_none(B:Nat)(F:Nat→Prop)(st:St)(w:World)(h:Pp w B F st)(hb:st.buf=[])(hs:st.snd=[]):
 Calls Tryz.prog 167 #[.pointer (some ⟨B,0,none⟩)] w fun r w'=>r=.returned (gv ⟨st.closed,false,false,0,⟨0,0,0⟩⟩)∧KF F w w'∧∃F',Nw F' F w∧Pp w' B F' st:=by
 have hB:=h.lt
 have NF:Hid (¬F w.heap.size):=fun e=>Nat.lt_irrefl _ (h.bd _ e)
 obtain⟨R,S,Q,FS,FQ,h⟩:=h
 have P1:=hide (h.below (below_alloc w (.cells #[.bool false,.bool false,.bool false,.int .i64 0,.int .i64 0,.int .i64 0,.int .i64 0] 171)))
 have Z1:=hide (heap_new w (.cells #[.bool false,.bool false,.bool false,.int .i64 0,.int .i64 0,.int .i64 0,.int .i64 0] 171))
 have y0:(w.alloc (.cells #[.bool false,.bool false,.bool false,.int .i64 0,.int .i64 0,.int .i64 0,.int .i64 0] 171)).cell? ⟨B,0,none⟩=some (.pointer (some ⟨R,0,none⟩)):=cell_of P1.out.hp 0
 have y1:(w.alloc (.cells #[.bool false,.bool false,.bool false,.int .i64 0,.int .i64 0,.int .i64 0,.int .i64 0] 171)).cell? ⟨B,1,none⟩=some (.pointer (some ⟨S,0,none⟩)):=cell_of P1.out.hp 1
 have y5:(w.alloc (.cells #[.bool false,.bool false,.bool false,.int .i64 0,.int .i64 0,.int .i64 0,.int .i64 0] 171)).cell? ⟨B,5,none⟩=some (.bool st.closed):=cell_of P1.out.hp 5
 have LR:=hide (Rn.len_any R st.size [] _ (by have:=P1.out.rg;rw[hb] at this;exact this))
 have LS:=hide (Pe.len_any S [] _ (by have:=P1.out.ps.pw;rw[hs] at this;exact this))
 have H:=hide h
 clear h hb hs
 unfold gv
 go_enter Tryz.func167,Tryz.ntmps167
 go_wp2_with fail
 refine LR.out.mono ?_
 rintro r w2 ⟨rfl,rfl⟩
 go_wp2_with fail
 refine LS.out.mono ?_
 rintro r w2 ⟨rfl,rfl⟩
 go_wp2_with fail
 first
  |exact bodyPost_ret (results_row1 Tryz.results167 _ _ _ _ rfl (loadVar_got (heap_new _ _) rfl)) rfl ⟨rfl,KF.of (below_alloc _ _),F,Nw.refl _ _,(H.out.below (below_alloc _ _)).pp⟩
  |exact bodyPost_ret (results_row1 Tryz.results167 _ _ _ _ rfl (loadVar_got (got_set Z1.out _ _ _ _ _ _ _) rfl)) rfl ⟨rfl,fin7 (KF.of (below_alloc _ _)) (Nw.refl _ _) P1.out.pp (Nat.le_refl _) NF.out _ _ _ _ _ _ _⟩
set_option maxRecDepth 100000 in
theorem recv_buf(B:Nat)(F:Nat→Prop)(st:St)(x:Int)(b:List Int)(w:World)(h:Pp w B F st)(hb:st.buf=x::b)(hs:st.snd=[])(hg:st.got<1000000000):
 Calls Tryz.prog 167 #[.pointer (some ⟨B,0,none⟩)] w fun r w'=>r=.returned (gv ⟨true,true,false,x,⟨0,0,0⟩⟩)∧KF F w w'∧∃F',Nw F' F w∧Pp w' B F' {st with buf:=b,got:=st.got+1}:=by
 have hB:=h.lt
 have NF:Hid (¬F w.heap.size):=fun e=>Nat.lt_irrefl _ (h.bd _ e)
 obtain⟨R,S,Q,FS,FQ,h⟩:=h
 have P1:=hide (h.below (below_alloc w (.cells #[.bool false,.bool false,.bool false,.int .i64 0,.int .i64 0,.int .i64 0,.int .i64 0] 171)))
 have Z1:=hide (heap_new w (.cells #[.bool false,.bool false,.bool false,.int .i64 0,.int .i64 0,.int .i64 0,.int .i64 0] 171))
 have y0:(w.alloc (.cells #[.bool false,.bool false,.bool false,.int .i64 0,.int .i64 0,.int .i64 0,.int .i64 0] 171)).cell? ⟨B,0,none⟩=some (.pointer (some ⟨R,0,none⟩)):=cell_of P1.out.hp 0
 have y1:(w.alloc (.cells #[.bool false,.bool false,.bool false,.int .i64 0,.int .i64 0,.int .i64 0,.int .i64 0] 171)).cell? ⟨B,1,none⟩=some (.pointer (some ⟨S,0,none⟩)):=cell_of P1.out.hp 1
 have LR:=hide (Rn.len_any R st.size (x::b) _ (by have:=P1.out.rg;rw[hb] at this;exact this))
 have TK:=hide (take_any S FS ([]) _ (by have:=P1.out.ps;rw[hs] at this;exact this))
 have FB:=hide h.fb
 have HB:=hide hb
 have HS:=hide hs
 clear h hb hs
 unfold gv
 have hlen:(((x::b).length:Int)==0)=false:=by rw[beq_eq_false_iff_ne,List.length_cons];omega
 generalize hN:(x::b).length=N at LR hlen
 clear hN
 go_enter Tryz.func167,Tryz.ntmps167
 go_wp2_with fail
 refine LR.out.mono ?_
 rintro r w1 ⟨rfl,rfl⟩
 go_wp2_with fail
 refine TK.out.mono ?_
 rintro r w2 ⟨rfl,k2,p2⟩
 obtain⟨P2,K2,N2⟩:=P1.out.snd k2 (Nw.refl _ _) p2
 have P3:=hide (P2.below (below_alloc w2 (.cells #[.int .i64 (⟨0,0,0⟩:Wt).g,.int .i64 (⟨0,0,0⟩:Wt).c,.int .i64 (⟨0,0,0⟩:Wt).v] 169)))
 have M3:=hide (heap_new w2 (.cells #[.int .i64 (⟨0,0,0⟩:Wt).g,.int .i64 (⟨0,0,0⟩:Wt).c,.int .i64 (⟨0,0,0⟩:Wt).v] 169))
 have Z3:=hide (heap_below (k2.heap Z1.out (fun e=>NF.out (P1.out.fs _ e))) (below_alloc w2 (.cells #[.int .i64 (⟨0,0,0⟩:Wt).g,.int .i64 (⟨0,0,0⟩:Wt).c,.int .i64 (⟨0,0,0⟩:Wt).v] 169)))
 have K3:=hide (((KF.of (F:=F) (below_alloc w (.cells #[.bool false,.bool false,.bool false,.int .i64 0,.int .i64 0,.int .i64 0,.int .i64 0] 171))).trans K2 (Nw.refl _ _)).then (below_alloc w2 (.cells #[.int .i64 (⟨0,0,0⟩:Wt).g,.int .i64 (⟨0,0,0⟩:Wt).c,.int .i64 (⟨0,0,0⟩:Wt).v] 169)))
 have N3:Hid (Nw (fun x=>F x∨FS x) F w):=fun k hk=>hk.elim .inl (fun q=>.inl (P1.out.fs k q))
 have NF3:Hid (¬(F w.heap.size∨FS w.heap.size)):=fun e=>e.elim NF.out (fun q=>NF.out (P1.out.fs _ q))
 have NM3:Hid (¬(F w2.heap.size∨FS w2.heap.size)):=fun e=>Nat.lt_irrefl _ (P2.bd _ e)
 have hz2:w.heap.size<w2.heap.size:=by have:=k2.size;rw[World.size_alloc] at this;omega
 have hM1:w2.heap.size≠B:=by omega
 have hM2:w2.heap.size≠w.heap.size:=by omega
 have hM3:B≠w.heap.size:=by omega
 clear k2 p2 P2 K2 N2 TK P1 Z1 y0 y1
 unfold wv
 simp only[fw,fo,List.isEmpty_nil,Bool.not_true]
 have p3:(w2.alloc (.cells #[.int .i64 (⟨0,0,0⟩:Wt).g,.int .i64 (⟨0,0,0⟩:Wt).c,.int .i64 (⟨0,0,0⟩:Wt).v] 169)).cell? ⟨B,3,none⟩=some (.int .i64 (st.sent:Int)):=cell_of P3.out.hp 3
 have p4:(w2.alloc (.cells #[.int .i64 (⟨0,0,0⟩:Wt).g,.int .i64 (⟨0,0,0⟩:Wt).c,.int .i64 (⟨0,0,0⟩:Wt).v] 169)).cell? ⟨B,4,none⟩=some (.int .i64 (st.got:Int)):=cell_of P3.out.hp 4
 have pf3:=frozen_of P3.out.hp 3
 have pf4:=frozen_of P3.out.hp 4
 have P4:=hide (P3.out.setGot (st.got+1) ((st.got:Int)+1) (by omega))
 have M4:=hide ((Below.heap_setCell (w2.alloc (.cells #[.int .i64 (⟨0,0,0⟩:Wt).g,.int .i64 (⟨0,0,0⟩:Wt).c,.int .i64 (⟨0,0,0⟩:Wt).v] 169)) ⟨B,4,none⟩ (.int .i64 ((st.got:Int)+1)) _ hM1).trans M3.out)
 have Z4:=hide ((Below.heap_setCell (w2.alloc (.cells #[.int .i64 (⟨0,0,0⟩:Wt).g,.int .i64 (⟨0,0,0⟩:Wt).c,.int .i64 (⟨0,0,0⟩:Wt).v] 169)) ⟨B,4,none⟩ (.int .i64 ((st.got:Int)+1)) _ (Ne.symm hM3)).trans Z3.out)
 have K4:=hide (K3.out.set FB.out 4 (.int .i64 ((st.got:Int)+1)))
 go_wp2_with fail
 generalize (w2.alloc (.cells #[.int .i64 (⟨0,0,0⟩:Wt).g,.int .i64 (⟨0,0,0⟩:Wt).c,.int .i64 (⟨0,0,0⟩:Wt).v] 169)).setCell ⟨B,4,none⟩ (.int .i64 ((st.got:Int)+1))=W4 at P4 M4 Z4 K4 ⊢
 generalize w2.heap.size=M at M4 NM3 hM1 hM2 ⊢
 clear p3 p4 pf3 pf4 P3 M3 Z3 K3
 have m0:W4.cell? ⟨M,0,none⟩=some (.int .i64 (⟨0,0,0⟩:Wt).g):=cell_of M4.out 0
 have m1:W4.cell? ⟨M,1,none⟩=some (.int .i64 (⟨0,0,0⟩:Wt).c):=cell_of M4.out 1
 have m2:W4.cell? ⟨M,2,none⟩=some (.int .i64 (⟨0,0,0⟩:Wt).v):=cell_of M4.out 2
 have OU:=hide (out_pop B _ _ ⟨0,0,0⟩ x b W4.drew (P4.out.below (bdrew1 _)).pp HB.out)
 unfold wv at OU
 go_region_with (go_at_call 185;refine OU.out.mono ?_;rintro r w5 ⟨rfl,k5,p5⟩;have M5:=hide (k5.heap (heap_below M4.out (bdrew1 _)) NM3.out);have Z5:=hide (k5.heap (heap_below Z4.out (bdrew1 _)) NF3.out);have n0:=(cell_of M5.out 0).trans (show _=some (.int .i64 (⟨0,0,0⟩:Wt).g) from rfl);have n1:=(cell_of M5.out 1).trans (show _=some (.int .i64 (⟨0,0,0⟩:Wt).c) from rfl);have n2:=(cell_of M5.out 2).trans (show _=some (.int .i64 (⟨0,0,0⟩:Wt).v) from rfl);have z0:=(cell_of Z5.out 0).trans (show _=some (Value.bool false) from rfl);have zf0:=frozen_of Z5.out 0;have z1:=(cell_of Z5.out 1).trans (show _=some (Value.bool false) from rfl);have zf1:=frozen_of Z5.out 1;have z2:=(cell_of Z5.out 2).trans (show _=some (Value.bool false) from rfl);have zf2:=frozen_of Z5.out 2;have z3:=(cell_of Z5.out 3).trans (show _=some (.int .i64 0) from rfl);have zf3:=frozen_of Z5.out 3;have z4:=(cell_of Z5.out 4).trans (show _=some (.int .i64 0) from rfl);have zf4:=frozen_of Z5.out 4;have z5:=(cell_of Z5.out 5).trans (show _=some (.int .i64 0) from rfl);have zf5:=frozen_of Z5.out 5;have z6:=(cell_of Z5.out 6).trans (show _=some (.int .i64 0) from rfl);have zf6:=frozen_of Z5.out 6)
 all_goals
  go_wp2_with fail
  exact bodyPost_ret (results_row1 Tryz.results167 _ _ _ _ rfl (loadVar_got (got_set Z5.out _ _ _ _ _ _ _) rfl)) rfl ⟨rfl,fin7 ((K4.out.then (bdrew1 _)).trans k5 N3.out) N3.out (by have q:=p5;rw[show ([]:List Wt).tail=st.snd by rw[HS.out];rfl] at q;exact q) (Nat.le_refl _) NF3.out _ _ _ _ _ _ _⟩
set_option maxRecDepth 100000 in
theorem recv_both(B:Nat)(F:Nat→Prop)(st:St)(x:Int)(b:List Int)(y:Wt)(t:List Wt)(w:World)(h:Pp w B F st)(hb:st.buf=x::b)(hs:st.snd=y::t)(hn:st.sent<1000000000)(hg:st.got<1000000000):
 Calls Tryz.prog 167 #[.pointer (some ⟨B,0,none⟩)] w fun r w'=>r=.returned (gv ⟨true,true,true,x,y⟩)∧KF F w w'∧∃F',Nw F' F w∧Pp w' B F' {st with buf:=b++[y.v],snd:=t,sent:=st.sent+1,got:=st.got+1}:=by
 have hB:=h.lt
 have NF:Hid (¬F w.heap.size):=fun e=>Nat.lt_irrefl _ (h.bd _ e)
 obtain⟨R,S,Q,FS,FQ,h⟩:=h
 have P1:=hide (h.below (below_alloc w (.cells #[.bool false,.bool false,.bool false,.int .i64 0,.int .i64 0,.int .i64 0,.int .i64 0] 171)))
 have Z1:=hide (heap_new w (.cells #[.bool false,.bool false,.bool false,.int .i64 0,.int .i64 0,.int .i64 0,.int .i64 0] 171))
 have y0:(w.alloc (.cells #[.bool false,.bool false,.bool false,.int .i64 0,.int .i64 0,.int .i64 0,.int .i64 0] 171)).cell? ⟨B,0,none⟩=some (.pointer (some ⟨R,0,none⟩)):=cell_of P1.out.hp 0
 have y1:(w.alloc (.cells #[.bool false,.bool false,.bool false,.int .i64 0,.int .i64 0,.int .i64 0,.int .i64 0] 171)).cell? ⟨B,1,none⟩=some (.pointer (some ⟨S,0,none⟩)):=cell_of P1.out.hp 1
 have LR:=hide (Rn.len_any R st.size (x::b) _ (by have:=P1.out.rg;rw[hb] at this;exact this))
 have TK:=hide (take_any S FS (y::t) _ (by have:=P1.out.ps;rw[hs] at this;exact this))
 have FB:=hide h.fb
 have HB:=hide hb
 clear h hb hs
 unfold gv
 have hlen:(((x::b).length:Int)==0)=false:=by rw[beq_eq_false_iff_ne,List.length_cons];omega
 generalize hN:(x::b).length=N at LR hlen
 clear hN
 go_enter Tryz.func167,Tryz.ntmps167
 go_wp2_with fail
 refine LR.out.mono ?_
 rintro r w1 ⟨rfl,rfl⟩
 go_wp2_with fail
 refine TK.out.mono ?_
 rintro r w2 ⟨rfl,k2,p2⟩
 obtain⟨P2,K2,N2⟩:=P1.out.snd k2 (Nw.refl _ _) p2
 have P3:=hide (P2.below (below_alloc w2 (.cells #[.int .i64 y.g,.int .i64 y.c,.int .i64 y.v] 169)))
 have M3:=hide (heap_new w2 (.cells #[.int .i64 y.g,.int .i64 y.c,.int .i64 y.v] 169))
 have Z3:=hide (heap_below (k2.heap Z1.out (fun e=>NF.out (P1.out.fs _ e))) (below_alloc w2 (.cells #[.int .i64 y.g,.int .i64 y.c,.int .i64 y.v] 169)))
 have K3:=hide (((KF.of (F:=F) (below_alloc w (.cells #[.bool false,.bool false,.bool false,.int .i64 0,.int .i64 0,.int .i64 0,.int .i64 0] 171))).trans K2 (Nw.refl _ _)).then (below_alloc w2 (.cells #[.int .i64 y.g,.int .i64 y.c,.int .i64 y.v] 169)))
 have N3:Hid (Nw (fun x=>F x∨FS x) F w):=fun k hk=>hk.elim .inl (fun q=>.inl (P1.out.fs k q))
 have NF3:Hid (¬(F w.heap.size∨FS w.heap.size)):=fun e=>e.elim NF.out (fun q=>NF.out (P1.out.fs _ q))
 have NM3:Hid (¬(F w2.heap.size∨FS w2.heap.size)):=fun e=>Nat.lt_irrefl _ (P2.bd _ e)
 have hz2:w.heap.size<w2.heap.size:=by have:=k2.size;rw[World.size_alloc] at this;omega
 have hM1:w2.heap.size≠B:=by omega
 have hM2:w2.heap.size≠w.heap.size:=by omega
 have hM3:B≠w.heap.size:=by omega
 clear k2 p2 P2 K2 N2 TK P1 Z1 y0 y1
 unfold wv
 simp only[fw,fo,List.isEmpty_cons,Bool.not_false]
 have p3:(w2.alloc (.cells #[.int .i64 y.g,.int .i64 y.c,.int .i64 y.v] 169)).cell? ⟨B,3,none⟩=some (.int .i64 (st.sent:Int)):=cell_of P3.out.hp 3
 have p4:(w2.alloc (.cells #[.int .i64 y.g,.int .i64 y.c,.int .i64 y.v] 169)).cell? ⟨B,4,none⟩=some (.int .i64 (st.got:Int)):=cell_of P3.out.hp 4
 have pf3:=frozen_of P3.out.hp 3
 have pf4:=frozen_of P3.out.hp 4
 have P4:=hide ((P3.out.setSent (st.sent+1) ((st.sent:Int)+1) (by omega)).setGot (st.got+1) ((st.got:Int)+1) (by omega))
 have M4:=hide ((Below.heap_setCell ((w2.alloc (.cells #[.int .i64 y.g,.int .i64 y.c,.int .i64 y.v] 169)).setCell ⟨B,3,none⟩ (.int .i64 ((st.sent:Int)+1))) ⟨B,4,none⟩ (.int .i64 ((st.got:Int)+1)) _ hM1).trans ((Below.heap_setCell (w2.alloc (.cells #[.int .i64 y.g,.int .i64 y.c,.int .i64 y.v] 169)) ⟨B,3,none⟩ (.int .i64 ((st.sent:Int)+1)) _ hM1).trans M3.out))
 have Z4:=hide ((Below.heap_setCell ((w2.alloc (.cells #[.int .i64 y.g,.int .i64 y.c,.int .i64 y.v] 169)).setCell ⟨B,3,none⟩ (.int .i64 ((st.sent:Int)+1))) ⟨B,4,none⟩ (.int .i64 ((st.got:Int)+1)) _ (Ne.symm hM3)).trans ((Below.heap_setCell (w2.alloc (.cells #[.int .i64 y.g,.int .i64 y.c,.int .i64 y.v] 169)) ⟨B,3,none⟩ (.int .i64 ((st.sent:Int)+1)) _ (Ne.symm hM3)).trans Z3.out))
 have K4:=hide ((K3.out.set FB.out 3 (.int .i64 ((st.sent:Int)+1))).set FB.out 4 (.int .i64 ((st.got:Int)+1)))
 go_wp2_with fail
 generalize ((w2.alloc (.cells #[.int .i64 y.g,.int .i64 y.c,.int .i64 y.v] 169)).setCell ⟨B,3,none⟩ (.int .i64 ((st.sent:Int)+1))).setCell ⟨B,4,none⟩ (.int .i64 ((st.got:Int)+1))=W4 at P4 M4 Z4 K4 ⊢
 generalize w2.heap.size=M at M4 NM3 hM1 hM2 ⊢
 clear p3 p4 pf3 pf4 P3 M3 Z3 K3
 have m0:W4.cell? ⟨M,0,none⟩=some (.int .i64 y.g):=cell_of M4.out 0
 have m1:W4.cell? ⟨M,1,none⟩=some (.int .i64 y.c):=cell_of M4.out 1
 have m2:W4.cell? ⟨M,2,none⟩=some (.int .i64 y.v):=cell_of M4.out 2
 have OU:=hide (out_turn B _ _ y x b W4.drew (P4.out.below (bdrew1 _)).pp HB.out)
 unfold wv at OU
 go_region_with (go_at_call 185;refine OU.out.mono ?_;rintro r w5 ⟨rfl,k5,p5⟩;have M5:=hide (k5.heap (heap_below M4.out (bdrew1 _)) NM3.out);have Z5:=hide (k5.heap (heap_below Z4.out (bdrew1 _)) NF3.out);have n0:=(cell_of M5.out 0).trans (show _=some (.int .i64 y.g) from rfl);have n1:=(cell_of M5.out 1).trans (show _=some (.int .i64 y.c) from rfl);have n2:=(cell_of M5.out 2).trans (show _=some (.int .i64 y.v) from rfl);have z0:=(cell_of Z5.out 0).trans (show _=some (Value.bool false) from rfl);have zf0:=frozen_of Z5.out 0;have z1:=(cell_of Z5.out 1).trans (show _=some (Value.bool false) from rfl);have zf1:=frozen_of Z5.out 1;have z2:=(cell_of Z5.out 2).trans (show _=some (Value.bool false) from rfl);have zf2:=frozen_of Z5.out 2;have z3:=(cell_of Z5.out 3).trans (show _=some (.int .i64 0) from rfl);have zf3:=frozen_of Z5.out 3;have z4:=(cell_of Z5.out 4).trans (show _=some (.int .i64 0) from rfl);have zf4:=frozen_of Z5.out 4;have z5:=(cell_of Z5.out 5).trans (show _=some (.int .i64 0) from rfl);have zf5:=frozen_of Z5.out 5;have z6:=(cell_of Z5.out 6).trans (show _=some (.int .i64 0) from rfl);have zf6:=frozen_of Z5.out 6)
 all_goals
  go_wp2_with fail
  exact bodyPost_ret (results_row1 Tryz.results167 _ _ _ _ rfl (loadVar_got (got_set Z5.out _ _ _ _ _ _ _) rfl)) rfl ⟨rfl,fin7 ((K4.out.then (bdrew1 _)).trans k5 N3.out) N3.out p5 (Nat.le_refl _) NF3.out _ _ _ _ _ _ _⟩
set_option maxRecDepth 100000 in
theorem recv_snd(B:Nat)(F:Nat→Prop)(st:St)(y:Wt)(t:List Wt)(w:World)(h:Pp w B F st)(hb:st.buf=[])(hs:st.snd=y::t)(hn:st.sent<1000000000)(hg:st.got<1000000000):
 Calls Tryz.prog 167 #[.pointer (some ⟨B,0,none⟩)] w fun r w'=>r=.returned (gv ⟨true,true,true,y.v,y⟩)∧KF F w w'∧∃F',Nw F' F w∧Pp w' B F' {st with snd:=t,sent:=st.sent+1,got:=st.got+1}:=by
 have hB:=h.lt
 have NF:Hid (¬F w.heap.size):=fun e=>Nat.lt_irrefl _ (h.bd _ e)
 obtain⟨R,S,Q,FS,FQ,h⟩:=h
 have P1:=hide (h.below (below_alloc w (.cells #[.bool false,.bool false,.bool false,.int .i64 0,.int .i64 0,.int .i64 0,.int .i64 0] 171)))
 have Z1:=hide (heap_new w (.cells #[.bool false,.bool false,.bool false,.int .i64 0,.int .i64 0,.int .i64 0,.int .i64 0] 171))
 have y0:(w.alloc (.cells #[.bool false,.bool false,.bool false,.int .i64 0,.int .i64 0,.int .i64 0,.int .i64 0] 171)).cell? ⟨B,0,none⟩=some (.pointer (some ⟨R,0,none⟩)):=cell_of P1.out.hp 0
 have y1:(w.alloc (.cells #[.bool false,.bool false,.bool false,.int .i64 0,.int .i64 0,.int .i64 0,.int .i64 0] 171)).cell? ⟨B,1,none⟩=some (.pointer (some ⟨S,0,none⟩)):=cell_of P1.out.hp 1
 have LR:=hide (Rn.len_any R st.size ([]) _ (by have:=P1.out.rg;rw[hb] at this;exact this))
 have LS:=hide (Pe.len_any S (y::t) _ (by have:=P1.out.ps.pw;rw[hs] at this;exact this))
 have TK:=hide (take_any S FS (y::t) _ (by have:=P1.out.ps;rw[hs] at this;exact this))
 have FB:=hide h.fb
 have HB:=hide hb
 clear h hb hs
 unfold gv
 have hlen:(((y::t).length:Int)==0)=false:=by rw[beq_eq_false_iff_ne,List.length_cons];omega
 generalize hN:(y::t).length=N at LS hlen
 clear hN
 go_enter Tryz.func167,Tryz.ntmps167
 go_wp2_with fail
 refine LR.out.mono ?_
 rintro r w1 ⟨rfl,rfl⟩
 go_wp2_with fail
 refine LS.out.mono ?_
 rintro r w1 ⟨rfl,rfl⟩
 go_wp2_with fail
 refine TK.out.mono ?_
 rintro r w2 ⟨rfl,k2,p2⟩
 obtain⟨P2,K2,N2⟩:=P1.out.snd k2 (Nw.refl _ _) p2
 have P3:=hide (P2.below (below_alloc w2 (.cells #[.int .i64 y.g,.int .i64 y.c,.int .i64 y.v] 169)))
 have M3:=hide (heap_new w2 (.cells #[.int .i64 y.g,.int .i64 y.c,.int .i64 y.v] 169))
 have Z3:=hide (heap_below (k2.heap Z1.out (fun e=>NF.out (P1.out.fs _ e))) (below_alloc w2 (.cells #[.int .i64 y.g,.int .i64 y.c,.int .i64 y.v] 169)))
 have K3:=hide (((KF.of (F:=F) (below_alloc w (.cells #[.bool false,.bool false,.bool false,.int .i64 0,.int .i64 0,.int .i64 0,.int .i64 0] 171))).trans K2 (Nw.refl _ _)).then (below_alloc w2 (.cells #[.int .i64 y.g,.int .i64 y.c,.int .i64 y.v] 169)))
 have N3:Hid (Nw (fun x=>F x∨FS x) F w):=fun k hk=>hk.elim .inl (fun q=>.inl (P1.out.fs k q))
 have NF3:Hid (¬(F w.heap.size∨FS w.heap.size)):=fun e=>e.elim NF.out (fun q=>NF.out (P1.out.fs _ q))
 have NM3:Hid (¬(F w2.heap.size∨FS w2.heap.size)):=fun e=>Nat.lt_irrefl _ (P2.bd _ e)
 have hz2:w.heap.size<w2.heap.size:=by have:=k2.size;rw[World.size_alloc] at this;omega
 have hM1:w2.heap.size≠B:=by omega
 have hM2:w2.heap.size≠w.heap.size:=by omega
 have hM3:B≠w.heap.size:=by omega
 clear k2 p2 P2 K2 N2 TK P1 Z1 y0 y1
 unfold wv
 simp only[fw,fo,List.isEmpty_cons,Bool.not_false]
 have p3:(w2.alloc (.cells #[.int .i64 y.g,.int .i64 y.c,.int .i64 y.v] 169)).cell? ⟨B,3,none⟩=some (.int .i64 (st.sent:Int)):=cell_of P3.out.hp 3
 have p4:(w2.alloc (.cells #[.int .i64 y.g,.int .i64 y.c,.int .i64 y.v] 169)).cell? ⟨B,4,none⟩=some (.int .i64 (st.got:Int)):=cell_of P3.out.hp 4
 have pf3:=frozen_of P3.out.hp 3
 have pf4:=frozen_of P3.out.hp 4
 have P4:=hide ((P3.out.setSent (st.sent+1) ((st.sent:Int)+1) (by omega)).setGot (st.got+1) ((st.got:Int)+1) (by omega))
 have M4:=hide ((Below.heap_setCell ((w2.alloc (.cells #[.int .i64 y.g,.int .i64 y.c,.int .i64 y.v] 169)).setCell ⟨B,3,none⟩ (.int .i64 ((st.sent:Int)+1))) ⟨B,4,none⟩ (.int .i64 ((st.got:Int)+1)) _ hM1).trans ((Below.heap_setCell (w2.alloc (.cells #[.int .i64 y.g,.int .i64 y.c,.int .i64 y.v] 169)) ⟨B,3,none⟩ (.int .i64 ((st.sent:Int)+1)) _ hM1).trans M3.out))
 have Z4:=hide ((Below.heap_setCell ((w2.alloc (.cells #[.int .i64 y.g,.int .i64 y.c,.int .i64 y.v] 169)).setCell ⟨B,3,none⟩ (.int .i64 ((st.sent:Int)+1))) ⟨B,4,none⟩ (.int .i64 ((st.got:Int)+1)) _ (Ne.symm hM3)).trans ((Below.heap_setCell (w2.alloc (.cells #[.int .i64 y.g,.int .i64 y.c,.int .i64 y.v] 169)) ⟨B,3,none⟩ (.int .i64 ((st.sent:Int)+1)) _ (Ne.symm hM3)).trans Z3.out))
 have K4:=hide ((K3.out.set FB.out 3 (.int .i64 ((st.sent:Int)+1))).set FB.out 4 (.int .i64 ((st.got:Int)+1)))
 go_wp2_with fail
 generalize ((w2.alloc (.cells #[.int .i64 y.g,.int .i64 y.c,.int .i64 y.v] 169)).setCell ⟨B,3,none⟩ (.int .i64 ((st.sent:Int)+1))).setCell ⟨B,4,none⟩ (.int .i64 ((st.got:Int)+1))=W4 at P4 M4 Z4 K4 ⊢
 generalize w2.heap.size=M at M4 NM3 hM1 hM2 ⊢
 clear p3 p4 pf3 pf4 P3 M3 Z3 K3
 have m0:W4.cell? ⟨M,0,none⟩=some (.int .i64 y.g):=cell_of M4.out 0
 have m1:W4.cell? ⟨M,1,none⟩=some (.int .i64 y.c):=cell_of M4.out 1
 have m2:W4.cell? ⟨M,2,none⟩=some (.int .i64 y.v):=cell_of M4.out 2
 have OU:=hide (out_none B _ _ y W4.drew (P4.out.below (bdrew1 _)).pp HB.out)
 unfold wv at OU
 go_region_with (go_at_call 185;refine OU.out.mono ?_;rintro r w5 ⟨rfl,k5,p5⟩;have M5:=hide (k5.heap (heap_below M4.out (bdrew1 _)) NM3.out);have Z5:=hide (k5.heap (heap_below Z4.out (bdrew1 _)) NF3.out);have n0:=(cell_of M5.out 0).trans (show _=some (.int .i64 y.g) from rfl);have n1:=(cell_of M5.out 1).trans (show _=some (.int .i64 y.c) from rfl);have n2:=(cell_of M5.out 2).trans (show _=some (.int .i64 y.v) from rfl);have z0:=(cell_of Z5.out 0).trans (show _=some (Value.bool false) from rfl);have zf0:=frozen_of Z5.out 0;have z1:=(cell_of Z5.out 1).trans (show _=some (Value.bool false) from rfl);have zf1:=frozen_of Z5.out 1;have z2:=(cell_of Z5.out 2).trans (show _=some (Value.bool false) from rfl);have zf2:=frozen_of Z5.out 2;have z3:=(cell_of Z5.out 3).trans (show _=some (.int .i64 0) from rfl);have zf3:=frozen_of Z5.out 3;have z4:=(cell_of Z5.out 4).trans (show _=some (.int .i64 0) from rfl);have zf4:=frozen_of Z5.out 4;have z5:=(cell_of Z5.out 5).trans (show _=some (.int .i64 0) from rfl);have zf5:=frozen_of Z5.out 5;have z6:=(cell_of Z5.out 6).trans (show _=some (.int .i64 0) from rfl);have zf6:=frozen_of Z5.out 6)
 all_goals
  go_wp2_with fail
  exact bodyPost_ret (results_row1 Tryz.results167 _ _ _ _ rfl (loadVar_got (got_set Z5.out _ _ _ _ _ _ _) rfl)) rfl ⟨rfl,fin7 ((K4.out.then (bdrew1 _)).trans k5 N3.out) N3.out p5 (Nat.le_refl _) NF3.out _ _ _ _ _ _ _⟩
theorem recv_any(B:Nat)(F:Nat→Prop)(st:St)(w:World)(h:Pp w B F st)(hs:st.sent<1000000000)(hg:st.got<1000000000):
 Calls Tryz.prog 167 #[.pointer (some ⟨B,0,none⟩)] w fun r w'=>r=.returned (gv (recvG st))∧KF F w w'∧∃F',Nw F' F w∧Pp w' B F' (recvS st):=by
 cases hb:st.buf with
 |nil=>
  cases hr:st.snd with
  |nil=>
   rw[show recvG st=⟨st.closed,false,false,0,⟨0,0,0⟩⟩ by simp[recvG,hb,hr],show recvS st=st by simp[recvS,hb,hr]]
   exact recv_none B F st w h hb hr
  |cons y t=>
   rw[show recvG st=⟨true,true,true,y.v,y⟩ by simp[recvG,hb,hr],show recvS st={st with snd:=t,sent:=st.sent+1,got:=st.got+1} by simp[recvS,hb,hr]]
   exact recv_snd B F st y t w h hb hr hs hg
 |cons x b=>
  cases hr:st.snd with
  |nil=>
   rw[show recvG st=⟨true,true,false,x,⟨0,0,0⟩⟩ by simp[recvG,hb,hr],show recvS st={st with buf:=b,got:=st.got+1} by simp[recvS,hb,hr]]
   exact recv_buf B F st x b w h hb hr hg
  |cons y t=>
   rw[show recvG st=⟨true,true,true,x,y⟩ by simp[recvG,hb,hr],show recvS st={st with buf:=b++[y.v],snd:=t,sent:=st.sent+1,got:=st.got+1} by simp[recvS,hb,hr]]
   exact recv_both B F st x b y t w h hb hr hs hg
end Pi
namespace Rp
open Ba Pe _root_.Go.Proofs.YtogkjaekfhjelaaGreat.Pi
end Rp
namespace Rp
open Ba Pe _root_.Go.Proofs.YtogkjaekfhjelaaGreat.Pi
end Rp
namespace Rp
open Ba Pe _root_.Go.Proofs.YtogkjaekfhjelaaGreat.Pi
end Rp
namespace Rp
open Ba Pe _root_.Go.Proofs.YtogkjaekfhjelaaGreat.Pi
end Rp
namespace Rp
open Ba Pe _root_.Go.Proofs.YtogkjaekfhjelaaGreat.Pi
end Rp
namespace Pi
open Ba Pe
theorem cellB{w w':World}{b i:Nat}{v:Value}(h:w.cell? ⟨b,i,none⟩=some v)(hb:Below w.heap.size w w'):w'.cell? ⟨b,i,none⟩=some v:=(hb.cell (World.block_lt_of_cell? w _ h)).trans h
theorem wait1_any(x:Wt)(Y:Nat)(g:Int)(w:World)(h:w.cell? ⟨Y,0,none⟩=some (.int .i64 g)):
 Calls Tryz.prog 138 #[wv x,.pointer (some ⟨Y,0,none⟩)] w fun r w'=>r=.returned (.bool (!(x.g==g)))∧Below w.heap.size w w':=by
 have hY:=World.block_lt_of_cell? w _ h
 simp only at hY
 unfold wv
 go_enter Tryz.func138,Tryz.ntmps138
 go_wp2_with fail
 go_ret
 exact⟨ret_bool (by simp[bne]),below_alloc _ _⟩
def cn(g:Int)(l:List Wt):Bool:=decide (0<(dr g l).length)
set_option maxRecDepth 100000 in
theorem index_any(oa:Option Addr)(l:List Wt)(c:Nat)(Y:Nat)(g:Int)(w:World)(hA:WAt w oa l)(hl:l.length≤1024)(h:w.cell? ⟨Y,0,none⟩=some (.int .i64 g)):
 Calls Tryz.prog 171 #[.slice oa l.length c,.func (.func 138) #[] #[.pointer (some ⟨Y,0,none⟩)]] w fun r w'=>(∃z:Int,r=.returned (.int .i64 z)∧decide (0≤z)=cn g l)∧Below w.heap.size w w':=by
 have HA:=hide hA
 have HY:=hide h
 clear hA h
 go_enter Tryz.func171,Tryz.ntmps171
 go_wp2_with fail
 go_loopw [8] (fun i wr=>∃k:Nat,k≤l.length∧i=.int .i64 k∧dr g (l.take k)=[]∧Below w.heap.size w wr) (fun i _=>l.length - (intOf i).toNat)
 case atStart=>exact⟨0,Nat.zero_le _,rfl,rfl,Below.refl _ _⟩
 case round=>
  obtain⟨k,hk,rfl,hn,hb⟩:=hrel
  have HN:=hide hn
  have HB:=hide hb
  clear hn hb
  by_cases hlt:k<l.length
  ·have hlt':(k:Int)<(l.length:Int):=by omega
   obtain⟨x,hx⟩:∃x,l[k]? =some x:=⟨_,List.getElem?_eq_getElem hlt⟩
   obtain⟨b,off,rfl,q0,q1,q2⟩:=HA.out.below HB.out k x hx
   have DT:=hide (dr_take (g:=g) hx)
   have HX:=hide hx
   clear hx
   have W1:=hide (wait1_any x Y g wr (cellB HY.out HB.out))
   unfold wv at W1
   cases hg:x.g==g
   ·have HC:Hid (cn g l=true):=by
     show _=_
     unfold cn
     rw[decide_eq_true_iff]
     apply List.length_pos_of_mem (a:=x)
     unfold dr
     rw[List.mem_filter]
     exact⟨List.mem_of_getElem? HX.out,by simp[hg]⟩
    rw[hg] at W1
    go_wp2_with fail
    refine W1.out.mono ?_
    rintro r w2 ⟨rfl,b2⟩
    have B2:=hide (btr HB.out b2)
    clear b2
    go_wp2_with fail
    go_ret
    exact⟨⟨k,rfl,by rw[HC.out];simp⟩,B2.out⟩
   ·have HN2:Hid (dr g (l.take (k+1))=[]):=by
     show _=_
     rw[DT.out,hg,if_pos rfl]
     exact HN.out
    rw[hg] at W1
    go_wp2_with fail
    refine W1.out.mono ?_
    rintro r w2 ⟨rfl,b2⟩
    have B2:=hide (btr HB.out b2)
    clear b2
    go_wp2_with fail
    go_roundw
    case rel=>exact⟨k+1,by omega,by go_num,HN2.out,B2.out⟩
    case measure=>simp[intOf];omega
  ·have hlt':¬((k:Int)<(l.length:Int)):=by omega
   rw[List.take_of_length_le (by omega)] at HN
   go_wp2_with fail
   go_ret
   exact⟨⟨-1,rfl,by unfold cn;rw[HN.out];rfl⟩,HB.out⟩
theorem contains_any(oa:Option Addr)(l:List Wt)(c:Nat)(Y:Nat)(g:Int)(w:World)(hA:WAt w oa l)(hl:l.length≤1024)(h:w.cell? ⟨Y,0,none⟩=some (.int .i64 g)):
 Calls Tryz.prog 141 #[.slice oa l.length c,.func (.func 138) #[] #[.pointer (some ⟨Y,0,none⟩)]] w fun r w'=>r=.returned (.bool (cn g l))∧Below w.heap.size w w':=by
 have IX:=hide (index_any oa l c Y g w hA hl h)
 clear hA h
 go_enter Tryz.func141,Tryz.ntmps141
 go_wp2_with fail
 refine IX.out.mono ?_
 rintro r w1 ⟨⟨z,rfl,hz⟩,b1⟩
 have HZ:=hide hz
 have B1:=hide b1
 clear hz b1
 go_wp2_with fail
 go_ret
 exact⟨ret_bool HZ.out,B1.out⟩
set_option maxRecDepth 100000 in
theorem wait2_any(B:Nat)(F:Nat→Prop)(st:St)(b:Bool)(X V Y:Nat)(g:Int)(w:World)(h:Pp w B F st)(hX:w.cell? ⟨X,0,none⟩=some (.pointer (some ⟨B,0,none⟩)))(hV:w.cell? ⟨V,0,none⟩=some (.func (.func 138) #[] #[.pointer (some ⟨Y,0,none⟩)]))(hY:w.cell? ⟨Y,0,none⟩=some (.int .i64 g)):
 Calls Tryz.prog 140 #[.bool b,.pointer (some ⟨X,0,none⟩),.pointer (some ⟨V,0,none⟩)] w fun r w'=>r=.returned (.bool (cn g (own st b)))∧Below w.heap.size w w':=by
 obtain⟨R,S,Q,FS,FQ,h⟩:=h
 have h':=h.below (bdrew1 w)
 have SD:=hide (h'.side b)
 have LS:=hide (list_any (sd S Q b) _ _ (h'.pew b))
 have hle:(own st b).length≤1024:=(h'.pew b).le
 have CN:=hide fun (u:World) oa c hA hc=>contains_any oa (own st b) c Y g u hA hle hc
 have HY:=hide (cellB hY (bdrew1 w))
 clear h h' hY
 generalize sd S Q b=Z at SD LS
 generalize own st b=L at LS CN ⊢
 go_enter Tryz.func140,Tryz.ntmps140
 go_wp2_with fail
 go_region_held3 (fun w'=>w'.cell? ⟨X,0,none⟩=some (.pointer (some ⟨B,0,none⟩))∧w'.cell? ⟨V,0,none⟩=some (.func (.func 138) #[] #[.pointer (some ⟨Y,0,none⟩)]))
  (first
    |go_keep
    |(go_split_ands
      first
       |(refine⟨?_,?_⟩<;>(refine cellB ?_ k3;assumption))
       |(refine⟨?_,?_⟩<;>(refine cellB ?_ k2;assumption))))
  (first
    |(go_at_call 142;refine SD.out.mono ?_;rintro r z1 ⟨rfl,rfl⟩)
    |(go_at_call 143;refine LS.out.mono ?_;rintro r z2 ⟨ol,cl,rfl,at2,k2⟩)
    |(go_at_call 141;refine (CN.out _ _ _ at2 (cellB HY.out k2)).mono ?_;rintro r z3 ⟨rfl,k3⟩))
 have B3:=hide (btr (bdrew1 _) (btr k2 k3))
 clear k2 k3 at2
 go_wp2_with fail
 go_ret
 exact⟨rfl,B3.out⟩
end Pi
namespace Rp
open Ba Pe _root_.Go.Proofs.YtogkjaekfhjelaaGreat.Pi
theorem step_append_run{ops:Array Oper}(w:World){o:Oper}{a:Act}{K:Act→World→Prop}{Q:Exit→Act→World→Prop}{E:Prop}(hgd:o.guard=none)(s x:Operand)(t tn:TypeId)
 (ho:o.op=.call {callee:=.builtin .append,args:=#[s,x],argTypes:=#[t,tn]}) (vs vx:Value) (hs:a.eval s=vs) (hx:a.eval x=vx)
 (v':Value) (w':World) (hr:(Builtin.append_ #[t,tn] o.type #[vs,vx]).run Tryz.prog w=.ok v' w') (h:K (a.put o.dst v') w'):
 if Region.wanted o (yielded ops a.tmps)=true then Oper.wp Tryz.prog o a w K Q else E:=by
 have hw:Region.wanted o (yielded ops a.tmps)=true:=by simp[Region.wanted,hgd]
 rw[if_pos hw]
 exact Lib.wp_append_run w s x t tn ho vs vx hs hx v' w' hr h
end Rp
namespace Rp
open Ba Pe _root_.Go.Proofs.YtogkjaekfhjelaaGreat.Pi
end Rp
namespace Rp
open Ba Pe _root_.Go.Proofs.YtogkjaekfhjelaaGreat.Pi
end Rp
namespace Pi
open Ba Pe
set_option maxRecDepth 100000 in
theorem wait_any(B:Nat)(F:Nat→Prop)(st:St)(send:Bool)(x:Wt)(w:World)(h:Pp w B F st):
 Calls Tryz.prog 103 #[.pointer (some ⟨B,0,none⟩),.bool send,wv x] w fun r w'=>r=.returned (.int .i64 (waitE st send x))∧KF F w w'∧∃F',Nw F' F w∧Pp w' B F' (waitS st send x):=by
 have hm:=hmf
 have b1:=below_alloc w (.cells #[.pointer (some ⟨B,0,none⟩)] 160)
 have b2:=below_alloc (w.alloc (.cells #[.pointer (some ⟨B,0,none⟩)] 160)) (.cells #[.int .i64 x.g,.int .i64 x.c,.int .i64 x.v] 169)
 have b3:=below_alloc ((w.alloc (.cells #[.pointer (some ⟨B,0,none⟩)] 160)).alloc (.cells #[.int .i64 x.g,.int .i64 x.c,.int .i64 x.v] 169)) (.cells #[.func (.func 138) #[] #[.pointer (some ⟨w.heap.size+1,0,none⟩)]] 214)
 have BW:=hide (btr b1 (btr b2 b3))
 have HX:=hide (heap_below (heap_new w (.cells #[.pointer (some ⟨B,0,none⟩)] 160)) (btr b2 b3))
 have hy:=heap_below (heap_new (w.alloc (.cells #[.pointer (some ⟨B,0,none⟩)] 160)) (.cells #[.int .i64 x.g,.int .i64 x.c,.int .i64 x.v] 169)) b3
 rw[World.size_alloc] at hy
 have HY:=hide hy
 have hv:=heap_new ((w.alloc (.cells #[.pointer (some ⟨B,0,none⟩)] 160)).alloc (.cells #[.int .i64 x.g,.int .i64 x.c,.int .i64 x.v] 169)) (.cells #[.func (.func 138) #[] #[.pointer (some ⟨w.heap.size+1,0,none⟩)]] 214)
 rw[World.size_alloc,World.size_alloc] at hv
 have HV:=hide hv
 have PP:=hide (h.below BW.out)
 have RG:=hide (ready_g 140 #[.pointer (some ⟨w.heap.size,0,none⟩),.pointer (some ⟨w.heap.size+1+1,0,none⟩)] (fun _ _=>by rfl) (cn x.g (own st (!send))) B F st send _ PP.out (wait2_any B F st (!send) w.heap.size (w.heap.size+1+1) (w.heap.size+1) x.g _ PP.out (cell_of HX.out 0) (cell_of HV.out 0) (cell_of HY.out 0)))
 have EQ:(st.closed||room st send||cn x.g (own st (!send)))=rdyBut st send x.g:=rfl
 rw[EQ] at RG
 clear b1 b2 b3 hy hv h EQ
 cases hq:rdyBut st send x.g
 ·rw[hq] at RG
  cases send
  ·rw[show waitE st false x=ae st.rcv x by simp[waitE,hq,own],show waitS st false x={st with rcv:=al st.rcv x} by simp[waitS,hq]]
   unfold wv
   go_enter Tryz.func103,Tryz.ntmps103
   go_wp2_with fail
   generalize (((w.alloc (.cells #[.pointer (some ⟨B,0,none⟩)] 160)).alloc (.cells #[.int .i64 x.g,.int .i64 x.c,.int .i64 x.v] 169)).alloc (.cells #[.func (.func 138) #[] #[.pointer (some ⟨w.heap.size+1,0,none⟩)]] 214))=W3 at BW HX HY HV PP RG ⊢
   refine RG.out.mono ?_
   rintro r w4 ⟨rfl,b4⟩
   have B4:=hide (btr BW.out b4)
   have X4:=hide (heap_below HX.out b4)
   have Y4:=hide (heap_below HY.out b4)
   have P4:=hide (PP.out.below b4)
   clear b4 RG HX HY HV PP BW
   obtain⟨R,S,Q,FS,FQ,h4⟩:=P4.out
   have h5:=h4.below (bdrew1 w4)
   have SD:Hid (Calls Tryz.prog 142 #[.pointer (some ⟨B,0,none⟩),.bool false] w4.drew fun r w'=>r=.returned (.pointer (some ⟨Q,0,none⟩))∧w'=w4.drew):=h5.side false
   have P5:=hide h5
   have x0:w4.cell? ⟨w.heap.size,0,none⟩=some (.pointer (some ⟨B,0,none⟩)):=cell_of X4.out 0
   have y0:w4.cell? ⟨w.heap.size+1,0,none⟩=some (.int .i64 x.g):=cell_of Y4.out 0
   have y1:w4.cell? ⟨w.heap.size+1,1,none⟩=some (.int .i64 x.c):=cell_of Y4.out 1
   have y2:w4.cell? ⟨w.heap.size+1,2,none⟩=some (.int .i64 x.v):=cell_of Y4.out 2
   clear h4 h5 X4 Y4 P4
   have AD:=hide (add_any Q FQ st.rcv x _ P5.out.pq)
   unfold wv at AD
   go_wp2_with fail
   go_region_with (first|(go_at_call 142;refine SD.out.mono ?_;rintro r z1 ⟨rfl,rfl⟩)|(go_at_call 137;refine AD.out.mono ?_;rintro r z2 ⟨rfl,k2,F2,n2,p2⟩))
   all_goals
    have RC:=hide (P5.out.rcv k2 n2 p2)
    clear k2 n2 p2
    go_wp2_with fail
    go_ret
    exact⟨rfl,((KF.of (F:=F) B4.out).then (bdrew1 _)).trans RC.out.2.1 (Nw.refl _ _),_,(Nw.refl F w).trans RC.out.2.2 (btr B4.out (bdrew1 _)).size,RC.out.1.pp⟩
  ·rw[show waitE st true x=ae st.snd x by simp[waitE,hq,own],show waitS st true x={st with snd:=al st.snd x} by simp[waitS,hq]]
   unfold wv
   go_enter Tryz.func103,Tryz.ntmps103
   go_wp2_with fail
   generalize (((w.alloc (.cells #[.pointer (some ⟨B,0,none⟩)] 160)).alloc (.cells #[.int .i64 x.g,.int .i64 x.c,.int .i64 x.v] 169)).alloc (.cells #[.func (.func 138) #[] #[.pointer (some ⟨w.heap.size+1,0,none⟩)]] 214))=W3 at BW HX HY HV PP RG ⊢
   refine RG.out.mono ?_
   rintro r w4 ⟨rfl,b4⟩
   have B4:=hide (btr BW.out b4)
   have X4:=hide (heap_below HX.out b4)
   have Y4:=hide (heap_below HY.out b4)
   have P4:=hide (PP.out.below b4)
   clear b4 RG HX HY HV PP BW
   obtain⟨R,S,Q,FS,FQ,h4⟩:=P4.out
   have h5:=h4.below (bdrew1 w4)
   have SD:Hid (Calls Tryz.prog 142 #[.pointer (some ⟨B,0,none⟩),.bool true] w4.drew fun r w'=>r=.returned (.pointer (some ⟨S,0,none⟩))∧w'=w4.drew):=h5.side true
   have P5:=hide h5
   have x0:w4.cell? ⟨w.heap.size,0,none⟩=some (.pointer (some ⟨B,0,none⟩)):=cell_of X4.out 0
   have y0:w4.cell? ⟨w.heap.size+1,0,none⟩=some (.int .i64 x.g):=cell_of Y4.out 0
   have y1:w4.cell? ⟨w.heap.size+1,1,none⟩=some (.int .i64 x.c):=cell_of Y4.out 1
   have y2:w4.cell? ⟨w.heap.size+1,2,none⟩=some (.int .i64 x.v):=cell_of Y4.out 2
   clear h4 h5 X4 Y4 P4
   have AD:=hide (add_any S FS st.snd x _ P5.out.ps)
   unfold wv at AD
   go_wp2_with fail
   go_region_with (first|(go_at_call 142;refine SD.out.mono ?_;rintro r z1 ⟨rfl,rfl⟩)|(go_at_call 137;refine AD.out.mono ?_;rintro r z2 ⟨rfl,k2,F2,n2,p2⟩))
   all_goals
    have RC:=hide (P5.out.snd k2 n2 p2)
    clear k2 n2 p2
    go_wp2_with fail
    go_ret
    exact⟨rfl,((KF.of (F:=F) B4.out).then (bdrew1 _)).trans RC.out.2.1 (Nw.refl _ _),_,(Nw.refl F w).trans RC.out.2.2 (btr B4.out (bdrew1 _)).size,RC.out.1.pp⟩
 ·rw[hq] at RG
  rw[show waitE st send x=7 by simp[waitE,hq],show waitS st send x=st by simp[waitS,hq]]
  unfold wv
  go_enter Tryz.func103,Tryz.ntmps103
  go_wp2_with fail
  generalize (((w.alloc (.cells #[.pointer (some ⟨B,0,none⟩)] 160)).alloc (.cells #[.int .i64 x.g,.int .i64 x.c,.int .i64 x.v] 169)).alloc (.cells #[.func (.func 138) #[] #[.pointer (some ⟨w.heap.size+1,0,none⟩)]] 214))=W3 at BW HX HY HV PP RG ⊢
  refine RG.out.mono ?_
  rintro r w4 ⟨rfl,b4⟩
  have B4:=hide (btr BW.out b4)
  have X4:=hide (heap_below HX.out b4)
  have Y4:=hide (heap_below HY.out b4)
  have P4:=hide (PP.out.below b4)
  clear b4 RG HX HY HV PP BW
  go_wp2_with fail
  go_ret
  exact⟨rfl,KF.of B4.out,F,Nw.refl _ _,P4.out⟩
set_option maxRecDepth 100000 in
theorem wait_nil(send:Bool)(x:Wt)(w:World):
 Calls Tryz.prog 103 #[.pointer none,.bool send,wv x] w fun r w'=>r=.returned (.int .i64 (ae [] x))∧Below w.heap.size w w':=by
 have b1:=below_alloc w (.cells #[.pointer none] 160)
 have b2:=below_alloc (w.alloc (.cells #[.pointer none] 160)) (.cells #[.int .i64 x.g,.int .i64 x.c,.int .i64 x.v] 169)
 have BW:=hide (btr b1 b2)
 have hy:=heap_new (w.alloc (.cells #[.pointer none] 160)) (.cells #[.int .i64 x.g,.int .i64 x.c,.int .i64 x.v] 169)
 rw[World.size_alloc] at hy
 have HY:=hide hy
 clear b1 b2 hy
 unfold wv
 go_enter Tryz.func103,Tryz.ntmps103
 go_wp2_with fail
 generalize ((w.alloc (.cells #[.pointer none] 160)).alloc (.cells #[.int .i64 x.g,.int .i64 x.c,.int .i64 x.v] 169))=W2 at BW HY ⊢
 have y0:W2.cell? ⟨w.heap.size+1,0,none⟩=some (.int .i64 x.g):=cell_of HY.out 0
 have y1:W2.cell? ⟨w.heap.size+1,1,none⟩=some (.int .i64 x.c):=cell_of HY.out 1
 have y2:W2.cell? ⟨w.heap.size+1,2,none⟩=some (.int .i64 x.v):=cell_of HY.out 2
 have AD:=hide fun P F u p=>add_any P F [] x u p
 unfold wv at AD
 go_region_with (first|(go_at_call 134;refine (new_any _).mono ?_;rintro r z1 ⟨rfl,p1,c1⟩;have v0:=cellB y0 (btr (bdrew1 _) c1);have v1:=cellB y1 (btr (bdrew1 _) c1);have v2:=cellB y2 (btr (bdrew1 _) c1))|(go_at_call 137;refine (AD.out _ _ _ p1).mono ?_;rintro r z2 ⟨rfl,k2,-⟩))
 all_goals
  have B3:=hide (k2.below (btr BW.out (btr (bdrew1 _) c1)) (fun k (e:k=_)=>by have:=BW.out.size;show _≤_;rw[e];exact this))
  clear k2 c1 p1
  go_wp2_with fail
  go_ret
  exact⟨rfl,B3.out⟩
end Pi
namespace Pi
open Ba Pe
theorem drop_nil(g:Int)(w:World):
 Calls Tryz.prog 174 #[.pointer none,.int .i64 g] w fun r w'=>r=.returned (.int .i64 0)∧w'=w:=by
 go_enter Tryz.func174,Tryz.ntmps174
 go_wp2_with fail
 refine (side_nil true _).mono ?_
 rintro r w1 ⟨rfl,rfl⟩
 go_wp2_with fail
 refine (Pe.drop_nil g _).mono ?_
 rintro r w1 ⟨rfl,rfl⟩
 go_wp2_with fail
 refine (side_nil false _).mono ?_
 rintro r w1 ⟨rfl,rfl⟩
 go_wp2_with fail
 refine (Pe.drop_nil g _).mono ?_
 rintro r w1 ⟨rfl,rfl⟩
 go_wp2_with fail
 go_ret
 exact⟨rfl,rfl⟩
theorem drop_any(B:Nat)(F:Nat→Prop)(st:St)(g:Int)(w:World)(h:Pp w B F st):
 Calls Tryz.prog 174 #[.pointer (some ⟨B,0,none⟩),.int .i64 g] w fun r w'=>r=.returned (.int .i64 (dropN st g))∧KF F w w'∧∃F',Nw F' F w∧Pp w' B F' (dropS st g):=by
 obtain⟨R,S,Q,FS,FQ,h⟩:=h
 have P1:=hide h
 have l1:=P1.out.ps.le
 have l2:=P1.out.pq.le
 have d1:=dr_len g st.snd
 have d2:=dr_len g st.rcv
 clear h
 unfold dropN
 generalize hn1:((st.snd.length:Int) - ((dr g st.snd).length:Int))=n1
 generalize hn2:((st.rcv.length:Int) - ((dr g st.rcv).length:Int))=n2
 have SD1:Hid (Calls Tryz.prog 142 #[.pointer (some ⟨B,0,none⟩),.bool true] w fun r w'=>r=.returned (.pointer (some ⟨S,0,none⟩))∧w'=w):=P1.out.side true
 have DP1:=hide (Pe.drop_any S FS st.snd g w P1.out.ps)
 rw[hn1] at DP1
 go_enter Tryz.func174,Tryz.ntmps174
 go_wp2_with fail
 refine SD1.out.mono ?_
 rintro r w1 ⟨rfl,rfl⟩
 go_wp2_with fail
 refine DP1.out.mono ?_
 rintro r w2 ⟨rfl,k2,p2⟩
 have S2:=hide (P1.out.snd k2 (Nw.refl _ _) p2)
 clear k2 p2
 have SD2:Hid (Calls Tryz.prog 142 #[.pointer (some ⟨B,0,none⟩),.bool false] w2 fun r w'=>r=.returned (.pointer (some ⟨Q,0,none⟩))∧w'=w2):=S2.out.1.side false
 have DP2:=hide (Pe.drop_any Q FQ st.rcv g w2 S2.out.1.pq)
 rw[hn2] at DP2
 go_wp2_with fail
 refine SD2.out.mono ?_
 rintro r w3 ⟨rfl,rfl⟩
 go_wp2_with fail
 refine DP2.out.mono ?_
 rintro r w4 ⟨rfl,k4,p4⟩
 have S4:=hide (S2.out.1.rcv k4 (Nw.refl _ _) p4)
 clear k4 p4
 go_wp2_with fail
 go_ret
 exact⟨by first|rfl|(apply ret_int;omega),S2.out.2.1.trans S4.out.2.1 S2.out.2.2,_,S2.out.2.2.trans S4.out.2.2 S2.out.2.1.size,S4.out.1.pp⟩
theorem close_nil(w:World):
 Calls Tryz.prog 105 #[.pointer none] w fun r w'=>r=.returned (.tuple #[.slice none 0 0,.slice none 0 0,.int .i64 6])∧w'=w:=by
 go_enter Tryz.func105,Tryz.ntmps105
 go_wp2_with fail
 go_ret3
 exact⟨rfl,rfl⟩
theorem close_closed(B:Nat)(F:Nat→Prop)(st:St)(w:World)(h:Pp w B F st)(hc:st.closed=true):
 Calls Tryz.prog 105 #[.pointer (some ⟨B,0,none⟩)] w fun r w'=>r=.returned (.tuple #[.slice none 0 0,.slice none 0 0,.int .i64 90])∧w'=w:=by
 obtain⟨R,S,Q,FS,FQ,h⟩:=h
 have y5:w.cell? ⟨B,5,none⟩=some (.bool true):=(cell_of h.hp 5).trans (by rw[hc];rfl)
 clear h hc
 go_enter Tryz.func105,Tryz.ntmps105
 go_wp2_with fail
 go_ret3
 exact⟨rfl,rfl⟩
theorem PO.anew{w:World}{B:Nat}{F:Nat→Prop}{R S Q S' Q':Nat}{FS FQ:Nat→Prop}{st:St}(h:PO w B F R S Q FS FQ st)(p1:PF w S' (fun k=>k=S') [])(p2:PF w Q' (fun k=>k=Q') [])(hs:¬F S')(hq:¬F Q')(hne:S'≠Q'):
 PO (((w.setCell ⟨B,2,none⟩ (.pointer (some ⟨Q',0,none⟩))).setCell ⟨B,1,none⟩ (.pointer (some ⟨S',0,none⟩))).setCell ⟨B,5,none⟩ (.bool true)) B (fun k=>F k∨k=S'∨k=Q') R S' Q' (fun k=>k=S') (fun k=>k=Q') {st with snd:=[],rcv:=[],closed:=true}:=by
 have K:=(((KB.refl B w).setCell 2 (.pointer (some ⟨Q',0,none⟩))).setCell 1 (.pointer (some ⟨S',0,none⟩))).setCell 5 (.bool true)
 have hB:=h.fb
 have hR:=h.fr
 have sB:S'≠B:=fun e=>hs (e ▸ hB)
 have qB:Q'≠B:=fun e=>hq (e ▸ hB)
 have sR:S'≠R:=fun e=>hs (e ▸ hR)
 have qR:Q'≠R:=fun e=>hq (e ▸ hR)
 refine⟨?_,?_,p1.sm (fun x (e:x=S')=>K.block x (p1.bd x e) (by rw[e];exact sB)),p2.sm (fun x (e:x=Q')=>K.block x (p2.bd x e) (by rw[e];exact qB)),.inl hB,.inl hR,fun k e=>.inr (.inl e),fun k e=>.inr (.inr e),fun e=>sB e.symm,fun e=>sR e.symm,fun e=>qB e.symm,fun e=>qR e.symm,fun k (e:k=S') (e2:k=Q')=>hne (e ▸ e2),?_⟩
 ·exact (Ba.heap_setCell_same (Ba.heap_setCell_same (Ba.heap_setCell_same h.hp _) _) _).trans rfl
 ·exact Rg.sm h.rg (K.block R (h.bd R hR) (Ne.symm h.rb))
 ·intro k hk
  refine Nat.lt_of_lt_of_le ?_ K.size
  rcases hk with q|q|q
  ·exact h.bd k q
  ·rw[q];exact p1.lt
  ·rw[q];exact p2.lt
end Pi
namespace Fk
open Ba Pe _root_.Go.Proofs.YtogkjaekfhjelaaGreat.Pi Rp
def PR(w:World)(oa:Option Addr)(bs:List (Option Nat)):Prop:=∀(i:Nat) (o:Option Nat),bs[i]? =some o→∃b off,oa=some ⟨b,off,none⟩∧w.cell? ⟨b,off+i,none⟩=some (pt o)
theorem PR.keep{w w':World}{oa:Option Addr}{bs:List (Option Nat)}(h:PR w oa bs)(hk:∀a,oa=some a→a.block<w.heap.size→w'.heap[a.block]? =w.heap[a.block]?):PR w' oa bs:=by
 intro i o hi
 obtain⟨b,off,e,hc⟩:=h i o hi
 refine⟨b,off,e,?_⟩
 have:=hk _ e (World.block_lt_of_cell? w ⟨b,off+i,none⟩ hc)
 rw[←hc]
 simp only at this
 simp only[World.cell?,this]
theorem PR.below{w w':World}{oa:Option Addr}{bs:List (Option Nat)}(h:PR w oa bs)(hb:Below w.heap.size w w'):PR w' oa bs:=h.keep fun _ _ hl=>hb.block _ hl
structure Fr(Q:World→Nat→(Nat→Prop)→St→Prop):Prop where
 sm:∀{w w':World} {B:Nat} {F:Nat→Prop} {st:St},Q w B F st→Sm F w w'→Q w' B F st
 bd:∀{w:World} {B:Nat} {F:Nat→Prop} {st:St},Q w B F st→Bd F w
theorem frP:Fr Pp:=⟨fun h s=>h.sm s,fun h=>h.bd⟩
structure Qs(Q:World→Nat→(Nat→Prop)→St→Prop)(w:World)(oa:Option Addr)(bs:List (Option Nat))(Fs:Nat→Nat→Prop)(sts:List (Option St)):Prop where
 row:PR w oa bs
 len:bs.length=sts.length
 one:∀(i B:Nat),bs[i]? =some (some B)→∃st,sts[i]? =some (some st)∧Q w B (Fs i) st
 non:∀(i:Nat),bs[i]? =some none→sts[i]? =some none
 ap:∀i j,i≠j→∀x,Fs i x→¬Fs j x
 nr:∀a,oa=some a→∀i,¬Fs i a.block
 bd:∀i,Bd (Fs i) w
theorem Qs.keep{Q:World→Nat→(Nat→Prop)→St→Prop}(fr:Fr Q){w w':World}{oa:Option Addr}{bs:List (Option Nat)}{Fs:Nat→Nat→Prop}{sts:List (Option St)}(h:Qs Q w oa bs Fs sts)(hs:∀i,Sm (Fs i) w w')(hr:∀a,oa=some a→a.block<w.heap.size→w'.heap[a.block]? =w.heap[a.block]?):Qs Q w' oa bs Fs sts:=
 ⟨h.row.keep hr,h.len,fun i B hi=>by
   obtain⟨st,e,q⟩:=h.one i B hi
   exact⟨st,e,fr.sm q (hs i)⟩,h.non,h.ap,h.nr,fun i=>(h.bd i).sm (hs i)⟩
theorem Qs.below{Q:World→Nat→(Nat→Prop)→St→Prop}(fr:Fr Q){w w':World}{oa:Option Addr}{bs:List (Option Nat)}{Fs:Nat→Nat→Prop}{sts:List (Option St)}(h:Qs Q w oa bs Fs sts)(hb:Below w.heap.size w w'):Qs Q w' oa bs Fs sts:=
 h.keep fr (fun i=>Sm.below hb (h.bd i)) (fun _ _ hl=>hb.block _ hl)
def up(Fs:Nat→Nat→Prop)(i:Nat)(F:Nat→Prop):Nat→Nat→Prop:=fun j=>if j=i then F else Fs j
theorem up_same(Fs:Nat→Nat→Prop)(i:Nat)(F:Nat→Prop):up Fs i F i=F:=by simp[up]
theorem up_other(Fs:Nat→Nat→Prop)(i j:Nat)(F:Nat→Prop)(h:j≠i):up Fs i F j=Fs j:=by simp[up,h]
theorem Qs.step{Q:World→Nat→(Nat→Prop)→St→Prop}(fr:Fr Q){w w':World}{oa:Option Addr}{bs:List (Option Nat)}{Fs:Nat→Nat→Prop}{sts:List (Option St)}(h:Qs Q w oa bs Fs sts){i B:Nat}{F':Nat→Prop}{st':St}(hi:bs[i]? =some (some B))(k:KF (Fs i) w w')(n:Nw F' (Fs i) w)(q:Q w' B F' st')(hrl:∀a,oa=some a→a.block<w.heap.size):Qs Q w' oa bs (up Fs i F') (sts.set i (some st')):=by
 have hil:i<bs.length:=(List.getElem?_eq_some_iff.1 hi).1
 refine⟨h.row.keep fun a e hl=>k.block _ hl (h.nr a e i),by rw[List.length_set];exact h.len,fun j C hj=>?_,fun j hj=>?_,fun j l hjl x hx=>?_,fun a e j hf=>?_,fun j=>?_⟩
 ·by_cases e:j=i
  ·subst e
   rw[hi] at hj
   cases hj
   exact⟨st',by rw[List.getElem?_set];simp;rw[←h.len];exact hil,by rw[up_same];exact q⟩
  ·obtain⟨st,e1,q1⟩:=h.one j C hj
   exact⟨st,by rw[List.getElem?_set_ne (Ne.symm e)];exact e1,by rw[up_other _ _ _ _ e];exact fr.sm q1 (Sm.kf k (h.bd j) (h.ap j i e))⟩
 ·by_cases e:j=i
  ·subst e
   rw[hi] at hj
   cases hj
  ·rw[List.getElem?_set_ne (Ne.symm e)]
   exact h.non j hj
 ·by_cases e1:j=i
  ·subst e1
   rw[up_same] at hx
   rw[up_other _ _ _ _ (Ne.symm hjl)]
   intro hl
   rcases n x hx with z|z
   ·exact h.ap j l hjl x z hl
   ·have:=h.bd l x hl
    omega
  ·rw[up_other _ _ _ _ e1] at hx
   by_cases e2:l=i
   ·subst e2
    rw[up_same]
    exact n.apart (h.bd j) (h.ap j l e1) x hx
   ·rw[up_other _ _ _ _ e2]
    exact h.ap j l hjl x hx
 ·by_cases e1:j=i
  ·subst e1
   rw[up_same] at hf
   rcases n _ hf with z|z
   ·exact h.nr a e j z
   ·have:=hrl a e
    omega
  ·rw[up_other _ _ _ _ e1] at hf
   exact h.nr a e j hf
 ·by_cases e1:j=i
  ·subst e1
   rw[up_same]
   exact fr.bd q
  ·rw[up_other _ _ _ _ e1]
   exact (h.bd j).mono k.size
def nmB{α:Type}(bs:List (Option α))(c:Int):Option α:=if c<0∨(bs.length:Int)≤c then none else (bs[c.toNat]?).join
theorem Qs.nm{Q:World→Nat→(Nat→Prop)→St→Prop}{w:World}{oa:Option Addr}{bs:List (Option Nat)}{Fs:Nat→Nat→Prop}{sts:List (Option St)}(h:Qs Q w oa bs Fs sts)(c:Int):(nmB bs c=none∧nmB sts c=none)∨∃B st,nmB bs c=some B∧nmB sts c=some st∧0≤c∧c.toNat<bs.length∧bs[c.toNat]? =some (some B)∧sts[c.toNat]? =some (some st)∧Q w B (Fs c.toNat) st:=by
 unfold nmB
 rw[←h.len]
 by_cases e:c<0∨(bs.length:Int)≤c
 ·exact .inl ⟨by rw[if_pos e],by rw[if_pos e]⟩
 ·rw[if_neg e,if_neg e]
  have hl:c.toNat<bs.length:=by omega
  cases hb:bs[c.toNat]? with
  |none=>rw[List.getElem?_eq_none_iff] at hb;omega
  |some o=>
   cases o with
   |none=>exact .inl ⟨rfl,by rw[h.non _ hb];rfl⟩
   |some B=>
    obtain⟨st,e1,q⟩:=h.one _ _ hb
    exact .inr ⟨B,st,rfl,by rw[e1];rfl,by omega,hl,rfl,e1,q⟩
structure Ca where
 sd:Bool
 ch:Int
 v:Int
def cv(c:Ca):Value:=.agg #[.bool c.sd,.int .i64 c.ch,.int .i64 c.v]
def CaAt(w:World)(oa:Option Addr)(l:List Ca):Prop:=
 ∀k x,l[k]? =some x→∃b off,oa=some ⟨b,off,none⟩∧w.cell? ⟨b,off+k*3,none⟩=some (.bool x.sd)∧w.cell? ⟨b,off+k*3+1,none⟩=some (.int .i64 x.ch)∧w.cell? ⟨b,off+k*3+2,none⟩=some (.int .i64 x.v)
theorem CaAt.below{w w':World}{oa:Option Addr}{l:List Ca}(h:CaAt w oa l)(hb:Below w.heap.size w w'):CaAt w' oa l:=by
 intro k x hk
 obtain⟨b,off,e,h0,h1,h2⟩:=h k x hk
 exact⟨b,off,e,(hb.cell (World.block_lt_of_cell? w _ h0)).trans h0,(hb.cell (World.block_lt_of_cell? w _ h1)).trans h1,(hb.cell (World.block_lt_of_cell? w _ h2)).trans h2⟩
theorem named_any(oa:Option Addr)(bs:List (Option Nat))(c:Int)(cp:Nat)(w:World)(h:PR w oa bs):
 Calls Tryz.prog 153 #[.int .i64 c,.slice oa bs.length cp] w fun r w'=>r=.returned (pt (nmB bs c))∧w'=w:=by
 unfold nmB
 by_cases h1:c<0
 ·have d1:decide (c<0)=true:=decide_eq_true h1
  rw[if_pos (.inl h1)]
  clear h
  go_enter Tryz.func153,Tryz.ntmps153
  go_wp2_with fail
  go_ret
  exact⟨rfl,rfl⟩
 ·have d1:decide (c<0)=false:=decide_eq_false h1
  obtain⟨n,rfl⟩:=Int.eq_ofNat_of_zero_le (show 0≤c by omega)
  by_cases h2:bs.length≤n
  ·have d2:decide ((bs.length:Int)≤(n:Int))=true:=decide_eq_true (by omega)
   rw[if_pos (.inr (by omega))]
   clear h
   go_enter Tryz.func153,Tryz.ntmps153
   go_wp2_with fail
   go_ret
   exact⟨rfl,rfl⟩
  ·have d2:decide ((bs.length:Int)≤(n:Int))=false:=decide_eq_false (by omega)
   have hlt:(n:Int)<(bs.length:Int):=by omega
   rw[if_neg (by omega),Int.toNat_natCast]
   obtain⟨o,ho⟩:∃o,bs[n]? =some o:=⟨_,List.getElem?_eq_getElem (by omega)⟩
   obtain⟨b,off,rfl,hc⟩:=h n o ho
   rw[ho]
   rw[show (some o).join=o by cases o<;>rfl]
   unfold pt at hc ⊢
   generalize o.map (fun b=>(⟨b,0,none⟩:Addr))=q at hc ⊢
   clear h ho
   go_enter Tryz.func153,Tryz.ntmps153
   go_wp2_with fail
   go_ret
   exact⟨rfl,rfl⟩
end Fk
namespace Fk
open Ba Pe _root_.Go.Proofs.YtogkjaekfhjelaaGreat.Pi Rp
def ps(P:Nat→Bool)(n:Nat):List Int:=((List.range n).filter P).map fun (i:Nat)=>(i:Int)
theorem ps_succ(P:Nat→Bool)(n:Nat):ps P (n+1)=if P n=true then ps P n++[(n:Int)] else ps P n:=by
 unfold ps
 rw[List.range_succ,List.filter_append]
 cases h:P n<;>simp[h]
theorem ps_len(P:Nat→Bool)(n:Nat):(ps P n).length≤n:=by
 unfold ps
 rw[List.length_map]
 have:=List.length_filter_le P (List.range n)
 rw[List.length_range] at this
 exact this
set_option maxRecDepth 100000 in
theorem gather_r(P:Nat→Bool)(oc:Option Addr)(l:List Ca)(cc:Nat)(oa:Option Addr)(bs:List (Option Nat))(cp:Nat)(w:World)(hC:CaAt w oc l)(hR:PR w oa bs)(hl:l.length≤1000)
 (CL:∀(i:Nat) (c:Ca) (u:World),l[i]? =some c→Below w.heap.size w u→Calls Tryz.prog 149 #[cv c,pt (nmB bs c.ch)] u fun r w'=>r=.returned (.bool (P i))∧Below u.heap.size u w'):
 Calls Tryz.prog 148 #[.slice oc l.length cc,.slice oa bs.length cp,.func (.func 149) #[] #[]] w fun r w'=>∃ob d,r=.returned (.slice ob (ps P l.length).length d)∧w'.ownsRow w.heap.size 3 1 (.slice ob (ps P l.length).length d) (ps P l.length).length (ic (ps P l.length))∧Below w.heap.size w w':=by
 cases hi:Tryz.prog.info? 3 with
 |none=>have:=info_i;rw[hi] at this;cases this
 |some i0=>
 have hx2:=info_i
 rw[hi] at hx2
 simp at hx2
 have INF:=hide (And.intro hi hx2)
 clear hx2 hi
 have HC:=hide hC
 have HR:=hide hR
 have HL:=hide CL
 clear hC hR CL
 go_enter Tryz.func148,Tryz.ntmps148
 go_wp2_with fail
 go_loopw [7,12] (fun rv i wr=>∃(v:Value) (k:Nat),k≤l.length∧i=.int .i64 k∧rv=v∧wr.ownsRow w.heap.size 3 1 v (ps P k).length (ic (ps P k))∧Below w.heap.size w wr) (fun _ i _=>l.length - (intOf i).toNat)
 case atStart=>exact⟨_,0,Nat.zero_le _,rfl,rfl,World.ownsRow_nil _ _ _ _,Below.refl _ _⟩
 case round=>
  obtain⟨v,k,hk,rfl,rfl,ho,hb⟩:=hrel
  by_cases hlt:k<l.length
  ·have hlt':(k:Int)<(l.length:Int):=by omega
   obtain⟨x,hx⟩:∃x,l[k]? =some x:=⟨_,List.getElem?_eq_getElem hlt⟩
   obtain⟨b,off,rfl,q0,q1,q2⟩:=HC.out.below hb k x hx
   have SU:=hide (ps_succ P k)
   have hpl:=ps_len P k
   have BX:=below_alloc wr (.cells #[.bool x.sd,.int .i64 x.ch,.int .i64 x.v] 108)
   have XN:=hide (heap_new wr (.cells #[.bool x.sd,.int .i64 x.ch,.int .i64 x.v] 108))
   have HB:=hide (btr hb BX)
   have OW:=hide (own_below ho BX)
   have NM:=hide (named_any oa bs x.ch cp ((wr.alloc (.cells #[.bool x.sd,.int .i64 x.ch,.int .i64 x.v] 108)).drew) (HR.out.below (btr HB.out (bdrew1 _))))
   have CLK:=hide fun u hu=>HL.out k x u hx hu
   unfold cv pt at CLK
   unfold pt at NM
   generalize (nmB bs x.ch).map (fun b=>(⟨b,0,none⟩:Addr))=pp at NM CLK
   clear hb hx BX ho
   obtain⟨X,hX⟩:∃X,X=ps P k:=⟨_,rfl⟩
   rw[←hX] at SU hpl OW
   clear hX
   go_wp2_with fail
   have e0:(wr.alloc (.cells #[.bool x.sd,.int .i64 x.ch,.int .i64 x.v] 108)).cell? ⟨wr.heap.size,0,none⟩=some (.bool x.sd):=cell_of XN.out 0
   have e1:(wr.alloc (.cells #[.bool x.sd,.int .i64 x.ch,.int .i64 x.v] 108)).cell? ⟨wr.heap.size,1,none⟩=some (.int .i64 x.ch):=cell_of XN.out 1
   have e2:(wr.alloc (.cells #[.bool x.sd,.int .i64 x.ch,.int .i64 x.v] 108)).cell? ⟨wr.heap.size,2,none⟩=some (.int .i64 x.v):=cell_of XN.out 2
   generalize wr.alloc (.cells #[.bool x.sd,.int .i64 x.ch,.int .i64 x.v] 108)=W1 at XN HB OW NM e0 e1 e2 ⊢
   generalize wr.heap.size=A at XN e0 e1 e2 ⊢
   go_region_held3 (fun w'=>w'.cell? ⟨A,0,none⟩=some (.bool x.sd)∧w'.cell? ⟨A,1,none⟩=some (.int .i64 x.ch)∧w'.cell? ⟨A,2,none⟩=some (.int .i64 x.v))
    (first
      |go_keep
      |(go_split_ands
        refine⟨?_,?_,?_⟩<;>(refine cellB ?_ k2;assumption)))
    (first
      |(go_at_call 153;refine NM.out.mono ?_;rintro r z1 ⟨rfl,rfl⟩)
      |(go_at_call 149;refine (CLK.out _ (btr HB.out (bdrew1 _))).mono ?_;rintro r z2 ⟨rfl,k2⟩))
   have HB2:=hide (btr HB.out (btr (bdrew1 _) k2))
   have OW2:=hide (own_below OW.out (btr (bdrew1 _) k2))
   clear k2 HB OW NM CLK e0 e1 e2 XN
   cases hP:P k
   ·have EX:Hid (ps P (k+1)=X):=by show _=_;rw[SU.out,hP];simp
    have O3:Hid (z2.ownsRow w.heap.size 3 1 u7 (ps P (k+1)).length (ic (ps P (k+1)))):=by
     show World.ownsRow _ _ _ _ _ _ _
     rw[EX.out]
     exact OW2.out
    go_wp2_with fail
    go_roundw
    case rel=>
     first
      |exact⟨_,k+1,by omega,by go_num,rfl,O3.out,HB2.out⟩
      |exact⟨k+1,by omega,by go_num,O3.out,HB2.out⟩
    case measure=>simp[intOf];omega
   ·have EX:Hid (ps P (k+1)=X++[(k:Int)]):=by show _=_;rw[SU.out,hP];simp
    have BY:=below_alloc z2 (.cells #[.int .i64 (k:Int)] 3)
    have OW3:=hide (own_below OW2.out BY)
    have HB3:=hide (btr HB2.out BY)
    have SRC:=hide (cell_one_new z2 (.int .i64 (k:Int)) 3)
    clear BY OW2 HB2
    go_wp2_with (at_builtin;refine wpList_append_own _ rfl _ _ 23 rfl w.heap.size 3 i0 (.int .i64 0) 1 8 Tryz.underlying23 INF.out.1 INF.out.2.1 INF.out.2.2.1 INF.out.2.2.2 rfl (by decide) _ _ _ rfl OW3.out ⟨z2.heap.size,0,none⟩ 1 1 [.int .i64 (k:Int)] rfl rfl ?c1 ?c2 ?c3 ?c4 ?c5 ?_)
    case c1=>exact SRC.out
    case c2=>exact ic_one [(k:Int)]
    case c3=>unfold maxLen;omega
    case c4=>omega
    case c5=>exact HB3.out.size
    intro v' w3 ho hg3 _
    have B3:Hid (Below w.heap.size w w3):=HB3.out.grown hg3 HB3.out.size (fun x hx=>(OW3.out.lt x hx).1)
    have O3:Hid (w3.ownsRow w.heap.size 3 1 v' (ps P (k+1)).length (ic (ps P (k+1)))):=by
     show World.ownsRow _ _ _ _ _ _ _
     rw[EX.out,ic_app,List.length_append]
     exact ho
    clear ho hg3
    go_wp2_with fail
    go_roundw
    case rel=>
     first
      |exact⟨v',k+1,by omega,by go_num,rfl,O3.out,B3.out⟩
      |((repeat apply Exists.intro);exact⟨⟨v',k+1,by omega,by go_num,rfl,O3.out,B3.out⟩,rfl⟩)
    case measure=>simp[intOf];omega
  ·have hlt':¬((k:Int)<(l.length:Int)):=by omega
   obtain rfl:k=l.length:=by omega
   obtain⟨oa',c',hv',_,_⟩:=own_at ho
   subst hv'
   have HO:=hide ho
   have HB:=hide hb
   clear ho hb
   go_wp2_with fail
   go_ret
   exact⟨oa',c',rfl,HO.out,HB.out⟩
def crdy(sts:List (Option St))(c:Ca):Bool:=match nmB sts c.ch with|none=>false|some st=>rdy st c.sd
def rdyL(l:List Ca)(sts:List (Option St)):List Int:=ps (fun i=>match l[i]? with|none=>false|some c=>crdy sts c) l.length
theorem ready1_any(c:Ca)(o:Option Nat)(sts:List (Option St))(oa:Option Addr)(bs:List (Option Nat))(Fs:Nat→Nat→Prop)(w:World)(h:Qs Pp w oa bs Fs sts)(ho:o=nmB bs c.ch):
 Calls Tryz.prog 149 #[cv c,pt o] w fun r w'=>r=.returned (.bool (crdy sts c))∧Below w.heap.size w w':=by
 subst ho
 have BA:=hide (below_alloc w (.cells #[.bool c.sd,.int .i64 c.ch,.int .i64 c.v] 108))
 unfold cv crdy
 rcases h.nm c.ch with⟨e1,e2⟩|⟨B,st,e1,e2,_,_,_,_,q⟩
 ·rw[e1,e2]
  simp only[pt,Option.map_none]
  clear h
  go_enter Tryz.func149,Tryz.ntmps149
  go_wp2_with fail
  refine (Ready_nil c.sd _).mono ?_
  rintro r w2 ⟨rfl,b2⟩
  have B2:=hide (btr BA.out b2)
  clear b2
  go_wp2_with fail
  go_ret
  exact⟨rfl,B2.out⟩
 ·rw[e1,e2]
  have RD:=hide (Ready_any B _ st c.sd _ (q.below BA.out))
  simp only[pt,Option.map_some]
  clear h q
  go_enter Tryz.func149,Tryz.ntmps149
  go_wp2_with fail
  refine RD.out.mono ?_
  rintro r w2 ⟨rfl,b2⟩
  have B2:=hide (btr BA.out b2)
  clear b2
  go_wp2_with fail
  go_ret
  exact⟨rfl,B2.out⟩
theorem fready_any(oc:Option Addr)(l:List Ca)(cc:Nat)(oa:Option Addr)(bs:List (Option Nat))(cp:Nat)(Fs:Nat→Nat→Prop)(sts:List (Option St))(w:World)(hC:CaAt w oc l)(h:Qs Pp w oa bs Fs sts)(hl:l.length≤1000):
 Calls Tryz.prog 108 #[.slice oc l.length cc,.slice oa bs.length cp] w fun r w'=>∃ob d,r=.returned (.slice ob (rdyL l sts).length d)∧w'.ownsRow w.heap.size 3 1 (.slice ob (rdyL l sts).length d) (rdyL l sts).length (ic (rdyL l sts))∧Below w.heap.size w w':=by
 have GA:=hide (gather_r (fun i=>match l[i]? with|none=>false|some c=>crdy sts c) oc l cc oa bs cp w hC h.row hl (fun i c u hi hu=>by
  simp only[hi]
  exact ready1_any c _ sts oa bs Fs u (h.below frP hu) rfl))
 clear hC h
 unfold rdyL
 generalize ps (fun i=>match l[i]? with|none=>false|some c=>crdy sts c) l.length=R at GA ⊢
 go_enter Tryz.func108,Tryz.ntmps108
 go_wp2_with fail
 refine GA.out.mono ?_
 rintro r w1 ⟨ob,d,rfl,o1,b1⟩
 have O1:=hide o1
 have B1:=hide b1
 clear o1 b1
 go_wp2_with fail
 go_ret
 exact⟨ob,d,rfl,O1.out,B1.out⟩
end Fk
namespace Fk
open Ba Pe _root_.Go.Proofs.YtogkjaekfhjelaaGreat.Pi Rp
set_option maxRecDepth 100000 in
theorem gather_p(P:Nat→Bool)(oc:Option Addr)(l:List Ca)(cc:Nat)(oa:Option Addr)(bs:List (Option Nat))(cp:Nat)(w:World)(hC:CaAt w oc l)(hR:PR w oa bs)(hl:l.length≤1000)
 (CL:∀(i:Nat) (c:Ca) (u:World),l[i]? =some c→Below w.heap.size w u→Calls Tryz.prog 151 #[cv c,pt (nmB bs c.ch)] u fun r w'=>r=.returned (.bool (P i))∧Below u.heap.size u w'):
 Calls Tryz.prog 148 #[.slice oc l.length cc,.slice oa bs.length cp,.func (.func 151) #[] #[]] w fun r w'=>∃ob d,r=.returned (.slice ob (ps P l.length).length d)∧w'.ownsRow w.heap.size 3 1 (.slice ob (ps P l.length).length d) (ps P l.length).length (ic (ps P l.length))∧Below w.heap.size w w':=by
 cases hi:Tryz.prog.info? 3 with
 |none=>have:=info_i;rw[hi] at this;cases this
 |some i0=>
 have hx2:=info_i
 rw[hi] at hx2
 simp at hx2
 have INF:=hide (And.intro hi hx2)
 clear hx2 hi
 have HC:=hide hC
 have HR:=hide hR
 have HL:=hide CL
 clear hC hR CL
 go_enter Tryz.func148,Tryz.ntmps148
 go_wp2_with fail
 go_loopw [7,12] (fun rv i wr=>∃(v:Value) (k:Nat),k≤l.length∧i=.int .i64 k∧rv=v∧wr.ownsRow w.heap.size 3 1 v (ps P k).length (ic (ps P k))∧Below w.heap.size w wr) (fun _ i _=>l.length - (intOf i).toNat)
 case atStart=>exact⟨_,0,Nat.zero_le _,rfl,rfl,World.ownsRow_nil _ _ _ _,Below.refl _ _⟩
 case round=>
  obtain⟨v,k,hk,rfl,rfl,ho,hb⟩:=hrel
  by_cases hlt:k<l.length
  ·have hlt':(k:Int)<(l.length:Int):=by omega
   obtain⟨x,hx⟩:∃x,l[k]? =some x:=⟨_,List.getElem?_eq_getElem hlt⟩
   obtain⟨b,off,rfl,q0,q1,q2⟩:=HC.out.below hb k x hx
   have SU:=hide (ps_succ P k)
   have hpl:=ps_len P k
   have BX:=below_alloc wr (.cells #[.bool x.sd,.int .i64 x.ch,.int .i64 x.v] 108)
   have XN:=hide (heap_new wr (.cells #[.bool x.sd,.int .i64 x.ch,.int .i64 x.v] 108))
   have HB:=hide (btr hb BX)
   have OW:=hide (own_below ho BX)
   have NM:=hide (named_any oa bs x.ch cp ((wr.alloc (.cells #[.bool x.sd,.int .i64 x.ch,.int .i64 x.v] 108)).drew) (HR.out.below (btr HB.out (bdrew1 _))))
   have CLK:=hide fun u hu=>HL.out k x u hx hu
   unfold cv pt at CLK
   unfold pt at NM
   generalize (nmB bs x.ch).map (fun b=>(⟨b,0,none⟩:Addr))=pp at NM CLK
   clear hb hx BX ho
   obtain⟨X,hX⟩:∃X,X=ps P k:=⟨_,rfl⟩
   rw[←hX] at SU hpl OW
   clear hX
   go_wp2_with fail
   have e0:(wr.alloc (.cells #[.bool x.sd,.int .i64 x.ch,.int .i64 x.v] 108)).cell? ⟨wr.heap.size,0,none⟩=some (.bool x.sd):=cell_of XN.out 0
   have e1:(wr.alloc (.cells #[.bool x.sd,.int .i64 x.ch,.int .i64 x.v] 108)).cell? ⟨wr.heap.size,1,none⟩=some (.int .i64 x.ch):=cell_of XN.out 1
   have e2:(wr.alloc (.cells #[.bool x.sd,.int .i64 x.ch,.int .i64 x.v] 108)).cell? ⟨wr.heap.size,2,none⟩=some (.int .i64 x.v):=cell_of XN.out 2
   generalize wr.alloc (.cells #[.bool x.sd,.int .i64 x.ch,.int .i64 x.v] 108)=W1 at XN HB OW NM e0 e1 e2 ⊢
   generalize wr.heap.size=A at XN e0 e1 e2 ⊢
   go_region_held3 (fun w'=>w'.cell? ⟨A,0,none⟩=some (.bool x.sd)∧w'.cell? ⟨A,1,none⟩=some (.int .i64 x.ch)∧w'.cell? ⟨A,2,none⟩=some (.int .i64 x.v))
    (first
      |go_keep
      |(go_split_ands
        refine⟨?_,?_,?_⟩<;>(refine cellB ?_ k2;assumption)))
    (first
      |(go_at_call 153;refine NM.out.mono ?_;rintro r z1 ⟨rfl,rfl⟩)
      |(go_at_call 151;refine (CLK.out _ (btr HB.out (bdrew1 _))).mono ?_;rintro r z2 ⟨rfl,k2⟩))
   have HB2:=hide (btr HB.out (btr (bdrew1 _) k2))
   have OW2:=hide (own_below OW.out (btr (bdrew1 _) k2))
   clear k2 HB OW NM CLK e0 e1 e2 XN
   cases hP:P k
   ·have EX:Hid (ps P (k+1)=X):=by show _=_;rw[SU.out,hP];simp
    have O3:Hid (z2.ownsRow w.heap.size 3 1 u7 (ps P (k+1)).length (ic (ps P (k+1)))):=by
     show World.ownsRow _ _ _ _ _ _ _
     rw[EX.out]
     exact OW2.out
    go_wp2_with fail
    go_roundw
    case rel=>
     first
      |exact⟨_,k+1,by omega,by go_num,rfl,O3.out,HB2.out⟩
      |exact⟨k+1,by omega,by go_num,O3.out,HB2.out⟩
    case measure=>simp[intOf];omega
   ·have EX:Hid (ps P (k+1)=X++[(k:Int)]):=by show _=_;rw[SU.out,hP];simp
    have BY:=below_alloc z2 (.cells #[.int .i64 (k:Int)] 3)
    have OW3:=hide (own_below OW2.out BY)
    have HB3:=hide (btr HB2.out BY)
    have SRC:=hide (cell_one_new z2 (.int .i64 (k:Int)) 3)
    clear BY OW2 HB2
    go_wp2_with (at_builtin;refine wpList_append_own _ rfl _ _ 23 rfl w.heap.size 3 i0 (.int .i64 0) 1 8 Tryz.underlying23 INF.out.1 INF.out.2.1 INF.out.2.2.1 INF.out.2.2.2 rfl (by decide) _ _ _ rfl OW3.out ⟨z2.heap.size,0,none⟩ 1 1 [.int .i64 (k:Int)] rfl rfl ?c1 ?c2 ?c3 ?c4 ?c5 ?_)
    case c1=>exact SRC.out
    case c2=>exact ic_one [(k:Int)]
    case c3=>unfold maxLen;omega
    case c4=>omega
    case c5=>exact HB3.out.size
    intro v' w3 ho hg3 _
    have B3:Hid (Below w.heap.size w w3):=HB3.out.grown hg3 HB3.out.size (fun x hx=>(OW3.out.lt x hx).1)
    have O3:Hid (w3.ownsRow w.heap.size 3 1 v' (ps P (k+1)).length (ic (ps P (k+1)))):=by
     show World.ownsRow _ _ _ _ _ _ _
     rw[EX.out,ic_app,List.length_append]
     exact ho
    clear ho hg3
    go_wp2_with fail
    go_roundw
    case rel=>
     first
      |exact⟨v',k+1,by omega,by go_num,rfl,O3.out,B3.out⟩
      |((repeat apply Exists.intro);exact⟨⟨v',k+1,by omega,by go_num,rfl,O3.out,B3.out⟩,rfl⟩)
    case measure=>simp[intOf];omega
  ·have hlt':¬((k:Int)<(l.length:Int)):=by omega
   obtain rfl:k=l.length:=by omega
   obtain⟨oa',c',hv',_,_⟩:=own_at ho
   subst hv'
   have HO:=hide ho
   have HB:=hide hb
   clear ho hb
   go_wp2_with fail
   go_ret
   exact⟨oa',c',rfl,HO.out,HB.out⟩
set_option maxRecDepth 100000 in
theorem gather_s(X Y:Nat)(P:Nat→Bool)(oc:Option Addr)(l:List Ca)(cc:Nat)(oa:Option Addr)(bs:List (Option Nat))(cp:Nat)(w:World)(hC:CaAt w oc l)(hR:PR w oa bs)(hl:l.length≤1000)
 (CL:∀(i:Nat) (c:Ca) (u:World),l[i]? =some c→Below w.heap.size w u→Calls Tryz.prog 177 #[cv c,pt (nmB bs c.ch),.pointer (some ⟨X,0,none⟩),.pointer (some ⟨Y,0,none⟩)] u fun r w'=>r=.returned (.bool (P i))∧Below u.heap.size u w'):
 Calls Tryz.prog 148 #[.slice oc l.length cc,.slice oa bs.length cp,.func (.func 177) #[] #[.pointer (some ⟨X,0,none⟩),.pointer (some ⟨Y,0,none⟩)]] w fun r w'=>∃ob d,r=.returned (.slice ob (ps P l.length).length d)∧w'.ownsRow w.heap.size 3 1 (.slice ob (ps P l.length).length d) (ps P l.length).length (ic (ps P l.length))∧Below w.heap.size w w':=by
 cases hi:Tryz.prog.info? 3 with
 |none=>have:=info_i;rw[hi] at this;cases this
 |some i0=>
 have hx2:=info_i
 rw[hi] at hx2
 simp at hx2
 have INF:=hide (And.intro hi hx2)
 clear hx2 hi
 have HC:=hide hC
 have HR:=hide hR
 have HL:=hide CL
 clear hC hR CL
 go_enter Tryz.func148,Tryz.ntmps148
 go_wp2_with fail
 go_loopw [7,12] (fun rv i wr=>∃(v:Value) (k:Nat),k≤l.length∧i=.int .i64 k∧rv=v∧wr.ownsRow w.heap.size 3 1 v (ps P k).length (ic (ps P k))∧Below w.heap.size w wr) (fun _ i _=>l.length - (intOf i).toNat)
 case atStart=>exact⟨_,0,Nat.zero_le _,rfl,rfl,World.ownsRow_nil _ _ _ _,Below.refl _ _⟩
 case round=>
  obtain⟨v,k,hk,rfl,rfl,ho,hb⟩:=hrel
  by_cases hlt:k<l.length
  ·have hlt':(k:Int)<(l.length:Int):=by omega
   obtain⟨x,hx⟩:∃x,l[k]? =some x:=⟨_,List.getElem?_eq_getElem hlt⟩
   obtain⟨b,off,rfl,q0,q1,q2⟩:=HC.out.below hb k x hx
   have SU:=hide (ps_succ P k)
   have hpl:=ps_len P k
   have BX:=below_alloc wr (.cells #[.bool x.sd,.int .i64 x.ch,.int .i64 x.v] 108)
   have XN:=hide (heap_new wr (.cells #[.bool x.sd,.int .i64 x.ch,.int .i64 x.v] 108))
   have HB:=hide (btr hb BX)
   have OW:=hide (own_below ho BX)
   have NM:=hide (named_any oa bs x.ch cp ((wr.alloc (.cells #[.bool x.sd,.int .i64 x.ch,.int .i64 x.v] 108)).drew) (HR.out.below (btr HB.out (bdrew1 _))))
   have CLK:=hide fun u hu=>HL.out k x u hx hu
   unfold cv pt at CLK
   unfold pt at NM
   generalize (nmB bs x.ch).map (fun b=>(⟨b,0,none⟩:Addr))=pp at NM CLK
   clear hb hx BX ho
   obtain⟨X,hX⟩:∃X,X=ps P k:=⟨_,rfl⟩
   rw[←hX] at SU hpl OW
   clear hX
   go_wp2_with fail
   have e0:(wr.alloc (.cells #[.bool x.sd,.int .i64 x.ch,.int .i64 x.v] 108)).cell? ⟨wr.heap.size,0,none⟩=some (.bool x.sd):=cell_of XN.out 0
   have e1:(wr.alloc (.cells #[.bool x.sd,.int .i64 x.ch,.int .i64 x.v] 108)).cell? ⟨wr.heap.size,1,none⟩=some (.int .i64 x.ch):=cell_of XN.out 1
   have e2:(wr.alloc (.cells #[.bool x.sd,.int .i64 x.ch,.int .i64 x.v] 108)).cell? ⟨wr.heap.size,2,none⟩=some (.int .i64 x.v):=cell_of XN.out 2
   generalize wr.alloc (.cells #[.bool x.sd,.int .i64 x.ch,.int .i64 x.v] 108)=W1 at XN HB OW NM e0 e1 e2 ⊢
   generalize wr.heap.size=A at XN e0 e1 e2 ⊢
   go_region_held3 (fun w'=>w'.cell? ⟨A,0,none⟩=some (.bool x.sd)∧w'.cell? ⟨A,1,none⟩=some (.int .i64 x.ch)∧w'.cell? ⟨A,2,none⟩=some (.int .i64 x.v))
    (first
      |go_keep
      |(go_split_ands
        refine⟨?_,?_,?_⟩<;>(refine cellB ?_ k2;assumption)))
    (first
      |(go_at_call 153;refine NM.out.mono ?_;rintro r z1 ⟨rfl,rfl⟩)
      |(go_at_call 177;refine (CLK.out _ (btr HB.out (bdrew1 _))).mono ?_;rintro r z2 ⟨rfl,k2⟩))
   have HB2:=hide (btr HB.out (btr (bdrew1 _) k2))
   have OW2:=hide (own_below OW.out (btr (bdrew1 _) k2))
   clear k2 HB OW NM CLK e0 e1 e2 XN
   cases hP:P k
   ·have EX:Hid (ps P (k+1)=X):=by show _=_;rw[SU.out,hP];simp
    have O3:Hid (z2.ownsRow w.heap.size 3 1 u7 (ps P (k+1)).length (ic (ps P (k+1)))):=by
     show World.ownsRow _ _ _ _ _ _ _
     rw[EX.out]
     exact OW2.out
    go_wp2_with fail
    go_roundw
    case rel=>
     first
      |exact⟨_,k+1,by omega,by go_num,rfl,O3.out,HB2.out⟩
      |exact⟨k+1,by omega,by go_num,O3.out,HB2.out⟩
    case measure=>simp[intOf];omega
   ·have EX:Hid (ps P (k+1)=X++[(k:Int)]):=by show _=_;rw[SU.out,hP];simp
    have BY:=below_alloc z2 (.cells #[.int .i64 (k:Int)] 3)
    have OW3:=hide (own_below OW2.out BY)
    have HB3:=hide (btr HB2.out BY)
    have SRC:=hide (cell_one_new z2 (.int .i64 (k:Int)) 3)
    clear BY OW2 HB2
    go_wp2_with (at_builtin;refine wpList_append_own _ rfl _ _ 23 rfl w.heap.size 3 i0 (.int .i64 0) 1 8 Tryz.underlying23 INF.out.1 INF.out.2.1 INF.out.2.2.1 INF.out.2.2.2 rfl (by decide) _ _ _ rfl OW3.out ⟨z2.heap.size,0,none⟩ 1 1 [.int .i64 (k:Int)] rfl rfl ?c1 ?c2 ?c3 ?c4 ?c5 ?_)
    case c1=>exact SRC.out
    case c2=>exact ic_one [(k:Int)]
    case c3=>unfold maxLen;omega
    case c4=>omega
    case c5=>exact HB3.out.size
    intro v' w3 ho hg3 _
    have B3:Hid (Below w.heap.size w w3):=HB3.out.grown hg3 HB3.out.size (fun x hx=>(OW3.out.lt x hx).1)
    have O3:Hid (w3.ownsRow w.heap.size 3 1 v' (ps P (k+1)).length (ic (ps P (k+1)))):=by
     show World.ownsRow _ _ _ _ _ _ _
     rw[EX.out,ic_app,List.length_append]
     exact ho
    clear ho hg3
    go_wp2_with fail
    go_roundw
    case rel=>
     first
      |exact⟨v',k+1,by omega,by go_num,rfl,O3.out,B3.out⟩
      |((repeat apply Exists.intro);exact⟨⟨v',k+1,by omega,by go_num,rfl,O3.out,B3.out⟩,rfl⟩)
    case measure=>simp[intOf];omega
  ·have hlt':¬((k:Int)<(l.length:Int)):=by omega
   obtain rfl:k=l.length:=by omega
   obtain⟨oa',c',hv',_,_⟩:=own_at ho
   subst hv'
   have HO:=hide ho
   have HB:=hide hb
   clear ho hb
   go_wp2_with fail
   go_ret
   exact⟨oa',c',rfl,HO.out,HB.out⟩
end Fk
namespace Fk
open Ba Pe _root_.Go.Proofs.YtogkjaekfhjelaaGreat.Pi Rp
def All(Fs:Nat→Nat→Prop):Nat→Prop:=fun x=>∃i,Fs i x
def NwA(Fs' Fs:Nat→Nat→Prop)(w:World):Prop:=∀i x,Fs' i x→All Fs x∨w.heap.size≤x
theorem NwA.refl(Fs:Nat→Nat→Prop)(w:World):NwA Fs Fs w:=fun i _ h=>.inl ⟨i,h⟩
theorem NwA.trans{F G H:Nat→Nat→Prop}{a b:World}(h:NwA G F a)(k:NwA H G b)(hs:a.heap.size≤b.heap.size):NwA H F a:=by
 intro i x hx
 rcases k i x hx with⟨j,q⟩|q
 ·exact h j x q
 ·exact .inr (by omega)
theorem Qs.rl{Q:World→Nat→(Nat→Prop)→St→Prop}{w:World}{oa:Option Addr}{bs:List (Option Nat)}{Fs:Nat→Nat→Prop}{sts:List (Option St)}(h:Qs Q w oa bs Fs sts){i:Nat}{o:Option Nat}(hi:bs[i]? =some o):∀a,oa=some a→a.block<w.heap.size:=by
 intro a e
 obtain⟨b,off,e2,hc⟩:=h.row i o hi
 rw[e] at e2
 cases e2
 exact World.block_lt_of_cell? w ⟨b,off+i,none⟩ hc
def Rz(Q:World→Nat→(Nat→Prop)→St→Prop)(w w':World)(oa:Option Addr)(bs:List (Option Nat))(Fs:Nat→Nat→Prop)(sts:List (Option St)):Prop:=
 ∃Fs',NwA Fs' Fs w∧Qs Q w' oa bs Fs' sts∧KF (All Fs) w w'
theorem Rz.same{Q:World→Nat→(Nat→Prop)→St→Prop}(fr:Fr Q){w w':World}{oa:Option Addr}{bs:List (Option Nat)}{Fs:Nat→Nat→Prop}{sts:List (Option St)}(h:Qs Q w oa bs Fs sts)(hb:Below w.heap.size w w'):Rz Q w w' oa bs Fs sts:=⟨Fs,NwA.refl _ _,h.below fr hb,KF.of hb⟩
theorem Rz.trans{Q:World→Nat→(Nat→Prop)→St→Prop}{w a b:World}{oa:Option Addr}{bs:List (Option Nat)}{Fs Fs1:Nat→Nat→Prop}{sts:List (Option St)}(n1:NwA Fs1 Fs w)(k1:KF (All Fs) w a)(h:Rz Q a b oa bs Fs1 sts):Rz Q w b oa bs Fs sts:=by
 obtain⟨Fs',n,q,k⟩:=h
 exact⟨Fs',n1.trans n k1.size,q,k1.trans k (fun x hx=>by obtain⟨i,hi⟩:=hx;exact n1 i x hi)⟩
theorem Rz.step{Q:World→Nat→(Nat→Prop)→St→Prop}(fr:Fr Q){w a b:World}{oa:Option Addr}{bs:List (Option Nat)}{Fs:Nat→Nat→Prop}{sts:List (Option St)}(h:Qs Q w oa bs Fs sts)(hb:Below w.heap.size w a){i B:Nat}{F':Nat→Prop}{st':St}(hi:bs[i]? =some (some B))(k:KF (Fs i) a b)(n:Nw F' (Fs i) a)(q:Q b B F' st'):Rz Q w b oa bs Fs (sts.set i (some st')):=by
 have ha:=h.below fr hb
 refine⟨up Fs i F',fun j x hx=>?_,ha.step fr hi k n q (ha.rl hi),(KF.of (F:=All Fs) hb).trans k (fun x hx=>.inl ⟨i,hx⟩)⟩
 by_cases e:j=i
 ·subst e
  rw[up_same] at hx
  rcases n x hx with z|z
  ·exact .inl ⟨j,z⟩
  ·exact .inr (Nat.le_trans hb.size z)
 ·rw[up_other _ _ _ _ e] at hx
  exact .inl ⟨j,hx⟩
theorem Rz.set7{Q:World→Nat→(Nat→Prop)→St→Prop}(fr:Fr Q){w A:World}{oa:Option Addr}{bs:List (Option Nat)}{Fs:Nat→Nat→Prop}{sts:List (Option St)}{Z:Nat}(h:∃Fs',NwA Fs' Fs w∧Qs Q A oa bs Fs' sts∧KF (All Fs) w A∧∀i,¬Fs' i Z)(hz:w.heap.size≤Z)(hr:∀a,oa=some a→a.block<w.heap.size∨bs=[])(u0 u1 u2 u3 u4 u5 u6:Value):
 Rz Q w (((((((A.setCell ⟨Z,0,none⟩ u0).setCell ⟨Z,1,none⟩ u1).setCell ⟨Z,2,none⟩ u2).setCell ⟨Z,3,none⟩ u3).setCell ⟨Z,4,none⟩ u4).setCell ⟨Z,5,none⟩ u5).setCell ⟨Z,6,none⟩ u6) oa bs Fs sts:=by
 obtain⟨Fs',n,q,k,hn⟩:=h
 have K:=(((((((KB.refl Z A).setCell 0 u0).setCell 1 u1).setCell 2 u2).setCell 3 u3).setCell 4 u4).setCell 5 u5).setCell 6 u6
 refine⟨Fs',n,?_,((((((k.setNew hz 0 u0).setNew hz 1 u1).setNew hz 2 u2).setNew hz 3 u3).setNew hz 4 u4).setNew hz 5 u5).setNew hz 6 u6⟩
 have hs:∀i,Sm (Fs' i) A (((((((A.setCell ⟨Z,0,none⟩ u0).setCell ⟨Z,1,none⟩ u1).setCell ⟨Z,2,none⟩ u2).setCell ⟨Z,3,none⟩ u3).setCell ⟨Z,4,none⟩ u4).setCell ⟨Z,5,none⟩ u5).setCell ⟨Z,6,none⟩ u6):=fun i x hx=>K.block x (q.bd i x hx) (fun e=>hn i (e ▸ hx))
 by_cases hbs:bs=[]
 ·refine⟨fun i o hi=>by rw[hbs] at hi;simp at hi,q.len,fun i B hi=>by rw[hbs] at hi;simp at hi,fun i hi=>by rw[hbs] at hi;simp at hi,q.ap,q.nr,fun i=>(q.bd i).sm (hs i)⟩
 ·exact q.keep fr hs (fun a e hl=>K.block _ hl (by have:=(hr a e).resolve_right hbs;omega))
theorem waiter_any(g:Int)(p:Nat)(c:Ca)(w:World):
 Calls Tryz.prog 154 #[.int .i64 g,.int .i64 (p:Int),cv c] w fun r w'=>r=.returned (wv ⟨g,p,c.v⟩)∧Below w.heap.size w w':=by
 unfold cv wv
 go_enter Tryz.func154,Tryz.ntmps154
 go_wp2_with fail
 have hn:=heap_new (w.alloc (.cells #[.bool c.sd,.int .i64 c.ch,.int .i64 c.v] 108)) (.cells #[.int .i64 g,.int .i64 (p:Int),.int .i64 c.v] 169)
 rw[World.size_alloc] at hn
 exact bodyPost_ret (results_row1 Tryz.results154 _ _ _ _ rfl (loadVar_wt hn rfl)) rfl ⟨rfl,btr (below_alloc _ _) (below_alloc _ _)⟩
def tryG(sts:List (Option St))(c:Ca):Gt:=match nmB sts c.ch with|none=>gz|some st=>if c.sd then sendG st else recvG st
def tryE(sts:List (Option St))(c:Ca):Int:=match nmB sts c.ch with|none=>0|some st=>if c.sd then sendE st else 0
def tryS(sts:List (Option St))(c:Ca):List (Option St):=match nmB sts c.ch with|none=>sts|some st=>sts.set c.ch.toNat (some (if c.sd then sendS st c.v else recvS st))
def Sml(sts:List (Option St)):Prop:=∀(i:Nat) (st:St),sts[i]? =some (some st)→st.sent<1000000000∧st.got<1000000000
end Fk
end Go.Proofs.YtogkjaekfhjelaaGreat
