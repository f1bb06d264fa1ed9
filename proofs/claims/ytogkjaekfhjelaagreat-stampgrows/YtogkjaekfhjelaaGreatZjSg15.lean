import Derived.Test.YtogkjaekfhjelaaGreatZjSg14
import Derived.Deep.CutBlock
set_option maxHeartbeats 12800000
namespace Go.Proofs.YtogkjaekfhjelaaGreat
open Go.ChangeShapes Go.WideShapes Go.ChangeAt Go.RowKit
namespace Gu
open En Ba
section
variable {w w':World}{N R mb:Nat}{ev vs:Value}{D:DataW Unit}{cs:List Sv}{s:Gs}
theorem GR.below(h:GR w N R mb ev vs D cs s)(b:Below w.heap.size w w'):GR w' N R mb ev vs D cs s:=by
 refine⟨h.hN,heap_below h.hR b,own_below h.st b,?_,h.mi,h.len,fun i x c hx hc=>?_,h.dj,h.dv⟩
 ·obtain⟨es,ck,hb,r⟩:=h.mp
  exact⟨es,ck,heap_below hb b,r⟩
 ·obtain⟨v,r⟩:=h.ch i x c hx hc
  refine⟨v.keep fun hn=>?_,r⟩
  obtain⟨-,cur,hb,-⟩:=v.row hn
  rw[heap_below hb b,hb]
theorem GR.noR(h:GR w N R mb ev vs D cs s):vs.ownBlock≠some R∧R≠mb∧∀(i:Nat) x,cs[i]? =some x→x.nil=false→x.b≠R:=by
 refine⟨?_,?_,fun i x hx hn e=>?_⟩
 ·rcases h.st.2 with⟨rfl,-⟩|⟨g,cap,cur,rfl,-,q3,-⟩
  ·intro e;cases e
  ·intro e;cases e;have:=h.hR;rw[q3] at this;cases this
 ·intro e
  obtain⟨es,ck,hb,-⟩:=h.mp
  have:=h.hR
  rw[e,hb] at this;cases this
 ·have hil:i<cs.length:=(List.getElem?_eq_some_iff.1 hx).1
  obtain⟨c,hc⟩:∃c,s.ch[i]? =some c:=⟨_,List.getElem?_eq_getElem (by rw[←h.len];exact hil)⟩
  obtain⟨-,cur,hb,-⟩:=(h.ch i x c hx hc).1.row hn
  have:=h.hR
  rw[←e,hb] at this;cases this
theorem GR.setR(h:GR w N R mb ev vs D cs s)(k:KB R w w'){s':Gs}{vs':Value}(hR:w'.heap[R]? =some (.cells #[ev,vs',.map (some mb),.bool s'.pn,.int .i64 s'.la.k,.int .i64 s'.la.g,.int .i64 s'.la.c,.int .i64 s'.la.a,.int .i64 s'.la.v,.int .i64 s'.la.m,.bool s'.la.s,.bool s'.la.o] 138 (0,0)))(hv:vs'=vs)(hst:s'.st=s.st)(hch:s'.ch=s.ch):GR w' N R mb ev vs' D cs s':=by
 subst hv
 obtain⟨n1,n2,n3⟩:=h.noR
 refine⟨h.hN,hR,by rw[hst];exact own_kb h.st k n1,?_,h.mi,by rw[hch];exact h.len,fun i x c hx hc=>?_,h.dj,h.dv⟩
 ·obtain⟨es,ck,hb,r⟩:=h.mp
  exact⟨es,ck,k.heap hb (Ne.symm n2),r⟩
 ·rw[hch] at hc
  obtain⟨v,r⟩:=h.ch i x c hx hc
  refine⟨v.keep fun hn=>?_,r⟩
  obtain⟨-,cur,hb,-⟩:=v.row hn
  rw[k.heap hb (n3 i x hx hn),hb]
theorem own_set_at{g cap:Nat}{L:List Int}(h:w.ownsRow N 3 1 (.slice (some ⟨g,0,none⟩) L.length cap) L.length (ic L))(j:Nat)(y:Int):(w.setCell ⟨g,j,none⟩ (.int .i64 y)).ownsRow N 3 1 (.slice (some ⟨g,0,none⟩) L.length cap) (L.set j y).length (ic (L.set j y)):=by
 rcases h.2 with⟨e,-⟩|⟨g',cap',cur,e,q1,q2,q3,q4,q5,q6⟩
 ·cases e
 ·cases e
  refine⟨by rw[ic_len,Nat.mul_one],.inr ⟨g,cap,_,by rw[List.length_set],q1,Ba.heap_setCell_same q2 _,by rw[List.length_set];exact q3,q4,by simpa using q5,?_⟩⟩
  rw[List.length_set]
  unfold ic
  rw[List.map_set]
  have:(cur.setIfInBounds j (.int .i64 y)).toList=cur.toList.set j (.int .i64 y):=by simp
  rw[this,List.take_set,q6]
  rfl
theorem own_st_cell{g cap:Nat}{L:List Int}(h:w.ownsRow N 3 1 (.slice (some ⟨g,0,none⟩) L.length cap) L.length (ic L))(j:Nat)(hj:j<L.length):w.cell? ⟨g,j,none⟩=some (.int .i64 (L.getD j 0))∧w.frozen? ⟨g,j,none⟩=false∧N≤g:=by
 rcases h.2 with⟨e,-⟩|⟨g',cap',cur,e,q1,q2,q3,q4,q5,q6⟩
 ·cases e
 ·cases e
  refine⟨?_,frozen_of q2 j,q1⟩
  rw[cell_of q2]
  have e1:(ic L)[j]? =some (.int .i64 (L.getD j 0)):=by simp[ic,List.getElem?_eq_getElem hj,List.getD_eq_getElem?_getD]
  rw[←q6,List.getElem?_take,if_pos (by omega)] at e1
  simpa using e1
theorem GR.set{g cap:Nat}(h:GR w N R mb ev (.slice (some ⟨g,0,none⟩) s.st.length cap) D cs s)(j:Nat)(y:Int):GR (w.setCell ⟨g,j,none⟩ (.int .i64 y)) N R mb ev (.slice (some ⟨g,0,none⟩) s.st.length cap) D cs {s with st:=s.st.set j y}:=by
 have K:=(KB.refl g w).setCell j (.int .i64 y)
 have nR:R≠g:=fun e=>h.noR.1 (by rw[e];rfl)
 refine⟨h.hN,K.heap h.hR nR,own_set_at h.st j y,?_,h.mi,h.len,fun i x c hx hc=>?_,h.dj,h.dv⟩
 ·obtain⟨es,ck,hb,r⟩:=h.mp
  refine⟨es,ck,K.heap hb ?_,r⟩
  rintro rfl
  rcases h.st.2 with⟨e,-⟩|⟨g',cap',cur,e,-,q3,-⟩
  ·cases e
  ·cases e;rw[hb] at q3;cases q3
 ·obtain⟨v,r⟩:=h.ch i x c hx hc
  refine⟨v.keep fun hn=>?_,r⟩
  obtain⟨-,cur,hb,-⟩:=v.row hn
  have:=h.dv i x hx hn
  rw[K.heap hb (fun e=>this (by rw[e];rfl)),hb]
theorem GR.row(h:GR w N R mb ev vs D cs s){w1:World}(hg:w.grownBy w1 vs.ownBlock){v':Value}{L:List Int}(ho:w1.ownsRow N 3 1 v' L.length (ic L))(hat:v'.ownBlock=vs.ownBlock∨v'.ownBlock=some w.heap.size):GR (w1.setCell ⟨R,1,none⟩ v') N R mb ev v' D cs {s with st:=L}:=by
 obtain⟨n1,n2,n3⟩:=h.noR
 have K:=(KB.refl R w1).setCell 1 v'
 have g1:∀{b:Nat} {o:Obj},w.heap[b]? =some o→vs.ownBlock≠some b→w1.heap[b]? =some o:=fun hb hn=>(hg.block _ (heap_lt hb) (fun e=>hn e.symm)).trans hb
 have hR1:=g1 h.hR n1
 have nv:v'.ownBlock≠some R:=by
  rcases hat with q|q
  ·rw[q];exact n1
  ·rw[q];intro e;injection e with e;have:=heap_lt h.hR;omega
 refine⟨h.hN,Ba.heap_setCell_same hR1 _,own_kb ho K nv,?_,h.mi,h.len,fun i x c hx hc=>?_,h.dj,fun i x hx hn=>?_⟩
 ·obtain⟨es,ck,hb,r⟩:=h.mp
  refine⟨es,ck,K.heap (g1 hb ?_) (Ne.symm n2),r⟩
  intro e
  rcases h.st.2 with⟨rfl,-⟩|⟨g',cap',cur,rfl,-,q3,-⟩
  ·cases e
  ·cases e;rw[hb] at q3;cases q3
 ·obtain⟨v,r⟩:=h.ch i x c hx hc
  refine⟨v.keep fun hn=>?_,r⟩
  obtain⟨-,cur,hb,-⟩:=v.row hn
  rw[K.heap (g1 hb (h.dv i x hx hn)) (n3 i x hx hn),hb]
 ·rcases hat with q|q
  ·rw[q];exact h.dv i x hx hn
  ·rw[q];intro e;injection e with e
   have hil:i<cs.length:=(List.getElem?_eq_some_iff.1 hx).1
   obtain⟨c,hc⟩:∃c,s.ch[i]? =some c:=⟨_,List.getElem?_eq_getElem (by rw[←h.len];exact hil)⟩
   obtain⟨-,cur,hb,-⟩:=(h.ch i x c hx hc).1.row hn
   have:=heap_lt hb
   omega
end
structure Fb(N:Nat)(w w':World):Prop where
 b:Below N w w'
 f:∀(k:Nat) (cc:Array Value),w.heap[k]? =some (.cells cc 67 (0,0))→w'.heap[k]? =some (.cells cc 67 (0,0))
section
variable {w0 w w':World}{N R mb:Nat}{ev vs:Value}{D:DataW Unit}{cs:List Sv}{s:Gs}
theorem Fb.of(h:Below w.heap.size w w')(hN:N≤w.heap.size):Fb N w w':=⟨h.mono hN,fun _ _ hk=>heap_below hk h⟩
theorem Fb.trans(h:Fb N w0 w)(k:Fb N w w'):Fb N w0 w':=⟨h.b.trans k.b,fun i cc hi=>k.f i cc (h.f i cc hi)⟩
theorem Fb.size(h:Fb N w w'):w.heap.size≤w'.heap.size:=h.b.size
theorem Fb.set{i k:Nat}{v:Value}{cc:Array Value}{t:TypeId}(h:Fb N w0 w)(hk:w.heap[k]? =some (.cells cc t (0,0)))(ht:t≠67)(hN:N≤k):Fb N w0 (w.setCell ⟨k,i,none⟩ v):=
 ⟨below_set h.b hN,fun j c2 hj=>(Below.heap_setCell _ _ _ _ (by show j≠k;intro e;have:=h.f j c2 hj;rw[e,hk] at this;cases this;exact ht rfl)).trans (h.f j c2 hj)⟩
theorem Fb.setR{i:Nat}{v:Value}(h:Fb N w0 w)(g:GR w N R mb ev vs D cs s):Fb N w0 (w.setCell ⟨R,i,none⟩ v):=h.set g.hR (by decide) g.hN.1
theorem Fb.setS{i sg n c:Nat}{v:Value}(h:Fb N w0 w)(g:GR w N R mb ev (.slice (some ⟨sg,0,none⟩) n c) D cs s)(hN:N≤sg):Fb N w0 (w.setCell ⟨sg,i,none⟩ v):=by
 rcases g.st.2 with⟨e,-⟩|⟨g',cap',cur,e,-,q3,-⟩
 ·cases e
 ·cases e
  exact h.set q3 (by decide) hN
theorem Fb.kb{C:Nat}{cc:Array Value}{t:TypeId}(h:Fb N w0 w)(k:KB C w w')(hC:N≤C)(hN:N≤w0.heap.size)(hk:w.heap[C]? =some (.cells cc t (0,0)))(ht:t≠67):Fb N w0 w':=by
 refine⟨⟨k.os.trans h.b.os,k.tape.trans h.b.tape,k.output.trans h.b.output,Nat.le_trans h.b.size k.size,fun j hj=>(k.block j (by have:=h.b.size;omega) (by omega)).trans (h.b.block j hj)⟩,fun j c2 hj=>?_⟩
 have h1:=h.f j c2 hj
 exact k.heap h1 (fun e=>by rw[e,hk] at h1;cases h1;exact ht rfl)
theorem Fb.row{w1:World}{v:Value}(h:Fb N w0 w)(g:GR w N R mb ev vs D cs s)(hg:w.grownBy w1 vs.ownBlock)(b:Below N w0 (w1.setCell ⟨R,1,none⟩ v)):Fb N w0 (w1.setCell ⟨R,1,none⟩ v):=by
 refine⟨b,fun j c2 hj=>?_⟩
 have h1:=h.f j c2 hj
 have h2:w1.heap[j]? =some (.cells c2 67 (0,0)):=(hg.block j (heap_lt h1) (fun e=>by
  rcases g.st.2 with⟨rfl,-⟩|⟨g',cap',cur,rfl,-,q3,-⟩
  ·cases e
  ·cases e;rw[q3] at h1;cases h1)).trans h1
 exact (Below.heap_setCell _ _ _ _ (by show j≠R;intro e;rw[e,g.hR] at h1;cases h1)).trans h2
end
def GoP(R2:Option (List Int × Bool))(N R:Nat)(ev:Value)(s:Gs)(w:World)(r:Ending)(w':World):Prop:=((R2=none∧r=.returned (.bool false))∨∃st pn,R2=some (st,pn)∧r=.returned (.bool true)∧GW w' N R ev {s with st:=st,pn:=pn})∧Fb N w w'
theorem GoP.no{R2:Option (List Int × Bool)}{N R:Nat}{ev:Value}{s:Gs}{w w':World}(h:R2=none)(b:Fb N w w'):GoP R2 N R ev s w (.returned (.bool false)) w':=⟨.inl ⟨h,rfl⟩,b⟩
theorem GoP.yes{R2:Option (List Int × Bool)}{N R mb:Nat}{ev vs:Value}{D:DataW Unit}{cs:List Sv}{s:Gs}{w w':World}{st:List Int}{pn:Bool}(h:R2=some (st,pn))(g:GR w' N R mb ev vs D cs {s with st:=st,pn:=pn})(b:Fb N w w'):GoP R2 N R ev s w (.returned (.bool true)) w':=⟨.inr ⟨st,pn,h,rfl,mb,vs,D,cs,g⟩,b⟩
set_option maxRecDepth 100000 in
theorem gor_any{w:World}{N R c:Nat}{oa:Option Addr}{l:List Ev}{s:Gs}(h:GW w N R (.slice oa l.length c) s)(hA:EsAt w oa l){i:Nat}{e:Ev}(hi:l[i]? =some e)(hg:e.k≠13→0≤e.g)(hst:s.st.length≤3000)(hNw:N≤w.heap.size):
 Calls Tryz.prog 77 #[.pointer (some ⟨R,0,none⟩),.int .i64 (i:Int)] w fun r w'=>GoP (r2 s.st s.pn e) N R (.slice oa l.length c) s w r w':=by
 obtain⟨mb,vs,D,cs,h⟩:=h
 have hil:i<l.length:=(List.getElem?_eq_some_iff.1 hi).1
 obtain⟨b1,o1,rfl,-⟩:=hA i e hi
 obtain⟨p0,p1,p2,p3,p4,p5,p6,p7⟩:=hA.read hi
 have hiM:(i:Int)<(l.length:Int):=by omega
 clear hA hi
 generalize l.length=M at*
 obtain⟨va,vc,rfl⟩:=own_sl h.st
 have H0:=hide h
 have H1:=hide (h.below (below_alloc w (.cells #[.int .i64 e.k,.int .i64 e.g,.int .i64 e.c,.int .i64 e.a,.int .i64 e.v,.int .i64 e.m,.bool e.s,.bool e.o] 40)))
 have E1:=hide (heap_new w (.cells #[.int .i64 e.k,.int .i64 e.g,.int .i64 e.c,.int .i64 e.a,.int .i64 e.v,.int .i64 e.m,.bool e.s,.bool e.o] 40))
 have B1:=hide (Fb.of (below_alloc w (.cells #[.int .i64 e.k,.int .i64 e.g,.int .i64 e.c,.int .i64 e.a,.int .i64 e.v,.int .i64 e.m,.bool e.s,.bool e.o] 40)) hNw)
 have hRw:R<w.heap.size:=heap_lt h.hR
 have c0:w.cell? ⟨R,0,none⟩=some (.slice (some ⟨b1,o1,none⟩) M c):=cell_of h.hR 0
 have RR:∀q,Hid (r2 s.st s.pn e=q)→Hid (r2 s.st s.pn e=q):=fun _ h=>h
 clear RR
 obtain⟨R2,hR2⟩:∃R2,r2 s.st s.pn e=R2:=⟨_,rfl⟩
 rw[hR2]
 unfold r2 at hR2
 clear h
 obtain⟨E,hE⟩:∃E,w.heap.size=E:=⟨_,rfl⟩
 go_enter Tryz.func77,Tryz.ntmps77
 go_upto_region 2 with fail
 rw[hE] at E1 hRw
 clear p0 p1 p2 p3 p4 p5 p6 p7 hE c0
 generalize w.alloc (.cells #[.int .i64 e.k,.int .i64 e.g,.int .i64 e.c,.int .i64 e.a,.int .i64 e.v,.int .i64 e.m,.bool e.s,.bool e.o] 40)=W1 at*
 have c0:W1.cell? ⟨R,0,none⟩=some (.slice (some ⟨b1,o1,none⟩) M c):=cell_of H1.out.hR 0
 have c1:W1.cell? ⟨R,1,none⟩=some (.slice va s.st.length vc):=cell_of H1.out.hR 1
 have c3:W1.cell? ⟨R,3,none⟩=some (.bool s.pn):=cell_of H1.out.hR 3
 have v0:W1.cell? ⟨E,0,none⟩=some (.int .i64 e.k):=cell_of E1.out 0
 have v1:W1.cell? ⟨E,1,none⟩=some (.int .i64 e.g):=cell_of E1.out 1
 have v5:W1.cell? ⟨E,5,none⟩=some (.int .i64 e.m):=cell_of E1.out 5
 cases hpn:s.pn
 case true=>
  rw[hpn] at hR2 c3
  rw[if_pos rfl] at hR2
  go_wp2_with fail
  go_ret
  exact GoP.no hR2.symm B1.out
 rw[hpn] at hR2 c3
 rw[if_neg (by simp)] at hR2
 by_cases h13:e.k=13
 ·rw[if_pos h13] at hR2
  have d13:(e.k==13)=true:=by simp[h13]
  go_wp2_with fail
  go_ret
  have hse:({s with st:=s.st,pn:=false}:Gs)=s:=by rw[←hpn]
  exact GoP.yes hR2.symm (by rw[hse];exact H1.out) B1.out
 have d13:(e.k==13)=false:=by simp[h13]
 have g0:=hg h13
 rw[if_neg h13] at hR2
 by_cases hge:(s.st.length:Int)≤e.g
 ·rw[if_pos hge] at hR2
  have dge:decide ((s.st.length:Int)≤e.g)=true:=decide_eq_true hge
  clear hg
  generalize s.st.length=SL at*
  go_wp2_with fail
  go_quiet (fail)
  go_wp2_with fail
  go_ret
  exact GoP.no hR2.symm (B1.out.trans (Fb.of (bdrew _ _) (by have:=B1.out.size;omega)))
 have dge:decide ((s.st.length:Int)≤e.g)=false:=decide_eq_false hge
 rw[if_neg hge] at hR2
 obtain⟨j,hj⟩:∃j:Nat,e.g=(j:Int):=⟨e.g.toNat,by omega⟩
 rw[hj] at v1 hR2 dge
 rw[Int.toNat_natCast] at hR2
 have hjl:j<s.st.length:=by omega
 have hjl':(j:Int)<(s.st.length:Int):=by omega
 obtain⟨sg,rfl⟩:∃sg,va=some ⟨sg,0,none⟩:=by
  rcases H1.out.st.2 with⟨e0,h0⟩|⟨g,cap,cur,e0,-⟩
  ·omega
  ·cases e0;exact⟨g,rfl⟩
 obtain⟨sc,sf,sN⟩:=own_st_cell H1.out.st j hjl
 have HL:=hide hjl
 have MY:=hide (fun q=>mayDo_any (s.st.getD j 0) e.k (W1.drewN q))
 obtain⟨my,hmy⟩:∃my,may (s.st.getD j 0) e.k=my:=⟨_,rfl⟩
 rw[hmy] at hR2 MY
 obtain⟨tv,htv⟩:∃tv,s.st.getD j 0=tv:=⟨_,rfl⟩
 rw[htv] at sc MY
 obtain⟨SL,hSL⟩:∃SL,s.st.length=SL:=⟨_,rfl⟩
 have HSL:=hide hSL
 rw[hSL] at c1 dge hjl hjl' hR2 hst
 have dgeN:decide (SL≤j)=false:=by simp;omega
 have HJ:=hide hj
 have HTV:=hide htv
 clear hmy htv hj hg hge g0 h13 hSL
 go_upto_region 6 with fail
 go_cut [41] (fun s41 wc=>s41=.bool (!my)∧∃q,wc=W1.drewN q)
 case first=>
  go_quiet ((go_at_call 115;exact Calls.quiet_of_same (MY.out _)))
  go_wp2_with fail
  go_meet
  case rel=>exact⟨rfl,_,rfl⟩
 case rest=>
 obtain⟨rfl,q1,e1⟩:=hcut
 have K1:Below W1.heap.size W1 wc:=by rw[e1];exact bdrew _ _
 have H2:=hide (H1.out.below K1)
 have E2:=hide (heap_below E1.out K1)
 have B2:=hide (B1.out.trans (Fb.of K1 (by have:=B1.out.size;omega)))
 clear e1 K1 c0 c1 c3 v0 v1 v5 sc sf H1 E1 B1 MY
 rename World=>W2
 have c1:W2.cell? ⟨R,1,none⟩=some (.slice (some ⟨sg,0,none⟩) SL vc):=by rw[←HSL.out];exact cell_of H2.out.hR 1
 have c3:W2.cell? ⟨R,3,none⟩=some (.bool false):=by rw[←hpn];exact cell_of H2.out.hR 3
 have v0:W2.cell? ⟨E,0,none⟩=some (.int .i64 e.k):=cell_of E2.out 0
 have v5:W2.cell? ⟨E,5,none⟩=some (.int .i64 e.m):=cell_of E2.out 5
 have v1:W2.cell? ⟨E,1,none⟩=some (.int .i64 (j:Int)):=by rw[←HJ.out];exact cell_of E2.out 1
 obtain⟨sc0,sf,-⟩:=own_st_cell H2.out.st j HL.out
 have sc:W2.cell? ⟨sg,j,none⟩=some (.int .i64 tv):=by rw[←HTV.out];exact sc0
 have SAME:Hid (∀(u:World) (st:List Int) (vv:Value),GR u N R mb (.slice (some ⟨b1,o1,none⟩) M c) vv D cs {s with st:=st}→GR u N R mb (.slice (some ⟨b1,o1,none⟩) M c) vv D cs {s with st:=st,pn:=false}):=fun u st vv h=>by rw[←hpn];exact h
 clear sc0
 cases my
 ·rw[if_pos rfl] at hR2
  go_wp2_with fail
  go_ret
  exact GoP.no hR2.symm B2.out
 rw[if_neg (by simp)] at hR2
 by_cases k1:e.k=1
 ·rw[if_pos k1] at hR2
  have d1:(e.k==1)=true:=by simp[k1]
  clear k1
  by_cases hmm:e.m=(SL:Int)
  case neg=>
   rw[if_pos hmm] at hR2
   have dm:(e.m !=(SL:Int))=true:=by simp[hmm]
   go_wp2_with fail
   go_quiet (fail)
   go_wp2_with fail
   go_ret
   exact GoP.no hR2.symm (B2.out.trans (Fb.of (bdrew _ _) (by have:=B2.out.size;omega)))
  rw[if_neg (by simp[hmm])] at hR2
  have dm:(e.m !=(SL:Int))=false:=by simp[hmm]
  clear hmm
  obtain⟨i0,hi0,hz0,hz1,hz2⟩:=info_parts info_int
  have INF:=hide (And.intro hi0 (And.intro hz0 (And.intro hz1 hz2)))
  clear hi0 hz0 hz1 hz2
  go_upto_region 10 with fail
  go_cut [53] (fun s53 wc=>s53=.bool false∧∃q,wc=W2.drewN q)
  case first=>
   go_quiet (fail)
   go_wp2_with fail
   go_meet
   case rel=>exact⟨rfl,_,rfl⟩
  case rest=>
  obtain⟨rfl,q2,e2⟩:=hcut
  have K2:Below W2.heap.size W2 wc:=by rw[e2];exact bdrew _ _
  have H3:=hide (H2.out.below K2)
  have B3:=hide (B2.out.trans (Fb.of K2 (by have:=B2.out.size;omega)))
  clear e2 K2 c1 c3 v0 v5 v1 sc sf H2 E2 B2
  rename World=>W3
  have c1:W3.cell? ⟨R,1,none⟩=some (.slice (some ⟨sg,0,none⟩) SL vc):=by rw[←HSL.out];exact cell_of H3.out.hR 1
  have H4:=hide (H3.out.below (below_alloc W3 (.cells #[.int .i64 0] 3)))
  have B4:=hide (B3.out.trans (Fb.of (below_alloc W3 (.cells #[.int .i64 0] 3)) (by have:=B3.out.size;omega)))
  have SRC:=hide (cell_one_new W3 (.int .i64 0) 3)
  have OW:Hid ((W3.alloc (.cells #[.int .i64 0] 3)).ownsRow N 3 1 (.slice (some ⟨sg,0,none⟩) SL vc) SL (ic s.st)):=by rw[←HSL.out];exact H4.out.st
  go_wp2_with (at_builtin;refine wpList_append_own_at _ rfl _ _ 23 rfl N 3 i0 (.int .i64 0) 1 8 Tryz.underlying23 INF.out.1 INF.out.2.1 INF.out.2.2.1 INF.out.2.2.2 rfl (by decide) _ _ _ rfl OW.out ⟨W3.heap.size,0,none⟩ 1 1 [.int .i64 0] rfl rfl ?c1 ?c2 ?c3 ?c4 ?c5 ?_)
  case c1=>exact SRC.out
  case c2=>exact ic_one [0]
  case c3=>unfold maxLen;omega
  case c4=>omega
  case c5=>have:=B4.out.size;omega
  intro v' w4 ho hg4 _ hat
  have O4:Hid (w4.ownsRow N 3 1 v' (s.st++[0]).length (ic (s.st++[0]))):=by
   show World.ownsRow _ _ _ _ _ _ _
   rw[ic_app,List.length_append,HSL.out];exact ho
  obtain⟨oa4,cc4,rfl⟩:=own_sl O4.out
  have H5:=hide (H4.out.row hg4 O4.out (hat.imp id (fun q=>by rw[World.size_alloc];exact q)))
  have B5:=hide (Fb.row B4.out H4.out (by rw[HSL.out];exact hg4) (below_set (i:=1) (v:=.slice oa4 (s.st++[0]).length cc4) (B4.out.b.grown hg4 (by have:=B4.out.size;omega) (fun x hx=>(OW.out.lt x hx).1)) H3.out.hN.1))
  have hR4:w4.heap[R]? =_:=(hg4.block R (heap_lt H4.out.hR) (fun e=>H4.out.noR.1 e.symm)).trans H4.out.hR
  have e1:w4.cell? ⟨R,1,none⟩=some (.slice (some ⟨sg,0,none⟩) s.st.length vc):=cell_of hR4 1
  have z1:=frozen_of hR4 1
  obtain⟨LL,hLL⟩:∃LL,(s.st++[0]).length=LL:=⟨_,rfl⟩
  rw[hLL] at H5 B5 ⊢
  clear ho hg4 hat hR4 hLL O4
  go_wp2_with fail
  go_ret
  exact GoP.yes hR2.symm (SAME.out _ _ _ H5.out) B5.out
 have d1:(e.k==1)=false:=by simp[k1]
 rw[if_neg k1] at hR2
 by_cases k6:e.k=6
 ·rw[if_pos k6] at hR2
  have d6:(e.k==6)=true:=by simp[k6]
  have H3:=hide ((H2.out.below (bdrew1 _)).set j 1)
  have B3:=hide (Fb.setS (i:=j) (v:=.int .i64 1) (B2.out.trans (Fb.of (bdrew1 W2) (by have:=B2.out.size;omega))) (H2.out.below (bdrew1 _)) sN)
  have c1':W2.drew.cell? ⟨R,1,none⟩=some (.slice (some ⟨sg,0,none⟩) SL vc):=c1
  have v1':W2.drew.cell? ⟨E,1,none⟩=some (.int .i64 (j:Int)):=v1
  have sc':W2.drew.cell? ⟨sg,j,none⟩=some (.int .i64 tv):=sc
  have sf':W2.drew.frozen? ⟨sg,j,none⟩=false:=sf
  clear k6
  go_upto_region 14 with fail
  go_region
  all_goals
   go_wp2_with fail
   go_ret
   exact GoP.yes hR2.symm (SAME.out _ _ _ H3.out) B3.out
 have d6:(e.k==6)=false:=by simp[k6]
 rw[if_neg k6] at hR2
 by_cases k7:e.k=7
 ·rw[if_pos k7] at hR2
  have d7:(e.k==7)=true:=by simp[k7]
  have H3:=hide ((H2.out.below (bdrew1 _)).set j 0)
  have B3:=hide (Fb.setS (i:=j) (v:=.int .i64 0) (B2.out.trans (Fb.of (bdrew1 W2) (by have:=B2.out.size;omega))) (H2.out.below (bdrew1 _)) sN)
  have c1':W2.drew.cell? ⟨R,1,none⟩=some (.slice (some ⟨sg,0,none⟩) SL vc):=c1
  have v1':W2.drew.cell? ⟨E,1,none⟩=some (.int .i64 (j:Int)):=v1
  have sc':W2.drew.cell? ⟨sg,j,none⟩=some (.int .i64 tv):=sc
  have sf':W2.drew.frozen? ⟨sg,j,none⟩=false:=sf
  clear k7
  go_upto_region 16 with fail
  go_region
  all_goals
   go_wp2_with fail
   go_ret
   exact GoP.yes hR2.symm (SAME.out _ _ _ H3.out) B3.out
 have d7:(e.k==7)=false:=by simp[k7]
 rw[if_neg k7] at hR2
 by_cases k11:e.k=11
 ·rw[if_pos k11] at hR2
  have d11:(e.k==11)=true:=by simp[k11]
  have H3:=hide ((H2.out.below (bdrew1 _)).set j 2)
  have B3:=hide (Fb.setS (i:=j) (v:=.int .i64 2) (B2.out.trans (Fb.of (bdrew1 W2) (by have:=B2.out.size;omega))) (H2.out.below (bdrew1 _)) sN)
  have c1':W2.drew.cell? ⟨R,1,none⟩=some (.slice (some ⟨sg,0,none⟩) SL vc):=c1
  have v1':W2.drew.cell? ⟨E,1,none⟩=some (.int .i64 (j:Int)):=v1
  have sc':W2.drew.cell? ⟨sg,j,none⟩=some (.int .i64 tv):=sc
  have sf':W2.drew.frozen? ⟨sg,j,none⟩=false:=sf
  clear k11
  go_upto_region 18 with fail
  go_region
  all_goals
   go_wp2_with fail
   go_ret
   exact GoP.yes hR2.symm (SAME.out _ _ _ H3.out) B3.out
 have d11:(e.k==11)=false:=by simp[k11]
 rw[if_neg k11] at hR2
 by_cases k12:e.k=12
 ·rw[if_pos k12] at hR2
  have d12:(e.k==12)=true:=by simp[k12]
  have z3:=frozen_of H2.out.hR 3
  have H3:=hide (H2.out.setR ((KB.refl R W2).setCell 3 (.bool true)) (s':={s with pn:=true}) (Ba.heap_setCell_same H2.out.hR _) rfl rfl rfl)
  have B3:=hide (Fb.setR (i:=3) (v:=.bool true) B2.out H2.out)
  clear k12
  go_wp2_with fail
  go_ret
  exact GoP.yes hR2.symm H3.out B3.out
 have d12:(e.k==12)=false:=by simp[k12]
 rw[if_neg k12] at hR2
 go_wp2_with fail
 go_ret
 exact GoP.yes hR2.symm (SAME.out _ _ _ H2.out) B2.out
end Gu
namespace Gu
open En Ba
theorem own_tight{w:World}{mb n m:Nat}{D:DataW Unit}(h:w.ownsMap Tryz.prog 3 mE mb n D)(hm:Maps.size D≤m):w.ownsMap Tryz.prog 3 mE mb m D:=by
 obtain⟨es,ck,hb,F,hs,rfl⟩:=h
 refine⟨es,ck,hb,F,?_,rfl⟩
 rw[Maps.size_eq,length_read] at hm
 exact hm
section
variable {w w':World}{N R mb:Nat}{ev vs:Value}{D:DataW Unit}{cs:List Sv}{s:Gs}
theorem GR.noM(h:GR w N R mb ev vs D cs s):vs.ownBlock≠some mb∧∀(i:Nat) x,cs[i]? =some x→x.nil=false→x.b≠mb:=by
 obtain⟨es,ck,hb,-⟩:=h.mp
 refine⟨?_,fun i x hx hn e=>?_⟩
 ·intro e
  rcases h.st.2 with⟨rfl,-⟩|⟨g',cap',cur,rfl,-,q3,-⟩
  ·cases e
  ·cases e;rw[hb] at q3;cases q3
 ·have hil:i<cs.length:=(List.getElem?_eq_some_iff.1 hx).1
  obtain⟨c,hc⟩:∃c,s.ch[i]? =some c:=⟨_,List.getElem?_eq_getElem (by rw[←h.len];exact hil)⟩
  obtain⟨-,cur,hb',-⟩:=(h.ch i x c hx hc).1.row hn
  rw[e,hb] at hb';cases hb'
def upl{α:Type}(l:List α)(i:Nat)(x:α):List α:=if i<l.length then l.set i x else l++[x]
theorem upl_at{α:Type}(l:List α){i:Nat}(hi:i≤l.length)(x:α)(j:Nat)(y:α)(h:(upl l i x)[j]? =some y):(j=i∧y=x)∨(j≠i∧l[j]? =some y):=by
 unfold upl at h
 by_cases e:j=i
 ·subst e
  left
  refine⟨rfl,?_⟩
  split at h
  ·rw[List.getElem?_set_self (by assumption)] at h;cases h;rfl
  ·have:j=l.length:=by omega
   subst this
   simp at h;exact h.symm
 ·right
  refine⟨e,?_⟩
  split at h
  ·rwa [List.getElem?_set_ne (Ne.symm e)] at h
  ·rwa [List.getElem?_append_left (by have:=(List.getElem?_eq_some_iff.1 h).1;simp at this;omega)] at h
theorem upl_len{α β:Type}(l:List α)(m:List β)(h:l.length=m.length)(i:Nat)(x:α)(y:β):(upl l i x).length=(upl m i y).length:=by
 unfold upl
 rw[h]
 split<;>simp[h]
theorem GR.put(h:GR w N R mb ev vs D cs s){i:Nat}(hi:i≤cs.length)(hb:cs.length≤4000)(x:Sv)(c:Chn)(hv:VR w N x c.vs)(hcap:x.cap=c.cap)(hcl:x.cl=c.cl)
 (hd:∀(j:Nat) y,cs[j]? =some y→j≠i→x.nil=false→y.nil=false→x.b≠y.b) (hdv:x.nil=false→vs.ownBlock≠some x.b) (hm:x.nil=false→x.b≠mb):
 ∃w',(Instr.mapUpdate 136 (.map (some mb)) (.int .i64 (i:Int)) (chV x)).run Tryz.prog w=.ok () w'∧GR w' N R mb ev vs (D.put (kl (i:Int)) (chD x)) (upl cs i x) {s with ch:=upl s.ch i c}∧Fb N w w'∧w.grownBy w' (some mb):=by
 have hk:-1≤(i:Int)∧(i:Int)≤100000:=by omega
 obtain⟨w',hrun,ho,hg⟩:=(own_tight h.mp (m:=cs.length) (by rw[h.mi.sz];exact Nat.le_refl _)).update law Tryz.underlying136 (by unfold maxLen;omega) (key_kl hk) (mE_v hv.sn)
 have MI':=h.mi.put hi (by omega) x
 have ho':w'.ownsMap Tryz.prog 3 mE mb 100000 (D.put (kl (i:Int)) (chD x)):=ho.mono (by omega)
 have g1:∀{b:Nat} {o:Obj},w.heap[b]? =some o→b≠mb→w'.heap[b]? =some o:=fun hb hn=>(hg.block _ (heap_lt hb) (fun e=>hn (by cases e;rfl))).trans hb
 obtain⟨m1,m2⟩:=h.noM
 obtain⟨-,n2,-⟩:=h.noR
 refine⟨w',hrun,⟨h.hN,g1 h.hR n2,h.st.kept hg (.inr m1),ho',MI',by
  show (upl cs i x).length=(upl s.ch i c).length
  exact upl_len cs s.ch h.len i x c,fun j y d hy hd'=>?_,fun j k y z hy hz hjk hyn hzn=>?_,fun j y hy hyn=>?_⟩,⟨⟨hg.os,hg.tape,hg.output,hg.size,fun k hk'=>hg.block k (by have:=h.mp.lt;have:=h.hN.2;omega) (fun e=>by cases e;have:=h.hN.2;omega)⟩,fun k cc hk=>g1 hk (fun e=>by obtain⟨es,ck,hb,-⟩:=h.mp;rw[e,hb] at hk;cases hk)⟩,hg⟩
 ·have hyc:∀y d,VR w N y d→(y.nil=false→y.b≠mb)→VR w' N y d:=fun y d v hn=>v.keep fun hq=>by
   obtain⟨-,cur,hb',-⟩:=v.row hq
   rw[g1 hb' (hn hq),hb']
  rcases upl_at cs hi x j y hy with⟨rfl,rfl⟩|⟨hne,hy'⟩
  ·rcases upl_at s.ch (by rw[←h.len];exact hi) c j d hd' with⟨-,rfl⟩|⟨hne,-⟩
   ·exact⟨hyc _ _ hv hm,hcap,hcl⟩
   ·exact absurd rfl hne
  ·rcases upl_at s.ch (by rw[←h.len];exact hi) c j d hd' with⟨e,-⟩|⟨-,hd''⟩
   ·exact absurd e hne
   ·obtain⟨v,r⟩:=h.ch j y d hy' hd''
    exact⟨hyc _ _ v (m2 j y hy'),r⟩
 ·rcases upl_at cs hi x j y hy with⟨rfl,rfl⟩|⟨hne,hy'⟩
  ·rcases upl_at cs hi y k z hz with⟨rfl,rfl⟩|⟨hne',hz'⟩
   ·exact absurd rfl hjk
   ·exact hd k z hz' hne' hyn hzn
  ·rcases upl_at cs hi x k z hz with⟨rfl,rfl⟩|⟨hne',hz'⟩
   ·exact fun e=>hd j y hy' hne hzn hyn e.symm
   ·exact h.dj j k y z hy' hz' hjk hyn hzn
 ·rcases upl_at cs hi x j y hy with⟨rfl,rfl⟩|⟨-,hy'⟩
  ·exact hdv hyn
  ·exact h.dv j y hy' hyn
theorem GR.len_run(h:GR w N R mb ev vs D cs s)(ty:TypeId):(Builtin.len_ #[136] ty #[.map (some mb)]).run Tryz.prog w=.ok (.int .i64 (s.ch.length:Int)) w:=by
 have:=h.mp.len Tryz.underlying136 ty
 rw[h.mi.sz,h.len] at this
 exact this
end
def ChP(R3:Option (List Chn))(N R:Nat)(ev:Value)(s:Gs)(w:World)(r:Ending)(w':World):Prop:=((R3=none∧r=.returned (.bool false))∨∃ch,R3=some ch∧r=.returned (.bool true)∧GW w' N R ev {s with ch:=ch})∧Fb N w w'
theorem ChP.no{R3:Option (List Chn)}{N R:Nat}{ev:Value}{s:Gs}{w w':World}(h:R3=none)(b:Fb N w w'):ChP R3 N R ev s w (.returned (.bool false)) w':=⟨.inl ⟨h,rfl⟩,b⟩
theorem ChP.yes{R3:Option (List Chn)}{N R mb:Nat}{ev vs:Value}{D:DataW Unit}{cs:List Sv}{s:Gs}{w w':World}{ch:List Chn}(h:R3=some ch)(g:GR w' N R mb ev vs D cs {s with ch:=ch})(b:Fb N w w'):ChP R3 N R ev s w (.returned (.bool true)) w':=⟨.inr ⟨ch,h,rfl,mb,vs,D,cs,g⟩,b⟩
set_option maxRecDepth 100000 in
theorem numb_any{w:World}{N R c:Nat}{oa:Option Addr}{l:List Ev}{s:Gs}(h:GW w N R (.slice oa l.length c) s)(hA:EsAt w oa l){i:Nat}{e:Ev}(hi:l[i]? =some e)(hch:s.ch.length≤3000)(hNw:N≤w.heap.size):
 Calls Tryz.prog 78 #[.pointer (some ⟨R,0,none⟩),.int .i64 (i:Int)] w fun r w'=>ChP (r3 s.ch e) N R (.slice oa l.length c) s w r w':=by
 obtain⟨mb,vs,D,cs,h⟩:=h
 have hil:i<l.length:=(List.getElem?_eq_some_iff.1 hi).1
 obtain⟨b1,o1,rfl,-⟩:=hA i e hi
 obtain⟨p0,p1,p2,p3,p4,p5,p6,p7⟩:=hA.read hi
 have hiM:(i:Int)<(l.length:Int):=by omega
 clear hA hi
 generalize l.length=M at*
 have H1:=hide (h.below (below_alloc w (.cells #[.int .i64 e.k,.int .i64 e.g,.int .i64 e.c,.int .i64 e.a,.int .i64 e.v,.int .i64 e.m,.bool e.s,.bool e.o] 40)))
 have E1:=hide (heap_new w (.cells #[.int .i64 e.k,.int .i64 e.g,.int .i64 e.c,.int .i64 e.a,.int .i64 e.v,.int .i64 e.m,.bool e.s,.bool e.o] 40))
 have B1:=hide (Fb.of (below_alloc w (.cells #[.int .i64 e.k,.int .i64 e.g,.int .i64 e.c,.int .i64 e.a,.int .i64 e.v,.int .i64 e.m,.bool e.s,.bool e.o] 40)) hNw)
 have c0:w.cell? ⟨R,0,none⟩=some (.slice (some ⟨b1,o1,none⟩) M c):=cell_of h.hR 0
 have hRw:R<w.heap.size:=heap_lt h.hR
 obtain⟨R3,hR3⟩:∃R3,r3 s.ch e=R3:=⟨_,rfl⟩
 rw[hR3]
 unfold r3 at hR3
 clear h
 obtain⟨E,hE⟩:∃E,w.heap.size=E:=⟨_,rfl⟩
 go_enter Tryz.func78,Tryz.ntmps78
 go_upto_region 2 with fail
 rw[hE] at E1 hRw
 clear p0 p1 p2 p3 p4 p5 p6 p7 hE c0
 generalize w.alloc (.cells #[.int .i64 e.k,.int .i64 e.g,.int .i64 e.c,.int .i64 e.a,.int .i64 e.v,.int .i64 e.m,.bool e.s,.bool e.o] 40)=W1 at*
 have c2:W1.cell? ⟨R,2,none⟩=some (.map (some mb)):=cell_of H1.out.hR 2
 have v0:W1.cell? ⟨E,0,none⟩=some (.int .i64 e.k):=cell_of E1.out 0
 have v2:W1.cell? ⟨E,2,none⟩=some (.int .i64 e.c):=cell_of E1.out 2
 have v4:W1.cell? ⟨E,4,none⟩=some (.int .i64 e.v):=cell_of E1.out 4
 have LN:∀q ty,(Builtin.len_ #[136] ty #[.map (some mb)]).run Tryz.prog (W1.drewN q)=.ok (.int .i64 (s.ch.length:Int)) (W1.drewN q):=fun q ty=>(H1.out.below (bdrew W1 q)).len_run ty
 obtain⟨n,hn⟩:∃n,s.ch.length=n:=⟨_,rfl⟩
 have HNn:=hide hn
 rw[hn] at LN hR3 hch
 clear hn
 by_cases h2:e.k=2
 ·rw[if_pos h2] at hR3
  have d2:(e.k==2)=true:=by simp[h2]
  clear h2
  by_cases hc:e.c=(n:Int)
  case neg=>
   rw[if_pos hc] at hR3
   have dc:(e.c !=(n:Int))=true:=by simp[hc]
   go_wp2_with fail
   go_quiet (fail)
   go_wp2_with fail
   go_ret
   exact ChP.no hR3.symm (B1.out.trans (Fb.of (bdrew _ _) (by have:=B1.out.size;omega)))
  rw[if_neg (by simp[hc])] at hR3
  have dc:(e.c !=(n:Int))=false:=by simp[hc]
  rw[hc] at v2 dc
  have hcl:cs.length=n:=by rw[H1.out.len,HNn.out]
  go_upto_region 3 with fail
  go_cut [23] (fun s23 wc=>s23=.bool false∧∃q,wc=W1.drewN q)
  case first=>
   go_quiet (fail)
   go_wp2_with fail
   go_meet
   case rel=>exact⟨by simp,_,rfl⟩
  case rest=>
  obtain⟨rfl,q2,e2⟩:=hcut
  have K2:Below W1.heap.size W1 wc:=by rw[e2];exact bdrew _ _
  have H2:=hide (H1.out.below K2)
  have E2:=hide (heap_below E1.out K2)
  have B2:=hide (B1.out.trans (Fb.of K2 (by have:=B1.out.size;omega)))
  clear e2 K2 c2 v0 v2 v4 LN H1 E1 B1
  rename World=>W2
  have c2':W2.drew.cell? ⟨R,2,none⟩=some (.map (some mb)):=cell_of H2.out.hR 2
  have v2':W2.drew.cell? ⟨E,2,none⟩=some (.int .i64 (n:Int)):=by rw[←hc];exact cell_of E2.out 2
  have v4':W2.drew.cell? ⟨E,4,none⟩=some (.int .i64 e.v):=cell_of E2.out 4
  obtain⟨w3,mu,g3,b3,gr3⟩:=(H2.out.below (bdrew1 W2)).put (i:=n) (by omega) (by omega) ⟨true,0,0,0,0,e.v,false⟩ ⟨e.v,[],false⟩ (VR.zero _ _ _ _) rfl rfl (fun _ _ _ _ q=>by cases q) (fun q=>by cases q) (fun q=>by cases q)
  have MU:(Instr.mapUpdate 136 (.map (some mb)) (.int .i64 (n:Int)) (.agg #[.int .i64 e.v,.slice none 0 0,.bool false])).run Tryz.prog W2.drew=.ok () w3:=mu
  have hup:upl s.ch n ⟨e.v,[],false⟩=s.ch++[⟨e.v,[],false⟩]:=by unfold upl;rw[if_neg (by rw[HNn.out];omega)]
  rw[hup] at g3
  have G3:=hide g3
  have E3:=hide ((gr3.block E (heap_lt (show W2.drew.heap[E]? =_ from E2.out)) (fun e=>by injection e with e;have:=heap_lt E2.out;obtain⟨es,ck,hb,-⟩:=H2.out.mp;rw[←e,E2.out] at hb;cases hb)).trans (show W2.drew.heap[E]? =_ from E2.out))
  have B3:=hide ((B2.out.trans (Fb.of (bdrew1 W2) (by have:=B2.out.size;omega))).trans b3)
  have LN3:∀q ty,(Builtin.len_ #[136] ty #[.map (some mb)]).run Tryz.prog (w3.drewN q)=.ok (.int .i64 ((n:Int)+1)) (w3.drewN q):=fun q ty=>by
   have:=(G3.out.below (bdrew w3 q)).len_run ty
   simp only[List.length_append,List.length_singleton,HNn.out] at this
   exact this
  have x2:w3.cell? ⟨R,2,none⟩=some (.map (some mb)):=cell_of G3.out.hR 2
  have y2:w3.cell? ⟨E,2,none⟩=some (.int .i64 (n:Int)):=by rw[←hc];exact cell_of E3.out 2
  have dl:decide ((n:Int)<(n:Int)+1)=true:=by simp;omega
  clear mu b3 gr3 g3 hup
  go_upto_region 5 with fail
  go_cut [] (fun wc=>wc=w3)
  case first=>
   go_region
   all_goals
    go_wp2_with fail
    go_meet
    case rel=>rfl
  case rest=>
  obtain rfl:=hcut
  clear MU c2' v2' v4'
  go_wp2_with fail
  go_quiet (fail)
  go_wp2_with fail
  go_ret
  exact ChP.yes hR3.symm (G3.out.below (bdrew _ _)) (B3.out.trans (Fb.of (bdrew _ _) (by have:=B3.out.size;omega)))
 ·rw[if_neg h2] at hR3
  have d2:(e.k==2)=false:=by simp[h2]
  clear h2
  by_cases hc:e.c<(n:Int)
  ·rw[if_pos hc] at hR3
   have dc:decide (e.c<(n:Int))=true:=decide_eq_true hc
   go_wp2_with fail
   go_quiet (fail)
   go_wp2_with fail
   go_ret
   exact ChP.yes hR3.symm (show GR _ N R mb _ vs D cs {s with ch:=s.ch} from H1.out.below (bdrew _ _)) (B1.out.trans (Fb.of (bdrew _ _) (by have:=B1.out.size;omega)))
  ·rw[if_neg hc] at hR3
   have dc:decide (e.c<(n:Int))=false:=decide_eq_false hc
   go_wp2_with fail
   go_quiet (fail)
   go_wp2_with fail
   go_ret
   exact ChP.no hR3.symm (B1.out.trans (Fb.of (bdrew _ _) (by have:=B1.out.size;omega)))
end Gu
namespace Gu
open En Ba
def setEv(w:World)(R:Nat)(e:Ev):World:=((((((((w.setCell ⟨R,4,none⟩ (.int .i64 e.k)).setCell ⟨R,5,none⟩ (.int .i64 e.g)).setCell ⟨R,6,none⟩ (.int .i64 e.c)).setCell ⟨R,7,none⟩ (.int .i64 e.a)).setCell ⟨R,8,none⟩ (.int .i64 e.v)).setCell ⟨R,9,none⟩ (.int .i64 e.m)).setCell ⟨R,10,none⟩ (.bool e.s)).setCell ⟨R,11,none⟩ (.bool e.o))
theorem setEv_heap{w:World}{R:Nat}{a0 a1 a2 a3 b0 b1 b2 b3 b4 b5 b6 b7:Value}{T:TypeId}(h:w.heap[R]? =some (.cells #[a0,a1,a2,a3,b0,b1,b2,b3,b4,b5,b6,b7] T (0,0)))(e:Ev):(setEv w R e).heap[R]? =some (.cells #[a0,a1,a2,a3,.int .i64 e.k,.int .i64 e.g,.int .i64 e.c,.int .i64 e.a,.int .i64 e.v,.int .i64 e.m,.bool e.s,.bool e.o] T (0,0)):=by
 unfold setEv
 have h0:=Ba.heap_setCell_same (i:=4) h (.int .i64 e.k)
 have h1:=Ba.heap_setCell_same (i:=5) h0 (.int .i64 e.g)
 have h2:=Ba.heap_setCell_same (i:=6) h1 (.int .i64 e.c)
 have h3:=Ba.heap_setCell_same (i:=7) h2 (.int .i64 e.a)
 have h4:=Ba.heap_setCell_same (i:=8) h3 (.int .i64 e.v)
 have h5:=Ba.heap_setCell_same (i:=9) h4 (.int .i64 e.m)
 have h6:=Ba.heap_setCell_same (i:=10) h5 (.bool e.s)
 have h7:=Ba.heap_setCell_same (i:=11) h6 (.bool e.o)
 rw[h7]
 simp
theorem setEv_kb(w:World)(R:Nat)(e:Ev):KB R w (setEv w R e):=by
 unfold setEv
 have h0:=(KB.refl R w).setCell 4 (.int .i64 e.k)
 have h1:=h0.setCell 5 (.int .i64 e.g)
 have h2:=h1.setCell 6 (.int .i64 e.c)
 have h3:=h2.setCell 7 (.int .i64 e.a)
 have h4:=h3.setCell 8 (.int .i64 e.v)
 have h5:=h4.setCell 9 (.int .i64 e.m)
 have h6:=h5.setCell 10 (.bool e.s)
 exact h6.setCell 11 (.bool e.o)
theorem cellB3{w w':World}{a:Addr}{v:Value}(h:w.drew.cell? a=some v)(b:Below w.heap.size w w'):w'.drew.cell? a=some v:=(b.cell (World.block_lt_of_cell? w _ h)).trans h
def SeP(R4:Option Ev)(N R:Nat)(ev:Value)(s:Gs)(w:World)(r:Ending)(w':World):Prop:=((R4=none∧r=.returned (.bool false))∨∃la,R4=some la∧r=.returned (.bool true)∧GW w' N R ev {s with la:=la})∧Fb N w w'
theorem SeP.no{R4:Option Ev}{N R:Nat}{ev:Value}{s:Gs}{w w':World}(h:R4=none)(b:Fb N w w'):SeP R4 N R ev s w (.returned (.bool false)) w':=⟨.inl ⟨h,rfl⟩,b⟩
theorem SeP.yes{R4:Option Ev}{N R mb:Nat}{ev vs:Value}{D:DataW Unit}{cs:List Sv}{s:Gs}{w w':World}{la:Ev}(h:R4=some la)(g:GR w' N R mb ev vs D cs {s with la:=la})(b:Fb N w w'):SeP R4 N R ev s w (.returned (.bool true)) w':=⟨.inr ⟨la,h,rfl,mb,vs,D,cs,g⟩,b⟩
set_option maxRecDepth 100000 in
theorem serv_any{w:World}{N R c:Nat}{oa:Option Addr}{l:List Ev}{s:Gs}(h:GW w N R (.slice oa l.length c) s)(hA:EsAt w oa l){i:Nat}{e:Ev}(hi:l[i]? =some e)(hNw:N≤w.heap.size):
 Calls Tryz.prog 79 #[.pointer (some ⟨R,0,none⟩),.int .i64 (i:Int)] w fun r w'=>SeP (r4 s.la e) N R (.slice oa l.length c) s w r w':=by
 obtain⟨mb,vs,D,cs,h⟩:=h
 have hil:i<l.length:=(List.getElem?_eq_some_iff.1 hi).1
 obtain⟨b1,o1,rfl,-⟩:=hA i e hi
 have hA':=hA.below (bdrew1 w)
 obtain⟨p0,p1,p2,p3,p4,p5,p6,p7⟩:=hA'.read hi
 have hiM:(i:Int)<(l.length:Int):=by omega
 have H0:=hide h
 have hRd:w.drew.heap[R]? =_:=h.hR
 have d4:w.drew.cell? ⟨R,4,none⟩=some (.int .i64 s.la.k):=cell_of hRd 4
 have d5:w.drew.cell? ⟨R,5,none⟩=some (.int .i64 s.la.g):=cell_of hRd 5
 have d6:w.drew.cell? ⟨R,6,none⟩=some (.int .i64 s.la.c):=cell_of hRd 6
 have d7:w.drew.cell? ⟨R,7,none⟩=some (.int .i64 s.la.a):=cell_of hRd 7
 have d8:w.drew.cell? ⟨R,8,none⟩=some (.int .i64 s.la.v):=cell_of hRd 8
 have d9:w.drew.cell? ⟨R,9,none⟩=some (.int .i64 s.la.m):=cell_of hRd 9
 have d10:w.drew.cell? ⟨R,10,none⟩=some (.bool s.la.s):=cell_of hRd 10
 have d11:w.drew.cell? ⟨R,11,none⟩=some (.bool s.la.o):=cell_of hRd 11
 have d0:w.drew.cell? ⟨R,0,none⟩=some (.slice (some ⟨b1,o1,none⟩) l.length c):=cell_of hRd 0
 have nR0:R≠w.heap.size:=by have:=heap_lt h.hR;omega
 have nR1:R≠w.heap.size+1:=by have:=heap_lt h.hR;omega
 have nb0:b1≠w.heap.size:=by have:=World.block_lt_of_cell? w _ p0;simp only at this;omega
 have nb1:b1≠w.heap.size+1:=by have:=World.block_lt_of_cell? w _ p0;simp only at this;omega
 clear hA hA' hi hRd
 generalize l.length=M at*
 obtain⟨R4,hR4⟩:∃R4,r4 s.la e=R4:=⟨_,rfl⟩
 rw[hR4]
 unfold r4 at hR4
 clear h
 go_enter Tryz.func79,Tryz.ntmps79
 go_upto_region 1 with fail
 have KEEP:∀o,(w.alloc o).drew.cell? ⟨R,4,none⟩=some (.int .i64 s.la.k)∧(w.alloc o).drew.cell? ⟨R,5,none⟩=some (.int .i64 s.la.g)∧(w.alloc o).drew.cell? ⟨R,6,none⟩=some (.int .i64 s.la.c)∧(w.alloc o).drew.cell? ⟨R,7,none⟩=some (.int .i64 s.la.a)∧(w.alloc o).drew.cell? ⟨R,8,none⟩=some (.int .i64 s.la.v)∧(w.alloc o).drew.cell? ⟨R,9,none⟩=some (.int .i64 s.la.m)∧(w.alloc o).drew.cell? ⟨R,10,none⟩=some (.bool s.la.s)∧(w.alloc o).drew.cell? ⟨R,11,none⟩=some (.bool s.la.o)∧(w.alloc o).drew.cell? ⟨R,0,none⟩=some (.slice (some ⟨b1,o1,none⟩) M c)∧(w.alloc o).drew.cell? ⟨b1,o1+i*8,none⟩=some (.int .i64 e.k)∧(w.alloc o).drew.cell? ⟨b1,o1+i*8+1,none⟩=some (.int .i64 e.g)∧(w.alloc o).drew.cell? ⟨b1,o1+i*8+2,none⟩=some (.int .i64 e.c)∧(w.alloc o).drew.cell? ⟨b1,o1+i*8+3,none⟩=some (.int .i64 e.a)∧(w.alloc o).drew.cell? ⟨b1,o1+i*8+4,none⟩=some (.int .i64 e.v)∧(w.alloc o).drew.cell? ⟨b1,o1+i*8+5,none⟩=some (.int .i64 e.m)∧(w.alloc o).drew.cell? ⟨b1,o1+i*8+6,none⟩=some (.bool e.s)∧(w.alloc o).drew.cell? ⟨b1,o1+i*8+7,none⟩=some (.bool e.o):=fun o=>by
  refine⟨?_,?_,?_,?_,?_,?_,?_,?_,?_,?_,?_,?_,?_,?_,?_,?_,?_⟩<;>(refine cellB3 ?_ (below_alloc w o);assumption)
 have KEEP2:∀o o',((w.alloc o).alloc o').drew.cell? ⟨R,4,none⟩=some (.int .i64 s.la.k)∧((w.alloc o).alloc o').drew.cell? ⟨R,5,none⟩=some (.int .i64 s.la.g)∧((w.alloc o).alloc o').drew.cell? ⟨R,6,none⟩=some (.int .i64 s.la.c)∧((w.alloc o).alloc o').drew.cell? ⟨R,7,none⟩=some (.int .i64 s.la.a)∧((w.alloc o).alloc o').drew.cell? ⟨R,8,none⟩=some (.int .i64 s.la.v)∧((w.alloc o).alloc o').drew.cell? ⟨R,9,none⟩=some (.int .i64 s.la.m)∧((w.alloc o).alloc o').drew.cell? ⟨R,10,none⟩=some (.bool s.la.s)∧((w.alloc o).alloc o').drew.cell? ⟨R,11,none⟩=some (.bool s.la.o)∧((w.alloc o).alloc o').drew.cell? ⟨R,0,none⟩=some (.slice (some ⟨b1,o1,none⟩) M c)∧((w.alloc o).alloc o').drew.cell? ⟨b1,o1+i*8,none⟩=some (.int .i64 e.k)∧((w.alloc o).alloc o').drew.cell? ⟨b1,o1+i*8+1,none⟩=some (.int .i64 e.g)∧((w.alloc o).alloc o').drew.cell? ⟨b1,o1+i*8+2,none⟩=some (.int .i64 e.c)∧((w.alloc o).alloc o').drew.cell? ⟨b1,o1+i*8+3,none⟩=some (.int .i64 e.a)∧((w.alloc o).alloc o').drew.cell? ⟨b1,o1+i*8+4,none⟩=some (.int .i64 e.v)∧((w.alloc o).alloc o').drew.cell? ⟨b1,o1+i*8+5,none⟩=some (.int .i64 e.m)∧((w.alloc o).alloc o').drew.cell? ⟨b1,o1+i*8+6,none⟩=some (.bool e.s)∧((w.alloc o).alloc o').drew.cell? ⟨b1,o1+i*8+7,none⟩=some (.bool e.o):=fun o o'=>by
  refine⟨?_,?_,?_,?_,?_,?_,?_,?_,?_,?_,?_,?_,?_,?_,?_,?_,?_⟩<;>(refine cellB3 ?_ (btr (below_alloc w o) (below_alloc _ o'));assumption)
 go_cut [5,6] (fun s5 s6 wc=>∃A B,s5=.pointer (some ⟨A,0,none⟩)∧s6=.pointer (some ⟨B,0,none⟩)∧wc.heap[A]? =some (.cells #[.int .i64 e.k,.int .i64 e.g,.int .i64 e.c,.int .i64 e.a,.int .i64 e.v,.int .i64 e.m,.bool e.s,.bool e.o] 40)∧wc.heap[B]? =some (.cells #[.int .i64 s.la.k,.int .i64 s.la.g,.int .i64 s.la.c,.int .i64 s.la.a,.int .i64 s.la.v,.int .i64 s.la.m,.bool s.la.s,.bool s.la.o] 40)∧Below w.heap.size w wc)
 case first=>
  go_region_held3 (fun w'=>w'.cell? ⟨R,4,none⟩=some (.int .i64 s.la.k)∧w'.cell? ⟨R,5,none⟩=some (.int .i64 s.la.g)∧w'.cell? ⟨R,6,none⟩=some (.int .i64 s.la.c)∧w'.cell? ⟨R,7,none⟩=some (.int .i64 s.la.a)∧w'.cell? ⟨R,8,none⟩=some (.int .i64 s.la.v)∧w'.cell? ⟨R,9,none⟩=some (.int .i64 s.la.m)∧w'.cell? ⟨R,10,none⟩=some (.bool s.la.s)∧w'.cell? ⟨R,11,none⟩=some (.bool s.la.o)∧w'.cell? ⟨R,0,none⟩=some (.slice (some ⟨b1,o1,none⟩) M c)∧w'.cell? ⟨b1,o1+i*8,none⟩=some (.int .i64 e.k)∧w'.cell? ⟨b1,o1+i*8+1,none⟩=some (.int .i64 e.g)∧w'.cell? ⟨b1,o1+i*8+2,none⟩=some (.int .i64 e.c)∧w'.cell? ⟨b1,o1+i*8+3,none⟩=some (.int .i64 e.a)∧w'.cell? ⟨b1,o1+i*8+4,none⟩=some (.int .i64 e.v)∧w'.cell? ⟨b1,o1+i*8+5,none⟩=some (.int .i64 e.m)∧w'.cell? ⟨b1,o1+i*8+6,none⟩=some (.bool e.s)∧w'.cell? ⟨b1,o1+i*8+7,none⟩=some (.bool e.o))
   (first|exact KEEP _|exact KEEP2 _ _|(go_keep;done))
   (fail)
  all_goals
   go_wp2_with fail
   go_meet
   case rel=>
    first
     |exact⟨w.heap.size,w.heap.size+1,rfl,rfl,heap_below (heap_new w (.cells #[.int .i64 e.k,.int .i64 e.g,.int .i64 e.c,.int .i64 e.a,.int .i64 e.v,.int .i64 e.m,.bool e.s,.bool e.o] 40)) (btr (below_alloc _ (.cells #[.int .i64 s.la.k,.int .i64 s.la.g,.int .i64 s.la.c,.int .i64 s.la.a,.int .i64 s.la.v,.int .i64 s.la.m,.bool s.la.s,.bool s.la.o] 40)) (bdrew1 _)),(by have:=heap_new (w.alloc (.cells #[.int .i64 e.k,.int .i64 e.g,.int .i64 e.c,.int .i64 e.a,.int .i64 e.v,.int .i64 e.m,.bool e.s,.bool e.o] 40)) (.cells #[.int .i64 s.la.k,.int .i64 s.la.g,.int .i64 s.la.c,.int .i64 s.la.a,.int .i64 s.la.v,.int .i64 s.la.m,.bool s.la.s,.bool s.la.o] 40);rw[World.size_alloc] at this;exact heap_below this (bdrew1 _)),btr (btr (below_alloc _ _) (below_alloc _ _)) (bdrew1 _)⟩
     |exact⟨w.heap.size+1,w.heap.size,rfl,rfl,(by have:=heap_new (w.alloc (.cells #[.int .i64 s.la.k,.int .i64 s.la.g,.int .i64 s.la.c,.int .i64 s.la.a,.int .i64 s.la.v,.int .i64 s.la.m,.bool s.la.s,.bool s.la.o] 40)) (.cells #[.int .i64 e.k,.int .i64 e.g,.int .i64 e.c,.int .i64 e.a,.int .i64 e.v,.int .i64 e.m,.bool e.s,.bool e.o] 40);rw[World.size_alloc] at this;exact heap_below this (bdrew1 _)),heap_below (heap_new w (.cells #[.int .i64 s.la.k,.int .i64 s.la.g,.int .i64 s.la.c,.int .i64 s.la.a,.int .i64 s.la.v,.int .i64 s.la.m,.bool s.la.s,.bool s.la.o] 40)) (btr (below_alloc _ (.cells #[.int .i64 e.k,.int .i64 e.g,.int .i64 e.c,.int .i64 e.a,.int .i64 e.v,.int .i64 e.m,.bool e.s,.bool e.o] 40)) (bdrew1 _)),btr (btr (below_alloc _ _) (below_alloc _ _)) (bdrew1 _)⟩
 case rest=>
 obtain⟨A,B,rfl,rfl,ea,eb,bl⟩:=hcut
 have EA:=hide ea
 have EB:=hide eb
 have H2:=hide (H0.out.below bl)
 have B2:=hide (Fb.of bl hNw)
 have nAR:A≠R:=fun q=>by rw[q,H2.out.hR] at ea;cases ea
 have nBR:B≠R:=fun q=>by rw[q,H2.out.hR] at eb;cases eb
 clear p0 p1 p2 p3 p4 p5 p6 p7 d0 d4 d5 d6 d7 d8 d9 d10 d11 ea eb bl H0
 rename World=>W2
 have c4:W2.cell? ⟨R,4,none⟩=some (.int .i64 s.la.k):=cell_of H2.out.hR 4
 have z4:=frozen_of H2.out.hR 4
 have c5:W2.cell? ⟨R,5,none⟩=some (.int .i64 s.la.g):=cell_of H2.out.hR 5
 have z5:=frozen_of H2.out.hR 5
 have c6:W2.cell? ⟨R,6,none⟩=some (.int .i64 s.la.c):=cell_of H2.out.hR 6
 have z6:=frozen_of H2.out.hR 6
 have c7:W2.cell? ⟨R,7,none⟩=some (.int .i64 s.la.a):=cell_of H2.out.hR 7
 have z7:=frozen_of H2.out.hR 7
 have c8:W2.cell? ⟨R,8,none⟩=some (.int .i64 s.la.v):=cell_of H2.out.hR 8
 have z8:=frozen_of H2.out.hR 8
 have c9:W2.cell? ⟨R,9,none⟩=some (.int .i64 s.la.m):=cell_of H2.out.hR 9
 have z9:=frozen_of H2.out.hR 9
 have c10:W2.cell? ⟨R,10,none⟩=some (.bool s.la.s):=cell_of H2.out.hR 10
 have z10:=frozen_of H2.out.hR 10
 have c11:W2.cell? ⟨R,11,none⟩=some (.bool s.la.o):=cell_of H2.out.hR 11
 have z11:=frozen_of H2.out.hR 11
 have a0:W2.cell? ⟨A,0,none⟩=some (.int .i64 e.k):=cell_of EA.out 0
 have a1:W2.cell? ⟨A,1,none⟩=some (.int .i64 e.g):=cell_of EA.out 1
 have a2:W2.cell? ⟨A,2,none⟩=some (.int .i64 e.c):=cell_of EA.out 2
 have a3:W2.cell? ⟨A,3,none⟩=some (.int .i64 e.a):=cell_of EA.out 3
 have a4:W2.cell? ⟨A,4,none⟩=some (.int .i64 e.v):=cell_of EA.out 4
 have a5:W2.cell? ⟨A,5,none⟩=some (.int .i64 e.m):=cell_of EA.out 5
 have a6:W2.cell? ⟨A,6,none⟩=some (.bool e.s):=cell_of EA.out 6
 have a7:W2.cell? ⟨A,7,none⟩=some (.bool e.o):=cell_of EA.out 7
 have lb0:W2.cell? ⟨B,0,none⟩=some (.int .i64 s.la.k):=cell_of EB.out 0
 have lb1:W2.cell? ⟨B,1,none⟩=some (.int .i64 s.la.g):=cell_of EB.out 1
 have lb2:W2.cell? ⟨B,2,none⟩=some (.int .i64 s.la.c):=cell_of EB.out 2
 have lb3:W2.cell? ⟨B,3,none⟩=some (.int .i64 s.la.a):=cell_of EB.out 3
 have lb4:W2.cell? ⟨B,4,none⟩=some (.int .i64 s.la.v):=cell_of EB.out 4
 have lb5:W2.cell? ⟨B,5,none⟩=some (.int .i64 s.la.m):=cell_of EB.out 5
 have lb6:W2.cell? ⟨B,6,none⟩=some (.bool s.la.s):=cell_of EB.out 6
 have lb7:W2.cell? ⟨B,7,none⟩=some (.bool s.la.o):=cell_of EB.out 7
 have OW:=hide (owed_any ⟨mb,vs,D,cs,H2.out⟩)
 have SETL:Hid (GR (setEv W2 R e) N R mb (.slice (some ⟨b1,o1,none⟩) M c) vs D cs {s with la:=e}):=H2.out.setR (setEv_kb W2 R e) (s':={s with la:=e}) (setEv_heap H2.out.hR e) rfl rfl rfl
 have KK:=hide (setEv_kb W2 R e)
 have SETB:=hide (B2.out.kb KK.out H2.out.hN.1 hNw H2.out.hR (by decide))
 unfold setEv at SETL KK SETB
 obtain⟨ow,how⟩:∃ow,owed s.la=ow:=⟨_,rfl⟩
 rw[how] at OW hR4
 clear how
 go_wp2_with fail
 refine OW.out.mono ?_
 rintro r w3 ⟨rfl,e3⟩
 obtain rfl:=e3.symm
 clear e3
 cases ow
 ·rw[if_neg (by simp)] at hR4
  by_cases h7:e.k=7
  case neg=>
   rw[if_pos h7] at hR4
   have d7:(e.k !=7)=true:=by simp[h7]
   clear h7
   go_wp2_with fail
   go_ret
   exact SeP.yes hR4.symm SETL.out SETB.out
  rw[if_neg (by simp[h7])] at hR4
  have d7:(e.k !=7)=false:=by simp[h7]
  clear h7 SETL SETB KK
  have hcp:closeP s.la e=((s.la.k==5)&&(e.m==s.la.g)&&(e.c==s.la.c)&&!e.s&&!e.o):=by
   unfold closeP
   rw[show decide (s.la.k=5)=(s.la.k==5) from by rw[Bool.eq_iff_iff];simp,show decide (e.m=s.la.g)=(e.m==s.la.g) from by rw[Bool.eq_iff_iff];simp,show decide (e.c=s.la.c)=(e.c==s.la.c) from by rw[Bool.eq_iff_iff];simp]
  rw[hcp] at hR4
  clear hcp
  have YES:Hid (GR W2 N R mb (.slice (some ⟨b1,o1,none⟩) M c) vs D cs {s with la:=s.la}):=H2.out
  cases q1:(s.la.k==5)
  ·rw[q1] at hR4
   simp only[Bool.false_and,Bool.false_eq_true,if_false] at hR4
   go_wp2_with fail
   go_ret
   exact SeP.no hR4.symm B2.out
  cases q2:(e.m==s.la.g)
  ·rw[q1,q2] at hR4
   simp only[Bool.and_false,Bool.false_and,Bool.false_eq_true,if_false] at hR4
   go_wp2_with fail
   go_ret
   exact SeP.no hR4.symm B2.out
  cases q3:(e.c==s.la.c)
  ·rw[q1,q2,q3] at hR4
   simp only[Bool.and_false,Bool.false_and,Bool.false_eq_true,if_false] at hR4
   go_wp2_with fail
   go_ret
   exact SeP.no hR4.symm B2.out
  cases q4:e.s
  ·rw[q4] at a6 hR4
   cases q5:e.o
   ·rw[q1,q2,q3,q5] at hR4
    rw[q5] at a7
    simp only[Bool.and_self,Bool.not_false,if_true] at hR4
    go_wp2_with fail
    go_ret
    exact SeP.yes hR4.symm YES.out B2.out
   ·rw[q1,q2,q3,q5] at hR4
    rw[q5] at a7
    simp only[Bool.and_false,Bool.not_true,Bool.false_eq_true,if_false] at hR4
    go_wp2_with fail
    go_ret
    exact SeP.no hR4.symm B2.out
  ·rw[q1,q2,q3,q4] at hR4
   rw[q4] at a6
   simp only[Bool.and_false,Bool.not_true,Bool.false_and,Bool.false_eq_true,if_false] at hR4
   go_wp2_with fail
   go_ret
   exact SeP.no hR4.symm B2.out
 ·rw[if_pos rfl] at hR4
  have PS:=hide (fun u=>pserves_any s.la e u)
  unfold evv evc at PS
  obtain⟨sp,hsp⟩:∃sp,servP s.la e=sp:=⟨_,rfl⟩
  rw[hsp] at PS hR4
  clear hsp
  go_upto_region 4 with fail
  have EA3:=hide (KK.out.heap EA.out nAR)
  have EB3:=hide (KK.out.heap EB.out nBR)
  clear c4 z4 a0 lb0 c5 z5 a1 lb1 c6 z6 a2 lb2 c7 z7 a3 lb3 c8 z8 a4 lb4 c9 z9 a5 lb5 c10 z10 a6 lb6 c11 z11 a7 lb7 KK
  generalize ((((((((W2.setCell ⟨R,4,none⟩ (.int .i64 e.k)).setCell ⟨R,5,none⟩ (.int .i64 e.g)).setCell ⟨R,6,none⟩ (.int .i64 e.c)).setCell ⟨R,7,none⟩ (.int .i64 e.a)).setCell ⟨R,8,none⟩ (.int .i64 e.v)).setCell ⟨R,9,none⟩ (.int .i64 e.m)).setCell ⟨R,10,none⟩ (.bool e.s)).setCell ⟨R,11,none⟩ (.bool e.o))=W3 at*
  have a0:W3.cell? ⟨A,0,none⟩=some (.int .i64 e.k):=cell_of EA3.out 0
  have lb0:W3.cell? ⟨B,0,none⟩=some (.int .i64 s.la.k):=cell_of EB3.out 0
  have a1:W3.cell? ⟨A,1,none⟩=some (.int .i64 e.g):=cell_of EA3.out 1
  have lb1:W3.cell? ⟨B,1,none⟩=some (.int .i64 s.la.g):=cell_of EB3.out 1
  have a2:W3.cell? ⟨A,2,none⟩=some (.int .i64 e.c):=cell_of EA3.out 2
  have lb2:W3.cell? ⟨B,2,none⟩=some (.int .i64 s.la.c):=cell_of EB3.out 2
  have a3:W3.cell? ⟨A,3,none⟩=some (.int .i64 e.a):=cell_of EA3.out 3
  have lb3:W3.cell? ⟨B,3,none⟩=some (.int .i64 s.la.a):=cell_of EB3.out 3
  have a4:W3.cell? ⟨A,4,none⟩=some (.int .i64 e.v):=cell_of EA3.out 4
  have lb4:W3.cell? ⟨B,4,none⟩=some (.int .i64 s.la.v):=cell_of EB3.out 4
  have a5:W3.cell? ⟨A,5,none⟩=some (.int .i64 e.m):=cell_of EA3.out 5
  have lb5:W3.cell? ⟨B,5,none⟩=some (.int .i64 s.la.m):=cell_of EB3.out 5
  have a6:W3.cell? ⟨A,6,none⟩=some (.bool e.s):=cell_of EA3.out 6
  have lb6:W3.cell? ⟨B,6,none⟩=some (.bool s.la.s):=cell_of EB3.out 6
  have a7:W3.cell? ⟨A,7,none⟩=some (.bool e.o):=cell_of EA3.out 7
  have lb7:W3.cell? ⟨B,7,none⟩=some (.bool s.la.o):=cell_of EB3.out 7
  go_wp2_with fail
  refine (PS.out _).mono ?_
  rintro r w4 ⟨rfl,b4⟩
  have G4:=hide (SETL.out.below b4)
  have B4:=hide (SETB.out.trans (Fb.of b4 (by have:=SETB.out.size;omega)))
  clear b4
  cases sp
  ·rw[if_neg (by simp)] at hR4
   go_wp2_with fail
   go_ret
   exact SeP.no hR4.symm B4.out
  ·rw[if_pos rfl] at hR4
   go_wp2_with fail
   go_ret
   exact SeP.yes hR4.symm G4.out B4.out
end Gu
namespace Gu
open En Ba
theorem chk_c{e:Ev}(h:chk e=0):-1≤e.c∧e.c≤511:=by
 have hk:¬(e.k<1∨13<e.k):=fun q=>by simp[chk,q] at h
 have hb:(ff e&&okF e)=true:=by
  apply Classical.byContradiction
  intro q
  simp[chk,hk,q] at h
 have hf:ff e=true:=by revert hb;cases ff e<;>simp
 have ho:okF e=true:=by revert hb;rw[hf];simp
 have o1:=okF_at ho 1 (by decide)
 obtain⟨k,g,c,a,v,m,s,o⟩:=e
 simp only at hk
 have hc:k=1∨k=2∨k=3∨k=4∨k=5∨k=6∨k=7∨k=8∨k=9∨k=10∨k=11∨k=12∨k=13:=by omega
 clear h hk hb ho hf
 rcases hc with rfl|rfl|rfl|rfl|rfl|rfl|rfl|rfl|rfl|rfl|rfl|rfl|rfl<;>
  simp[okA,spn,fl,Ba.nth,inS,ml,mh] at o1<;>
  (try (by_cases ha:a=-1<;>simp[ha] at o1))<;>
  (simp only;omega)
section
variable {w w':World}{N R mb:Nat}{ev vs:Value}{D:DataW Unit}{cs:List Sv}{s:Gs}
theorem GR.look(h:GR w N R mb ev vs D cs s)(g:Int)(hg:-1≤g∧g≤100000):∃x,(∀u,Below w.heap.size w u→(Instr.lookup 136 (.map (some mb)) (.int .i64 g) false).run Tryz.prog u=.ok (chV x) u)∧((0≤g∧g<cs.length)→cs[g.toNat]? =some x)∧Sn x:=by
 have key:∀u,Below w.heap.size w u→∃v,(Instr.lookup 136 (.map (some mb)) (.int .i64 g) false).run Tryz.prog u=.ok v u∧∃ps,mE v=some (D.atKey (kl g) (chD sv0),ps):=fun u b=>by
  obtain⟨v,ps,h1,h2⟩:=(h.below b).mp.lookup law Tryz.underlying136 (zero_ch u) mE_z (key_kl hg)
  exact⟨v,h1,ps,h2⟩
 by_cases hin:0≤g∧g<cs.length
 ·obtain⟨x,hx⟩:∃x,cs[g.toNat]? =some x:=⟨_,List.getElem?_eq_getElem (by omega)⟩
  have hat:D.atKey (kl g) (chD sv0)=chD x:=by
   have:=h.mi.at_ g.toNat x (chD sv0) hx
   rwa [show ((g.toNat:Nat):Int)=g from by omega] at this
  obtain⟨v0,-,ps0,h0⟩:=key w (Below.refl _ _)
  rw[hat] at h0
  refine⟨x,fun u b=>?_,fun _=>hx,(mE_inv h0).2⟩
  obtain⟨v,h1,ps,h2⟩:=key u b
  rw[hat] at h2
  rw[h1,(mE_inv h2).1]
 ·have hat:D.atKey (kl g) (chD sv0)=chD sv0:=h.mi.no hin _
  refine⟨sv0,fun u b=>?_,fun q=>absurd q hin,fun _=>⟨rfl,rfl,rfl,rfl⟩⟩
  obtain⟨v,h1,ps,h2⟩:=key u b
  rw[hat] at h2
  rw[h1,(mE_inv h2).1]
theorem GR.kb(h:GR w N R mb ev vs D cs s){C:Nat}{cc:Array Value}(hC:w.heap[C]? =some (.cells cc 184 (0,0)))(k:KB C w w'):GR w' N R mb ev vs D cs s:=by
 have nC:∀{b:Nat} {o:Obj},w.heap[b]? =some o→o≠.cells cc 184 (0,0)→w'.heap[b]? =some o:=fun hb ho=>k.heap hb (fun q=>by rw[q,hC] at hb;cases hb;exact ho rfl)
 refine⟨h.hN,nC h.hR (fun q=>by cases q),own_kb h.st k ?_,?_,h.mi,h.len,fun i x c hx hc=>?_,h.dj,h.dv⟩
 ·rcases h.st.2 with⟨rfl,-⟩|⟨g,cap,cur,rfl,-,q3,-⟩
  ·intro e;cases e
  ·intro e;cases e;rw[q3] at hC;cases hC
 ·obtain⟨es,ck,hb,r⟩:=h.mp
  exact⟨es,ck,nC hb (fun q=>by cases q),r⟩
 ·obtain⟨v,r⟩:=h.ch i x c hx hc
  refine⟨v.keep fun hn=>?_,r⟩
  obtain⟨-,cur,hb,-⟩:=v.row hn
  rw[nC hb (fun q=>by cases q),hb]
theorem svs_sl(x:Sv)(h:Sn x):∃so sc,svs x=.slice so x.n sc:=by
 unfold svs
 cases hn:x.nil
 ·exact⟨_,_,rfl⟩
 ·obtain⟨-,-,h3,-⟩:=h hn
  exact⟨none,0,by rw[h3];rfl⟩
end
theorem upl_set{α:Type}{l:List α}{i:Nat}(h:i<l.length)(x:α):upl l i x=l.set i x:=by unfold upl;rw[if_pos h]
set_option maxRecDepth 100000 in
theorem clos_any{w:World}{N R c:Nat}{oa:Option Addr}{l:List Ev}{s:Gs}(h:GW w N R (.slice oa l.length c) s)(hA:EsAt w oa l){i:Nat}{e:Ev}(hi:l[i]? =some e)(hc:-1≤e.c∧e.c≤511)(hin:e.k=3∨e.k=4∨e.k=5→0≤e.c∧e.c<s.ch.length)(hch:s.ch.length≤3000)(hvs:∀(j:Nat) d,s.ch[j]? =some d→d.vs.length≤3000)(hNw:N≤w.heap.size):
 Calls Tryz.prog 81 #[.pointer (some ⟨R,0,none⟩),.int .i64 (i:Int)] w fun r w'=>ChP (r6 s.ch e) N R (.slice oa l.length c) s w r w':=by
 obtain⟨mb,vs,D,cs,h⟩:=h
 have hil:i<l.length:=(List.getElem?_eq_some_iff.1 hi).1
 obtain⟨b1,o1,rfl,-⟩:=hA i e hi
 obtain⟨p0,p1,p2,p3,p4,p5,p6,p7⟩:=hA.read hi
 have hiM:(i:Int)<(l.length:Int):=by omega
 clear hA hi
 generalize l.length=M at*
 have H1:=hide (h.below (below_alloc w (.cells #[.int .i64 e.k,.int .i64 e.g,.int .i64 e.c,.int .i64 e.a,.int .i64 e.v,.int .i64 e.m,.bool e.s,.bool e.o] 40)))
 have E1:=hide (heap_new w (.cells #[.int .i64 e.k,.int .i64 e.g,.int .i64 e.c,.int .i64 e.a,.int .i64 e.v,.int .i64 e.m,.bool e.s,.bool e.o] 40))
 have B1:=hide (Fb.of (below_alloc w (.cells #[.int .i64 e.k,.int .i64 e.g,.int .i64 e.c,.int .i64 e.a,.int .i64 e.v,.int .i64 e.m,.bool e.s,.bool e.o] 40)) hNw)
 have c0:w.cell? ⟨R,0,none⟩=some (.slice (some ⟨b1,o1,none⟩) M c):=cell_of h.hR 0
 have hRw:R<w.heap.size:=heap_lt h.hR
 obtain⟨R6,hR6⟩:∃R6,r6 s.ch e=R6:=⟨_,rfl⟩
 rw[hR6]
 unfold r6 at hR6
 simp only at hR6
 clear h
 obtain⟨E,hE⟩:∃E,w.heap.size=E:=⟨_,rfl⟩
 go_enter Tryz.func81,Tryz.ntmps81
 go_upto_region 2 with fail
 rw[hE] at E1 hRw
 clear p0 p1 p2 p3 p4 p5 p6 p7 hE c0
 generalize w.alloc (.cells #[.int .i64 e.k,.int .i64 e.g,.int .i64 e.c,.int .i64 e.a,.int .i64 e.v,.int .i64 e.m,.bool e.s,.bool e.o] 40)=W1 at*
 obtain⟨x,lk,hx,hsn⟩:=H1.out.look e.c (by omega)
 obtain⟨so,sc,hsv⟩:=svs_sl x hsn
 have LK0:(Instr.lookup 136 (.map (some mb)) (.int .i64 e.c) false).run Tryz.prog W1.drew=.ok (.agg #[.int .i64 x.cap,.slice so x.n sc,.bool x.cl]) W1.drew:=by rw[lk _ (bdrew1 _)];unfold chV;rw[hsv]
 have LK1:∀o,(Instr.lookup 136 (.map (some mb)) (.int .i64 e.c) false).run Tryz.prog (W1.alloc o).drew=.ok (.agg #[.int .i64 x.cap,.slice so x.n sc,.bool x.cl]) (W1.alloc o).drew:=fun o=>by rw[lk _ (btr (below_alloc W1 o) (bdrew1 _))];unfold chV;rw[hsv]
 have c2:W1.drew.cell? ⟨R,2,none⟩=some (.map (some mb)):=cell_of H1.out.hR 2
 have c2':∀o,(W1.alloc o).drew.cell? ⟨R,2,none⟩=some (.map (some mb)):=fun o=>cellB3 c2 (below_alloc _ o)
 have v2:W1.drew.cell? ⟨E,2,none⟩=some (.int .i64 e.c):=cell_of E1.out 2
 have v2':∀o,(W1.alloc o).drew.cell? ⟨E,2,none⟩=some (.int .i64 e.c):=fun o=>cellB3 v2 (below_alloc _ o)
 have LKX:=hide lk
 clear lk
 go_cut [6] (fun s6 wc=>∃C,s6=.pointer (some ⟨C,0,none⟩)∧wc.heap[C]? =some (.cells #[.int .i64 x.cap,.slice so x.n sc,.bool x.cl] 184 (0,0))∧W1.heap.size≤C∧Below W1.heap.size W1 wc)
 case first=>
  go_region
  all_goals
   go_wp2_with fail
   go_meet
   case rel=>exact⟨W1.heap.size,rfl,heap_below (heap_new W1 _) (bdrew1 _),Nat.le_refl _,btr (below_alloc _ _) (bdrew1 _)⟩
 case rest=>
 obtain⟨C,rfl,ec,hCs,bl⟩:=hcut
 have hCN:N≤C:=by have:=B1.out.size;omega
 have H2:=hide (H1.out.below bl)
 have E2:=hide (heap_below E1.out bl)
 have C2:=hide ec
 have B2:=hide (B1.out.trans (Fb.of bl (by have:=B1.out.size;omega)))
 clear LK0 LK1 c2 c2' v2 v2' ec bl H1 E1 B1 LKX
 rename World=>W2
 have v0:W2.cell? ⟨E,0,none⟩=some (.int .i64 e.k):=cell_of E2.out 0
 have v2:W2.cell? ⟨E,2,none⟩=some (.int .i64 e.c):=cell_of E2.out 2
 have v5:W2.cell? ⟨E,5,none⟩=some (.int .i64 e.m):=cell_of E2.out 5
 have v7:W2.cell? ⟨E,7,none⟩=some (.bool e.o):=cell_of E2.out 7
 have y0:W2.cell? ⟨C,0,none⟩=some (.int .i64 x.cap):=cell_of C2.out 0
 have y1:W2.cell? ⟨C,1,none⟩=some (.slice so x.n sc):=cell_of C2.out 1
 have y2:W2.cell? ⟨C,2,none⟩=some (.bool x.cl):=cell_of C2.out 2
 have f2:=frozen_of C2.out 2
 have SAME:Hid (GR W2 N R mb (.slice (some ⟨b1,o1,none⟩) M c) vs D cs {s with ch:=s.ch}):=H2.out
 by_cases hk:e.k=3∨e.k=4∨e.k=5
 case neg=>
  have k3:¬e.k=3:=fun q=>hk (.inl q)
  have k4:¬e.k=4:=fun q=>hk (.inr (.inl q))
  have k5:¬e.k=5:=fun q=>hk (.inr (.inr q))
  rw[if_neg k5,if_neg k3,if_neg k4] at hR6
  have d3:(e.k==3)=false:=by simp[k3]
  have d4:(e.k==4)=false:=by simp[k4]
  have d5:(e.k==5)=false:=by simp[k5]
  clear hk k3 k4 k5 hin
  go_wp2_with fail
  go_ret
  exact ChP.yes hR6.symm SAME.out B2.out
 obtain⟨g0,g1⟩:=hin hk
 obtain⟨j,hj⟩:∃j:Nat,e.c=(j:Int):=⟨e.c.toNat,by omega⟩
 have hjl:j<s.ch.length:=by omega
 have hxj:cs[j]? =some x:=by have:=hx ⟨g0,by rw[H2.out.len];exact g1⟩;rwa [hj,Int.toNat_natCast] at this
 obtain⟨d,hd⟩:∃d,s.ch[j]? =some d:=⟨_,List.getElem?_eq_getElem hjl⟩
 obtain⟨vr,hcap,hcl⟩:=H2.out.ch j x d hxj hd
 have hgd:s.ch.getD e.c.toNat chz=d:=by rw[hj,Int.toNat_natCast,List.getD_eq_getElem?_getD,hd];rfl
 rw[hgd] at hR6
 have hxn:x.n=d.vs.length:=vr.len
 have hnb:d.vs.length≤3000:=hvs j d hd
 by_cases k5:e.k=5
 ·rw[if_pos k5] at hR6
  have d5:(e.k==5)=true:=by simp[k5]
  cases hq:d.cl
  case true=>
   rw[hq,if_pos rfl] at hR6
   rw[hcl,hq] at y2
   clear k5 hk
   go_wp2_with fail
   go_ret
   exact ChP.no hR6.symm B2.out
  rw[hq,if_neg (by simp)] at hR6
  have hxc:x.cl=false:=by rw[hcl,hq]
  rw[hxc] at y2
  have C3:=hide (Ba.heap_setCell_same (i:=2) C2.out (.bool true))
  have K3:=(KB.refl C W2).setCell 2 (.bool true)
  have E3:=hide (K3.heap E2.out (fun q=>by have:=E2.out;rw[q,C2.out] at this;simp at this))
  have H3:=hide (H2.out.kb C2.out K3)
  have B3:=hide (B2.out.kb K3 hCN hNw C2.out (by decide))
  have z2:(W2.setCell ⟨C,2,none⟩ (.bool true)).drew.cell? ⟨R,2,none⟩=some (.map (some mb)):=cell_of H3.out.hR 2
  have u2:(W2.setCell ⟨C,2,none⟩ (.bool true)).drew.cell? ⟨E,2,none⟩=some (.int .i64 (j:Int)):=by rw[←hj];exact cell_of E3.out 2
  have w0:(W2.setCell ⟨C,2,none⟩ (.bool true)).drew.cell? ⟨C,0,none⟩=some (.int .i64 x.cap):=cell_of C3.out 0
  have w1:(W2.setCell ⟨C,2,none⟩ (.bool true)).drew.cell? ⟨C,1,none⟩=some (.slice so x.n sc):=cell_of C3.out 1
  have w2:(W2.setCell ⟨C,2,none⟩ (.bool true)).drew.cell? ⟨C,2,none⟩=some (.bool true):=cell_of C3.out 2
  clear K3 C3 E3
  go_upto_region 8 with fail
  generalize W2.setCell ⟨C,2,none⟩ (.bool true)=W3 at*
  have H4:=H3.out.below (bdrew1 W3)
  obtain⟨vr,-,-⟩:=H4.ch j x d hxj hd
  obtain⟨w4,mu,g4,b4,gr4⟩:=H4.put (i:=j) (by rw[H4.len];omega) (by rw[H4.len];omega) ⟨x.nil,x.b,x.o,x.n,x.c,x.cap,true⟩ ⟨d.cap,d.vs,true⟩ ⟨vr.sn,vr.len,vr.row⟩ hcap rfl (fun k y hy hne q1 q2=>H4.dj j k x y hxj hy (Ne.symm hne) q1 q2) (fun q=>H4.dv j x hxj q) (fun q=>H4.noM.2 j x hxj q)
  have MU:(Instr.mapUpdate 136 (.map (some mb)) (.int .i64 (j:Int)) (.agg #[.int .i64 x.cap,.slice so x.n sc,.bool true])).run Tryz.prog W3.drew=.ok () w4:=by rw[←hsv];exact mu
  rw[upl_set hjl] at g4
  rw[hj,Int.toNat_natCast] at hR6
  have G4:=hide g4
  have B4:=hide ((B3.out.trans (Fb.of (bdrew1 W3) (by have:=B3.out.size;omega))).trans b4)
  clear mu g4 b4 gr4 H4 vr H3 B3 hcap hxn hcl hgd
  go_region
  all_goals
   go_wp2_with fail
   go_ret
   exact ChP.yes hR6.symm G4.out B4.out
 rw[if_neg k5] at hR6
 have d5:(e.k==5)=false:=by simp[k5]
 by_cases k3:e.k=3
 ·rw[if_pos k3] at hR6
  have d3:(e.k==3)=true:=by simp[k3]
  rw[hcl] at y2
  clear k3 k5 hk
  cases hq:d.cl
  ·rw[hq] at hR6 y2
   rw[if_neg (by simp)] at hR6
   go_wp2_with fail
   go_ret
   exact ChP.yes hR6.symm SAME.out B2.out
  ·rw[hq] at hR6 y2
   rw[if_pos rfl] at hR6
   go_wp2_with fail
   go_ret
   exact ChP.no hR6.symm B2.out
 rw[if_neg k3] at hR6
 have d3:(e.k==3)=false:=by simp[k3]
 have k4:e.k=4:=by omega
 rw[if_pos k4] at hR6
 have d4:(e.k==4)=true:=by simp[k4]
 rw[hcl] at y2
 clear k3 k5 k4 hk
 cases ho:e.o
 ·rw[ho] at v7
  rw[if_pos ho] at hR6
  cases hq:d.cl
  ·rw[hq] at hR6 y2
   rw[if_neg (by simp)] at hR6
   go_wp2_with fail
   go_ret
   exact ChP.no hR6.symm B2.out
  ·rw[hq] at hR6 y2
   rw[hxn] at y1
   obtain⟨n,hn⟩:∃n,d.vs.length=n:=⟨_,rfl⟩
   rw[hn] at y1 hnb
   by_cases hn0:n=0
   ·have hz:((n:Int)==0)=true:=by simp[hn0]
    have hz2:(n==0)=true:=by simp[hn0]
    rw[if_pos (by rw[Bool.true_and,List.isEmpty_iff,←List.length_eq_zero_iff,hn,hn0])] at hR6
    clear hn0 hn
    go_wp2_with fail
    go_ret
    exact ChP.yes hR6.symm SAME.out B2.out
   ·have hz:((n:Int)==0)=false:=by simp;omega
    have hz2:(n==0)=false:=by simp[hn0]
    rw[if_neg (by simp;intro q;rw[q] at hn;exact hn0 hn.symm)] at hR6
    clear hn0 hn
    go_wp2_with fail
    go_ret
    exact ChP.no hR6.symm B2.out
 ·rw[ho] at v7
  rw[if_neg (by simp[ho])] at hR6
  by_cases hm1:e.m=-1
  ·have dm:(e.m==-1)=true:=by simp[hm1]
   rw[if_pos (.inl hm1)] at hR6
   clear hm1
   go_wp2_with fail
   go_ret
   exact ChP.yes hR6.symm SAME.out B2.out
  ·have dm:(e.m==-1)=false:=by simp[hm1]
   cases hq:d.cl
   ·rw[hq] at hR6 y2
    rw[if_pos (.inr rfl)] at hR6
    clear hm1
    go_wp2_with fail
    go_ret
    exact ChP.yes hR6.symm SAME.out B2.out
   ·rw[hq] at hR6 y2
    rw[if_neg (by simp[hm1])] at hR6
    clear hm1
    go_wp2_with fail
    go_ret
    exact ChP.no hR6.symm B2.out
end Gu
namespace Gu
open En Ba
structure Ap(mb:Nat)(vs:Value)(cs:List Sv)(j:Nat)(x:Sv):Prop where
 d:∀(k:Nat) z,cs[k]? =some z→k≠j→x.nil=false→z.nil=false→x.b≠z.b
 v:x.nil=false→vs.ownBlock≠some x.b
 m:x.nil=false→x.b≠mb
section
variable {w w':World}{N R mb:Nat}{ev vs:Value}{D:DataW Unit}{cs:List Sv}{s:Gs}
theorem GR.ap(h:GR w N R mb ev vs D cs s){j:Nat}{x:Sv}(hx:cs[j]? =some x):Ap mb vs cs j x:=
 ⟨fun k z hz hne q1 q2=>h.dj j k x z hx hz (Ne.symm hne) q1 q2,fun q=>h.dv j x hx q,fun q=>h.noM.2 j x hx q⟩
theorem GR.app(h:GR w N R mb ev vs D cs s)(hNw:N≤w.heap.size){j:Nat}{x:Sv}{d:Chn}(hx:cs[j]? =some x)(hd:s.ch[j]? =some d)(hl:d.vs.length≤4000)(y:Int):
 ∃(x':Sv) (w':World),(Builtin.append_ #[23,23] 23 #[svs x,.slice (some ⟨w.heap.size,0,none⟩) 1 1]).run Tryz.prog (w.alloc (.cells #[.int .i64 y] 3))=.ok (svs x') w'∧VR w' N x' (d.vs++[y])∧x'.nil=false∧x'.cap=x.cap∧x'.cl=x.cl∧GR w' N R mb ev vs D cs s∧Ap mb vs cs j x'∧Fb N w w'∧(∀(b:Nat) (cc:Array Value) (t:TypeId),w.heap[b]? =some (.cells cc t (0,0))→t≠3→w'.heap[b]? =some (.cells cc t (0,0))):=by
 obtain⟨vr,-,-⟩:=h.ch j x d hx hd
 obtain⟨x',w',hr,hv,hn,hcap,hcl,hg,hat,hx'⟩:=vr.app hl hNw y
 have ap:=h.ap hx
 have g1:∀{b:Nat} {o:Obj},w.heap[b]? =some o→(x.nil=false→b≠x.b)→w'.heap[b]? =some o:=fun {b o} hb hne=>by
  have hb':=heap_below hb (below_alloc w (.cells #[.int .i64 y] 3))
  refine (hg.block b (heap_lt hb') fun q=>?_).trans hb'
  cases hq:x.nil
  ·rw[hq] at q;simp at q;exact hne hq q
  ·rw[hq] at q;simp at q
 have hrow:x.nil=false→∃cur,w.heap[x.b]? =some (.cells cur 3 (0,0)):=fun q=>by
  obtain⟨-,cur,hb,-⟩:=vr.row q
  exact⟨cur,hb⟩
 have hG:GR w' N R mb ev vs D cs s:=by
  refine⟨h.hN,g1 h.hR (fun q e=>h.noR.2.2 j x hx q e.symm),⟨h.st.1,?_⟩,?_,h.mi,h.len,fun k z c hz hc=>?_,h.dj,h.dv⟩
  ·rcases h.st.2 with q|⟨g,cap,cur,q1,q2,q3,q4⟩
   ·exact .inl q
   ·exact .inr ⟨g,cap,cur,q1,q2,g1 q3 (fun q e=>ap.v q (by rw[q1,e];rfl)),q4⟩
  ·obtain⟨es,ck,hb,r⟩:=h.mp
   exact⟨es,ck,g1 hb (fun q e=>ap.m q e.symm),r⟩
  ·obtain⟨v,r⟩:=h.ch k z c hz hc
   by_cases hk:k=j
   ·subst hk
    rw[hx] at hz;cases hz
    rw[hd] at hc;cases hc
    exact⟨hx',r⟩
   ·refine⟨v.keep fun q=>?_,r⟩
    obtain⟨-,cur,hb,-⟩:=v.row q
    rw[g1 hb (fun q' e=>ap.d k z hz hk q' q e.symm),hb]
 refine⟨x',w',hr,hv,hn,hcap,hcl,hG,?_,?_,fun b cc t hb ht=>g1 hb fun q e=>?_⟩
 ·rcases hat with⟨q,e⟩|e
  ·exact⟨fun k z hz hne _ q2=>by rw[e];exact ap.d k z hz hne q q2,fun _=>by rw[e];exact ap.v q,fun _=>by rw[e];exact ap.m q⟩
  ·refine⟨fun k z hz hne _ q2 e2=>?_,fun _ e2=>?_,fun _ e2=>?_⟩
   ·have hil:k<cs.length:=(List.getElem?_eq_some_iff.1 hz).1
    obtain⟨c,hc⟩:∃c,s.ch[k]? =some c:=⟨_,List.getElem?_eq_getElem (by rw[←h.len];exact hil)⟩
    obtain⟨-,cur,hb,-⟩:=(h.ch k z c hz hc).1.row q2
    have:=heap_lt hb
    omega
   ·have:=(h.st.lt _ e2).2
    omega
   ·have:=h.mp.lt
    omega
 ·have hsz:=hg.size
  rw[World.size_alloc] at hsz
  refine⟨⟨hg.os,hg.tape,hg.output,by omega,fun k hk=>(hg.block k (by rw[World.size_alloc];omega) fun q=>?_).trans ((below_alloc w _).block k (by omega))⟩,fun k cc hk=>g1 hk fun q e=>by obtain⟨cur,hb'⟩:=hrow q;rw[e,hb'] at hk;cases hk⟩
  cases hq:x.nil
  ·rw[hq] at q;simp at q;obtain⟨h1,-⟩:=vr.row hq;omega
  ·rw[hq] at q;simp at q
 ·obtain⟨cur,hb'⟩:=hrow q
  rw[e,hb'] at hb
  cases hb
  exact ht rfl
def O5(w wc:World)(N R mb:Nat)(ev vs:Value)(D:DataW Unit)(cs:List Sv)(s:Gs)(e:Ev)(d:Chn)(L:List Int)(j E C:Nat):Prop:=
 ∃x',GR wc N R mb ev vs D cs s∧VR wc N x' L∧Ap mb vs cs j x'∧x'.cap=d.cap∧x'.cl=d.cl∧wc.heap[E]? =some (.cells #[.int .i64 e.k,.int .i64 e.g,.int .i64 e.c,.int .i64 e.a,.int .i64 e.v,.int .i64 e.m,.bool e.s,.bool e.o] 40)∧wc.heap[C]? =some (.cells #[.int .i64 x'.cap,svs x',.bool x'.cl] 184 (0,0))∧Fb N w wc
theorem VR.noC{x:Sv}{L:List Int}{C:Nat}{cc:Array Value}(h:VR w N x L)(hC:w.heap[C]? =some (.cells cc 184 (0,0)))(k:KB C w w'):VR w' N x L:=h.keep fun q=>by
 obtain⟨-,cur,hb,-⟩:=h.row q
 rw[k.heap hb (fun e=>by rw[e,hC] at hb;cases hb),hb]
theorem ev_noC{e:Ev}{E C:Nat}{cc:Array Value}(hE:w.heap[E]? =some (.cells #[.int .i64 e.k,.int .i64 e.g,.int .i64 e.c,.int .i64 e.a,.int .i64 e.v,.int .i64 e.m,.bool e.s,.bool e.o] 40))(hC:w.heap[C]? =some (.cells cc 184 (0,0)))(k:KB C w w'):w'.heap[E]? =some (.cells #[.int .i64 e.k,.int .i64 e.g,.int .i64 e.c,.int .i64 e.a,.int .i64 e.v,.int .i64 e.m,.bool e.s,.bool e.o] 40):=
 k.heap hE (fun q=>by rw[q,hC] at hE;cases hE)
theorem O5.put{w0:World}{e:Ev}{d:Chn}{L:List Int}{j E C:Nat}{x' x:Sv}{old:Value}(g:GR w N R mb ev vs D cs s)(vr:VR w N x' L)(ap:Ap mb vs cs j x')(h1:x'.cap=x.cap)(h2:x'.cl=x.cl)(h3:x.cap=d.cap)(h4:x.cl=d.cl)(hE:w.heap[E]? =some (.cells #[.int .i64 e.k,.int .i64 e.g,.int .i64 e.c,.int .i64 e.a,.int .i64 e.v,.int .i64 e.m,.bool e.s,.bool e.o] 40))(hC:w.heap[C]? =some (.cells #[.int .i64 x.cap,old,.bool x.cl] 184 (0,0)))(hCN:N≤C)(hN:N≤w0.heap.size)(b:Fb N w0 w){v:Value}(hv:v=svs x'):
 O5 w0 (w.setCell ⟨C,1,none⟩ v) N R mb ev vs D cs s e d L j E C:=by
 subst hv
 have K:=(KB.refl C w).setCell 1 (svs x')
 refine⟨x',g.kb hC K,vr.noC hC K,ap,h1.trans h3,h2.trans h4,ev_noC hE hC K,?_,b.kb K hCN hN hC (by decide)⟩
 have:=Ba.heap_setCell_same (i:=1) hC (svs x')
 rw[h1,h2]
 exact this
end
set_option maxRecDepth 100000 in
theorem ord_any{w:World}{N R c:Nat}{oa:Option Addr}{l:List Ev}{s:Gs}(h:GW w N R (.slice oa l.length c) s)(hA:EsAt w oa l){i:Nat}{e:Ev}(hi:l[i]? =some e)(hc:-1≤e.c∧e.c≤511)(hin:moves e=true→0≤e.c∧e.c<s.ch.length)(hch:s.ch.length≤3000)(hvs:∀(j:Nat) d,s.ch[j]? =some d→d.vs.length≤3000)(hll:l.length≤4000)(hNw:N≤w.heap.size):
 Calls Tryz.prog 80 #[.pointer (some ⟨R,0,none⟩),.int .i64 (i:Int)] w fun r w'=>ChP (r5 s.ch e l[i+1]?) N R (.slice oa l.length c) s w r w':=by
 obtain⟨mb,vs,D,cs,h⟩:=h
 have hil:i<l.length:=(List.getElem?_eq_some_iff.1 hi).1
 have hnx:∀x,l[i+1]? =some x→i+1<l.length:=fun x hx=>(List.getElem?_eq_some_iff.1 hx).1
 have hnn:l[i+1]? =none→l.length≤i+1:=fun q=>List.getElem?_eq_none_iff.1 q
 obtain⟨b1,o1,rfl,-⟩:=hA i e hi
 obtain⟨p0,p1,p2,p3,p4,p5,p6,p7⟩:=hA.read hi
 have hiM:(i:Int)<(l.length:Int):=by omega
 have HA:=hide hA
 clear hA hi
 have H1:=hide (h.below (below_alloc w (.cells #[.int .i64 e.k,.int .i64 e.g,.int .i64 e.c,.int .i64 e.a,.int .i64 e.v,.int .i64 e.m,.bool e.s,.bool e.o] 40)))
 have E1:=hide (heap_new w (.cells #[.int .i64 e.k,.int .i64 e.g,.int .i64 e.c,.int .i64 e.a,.int .i64 e.v,.int .i64 e.m,.bool e.s,.bool e.o] 40))
 have B1:=hide (Fb.of (below_alloc w (.cells #[.int .i64 e.k,.int .i64 e.g,.int .i64 e.c,.int .i64 e.a,.int .i64 e.v,.int .i64 e.m,.bool e.s,.bool e.o] 40)) hNw)
 have BW:=hide (below_alloc w (.cells #[.int .i64 e.k,.int .i64 e.g,.int .i64 e.c,.int .i64 e.a,.int .i64 e.v,.int .i64 e.m,.bool e.s,.bool e.o] 40))
 have c0:w.cell? ⟨R,0,none⟩=some (.slice (some ⟨b1,o1,none⟩) l.length c):=cell_of h.hR 0
 have hRw:R<w.heap.size:=heap_lt h.hR
 obtain⟨R5,hR5⟩:∃R5,r5 s.ch e l[i+1]? =R5:=⟨_,rfl⟩
 rw[hR5]
 unfold r5 moves at hR5
 unfold moves at hin
 clear h
 obtain⟨E,hE⟩:∃E,w.heap.size=E:=⟨_,rfl⟩
 have SM:Hid (∀u D vs cs,GR u N R mb (.slice (some ⟨b1,o1,none⟩) l.length c) vs D cs s→GR u N R mb (.slice (some ⟨b1,o1,none⟩) l.length c) vs D cs {s with ch:=s.ch}):=fun _ _ _ _ h=>h
 by_cases hm:e.k=3∨(e.k=4∧e.o=true)
 case neg=>
  rw[if_neg (by simpa using hm)] at hR5
  have d3:(e.k==3)=false:=by simp;exact fun q=>hm (.inl q)
  have SAME:=hide (SM.out _ _ _ _ H1.out)
  have v0:(w.alloc (.cells #[.int .i64 e.k,.int .i64 e.g,.int .i64 e.c,.int .i64 e.a,.int .i64 e.v,.int .i64 e.m,.bool e.s,.bool e.o] 40)).cell? ⟨w.heap.size,0,none⟩=some (.int .i64 e.k):=cell_of E1.out 0
  have v5:(w.alloc (.cells #[.int .i64 e.k,.int .i64 e.g,.int .i64 e.c,.int .i64 e.a,.int .i64 e.v,.int .i64 e.m,.bool e.s,.bool e.o] 40)).cell? ⟨w.heap.size,5,none⟩=some (.int .i64 e.m):=cell_of E1.out 5
  have v7:(w.alloc (.cells #[.int .i64 e.k,.int .i64 e.g,.int .i64 e.c,.int .i64 e.a,.int .i64 e.v,.int .i64 e.m,.bool e.s,.bool e.o] 40)).cell? ⟨w.heap.size,7,none⟩=some (.bool e.o):=cell_of E1.out 7
  clear hE
  cases d4:(e.k==4)
  ·go_enter Tryz.func80,Tryz.ntmps80
   go_upto_region 2 with fail
   clear p0 p1 p2 p3 p4 p5 p6 p7 c0
   generalize w.alloc (.cells #[.int .i64 e.k,.int .i64 e.g,.int .i64 e.c,.int .i64 e.a,.int .i64 e.v,.int .i64 e.m,.bool e.s,.bool e.o] 40)=W1 at*
   go_quiet (fail)
   go_wp2_with fail
   go_ret
   exact ChP.yes hR5.symm (SAME.out.below (bdrew _ _)) (B1.out.trans (Fb.of (bdrew _ _) (by have:=B1.out.size;omega)))
  ·have ho:e.o=false:=by cases q:e.o;rfl;exact absurd (.inr ⟨by simpa using d4,q⟩) hm
   clear hm
   have HO:=hide ho
   clear ho
   go_enter Tryz.func80,Tryz.ntmps80
   go_upto_region 2 with fail
   clear p0 p1 p2 p3 p4 p5 p6 p7 c0
   generalize w.alloc (.cells #[.int .i64 e.k,.int .i64 e.g,.int .i64 e.c,.int .i64 e.a,.int .i64 e.v,.int .i64 e.m,.bool e.s,.bool e.o] 40)=W1 at*
   rw[HO.out] at v7
   go_quiet (fail)
   go_wp2_with fail
   go_ret
   exact ChP.yes hR5.symm (SAME.out.below (bdrew _ _)) (B1.out.trans (Fb.of (bdrew _ _) (by have:=B1.out.size;omega)))
 have hmv:(decide (e.k=3)||(decide (e.k=4)&&e.o))=true:=by simpa using hm
 rw[if_pos hmv] at hR5
 obtain⟨g0,g1⟩:=hin hmv
 obtain⟨j,hj⟩:∃j:Nat,e.c=(j:Int):=⟨e.c.toNat,by omega⟩
 have hjl:j<s.ch.length:=by omega
 obtain⟨d,hd⟩:∃d,s.ch[j]? =some d:=⟨_,List.getElem?_eq_getElem hjl⟩
 have hgd:s.ch.getD e.c.toNat chz=d:=by rw[hj,Int.toNat_natCast,List.getD_eq_getElem?_getD,hd];rfl
 rw[hgd,hj,Int.toNat_natCast] at hR5
 obtain⟨x,hxj⟩:∃x,cs[j]? =some x:=⟨_,List.getElem?_eq_getElem (by rw[H1.out.len];exact hjl)⟩
 have hnb:d.vs.length≤3000:=hvs j d hd
 have HR5:=hide hR5
 obtain⟨sv,hsv⟩:∃b,(e.m !=-1)=b:=⟨_,rfl⟩
 have HSV:Hid ((sv=true∧e.m≠-1)∨(sv=false∧e.m=-1)):=by
  cases sv
  ·exact .inr ⟨rfl,by simpa using hsv⟩
  ·exact .inl ⟨rfl,by simpa using hsv⟩
 obtain⟨snt,rcv,HSR⟩:∃snt rcv,Hid ((snt=true∧rcv=false∧e.k=3)∨(snt=false∧rcv=true∧e.k=4∧e.o=true)):=by
  rcases hm with q|q
  ·exact⟨true,false,.inl ⟨rfl,rfl,q⟩⟩
  ·exact⟨false,true,.inr ⟨rfl,rfl,q⟩⟩
 have HJ:=hide hj
 clear hmv hm hR5 hgd hin hvs hj
 go_enter Tryz.func80,Tryz.ntmps80
 go_upto_region 2 with fail
 rw[hE] at E1 hRw
 clear p0 p1 p2 p3 p4 p5 p6 p7 c0
 have HE:=hide hE
 clear hE
 generalize w.alloc (.cells #[.int .i64 e.k,.int .i64 e.g,.int .i64 e.c,.int .i64 e.a,.int .i64 e.v,.int .i64 e.m,.bool e.s,.bool e.o] 40)=W1 at*
 have v0:W1.cell? ⟨E,0,none⟩=some (.int .i64 e.k):=cell_of E1.out 0
 have v5:W1.cell? ⟨E,5,none⟩=some (.int .i64 e.m):=cell_of E1.out 5
 have v7:W1.cell? ⟨E,7,none⟩=some (.bool e.o):=cell_of E1.out 7
 go_cut [6,7,8] (fun s6 s7 s8 wc=>s6=.bool snt∧s7=.bool rcv∧s8=.bool sv∧∃q,wc=W1.drewN q)
 case first=>
  rcases HSR.out with⟨rfl,rfl,hk⟩|⟨rfl,rfl,hk,ho⟩
  ·have d3:(e.k==3)=true:=by simp[hk]
   have d4:(e.k==4)=false:=by simp[hk]
   clear hk
   go_quiet (fail)
   go_wp2_with fail
   go_meet
   case rel=>exact⟨rfl,rfl,rfl,_,rfl⟩
  ·have d3:(e.k==3)=false:=by simp[hk]
   have d4:(e.k==4)=true:=by simp[hk]
   rw[ho] at v7
   clear hk ho
   go_quiet (fail)
   go_wp2_with fail
   go_meet
   case rel=>exact⟨rfl,rfl,rfl,_,rfl⟩
 case rest=>
 obtain⟨rfl,rfl,rfl,q1,e1⟩:=hcut
 have K1:Below W1.heap.size W1 wc:=by rw[e1];exact bdrew _ _
 have G1:=hide (H1.out.below K1)
 have F1:=hide (heap_below E1.out K1)
 have B0:=hide (B1.out.trans (Fb.of K1 (by have:=B1.out.size;omega)))
 have BV:=hide (BW.out.trans (K1.mono (by have:=BW.out.size;omega)))
 clear e1 v0 v5 v7 hsv H1 E1 B1 BW K1
 rename World=>W1
 have H1:=G1
 have E1:=F1
 have B1:=B0
 have BW:=BV
 clear G1 F1 B0 BV
 go_upto_region 3 with fail
 go_cut [35] (fun s35 wc=>s35=.bool false∧wc=W1)
 case first=>
  rcases HSR.out with⟨rfl,rfl,hk⟩|⟨rfl,rfl,hk,ho⟩
  ·clear hk
   go_wp2_with fail
   go_meet
   case rel=>exact⟨rfl,rfl⟩
  ·clear hk ho
   go_wp2_with fail
   go_meet
   case rel=>exact⟨rfl,rfl⟩
 case rest=>
 obtain⟨rfl,e1⟩:=hcut
 obtain rfl:=e1.symm
 clear e1
 go_upto_region 5 with fail
 have hj:=HJ.out
 obtain⟨x0,lk,hx,hsn⟩:=H1.out.look e.c (by omega)
 have hx0:x0=x:=by have:=hx ⟨g0,by rw[H1.out.len];exact g1⟩;rw[hj,Int.toNat_natCast,hxj] at this;cases this;rfl
 subst hx0
 obtain⟨so,sc,hsl⟩:=svs_sl x0 hsn
 rw[hj] at lk
 have LK0:(Instr.lookup 136 (.map (some mb)) (.int .i64 (j:Int)) false).run Tryz.prog W1.drew=.ok (.agg #[.int .i64 x0.cap,.slice so x0.n sc,.bool x0.cl]) W1.drew:=by rw[lk _ (bdrew1 _)];unfold chV;rw[hsl]
 have LK1:∀o,(Instr.lookup 136 (.map (some mb)) (.int .i64 (j:Int)) false).run Tryz.prog (W1.alloc o).drew=.ok (.agg #[.int .i64 x0.cap,.slice so x0.n sc,.bool x0.cl]) (W1.alloc o).drew:=fun o=>by rw[lk _ (btr (below_alloc W1 o) (bdrew1 _))];unfold chV;rw[hsl]
 have c2:W1.drew.cell? ⟨R,2,none⟩=some (.map (some mb)):=cell_of H1.out.hR 2
 have c2':∀o,(W1.alloc o).drew.cell? ⟨R,2,none⟩=some (.map (some mb)):=fun o=>cellB3 c2 (below_alloc _ o)
 have v2:W1.drew.cell? ⟨E,2,none⟩=some (.int .i64 (j:Int)):=by rw[←hj];exact cell_of E1.out 2
 have v2':∀o,(W1.alloc o).drew.cell? ⟨E,2,none⟩=some (.int .i64 (j:Int)):=fun o=>cellB3 v2 (below_alloc _ o)
 have HSL:=hide hsl
 clear lk hx hj hsl
 go_cut [9] (fun s9 wc=>∃C,s9=.pointer (some ⟨C,0,none⟩)∧wc.heap[C]? =some (.cells #[.int .i64 x0.cap,.slice so x0.n sc,.bool x0.cl] 184 (0,0))∧W1.heap.size≤C∧Below W1.heap.size W1 wc)
 case first=>
  go_region
  all_goals
   go_wp2_with fail
   go_meet
   case rel=>exact⟨W1.heap.size,rfl,heap_below (heap_new W1 _) (bdrew1 _),Nat.le_refl _,btr (below_alloc _ _) (bdrew1 _)⟩
 case rest=>
 obtain⟨C,rfl,ec,hCs,bl⟩:=hcut
 have hCN:N≤C:=by have:=B1.out.size;omega
 have H2:=hide (H1.out.below bl)
 have E2:=hide (heap_below E1.out bl)
 have C2:=hide ec
 have B2:=hide (B1.out.trans (Fb.of bl (by have:=B1.out.size;omega)))
 have A2:=hide (HA.out.below (BW.out.trans (bl.mono (by have:=BW.out.size;omega))))
 clear LK0 LK1 c2 c2' v2 v2' ec bl H1 E1 B1 HA BW
 rename World=>W2
 obtain⟨vr2,hcap2,hcl2⟩:=H2.out.ch j x0 d hxj hd
 have VR2:=hide vr2
 have HC2:=hide (And.intro hcap2 hcl2)
 have hN2:N≤W2.heap.size:=by have:=B2.out.size;omega
 have c0:W2.cell? ⟨R,0,none⟩=some (.slice (some ⟨b1,o1,none⟩) l.length c):=cell_of H2.out.hR 0
 have v4:W2.cell? ⟨E,4,none⟩=some (.int .i64 e.v):=cell_of E2.out 4
 have y1:W2.cell? ⟨C,1,none⟩=some (.slice so x0.n sc):=cell_of C2.out 1
 clear vr2 hcap2 hcl2 g0 g1
 go_upto_block 0 with fail
 go_cut [] (fun wc=>O5 w wc N R mb (.slice (some ⟨b1,o1,none⟩) l.length c) vs D cs s e d (putP d e l[i+1]?) j E C)
 case first=>
  rcases HSR.out with⟨rfl,rfl,hk⟩|⟨rfl,rfl,hk,ho⟩
  ·have PU:Hid (putP d e l[i+1]? =d.vs++[e.v]):=by show _=_;unfold putP;rw[if_pos hk]
   obtain⟨x',w3,ap,vr3,hn3,hc3,hl3,g3,a3,b3,ke3⟩:=H2.out.app hN2 hxj hd (by omega) e.v
   have hs':svs x'=.slice (some ⟨x'.b,x'.o,none⟩) x'.n x'.c:=by unfold svs;rw[if_neg (by rw[hn3];simp)]
   have C3:=hide (ke3 C _ _ C2.out (by decide))
   have E3:=hide (ke3 E _ _ E2.out (by decide))
   have AP:Hid ((Builtin.append_ #[23,23] 23 #[.slice so x0.n sc,.slice (some ⟨W2.heap.size,0,none⟩) 1 1]).run Tryz.prog (W2.alloc (.cells #[.int .i64 e.v] 3))=.ok (.slice (some ⟨x'.b,x'.o,none⟩) x'.n x'.c) w3):=by
    show _=_
    rw[←HSL.out,←hs'];exact ap
   have X3:=hide (And.intro hc3 hl3)
   have G3:=hide g3
   have V3:=hide vr3
   have A3:=hide a3
   have B3:=hide (B2.out.trans b3)
   have HS:=hide hs'
   have t1:w3.cell? ⟨C,1,none⟩=some (.slice so x0.n sc):=cell_of C3.out 1
   have z1:=frozen_of C3.out 1
   clear hk ap vr3 hn3 hc3 hl3 g3 a3 b3 ke3 hs'
   go_wp2_with (at_builtin;refine wpL_app rfl _ _ 23 23 rfl _ _ rfl rfl _ _ AP.out ?_)
   go_meet
   case rel=>rw[PU.out];exact O5.put G3.out V3.out A3.out X3.out.1 X3.out.2 HC2.out.1 HC2.out.2 E3.out C3.out hCN hNw B3.out HS.out.symm
  ·have nk:¬e.k=3:=by omega
   have SAME:Hid (putP d e l[i+1]? =d.vs→O5 w W2 N R mb (.slice (some ⟨b1,o1,none⟩) l.length c) vs D cs s e d (putP d e l[i+1]?) j E C):=fun q=>by
    rw[q]
    exact⟨x0,H2.out,VR2.out,H2.out.ap hxj,HC2.out.1,HC2.out.2,E2.out,by rw[HSL.out];exact C2.out,B2.out⟩
   clear ho
   rcases HSV.out with⟨rfl,hm⟩|⟨rfl,hm⟩
   ·cases hy:l[i+1]? with
    |none=>
     have PU:Hid (putP d e l[i+1]? =d.vs):=by show _=_;unfold putP;rw[if_neg nk,if_pos hm,hy]
     have hlt:=hnn hy
     have dlt:decide ((i:Int)+1<(l.length:Int))=false:=by simp;omega
     clear nk hm hy hk
     go_wp2_with fail
     go_meet
     case rel=>exact SAME.out PU.out
    |some y=>
     have PU:Hid (putP d e l[i+1]? =d.vs++[y.v]):=by show _=_;unfold putP;rw[if_neg nk,if_pos hm,hy]
     have hlt:=hnx y hy
     obtain⟨-,-,-,-,y4,-,-,-⟩:=A2.out.read hy
     obtain⟨k1,hk1⟩:∃k1,i+1=k1:=⟨_,rfl⟩
     have hkM1:(k1:Int)<(l.length:Int):=by omega
     have hk0:(0:Int)≤(k1:Int):=by omega
     have wk0:(i:Int)+1=(k1:Int):=by omega
     have wk1:IntKind.i64.wrap (k1:Int)=(k1:Int):=by rw[IntKind.wrap_i64];omega
     have y4':W2.drew.cell? ⟨b1,o1+k1*8+4,none⟩=some (.int .i64 y.v):=by rw[←hk1];exact y4
     have c0':W2.drew.cell? ⟨R,0,none⟩=some (.slice (some ⟨b1,o1,none⟩) l.length c):=c0
     have y1':W2.drew.cell? ⟨C,1,none⟩=some (.slice so x0.n sc):=y1
     have y1'':(W2.alloc (.cells #[.int .i64 y.v] 3)).drew.cell? ⟨C,1,none⟩=some (.slice so x0.n sc):=cellB3 y1' (below_alloc _ _)
     obtain⟨x',w3,ap,vr3,hn3,hc3,hl3,g3,a3,b3,ke3⟩:=(H2.out.below (bdrew1 W2)).app hN2 hxj hd (by omega) y.v
     have hs':svs x'=.slice (some ⟨x'.b,x'.o,none⟩) x'.n x'.c:=by unfold svs;rw[if_neg (by rw[hn3];simp)]
     have C3:=hide (ke3 C _ _ (show W2.drew.heap[C]? =_ from C2.out) (by decide))
     have E3:=hide (ke3 E _ _ (show W2.drew.heap[E]? =_ from E2.out) (by decide))
     have AP:(Builtin.append_ #[23,23] 23 #[.slice so x0.n sc,.slice (some ⟨W2.heap.size,0,none⟩) 1 1]).run Tryz.prog (W2.alloc (.cells #[.int .i64 y.v] 3)).drew=.ok (.slice (some ⟨x'.b,x'.o,none⟩) x'.n x'.c) w3:=by
      rw[←HSL.out,←hs'];exact ap
     have X3:=hide (And.intro hc3 hl3)
     have G3:=hide g3
     have V3:=hide vr3
     have A3:=hide a3
     have B3:=hide ((B2.out.trans (Fb.of (bdrew1 W2) (by omega))).trans b3)
     have HS:=hide hs'
     have t1:w3.cell? ⟨C,1,none⟩=some (.slice so x0.n sc):=cell_of C3.out 1
     have z1:=frozen_of C3.out 1
     clear nk hm hy hk ap vr3 hn3 hc3 hl3 g3 a3 b3 ke3 hs' hk1 y4 hlt
     go_wp2_with fail
     go_region_law (refine step_append_run _ (by rfl) _ _ _ _ (by rfl) _ _ (by rfl) (by rfl) _ _ AP ?_)
     all_goals
      go_wp2_with fail
      go_meet
      case rel=>rw[PU.out];exact O5.put G3.out V3.out A3.out X3.out.1 X3.out.2 HC2.out.1 HC2.out.2 E3.out C3.out hCN hNw B3.out HS.out.symm
   ·have PU:Hid (putP d e l[i+1]? =d.vs):=by show _=_;unfold putP;rw[if_neg nk,if_neg (by omega)]
    clear nk hm hk
    go_wp2_with fail
    go_meet
    case rel=>exact SAME.out PU.out
 case rest=>
 obtain⟨x',g,vr,ap,hcap,hcl,eE,eC,bl⟩:=hcut
 obtain⟨so',sc',hs'⟩:=svs_sl x' vr.sn
 rw[hs'] at eC
 have H3:=hide g
 have V3:=hide vr
 have A3:=hide ap
 have E3:=hide eE
 have C3:=hide eC
 have B3:=hide bl
 have HS3:=hide hs'
 have X3:=hide (And.intro hcap hcl)
 clear g vr ap eE eC bl hs' hcap hcl c0 v4 y1 H2 E2 C2 B2 A2 VR2 HC2 HSL hnx hnn
 rename World=>W3
 obtain⟨L,hL⟩:∃L,putP d e l[i+1]? =L:=⟨_,rfl⟩
 have hR:=HR5.out
 unfold r5c at hR
 rw[hL] at hR V3
 clear hL HR5
 obtain⟨pp,hpp⟩:∃pp,(rcv||sv)=pp:=⟨_,rfl⟩
 have HP:Hid ((pp=true∧(e.k=4∨e.m≠-1))∨(pp=false∧¬(e.k=4∨e.m≠-1))):=by
  rcases HSR.out with⟨h1,h2,h3⟩|⟨h1,h2,h3,-⟩<;>rcases HSV.out with⟨h4,h5⟩|⟨h4,h5⟩<;>rw[h2,h4] at hpp<;>subst hpp
  ·exact .inl ⟨rfl,.inr h5⟩
  ·exact .inr ⟨rfl,by omega⟩
  ·exact .inl ⟨rfl,.inl h3⟩
  ·exact .inl ⟨rfl,.inl h3⟩
 go_upto_region 10 with fail
 go_cut [81] (fun s81 wc=>s81=.bool pp∧wc=W3)
 case first=>
  clear HSR HP
  cases rcv
  ·obtain rfl:sv=pp:=by simpa using hpp
   go_wp2_with fail
   go_meet
   case rel=>exact⟨rfl,rfl⟩
  ·obtain rfl:true=pp:=by simpa using hpp
   go_wp2_with fail
   go_meet
   case rel=>exact⟨rfl,rfl⟩
 case rest=>
 obtain⟨rfl,e1⟩:=hcut
 obtain rfl:=e1.symm
 clear e1 hpp HSR
 have y1:W3.cell? ⟨C,1,none⟩=some (.slice so' x'.n sc'):=cell_of C3.out 1
 rcases HP.out with⟨rfl,hyes⟩|⟨rfl,hno⟩
 case inr=>
  rw[if_neg hno] at hR
  rw[apply_ite (Option.map _)] at hR
  clear hno HP HSV
  go_upto_region 16 with fail
  clear y1
  have H4:=H3.out.below (bdrew1 W3)
  obtain⟨w4,mu,g4,b4,gr4⟩:=H4.put (i:=j) (by rw[H4.len];omega) (by rw[H4.len];omega) ⟨x'.nil,x'.b,x'.o,x'.n,x'.c,x'.cap,x'.cl⟩ ⟨d.cap,L,d.cl⟩ (V3.out.keep fun _=>rfl) X3.out.1 X3.out.2 A3.out.d A3.out.v A3.out.m
  rw[upl_set hjl] at g4
  have G4:=hide g4
  have B4:=hide ((B3.out.trans (Fb.of (bdrew1 W3) (by have:=B3.out.size;omega))).trans b4)
  have MU:(Instr.mapUpdate 136 (.map (some mb)) (.int .i64 (j:Int)) (.agg #[.int .i64 x'.cap,Value.slice so' x'.n sc',.bool x'.cl])).run Tryz.prog W3.drew=.ok () w4:=by rw[←HS3.out];exact mu
  have C4:=hide ((gr4.block C (heap_lt (show W3.drew.heap[C]? =_ from C3.out)) (fun q=>by injection q with q;obtain⟨es,ck,hb,-⟩:=H3.out.mp;rw[←q,C3.out] at hb;cases hb)).trans (show W3.drew.heap[C]? =_ from C3.out))
  have z2:W3.drew.cell? ⟨R,2,none⟩=some (.map (some mb)):=cell_of H3.out.hR 2
  have u2:W3.drew.cell? ⟨E,2,none⟩=some (.int .i64 (j:Int)):=by rw[←HJ.out];exact cell_of E3.out 2
  have w0:W3.drew.cell? ⟨C,0,none⟩=some (.int .i64 x'.cap):=cell_of C3.out 0
  have w1:W3.drew.cell? ⟨C,1,none⟩=some (Value.slice so' x'.n sc'):=cell_of C3.out 1
  have w2:W3.drew.cell? ⟨C,2,none⟩=some (.bool x'.cl):=cell_of C3.out 2
  have q0:w4.cell? ⟨C,0,none⟩=some (.int .i64 x'.cap):=cell_of C4.out 0
  have q1:w4.cell? ⟨C,1,none⟩=some (Value.slice so' x'.n sc'):=cell_of C4.out 1
  clear mu g4 b4 gr4 H4
  go_cut [] (fun wc=>wc=w4)
  case first=>
   go_region
   all_goals
    go_wp2_with fail
    go_meet
    case rel=>rfl
  case rest=>
  obtain rfl:=hcut
  clear MU z2 u2 w0 w1 w2
  by_cases hle:(L.length:Int)≤d.cap
  ·rw[if_pos hle] at hR
   have dle:decide ((x'.n:Int)≤x'.cap)=true:=by rw[X3.out.1];exact decide_eq_true (by have:=V3.out.len;omega)
   clear hle
   go_wp2_with fail
   go_ret
   exact ChP.yes hR.symm G4.out B4.out
  ·rw[if_neg hle] at hR
   have dle:decide ((x'.n:Int)≤x'.cap)=false:=by rw[X3.out.1];exact decide_eq_false (by have:=V3.out.len;omega)
   clear hle
   go_wp2_with fail
   go_ret
   exact ChP.no hR.symm B4.out
 case inl=>
  rw[if_pos hyes] at hR
  clear hyes HP
  cases L with
  |nil=>
   have hn0:x'.n=0:=V3.out.len
   rw[hn0] at y1
   clear hn0
   simp only at hR
   rcases HSV.out with⟨rfl,hm⟩|⟨rfl,hm⟩
   ·rw[if_pos hm] at hR
    have hset:s.ch.set j d=s.ch:=by
     apply List.ext_getElem?
     intro k
     by_cases hk:j=k
     ·subst hk;rw[List.getElem?_set_self hjl,hd]
     ·rw[List.getElem?_set_ne hk]
    simp only[Option.map_some,hset] at hR
    clear hm hset
    go_wp2_with fail
    go_ret
    exact ChP.yes hR.symm (SM.out _ _ _ _ H3.out) B3.out
   ·rw[if_neg (by omega)] at hR
    simp only[Option.map_none] at hR
    clear hm
    go_wp2_with fail
    go_ret
    exact ChP.no hR.symm B3.out
  |cons v r=>
   simp only at hR
   obtain⟨hnil,vt⟩:=V3.out.tail
   obtain⟨h1,cur,h2,h3,h4,h5,h6⟩:=V3.out.row hnil
   have hsl:=HS3.out
   unfold svs at hsl
   rw[if_neg (by rw[hnil];simp)] at hsl
   injection hsl with a1 a2 a3
   subst a1 a3
   have hlen:x'.n=r.length+1:=V3.out.len
   have r0:W3.drew.cell? ⟨x'.b,x'.o,none⟩=some (.int .i64 v):=(cell_of (show W3.drew.heap[x'.b]? =_ from h2) x'.o).trans (h6 0 v rfl)
   have y1':W3.drew.cell? ⟨C,1,none⟩=some (.slice (some ⟨x'.b,x'.o,none⟩) x'.n x'.c):=y1
   have v4':W3.drew.cell? ⟨E,4,none⟩=some (.int .i64 e.v):=cell_of E3.out 4
   have f1:=frozen_of C3.out 1
   have hn1:(0:Int)<(x'.n:Int):=by omega
   have hn2:((x'.n:Int)==0)=false:=by simp;omega
   have hn3:(x'.n==0)=false:=by simp;omega
   have H6:=hide (And.intro hlen (And.intro h4 h5))
   have HV:=hide vt
   clear HSV h1 h2 h3 h4 h5 h6 vt hlen a2
   go_upto_region 13 with fail
   go_cut [93] (fun s93 wc=>s93=.bool (v !=e.v)∧wc=W3.drew)
   case first=>
    go_region
    all_goals
     go_wp2_with fail
     go_meet
     case rel=>exact⟨rfl,rfl⟩
   case rest=>
   obtain⟨rfl,rfl⟩:=hcut
   by_cases hv:v=e.v
   case neg=>
    have dv:(v !=e.v)=true:=by simp[hv]
    rw[if_pos hv] at hR
    simp only[Option.map_none] at hR
    clear hv
    go_wp2_with fail
    go_ret
    exact ChP.no hR.symm (B3.out.trans (Fb.of (bdrew1 W3) (by have:=B3.out.size;omega)))
   have dv:(v !=e.v)=false:=by simp[hv]
   rw[if_neg (by simp[hv])] at hR
   rw[apply_ite (Option.map _)] at hR
   clear hv
   by_cases hc1:x'.c=1
   ·rw[hc1] at y1'
    have HS5:Hid (svs (tl x')=Value.slice (some ⟨x'.b,x'.o,none⟩) (x'.n - 1) 0):=by show _=_;unfold svs tl;simp[hnil,hc1]
    have K5:=(KB.refl C W3).setCell 1 (Value.slice (some ⟨x'.b,x'.o,none⟩) (x'.n - 1) 0)
    have H5:=hide ((H3.out.kb C3.out K5).below (bdrew1 _))
    have V5:=hide ((HV.out.noC C3.out K5).keep (w':=(W3.setCell ⟨C,1,none⟩ (Value.slice (some ⟨x'.b,x'.o,none⟩) (x'.n - 1) 0)).drew) fun _=>rfl)
    have A5:Hid (Ap mb vs cs j (tl x')):=⟨A3.out.d,A3.out.v,A3.out.m⟩
    have E5:=hide (heap_below (ev_noC E3.out C3.out K5) (bdrew1 _))
    have C5:=hide (heap_below (Ba.heap_setCell_same (i:=1) C3.out (Value.slice (some ⟨x'.b,x'.o,none⟩) (x'.n - 1) 0)) (bdrew1 _))
    have b5:=B3.out.kb K5 hCN hNw C3.out (by decide)
    have B5:=hide (b5.trans (Fb.of (bdrew1 _) (by have:=b5.size;omega)))
    clear K5 b5
    go_upto_region 16 with fail
    generalize (W3.setCell ⟨C,1,none⟩ (Value.slice (some ⟨x'.b,x'.o,none⟩) (x'.n - 1) 0)).drew=W5 at*
    clear y1 y1' f1 r0 v4'
    have H4:=H5.out.below (bdrew1 W5)
    obtain⟨w4,mu,g4,b4,gr4⟩:=H4.put (i:=j) (by rw[H4.len];omega) (by rw[H4.len];omega) (tl x') ⟨d.cap,r,d.cl⟩ (V5.out.keep fun _=>rfl) X3.out.1 X3.out.2 A5.out.d A5.out.v A5.out.m
    rw[upl_set hjl] at g4
    have G4:=hide g4
    have B4:=hide ((B5.out.trans (Fb.of (bdrew1 W5) (by have:=B5.out.size;omega))).trans b4)
    have MU:(Instr.mapUpdate 136 (.map (some mb)) (.int .i64 (j:Int)) (.agg #[.int .i64 x'.cap,Value.slice (some ⟨x'.b,x'.o,none⟩) (x'.n - 1) 0,.bool x'.cl])).run Tryz.prog W5.drew=.ok () w4:=by rw[←HS5.out];exact mu
    have C4:=hide ((gr4.block C (heap_lt (show W5.drew.heap[C]? =_ from C5.out)) (fun q=>by injection q with q;obtain⟨es,ck,hb,-⟩:=H5.out.mp;rw[←q,C5.out] at hb;cases hb)).trans (show W5.drew.heap[C]? =_ from C5.out))
    have z2:W5.drew.cell? ⟨R,2,none⟩=some (.map (some mb)):=cell_of H5.out.hR 2
    have u2:W5.drew.cell? ⟨E,2,none⟩=some (.int .i64 (j:Int)):=by rw[←HJ.out];exact cell_of E5.out 2
    have w0:W5.drew.cell? ⟨C,0,none⟩=some (.int .i64 x'.cap):=cell_of C5.out 0
    have w1:W5.drew.cell? ⟨C,1,none⟩=some (Value.slice (some ⟨x'.b,x'.o,none⟩) (x'.n - 1) 0):=cell_of C5.out 1
    have w2:W5.drew.cell? ⟨C,2,none⟩=some (.bool x'.cl):=cell_of C5.out 2
    have q0:w4.cell? ⟨C,0,none⟩=some (.int .i64 x'.cap):=cell_of C4.out 0
    have q1:w4.cell? ⟨C,1,none⟩=some (Value.slice (some ⟨x'.b,x'.o,none⟩) (x'.n - 1) 0):=cell_of C4.out 1
    clear mu g4 b4 gr4 H4
    go_cut [] (fun wc=>wc=w4)
    case first=>
     go_region
     all_goals
      go_wp2_with fail
      go_meet
      case rel=>rfl
    case rest=>
    obtain rfl:=hcut
    clear MU z2 u2 w0 w1 w2
    by_cases hle:(r.length:Int)≤d.cap
    ·rw[if_pos hle] at hR
     have dle:decide (((x'.n - 1:Nat):Int)≤x'.cap)=true:=by rw[X3.out.1];exact decide_eq_true (by have:=V5.out.len;unfold tl at this;simp only at this;omega)
     clear hle
     go_wp2_with fail
     go_ret
     exact ChP.yes hR.symm G4.out B4.out
    ·rw[if_neg hle] at hR
     have dle:decide (((x'.n - 1:Nat):Int)≤x'.cap)=false:=by rw[X3.out.1];exact decide_eq_false (by have:=V5.out.len;unfold tl at this;simp only at this;omega)
     clear hle
     go_wp2_with fail
     go_ret
     exact ChP.no hR.symm B4.out
   ·skip
    have HS5:Hid (svs (tl x')=Value.slice (some ⟨x'.b,x'.o+1,none⟩) (x'.n - 1) (x'.c - 1)):=by show _=_;unfold svs tl;simp[hnil,hc1]
    have K5:=(KB.refl C W3).setCell 1 (Value.slice (some ⟨x'.b,x'.o+1,none⟩) (x'.n - 1) (x'.c - 1))
    have H5:=hide ((H3.out.kb C3.out K5).below (bdrew1 _))
    have V5:=hide ((HV.out.noC C3.out K5).keep (w':=(W3.setCell ⟨C,1,none⟩ (Value.slice (some ⟨x'.b,x'.o+1,none⟩) (x'.n - 1) (x'.c - 1))).drew) fun _=>rfl)
    have A5:Hid (Ap mb vs cs j (tl x')):=⟨A3.out.d,A3.out.v,A3.out.m⟩
    have E5:=hide (heap_below (ev_noC E3.out C3.out K5) (bdrew1 _))
    have C5:=hide (heap_below (Ba.heap_setCell_same (i:=1) C3.out (Value.slice (some ⟨x'.b,x'.o+1,none⟩) (x'.n - 1) (x'.c - 1))) (bdrew1 _))
    have b5:=B3.out.kb K5 hCN hNw C3.out (by decide)
    have B5:=hide (b5.trans (Fb.of (bdrew1 _) (by have:=b5.size;omega)))
    clear K5 b5
    go_upto_region 16 with fail
    generalize (W3.setCell ⟨C,1,none⟩ (Value.slice (some ⟨x'.b,x'.o+1,none⟩) (x'.n - 1) (x'.c - 1))).drew=W5 at*
    clear y1 y1' f1 r0 v4'
    have H4:=H5.out.below (bdrew1 W5)
    obtain⟨w4,mu,g4,b4,gr4⟩:=H4.put (i:=j) (by rw[H4.len];omega) (by rw[H4.len];omega) (tl x') ⟨d.cap,r,d.cl⟩ (V5.out.keep fun _=>rfl) X3.out.1 X3.out.2 A5.out.d A5.out.v A5.out.m
    rw[upl_set hjl] at g4
    have G4:=hide g4
    have B4:=hide ((B5.out.trans (Fb.of (bdrew1 W5) (by have:=B5.out.size;omega))).trans b4)
    have MU:(Instr.mapUpdate 136 (.map (some mb)) (.int .i64 (j:Int)) (.agg #[.int .i64 x'.cap,Value.slice (some ⟨x'.b,x'.o+1,none⟩) (x'.n - 1) (x'.c - 1),.bool x'.cl])).run Tryz.prog W5.drew=.ok () w4:=by rw[←HS5.out];exact mu
    have C4:=hide ((gr4.block C (heap_lt (show W5.drew.heap[C]? =_ from C5.out)) (fun q=>by injection q with q;obtain⟨es,ck,hb,-⟩:=H5.out.mp;rw[←q,C5.out] at hb;cases hb)).trans (show W5.drew.heap[C]? =_ from C5.out))
    have z2:W5.drew.cell? ⟨R,2,none⟩=some (.map (some mb)):=cell_of H5.out.hR 2
    have u2:W5.drew.cell? ⟨E,2,none⟩=some (.int .i64 (j:Int)):=by rw[←HJ.out];exact cell_of E5.out 2
    have w0:W5.drew.cell? ⟨C,0,none⟩=some (.int .i64 x'.cap):=cell_of C5.out 0
    have w1:W5.drew.cell? ⟨C,1,none⟩=some (Value.slice (some ⟨x'.b,x'.o+1,none⟩) (x'.n - 1) (x'.c - 1)):=cell_of C5.out 1
    have w2:W5.drew.cell? ⟨C,2,none⟩=some (.bool x'.cl):=cell_of C5.out 2
    have q0:w4.cell? ⟨C,0,none⟩=some (.int .i64 x'.cap):=cell_of C4.out 0
    have q1:w4.cell? ⟨C,1,none⟩=some (Value.slice (some ⟨x'.b,x'.o+1,none⟩) (x'.n - 1) (x'.c - 1)):=cell_of C4.out 1
    clear mu g4 b4 gr4 H4
    go_cut [] (fun wc=>wc=w4)
    case first=>
     go_region
     all_goals
      go_wp2_with fail
      go_meet
      case rel=>rfl
    case rest=>
    obtain rfl:=hcut
    clear MU z2 u2 w0 w1 w2
    by_cases hle:(r.length:Int)≤d.cap
    ·rw[if_pos hle] at hR
     have dle:decide (((x'.n - 1:Nat):Int)≤x'.cap)=true:=by rw[X3.out.1];exact decide_eq_true (by have:=V5.out.len;unfold tl at this;simp only at this;omega)
     clear hle
     go_wp2_with fail
     go_ret
     exact ChP.yes hR.symm G4.out B4.out
    ·rw[if_neg hle] at hR
     have dle:decide (((x'.n - 1:Nat):Int)≤x'.cap)=false:=by rw[X3.out.1];exact decide_eq_false (by have:=V5.out.len;unfold tl at this;simp only at this;omega)
     clear hle
     go_wp2_with fail
     go_ret
     exact ChP.no hR.symm B4.out
end Gu
end Go.Proofs.YtogkjaekfhjelaaGreat
