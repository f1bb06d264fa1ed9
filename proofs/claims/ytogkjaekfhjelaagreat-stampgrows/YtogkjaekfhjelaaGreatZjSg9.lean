import Derived.Test.YtogkjaekfhjelaaGreatZjSg2
import Derived.Test.YtogkjaekfhjelaaGreatZjSg7
import Derived.Test.YtogkjaekfhjelaaGreatZjSg8
import Derived.Shelf.Strings.BuilderK
import Derived.Deep.DeepCutAuto
import Derived.Deep.RegionWith
import Derived.Deep.LoopGhost
set_option maxHeartbeats 12800000
namespace Go.Proofs.YtogkjaekfhjelaaGreat
open Go.ChangeShapes Go.WideShapes Go.ChangeAt Go.RowKit
namespace Lo
open Ba
theorem kn_le{n:Nat}(h:n≤200):2*n*n+2*n≤80400:=by
 have:n*n≤200*200:=Nat.mul_le_mul h h
 have e:2*n*n=2*(n*n):=Nat.mul_assoc 2 n n
 omega
theorem Inv.n200{sc:Sh.Sc}{n:Nat}{s:Lm}(h:Sh.schk sc=0)(i:Inv sc n s):n≤200:=by
 have:=i.le
 have:=(schk_ok h).2.2.1
 omega
theorem Inv.ok{sc:Sh.Sc}{n:Nat}{s:Lm}(h:Sh.schk sc=0)(i:Inv sc n s):Ok (2*n*n+2*n) s:=by
 have hn:=i.n200 h
 refine⟨i.b.bw.cb,i.b.bw.tn,fun k st e=>?_,fun k st e b=>?_,?_,i.d⟩
 ·have:=i.b.sb k st e
  omega
 ·have:=i.b.sb k st e
  unfold _root_.Go.Proofs.YtogkjaekfhjelaaGreat.Pi.own
  split<;>omega
 ·have:=i.b.md
  omega
theorem cat_tr{col col':Nat→Nat}{w w':World}{oc:Option Addr}{cs:List De.Cs}(h:De.CAt w oc cs)(hc:0<cs.length→∀a,oc=some a→col a.block=7)(t:Tr col col' w w'):De.CAt w' oc cs∧(0<cs.length→∀a,oc=some a→col' a.block=7):=by
 refine⟨fun k x hx=>?_,fun h0 a e=>?_⟩
 ·obtain⟨b,off,e,h0,h1,h2⟩:=h k x hx
  have h7:=hc (Nat.lt_of_le_of_lt (Nat.zero_le k) (List.getElem?_eq_some_iff.1 hx).1) _ e
  exact⟨b,off,e,t.cell h0 h7,t.cell h1 h7,t.cell h2 h7⟩
 ·obtain⟨b,off,e2,q,_⟩:=h 0 cs[0] (List.getElem?_eq_getElem h0)
  rw[e] at e2
  cases e2
  exact (t.old b (World.block_lt_of_cell? w _ q)).trans (hc h0 _ e)
theorem tail_es{w:World}{g cap:Nat}{l:List Ev}{n:Nat}(h:w.ownsRow 0 40 8 (.slice (some ⟨g,0,none⟩) l.length cap) l.length (ec l)):EsAt w (some ⟨g,n*8,none⟩) (l.drop n):=by
 obtain⟨ob,d,e,hE,_⟩:=own_es h
 cases e
 intro k e hk
 rw[List.getElem?_drop] at hk
 obtain⟨b,off,e2,hc⟩:=hE (n+k) e hk
 cases e2
 refine⟨g,n*8,rfl,fun j hj=>?_⟩
 have:=hc j hj
 rw[←this]
 congr 2
 rw[Nat.add_mul]
 omega
set_option maxRecDepth 100000 in
theorem step_comp(L:Nat)(col:Nat→Nat)(s:Lm)(K:Nat)(w:World)(h:LW w col L s)(ok:Ok K s)(hK:K≤90000)(hv:verd s=0)(hl:s.p.length≤1000∧s.d.length≤1000)(ht:nth s.p 0=-1)(s':Lm)(hs':s'=tellS {s with p:=s.p.tail} (bareE 13 (-1))):
 Calls Tryz.prog 17 #[.pointer (some ⟨L,0,none⟩)] w fun r w'=>∃ob d,r=.returned (.slice ob (s'.tr.length - s.tr.length) d)∧EsAt w' ob (s'.tr.drop s.tr.length)∧∃col',LW w' col' L s'∧Tr col col' w w':=by
 have NX:=hide (next_comp L col s K w h ok.cb hv hl ht)
 have H:=hide h
 have OK:=hide ok
 have HS:=hide hs'
 clear h ok hs'
 go_enter Tryz.func17,Tryz.ntmps17
 go_wp2_with fail
 refine NX.out.mono ?_
 rintro r w1 ⟨rfl,b1⟩
 obtain⟨col2,h2,t2,-⟩:=H.out.below (btr b1 (below_alloc w1 (.cells #[.int .i64 0,.int .i64 0,.int .i64 0,.slice none 0 0,.bool false] 46)))
 obtain⟨N,C,B,X,FB,pa,pc,bs,Fs,ta,tc,h2⟩:=h2
 have T2:=hide t2
 have H2:=hide h2
 have y1:(w1.alloc (.cells #[.int .i64 0,.int .i64 0,.int .i64 0,.slice none 0 0,.bool false] 46)).cell? ⟨L,1,none⟩=some (.pointer (some ⟨C,0,none⟩)):=cell_of h2.hp 1
 have CN:=hide (Lk.next_cu N C s.p s.d _ h2.cu)
 clear b1 h2 t2 NX
 go_wp2_with fail
 refine CN.out.mono ?_
 rintro r w3 ⟨rfl,cu3,kb3⟩
 obtain⟨col3,h3,t3⟩:=H2.out.cursor cu3 kb3
 have T3:=hide (T2.out.trans t3)
 have y13:w3.cell? ⟨L,13,none⟩=some (.slice ta s.tr.length tc):=cell_of h3.hp 13
 have H3:=hide h3
 clear cu3 kb3 h3 t3 H2 T2 y1 CN
 go_wp2_with fail
 refine (En.bare_any 13 (-1) _).mono ?_
 rintro r w4 ⟨rfl,b4⟩
 obtain⟨col4,h4,t4,-⟩:=H3.out.lw.below b4
 have T4:=hide (T3.out.trans t4)
 have TE:=hide (tell_any L col4 _ (bareE 13 (-1)) w4 h4 (by have:=OK.out.tn;show s.tr.length≤_;omega))
 unfold En.evv En.evc bareE at TE
 clear b4 h4 t4 H3 T3
 go_wp2_with fail
 refine TE.out.mono ?_
 rintro r w5 ⟨rfl,col5,h5,t5⟩
 have T5:=hide (T4.out.trans t5)
 have h5':LW w5 col5 L s':=by rw[HS.out];exact h5
 obtain⟨j,hj1,hj2,hlen⟩:∃j,0<j∧j≤1000000∧s'.tr.length=s.tr.length+j:=⟨1,by omega,by omega,by rw[HS.out];simp[tellS]⟩
 clear h5 t5 TE T4
 obtain⟨N5,C5,B5,X5,FB5,pa5,pc5,bs5,Fs5,ta5,tc5,h5⟩:=h5'
 rcases h5.tr.2 with⟨e1,e2⟩|⟨g5,cap5,cur5,e1,-,-,hcap,-⟩
 ·omega
 ·cases e1
  have ES:=hide (tail_es (n:=s.tr.length) h5.tr)
  have y5:w5.cell? ⟨L,13,none⟩=some (.slice (some ⟨g5,0,none⟩) s'.tr.length tc5):=cell_of h5.hp 13
  have H5:=hide h5
  have hlt:=OK.out.tn
  have CE:=hide (fun (l:List Ev) (oa:Option Addr) (c:Nat) (q:EsAt w5 oa l) (z:l.length≤1000000)=>clone_es oa l c w5 q z)
  have hdl:(s'.tr.drop s.tr.length).length=j:=by rw[List.length_drop,hlen];omega
  have CEs:=hide (CE.out (s'.tr.drop s.tr.length) _ (tc5 - s.tr.length) ES.out (by omega))
  rw[hdl] at CEs
  have T5s:=T5.out.size
  rw[hlen] at y5 hcap
  have hsub:s'.tr.length - s.tr.length=j:=by omega
  clear h5 y13 ES CE
  generalize hk:s.tr.length=k at y5 hcap CEs hlt
  go_wp2_with fail
  refine CEs.out.mono ?_
  rintro r w6 ⟨ob,d,rfl,es6,-,b6⟩
  obtain⟨col6,h6,t6,-⟩:=H5.out.lw.below b6
  have H6:=hide h6
  have T6:=hide (T5.out.trans t6)
  have E6:=hide es6
  clear h6 t6 es6 b6 CEs
  go_wp2_with fail
  go_ret
  exact⟨ob,d,by (rw[hsub])<;>rfl,by rw[hk];exact E6.out,col6,H6.out,T6.out⟩
set_option maxRecDepth 100000 in
theorem step_op(L:Nat)(col:Nat→Nat)(s:Lm)(K p q:Nat)(n:Int)(w:World)(h:LW w col L s)(ok:Ok K s)(hK:K≤90000)(hv:verd s=0)(hl:s.p.length≤1000∧s.d.length≤1000)(ht:nth s.p 0≠-1)
 (hp:(Cr.one0 (Cr.gt s.cr (whoN s))).p=(p:Int)) (hq:(Cr.one0 (Cr.gt s.cr (whoN s))).q=(q:Int)) (hpl:p<s.ps.length) (hs4:∀x∈s.ps,∀o∈x,o.cases.length≤4) (ho:De.chk (opOf s (whoN s)) n=0) (hw:whoN s≠-1)
 (s':Lm) (hs':s'=doF {s with p:=s.p.tail} (whoN s) (opOf s (whoN s))) (hb':s'.tr.length≤1000000):
 Calls Tryz.prog 17 #[.pointer (some ⟨L,0,none⟩)] w fun r w'=>∃ob d,r=.returned (.slice ob (s'.tr.length - s.tr.length) d)∧EsAt w' ob (s'.tr.drop s.tr.length)∧∃col',LW w' col' L s'∧Tr col col' w w':=by
 have NX:=hide (next_op L col s K p q w h ok.cb hv hl ht hp hq hpl hs4)
 have SPD:=hide (sp_do (s:={s with p:=s.p.tail}) (g:=whoN s) ho ok.dd hw)
 have DO:=hide (fun u c oc cc (x:LW u c L {s with p:=s.p.tail}) (y:De.CAt u oc (opOf s (whoN s)).cases) z=>do_any L c {s with p:=s.p.tail} K (whoN s) (opOf s (whoN s)) oc cc u n x ⟨ok.cb,ok.tn,ok.sm,ok.wl,ok.md,ok.dd⟩ hK ho y z)
 have H:=hide h
 have OK:=hide ok
 rw[←hs'] at DO SPD
 have hw':(whoN s==-1)=false:=by simp[hw]
 clear h ok hs' ho hp hq
 generalize opOf s (whoN s)=o at NX DO
 generalize whoN s=g at*
 unfold opV at NX DO
 go_enter Tryz.func17,Tryz.ntmps17
 go_wp2_with fail
 refine NX.out.mono ?_
 rintro r w1 ⟨oc,cc,rfl,hc1,hn1,b1⟩
 obtain⟨col2,h2,t2,n2⟩:=H.out.below (btr b1 (below_alloc w1 (.cells #[.int .i64 o.kind,.int .i64 o.a,.int .i64 o.b,.slice oc o.cases.length cc,.bool o.def_] 46)))
 obtain⟨N,C,B,X,FB,pa,pc,bs,Fs,ta,tc,h2⟩:=h2
 have T2:=hide t2
 have H2:=hide h2
 have y1:(w1.alloc (.cells #[.int .i64 o.kind,.int .i64 o.a,.int .i64 o.b,.slice oc o.cases.length cc,.bool o.def_] 46)).cell? ⟨L,1,none⟩=some (.pointer (some ⟨C,0,none⟩)):=cell_of h2.hp 1
 have CN:=hide (Lk.next_cu N C s.p s.d _ h2.cu)
 have C2:=hide (hc1.below (below_alloc w1 (.cells #[.int .i64 o.kind,.int .i64 o.a,.int .i64 o.b,.slice oc o.cases.length cc,.bool o.def_] 46)))
 have D2:Hid (0<o.cases.length→∀a,oc=some a→col2 a.block=7):=fun _ a e=>n2 _ (hn1 a e)
 have V2:=hide (heap_new w1 (.cells #[.int .i64 o.kind,.int .i64 o.a,.int .i64 o.b,.slice oc o.cases.length cc,.bool o.def_] 46))
 have E2:=hide (n2 w1.heap.size b1.size)
 clear b1 h2 t2 NX n2 hc1 hn1
 go_wp2_with fail
 refine CN.out.mono ?_
 rintro r w3 ⟨rfl,cu3,kb3⟩
 obtain⟨col3,h3,t3⟩:=H2.out.cursor cu3 kb3
 have T3:=hide (T2.out.trans t3)
 have y13:w3.cell? ⟨L,13,none⟩=some (.slice ta s.tr.length tc):=cell_of h3.hp 13
 obtain⟨c3,d3⟩:=cat_tr C2.out D2.out t3
 have V3:=hide (t3.heap V2.out E2.out)
 have DO3:=hide (DO.out w3 col3 oc cc h3.lw c3 d3)
 have v0:=cell_of V3.out 0
 have v1:=cell_of V3.out 1
 have v2:=cell_of V3.out 2
 have v3:=cell_of V3.out 3
 have v4:=cell_of V3.out 4
 simp at v0 v1 v2 v3 v4
 clear cu3 kb3 h3 t3 H2 T2 y1 CN c3 d3 V2 C2 D2 DO
 go_wp2_with fail
 refine DO3.out.mono ?_
 rintro r w5 ⟨rfl,col5,h5',t5⟩
 have T5:=hide (T3.out.trans t5)
 obtain⟨j,hj1,hj2,hlen⟩:∃j,0<j∧j≤1000000∧s'.tr.length=s.tr.length+j:=by
  obtain⟨e,l,hel⟩:=SPD.out
  have:s'.tr.length=s.tr.length+(l.length+1):=by rw[hel];simp
  exact⟨l.length+1,by omega,by omega,this⟩
 clear t5 DO3 T3 SPD v0 v1 v2 v3 v4 V3
 obtain⟨N5,C5,B5,X5,FB5,pa5,pc5,bs5,Fs5,ta5,tc5,h5⟩:=h5'
 rcases h5.tr.2 with⟨e1,e2⟩|⟨g5,cap5,cur5,e1,-,-,hcap,-⟩
 ·omega
 ·cases e1
  have ES:=hide (tail_es (n:=s.tr.length) h5.tr)
  have y5:w5.cell? ⟨L,13,none⟩=some (.slice (some ⟨g5,0,none⟩) s'.tr.length tc5):=cell_of h5.hp 13
  have H5:=hide h5
  have hlt:=OK.out.tn
  have CE:=hide (fun (l:List Ev) (oa:Option Addr) (c:Nat) (q:EsAt w5 oa l) (z:l.length≤1000000)=>clone_es oa l c w5 q z)
  have hdl:(s'.tr.drop s.tr.length).length=j:=by rw[List.length_drop,hlen];omega
  have CEs:=hide (CE.out (s'.tr.drop s.tr.length) _ (tc5 - s.tr.length) ES.out (by omega))
  rw[hdl] at CEs
  have T5s:=T5.out.size
  rw[hlen] at y5 hcap
  have hsub:s'.tr.length - s.tr.length=j:=by omega
  clear h5 y13 ES CE
  generalize hk:s.tr.length=k at y5 hcap CEs hlt
  go_wp2_with fail
  refine CEs.out.mono ?_
  rintro r w6 ⟨ob,d,rfl,es6,-,b6⟩
  obtain⟨col6,h6,t6,-⟩:=H5.out.lw.below b6
  have H6:=hide h6
  have T6:=hide (T5.out.trans t6)
  have E6:=hide es6
  clear h6 t6 es6 b6 CEs
  go_wp2_with fail
  go_ret
  exact⟨ob,d,by (rw[hsub])<;>rfl,by rw[hk];exact E6.out,col6,H6.out,T6.out⟩
theorem step_any(L:Nat)(col:Nat→Nat)(sc:Sh.Sc)(n:Nat)(s:Lm)(w:World)(h:LW w col L s)(hs:Sh.schk sc=0)(i:Inv sc n s)(hv:verd s=0):
 Calls Tryz.prog 17 #[.pointer (some ⟨L,0,none⟩)] w fun r w'=>∃ob d,r=.returned (.slice ob ((stepF s).tr.length - s.tr.length) d)∧EsAt w' ob ((stepF s).tr.drop s.tr.length)∧∃col',LW w' col' L (stepF s)∧Tr col col' w w':=by
 have hn:=i.n200 hs
 have hk:=kn_le hn
 have ok:=i.ok hs
 obtain⟨h1,h2,h3,h4,h5,h6,h7⟩:=schk_ok hs
 have hl:s.p.length≤1000∧s.d.length≤1000:=by
  have:=i.dl
  rw[i.p,List.length_drop]
  omega
 have i2:=i.step hs hv
 have hn2:=i2.n200 hs
 have hk2:=kn_le hn2
 have hb:=i2.b.bw.tn
 by_cases ht:nth s.p 0=-1
 ·have e:stepF s=tellS {s with p:=s.p.tail} (bareE 13 (-1)):=by
   unfold stepF
   rw[if_neg (by omega),if_pos ht]
  exact step_comp L col s _ w h ok (by omega) hv hl ht _ e
 ·have e:stepF s=doF {s with p:=s.p.tail} (whoN s) (opOf s (whoN s)):=by
   unfold stepF
   rw[if_neg (by omega),if_neg ht]
  have ht0:0≤nth s.p 0:=by
   have hpl:0<s.p.length:=by
    rcases Nat.eq_zero_or_pos s.p.length with z|z
    ·exfalso
     unfold verd at hv
     rw[if_pos z] at hv
     split at hv
     ·omega
     ·split at hv<;>omega
    ·exact z
   have hm:nth s.p 0∈sc.pl:=by
    rw[nth_lt _ _ hpl]
    have hsub:∀x∈s.p,x∈sc.pl:=fun x hx=>by
     rw[i.p] at hx
     exact List.mem_of_mem_drop hx
    exact hsub _ (List.getElem_mem hpl)
   have:=h6 _ hm
   omega
  obtain⟨k,y,hwk,hky,hy0⟩:=who_ok hv ht0
  have hg:Cr.one0 (Cr.gt s.cr (whoN s))=y:=by
   rw[hwk,Cr.gt_nat,hky]
   rfl
  have hym:=List.mem_of_getElem? hky
  have hyp:=i.b.cp y hym
  have hyq:=i.b.bw.cb y hym
  refine step_op L col s _ y.p.toNat y.q.toNat sc.ps.length w h ok (by omega) hv hl ht (by rw[hg];omega) (by rw[hg];omega) (by rw[i.ps];omega) (fun x hx o ho=>?_) (op_chk hs i _) (by rw[hwk];omega) _ e (by omega)
  rw[i.ps] at hx
  obtain⟨a,ha⟩:=List.getElem?_of_mem hx
  obtain⟨b,hb⟩:=List.getElem?_of_mem ho
  exact (op_ok (Sh.ari_of h5 ha hb)).2.2.1
end Lo
open Go.Shelf
namespace Sh
open De Ba Re
end Sh
namespace Sh
open De Ba Re
set_option maxRecDepth 100000 in
theorem copied_int(oa:Option Addr)(l:List Int)(c:Nat)(w:World)(hA:At w oa l)(hl:l.length≤1000000):
 Calls Tryz.prog 59 #[.slice oa l.length c] w fun r w'=>r=.returned (.slice (some ⟨w.heap.size,0,none⟩) l.length l.length)∧w'=w.alloc (.cells (row l) 3):=by
 obtain⟨i0,hi,hz0,hz1,hz2⟩:=info_parts Ba.info_int
 have hm:=run_mkG Tryz.underlying23 hi hz0 w l.length (by rw[hz2];omega) (by omega)
 have hcp:=run_cpG (z:=.int .i64 0) Tryz.underlying23 hi 3 w oa l.length c (l.map (Value.int .i64)) (by rw[hz1];simp) (at_cs hA) (fun v hv=>by
  obtain⟨x,_,rfl⟩:=List.mem_map.1 hv
  rfl) (by rw[hz1];decide)
 generalize madeCells (Value.cells (.int .i64 0)) (l.length*i0.size)=MC at hm hcp
 have hrow:(l.map (Value.int .i64)).toArray=row l:=rfl
 rw[hrow] at hcp
 clear hA hrow
 go_enter Tryz.func59,Tryz.ntmps59
 go_wp2_with fail
 go_ret
 exact⟨rfl,rfl⟩
end Sh
namespace Sh
open De Ba Re
end Sh
namespace Sh
open De Ba Re
end Sh
namespace Sh
open De Ba Re
theorem cat_kb{R:Nat}{w w':World}{oa:Option Addr}{l:List Cs}(k:De.KB R w w')(h:CAt w oa l)(hb:∀a,oa=some a→a.block≠R):CAt w' oa l:=by
 intro j x hj
 obtain⟨b,off,rfl,h1,h2,h3⟩:=h j x hj
 exact⟨b,off,rfl,kb_cell k h1 (hb _ rfl),kb_cell k h2 (hb _ rfl),kb_cell k h3 (hb _ rfl)⟩
def OF(w:World)(N g:Nat)(l:List OpD):Prop:=
 ∀t o,l[t]? =some o→∃ca cc,(w.cell? ⟨g,t*5,none⟩=some (.int .i64 o.kind)∧w.cell? ⟨g,t*5+1,none⟩=some (.int .i64 o.a)∧w.cell? ⟨g,t*5+2,none⟩=some (.int .i64 o.b)∧w.cell? ⟨g,t*5+3,none⟩=some (.slice ca o.cases.length cc)∧w.cell? ⟨g,t*5+4,none⟩=some (.bool o.def_))∧CAt w ca o.cases∧(∀a,ca=some a→N≤a.block)∧o.cases.length≤3000
theorem OF.kb{w w':World}{N g R:Nat}{l:List OpD}(h:OF w N g l)(k:De.KB R w w')(h1:R<N)(h2:g≠R):OF w' N g l:=by
 intro t o ht
 obtain⟨ca,cc,⟨q0,q1,q2,q3,q4⟩,hC,hN,hl⟩:=h t o ht
 exact⟨ca,cc,⟨kb_cell k q0 h2,kb_cell k q1 h2,kb_cell k q2 h2,kb_cell k q3 h2,kb_cell k q4 h2⟩,cat_kb k hC (fun a e=>by have:=hN a e;omega),hN,hl⟩
theorem OF.at{w:World}{N g:Nat}{l:List OpD}(h:OF w N g l):OAt w (some ⟨g,0,none⟩) l:=by
 intro k o hk
 obtain⟨ca,cc,⟨q0,q1,q2,q3,q4⟩,hC,_,hl⟩:=h k o hk
 refine⟨g,0,ca,cc,rfl,⟨?_,?_,?_,?_,?_⟩,hC,by unfold maxLen;omega⟩<;>rw[Nat.zero_add]<;>assumption
end Sh
namespace Sh
open De Ba Re
theorem info_op:(Tryz.prog.info? 46).map (fun i=>(i.zero,i.size,i.bytes))=some (some (.agg #[.int .i64 0,.int .i64 0,.int .i64 0,.slice none 0 0,.bool false]),5,56):=by kernel_rfl
end Sh
namespace Sh
open De Ba Re
theorem info_pr:(Tryz.prog.info? 43).map (fun i=>(i.zero,i.size,i.bytes))=some (some (.slice none 0 0),1,24):=by kernel_rfl
def PF(w:World)(N:Nat)(arr:Array Value)(ps:List (List OpD)):Prop:=
 ∀(t:Nat) (q:List OpD),ps[t]? =some q→∃(g c:Nat),arr[t]? =some (.slice (some ⟨g,0,none⟩) q.length c)∧OF w (g+1) g q∧N≤g∧q.length≤1000
theorem PF.kb{w w':World}{N R:Nat}{arr:Array Value}{ps:List (List OpD)}(h:PF w N arr ps)(k:De.KB R w w')(hR:R<N):PF w' N arr ps:=by
 intro t q ht
 obtain⟨g,c,h1,h2,h3,h4⟩:=h t q ht
 exact⟨g,c,h1,h2.kb k (by omega) (by omega),h3,h4⟩
theorem PF.store{w:World}{N:Nat}{arr:Array Value}{ps:List (List OpD)}(h:PF w N arr ps)(k:Nat)(hk:ps.length=k)(hs:k<arr.size)(g c:Nat)(q:List OpD)(hq:OF w (g+1) g q)(hN:N≤g)(h32:q.length≤1000):PF w N (arr.setIfInBounds k (.slice (some ⟨g,0,none⟩) q.length c)) (ps++[q]):=by
 intro t x ht
 by_cases e:t<ps.length
 ·rw[List.getElem?_append_left e] at ht
  obtain⟨g',c',h1,h2,h3,h4⟩:=h t x ht
  exact⟨g',c',by rw[Array.getElem?_setIfInBounds_ne (by omega)];exact h1,h2,h3,h4⟩
 ·have hl:=(List.getElem?_eq_some_iff.1 ht).1
  rw[List.length_append,List.length_cons,List.length_nil] at hl
  have:t=k:=by omega
  subst this
  rw[List.getElem?_append_right (by omega),hk,Nat.sub_self] at ht
  simp at ht
  subst ht
  exact⟨g,c,by rw[Array.getElem?_setIfInBounds_self_of_lt hs],hq,hN,h32⟩
theorem PF.at{w:World}{N G:Nat}{arr:Array Value}{ps:List (List OpD)}{t:TypeId}(h:PF w N arr ps)(hg:w.heap[G]? =some (.cells arr t (0,0))):PAt w (some ⟨G,0,none⟩) ps:=by
 intro k q hk
 obtain⟨g,c,h1,h2,_,h4⟩:=h k q hk
 exact⟨G,0,_,_,rfl,by rw[Nat.zero_add,cell_of hg];exact h1,h2.at,by unfold maxLen;omega⟩
theorem size_sc:(Tryz.prog.info? 25).map (·.size)=some 5:=by kernel_rfl
theorem loadVar_sc{w:World}{b:Nat}{c:Array Value}{t:TypeId}(h:w.heap[b]? =some (.cells c t (0,0)))(hc:c.size=5):(loadVar 25 ⟨b,0,none⟩).run Tryz.prog w=.ok (.agg c) w:=
 run_loadVar_row w b t _ _ _ _ h Tryz.underlying25 rfl (by rw[size_sc,hc])
end Sh
namespace Sh
open De Ba Re
theorem cps{w:World}{oa:Option Addr}{m:Nat}(h:∀j,j<m→∃b off v,oa=some ⟨b,off,none⟩∧w.cell? ⟨b,off+j,none⟩=some v∧v.oneCell'=true):∃cs:List Value,cs.length=m∧CsAt w oa cs∧∀v∈cs,v.oneCell'=true:=by
 have hv:∀j,j<m→∃v:Value,∃b off,oa=some ⟨b,off,none⟩∧w.cell? ⟨b,off+j,none⟩=some v∧v.oneCell'=true:=fun j hj=>by
  obtain⟨b,off,v,h1,h2⟩:=h j hj
  exact⟨v,b,off,h1,h2⟩
 have fam:∃f:Nat→Value,∀j,j<m→∃b off,oa=some ⟨b,off,none⟩∧w.cell? ⟨b,off+j,none⟩=some (f j)∧(f j).oneCell'=true:=by
  refine⟨fun j=>if hj:j<m then Classical.choose (hv j hj) else .int .i64 0,fun j hj=>?_⟩
  simp only[dif_pos hj]
  exact Classical.choose_spec (hv j hj)
 obtain⟨f,hf⟩:=fam
 refine⟨(List.range m).map f,by simp,?_,?_⟩
 ·intro j v hj
  have hjm:j<m:=by
   have:=(List.getElem?_eq_some_iff.1 hj).1
   simpa using this
  obtain⟨b,off,h1,h2,_⟩:=hf j hjm
  simp[hjm] at hj
  subst hj
  exact⟨b,off,h1,h2⟩
 ·intro v hv
  rw[List.mem_map] at hv
  obtain⟨j,hj,rfl⟩:=hv
  obtain⟨_,_,_,_,h3⟩:=hf j (List.mem_range.1 hj)
  exact h3
theorem cs_get{w:World}{b off:Nat}{cs:List Value}(hA:CsAt w (some ⟨b,off,none⟩) cs){j:Nat}(hj:j<cs.length){v:Value}(hc:w.cell? ⟨b,off+j,none⟩=some v):cs[j]? =some v:=by
 obtain⟨b',off',he,h2⟩:=hA j cs[j] (List.getElem?_eq_getElem hj)
 cases he
 rw[hc] at h2
 rw[List.getElem?_eq_getElem hj,←h2]
theorem row_cell(w:World)(cs:List Value)(t:TypeId)(j:Nat):(w.alloc (.cells cs.toArray t)).cell? ⟨w.heap.size,j,none⟩=cs[j]?:=by
 rw[cell_of (heap_new _ _),List.getElem?_toArray]
theorem oat_cells{w:World}{oa:Option Addr}{q:List OpD}(h:OAt w oa q):∀j,j<q.length*5→∃b off v,oa=some ⟨b,off,none⟩∧w.cell? ⟨b,off+j,none⟩=some v∧v.oneCell'=true:=by
 intro j hj
 have ht:j / 5<q.length:=by omega
 obtain⟨b,off,ca,cc,he,⟨h0,h1,h2,h3,h4⟩,_⟩:=h (j / 5) q[j / 5] (List.getElem?_eq_getElem ht)
 have e:j % 5=0∨j % 5=1∨j % 5=2∨j % 5=3∨j % 5=4:=by omega
 rcases e with e|e|e|e|e
 ·exact⟨b,off,_,he,by rw[show off+j=off+j / 5*5 by omega];exact h0,rfl⟩
 ·exact⟨b,off,_,he,by rw[show off+j=off+j / 5*5+1 by omega];exact h1,rfl⟩
 ·exact⟨b,off,_,he,by rw[show off+j=off+j / 5*5+2 by omega];exact h2,rfl⟩
 ·exact⟨b,off,_,he,by rw[show off+j=off+j / 5*5+3 by omega];exact h3,rfl⟩
 ·exact⟨b,off,_,he,by rw[show off+j=off+j / 5*5+4 by omega];exact h4,rfl⟩
theorem cat_cells{w:World}{oa:Option Addr}{l:List Cs}(h:CAt w oa l):∀j,j<l.length*3→∃b off v,oa=some ⟨b,off,none⟩∧w.cell? ⟨b,off+j,none⟩=some v∧v.oneCell'=true:=by
 intro j hj
 have ht:j / 3<l.length:=by omega
 obtain⟨b,off,he,h0,h1,h2⟩:=h (j / 3) l[j / 3] (List.getElem?_eq_getElem ht)
 have e:j % 3=0∨j % 3=1∨j % 3=2:=by omega
 rcases e with e|e|e
 ·exact⟨b,off,_,he,by rw[show off+j=off+j / 3*3 by omega];exact h0,rfl⟩
 ·exact⟨b,off,_,he,by rw[show off+j=off+j / 3*3+1 by omega];exact h1,rfl⟩
 ·exact⟨b,off,_,he,by rw[show off+j=off+j / 3*3+2 by omega];exact h2,rfl⟩
theorem pat_cells{w:World}{oa:Option Addr}{ps:List (List OpD)}(h:PAt w oa ps):∀j,j<ps.length*1→∃b off v,oa=some ⟨b,off,none⟩∧w.cell? ⟨b,off+j,none⟩=some v∧v.oneCell'=true:=by
 intro j hj
 rw[Nat.mul_one] at hj
 obtain⟨b,off,pa,pc,he,h0,_⟩:=h j ps[j] (List.getElem?_eq_getElem hj)
 exact⟨b,off,_,he,h0,rfl⟩
set_option maxRecDepth 100000 in
theorem copied_op(oa:Option Addr)(q:List OpD)(c:Nat)(w:World)(hO:OAt w oa q)(hl:q.length≤1000):
 Calls Tryz.prog 57 #[.slice oa q.length c] w fun r w'=>r=.returned (.slice (some ⟨w.heap.size,0,none⟩) q.length q.length)∧∃cs,w'=w.alloc (.cells cs.toArray 46)∧cs.length=q.length*5∧CsAt w oa cs:=by
 obtain⟨i0,hi,hz0,hz1,hz2⟩:=info_parts info_op
 obtain⟨cs,h1,h2,h3⟩:=cps (oat_cells hO)
 have hm:=run_mkG Tryz.underlying43 hi hz0 w q.length (by rw[hz2];omega) (by omega)
 have hcp:=run_cpG (z:=.agg #[.int .i64 0,.int .i64 0,.int .i64 0,.slice none 0 0,.bool false]) Tryz.underlying43 hi 3 w oa q.length c cs (by rw[hz1];exact h1) h2 h3 (by rw[hz1];decide)
 generalize madeCells (Value.cells (.agg #[.int .i64 0,.int .i64 0,.int .i64 0,.slice none 0 0,.bool false])) (q.length*i0.size)=MC at hm hcp
 have H2:=hide h2
 clear hO h2 hi hz0 hz1 hz2
 go_enter Tryz.func57,Tryz.ntmps57
 go_wp2_with fail
 go_ret
 exact⟨rfl,cs,rfl,h1,H2.out⟩
set_option maxRecDepth 100000 in
theorem copied_pr(oa:Option Addr)(ps:List (List OpD))(c:Nat)(w:World)(hP:PAt w oa ps)(hl:ps.length≤1000):
 Calls Tryz.prog 56 #[.slice oa ps.length c] w fun r w'=>r=.returned (.slice (some ⟨w.heap.size,0,none⟩) ps.length ps.length)∧∃cs,w'=w.alloc (.cells cs.toArray 43)∧cs.length=ps.length∧CsAt w oa cs:=by
 obtain⟨i0,hi,hz0,hz1,hz2⟩:=info_parts info_pr
 obtain⟨cs,h1,h2,h3⟩:=cps (pat_cells hP)
 have hm:=run_mkG Tryz.underlying22 hi hz0 w ps.length (by rw[hz2];omega) (by omega)
 have hcp:=run_cpG (z:=.slice none 0 0) Tryz.underlying22 hi 3 w oa ps.length c cs (by rw[hz1];exact h1) h2 h3 (by rw[hz1];decide)
 generalize madeCells (Value.cells (.slice none 0 0)) (ps.length*i0.size)=MC at hm hcp
 have H2:=hide h2
 rw[Nat.mul_one] at h1
 clear hP h2 hi hz0 hz1 hz2
 go_enter Tryz.func56,Tryz.ntmps56
 go_wp2_with fail
 go_ret
 exact⟨rfl,cs,rfl,h1,H2.out⟩
set_option maxRecDepth 100000 in
theorem copied_case(oa:Option Addr)(l:List Cs)(c:Nat)(w:World)(hC:CAt w oa l)(hl:l.length≤100000):
 Calls Tryz.prog 58 #[.slice oa l.length c] w fun r w'=>r=.returned (.slice (some ⟨w.heap.size,0,none⟩) l.length l.length)∧CAt w' (some ⟨w.heap.size,0,none⟩) l∧Below w.heap.size w w':=by
 obtain⟨i0,hi,hz0,hz1,hz2⟩:=info_parts info_case
 obtain⟨cs,h1,h2,h3⟩:=cps (cat_cells hC)
 have hm:=run_mkG Tryz.underlying44 hi hz0 w l.length (by rw[hz2];omega) (by omega)
 have hcp:=run_cpG (z:=.agg #[.bool false,.int .i64 0,.int .i64 0]) Tryz.underlying44 hi 3 w oa l.length c cs (by rw[hz1];exact h1) h2 h3 (by rw[hz1];decide)
 generalize madeCells (Value.cells (.agg #[.bool false,.int .i64 0,.int .i64 0])) (l.length*i0.size)=MC at hm hcp
 have HN:Hid (CAt (w.alloc (.cells cs.toArray 108)) (some ⟨w.heap.size,0,none⟩) l):=by
  intro k x hk
  obtain⟨b,off,rfl,q0,q1,q2⟩:=hC k x hk
  have hkl:=(List.getElem?_eq_some_iff.1 hk).1
  refine⟨w.heap.size,0,rfl,?_,?_,?_⟩
  ·rw[Nat.zero_add,row_cell];exact cs_get h2 (by omega) q0
  ·rw[Nat.zero_add,row_cell];exact cs_get h2 (by omega) (by rw[←Nat.add_assoc];exact q1)
  ·rw[Nat.zero_add,row_cell];exact cs_get h2 (by omega) (by rw[←Nat.add_assoc];exact q2)
 clear hC h2 hi hz0 hz1 hz2
 go_enter Tryz.func58,Tryz.ntmps58
 go_wp2_with fail
 go_ret
 exact⟨rfl,HN.out,below_alloc _ _⟩
end Sh
namespace Sh
open De Ba Re
def OM(w:World)(N0 g k:Nat)(l:List OpD):Prop:=
 ∀(t:Nat) (o:OpD),l[t]? =some o→∃ca cc,(w.cell? ⟨g,t*5,none⟩=some (.int .i64 o.kind)∧w.cell? ⟨g,t*5+1,none⟩=some (.int .i64 o.a)∧w.cell? ⟨g,t*5+2,none⟩=some (.int .i64 o.b)∧w.cell? ⟨g,t*5+3,none⟩=some (.slice ca o.cases.length cc)∧w.cell? ⟨g,t*5+4,none⟩=some (.bool o.def_))∧CAt w ca o.cases∧(t<k→∀a,ca=some a→g+1≤a.block)∧(¬t<k→∀a,ca=some a→o.cases≠[]→a.block<N0)∧o.cases.length≤3000
theorem cat_lt{w:World}{oa:Option Addr}{l:List Cs}(h:CAt w oa l)(hl:l≠[])(a:Addr)(e:oa=some a):a.block<w.heap.size:=by
 cases l with
 |nil=>exact absurd rfl hl
 |cons x t=>
  obtain⟨b,off,rfl,h1,_⟩:=h 0 x rfl
  cases e
  exact World.block_lt_of_cell? w _ h1
theorem cat_kb'{R:Nat}{w w':World}{oa:Option Addr}{l:List Cs}(k:De.KB R w w')(h:CAt w oa l)(hb:∀a,oa=some a→l≠[]→a.block≠R):CAt w' oa l:=by
 intro j x hj
 obtain⟨b,off,rfl,h1,h2,h3⟩:=h j x hj
 have hne:l≠[]:=by
  rintro rfl
  simp at hj
 exact⟨b,off,rfl,kb_cell k h1 (hb _ rfl hne),kb_cell k h2 (hb _ rfl hne),kb_cell k h3 (hb _ rfl hne)⟩
theorem OM.start{w wr:World}{oa:Option Addr}{q:List OpD}{cs:List Value}(hO:OAt w oa q)(hb:Below w.heap.size w wr)(hl:cs.length=q.length*5)(hA:CsAt wr oa cs)(h3:∀o∈q,o.cases.length≤3000):OM (wr.alloc (.cells cs.toArray 46)) w.heap.size wr.heap.size 0 q:=by
 intro t o ht
 obtain⟨b,off,ca,cc,rfl,⟨q0,q1,q2,q3,q4⟩,hC,_⟩:=hO t o ht
 have htl:=(List.getElem?_eq_some_iff.1 ht).1
 refine⟨ca,cc,⟨?_,?_,?_,?_,?_⟩,(hC.below hb).below (below_alloc _ _),fun h=>absurd h (Nat.not_lt_zero _),fun _ a e hne=>cat_lt hC hne a e,h3 o (List.mem_of_getElem? ht)⟩
 ·rw[row_cell];exact cs_get hA (by omega) (cellB q0 hb)
 ·rw[row_cell];exact cs_get hA (by omega) (by rw[←Nat.add_assoc];exact cellB q1 hb)
 ·rw[row_cell];exact cs_get hA (by omega) (by rw[←Nat.add_assoc];exact cellB q2 hb)
 ·rw[row_cell];exact cs_get hA (by omega) (by rw[←Nat.add_assoc];exact cellB q3 hb)
 ·rw[row_cell];exact cs_get hA (by omega) (by rw[←Nat.add_assoc];exact cellB q4 hb)
theorem OM.below{w w':World}{N0 g k:Nat}{l:List OpD}(h:OM w N0 g k l)(hb:Below w.heap.size w w'):OM w' N0 g k l:=by
 intro t o ht
 obtain⟨ca,cc,⟨q0,q1,q2,q3,q4⟩,hC,h1,h2,h3⟩:=h t o ht
 exact⟨ca,cc,⟨cellB q0 hb,cellB q1 hb,cellB q2 hb,cellB q3 hb,cellB q4 hb⟩,hC.below hb,h1,h2,h3⟩
theorem OM.step{w:World}{N0 g k:Nat}{l:List OpD}{o:OpD}(h:OM w N0 g k l)(hN:N0≤g)(ho:l[k]? =some o)(ca:Addr)(cc:Nat)(hC:CAt w (some ca) o.cases)(hg:g+1≤ca.block):OM (w.setCell ⟨g,k*5+3,none⟩ (.slice (some ca) o.cases.length cc)) N0 g (k+1) l:=by
 have KG:=(De.KB.refl g w).setCell (k*5+3) (.slice (some ca) o.cases.length cc)
 have far:∀i v,i≠k*5+3→w.cell? ⟨g,i,none⟩=some v→(w.setCell ⟨g,k*5+3,none⟩ (.slice (some ca) o.cases.length cc)).cell? ⟨g,i,none⟩=some v:=fun i v hi hv=>by
  exact (World.cell?_setCell_other w ⟨g,k*5+3,none⟩ ⟨g,i,none⟩ _ (by intro e;injection e;omega)).trans hv
 intro t x ht
 obtain⟨ca',cc',⟨q0,q1,q2,q3,q4⟩,hC',h1,h2,h3⟩:=h t x ht
 by_cases e:t=k
 ·subst e
  rw[ho] at ht
  cases ht
  exact⟨some ca,cc,⟨far _ _ (by omega) q0,far _ _ (by omega) q1,far _ _ (by omega) q2,World.cell?_setCell_same _ _ _ q3,far _ _ (by omega) q4⟩,cat_kb KG hC (fun a e=>by cases e;omega),fun _ a e=>by cases e;exact hg,fun hlt=>absurd (Nat.lt_succ_self _) hlt,h3⟩
 ·refine⟨ca',cc',⟨far _ _ (by omega) q0,far _ _ (by omega) q1,far _ _ (by omega) q2,far _ _ (by omega) q3,far _ _ (by omega) q4⟩,cat_kb' KG hC' ?_,fun hlt=>h1 (by omega),fun hlt=>h2 (by omega),h3⟩
  intro a ea hne
  by_cases ht2:t<k
  ·have:=h1 ht2 a ea;omega
  ·have:=h2 ht2 a ea hne;omega
theorem OM.done{w:World}{N0 g k:Nat}{l:List OpD}(h:OM w N0 g k l)(hk:l.length≤k):OF w (g+1) g l:=by
 intro t o ht
 obtain⟨ca,cc,hq,hC,h1,_,h3⟩:=h t o ht
 have htl:=(List.getElem?_eq_some_iff.1 ht).1
 exact⟨ca,cc,hq,hC,h1 (by omega),h3⟩
def PM(w0 w:World)(N k:Nat)(arr:Array Value)(ps:List (List OpD)):Prop:=
 PF w N arr (ps.take k)∧∀(t:Nat) (q:List OpD),k≤t→ps[t]? =some q→∃pa pc,arr[t]? =some (.slice pa q.length pc)∧OAt w0 pa q
theorem PF.below{w w':World}{N:Nat}{arr:Array Value}{ps:List (List OpD)}(h:PF w N arr ps)(hb:Below w.heap.size w w')(hN:0<N):PF w' N arr ps:=h.kb (De.KB.of (R:=0) hb) hN
theorem PM.start{w wr:World}{oa:Option Addr}{ps:List (List OpD)}{cs:List Value}(hP:PAt w oa ps)(hb:Below w.heap.size w wr)(hl:cs.length=ps.length)(hA:CsAt wr oa cs)(W:World)(N:Nat):PM w W N 0 cs.toArray ps:=by
 refine⟨fun t q ht=>by simp at ht,fun t q _ ht=>?_⟩
 obtain⟨b,off,pa,pc,rfl,h0,h1,_⟩:=hP t q ht
 have htl:=(List.getElem?_eq_some_iff.1 ht).1
 exact⟨pa,pc,by rw[List.getElem?_toArray];exact cs_get hA (by omega) (cellB h0 hb),h1⟩
theorem PM.step{w0 w:World}{N k:Nat}{arr:Array Value}{ps:List (List OpD)}{q:List OpD}(h:PM w0 w N k arr ps)(hq:ps[k]? =some q)(hs:k<arr.size)(g c:Nat)(hof:OF w (g+1) g q)(hN:N≤g)(hl:q.length≤1000):PM w0 w N (k+1) (arr.setIfInBounds k (.slice (some ⟨g,0,none⟩) q.length c)) ps:=by
 have hk:=(List.getElem?_eq_some_iff.1 hq).1
 refine⟨?_,fun t x ht hx=>?_⟩
 ·rw[List.take_add_one,hq]
  exact h.1.store k (by rw[List.length_take];omega) hs g c q hof hN hl
 ·obtain⟨pa,pc,h1,h2⟩:=h.2 t x (by omega) hx
  exact⟨pa,pc,by rw[Array.getElem?_setIfInBounds_ne (by omega)];exact h1,h2⟩
theorem PM.below{w0 w w':World}{N k:Nat}{arr:Array Value}{ps:List (List OpD)}(h:PM w0 w N k arr ps)(hb:Below w.heap.size w w')(hN:0<N):PM w0 w' N k arr ps:=⟨h.1.below hb hN,h.2⟩
theorem PM.kb{w0 w w':World}{N k R:Nat}{arr:Array Value}{ps:List (List OpD)}(h:PM w0 w N k arr ps)(hk:De.KB R w w')(hR:R<N):PM w0 w' N k arr ps:=⟨h.1.kb hk hR,h.2⟩
theorem PF.mono{w:World}{N N':Nat}{arr:Array Value}{ps:List (List OpD)}(h:PF w N arr ps)(hN:N'≤N):PF w N' arr ps:=by
 intro t q ht
 obtain⟨g,c,h1,h2,h3,h4⟩:=h t q ht
 exact⟨g,c,h1,h2,by omega,h4⟩
structure CC(w wr:World)(G:Nat)(v0 v1 v2 v3 v4:Value)(arr:Array Value)(n:Nat):Prop where
 bx:wr.heap[w.heap.size]? =some (.cells #[v0,v1,v2,v3,v4] 25 (0,0))
 zr:wr.heap[w.heap.size+1]? =some (.cells #[.int .i64 0,.int .i64 0,.slice none 0 0,.slice none 0 0,.slice none 0 0] 25 (0,0))
 pr:wr.heap[G]? =some (.cells arr 43 (0,0))
 sz:arr.size=n
 bel:Below w.heap.size w wr
 ne:w.heap.size+1<G
theorem CC.below{w wr wr':World}{G:Nat}{v0 v1 v2 v3 v4:Value}{arr:Array Value}{n:Nat}(h:CC w wr G v0 v1 v2 v3 v4 arr n)(hb:Below wr.heap.size wr wr'):CC w wr' G v0 v1 v2 v3 v4 arr n:=
 ⟨heap_below h.bx hb,heap_below h.zr hb,heap_below h.pr hb,h.sz,btr h.bel hb,h.ne⟩
theorem CC.store{w wr:World}{G:Nat}{v0 v1 v2 v3 v4:Value}{arr:Array Value}{n:Nat}(h:CC w wr G v0 v1 v2 v3 v4 arr n)(k:Nat)(v:Value):CC w (wr.setCell ⟨G,k,none⟩ v) G v0 v1 v2 v3 v4 (arr.setIfInBounds k v) n:=by
 have hn:=h.ne
 have K:=(De.KB.refl G wr).setCell k v
 exact⟨K.heap h.bx (by omega),K.heap h.zr (by omega),Ba.heap_setCell_same h.pr v,by rw[Array.size_setIfInBounds];exact h.sz,De.KB.below h.bel K (by omega),hn⟩
theorem CC.box{w wr:World}{G:Nat}{v0 v1 v2 v3 v4 u0 u1 u2 u3 u4:Value}{arr:Array Value}{n:Nat}(h:CC w wr G v0 v1 v2 v3 v4 arr n)(i:Nat)(v:Value)(he:(#[v0,v1,v2,v3,v4]:Array Value).setIfInBounds i v=#[u0,u1,u2,u3,u4]):CC w (wr.setCell ⟨w.heap.size,i,none⟩ v) G u0 u1 u2 u3 u4 arr n:=by
 have hn:=h.ne
 have K:=(De.KB.refl w.heap.size wr).setCell i v
 exact⟨by rw[Ba.heap_setCell_same h.bx,he],K.heap h.zr (by omega),K.heap h.pr (by omega),h.sz,De.KB.below h.bel K (by omega),hn⟩
structure Small(ps:List (List OpD))(pl dr:List Int):Prop where
 n:ps.length≤20
 q:∀q∈ps,q.length≤100
 c:∀q∈ps,∀o∈q,o.cases.length≤3000
 p:pl.length≤1000
 d:dr.length≤1000
def CRes(w:World)(T M:Int)(ps:List (List OpD))(pl dr:List Int)(r:Ending)(w':World):Prop:=
 ∃G L D arr,r=.returned (.agg #[.int .i64 T,.int .i64 M,.slice (some ⟨G,0,none⟩) ps.length ps.length,.slice (some ⟨L,0,none⟩) pl.length pl.length,.slice (some ⟨D,0,none⟩) dr.length dr.length])∧(w'.heap[G]? =some (.cells arr 43 (0,0))∧PF w' (w.heap.size+1) arr ps∧w.heap.size<G)∧(w'.heap[L]? =some (.cells (row pl) 3 (0,0))∧G<L)∧w'.heap[D]? =some (.cells (row dr) 3 (0,0))∧L<D
set_option maxRecDepth 100000 in
theorem copy_any(T M:Int)(ps:List (List OpD))(pl dr:List Int)(pa la da:Option Addr)(pc lc dc:Nat)(w:World)(hS:SAt w ⟨T,M,ps,pl,dr⟩ pa la da)(hm:Small ps pl dr):
 Calls Tryz.prog 26 #[.agg #[.int .i64 T,.int .i64 M,.slice pa ps.length pc,.slice la pl.length lc,.slice da dr.length dc]] w fun r w'=>CRes w T M ps pl dr r w'∧Below w.heap.size w w':=by
 have SW:=hide hS
 obtain⟨h20,h100,h3000,hpl,hdr⟩:=hm
 have H100:=hide h100
 have H3:=hide h3000
 have B0:=hide (btr (below_alloc w (.cells #[.int .i64 T,.int .i64 M,.slice pa ps.length pc,.slice la pl.length lc,.slice da dr.length dc] 25)) (below_alloc (w.alloc (.cells #[.int .i64 T,.int .i64 M,.slice pa ps.length pc,.slice la pl.length lc,.slice da dr.length dc] 25)) (.cells #[.int .i64 0,.int .i64 0,.slice none 0 0,.slice none 0 0,.slice none 0 0] 25)))
 have X0:=hide (heap_below (heap_new w (.cells #[.int .i64 T,.int .i64 M,.slice pa ps.length pc,.slice la pl.length lc,.slice da dr.length dc] 25)) (below_alloc (w.alloc (.cells #[.int .i64 T,.int .i64 M,.slice pa ps.length pc,.slice la pl.length lc,.slice da dr.length dc] 25)) (.cells #[.int .i64 0,.int .i64 0,.slice none 0 0,.slice none 0 0,.slice none 0 0] 25)))
 have Z0:Hid (((w.alloc (.cells #[.int .i64 T,.int .i64 M,.slice pa ps.length pc,.slice la pl.length lc,.slice da dr.length dc] 25)).alloc (.cells #[.int .i64 0,.int .i64 0,.slice none 0 0,.slice none 0 0,.slice none 0 0] 25)).heap[w.heap.size+1]? =some (.cells #[.int .i64 0,.int .i64 0,.slice none 0 0,.slice none 0 0,.slice none 0 0] 25 (0,0))):=by
  have:=heap_new (w.alloc (.cells #[.int .i64 T,.int .i64 M,.slice pa ps.length pc,.slice la pl.length lc,.slice da dr.length dc] 25)) (.cells #[.int .i64 0,.int .i64 0,.slice none 0 0,.slice none 0 0,.slice none 0 0] 25)
  rw[World.size_alloc] at this
  exact this
 have s0:((w.alloc (.cells #[.int .i64 T,.int .i64 M,.slice pa ps.length pc,.slice la pl.length lc,.slice da dr.length dc] 25)).alloc (.cells #[.int .i64 0,.int .i64 0,.slice none 0 0,.slice none 0 0,.slice none 0 0] 25)).heap.size=w.heap.size+1+1:=by rw[World.size_alloc,World.size_alloc]
 have HS0:=hide s0
 obtain⟨x0,x1,x2,x3,x4⟩:=sc_cells X0.out
 have fz2:=frozen_of X0.out 2
 clear hS h100 h3000 s0
 go_enter Tryz.func26,Tryz.ntmps26
 go_wp2_with fail
 generalize (w.alloc (.cells #[.int .i64 T,.int .i64 M,.slice pa ps.length pc,.slice la pl.length lc,.slice da dr.length dc] 25)).alloc (.cells #[.int .i64 0,.int .i64 0,.slice none 0 0,.slice none 0 0,.slice none 0 0] 25)=W0 at B0 X0 Z0 HS0 x0 x1 x2 x3 x4 fz2 ⊢
 refine (copied_pr pa ps pc _ (SW.out.ps.below B0.out) (by show ps.length≤1000;omega)).mono ?_
 rw[HS0.out]
 rintro r w1 ⟨rfl,cs,hw1,hcl,hcs⟩
 have G1:Hid (w1.heap[w.heap.size+1+1]? =some (.cells cs.toArray 43 (0,0))):=by
  have:=heap_new W0 (.cells cs.toArray 43)
  rw[HS0.out] at this
  show _=_
  rw[hw1]
  exact this
 have B1:Hid (Below W0.heap.size W0 w1):=by
  show Below _ _ _
  rw[hw1]
  exact below_alloc _ _
 have PM1:=hide (PM.start SW.out.ps B0.out hcl hcs (w1.setCell ⟨w.heap.size,2,none⟩ (.slice (some ⟨w.heap.size+1+1,0,none⟩) ps.length ps.length)) (w.heap.size+1+1+1))
 have C0:Hid (CC w w1 (w.heap.size+1+1) (.int .i64 T) (.int .i64 M) (.slice pa ps.length pc) (.slice la pl.length lc) (.slice da dr.length dc) cs.toArray ps.length):=
  ⟨heap_below X0.out B1.out,heap_below Z0.out B1.out,G1.out,by rw[List.size_toArray,hcl],btr B0.out B1.out,by omega⟩
 have C1:=hide (C0.out.box (u2:=.slice (some ⟨w.heap.size+1+1,0,none⟩) ps.length ps.length) 2 _ rfl)
 obtain⟨x0,x1,x2,x3,x4⟩:=sc_cells C0.out.bx
 have fz2:=frozen_of C0.out.bx 2
 have N1:Hid (w.heap.size+1+1+1≤(w1.setCell ⟨w.heap.size,2,none⟩ (.slice (some ⟨w.heap.size+1+1,0,none⟩) ps.length ps.length)).heap.size):=De.heap_lt C1.out.pr
 clear hw1 hcl hcs
 go_wp2_with fail
 go_loopw [13] (fun i wr=>∃(k:Nat) (arr:Array Value),k≤ps.length∧i=.int .i64 k∧CC w wr (w.heap.size+1+1) (.int .i64 T) (.int .i64 M) (.slice (some ⟨w.heap.size+1+1,0,none⟩) ps.length ps.length) (.slice la pl.length lc) (.slice da dr.length dc) arr ps.length∧PM w wr (w.heap.size+1+1+1) k arr ps∧w.heap.size+1+1+1≤wr.heap.size) (fun i _=>ps.length - (intOf i).toNat)
 case atStart=>exact⟨0,cs.toArray,Nat.zero_le _,rfl,C1.out,PM1.out,N1.out⟩
 case round=>
  clear x0 x1 x2 x3 x4 fz2 C0 C1 PM1 G1 B1 N1 B0 X0 Z0 HS0
  rename World=>w2
  obtain⟨k,arr,hk,rfl,c2,pm2,n2⟩:=hrel
  have C2:=hide c2
  have PM2:=hide pm2
  clear c2 pm2
  by_cases hlt:k<ps.length
  ·have hlt':(k:Int)<(ps.length:Int):=by omega
   obtain⟨q,hq⟩:∃q,ps[k]? =some q:=⟨ps[k],by simp[hlt]⟩
   obtain⟨qa,qc,har,hO⟩:=PM2.out.2 k q (Nat.le_refl _) hq
   have ck:=(cell_of C2.out.pr k).trans har
   have hqm:=List.mem_of_getElem? hq
   have hq1:=H100.out q hqm
   have hq3:=H3.out q hqm
   have HQ:=hide hq
   have HO:=hide hO
   have HQ3:=hide hq3
   clear hq hO hqm hq3 har
   go_wp2_with fail
   refine (copied_op qa q qc _ (HO.out.below C2.out.bel) (by omega)).mono ?_
   rintro r w3 ⟨rfl,cq,hw3,hcl,hcs⟩
   have B3:Hid (Below w2.heap.size w2 w3):=by
    show Below _ _ _
    rw[hw3]
    exact below_alloc _ _
   have OM3:Hid (OM w3 w.heap.size w2.heap.size 0 q):=by
    have:=OM.start HO.out C2.out.bel hcl hcs HQ3.out
    rw[←hw3] at this
    exact this
   have G3:Hid (w3.heap[w2.heap.size]? =some (.cells cq.toArray 46 (0,0))):=by
    show _=_
    rw[hw3]
    exact heap_new _ _
   have s3:=De.heap_lt G3.out
   have HCL:=hide hcl
   clear hw3 hcl hcs ck
   go_wp2_with fail
   go_loopw [22] (fun i wr=>∃(j:Nat),j≤q.length∧i=.int .i64 j∧Below w2.heap.size w2 wr∧OM wr w.heap.size w2.heap.size j q∧(∀i,wr.frozen? ⟨w2.heap.size,i,none⟩=false)∧w2.heap.size<wr.heap.size) (fun i _=>q.length - (intOf i).toNat)
   case atStart=>exact⟨0,Nat.zero_le _,rfl,B3.out,OM3.out,fun i=>frozen_of G3.out i,s3⟩
   case round=>
    clear OM3 G3 s3 B3
    obtain⟨j,hj,rfl,bw,om4,fz4,n4⟩:=hrel
    have BW:=hide bw
    have OM4:=hide om4
    have FZ4:=hide fz4
    clear bw om4 fz4
    by_cases hjl:j<q.length
    ·have hjl':(j:Int)<(q.length:Int):=by omega
     obtain⟨o,ho⟩:∃o,q[j]? =some o:=⟨q[j],by simp[hjl]⟩
     obtain⟨ca,cc,⟨y0,y1,y2,y3,y4⟩,hC,-,-,hl3⟩:=OM4.out j o ho
     have HX:=hide ho
     have HC:=hide hC
     clear ho hC y0 y1 y2 y4
     go_wp2_with fail
     refine (copied_case ca o.cases cc _ HC.out (by omega)).mono ?_
     rintro r w5 ⟨rfl,c5,b5⟩
     have C5:=hide c5
     have s5:=b5.size
     have OM5:=hide (OM4.out.below b5)
     have z3:=cellB y3 b5
     have zf:=(b5.frozen (p:=⟨w2.heap.size,j*5+3,none⟩) n4).trans (FZ4.out (j*5+3))
     have FZ5:Hid (∀i,w5.frozen? ⟨w2.heap.size,i,none⟩=false):=fun i=>(b5.frozen (p:=⟨w2.heap.size,i,none⟩) n4).trans (FZ4.out i)
     have BW5:=hide (BW.out.trans (b5.mono (Nat.le_of_lt n4)))
     clear c5 b5 y3
     go_wp2_with fail
     go_roundw
     case rel=>exact⟨j+1,by omega,by go_num,BW5.out.setCell (Nat.le_refl _) _,OM5.out.step (by omega) HX.out ⟨wr.heap.size,0,none⟩ o.cases.length C5.out n4,fun i=>by rw[World.frozen?_setCell];exact FZ5.out i,Nat.lt_of_lt_of_le (Nat.lt_of_lt_of_le n4 s5) ((De.KB.refl w2.heap.size w5).setCell (j*5+3) (.slice (some ⟨wr.heap.size,0,none⟩) o.cases.length o.cases.length)).size⟩
     case measure=>simp[intOf];omega
    ·have hjl':¬((j:Int)<(q.length:Int)):=by omega
     have C5:=hide (C2.out.below BW.out)
     have PM5:=hide (PM2.out.below BW.out (by omega))
     have OF5:=hide (OM4.out.done (by omega))
     have PM6:=hide ((PM5.out.step HQ.out (by rw[C5.out.sz];exact hlt) w2.heap.size q.length OF5.out n2 (by omega)).kb ((De.KB.refl (w.heap.size+1+1) wr).setCell k (.slice (some ⟨w2.heap.size,0,none⟩) q.length q.length)) (by omega))
     obtain⟨x0,x1,x2,x3,x4⟩:=sc_cells C5.out.bx
     have fk:=frozen_of C5.out.pr k
     obtain⟨vk,hvk⟩:∃v,wr.cell? ⟨w.heap.size+1+1,k,none⟩=some v:=⟨_,(cell_of C5.out.pr k).trans (Array.getElem?_eq_getElem (by rw[C5.out.sz];exact hlt))⟩
     have s6:=((De.KB.refl (w.heap.size+1+1) wr).setCell k (.slice (some ⟨w2.heap.size,0,none⟩) q.length q.length)).size
     go_wp2_with fail
     go_roundw
     case rel=>exact⟨k+1,_,by omega,by go_num,C5.out.store k _,PM6.out,by omega⟩
     case measure=>simp[intOf];omega
  ·have hlt':¬((k:Int)<(ps.length:Int)):=by omega
   have PF2:Hid (PF w2 (w.heap.size+1+1+1) arr ps):=by
    have:=PM2.out.1
    rw[List.take_of_length_le (by omega)] at this
    exact this
   obtain⟨x0,x1,x2,x3,x4⟩:=sc_cells C2.out.bx
   clear PM2
   go_wp2_with fail
   refine (copied_int la pl lc _ (SW.out.pl.below C2.out.bel) (by show pl.length≤1000000;omega)).mono ?_
   rintro r w3 ⟨rfl,hw3⟩
   have B3:Hid (Below w2.heap.size w2 w3):=by
    show Below _ _ _
    rw[hw3]
    exact below_alloc _ _
   have L3:Hid (w3.heap[w2.heap.size]? =some (.cells (row pl) 3 (0,0))):=by
    show _=_
    rw[hw3]
    exact heap_new _ _
   have s3:=De.heap_lt L3.out
   have C3:=hide (C2.out.below B3.out)
   have PF3:=hide (PF2.out.below B3.out (by omega))
   obtain⟨x0,x1,x2,x3,x4⟩:=sc_cells C3.out.bx
   have fz3:=frozen_of C3.out.bx 3
   have K4:=(De.KB.refl w.heap.size w3).setCell 3 (.slice (some ⟨w2.heap.size,0,none⟩) pl.length pl.length)
   have C4:=hide (C3.out.box (u3:=.slice (some ⟨w2.heap.size,0,none⟩) pl.length pl.length) 3 _ rfl)
   have PF4:=hide (PF3.out.kb K4 (by omega))
   have L4:=hide (K4.heap L3.out (by omega))
   have s4:=K4.size
   clear hw3 K4
   go_wp2_with fail
   refine (copied_int da dr dc _ (SW.out.dr.below C4.out.bel) (by show dr.length≤1000000;omega)).mono ?_
   generalize hW4:w3.setCell ⟨w.heap.size,3,none⟩ (.slice (some ⟨w2.heap.size,0,none⟩) pl.length pl.length)=W4 at C4 PF4 L4 s4 ⊢
   rintro r w5 ⟨rfl,hw5⟩
   have B5:Hid (Below W4.heap.size W4 w5):=by
    show Below _ _ _
    rw[hw5]
    exact below_alloc _ _
   have D5:Hid (w5.heap[W4.heap.size]? =some (.cells (row dr) 3 (0,0))):=by
    show _=_
    rw[hw5]
    exact heap_new _ _
   have C5:=hide (C4.out.below B5.out)
   have PF5:=hide (PF4.out.below B5.out (by omega))
   have L5:=hide (heap_below L4.out B5.out)
   obtain⟨x0,x1,x2,x3,x4⟩:=sc_cells C5.out.bx
   have fz4:=frozen_of C5.out.bx 4
   have K6:=(De.KB.refl w.heap.size w5).setCell 4 (.slice (some ⟨W4.heap.size,0,none⟩) dr.length dr.length)
   have C6:=hide (C5.out.box (u4:=.slice (some ⟨W4.heap.size,0,none⟩) dr.length dr.length) 4 _ rfl)
   have PF6:=hide (PF5.out.kb K6 (by omega))
   have L6:=hide (K6.heap L5.out (by omega))
   have D6:=hide (K6.heap D5.out (by omega))
   obtain⟨y0,y1,y2,y3,y4⟩:=sc_cells C6.out.bx
   obtain⟨r0,r1,r2,r3,r4⟩:=sc_cells C6.out.zr
   have q0:=frozen_of C6.out.zr 0
   have q1:=frozen_of C6.out.zr 1
   have q2:=frozen_of C6.out.zr 2
   have q3:=frozen_of C6.out.zr 3
   have q4:=frozen_of C6.out.zr 4
   clear hw5 K6 hW4
   go_wp2_with fail
   have KZ:=fun (u0 u1 u2 u3 u4:Value)=>(((((De.KB.refl (w.heap.size+1) (w5.setCell ⟨w.heap.size,4,none⟩ (.slice (some ⟨W4.heap.size,0,none⟩) dr.length dr.length))).setCell 0 u0).setCell 1 u1).setCell 2 u2).setCell 3 u3).setCell 4 u4
   have hL2:w.heap.size+1+1<w2.heap.size:=by omega
   exact bodyPost_ret (results_row1 Tryz.results26 _ _ _ _ rfl (loadVar_sc (five_set C6.out.zr _ _ _ _ _) rfl)) rfl ⟨⟨w.heap.size+1+1,w2.heap.size,W4.heap.size,arr,rfl,⟨(KZ _ _ _ _ _).heap C6.out.pr (by omega),(PF6.out.kb (KZ _ _ _ _ _) (by omega)).mono (by omega),by omega⟩,⟨(KZ _ _ _ _ _).heap L6.out (by omega),hL2⟩,(KZ _ _ _ _ _).heap D6.out (by omega),by omega⟩,De.KB.below C6.out.bel (KZ _ _ _ _ _) (by omega)⟩
end Sh
namespace Lo
open Ba
theorem field_ps(u:World)(a b d e:Value)(x:Option Addr)(y z:Nat):(Instr.field 25 (.agg #[a,b,.slice x y z,d,e]) 2).run Tryz.prog u=.ok (.slice x y z) u:=by
 simp[Instr.field,run_underlying Tryz.underlying25,asAgg,part,isAgg,run_underlying Tryz.underlying22]
theorem info_pp:(Tryz.prog.info? 160).map (fun i=>(i.zero,i.size,i.bytes))=some (some (.pointer none),1,8):=by kernel_rfl
theorem made8:madeCells (Value.cells (.pointer none)) 8=#[.pointer none,.pointer none,.pointer none,.pointer none,.pointer none,.pointer none,.pointer none,.pointer none]:=by
 apply Array.toList_inj.1
 rw[madeCells,Array.toList_map,Array.toList_range]
 rfl
theorem mk8(u:World):(Instr.makeSlice 75 (.int .i64 8) (.int .i64 8)).run Tryz.prog u=.ok (.slice (some ⟨u.heap.size,0,none⟩) 8 8) (u.alloc (.cells #[.pointer none,.pointer none,.pointer none,.pointer none,.pointer none,.pointer none,.pointer none,.pointer none] 160)):=by
 obtain⟨i0,hi,hz0,hz1,hz2⟩:=info_parts info_pp
 have:=run_make (P:=Tryz.prog) u 75 160 i0 (.pointer none) Tryz.underlying75 hi hz0 .i64 .i64 8 8 (by omega) (Int.le_refl _) (by rw[hz2];omega) (by omega)
 rw[hz1] at this
 rw[←made8]
 exact this
set_option maxRecDepth 100000 in
theorem new_err(T M:Int)(ps:List (List OpD))(pl dr:List Int)(pa la da:Option Addr)(pc lc dc:Nat)(w:World)(hS:Sh.SAt w ⟨T,M,ps,pl,dr⟩ pa la da)(x:Int)(hx:Sh.schk ⟨T,M,ps,pl,dr⟩=x)(h0:x≠0):
 Calls Tryz.prog 15 #[.agg #[.int .i64 T,.int .i64 M,.slice pa ps.length pc,.slice la pl.length lc,.slice da dr.length dc]] w fun r w'=>r=.returned (.tuple #[.pointer none,.int .i64 x])∧Below w.heap.size w w':=by
 have CK:=hide (Sh.scheck_any T M ps pl dr pa la da pc lc dc (w.alloc (.cells #[.int .i64 T,.int .i64 M,.slice pa ps.length pc,.slice la pl.length lc,.slice da dr.length dc] 25)) (hS.below (below_alloc _ _)))
 rw[hx] at CK
 have h0':(x !=0)=true:=by simp[h0]
 clear hS
 go_enter Tryz.func15,Tryz.ntmps15
 go_wp2_with fail
 refine CK.out.mono ?_
 rintro r w1 ⟨rfl,b1⟩
 have B1:=hide (btr (below_alloc w (.cells #[.int .i64 T,.int .i64 M,.slice pa ps.length pc,.slice la pl.length lc,.slice da dr.length dc] 25)) b1)
 clear b1
 go_wp2_with fail
 go_ret2
 exact⟨rfl,B1.out⟩
theorem pf_keep{w w':World}{N:Nat}{arr:Array Value}{ps:List (List OpD)}(h:Sh.PF w N arr ps)(hk:∀x,N≤x→x<w.heap.size→w'.heap[x]? =w.heap[x]?):Sh.PF w' N arr ps:=by
 intro t q ht
 obtain⟨g,c,h1,h2,h3,h4⟩:=h t q ht
 refine⟨g,c,h1,fun j o hj=>?_,h3,h4⟩
 obtain⟨ca,cc,⟨k0,k1,k2,k3,k4⟩,hC,hN,hl⟩:=h2 j o hj
 have e:=hk g h3 (World.block_lt_of_cell? w _ k0)
 refine⟨ca,cc,⟨?_,?_,?_,?_,?_⟩,cat_keep hC (fun a ea hla=>hk _ (by have:=hN a ea;omega) hla),hN,hl⟩
 ·rw[←k0];simp only[World.cell?,e]
 ·rw[←k1];simp only[World.cell?,e]
 ·rw[←k2];simp only[World.cell?,e]
 ·rw[←k3];simp only[World.cell?,e]
 ·rw[←k4];simp only[World.cell?,e]
def lz(G n B X:Nat):Array Value:=#[.slice (some ⟨G,0,none⟩) n n,.pointer none,.pointer (some ⟨B,0,none⟩),.slice (some ⟨X,0,none⟩) 8 8,.int .i64 0,.int .i64 0,.int .i64 0,.int .i64 0,.int .i64 0,.int .i64 0,.int .i64 0,.int .i64 0,.int .i64 0,.slice none 0 0,.bool false]
structure NF(w wF:World)(L G B X:Nat)(ps:List (List OpD)):Prop where
 hl:wF.heap[L]? =some (.cells (lz G ps.length B X) 79 (0,0))
 hx:wF.heap[X]? =some (.cells #[.pointer none,.pointer none,.pointer none,.pointer none,.pointer none,.pointer none,.pointer none,.pointer none] 160 (0,0))
 hb:Cr.PC wF B (fun k=>k=B) []
 st:∃lo hi,(∀w',(∀x,lo≤x→x<hi→w'.heap[x]? =wF.heap[x]?)→Sh.PAt w' (some ⟨G,0,none⟩) ps)∧(w.heap.size≤lo∧hi≤L)∧(B<lo∨hi≤B)∧(X<lo∨hi≤X)
 ne:B≠X∧B<L∧X<L
 ge:w.heap.size≤B∧w.heap.size≤X
 bl:Below w.heap.size w wF
theorem nf_static{u0 uC wF:World}{G:Nat}{arr:Array Value}{ps:List (List OpD)}{t:TypeId}(hG:uC.heap[G]? =some (.cells arr t (0,0)))(hPF:Sh.PF uC (u0.heap.size+1) arr ps)(hGlt:u0.heap.size<G)(bF:Below uC.heap.size uC wF):
 ∀w',(∀x,u0.heap.size≤x→x<uC.heap.size→w'.heap[x]? =wF.heap[x]?)→Sh.PAt w' (some ⟨G,0,none⟩) ps:=by
 intro w' h
 have e:∀x,u0.heap.size≤x→x<uC.heap.size→w'.heap[x]? =uC.heap[x]?:=fun x h1 h2=>(h x h1 h2).trans (bF.block x h2)
 exact Sh.PF.at (pf_keep hPF (fun x h1 h2=>e x (by omega) h2)) ((e G (by omega) (heap_lt hG)).trans hG)
section
variable {w w1 uC uK:World}{G:Nat}{arr:Array Value}{ps:List (List OpD)}
theorem nf1(b1:Below w.heap.size w w1)(bC:Below w1.drew.heap.size w1.drew uC)(hG:uC.heap[G]? =some (.cells arr 43 (0,0)))(hPF:Sh.PF uC (w1.drew.heap.size+1) arr ps)(hGlt:w1.drew.heap.size<G)(pK:Cr.PC uK uC.heap.size (fun k=>k=uC.heap.size) [])(bK:Below uC.heap.size uC uK):
 NF w ((uK.alloc (.cells #[.pointer none,.pointer none,.pointer none,.pointer none,.pointer none,.pointer none,.pointer none,.pointer none] 160)).alloc (.cells (lz G ps.length uC.heap.size uK.heap.size) 79)) (uK.heap.size+1) G uC.heap.size uK.heap.size ps:=by
 have ba:=btr (below_alloc uK (.cells #[.pointer none,.pointer none,.pointer none,.pointer none,.pointer none,.pointer none,.pointer none,.pointer none] 160)) (below_alloc _ (.cells (lz G ps.length uC.heap.size uK.heap.size) 79))
 have s1:=b1.size
 have s2:w1.heap.size≤uC.heap.size:=bC.size
 have s3:=pK.lt
 refine⟨En.heap_new2 _ _ _,heap_below (heap_new _ _) (below_alloc _ _),pK.below ba,⟨w1.heap.size,uC.heap.size,nf_static (u0:=w1.drew) hG hPF hGlt (btr bK ba),by omega,by omega,by omega⟩,by omega,by omega,btr b1 (btr (bdrew1 w1) (btr bC (btr bK ba)))⟩
theorem nf2(b1:Below w.heap.size w w1)(bC:Below w1.drew.heap.size w1.drew uC)(hG:uC.heap[G]? =some (.cells arr 43 (0,0)))(hPF:Sh.PF uC (w1.drew.heap.size+1) arr ps)(hGlt:w1.drew.heap.size<G)(pK:Cr.PC uK (uC.alloc (.cells #[.pointer none,.pointer none,.pointer none,.pointer none,.pointer none,.pointer none,.pointer none,.pointer none] 160)).heap.size (fun k=>k=(uC.alloc (.cells #[.pointer none,.pointer none,.pointer none,.pointer none,.pointer none,.pointer none,.pointer none,.pointer none] 160)).heap.size) [])(bK:Below (uC.alloc (.cells #[.pointer none,.pointer none,.pointer none,.pointer none,.pointer none,.pointer none,.pointer none,.pointer none] 160)).heap.size (uC.alloc (.cells #[.pointer none,.pointer none,.pointer none,.pointer none,.pointer none,.pointer none,.pointer none,.pointer none] 160)) uK):
 NF w (uK.alloc (.cells (lz G ps.length (uC.heap.size+1) uC.heap.size) 79)) uK.heap.size G (uC.heap.size+1) uC.heap.size ps:=by
 rw[World.size_alloc] at pK
 have ba:=below_alloc uK (.cells (lz G ps.length (uC.heap.size+1) uC.heap.size) 79)
 have bc:=below_alloc uC (.cells #[.pointer none,.pointer none,.pointer none,.pointer none,.pointer none,.pointer none,.pointer none,.pointer none] 160)
 have s1:=b1.size
 have s2:w1.heap.size≤uC.heap.size:=bC.size
 have s3:=pK.lt
 refine⟨heap_new _ _,heap_below (heap_new _ _) (btr bK ba),pK.below ba,⟨w1.heap.size,uC.heap.size,nf_static (u0:=w1.drew) hG hPF hGlt (btr bc (btr bK ba)),by omega,by omega,by omega⟩,by omega,by omega,btr b1 (btr (bdrew1 w1) (btr bC (btr bc (btr bK ba))))⟩
theorem nf3(b1:Below w.heap.size w w1)(bC:Below (w1.alloc (.cells #[.pointer none,.pointer none,.pointer none,.pointer none,.pointer none,.pointer none,.pointer none,.pointer none] 160)).drew.heap.size (w1.alloc (.cells #[.pointer none,.pointer none,.pointer none,.pointer none,.pointer none,.pointer none,.pointer none,.pointer none] 160)).drew uC)(hG:uC.heap[G]? =some (.cells arr 43 (0,0)))(hPF:Sh.PF uC ((w1.alloc (.cells #[.pointer none,.pointer none,.pointer none,.pointer none,.pointer none,.pointer none,.pointer none,.pointer none] 160)).drew.heap.size+1) arr ps)(hGlt:(w1.alloc (.cells #[.pointer none,.pointer none,.pointer none,.pointer none,.pointer none,.pointer none,.pointer none,.pointer none] 160)).drew.heap.size<G)(pK:Cr.PC uK uC.heap.size (fun k=>k=uC.heap.size) [])(bK:Below uC.heap.size uC uK):
 NF w (uK.alloc (.cells (lz G ps.length uC.heap.size w1.heap.size) 79)) uK.heap.size G uC.heap.size w1.heap.size ps:=by
 have ba:=below_alloc uK (.cells (lz G ps.length uC.heap.size w1.heap.size) 79)
 have bx:=btr (below_alloc w1 (.cells #[.pointer none,.pointer none,.pointer none,.pointer none,.pointer none,.pointer none,.pointer none,.pointer none] 160)) (bdrew1 _)
 have s1:=b1.size
 have sx:(w1.alloc (.cells #[.pointer none,.pointer none,.pointer none,.pointer none,.pointer none,.pointer none,.pointer none,.pointer none] 160)).drew.heap.size=w1.heap.size+1:=World.size_alloc _ _
 have s2:=bC.size
 rw[sx] at s2
 have s3:=pK.lt
 refine⟨heap_new _ _,heap_below (heap_new _ _) (btr (bdrew1 _) (btr bC (btr bK ba))),pK.below ba,⟨w1.heap.size+1,uC.heap.size,?_,by omega,by omega,by omega⟩,by omega,by omega,btr b1 (btr bx (btr bC (btr bK ba)))⟩
 have:=nf_static (u0:=(w1.alloc (.cells #[.pointer none,.pointer none,.pointer none,.pointer none,.pointer none,.pointer none,.pointer none,.pointer none] 160)).drew) hG hPF hGlt (btr bK ba)
 rw[sx] at this
 exact this
end
def nmI(i:Nat):List Int:=List.replicate i (-1)++List.replicate (8 - i) 0
theorem nmI_len{i:Nat}(h:i≤8):(nmI i).length=8:=by simp[nmI];omega
theorem nmI_step{i:Nat}(h:i<8):(nmI i).set i (-1)=nmI (i+1):=by
 rcases (show i=0∨i=1∨i=2∨i=3∨i=4∨i=5∨i=6∨i=7 by omega) with rfl|rfl|rfl|rfl|rfl|rfl|rfl|rfl<;>rfl
theorem lcs_at(pa:Option Addr)(n pc C B X:Nat)(nm:List Int)(md:Int)(ta:Option Addr)(tn tc:Nat)(pk:Bool){k:Nat}(hk:k<8):(lcs pa n pc C B X nm md ta tn tc pk)[4+k]? =some (.int .i64 (nth nm k)):=by
 rcases (show k=0∨k=1∨k=2∨k=3∨k=4∨k=5∨k=6∨k=7 by omega) with rfl|rfl|rfl|rfl|rfl|rfl|rfl|rfl<;>rfl
theorem new_lx{w wF wr:World}{L G B X C:Nat}{ps:List (List OpD)}{pl dr:List Int}(h:NF w wF L G B X ps)
 (hl:wr.heap[L]? =some (.cells (lcs (some ⟨G,0,none⟩) ps.length ps.length C B X (nmI 8) 0 none 0 0 false) 79 (0,0))) (hk:∀x,x<wF.heap.size→x≠L→wr.heap[x]? =wF.heap[x]?) (hsz:wF.heap.size≤wr.heap.size)
 (cu:Lk.Cu wr wF.heap.size C pl dr) (hC:wF.heap.size≤C):
 ∃col,LX wr col L wF.heap.size C B X (fun k=>k=B) (some ⟨G,0,none⟩) ps.length (List.replicate 8 none) (fun _ _=>False) none 0 ⟨ps,pl,dr,[],List.replicate 8 none,List.replicate 8 (-1),0,[],false⟩∧∀x,x<w.heap.size→col x=7:=by
 obtain⟨lo,hi,hst,⟨g1,g2⟩,g3,g4⟩:=h.st
 obtain⟨n1,n2,n3⟩:=h.ne
 obtain⟨m1,m2⟩:=h.ge
 have hL:=heap_lt h.hl
 have hrow:wr.heap[X]? =some (.cells ((List.replicate 8 none).map Pe.pt).toArray 160 (0,0)):=(hk X (by omega) (by omega)).trans h.hx
 refine⟨fun x=>if x=L then 0 else if wF.heap.size≤x∧x≤C then 1 else if x=B then 2 else if x=X then 3 else if lo≤x∧x<hi then 6 else 7,⟨hl,rfl,?_,cu,hC,?_,hrow,?_,rfl,World.ownsRow_nil _ _ _ _,?_,?_,?_,?_,?_,?_⟩,?_⟩
 ·intro w' hw
  refine hst w' fun x h1 h2=>?_
  have hx:x<wF.heap.size:=by omega
  refine (hw x (by omega) ?_).trans (hk x hx (by omega))
  rw[if_neg (by omega),if_neg (by omega),if_neg (by omega),if_neg (by omega),if_pos ⟨h1,h2⟩]
 ·obtain⟨oa,c,q⟩:=h.hb
  exact⟨oa,c,q.sm (fun x (e:x=B)=>by rw[e];exact hk B (by omega) (by omega))⟩
 ·refine⟨pr_row hrow,rfl,fun i B' e=>?_,fun i e=>?_,fun _ _ _ _ hf=>hf.elim,fun _ _ _ hf=>hf,fun _ _ hf=>hf.elim⟩
  ·have:=List.mem_of_getElem? e
   simp at this
  ·have hi8:=(List.getElem?_eq_some_iff.1 e).1
   rw[List.length_replicate] at hi8
   rw[List.getElem?_replicate,if_pos hi8]
 ·simp
 ·intro x h1 h2
  rw[if_neg (by omega),if_pos ⟨h1,h2⟩]
 ·intro x (e:x=B)
  rw[if_neg (by omega),if_neg (by omega),if_pos e]
 ·rw[if_neg (by omega),if_neg (by omega),if_neg (by omega),if_pos rfl]
 ·intro _ _ hf
  exact hf.elim
 ·intro g e
  simp[Value.ownBlock] at e
 ·intro x hx
  show (if x=L then 0 else if wF.heap.size≤x∧x≤C then 1 else if x=B then 2 else if x=X then 3 else if lo≤x∧x<hi then 6 else 7)=7
  rw[if_neg (by omega),if_neg (by omega),if_neg (by omega),if_neg (by omega),if_neg (by omega)]
set_option maxRecDepth 100000 in
theorem new_yes(T M:Int)(ps:List (List OpD))(pl dr:List Int)(pa la da:Option Addr)(pc lc dc:Nat)(w:World)(hS:Sh.SAt w ⟨T,M,ps,pl,dr⟩ pa la da)(hx:Sh.schk ⟨T,M,ps,pl,dr⟩=0):
 Calls Tryz.prog 15 #[.agg #[.int .i64 T,.int .i64 M,.slice pa ps.length pc,.slice la pl.length lc,.slice da dr.length dc]] w fun r w'=>∃L col,r=.returned (.tuple #[.pointer (some ⟨L,0,none⟩),.int .i64 0])∧LW w' col L (newS ⟨T,M,ps,pl,dr⟩)∧(∀x,x<w.heap.size→col x=7)∧Below w.heap.size w w':=by
 obtain⟨q1,q2,q3,q4,q5,q6,q7⟩:=schk_ok hx
 simp only at q1 q2 q3 q4 q5 q6 q7
 have sml:Sh.Small ps pl dr:=⟨by omega,fun q hq=>by have:=q2 q hq;omega,fun q hq o ho=>by
  obtain⟨a,ha⟩:=List.getElem?_of_mem hq
  obtain⟨b,hb⟩:=List.getElem?_of_mem ho
  have:=(op_ok (Sh.ari_of q5 ha hb)).2.2.1
  omega,by omega,by omega⟩
 have CK:=hide (Sh.scheck_any T M ps pl dr pa la da pc lc dc (w.alloc (.cells #[.int .i64 T,.int .i64 M,.slice pa ps.length pc,.slice la pl.length lc,.slice da dr.length dc] 25)) (hS.below (below_alloc _ _)))
 rw[hx] at CK
 have CP:=hide (fun u (hb:Below w.heap.size w u)=>Sh.copy_any T M ps pl dr pa la da pc lc dc u (hS.below hb) sml)
 have NE:Pk.ne pl dr=0:=by
  unfold Pk.ne
  have a1:Pk.ab (-1) 1000 pl=true:=(Pk.ab_iff _ _ _).2 q6
  have a2:Pk.ab 0 1000 dr=true:=(Pk.ab_iff _ _ _).2 q7
  have a3:decide (200<pl.length)=false:=by simp;omega
  have a4:decide (64<dr.length)=false:=by simp;omega
  rw[a1,a2,a3,a4]
  rfl
 have PN:=hide (fun u (hb:Below w.heap.size w u)=>Lk.new_cu la da pl dr lc dc u (hS.pl.below hb) (hS.dr.below hb) NE)
 have HS:=hide hS
 clear hS NE
 go_enter Tryz.func15,Tryz.ntmps15
 go_wp2_with fail
 refine CK.out.mono ?_
 rintro r w1 ⟨rfl,b1⟩
 have E1:=hide (heap_below (heap_new w (.cells #[.int .i64 T,.int .i64 M,.slice pa ps.length pc,.slice la pl.length lc,.slice da dr.length dc] 25)) b1)
 have B1:=hide (btr (below_alloc w (.cells #[.int .i64 T,.int .i64 M,.slice pa ps.length pc,.slice la pl.length lc,.slice da dr.length dc] 25)) b1)
 have c0:w1.cell? ⟨w.heap.size,0,none⟩=some (.int .i64 T):=cell_of E1.out 0
 have c1:w1.cell? ⟨w.heap.size,1,none⟩=some (.int .i64 M):=cell_of E1.out 1
 have c2:w1.cell? ⟨w.heap.size,2,none⟩=some (.slice pa ps.length pc):=cell_of E1.out 2
 have c3:w1.cell? ⟨w.heap.size,3,none⟩=some (.slice la pl.length lc):=cell_of E1.out 3
 have c4:w1.cell? ⟨w.heap.size,4,none⟩=some (.slice da dr.length dc):=cell_of E1.out 4
 have ne0:=World.new_ne w1 _ c0
 have ne1:=World.new_ne w1 _ c1
 have ne2:=World.new_ne w1 _ c2
 have ne3:=World.new_ne w1 _ c3
 have ne4:=World.new_ne w1 _ c4
 clear b1 CK
 have hfp:=field_ps
 have hmk:=mk8
 go_wp2_with fail
 go_region_held3 (fun w'=>w'.cell? ⟨w.heap.size,0,none⟩=some (.int .i64 T)∧w'.cell? ⟨w.heap.size,1,none⟩=some (.int .i64 M)∧w'.cell? ⟨w.heap.size,2,none⟩=some (.slice pa ps.length pc)∧w'.cell? ⟨w.heap.size,3,none⟩=some (.slice la pl.length lc)∧w'.cell? ⟨w.heap.size,4,none⟩=some (.slice da dr.length dc))
  (first|(go_keep;done)|(go_split_ands;refine⟨?_,?_,?_,?_,?_⟩<;>(refine Sh.cellB ?_ bC;assumption))|(go_split_ands;refine⟨?_,?_,?_,?_,?_⟩<;>(refine Sh.cellB ?_ bK;assumption)))
  (first
    |(go_at_call 26;refine (CP.out _ (by first|exact btr B1.out (bdrew1 _)|exact btr B1.out (btr (below_alloc _ _) (bdrew1 _))|exact btr B1.out (btr (bdrew1 _) (below_alloc _ _)))).mono ?_;rintro r uC ⟨⟨G,L',D',arr,rfl,⟨hG,hPF,hGlt⟩,-,-,-⟩,bC⟩)
    |(go_at_call 27;refine (Cr.new_any _).mono ?_;rintro r uK ⟨rfl,pK,bK⟩))
 case' _=>have NFF:=hide (nf1 B1.out bC hG hPF hGlt pK bK)
 rotate_left
 case' _=>have NFF:=hide (nf2 B1.out bC hG hPF hGlt pK bK)
 rotate_left
 case' _=>have NFF:=hide (nf3 B1.out bC hG hPF hGlt pK bK)
 rotate_left
 all_goals
  rename_i hH
  unfold lz at NFF
  clear bC hG hPF hGlt pK bK c0 c1 c2 c3 c4 ne0 ne1 ne2 ne3 ne4 E1 B1
 case' _=>
  generalize (uK.alloc (.cells #[.pointer none,.pointer none,.pointer none,.pointer none,.pointer none,.pointer none,.pointer none,.pointer none] 160)).alloc (.cells #[.slice (some ⟨G,0,none⟩) ps.length ps.length,.pointer none,.pointer (some ⟨uC.heap.size,0,none⟩),.slice (some ⟨uK.heap.size,0,none⟩) 8 8,.int .i64 0,.int .i64 0,.int .i64 0,.int .i64 0,.int .i64 0,.int .i64 0,.int .i64 0,.int .i64 0,.int .i64 0,.slice none 0 0,.bool false] 79)=wF at*
  generalize uK.heap.size+1=L at*
  generalize uC.heap.size=B at*
  generalize uK.heap.size=X at*
 rotate_left
 case' _=>
  generalize uK.alloc (.cells #[.slice (some ⟨G,0,none⟩) ps.length ps.length,.pointer none,.pointer (some ⟨uC.heap.size+1,0,none⟩),.slice (some ⟨uC.heap.size,0,none⟩) 8 8,.int .i64 0,.int .i64 0,.int .i64 0,.int .i64 0,.int .i64 0,.int .i64 0,.int .i64 0,.int .i64 0,.int .i64 0,.slice none 0 0,.bool false] 79)=wF at*
  generalize uC.heap.size+1=B at*
  generalize uC.heap.size=X at*
  generalize uK.heap.size=L at*
 rotate_left
 case' _=>
  generalize uK.alloc (.cells #[.slice (some ⟨G,0,none⟩) ps.length ps.length,.pointer none,.pointer (some ⟨uC.heap.size,0,none⟩),.slice (some ⟨w1.heap.size,0,none⟩) 8 8,.int .i64 0,.int .i64 0,.int .i64 0,.int .i64 0,.int .i64 0,.int .i64 0,.int .i64 0,.int .i64 0,.int .i64 0,.slice none 0 0,.bool false] 79)=wF at*
  generalize uC.heap.size=B at*
  generalize w1.heap.size=X at*
  generalize uK.heap.size=L at*
 rotate_left
 all_goals
  obtain⟨-,-,-,d3,d4⟩:=hH
  have PNF:=hide (PN.out wF NFF.out.bl)
  have FL:=hide NFF.out.hl
  have f1:=frozen_of NFF.out.hl 1
  have g1:=cell_of NFF.out.hl 1
  simp[lz] at g1
  have hLF:=heap_lt NFF.out.hl
  clear PN CP HS
  go_wp2_with fail
  refine PNF.out.mono ?_
  rintro r w5 ⟨C,rfl,hC,cu5,b5⟩
  have L5:=hide (heap_below FL.out b5)
  have y1:=cell_of L5.out 1
  have yf:=frozen_of L5.out 1
  simp[lz] at y1
  have L6:Hid ((w5.setCell ⟨L,1,none⟩ (.pointer (some ⟨C,0,none⟩))).heap[L]? =some (.cells (lcs (some ⟨G,0,none⟩) ps.length ps.length C B X (nmI 0) 0 none 0 0 false) 79 (0,0))):=(Ba.heap_setCell_same L5.out _).trans rfl
  have K6:Hid (∀x,x<wF.heap.size→x≠L→(w5.setCell ⟨L,1,none⟩ (.pointer (some ⟨C,0,none⟩))).heap[x]? =wF.heap[x]?):=fun x h1 h2=>(((KB.refl L w5).setCell 1 _).block x (Nat.lt_of_lt_of_le h1 b5.size) h2).trans (b5.block x h1)
  have S6:Hid (wF.heap.size≤(w5.setCell ⟨L,1,none⟩ (.pointer (some ⟨C,0,none⟩))).heap.size):=Nat.le_trans b5.size ((KB.refl L w5).setCell 1 _).size
  have U6:=hide (cu5.keep (w':=w5.setCell ⟨L,1,none⟩ (.pointer (some ⟨C,0,none⟩))) (fun x h1 h2=>((KB.refl L w5).setCell 1 _).block x (Nat.lt_of_le_of_lt h2 cu5.lt) (by omega)) hC)
  have O6:Hid ((w5.setCell ⟨L,1,none⟩ (.pointer (some ⟨C,0,none⟩))).os=w.os∧(w5.setCell ⟨L,1,none⟩ (.pointer (some ⟨C,0,none⟩))).tape=w.tape∧(w5.setCell ⟨L,1,none⟩ (.pointer (some ⟨C,0,none⟩))).output=w.output):=⟨b5.os.trans NFF.out.bl.os,b5.tape.trans NFF.out.bl.tape,b5.output.trans NFF.out.bl.output⟩
  clear cu5 b5 PNF f1 g1 L5 FL
  go_wp2_with fail
  go_loopw [30] (fun iv wr=>∃i:Nat,i≤8∧iv=.int .i64 i∧wr.heap[L]? =some (.cells (lcs (some ⟨G,0,none⟩) ps.length ps.length C B X (nmI i) 0 none 0 0 false) 79 (0,0))∧KB L (w5.setCell ⟨L,1,none⟩ (.pointer (some ⟨C,0,none⟩))) wr) (fun iv _=>8 - (intOf iv).toNat)
  case atStart=>exact⟨0,by omega,rfl,L6.out,KB.refl _ _⟩
  case round=>
   obtain⟨i,hi,rfl,hlr,hkr⟩:=hrel
   have HLR:=hide hlr
   have HKR:=hide hkr
   clear hlr hkr
   by_cases hlt:i<8
   ·have hlt':(i:Int)<8:=by omega
    have hi0:(0:Int)≤(i:Int):=by omega
    have u0:wr.cell? ⟨L,4+i,none⟩=some (.int .i64 (nth (nmI i) i)):=(cell_of HLR.out (4+i)).trans (lcs_at _ _ _ _ _ _ _ _ _ _ _ _ hlt)
    have uf:wr.frozen? ⟨L,4+i,none⟩=false:=frozen_of HLR.out (4+i)
    go_wp2_with fail
    go_roundw
    case rel=>
     refine⟨i+1,by omega,by go_num,?_,HKR.out.setCell _ _⟩
     rw[Ba.heap_setCell_same HLR.out,lcs_num _ _ _ _ _ _ _ _ _ _ _ _ i (-1) (nmI_len hi) hlt,nmI_step hlt]
    case measure=>simp[intOf];omega
   ·have hlt':¬((i:Int)<8):=by omega
    obtain rfl:i=8:=by omega
    obtain⟨col,hX,h7⟩:=new_lx NFF.out HLR.out (fun x h1 h2=>(HKR.out.block x (Nat.lt_of_lt_of_le h1 S6.out) h2).trans (K6.out x h1 h2)) (Nat.le_trans S6.out HKR.out.size) (U6.out.keep (fun x h1 h2=>HKR.out.block x (Nat.lt_of_le_of_lt h2 U6.out.lt) (by omega)) hC) hC
    have HX:=hide hX
    have H7:=hide h7
    have SP:=hide (Cr.spawn_any B (fun k=>k=B) [] 0 wr hX.cr)
    have y2:wr.cell? ⟨L,2,none⟩=some (.pointer (some ⟨B,0,none⟩)):=cell_of hX.hp 2
    have bw:Hid (Below w.heap.size w wr):=by
     have q:=NFF.out.ge
     have q2:=NFF.out.ne
     refine⟨HKR.out.os.trans O6.out.1,HKR.out.tape.trans O6.out.2.1,HKR.out.output.trans O6.out.2.2,?_,fun x hx=>?_⟩
     ·exact Nat.le_trans (Nat.le_trans NFF.out.bl.size S6.out) HKR.out.size
     ·have hxF:x<wF.heap.size:=Nat.lt_of_lt_of_le hx NFF.out.bl.size
      exact (HKR.out.block x (Nat.lt_of_lt_of_le hxF S6.out) (by omega)).trans ((K6.out x hxF (by omega)).trans (NFF.out.bl.block x hx))
    clear hX h7 K6 S6 U6 O6 L6
    go_wp2_with fail
    refine SP.out.mono ?_
    rintro r w8 ⟨rfl,p8⟩
    obtain⟨FB8,col8,h8,t8⟩:=HX.out.crew p8
    have H8:=hide h8
    have B8:Hid (Below w.heap.size w w8):=⟨t8.os.trans bw.out.os,t8.tape.trans bw.out.tape,t8.output.trans bw.out.output,Nat.le_trans bw.out.size t8.size,fun x hx=>(t8.block x (Nat.lt_of_lt_of_le hx bw.out.size) (by rw[H7.out x hx];omega)).trans (bw.out.block x hx)⟩
    have C8:Hid (∀x,x<w.heap.size→col8 x=7):=fun x hx=>(t8.old x (Nat.lt_of_lt_of_le hx bw.out.size)).trans (H7.out x hx)
    clear h8 t8 p8 SP
    go_wp2_with fail
    go_ret2
    exact⟨L,col8,rfl,H8.out.lw,C8.out,B8.out⟩
end Lo
namespace Lo
open Ba
theorem trace_any(L:Nat)(col:Nat→Nat)(s:Lm)(w:World)(h:LW w col L s)(hl:s.tr.length≤1000000):
 Calls Tryz.prog 18 #[.pointer (some ⟨L,0,none⟩)] w fun r w'=>∃ob d,r=.returned (.slice ob s.tr.length d)∧EsAt w' ob s.tr∧(s.tr.length≤d∧∀a,ob=some a→w.heap.size≤a.block)∧Below w.heap.size w w':=by
 obtain⟨N,C,B,X,FB,pa,pc,bs,Fs,ta,tc,h⟩:=h
 have y13:w.cell? ⟨L,13,none⟩=some (.slice ta s.tr.length tc):=cell_of h.hp 13
 obtain⟨ob,d,e,hE,-⟩:=own_es h.tr
 cases e
 have CE:=hide (clone_es ta s.tr tc w hE hl)
 clear h hE
 go_enter Tryz.func18,Tryz.ntmps18
 go_wp2_with fail
 refine CE.out.mono ?_
 rintro r w1 ⟨ob,d,rfl,e1,n1,b1⟩
 have E1:=hide e1
 have N1:=hide n1
 have B1:=hide b1
 clear e1 n1 b1
 go_wp2_with fail
 go_ret
 exact⟨ob,d,rfl,E1.out,N1.out,B1.out⟩
def runF(sc:Sh.Sc):Lm:=stepsF sc.pl.length (newS sc)
theorem steps_succ:∀(n:Nat) (s:Lm),stepsF (n+1) s=stepF (stepsF n s)
 |0,_=>rfl
 |n+1,s=>steps_succ n (stepF s)
theorem step_end{s:Lm}(h:verd s≠0):stepF s=s:=by
 unfold stepF
 rw[if_pos h]
theorem steps_end{s:Lm}(h:verd s≠0):∀n,stepsF n s=s
 |0=>rfl
 |n+1=>by rw[steps_succ,steps_end h n,step_end h]
theorem steps_add(m:Nat):∀(n:Nat) (s:Lm),stepsF (n+m) s=stepsF m (stepsF n s)
 |0,s=>by rw[Nat.zero_add];rfl
 |n+1,s=>by rw[Nat.add_right_comm];exact steps_add m n (stepF s)
theorem Inv.end_{sc:Sh.Sc}{n:Nat}{s:Lm}(i:Inv sc n s)(h:verd s=0):n<sc.pl.length:=by
 have hpl:s.p.length≠0:=fun z=>by
  unfold verd at h
  rw[if_pos z] at h
  split at h
  ·omega
  ·split at h<;>omega
 rw[i.p,List.length_drop] at hpl
 omega
theorem Inv.steps{sc:Sh.Sc}(hs:Sh.schk sc=0):∀n,∃k,k≤n∧Inv sc k (stepsF n (newS sc))∧(verd (stepsF n (newS sc))=0→k=n)
 |0=>⟨0,Nat.le_refl _,Inv.new hs,fun _=>rfl⟩
 |n+1=>by
  obtain⟨k,hk,i,he⟩:=Inv.steps hs n
  rw[steps_succ]
  by_cases hv:verd (stepsF n (newS sc))=0
  ·obtain rfl:=he hv
   exact⟨k+1,Nat.le_refl _,i.step hs hv,fun _=>rfl⟩
  ·rw[step_end hv]
   exact⟨k,by omega,i,fun h=>absurd h hv⟩
theorem run_over{sc:Sh.Sc}(hs:Sh.schk sc=0):verd (runF sc)≠0:=by
 intro h
 obtain⟨k,-,i,he⟩:=Inv.steps hs sc.pl.length
 have:=he h
 have:=i.end_ h
 omega
theorem run_at{sc:Sh.Sc}{n:Nat}(hn:n≤sc.pl.length)(h:verd (stepsF n (newS sc))≠0):runF sc=stepsF n (newS sc):=by
 unfold runF
 obtain⟨m,e⟩:∃m,sc.pl.length=n+m:=⟨sc.pl.length - n,by omega⟩
 rw[e,steps_add,steps_end h]
set_option maxRecDepth 100000 in
theorem run_no(T M:Int)(ps:List (List OpD))(pl dr:List Int)(pa la da:Option Addr)(pc lc dc:Nat)(w:World)(hS:Sh.SAt w ⟨T,M,ps,pl,dr⟩ pa la da)(hx:Sh.schk ⟨T,M,ps,pl,dr⟩≠0):
 Calls Tryz.prog 7 #[.agg #[.int .i64 T,.int .i64 M,.slice pa ps.length pc,.slice la pl.length lc,.slice da dr.length dc]] w fun r w'=>r=.returned (.tuple #[.slice none 0 0,.int .i64 0])∧Below w.heap.size w w':=by
 have NE:=hide (new_err T M ps pl dr pa la da pc lc dc (w.alloc (.cells #[.int .i64 T,.int .i64 M,.slice pa ps.length pc,.slice la pl.length lc,.slice da dr.length dc] 25)) (hS.below (below_alloc _ _)) _ rfl hx)
 generalize Sh.schk ⟨T,M,ps,pl,dr⟩=x at NE hx
 have hx':(x !=0)=true:=by simp[hx]
 clear hS
 go_enter Tryz.func7,Tryz.ntmps7
 go_wp2_with fail
 refine NE.out.mono ?_
 rintro r w1 ⟨rfl,b1⟩
 have B1:=hide (btr (below_alloc w (.cells #[.int .i64 T,.int .i64 M,.slice pa ps.length pc,.slice la pl.length lc,.slice da dr.length dc] 25)) b1)
 clear b1
 go_wp2_with fail
 go_ret2
 exact⟨rfl,B1.out⟩
set_option maxRecDepth 100000 in
theorem run_yes(T M:Int)(ps:List (List OpD))(pl dr:List Int)(pa la da:Option Addr)(pc lc dc:Nat)(w:World)(hS:Sh.SAt w ⟨T,M,ps,pl,dr⟩ pa la da)(hx:Sh.schk ⟨T,M,ps,pl,dr⟩=0)(R:Lm)(hR:runF ⟨T,M,ps,pl,dr⟩=R):
 Calls Tryz.prog 7 #[.agg #[.int .i64 T,.int .i64 M,.slice pa ps.length pc,.slice la pl.length lc,.slice da dr.length dc]] w fun r w'=>∃ob d,r=.returned (.tuple #[.slice ob R.tr.length d,.int .i64 (verd R)])∧EsAt w' ob R.tr∧(R.tr.length≤d∧∀a,ob=some a→w.heap.size≤a.block)∧Below w.heap.size w w':=by
 have NE:=hide (new_yes T M ps pl dr pa la da pc lc dc (w.alloc (.cells #[.int .i64 T,.int .i64 M,.slice pa ps.length pc,.slice la pl.length lc,.slice da dr.length dc] 25)) (hS.below (below_alloc _ _)) hx)
 have HR:=hide hR
 have hro:=run_over hx
 rw[hR] at hro
 generalize hsc:(⟨T,M,ps,pl,dr⟩:Sh.Sc)=sc at*
 have hpl:sc.pl=pl:=by rw[←hsc]
 clear hS hR
 go_enter Tryz.func7,Tryz.ntmps7
 go_wp2_with fail
 refine NE.out.mono ?_
 rintro r w1 ⟨L,col,rfl,h1,h7,b1⟩
 have H1:=hide h1
 have H7:Hid (∀x,x<w.heap.size→col x=7):=fun x hx=>h7 x (Nat.lt_of_lt_of_le hx (below_alloc w (.cells #[.int .i64 T,.int .i64 M,.slice pa ps.length pc,.slice la pl.length lc,.slice da dr.length dc] 25)).size)
 have B1:=hide (btr (below_alloc w (.cells #[.int .i64 T,.int .i64 M,.slice pa ps.length pc,.slice la pl.length lc,.slice da dr.length dc] 25)) b1)
 clear h1 h7 b1 NE
 go_wp2_with fail
 go_loopg [13] sc.pl.length (fun k _ wr=>∃(n:Nat) (cj:Nat→Nat),k+n=sc.pl.length∧LW wr cj L (stepsF n (newS sc))∧Inv sc n (stepsF n (newS sc))∧Tr col cj w1 wr)
 case atStart=>exact⟨0,col,rfl,H1.out,Inv.new hx,Tr.refl _ _⟩
 case round=>
  obtain⟨n,cj,hkn,hlw,hinv,htr⟩:=hrel
  have HL:=hide hlw
  have HI:=hide hinv
  have HT:=hide htr
  have RA:=hide (run_at (sc:=sc) (n:=n) (by omega))
  have SS:=hide (steps_succ n (newS sc))
  clear hlw hinv htr H1
  generalize stepsF n (newS sc)=s at*
  have VE:=hide (fun u c (q:LW u c L s)=>verdict_any L c s _ u q HI.out.b.bw.cb)
  by_cases hv:verd s=0
  ·rw[hv] at VE
   go_wp2_with fail
   refine (VE.out _ cj HL.out).mono ?_
   rintro r w2 ⟨rfl,b2⟩
   obtain⟨c2,h2,t2,-⟩:=HL.out.below b2
   have ST:=hide (step_any L c2 sc n s w2 h2 hx HI.out hv)
   have T2:=hide (HT.out.trans t2)
   clear b2 h2 t2
   go_wp2_with fail
   refine ST.out.mono ?_
   rintro r w3 ⟨ob,d,rfl,-,c3,h3,t3⟩
   have H3:Hid (LW w3 c3 L (stepsF (n+1) (newS sc))):=by rw[SS.out];exact h3
   have I3:Hid (Inv sc (n+1) (stepsF (n+1) (newS sc))):=by rw[SS.out];exact HI.out.step hx hv
   have T3:=hide (T2.out.trans t3)
   have hlt:=HI.out.end_ hv
   clear h3 t3 ST
   go_wp2_with fail
   go_roundg (gk - 1)
   case rel=>exact⟨n+1,c3,by omega,H3.out,I3.out,T3.out⟩
   case measure=>omega
  ·have hRs:R=s:=by rw[←HR.out];exact RA.out hv
   subst hRs
   have VE0:=hide (VE.out _ cj HL.out)
   have hvv:(verd R==0)=false:=by simp[hv]
   have hK:=kn_le (HI.out.n200 hx)
   have htn:=HI.out.b.bw.tn
   generalize hV:verd R=V at*
   go_wp2_with fail
   refine VE0.out.mono ?_
   rintro r w2 ⟨rfl,b2⟩
   obtain⟨c2,h2,t2,-⟩:=HL.out.below b2
   have TA:=hide (trace_any L c2 R w2 h2 (by omega))
   have H2:=hide h2
   have BB:Hid (Below w.heap.size w w2):=by
    have q:=HT.out.trans t2
    exact⟨q.os.trans B1.out.os,q.tape.trans B1.out.tape,q.output.trans B1.out.output,Nat.le_trans B1.out.size q.size,fun x hx=>(q.block x (Nat.lt_of_lt_of_le hx B1.out.size) (by rw[H7.out x hx];omega)).trans (B1.out.block x hx)⟩
   clear b2 h2 t2 VE0
   go_wp2_with fail
   refine TA.out.mono ?_
   rintro r w3 ⟨ob,d,rfl,e3,n3,b3⟩
   obtain⟨c3,h3,-,-⟩:=H2.out.below b3
   have VE3:=hide (VE.out w3 c3 h3)
   have E3:=hide e3
   have N3:Hid (R.tr.length≤d∧∀a,ob=some a→w.heap.size≤a.block):=⟨n3.1,fun a e=>Nat.le_trans BB.out.size (n3.2 a e)⟩
   have B3:=hide (btr BB.out b3)
   clear e3 n3 b3 h3 TA VE
   go_wp2_with fail
   refine VE3.out.mono ?_
   rintro r w4 ⟨rfl,b4⟩
   have B4:=hide (btr B3.out b4)
   have E4:=hide (E3.out.below b4)
   clear b4 VE3
   go_wp2_with fail
   go_ret2
   exact⟨ob,d,by (rw[hV])<;>rfl,E4.out,N3.out,B4.out⟩
end Lo
end Go.Proofs.YtogkjaekfhjelaaGreat
