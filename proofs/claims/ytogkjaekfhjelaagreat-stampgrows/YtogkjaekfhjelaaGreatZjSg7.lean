import Derived.Test.YtogkjaekfhjelaaGreatZjSg1
import Derived.Test.YtogkjaekfhjelaaGreatZjSg5
import Derived.Test.YtogkjaekfhjelaaGreatZjSg6
import Derived.Deep.RegionHeld3
set_option maxHeartbeats 12800000
namespace Go.Proofs.YtogkjaekfhjelaaGreat
open Go.ChangeShapes Go.WideShapes Go.ChangeAt Go.RowKit
namespace Lo
open Ba
theorem ca_at{w:World}{oc:Option Addr}{cs:List De.Cs}(h:De.CAt w oc cs):Fk.CaAt w oc (cs.map cav):=by
 intro k x hk
 rw[List.getElem?_map] at hk
 cases h1:cs[k]? with
 |none=>rw[h1] at hk;cases hk
 |some c=>
  rw[h1] at hk
  cases hk
  exact h k c h1
theorem Tr.cell{col col':Nat→Nat}{w w':World}(t:Tr col col' w w'){b i:Nat}{v:Value}(h:w.cell? ⟨b,i,none⟩=some v)(hc:col b=7):w'.cell? ⟨b,i,none⟩=some v:=by
 have:=t.block b (World.block_lt_of_cell? w _ h) (by omega)
 rw[←h]
 simp only[World.cell?,this]
theorem Ok.draw{K:Nat}{s:Lm}(h:Ok K s)(n:Int):Ok K {s with d:=Pk.dr s.d n}:=⟨h.cb,h.tn,h.sm,h.wl,h.md,fun x hx=>h.dd x (Pk.dr_sub hx)⟩
theorem dv_nat{d:List Int}{n:Nat}(hd:∀x∈d,0≤x)(h0:0<n)(h4:n≤4):∃i:Nat,Pk.dv d (n:Int)=(i:Int)∧i<n:=by
 unfold Pk.dv
 rw[if_neg (by omega)]
 by_cases h1:(n:Int)=1
 ·rw[if_pos h1]
  exact⟨0,rfl,h0⟩
 ·rw[if_neg h1]
  have hn:(0:Int)<n:=by omega
  have hx:0≤nth d 0:=by
   cases d with
   |nil=>simp[nth]
   |cons x d=>exact hd x (by simp)
  refine⟨(nth d 0 % (n:Int)).toNat,?_,?_⟩
  ·have:=Int.emod_nonneg (nth d 0) (by omega:(n:Int)≠0)
   omega
  ·have:=Int.emod_lt_of_pos (nth d 0) hn
   have:=Int.emod_nonneg (nth d 0) (by omega:(n:Int)≠0)
   omega
set_option maxRecDepth 100000 in
theorem choose_any(L:Nat)(col:Nat→Nat)(s:Lm)(K:Nat)(g:Int)(ok_ oa_ ob_:Int)(cs:List De.Cs)(df:Bool)(oc:Option Addr)(cc:Nat)(w:World)(h:LW w col L s)(ok:Ok K s)(hK:K≤99000)
 (hC:De.CAt w oc cs) (hCc:0<cs.length→∀a,oc=some a→col a.block=7) (h4:cs.length≤4) (hcs:∀c∈cs,0≤c.ch∧c.ch≤7):
 Calls Tryz.prog 73 #[.pointer (some ⟨L,0,none⟩),.int .i64 g,.agg #[.int .i64 ok_,.int .i64 oa_,.int .i64 ob_,.slice oc cs.length cc,.bool df]] w fun r w'=>r=.returned (.bool (chooseF s g ⟨ok_,oa_,ob_,cs,df⟩).fine)∧∃col',LW w' col' L (chooseF s g ⟨ok_,oa_,ob_,cs,df⟩).s∧Tr col col' w w':=by
 obtain⟨N,C,B,X,FB,pa,pc,bs,Fs,ta,tc,h⟩:=h
 obtain⟨col1,h1,t1,n1⟩:=h.below (btr (below_alloc w (.cells #[.int .i64 ok_,.int .i64 oa_,.int .i64 ob_,.slice oc cs.length cc,.bool df] 46)) (bdrew1 _))
 have T1:=hide t1
 have H1:=hide h1
 have E1:=hide (heap_below (heap_new w (.cells #[.int .i64 ok_,.int .i64 oa_,.int .i64 ob_,.slice oc cs.length cc,.bool df] 46)) (bdrew1 _))
 have N1:=hide (n1 w.heap.size (Nat.le_refl _))
 have y3:w.cell? ⟨L,3,none⟩=some (.slice (some ⟨X,0,none⟩) 8 8):=cell_of h.hp 3
 have hL:=h.lt
 have C1:=hide (hC.below (btr (below_alloc w (.cells #[.int .i64 ok_,.int .i64 oa_,.int .i64 ob_,.slice oc cs.length cc,.bool df] 46)) (bdrew1 _)))
 have D1:Hid (0<cs.length→∀a,oc=some a→col1 a.block=7):=fun h0 a e=>by
  obtain⟨b,off,e2,hc,_⟩:=hC 0 cs[0] (List.getElem?_eq_getElem h0)
  rw[e] at e2
  cases e2
  exact (t1.old b (World.block_lt_of_cell? w _ hc)).trans (hCc h0 _ e)
 have hm:(cs.map cav).length=cs.length:=List.length_map _
 have RD:=hide (Fk.fready_any oc (cs.map cav) cc (some ⟨X,0,none⟩) bs 8 Fs s.sts ((w.alloc (.cells #[.int .i64 ok_,.int .i64 oa_,.int .i64 ob_,.slice oc cs.length cc,.bool df] 46)).drew) (ca_at C1.out) h1.qs (by rw[hm];omega))
 rw[h.bl,hm] at RD
 have OK:=hide ok
 have HCS:=hide hcs
 obtain⟨R,hR⟩:∃R,chooseF s g ⟨ok_,oa_,ob_,cs,df⟩=R:=⟨_,rfl⟩
 rw[hR]
 unfold chooseF cas at hR
 simp only at hR
 have RM:Hid (∀k,k<(Fk.rdyL (cs.map cav) s.sts).length→∃p:Nat,nth (Fk.rdyL (cs.map cav) s.sts) k=(p:Int)∧p<cs.length):=fun k hk=>by
  obtain⟨p,e,hl,_⟩:=Fk.ps_mem hk
  exact⟨p,e,by rw[List.length_map] at hl;exact hl⟩
 have RL:Hid ((Fk.rdyL (cs.map cav) s.sts).length≤4):=Nat.le_trans (Fk.ps_len _ _) (by rw[hm];exact h4)
 have PK:=hide (fun u (q:Fk.Qs _root_.Go.Proofs.YtogkjaekfhjelaaGreat.Pi.Pp u (some ⟨X,0,none⟩) bs Fs s.sts) (hc:De.CAt u oc cs) (hcn:0<cs.length→∀a,oc=some a→¬Fk.All Fs a.block)=>Fk.park_any g oc (cs.map cav) cc (some ⟨X,0,none⟩) bs 8 Fs s.sts u (ca_at hc) (by rw[hm];exact hcn) q ok.wl)
 rw[h.bl,hm] at PK
 generalize Fk.rdyL (cs.map cav) s.sts=rd at RD hR RM RL
 have HR:=hide hR
 clear h t1 h1 n1 ok hR hcs hC hCc
 go_enter Tryz.func73,Tryz.ntmps73
 go_wp2_with fail
 go_region_held3 (fun w'=>w'.cell? ⟨w.heap.size,3,none⟩=some (.slice oc cs.length cc)∧w'.cell? ⟨L,3,none⟩=some (.slice (some ⟨X,0,none⟩) 8 8))
  (first|(go_keep;done)|exact⟨z3,z4⟩)
  (first|(go_at_call 108;refine RD.out.mono ?_;rintro r w2 ⟨ob,d,rfl,ow2,b2⟩;have z3:w2.cell? ⟨w.heap.size,3,none⟩=some (.slice oc cs.length cc):=cell_of (heap_below E1.out b2) 3;have z4:w2.cell? ⟨L,3,none⟩=some (.slice (some ⟨X,0,none⟩) 8 8):=cell_of (heap_below H1.out.hp b2) 3))
 have AT:∀k,k<rd.length→∃b off,ob=some ⟨b,off,none⟩∧w2.cell? ⟨b,off+k,none⟩=some (.int .i64 (nth rd k))∧(w.alloc (.cells #[.int .i64 ok_,.int .i64 oa_,.int .i64 ob_,.slice oc cs.length cc,.bool df] 46)).drew.heap.size≤b:=fun k hk=>by
  obtain⟨oa',c',e,hA,_⟩:=Rp.own_at ow2
  cases e
  obtain⟨b,off,e2,hc⟩:=hA k hk
  subst e2
  refine⟨b,off,rfl,hc,?_⟩
  exact (ow2.lt b rfl).1
 obtain⟨col2,h2,t2,n2⟩:=H1.out.below b2
 have T2:=hide (T1.out.trans t2)
 have H2:=hide h2
 have E2:=hide (heap_below E1.out b2)
 have N2:Hid (col2 w.heap.size=7):=(t2.old _ (heap_lt E1.out)).trans N1.out
 have NN:=hide n2
 have C2:=hide (C1.out.below b2)
 have D2:Hid (0<cs.length→∀a,oc=some a→col2 a.block=7):=fun h0 a e=>by
  obtain⟨b,off,e2,hc,_⟩:=C1.out 0 cs[0] (List.getElem?_eq_getElem h0)
  rw[e] at e2
  cases e2
  exact (t2.old b (World.block_lt_of_cell? _ _ hc)).trans (D1.out h0 _ e)
 have hL2:=h2.lt
 have hE2:=heap_lt E2.out
 clear h2 t2 n2 b2 ow2 T1 H1 E1 N1 C1 D1 RD y3
 rcases Nat.eq_zero_or_pos rd.length with hn|hn
 ·have hR:=HR.out
  rw[if_neg (by omega)] at hR
  rw[hn]
  cases df
  ·simp only[Bool.false_eq_true,if_false] at hR
   have HR2:=hide hR
   obtain⟨col3,h3,t3,n3⟩:=H2.out.below (bdrew1 w2)
   have hCn:0<cs.length→∀a,oc=some a→¬Fk.All Fs a.block:=fun h0 a e hf=>by
    obtain⟨i,hf⟩:=hf
    have h1:=D2.out h0 a e
    rw[H2.out.c4 i _ hf] at h1
    omega
   have PA:=hide (PK.out w2.drew h3.qs (C2.out.below (bdrew1 _)) hCn)
   have T3:=hide (T2.out.trans t3)
   have H3:=hide h3
   have E3:=hide (heap_below E2.out (bdrew1 _))
   have N3:Hid (col3 w.heap.size=7):=(t3.old _ hE2).trans N2.out
   have e4:w2.cell? ⟨w.heap.size,4,none⟩=some (.bool false):=cell_of E2.out 4
   clear HR hR h3 t3 n3 H2 T2 NN AT RM RL PK
   go_wp2_with fail
   go_region_held3 (fun w'=>w'.cell? ⟨w.heap.size,3,none⟩=some (.slice oc cs.length cc)∧w'.cell? ⟨L,3,none⟩=some (.slice (some ⟨X,0,none⟩) 8 8))
    (first|(go_keep;done)|exact⟨x3,x4⟩)
    (first|(go_at_call 110;refine PA.out.mono ?_;rintro r w4 ⟨rfl,p4⟩;obtain⟨Fs4,col4,h4',t4⟩:=H3.out.pipes p4;have x3:w4.cell? ⟨w.heap.size,3,none⟩=some (.slice oc cs.length cc):=cell_of (t4.heap E3.out N3.out) 3;have x4:w4.cell? ⟨L,3,none⟩=some (.slice (some ⟨X,0,none⟩) 8 8):=cell_of h4'.hp 3))
   have T4:=hide (T3.out.trans t4)
   have H4:=hide h4'
   have E4:=hide (t4.heap E3.out N3.out)
   have N4:Hid (col4 w.heap.size=7):=(t4.old _ (heap_lt E3.out)).trans N3.out
   have hE4:=heap_lt E4.out
   clear h4' t4 p4 PA H3 T3 E3 N3 x3 x4 e4 z3 z4 C2 D2 E2 N2
   go_wp2_with fail
   refine (En.bare_any 6 g _).mono ?_
   rintro r w5 ⟨rfl,b5⟩
   obtain⟨col6,h6,t6,n6⟩:=H4.out.below (btr b5 (below_alloc w5 (.cells #[.int .i64 6,.int .i64 g,.int .i64 (-1),.int .i64 (cs.length:Int),.int .i64 0,.int .i64 (-1),.bool false,.bool false] 40)))
   have s5:=b5.size
   have hE5:w.heap.size<w5.heap.size:=by omega
   have T6:=hide (T4.out.trans t6)
   have H6:=hide h6
   have o3:w5.cell? ⟨w.heap.size,3,none⟩=some (.slice oc cs.length cc):=cell_of (heap_below E4.out b5) 3
   have WA:=hide (waits_any L col6 _ K (⟨6,g,-1,(cs.length:Int),0,-1,false,false⟩:Ev) _ H6.out.lw OK.out.cb (by omega) (by have:=OK.out.tn;show s.tr.length≤_;omega))
   unfold En.evv En.evc at WA
   clear h6 t6 n6 H4 T4 E4 N4
   go_wp2_with fail
   refine WA.out.mono ?_
   rintro r w8 ⟨rfl,col8,h8,t8⟩
   have H8:=hide h8
   have T8:=hide (T6.out.trans t8)
   clear h8 t8 WA
   go_wp2_with fail
   have hR:=HR2.out
   subst hR
   go_ret
   exact⟨rfl,col8,H8.out,T8.out⟩
  ·simp only[if_true] at hR
   have HR2:=hide hR
   have e4:w2.cell? ⟨w.heap.size,4,none⟩=some (.bool true):=cell_of E2.out 4
   clear HR hR NN AT RM RL PK C2 D2
   go_wp2_with fail
   refine (En.bare_any 8 g _).mono ?_
   rintro r w5 ⟨rfl,b5⟩
   obtain⟨col6,h6,t6,n6⟩:=H2.out.below b5
   have T6:=hide (T2.out.trans t6)
   have GO:=hide (goes_any L col6 _ K (bareE 8 g) _ h6.lw OK.out.cb (by omega) (by have:=OK.out.tn;omega))
   unfold En.evv En.evc bareE at GO
   clear h6 t6 n6 b5
   go_wp2_with fail
   refine GO.out.mono ?_
   rintro r w8 ⟨rfl,col8,h8,t8⟩
   have H8:=hide h8
   have T8:=hide (T6.out.trans t8)
   clear h8 t8 GO
   go_wp2_with fail
   have hR:=HR2.out
   subst hR
   go_ret
   exact⟨rfl,col8,H8.out,T8.out⟩
 ·have hR:=HR.out
  rw[if_pos hn] at hR
  obtain⟨n,hnn⟩:∃n,rd.length=n:=⟨_,rfl⟩
  rw[hnn] at hR hn AT RM RL ⊢
  have hn4:n≤4:=RL.out
  obtain⟨i,hi,hin⟩:=dv_nat (n:=n) OK.out.dd hn hn4
  rw[hi,Int.toNat_natCast] at hR
  obtain⟨p,hp,hpl⟩:=RM.out i hin
  rw[hp] at hR
  obtain⟨c,hcx⟩:∃c,cs[p]? =some c:=⟨_,List.getElem?_eq_getElem hpl⟩
  have hcm:c∈cs:=List.mem_of_getElem? hcx
  obtain⟨hc0,hc7⟩:=HCS.out c hcm
  obtain⟨kc,hkc⟩:∃kc:Nat,c.ch=(kc:Int):=⟨c.ch.toNat,by omega⟩
  have hk8:kc<8:=by omega
  have hca:caseAt ⟨ok_,oa_,ob_,cs,df⟩ (p:Int)=⟨c.send,(kc:Int),c.val⟩:=by
   unfold caseAt cas
   rw[Int.toNat_natCast,List.getElem?_map,hcx]
   simp[cav,hkc]
  rw[hca] at hR
  obtain⟨rb,ro,hob,hrc,hrb⟩:=AT i hin
  subst hob
  rw[hp] at hrc
  obtain⟨cb,co,hoc,k0,k1,k2⟩:=C2.out p c hcx
  subst hoc
  rw[hkc] at k1
  have hcb:col2 cb=7:=D2.out (by omega) _ rfl
  have hrb7:col2 rb=7:=NN.out rb hrb
  have DW:=hide (Lk.draw_cu N C s.p s.d (n:Int) w2 H2.out.cu OK.out.dd)
  rw[hi] at DW
  have y1:w2.cell? ⟨L,1,none⟩=some (.pointer (some ⟨C,0,none⟩)):=cell_of H2.out.hp 1
  have HR2:=hide hR
  clear HR hR AT RM RL NN hca hp HCS PK hrb
  have hnI:(0:Int)<(n:Int):=by omega
  go_wp2_with fail
  refine DW.out.mono ?_
  rintro r w3 ⟨rfl,cu3,kb3⟩
  obtain⟨col3,h3,t3⟩:=H2.out.cursor cu3 kb3
  have T3:=hide (T2.out.trans t3)
  have H3:=hide h3
  have m0:w3.cell? ⟨rb,ro+i,none⟩=some (.int .i64 (p:Int)):=t3.cell hrc hrb7
  have m1:w3.cell? ⟨cb,co+p*3,none⟩=some (.bool c.send):=t3.cell k0 hcb
  have m2:w3.cell? ⟨cb,co+p*3+1,none⟩=some (.int .i64 (kc:Int)):=t3.cell k1 hcb
  have m3:w3.cell? ⟨cb,co+p*3+2,none⟩=some (.int .i64 c.val):=t3.cell k2 hcb
  have m4:w3.cell? ⟨w.heap.size,3,none⟩=some (.slice (some ⟨cb,co,none⟩) cs.length cc):=t3.cell (cell_of E2.out 3) N2.out
  have a0:col3 rb=7:=(t3.old rb (World.block_lt_of_cell? _ _ hrc)).trans hrb7
  have a1:col3 w.heap.size=7:=(t3.old _ hE2).trans N2.out
  have a2:col3 cb=7:=(t3.old cb (World.block_lt_of_cell? _ _ k0)).trans hcb
  have TY:=hide (try_any L col3 _ K g (p:Int) c.send kc c.val w3.drew h3.drew.lw (OK.out.draw n) hK hk8)
  clear cu3 kb3 h3 t3 H2 T2 hrc k0 k1 k2 E2 N2 z3 z4 C2 D2 DW y1
  have i0:(0:Int)≤(i:Int):=by omega
  have i1:(i:Int)<(n:Int):=by omega
  have p0:(0:Int)≤(p:Int):=by omega
  have p1:(p:Int)<(cs.length:Int):=by omega
  go_wp2_with fail
  go_region_held3 (fun w'=>w'.cell? ⟨rb,ro+i,none⟩=some (.int .i64 (p:Int))∧w'.cell? ⟨w.heap.size,3,none⟩=some (.slice (some ⟨cb,co,none⟩) cs.length cc)∧w'.cell? ⟨cb,co+p*3,none⟩=some (.bool c.send)∧w'.cell? ⟨cb,co+p*3+1,none⟩=some (.int .i64 (kc:Int))∧w'.cell? ⟨cb,co+p*3+2,none⟩=some (.int .i64 c.val))
   (first|(go_keep;done)|exact⟨t4.cell m0 a0,t4.cell m4 a1,t4.cell m1 a2,t4.cell m2 a2,t4.cell m3 a2⟩)
   (first|(go_at_call 102;refine TY.out.mono ?_;rintro r w4 ⟨rfl,col4,h4',t4⟩))
  have T4:=hide (T3.out.trans (Tr.trans (Tr.refl col3 w3).drew t4))
  have H4:=hide h4'
  clear h4' t4 TY
  go_wp2_with fail
  have hR:=HR2.out
  subst hR
  go_ret
  exact⟨rfl,col4,H4.out,T4.out⟩
end Lo
end Go.Proofs.YtogkjaekfhjelaaGreat
namespace Go.Proofs.YtogkjaekfhjelaaGreat
namespace Lo
open Ba
theorem op_ok{o:OpD}{n:Int}(h:De.chk o n=0):(1≤n∧n≤8)∧(1≤o.kind∧o.kind≤9)∧o.cases.length≤4∧(0≤o.a∧o.a≤De.mA o.kind n)∧(0≤o.b∧o.b≤De.mB o.kind)∧(o.kind≠6→o.def_=false∧o.cases.length=0)∧∀c∈o.cases,(0≤c.ch∧c.ch≤7)∧0≤c.val∧c.val≤99:=by
 unfold De.chk at h
 split at h
 ·omega
 ·rename_i h1
  split at h
  ·omega
  ·rename_i h2
   split at h
   ·omega
   ·rename_i h3
    split at h
    ·omega
    ·rename_i h4
     split at h
     ·rename_i h5
      simp only[De.okP,De.upB,Bool.not_eq_false,Bool.and_eq_true,decide_eq_true_eq] at h1 h3
      refine⟨h1.1,h1.2,by omega,h3.1,h3.2,fun hk=>?_,fun c hc=>?_⟩
      ·have h6:(o.def_||decide (0<o.cases.length))≠true:=fun e=>h4 ⟨hk,e⟩
       simp at h6
       exact⟨h6.1,by simp[h6.2]⟩
      ·have:=List.all_eq_true.1 h5 c hc
       simp only[De.okC,De.upB,Bool.and_eq_true,decide_eq_true_eq] at this
       refine⟨this.1,this.2.1,?_⟩
       have h7:=this.2.2
       cases hs:c.send<;>rw[hs] at h7<;>simp only[cond_true,cond_false] at h7<;>omega
     ·omega
def SB(n m:Nat)(sts:List (Option St)):Prop:=∀(i:Nat) (st:St),sts[i]? =some (some st)→(st.sent≤n∧st.got≤n)∧st.snd.length≤m∧st.rcv.length≤m
theorem SB.mono{n m n' m':Nat}{sts:List (Option St)}(h:SB n m sts)(h1:n≤n')(h2:m≤m'):SB n' m' sts:=fun i st e=>by
 have:=h i st e
 omega
theorem SB.set{n m k:Nat}{sts:List (Option St)}{v:St}(h:SB n m sts)(hv:(v.sent≤n∧v.got≤n)∧v.snd.length≤m∧v.rcv.length≤m):SB n m (sts.set k (some v)):=by
 intro i st e
 rw[List.getElem?_set] at e
 split at e
 ·split at e
  ·simp at e
   subst e
   exact hv
  ·cases e
 ·exact h i st e
theorem SB.nm{n m:Nat}{sts:List (Option St)}(h:SB n m sts){c:Int}{st:St}(e:Fk.nmB sts c=some st):(st.sent≤n∧st.got≤n)∧st.snd.length≤m∧st.rcv.length≤m:=h _ st (Fk.nmB_at e)
theorem dr_le(g:Int)(l:List Wt):(Pe.dr g l).length≤l.length:=by
 unfold Pe.dr
 exact List.length_filter_le _ _
theorem al_le(l:List Wt)(x:Wt):(Pe.al l x).length≤l.length+1:=by
 unfold Pe.al
 split
 ·split
  ·omega
  ·simp
 ·omega
theorem SB.send{n m:Nat}{st:St}(x:Int)(h:(st.sent≤n∧st.got≤n)∧st.snd.length≤m∧st.rcv.length≤m):let v:=_root_.Go.Proofs.YtogkjaekfhjelaaGreat.Pi.sendS st x;(v.sent≤n+1∧v.got≤n+1)∧v.snd.length≤m∧v.rcv.length≤m:=by
 intro v
 simp only[v,_root_.Go.Proofs.YtogkjaekfhjelaaGreat.Pi.sendS]
 split
 ·omega
 ·split
  ·rename_i e
   rw[e] at h
   simp at h ⊢
   omega
  ·rename_i e
   split
   ·rw[e] at h
    refine⟨?_,?_⟩
    ·simp only
     omega
    ·simp only
     rw[e]
     exact h.2
   ·omega
theorem SB.recv{n m:Nat}{st:St}(h:(st.sent≤n∧st.got≤n)∧st.snd.length≤m∧st.rcv.length≤m):let v:=_root_.Go.Proofs.YtogkjaekfhjelaaGreat.Pi.recvS st;(v.sent≤n+1∧v.got≤n+1)∧v.snd.length≤m∧v.rcv.length≤m:=by
 intro v
 simp only[v,_root_.Go.Proofs.YtogkjaekfhjelaaGreat.Pi.recvS]
 split
 ·omega
 ·rename_i e1 e2
  rw[e2] at h
  simp at h ⊢
  omega
 ·simp
  omega
 ·rename_i e1 e2
  rw[e2] at h
  simp at h ⊢
  omega
theorem SB.try{n m:Nat}{sts:List (Option St)}(h:SB n m sts)(c:Ca):SB (n+1) m (Fk.tryS sts c):=by
 unfold Fk.tryS
 split
 ·exact h.mono (by omega) (Nat.le_refl _)
 ·rename_i st e
  refine (h.mono (Nat.le_succ n) (Nat.le_refl _)).set ?_
  cases c.sd
  ·exact SB.recv (h.nm e)
  ·exact SB.send _ (h.nm e)
theorem SB.waitS{n m:Nat}{st:St}(send:Bool)(x:Wt)(h:(st.sent≤n∧st.got≤n)∧st.snd.length≤m∧st.rcv.length≤m):let v:=_root_.Go.Proofs.YtogkjaekfhjelaaGreat.Pi.waitS st send x;(v.sent≤n∧v.got≤n)∧v.snd.length≤m+1∧v.rcv.length≤m+1:=by
 intro v
 simp only[v,_root_.Go.Proofs.YtogkjaekfhjelaaGreat.Pi.waitS]
 split
 ·omega
 ·split
  ·have:=al_le st.snd x
   simp only
   omega
  ·have:=al_le st.rcv x
   simp only
   omega
theorem SB.wait1{n m:Nat}{sts:List (Option St)}(h:SB n m sts)(c:Ca)(g:Int):SB n (m+1) (Lo.waitN sts c g):=by
 unfold Lo.waitN
 split
 ·exact h.mono (Nat.le_refl _) (by omega)
 ·rename_i st e
  exact (h.mono (Nat.le_refl _) (Nat.le_succ m)).set (SB.waitS _ _ (h.nm e))
theorem SB.leave{n m:Nat}{sts:List (Option St)}(h:SB n m sts)(g:Int):SB n m (Fk.leaveS g sts):=by
 intro i st e
 unfold Fk.leaveS at e
 rw[List.getElem?_map] at e
 cases h1:sts[i]? with
 |none=>rw[h1] at e;cases e
 |some o=>
  rw[h1] at e
  cases o with
  |none=>simp[Fk.dropO] at e
  |some st1=>
   simp[Fk.dropO] at e
   subst e
   have:=h i st1 h1
   have:=dr_le g st1.snd
   have:=dr_le g st1.rcv
   simp only[_root_.Go.Proofs.YtogkjaekfhjelaaGreat.Pi.dropS]
   omega
theorem SB.pkS{n m:Nat}{sts:List (Option St)}(h:SB n m sts)(g:Int)(l:List Ca):∀k,SB n (m+k) (Fk.pkS g l sts k)
 |0=>h
 |k+1=>by
  have ih:=SB.pkS h g l k
  unfold Fk.pkS
  split
  ·exact ih.mono (Nat.le_refl _) (by omega)
  ·unfold Fk.pk1
   split
   ·exact ih.mono (Nat.le_refl _) (by omega)
   ·rename_i st e
    exact (ih.mono (Nat.le_refl _) (Nat.le_succ _)).set (SB.waitS _ _ (ih.nm e))
theorem SB.pkA{n m:Nat}{sts:List (Option St)}(h:SB n m sts)(g:Int)(l:List Ca)(hl:l.length≤4):SB n (m+4) (Fk.pkA g l sts):=by
 unfold Fk.pkA
 split
 ·exact h.mono (Nat.le_refl _) (by omega)
 ·split
  ·exact h.mono (Nat.le_refl _) (by omega)
  ·exact (SB.pkS h g l _).mono (Nat.le_refl _) (by omega)
end Lo
open Go.ChangeShapes Go.WideShapes Go.ChangeAt Go.RowKit
namespace Lo
open Ba
section
variable {w w':World}{col:Nat→Nat}{L N C B X:Nat}{FB:Nat→Prop}{pa:Option Addr}{pc:Nat}{bs:List (Option Nat)}{Fs:Nat→Nat→Prop}{ta:Option Addr}{tc:Nat}{s:Lm}
theorem LX.pipes3{sts:List (Option St)}{Fs':Nat→Nat→Prop}(h:LX w col L N C B X FB pa pc bs Fs ta tc s)(nw:Fk.NwA Fs' Fs w)(q:Fk.Qs _root_.Go.Proofs.YtogkjaekfhjelaaGreat.Pi.Pp w' (some ⟨X,0,none⟩) bs Fs' sts)(kf:KF (Fk.All Fs) w w'):
 ∃col',LX w' col' L N C B X FB pa pc bs Fs' ta tc {s with sts:=sts}∧Tr col col' w w'∧∀x,w.heap.size≤x→¬Fk.All Fs' x→col' x=7:=by
 obtain⟨col',o,n,n7⟩:=ext_ex w col (Fk.All Fs') 4
 have c:Ch (fun c=>c=4) col col' w w':=⟨kf.os,kf.tape,kf.output,kf.size,fun x hx hc=>kf.block x hx (fun e=>by
  obtain⟨i,e⟩:=e
  exact hc (h.c4 i x e)),o⟩
 refine⟨col',⟨h.keepHp c (by simp),h.nml,h.keepPs c (by simp),h.keepCu c (by simp),h.nc,h.keepCr c (by simp),h.keepRw c (by simp),q,h.bl,h.keepTr c (by simp),h.k0 c,h.k1 c,h.k2 c,h.k3 c,fun i x hx=>?_,h.k5 c⟩,c.tr (fun _ (e:_=_)=>by omega),n7⟩
 rcases Nat.lt_or_ge x w.heap.size with e|e
 ·rcases nw i x hx with z|z
  ·obtain⟨j,z⟩:=z
   exact h.k4 c j x z
  ·omega
 ·exact n x e ⟨i,hx⟩
def WA(w:World)(col:Nat→Nat)(oa:Option Addr)(l:List Wt):Prop:=Pe.WAt w oa l∧(0<l.length→∀a,oa=some a→col a.block=7)
theorem WA.tr{col':Nat→Nat}{oa:Option Addr}{l:List Wt}(h:WA w col oa l)(t:Tr col col' w w'):WA w' col' oa l:=by
 refine⟨fun k x hk=>?_,fun h0 a e=>(t.old _ (h.1.lt h0 a e)).trans (h.2 h0 a e)⟩
 have h0:0<l.length:=Nat.lt_of_le_of_lt (Nat.zero_le k) (List.getElem?_eq_some_iff.1 hk).1
 obtain⟨b,off,e,q0,q1,q2⟩:=h.1 k x hk
 have hc:=h.2 h0 _ e
 exact⟨b,off,e,t.cell q0 hc,t.cell q1 hc,t.cell q2 hc⟩
theorem close_at(h:LX w col L N C B X FB pa pc bs Fs ta tc s){k B1:Nat}(ho:bs[k]? =some (some B1)){st:St}(e:s.sts[k]? =some (some st))(hc:st.closed=false):
 Calls Tryz.prog 105 #[.pointer (some ⟨B1,0,none⟩)] w fun r w'=>∃oa ca ob cb,r=.returned (.tuple #[.slice oa st.rcv.length ca,.slice ob st.snd.length cb,.int .i64 0])∧∃Fs' col',LX w' col' L N C B X FB pa pc bs Fs' ta tc {s with sts:=s.sts.set k (some (_root_.Go.Proofs.YtogkjaekfhjelaaGreat.Pi.closeS st))}∧Tr col col' w w'∧WA w' col' oa st.rcv∧WA w' col' ob st.snd:=by
 obtain⟨st',e',q⟩:=h.qs.one k B1 ho
 rw[e] at e'
 cases e'
 refine (_root_.Go.Proofs.YtogkjaekfhjelaaGreat.Pi.close_apart B1 (Fs k) st w q hc).mono ?_
 rintro r w1 ⟨oa,ca,ob,cb,rfl,⟨a1,a2,n1,n2⟩,kf,F',nw,p1,m1,m2⟩
 have hcs:_root_.Go.Proofs.YtogkjaekfhjelaaGreat.Pi.closeS st={st with snd:=[],rcv:=[],closed:=true}:=by simp[_root_.Go.Proofs.YtogkjaekfhjelaaGreat.Pi.closeS,hc]
 have p2:_root_.Go.Proofs.YtogkjaekfhjelaaGreat.Pi.Pp w1 B1 F' (_root_.Go.Proofs.YtogkjaekfhjelaaGreat.Pi.closeS st):=by rw[hcs];exact p1
 have nwA:Fk.NwA (Fk.up Fs k F') Fs w:=fun j x hx=>by
  by_cases ej:j=k
  ·subst ej
   rw[Fk.up_same] at hx
   rcases nw x hx with z|z
   ·exact .inl ⟨j,z⟩
   ·exact .inr z
  ·rw[Fk.up_other _ _ _ _ ej] at hx
   exact .inl ⟨j,hx⟩
 obtain⟨col1,h1,t1,n7⟩:=h.pipes3 nwA (h.qs.step Fk.frP ho kf nw p2 (h.qs.rl ho)) (kf.mono (fun x hx=>⟨k,hx⟩))
 have ap:∀a:Addr,w.heap.size≤a.block→¬F' a.block→col1 a.block=7:=fun a ha hf=>n7 _ ha (fun hA=>by
  obtain⟨j,hj⟩:=hA
  by_cases ej:j=k
  ·subst ej
   rw[Fk.up_same] at hj
   exact hf hj
  ·rw[Fk.up_other _ _ _ _ ej] at hj
   have:=h.qs.bd j _ hj
   omega)
 exact⟨oa,ca,ob,cb,rfl,_,col1,h1,t1,⟨a1,fun h0 a e=>ap a (n1 a e) (m1 h0 a e)⟩,⟨a2,fun h0 a e=>ap a (n2 a e) (m2 h0 a e)⟩⟩
end
theorem wakeAll_app(g c:Int)(s:Lm)(l:List Wt)(x:Wt):wakeAll g c s (l++[x])=if parked (wakeAll g c s l) x.g then wakesS (wakeAll g c s l) ⟨7,x.g,c,x.c,0,g,false,false⟩ else wakeAll g c s l:=by
 induction l generalizing s with
 |nil=>rfl
 |cons y l ih=>exact ih _
theorem wakeAll_take{g c:Int}{s:Lm}{l:List Wt}{j:Nat}{x:Wt}(h:l[j]? =some x):wakeAll g c s (l.take (j+1))=if parked (wakeAll g c s (l.take j)) x.g then wakesS (wakeAll g c s (l.take j)) ⟨7,x.g,c,x.c,0,g,false,false⟩ else wakeAll g c s (l.take j):=by
 rw[List.take_add_one,h]
 exact wakeAll_app g c s _ x
structure Bw(K:Nat)(s:Lm):Prop where
 cb:Cr.Bn K s.cr
 tn:s.tr.length≤K
theorem Bw.wake{K:Nat}{s:Lm}(h:Bw K s)(e:Ev):Bw (K+1) (wakesS s e):=⟨Cr.Bn.ch h.cb e.g 1 0 1 (by omega) (by omega),by show (s.tr++[e]).length≤_;have:=h.tn;simp;omega⟩
theorem Bw.go{K:Nat}{s:Lm}(h:Bw K s)(e:Ev):Bw (K+1) (goS s e):=⟨Cr.Bn.ch h.cb e.g 0 0 1 (by omega) (by omega),by show (s.tr++[e]).length≤_;have:=h.tn;simp;omega⟩
theorem Bw.mono{K M:Nat}{s:Lm}(h:Bw K s)(hK:K≤M):Bw M s:=⟨h.cb.mono hK,Nat.le_trans h.tn hK⟩
theorem Bw.all{K:Nat}{g c:Int}:∀{l:List Wt} {s:Lm},Bw K s→Bw (K+l.length) (wakeAll g c s l):=by
 intro l
 induction l generalizing K with
 |nil=>exact fun h=>h
 |cons x l ih=>
  intro s h
  show Bw _ (wakeAll g c (if parked s x.g then _ else s) l)
  rw[List.length_cons,Nat.add_comm l.length 1,←Nat.add_assoc]
  apply ih
  split
  ·exact h.wake _
  ·exact h.mono (by omega)
theorem first_take{s:Lm}{l:List Wt}:∀{j:Nat},(∀i x,i<j→l[i]? =some x→parked s x.g=false)→first s l=first s (l.drop j):=by
 intro j
 induction j generalizing l with
 |zero=>intro _;rfl
 |succ j ih=>
  intro h
  cases l with
  |nil=>rfl
  |cons x l=>
   have h0:=h 0 x (by omega) rfl
   show (if parked s x.g then x.g else first s l)=_
   rw[h0]
   exact ih (fun i y hi hy=>h (i+1) y (by omega) hy)
set_option maxRecDepth 100000 in
theorem closes_no(L:Nat)(col:Nat→Nat)(s:Lm)(g:Int)(k:Nat)(w:World)(h:LW w col L s)(hk:k<8)(hno:∀st,Fk.nmB s.sts (k:Int)=some st→st.closed=true):
 Calls Tryz.prog 72 #[.pointer (some ⟨L,0,none⟩),.int .i64 g,.int .i64 (k:Int)] w fun r w'=>r=.returned (.int .i64 g)∧w'=w:=by
 obtain⟨N,C,B,X,FB,pa,pc,bs,Fs,ta,tc,h⟩:=h
 have y3:w.cell? ⟨L,3,none⟩=some (.slice (some ⟨X,0,none⟩) 8 8):=cell_of h.hp 3
 have k0:(0:Int)≤(k:Int):=by omega
 have k8:(k:Int)<8:=by omega
 obtain⟨o,ho,x0⟩:=h.at hk
 cases o with
 |none=>
  have x1:w.cell? ⟨X,k,none⟩=some (.pointer none):=x0
  clear h x0
  go_enter Tryz.func72,Tryz.ntmps72
  go_wp2_with fail
  refine (_root_.Go.Proofs.YtogkjaekfhjelaaGreat.Pi.close_nil _).mono ?_
  rintro r w1 ⟨rfl,rfl⟩
  go_wp2_with fail
  go_ret
  exact⟨rfl,rfl⟩
 |some B1=>
  have x1:w.cell? ⟨X,k,none⟩=some (.pointer (some ⟨B1,0,none⟩)):=x0
  obtain⟨st,e,q⟩:=h.qs.one k B1 ho
  have CL:=hide (_root_.Go.Proofs.YtogkjaekfhjelaaGreat.Pi.close_closed B1 (Fs k) st w q (hno st (nm_at e)))
  clear h x0 q
  go_enter Tryz.func72,Tryz.ntmps72
  go_wp2_with fail
  refine CL.out.mono ?_
  rintro r w1 ⟨rfl,rfl⟩
  go_wp2_with fail
  go_ret
  exact⟨rfl,rfl⟩
set_option maxRecDepth 100000 in
theorem closes_yes(L:Nat)(col:Nat→Nat)(s:Lm)(K:Nat)(g:Int)(k:Nat)(st:St)(w:World)(h:LW w col L s)(bw:Bw K s)(hK:K≤90000)(hk:k<8)(hst:Fk.nmB s.sts (k:Int)=some st)(hc:st.closed=false)(hl1:st.rcv.length≤1000)(hl2:st.snd.length≤1000)(s1 s2:Lm)
 (hs1:s1=goS {s with sts:=s.sts.set k (some (_root_.Go.Proofs.YtogkjaekfhjelaaGreat.Pi.closeS st))} ⟨5,g,nth s.nm k,-1,-1,-1,false,false⟩) (hs2:s2=wakeAll g (nth s.nm k) s1 st.rcv):
 Calls Tryz.prog 72 #[.pointer (some ⟨L,0,none⟩),.int .i64 g,.int .i64 (k:Int)] w fun r w'=>r=.returned (.int .i64 (first s2 st.snd))∧∃col',LW w' col' L s2∧Tr col col' w w':=by
 obtain⟨N,C,B,X,FB,pa,pc,bs,Fs,ta,tc,h⟩:=h
 have y3:w.cell? ⟨L,3,none⟩=some (.slice (some ⟨X,0,none⟩) 8 8):=cell_of h.hp 3
 have k0:(0:Int)≤(k:Int):=by omega
 have k8:(k:Int)<8:=by omega
 have e:=Fk.nmB_at hst
 rw[Int.toNat_natCast] at e
 obtain⟨o,ho,x0⟩:=h.at hk
 cases o with
 |none=>have:=h.qs.non k ho;rw[e] at this;cases this
 |some B1=>
 have x1:w.cell? ⟨X,k,none⟩=some (.pointer (some ⟨B1,0,none⟩)):=x0
 have CL:=hide (close_at h ho e hc)
 have BW:=hide bw
 have HS1:=hide hs1
 have HS2:=hide hs2
 clear h x0 hs1 hs2 bw
 go_enter Tryz.func72,Tryz.ntmps72
 go_wp2_with fail
 refine CL.out.mono ?_
 rintro r w1 ⟨oa,ca,ob,cb,rfl,Fs1,col1,h1,t1,a1,a2⟩
 have T1:=hide t1
 have H1:=hide h1
 have A1:=hide a1
 have A2:=hide a2
 clear h1 t1 a1 a2 CL x1 y3
 go_wp2_with fail
 refine (En.bare_any 5 g _).mono ?_
 rintro r w2 ⟨rfl,b2⟩
 obtain⟨col3,h3,t3,n3⟩:=H1.out.below (btr b2 (below_alloc w2 (.cells #[.int .i64 5,.int .i64 g,.int .i64 (nth s.nm k),.int .i64 (-1),.int .i64 (-1),.int .i64 (-1),.bool false,.bool false] 40)))
 have V3:=hide (heap_new w2 (.cells #[.int .i64 5,.int .i64 g,.int .i64 (nth s.nm k),.int .i64 (-1),.int .i64 (-1),.int .i64 (-1),.bool false,.bool false] 40))
 have C3:=hide (n3 w2.heap.size b2.size)
 have T3:=hide (T1.out.trans t3)
 have A13:=hide (A1.out.tr t3)
 have A23:=hide (A2.out.tr t3)
 have nu:w2.cell? ⟨L,4+k,none⟩=some (.int .i64 (nth s.nm k)):=(cell_of (heap_below H1.out.hp b2) (4+k)).trans ((cell_of H1.out.hp (4+k)).symm.trans (H1.out.num hk))
 have hL2:L<w2.heap.size:=Nat.lt_of_lt_of_le H1.out.lt b2.size
 have GO:=hide (goes_any L col3 _ K (⟨5,g,nth s.nm k,-1,-1,-1,false,false⟩:Ev) _ h3.lw BW.out.cb (by omega) (by have:=BW.out.tn;show s.tr.length≤_;omega))
 unfold En.evv En.evc at GO
 clear h3 t3 n3 b2 T1 H1 A1 A2
 go_wp2_with fail
 refine GO.out.mono ?_
 rintro r w4 ⟨rfl,col4,h4,t4⟩
 have H4:Hid (LW w4 col4 L s1):=by rw[HS1.out];exact h4
 have T4:=hide (T3.out.trans t4)
 have V4:=hide (t4.heap V3.out C3.out)
 have C4:Hid (col4 w2.heap.size=7):=(t4.old _ (heap_lt V3.out)).trans C3.out
 have A14:=hide (A13.out.tr t4)
 have A24:=hide (A23.out.tr t4)
 have B4:Hid (Bw (K+1) s1):=by
  show Bw _ _
  rw[HS1.out]
  exact Bw.go (s:={s with sts:=s.sts.set k (some (_root_.Go.Proofs.YtogkjaekfhjelaaGreat.Pi.closeS st))}) ⟨BW.out.cb,BW.out.tn⟩ _
 clear h4 t4 GO T3 V3 C3 A13 A23 nu hL2 BW HS1
 generalize w2.heap.size=Eb at*
 generalize hnu:nth s.nm k=nu at*
 go_wp2_with fail
 go_loopw [44] (fun iv wr=>∃(j:Nat) (cj:Nat→Nat),j≤st.rcv.length∧iv=.int .i64 j∧LW wr cj L (wakeAll g nu s1 (st.rcv.take j))∧Tr col cj w wr∧(wr.heap[Eb]? =some (.cells #[.int .i64 5,.int .i64 g,.int .i64 nu,.int .i64 (-1),.int .i64 (-1),.int .i64 (-1),.bool false,.bool false] 40 (0,0))∧cj Eb=7)∧WA wr cj oa st.rcv∧WA wr cj ob st.snd) (fun iv _=>st.rcv.length - (intOf iv).toNat)
 case atStart=>exact⟨0,col4,Nat.zero_le _,rfl,H4.out,T4.out,⟨V4.out,C4.out⟩,A14.out,A24.out⟩
 case round=>
  clear H4 T4 V4 C4 A14 A24
  obtain⟨j,cj,hj,rfl,hlw,htr,⟨hv,hcE⟩,ha1,ha2⟩:=hrel
  have HL:=hide hlw
  have HT:=hide htr
  have HV:=hide hv
  have HC:=hide hcE
  have HA1:=hide ha1
  have HA2:=hide ha2
  clear hlw htr hv hcE ha1 ha2
  by_cases hlt:j<st.rcv.length
  ·have hlt':(j:Int)<(st.rcv.length:Int):=by omega
   obtain⟨x,hx⟩:∃x,st.rcv[j]? =some x:=⟨_,List.getElem?_eq_getElem hlt⟩
   obtain⟨b,off,hoa,q0,q1,q2⟩:=HA1.out.1 j x hx
   subst hoa
   have ST:=hide (wakeAll_take (g:=g) (c:=nu) (s:=s1) hx)
   have BJ:Hid (Bw (K+1+j) (wakeAll g nu s1 (st.rcv.take j))):=by
    have:=Bw.all (g:=g) (c:=nu) (l:=st.rcv.take j) B4.out
    rw[List.length_take,Nat.min_eq_left hj] at this
    exact this
   generalize wakeAll g nu s1 (st.rcv.take j)=sj at*
   obtain⟨c5,h5,t5,n5⟩:=HL.out.below (below_alloc wr (.cells #[.int .i64 x.g,.int .i64 x.c,.int .i64 x.v] 169))
   have IP:=hide (isParked_any L c5 sj x.g _ h5)
   have H5:=hide h5
   have T5:=hide (HT.out.trans t5)
   have V5:=hide (t5.heap HV.out HC.out)
   have C5:Hid (c5 Eb=7):=(t5.old _ (heap_lt HV.out)).trans HC.out
   have A15:=hide (HA1.out.tr t5)
   have A25:=hide (HA2.out.tr t5)
   have vE:wr.cell? ⟨Eb,2,none⟩=some (.int .i64 nu):=cell_of HV.out 2
   have hEr:=heap_lt HV.out
   clear h5 t5 n5 HL HT HV HC HA1 HA2
   cases hp:parked sj x.g
   ·rw[hp] at IP ST
    go_wp2_with fail
    refine IP.out.mono ?_
    rintro r w6 ⟨rfl,rfl⟩
    go_wp2_with fail
    go_roundw
    case rel=>exact⟨j+1,c5,by omega,by go_num,by rw[ST.out];exact H5.out,T5.out,⟨V5.out,C5.out⟩,A15.out,A25.out⟩
    case measure=>simp[intOf];omega
   ·rw[hp] at IP ST
    have WK:=hide (wakes_any L c5 sj (K+1+j) (⟨7,x.g,nu,x.c,0,g,false,false⟩:Ev) _ H5.out BJ.out.cb (by omega) (by have:=BJ.out.tn;omega))
    unfold En.evv En.evc at WK
    go_wp2_with fail
    refine IP.out.mono ?_
    rintro r w6 ⟨rfl,rfl⟩
    go_wp2_with fail
    refine WK.out.mono ?_
    rintro r w7 ⟨rfl,c7,h7,t7⟩
    have H7:=hide h7
    have T7:=hide (T5.out.trans t7)
    have V7:=hide (t7.heap V5.out C5.out)
    have C7:Hid (c7 Eb=7):=(t7.old _ (heap_lt V5.out)).trans C5.out
    have A17:=hide (A15.out.tr t7)
    have A27:=hide (A25.out.tr t7)
    clear h7 t7 WK IP
    go_wp2_with fail
    go_roundw
    case rel=>exact⟨j+1,c7,by omega,by go_num,by rw[ST.out];exact H7.out,T7.out,⟨V7.out,C7.out⟩,A17.out,A27.out⟩
    case measure=>simp[intOf];omega
  ·have hlt':¬((j:Int)<(st.rcv.length:Int)):=by omega
   have H2:Hid (LW wr cj L s2):=by
    have:=HL.out
    rw[List.take_of_length_le (by omega),←HS2.out] at this
    exact this
   clear HL HA1 HV HC HS2 B4
   go_wp2_with fail
   go_loopw [65] (fun iv wr=>∃(j:Nat) (cj:Nat→Nat),j≤st.snd.length∧iv=.int .i64 j∧LW wr cj L s2∧Tr col cj w wr∧WA wr cj ob st.snd∧∀i x,i<j→st.snd[i]? =some x→parked s2 x.g=false) (fun iv _=>st.snd.length - (intOf iv).toNat)
   case atStart=>exact⟨0,cj,Nat.zero_le _,rfl,H2.out,HT.out,HA2.out,fun i x hi=>by omega⟩
   case round=>
    clear H2 HT HA2
    rename World=>wr2
    obtain⟨i,ci,hi,rfl,hlw,htr,ha2,hno⟩:=hrel
    have HL:=hide hlw
    have HT:=hide htr
    have HA2:=hide ha2
    have NO:=hide hno
    clear hlw htr ha2 hno
    by_cases hlt2:i<st.snd.length
    ·have hlt2':(i:Int)<(st.snd.length:Int):=by omega
     obtain⟨x,hx⟩:∃x,st.snd[i]? =some x:=⟨_,List.getElem?_eq_getElem hlt2⟩
     obtain⟨b,off,hoa,q0,q1,q2⟩:=HA2.out.1 i x hx
     subst hoa
     obtain⟨c5,h5,t5,n5⟩:=HL.out.below (below_alloc wr2 (.cells #[.int .i64 x.g,.int .i64 x.c,.int .i64 x.v] 169))
     have IP:=hide (isParked_any L c5 s2 x.g _ h5)
     have H5:=hide h5
     have T5:=hide (HT.out.trans t5)
     have A25:=hide (HA2.out.tr t5)
     have HX:=hide hx
     clear h5 t5 n5 HL HT HA2 hx
     cases hp:parked s2 x.g
     ·rw[hp] at IP
      have NO2:Hid (∀i' x,i'<i+1→st.snd[i']? =some x→parked s2 x.g=false):=fun i' y hi' hy=>by
       rcases Nat.lt_or_ge i' i with q|q
       ·exact NO.out i' y q hy
       ·obtain rfl:i'=i:=by omega
        rw[HX.out] at hy
        cases hy
        exact hp
      go_wp2_with fail
      refine IP.out.mono ?_
      rintro r w6 ⟨rfl,rfl⟩
      go_wp2_with fail
      go_roundw
      case rel=>exact⟨i+1,c5,by omega,by go_num,H5.out,T5.out,A25.out,NO2.out⟩
      case measure=>simp[intOf];omega
     ·rw[hp] at IP
      have FR:Hid (first s2 st.snd=x.g):=by
       show _=_
       rw[first_take NO.out,List.drop_eq_getElem_cons hlt2]
       have:st.snd[i]=x:=by have h1:=HX.out;rw[List.getElem?_eq_getElem hlt2] at h1;cases h1;rfl
       rw[this]
       show (if parked s2 x.g then x.g else _)=_
       rw[hp]
       rfl
      go_wp2_with fail
      refine IP.out.mono ?_
      rintro r w6 ⟨rfl,rfl⟩
      go_wp2_with fail
      go_ret
      exact⟨by (rw[FR.out])<;>rfl,c5,H5.out,T5.out⟩
    ·have hlt2':¬((i:Int)<(st.snd.length:Int)):=by omega
     have FR:Hid (first s2 st.snd=-1):=by
      show _=_
      rw[first_take NO.out,List.drop_eq_nil_of_le (by omega)]
      rfl
     go_wp2_with fail
     go_ret
     exact⟨by (rw[FR.out])<;>rfl,ci,HL.out,HT.out⟩
theorem closes_any(L:Nat)(col:Nat→Nat)(s:Lm)(K:Nat)(g:Int)(k:Nat)(w:World)(h:LW w col L s)(ok:Ok K s)(hK:K≤90000)(hk:k<8):
 Calls Tryz.prog 72 #[.pointer (some ⟨L,0,none⟩),.int .i64 g,.int .i64 (k:Int)] w fun r w'=>r=.returned (.int .i64 (closesF s g k).who)∧∃col',LW w' col' L (closesF s g k).s∧Tr col col' w w':=by
 have no:∀(hno:∀st,Fk.nmB s.sts (k:Int)=some st→st.closed=true) (_:closesF s g k=⟨s,g⟩),Calls Tryz.prog 72 #[.pointer (some ⟨L,0,none⟩),.int .i64 g,.int .i64 (k:Int)] w fun r w'=>r=.returned (.int .i64 (closesF s g k).who)∧∃col',LW w' col' L (closesF s g k).s∧Tr col col' w w':=by
  intro hno he
  rw[he]
  refine (closes_no L col s g k w h hk hno).mono ?_
  rintro r w1 ⟨rfl,rfl⟩
  exact⟨rfl,col,h,Tr.refl _ _⟩
 cases hst:Fk.nmB s.sts (k:Int) with
 |none=>exact no (fun st e=>by rw[hst] at e;cases e) (by unfold closesF;rw[hst])
 |some st=>
  cases hc:st.closed
  ·have he:closesF s g k=⟨wakeAll g (nth s.nm k) (goS {s with sts:=s.sts.set k (some (_root_.Go.Proofs.YtogkjaekfhjelaaGreat.Pi.closeS st))} ⟨5,g,nth s.nm k,-1,-1,-1,false,false⟩) st.rcv,first (wakeAll g (nth s.nm k) (goS {s with sts:=s.sts.set k (some (_root_.Go.Proofs.YtogkjaekfhjelaaGreat.Pi.closeS st))} ⟨5,g,nth s.nm k,-1,-1,-1,false,false⟩) st.rcv) st.snd⟩:=by
    unfold closesF
    rw[hst]
    simp[hc,num]
   rw[he]
   have hw:=ok.wl _ st (Fk.nmB_at hst)
   exact closes_yes L col s K g k st w h ⟨ok.cb,ok.tn⟩ hK hk hst hc (hw false) (hw true) _ _ rfl rfl
  ·exact no (fun st' e=>by rw[hst] at e;cases e;exact hc) (by unfold closesF;rw[hst];simp[hc])
end Lo
end Go.Proofs.YtogkjaekfhjelaaGreat
namespace Go.Proofs.YtogkjaekfhjelaaGreat
namespace Lo
open Ba
def SP(s s':Lm):Prop:=∃e l,s'.tr=s.tr++e::l
def WP(s s':Lm):Prop:=∃l,s'.tr=s.tr++l
theorem WP.refl(s:Lm):WP s s:=⟨[],by simp⟩
theorem SP.wp{s s':Lm}(h:SP s s'):WP s s':=by
 obtain⟨e,l,h⟩:=h
 exact⟨_,h⟩
theorem WP.trans{a b c:Lm}(h:WP a b)(k:WP b c):WP a c:=by
 obtain⟨l,h⟩:=h
 obtain⟨m,k⟩:=k
 exact⟨l++m,by rw[k,h,List.append_assoc]⟩
theorem SP.trans{a b c:Lm}(h:SP a b)(k:WP b c):SP a c:=by
 obtain⟨e,l,h⟩:=h
 obtain⟨m,k⟩:=k
 exact⟨e,l++m,by rw[k,h];simp⟩
theorem WP.sp{a b c:Lm}(h:WP a b)(k:SP b c):SP a c:=by
 obtain⟨l,h⟩:=h
 obtain⟨e,m,k⟩:=k
 cases l with
 |nil=>exact⟨e,m,by rw[k,h];simp⟩
 |cons x l=>exact⟨x,l++e::m,by rw[k,h];simp⟩
theorem sp_tell{s s':Lm}(e:Ev)(h:s'.tr=s.tr):SP s (tellS s' e):=⟨e,[],by show s'.tr++[e]=_;rw[h]⟩
theorem crdy_try{sts:List (Option St)}{c:Ca}(h:Fk.crdy sts c=true):¬(Fk.tryE sts c=0∧(Fk.tryG sts c).rd=false):=by
 unfold Fk.crdy at h
 cases hn:Fk.nmB sts c.ch with
 |none=>rw[hn] at h;cases h
 |some st=>
  rw[hn] at h
  simp only at h
  unfold Fk.tryE Fk.tryG
  rw[hn]
  simp only
  unfold _root_.Go.Proofs.YtogkjaekfhjelaaGreat.Pi.rdy _root_.Go.Proofs.YtogkjaekfhjelaaGreat.Pi.room _root_.Go.Proofs.YtogkjaekfhjelaaGreat.Pi.own at h
  cases hs:c.sd
  ·rw[hs] at h
   simp at h
   simp
   unfold _root_.Go.Proofs.YtogkjaekfhjelaaGreat.Pi.recvG
   split
   ·rename_i e1 e2
    rw[e1,e2] at h
    simp at h
    simp[h]
   ·simp
   ·simp
   ·simp
  ·rw[hs] at h
   simp at h
   simp
   unfold _root_.Go.Proofs.YtogkjaekfhjelaaGreat.Pi.sendE _root_.Go.Proofs.YtogkjaekfhjelaaGreat.Pi.sendG
   intro h0
   split at h0
   ·omega
   ·rename_i hc
    rw[if_neg hc]
    split
    ·simp
    ·rename_i e1
     rw[e1] at h
     simp[hc] at h
     simp[h]
theorem wp_try(s:Lm)(g at_:Int)(c:Ca):WP s (tryF s g at_ c).s:=by
 unfold tryF
 split
 ·exact⟨[],by simp⟩
 ·split
  ·exact⟨[_]++[_],List.append_assoc s.tr [_] [_]⟩
  ·exact⟨[_],rfl⟩
theorem sp_try{s:Lm}{g at_:Int}{c:Ca}(h:(tryF s g at_ c).done=true):SP s (tryF s g at_ c).s:=by
 unfold tryF at h ⊢
 split
 ·rename_i h1
  rw[if_pos h1] at h
  cases h
 ·split
  ·exact⟨_,[_],List.append_assoc s.tr [_] [_]⟩
  ·exact⟨_,[],rfl⟩
theorem sp_alone{s:Lm}{g:Int}{c:Ca}(h:(aloneF s g c).fine=true):SP s (aloneF s g c).s:=by
 unfold aloneF at h ⊢
 split
 ·rename_i h1
  rw[if_pos h1] at h
  have hd:(tryF s g (-1) c).done=true:=by
   simp only at h
   rw[h] at h1
   simpa using h1
  exact sp_try hd
 ·exact (wp_try s g (-1) c).sp (sp_tell _ rfl)
theorem recv_fine(s:Lm)(g:Int)(c:Ca)(hc:c.sd=false):(aloneF s g c).fine=true:=by
 have h0:(tryF s g (-1) c).fine=true:=by
  unfold tryF
  have:Fk.tryE s.sts c=0:=by
   unfold Fk.tryE
   split
   ·rfl
   ·simp[hc]
  split
  ·simp[this]
  ·split<;>rfl
 unfold aloneF
 split
 ·exact h0
 ·rfl
theorem ps_at{P:Nat→Bool}{n k:Nat}(hk:k<(Fk.ps P n).length):∃p:Nat,nth (Fk.ps P n) k=(p:Int)∧p<n∧P p=true:=Fk.ps_mem hk
theorem sp_choose{s:Lm}{g:Int}{o:OpD}(h:(chooseF s g o).fine=true)(hd:∀x∈s.d,0≤x)(h4:o.cases.length≤4):SP s (chooseF s g o).s:=by
 unfold chooseF at h ⊢
 split
 ·rename_i h1
  rw[if_pos h1] at h
  simp only at h
  have hl4:(Fk.rdyL (cas o) s.sts).length≤4:=Nat.le_trans (Fk.ps_len _ _) (by unfold cas;rw[List.length_map];exact h4)
  obtain⟨i,hi,hin⟩:=dv_nat (n:=(Fk.rdyL (cas o) s.sts).length) hd h1 hl4
  obtain⟨p,hp,hpl,hP⟩:=ps_at (P:=fun i=>match (cas o)[i]? with|none=>false|some c=>Fk.crdy s.sts c) (n:=(cas o).length) hin
  have e1:nth (Fk.rdyL (cas o) s.sts) i=(p:Int):=hp
  rw[hi,Int.toNat_natCast,e1] at h ⊢
  have hc:Fk.crdy s.sts (caseAt o p)=true:=by
   have h2:(cas o)[p]? =some (cas o)[p]:=List.getElem?_eq_getElem hpl
   simp only[h2] at hP
   unfold caseAt
   rw[Int.toNat_natCast,h2]
   exact hP
  have hn:=crdy_try hc
  refine sp_try (s:={s with d:=_}) ?_
  unfold tryF at h ⊢
  split
  ·rename_i h3
   rw[if_pos h3] at h
   simp at h
   exact absurd ⟨h,by rcases h3 with q|q;exact absurd h q;exact q⟩ hn
  ·split<;>rfl
 ·split
  ·exact⟨_,[],rfl⟩
  ·exact⟨_,[],rfl⟩
theorem wp_all(g c:Int):∀(l:List Wt) (s:Lm),WP s (wakeAll g c s l)
 |[],s=>WP.refl s
 |x::l,s=>by
  show WP s (wakeAll g c (if parked s x.g then _ else s) l)
  refine WP.trans ?_ (wp_all g c l _)
  split
  ·exact⟨[_],rfl⟩
  ·exact WP.refl s
theorem wp_closes(s:Lm)(g k:Int):WP s (closesF s g k).s:=by
 unfold closesF
 split
 ·exact WP.refl s
 ·split
  ·exact WP.refl s
  ·exact WP.trans (b:=goS {s with sts:=_} _) ⟨[_],rfl⟩ (wp_all _ _ _ _)
theorem sp_closes{s:Lm}{g k:Int}(hg:g≠-1)(h:(closesF s g k).who=-1):SP s (closesF s g k).s:=by
 unfold closesF at h ⊢
 split
 ·rename_i e
  rw[e] at h
  exact absurd h hg
 ·rename_i st e
  rw[e] at h
  simp only at h
  split
  ·rename_i hc
   rw[if_pos hc] at h
   exact absurd h hg
  ·exact SP.trans (b:=goS {s with sts:=_} _) ⟨_,[],rfl⟩ (wp_all _ _ _ _)
theorem sp_do{s:Lm}{g:Int}{o:OpD}{n:Int}(ho:De.chk o n=0)(hd:∀x∈s.d,0≤x)(hg:g≠-1):SP s (doF s g o):=by
 obtain⟨-,hk,h4,-⟩:=op_ok ho
 unfold doF
 split
 ·exact⟨_,[],rfl⟩
 ·split
  ·exact⟨_,[],rfl⟩
  ·split
   ·exact⟨_,[],rfl⟩
   ·split
    ·exact⟨_,[],rfl⟩
    ·split
     ·exact⟨_,[],rfl⟩
     ·split
      ·split
       ·exact sp_alone (by assumption)
       ·refine WP.sp ?_ (sp_tell _ rfl)
        unfold aloneF
        split
        ·exact wp_try _ _ _ _
        ·exact ((wp_try s g (-1) _).sp (sp_tell _ rfl)).wp
      ·split
       ·exact sp_alone (recv_fine _ _ _ rfl)
       ·split
        ·split
         ·exact sp_closes hg (by assumption)
         ·exact (wp_closes _ _ _).sp (sp_tell _ rfl)
        ·split
         ·split
          ·exact sp_choose (by assumption) hd h4
          ·refine WP.sp ?_ (sp_tell _ rfl)
           unfold chooseF
           split
           ·obtain⟨l,hl⟩:=wp_try {s with d:=Pk.dr s.d (Fk.rdyL (cas o) s.sts).length} g (nth (Fk.rdyL (cas o) s.sts) (Pk.dv s.d (Fk.rdyL (cas o) s.sts).length).toNat) (caseAt o (nth (Fk.rdyL (cas o) s.sts) (Pk.dv s.d (Fk.rdyL (cas o) s.sts).length).toNat))
            exact⟨l,hl⟩
           ·split
            ·exact⟨[_],rfl⟩
            ·exact⟨[_],rfl⟩
         ·omega
end Lo
end Go.Proofs.YtogkjaekfhjelaaGreat
namespace Go.Proofs.YtogkjaekfhjelaaGreat
namespace Lo
open Ba
structure B1(m K n M C D:Nat)(s:Lm):Prop where
 bw:Bw K s
 cp:∀x∈s.cr,0≤x.p∧x.p<m
 cl:s.cr.length≤C
 sb:SB n M s.sts
 sl:s.sts.length=8
 nl:s.nm.length=8
 md:0≤s.md∧s.md≤D
section
variable {m K n M C D:Nat}{s:Lm}
theorem B1.mono{K' n' M' C' D':Nat}(h:B1 m K n M C D s)(h1:K≤K')(h2:n≤n')(h3:M≤M')(h4:C≤C')(h5:D≤D'):B1 m K' n' M' C' D' s:=
 ⟨h.bw.mono h1,h.cp,Nat.le_trans h.cl h4,h.sb.mono h2 h3,h.sl,h.nl,by have:=h.md;omega⟩
theorem ch_cp{l:List Mb}(h:∀x∈l,0≤x.p∧x.p<(m:Int))(g a b d:Int):∀x∈Cr.chL l g a b d,0≤x.p∧x.p<(m:Int):=by
 unfold Cr.chL
 split
 ·exact h
 ·rename_i y hy
  split
  ·intro x hx
   obtain⟨k,rfl,hk,hk2⟩:=Cr.gt_some hy
   rcases List.mem_or_eq_of_mem_set hx with q|q
   ·exact h x q
   ·rw[q]
    exact h y (List.mem_of_getElem? hk2)
  ·exact h
theorem ch_len(l:List Mb)(g a b d:Int):(Cr.chL l g a b d).length=l.length:=by
 unfold Cr.chL
 split
 ·rfl
 ·split<;>simp
theorem B1.tell(h:B1 m K n M C D s)(e:Ev):B1 m (K+1) n M C D (tellS s e):=
 ⟨⟨h.bw.cb.mono (by omega),by show (s.tr++[e]).length≤_;have:=h.bw.tn;simp;omega⟩,h.cp,h.cl,h.sb,h.sl,h.nl,h.md⟩
theorem B1.ch(h:B1 m K n M C D s)(e:Ev)(a b d:Int)(hb:0≤b∧b≤2)(hd:0≤d∧d≤1):B1 m (K+1) n M C D (tellS {s with cr:=Cr.chL s.cr e.g a b d} e):=
 ⟨⟨Cr.Bn.ch h.bw.cb e.g a b d hb hd,by show (s.tr++[e]).length≤_;have:=h.bw.tn;simp;omega⟩,ch_cp h.cp _ _ _ _,by show (Cr.chL s.cr e.g a b d).length≤_;rw[ch_len];exact h.cl,h.sb,h.sl,h.nl,h.md⟩
theorem B1.sts{n' M':Nat}{sts:List (Option St)}(h:B1 m K n M C D s)(hs:SB n' M' sts)(hl:sts.length=s.sts.length):B1 m K n' M' C D {s with sts:=sts}:=
 ⟨⟨h.bw.cb,h.bw.tn⟩,h.cp,h.cl,hs,hl.trans h.sl,h.nl,h.md⟩
theorem B1.go(h:B1 m K n M C D s)(e:Ev):B1 m (K+1) n M C D (goS s e):=h.ch e 0 0 1 (by omega) (by omega)
theorem B1.waits(h:B1 m K n M C D s)(e:Ev):B1 m (K+1) n M C D (waitsS s e):=h.ch e 0 1 0 (by omega) (by omega)
theorem B1.wakes(h:B1 m K n M C D s)(e:Ev):B1 m (K+1) n M C D (wakesS s e):=
 (h.sts (h.sb.leave e.g) (by unfold Fk.leaveS;simp)).ch e 1 0 1 (by omega) (by omega)
theorem try_len(sts:List (Option St))(c:Ca):(Fk.tryS sts c).length=sts.length:=by
 unfold Fk.tryS
 split<;>simp
theorem B1.try(h:B1 m K n M C D s)(g at_:Int)(c:Ca):B1 m (K+2) (n+1) M C D (tryF s g at_ c).s:=by
 have h1:=h.sts (h.sb.try c) (try_len _ _)
 unfold tryF
 split
 ·exact h1.mono (by omega) (by omega) (by omega) (by omega) (by omega)
 ·split
  ·exact (h1.go _).wakes _
  ·exact (h1.go _).mono (by omega) (by omega) (by omega) (by omega) (by omega)
theorem wait_len(sts:List (Option St))(c:Ca)(g:Int):(waitN sts c g).length=sts.length:=by
 unfold waitN
 split<;>simp
theorem B1.alone(h:B1 m K n M C D s)(g:Int)(c:Ca):B1 m (K+3) (n+1) (M+1) C D (aloneF s g c).s:=by
 have h1:=h.try g (-1) c
 unfold aloneF
 split
 ·exact h1.mono (by omega) (by omega) (by omega) (by omega) (by omega)
 ·exact (h1.sts (h1.sb.wait1 c g) (wait_len _ _ _)).waits _
theorem pkS_len(g:Int)(l:List Ca)(sts:List (Option St)):∀k,(Fk.pkS g l sts k).length=sts.length
 |0=>rfl
 |k+1=>by
  unfold Fk.pkS
  split
  ·exact pkS_len g l sts k
  ·unfold Fk.pk1
   split
   ·exact pkS_len g l sts k
   ·rw[List.length_set]
    exact pkS_len g l sts k
theorem pkA_len(g:Int)(l:List Ca)(sts:List (Option St)):(Fk.pkA g l sts).length=sts.length:=by
 unfold Fk.pkA
 split
 ·rfl
 ·split
  ·rfl
  ·exact pkS_len _ _ _ _
theorem B1.choose(h:B1 m K n M C D s)(g:Int)(o:OpD)(h4:o.cases.length≤4):B1 m (K+3) (n+1) (M+4) C D (chooseF s g o).s:=by
 unfold chooseF
 split
 ·have h1:B1 m K n M C D {s with d:=Pk.dr s.d (Fk.rdyL (cas o) s.sts).length}:=⟨⟨h.bw.cb,h.bw.tn⟩,h.cp,h.cl,h.sb,h.sl,h.nl,h.md⟩
  exact (h1.try _ _ _).mono (by omega) (by omega) (by omega) (by omega) (by omega)
 ·split
  ·exact (h.go _).mono (by omega) (by omega) (by omega) (by omega) (by omega)
  ·exact ((h.sts (h.sb.pkA g (cas o) (by unfold cas;rw[List.length_map];exact h4)) (pkA_len _ _ _)).waits _).mono (by omega) (by omega) (by omega) (by omega) (by omega)
theorem B1.all(g c:Int):∀(l:List Wt) {K:Nat} {s:Lm},B1 m K n M C D s→B1 m (K+l.length) n M C D (wakeAll g c s l)
 |[],K,s,h=>h
 |x::l,K,s,h=>by
  show B1 m _ n M C D (wakeAll g c (if parked s x.g then _ else s) l)
  rw[List.length_cons,Nat.add_comm l.length 1,←Nat.add_assoc]
  apply B1.all g c l
  split
  ·exact h.wakes _
  ·exact h.mono (by omega) (by omega) (by omega) (by omega) (by omega)
theorem B1.closes(h:B1 m K n M C D s)(g k:Int):B1 m (K+1+M) n M C D (closesF s g k).s:=by
 unfold closesF
 split
 ·exact h.mono (by omega) (by omega) (by omega) (by omega) (by omega)
 ·rename_i st e
  split
  ·exact h.mono (by omega) (by omega) (by omega) (by omega) (by omega)
  ·rename_i hc
   have hs:=h.sb.nm e
   have h1:B1 m K n M C D {s with sts:=s.sts.set k.toNat (some (_root_.Go.Proofs.YtogkjaekfhjelaaGreat.Pi.closeS st))}:=h.sts (h.sb.set (by unfold _root_.Go.Proofs.YtogkjaekfhjelaaGreat.Pi.closeS;rw[if_neg hc];simp;omega)) (by simp)
   exact (B1.all _ _ _ (h1.go _)).mono (by omega) (by omega) (by omega) (by omega) (by omega)
theorem B1.panic(h:B1 m K n M C D s)(g:Int):B1 m (K+1) n M C D (panicS s g):=by
 have h1:B1 m K n M C D {s with pk:=true}:=⟨⟨h.bw.cb,h.bw.tn⟩,h.cp,h.cl,h.sb,h.sl,h.nl,h.md⟩
 exact h1.tell _
theorem B1.do_(h:B1 m K n M C D s)(g:Int)(o:OpD)(ho:De.chk o (m:Int)=0):B1 m (K+4+M) (n+1) (M+4) (C+1) (D+1) (doF s g o):=by
 obtain⟨-,hk,h4,ha,hb,-,hcs⟩:=op_ok ho
 unfold doF
 split
 ·rename_i h1
  rw[h1] at ha
  simp[De.mA] at ha
  have hsp:B1 m K n M (C+1) D {s with cr:=Cr.spL s.cr o.a}:=by
   refine⟨⟨Cr.Bn.sp h.bw.cb _,h.bw.tn⟩,?_,?_,h.sb,h.sl,h.nl,h.md⟩
   ·show ∀x∈Cr.spL s.cr o.a,_
    unfold Cr.spL
    rw[if_neg (by omega)]
    split
    ·exact h.cp
    ·intro x hx
     rw[List.mem_append] at hx
     rcases hx with q|q
     ·exact h.cp x q
     ·simp at q
      rw[q]
      simp
      omega
   ·show (Cr.spL s.cr o.a).length≤_
    have:=h.cl
    unfold Cr.spL
    split
    ·omega
    ·split
     ·omega
     ·simp;omega
  exact (hsp.go _).mono (by omega) (by omega) (by omega) (by omega) (by omega)
 ·split
  ·have hop:B1 m K n M C (D+1) (opensS s o.a o.b):=by
    refine⟨⟨h.bw.cb,h.bw.tn⟩,h.cp,h.cl,h.sb.set (by simp[_root_.Go.Proofs.YtogkjaekfhjelaaGreat.Pi.st0]),?_,?_,?_⟩
    ·show (s.sts.set _ _).length=8
     rw[List.length_set]
     exact h.sl
    ·show (s.nm.set _ _).length=8
     rw[List.length_set]
     exact h.nl
    ·show 0≤s.md+1∧s.md+1≤((D+1:Nat):Int)
     have:=h.md
     omega
   exact (hop.go _).mono (by omega) (by omega) (by omega) (by omega) (by omega)
  ·split
   ·exact (h.go _).mono (by omega) (by omega) (by omega) (by omega) (by omega)
   ·split
    ·exact (h.go _).mono (by omega) (by omega) (by omega) (by omega) (by omega)
    ·split
     ·exact (h.ch (bareE 11 g) 0 2 0 (by omega) (by omega)).mono (by omega) (by omega) (by omega) (by omega) (by omega)
     ·split
      ·split
       ·exact (h.alone _ _).mono (by omega) (by omega) (by omega) (by omega) (by omega)
       ·exact ((h.alone _ _).panic _).mono (by omega) (by omega) (by omega) (by omega) (by omega)
      ·split
       ·exact (h.alone _ _).mono (by omega) (by omega) (by omega) (by omega) (by omega)
       ·split
        ·split
         ·exact (h.closes _ _).mono (by omega) (by omega) (by omega) (by omega) (by omega)
         ·exact ((h.closes _ _).panic _).mono (by omega) (by omega) (by omega) (by omega) (by omega)
        ·split
         ·split
          ·exact (h.choose _ _ h4).mono (by omega) (by omega) (by omega) (by omega) (by omega)
          ·exact ((h.choose _ _ h4).panic _).mono (by omega) (by omega) (by omega) (by omega) (by omega)
         ·exact h.mono (by omega) (by omega) (by omega) (by omega) (by omega)
end
end Lo
end Go.Proofs.YtogkjaekfhjelaaGreat
namespace Go.Proofs.YtogkjaekfhjelaaGreat
namespace Lo
open Ba
structure Sme(s s':Lm):Prop where
 ps:s'.ps=s.ps
 p:s'.p=s.p
 d:∀x∈s'.d,x∈s.d
 dl:s'.d.length≤s.d.length
theorem Sme.refl(s:Lm):Sme s s:=⟨rfl,rfl,fun _ h=>h,Nat.le_refl _⟩
theorem Sme.trans{a b c:Lm}(h:Sme a b)(k:Sme b c):Sme a c:=⟨k.ps.trans h.ps,k.p.trans h.p,fun x hx=>h.d x (k.d x hx),Nat.le_trans k.dl h.dl⟩
theorem sme_try(s:Lm)(g at_:Int)(c:Ca):Sme s (tryF s g at_ c).s:=by
 unfold tryF
 split
 ·exact⟨rfl,rfl,fun _ h=>h,Nat.le_refl _⟩
 ·split<;>exact⟨rfl,rfl,fun _ h=>h,Nat.le_refl _⟩
theorem sme_alone(s:Lm)(g:Int)(c:Ca):Sme s (aloneF s g c).s:=by
 have h:=sme_try s g (-1) c
 unfold aloneF
 split
 ·exact h
 ·exact⟨h.ps,h.p,h.d,h.dl⟩
theorem dr_len(d:List Int)(n:Int):(Pk.dr d n).length≤d.length:=by
 unfold Pk.dr
 split
 ·exact Nat.le_refl _
 ·simp
theorem sme_choose(s:Lm)(g:Int)(o:OpD):Sme s (chooseF s g o).s:=by
 unfold chooseF
 split
 ·have h:=sme_try {s with d:=Pk.dr s.d (Fk.rdyL (cas o) s.sts).length} g (nth (Fk.rdyL (cas o) s.sts) (Pk.dv s.d (Fk.rdyL (cas o) s.sts).length).toNat) (caseAt o (nth (Fk.rdyL (cas o) s.sts) (Pk.dv s.d (Fk.rdyL (cas o) s.sts).length).toNat))
  exact⟨h.ps,h.p,fun x hx=>Pk.dr_sub (h.d x hx),Nat.le_trans h.dl (dr_len _ _)⟩
 ·split<;>exact⟨rfl,rfl,fun _ h=>h,Nat.le_refl _⟩
theorem sme_all(g c:Int):∀(l:List Wt) (s:Lm),Sme s (wakeAll g c s l)
 |[],s=>Sme.refl s
 |x::l,s=>by
  show Sme s (wakeAll g c (if parked s x.g then _ else s) l)
  refine Sme.trans ?_ (sme_all g c l _)
  split
  ·exact⟨rfl,rfl,fun _ h=>h,Nat.le_refl _⟩
  ·exact Sme.refl s
theorem sme_closes(s:Lm)(g k:Int):Sme s (closesF s g k).s:=by
 unfold closesF
 split
 ·exact Sme.refl s
 ·split
  ·exact Sme.refl s
  ·exact Sme.trans (b:=goS {s with sts:=_} _) ⟨rfl,rfl,fun _ h=>h,Nat.le_refl _⟩ (sme_all _ _ _ _)
theorem Sme.panic{s s':Lm}(h:Sme s s')(g:Int):Sme s (panicS s' g):=⟨h.ps,h.p,h.d,h.dl⟩
theorem sme_do(s:Lm)(g:Int)(o:OpD):Sme s (doF s g o):=by
 unfold doF
 split
 ·exact⟨rfl,rfl,fun _ h=>h,Nat.le_refl _⟩
 ·split
  ·exact⟨rfl,rfl,fun _ h=>h,Nat.le_refl _⟩
  ·split
   ·exact⟨rfl,rfl,fun _ h=>h,Nat.le_refl _⟩
   ·split
    ·exact⟨rfl,rfl,fun _ h=>h,Nat.le_refl _⟩
    ·split
     ·exact⟨rfl,rfl,fun _ h=>h,Nat.le_refl _⟩
     ·split
      ·split
       ·exact sme_alone _ _ _
       ·exact (sme_alone _ _ _).panic _
      ·split
       ·exact sme_alone _ _ _
       ·split
        ·split
         ·exact sme_closes _ _ _
         ·exact (sme_closes _ _ _).panic _
        ·split
         ·split
          ·exact sme_choose _ _ _
          ·exact (sme_choose _ _ _).panic _
         ·exact Sme.refl s
theorem schk_ok{sc:Sh.Sc}(h:Sh.schk sc=0):(0<sc.ps.length∧sc.ps.length≤8)∧(∀q∈sc.ps,q.length≤32)∧sc.pl.length≤200∧sc.dr.length≤64∧Sh.ari sc.ps.length sc.ps=true∧(∀x∈sc.pl,-1≤x∧x≤1000)∧∀x∈sc.dr,0≤x∧x≤1000:=by
 unfold Sh.schk at h
 cases h1:!((decide (1≤sc.T)&&decide (sc.T≤256))&&(decide (1≤sc.M)&&decide (sc.M≤1048576)))
 ·rw[h1] at h
  cases h2:Sh.isl sc.ps sc.pl.length sc.dr.length
  ·rw[h2] at h
   cases h3:!(!decide (sc.ps.length=0)&&Sh.ari sc.ps.length sc.ps)
   ·rw[h3] at h
    cases h4:!(Sh.ab (-1) 1000 sc.pl&&Sh.ab 0 1000 sc.dr)
    ·simp only[Bool.not_eq_false',Bool.and_eq_true,Bool.not_eq_true',decide_eq_false_iff_not] at h3 h4
     unfold Sh.isl at h2
     simp only[Bool.or_eq_false_iff,decide_eq_false_iff_not,List.any_eq_false,decide_eq_true_eq] at h2
     have q1:=(Sh.ab_iff _ _ _).1 h4.1
     have q2:=(Sh.ab_iff _ _ _).1 h4.2
     refine⟨⟨by omega,by omega⟩,fun q hq=>by have:=h2.1 q hq;omega,by omega,by omega,h3.2,q1,q2⟩
    ·rw[h4] at h
     simp at h
   ·rw[h3] at h
    simp at h
  ·rw[h2] at h
   simp at h
 ·rw[h1] at h
  simp at h
theorem abl_mem:∀(l:List Mb) (j:Nat) (x:Int),x∈Cr.ablF j l→∃(k:Nat) (y:Mb),x=((j+k:Nat):Int)∧l[k]? =some y∧y.s=0:=by
 intro l
 induction l with
 |nil=>intro j x h;simp[Cr.ablF] at h
 |cons y l ih=>
  intro j x h
  unfold Cr.ablF at h
  split at h
  ·rw[List.mem_cons] at h
   rcases h with q|q
   ·exact⟨0,y,by rw[q];simp,rfl,by assumption⟩
   ·obtain⟨k,z,e,e2,e3⟩:=ih (j+1) x q
    exact⟨k+1,z,by rw[e];congr 1;omega,by simpa using e2,e3⟩
  ·obtain⟨k,z,e,e2,e3⟩:=ih (j+1) x h
   exact⟨k+1,z,by rw[e];congr 1;omega,by simpa using e2,e3⟩
theorem abl_pos:∀(l:List Mb) (j:Nat),Cr.hasS l 0=true→0<(Cr.ablF j l).length:=by
 intro l
 induction l with
 |nil=>intro j h;simp[Cr.hasS] at h
 |cons y l ih=>
  intro j h
  unfold Cr.ablF
  split
  ·simp
  ·rename_i hs
   apply ih
   unfold Cr.hasS at h ⊢
   rw[List.any_cons] at h
   have:(y.s==0)=false:=by simp[hs]
   rw[this] at h
   simpa using h
theorem who_ok{s:Lm}(hv:verd s=0)(ht:0≤nth s.p 0):∃(k:Nat) (y:Mb),whoN s=(k:Int)∧s.cr[k]? =some y∧y.s=0:=by
 unfold verd at hv
 split at hv
 ·omega
 ·split at hv
  ·omega
  ·rename_i h1
   have h2:Cr.hasS s.cr 0=true:=by
    cases hh:Cr.hasS s.cr 0
    ·exfalso
     apply h1
     unfold Cr.ovr
     rw[hh]
     simp
     split<;>omega
    ·rfl
   have hp:=abl_pos s.cr 0 h2
   have hlt:(nth s.p 0).toNat % (Cr.abl s.cr).length<(Cr.abl s.cr).length:=Nat.mod_lt _ hp
   have hm:whoN s∈Cr.ablF 0 s.cr:=by
    unfold whoN Pk.ofx
    rw[if_neg (by omega),if_neg (by have:(Cr.abl s.cr).length=(Cr.ablF 0 s.cr).length:=rfl;omega),nth_lt _ _ hlt]
    exact List.getElem_mem hlt
   obtain⟨k,y,e,e2,e3⟩:=abl_mem s.cr 0 _ hm
   exact⟨k,y,by rw[e];simp,e2,e3⟩
theorem exit_chk{n:Nat}(h:0<n)(h8:n≤8):De.chk exitO (n:Int)=0:=by
 unfold De.chk exitO
 have h1:De.okP (n:Int)=true:=by unfold De.okP;simp;omega
 rw[h1]
 simp[De.upB,De.mA,De.mB]
structure Inv(sc:Sh.Sc)(n:Nat)(s:Lm):Prop where
 ps:s.ps=sc.ps
 b:B1 sc.ps.length (2*n*n+2*n) n (4*n) (n+1) n s
 p:s.p=sc.pl.drop n
 d:∀x∈s.d,0≤x
 dl:s.d.length≤64
 le:n≤sc.pl.length
theorem Inv.new{sc:Sh.Sc}(h:Sh.schk sc=0):Inv sc 0 (newS sc):=by
 obtain⟨h1,h2,h3,h4,h5,h6,h7⟩:=schk_ok h
 refine⟨rfl,⟨⟨?_,by simp[newS]⟩,?_,by simp[newS],?_,by simp[newS],by simp[newS],by simp[newS]⟩,by simp[newS],fun x hx=>(h7 x hx).1,h4,Nat.zero_le _⟩
 ·intro x hx
  simp[newS] at hx
  rw[hx]
  simp
 ·intro x hx
  simp[newS] at hx
  rw[hx]
  simp
  omega
 ·intro i st e
  have:=List.mem_of_getElem? e
  simp[newS] at this
theorem sq_step(n:Nat):2*(n+1)*(n+1)+2*(n+1)=2*n*n+2*n+(4*n+4):=by
 have:2*(n+1)*(n+1)=2*n*n+4*n+2:=by
  simp only[Nat.mul_add,Nat.add_mul]
  omega
 omega
theorem op_chk{sc:Sh.Sc}{n:Nat}{s:Lm}(h:Sh.schk sc=0)(i:Inv sc n s)(g:Int):De.chk (opOf s g) sc.ps.length=0:=by
 obtain⟨h1,-,-,-,h5,-,-⟩:=schk_ok h
 unfold opOf
 rw[i.ps]
 cases hp:sc.ps[(Cr.one0 (Cr.gt s.cr g)).p.toNat]? with
 |none=>simp;exact exit_chk h1.1 h1.2
 |some P=>
  simp only[Option.getD_some]
  cases ho:P[(Cr.one0 (Cr.gt s.cr g)).q.toNat]? with
  |none=>exact exit_chk h1.1 h1.2
  |some o=>exact Sh.ari_of h5 hp ho
theorem Inv.step{sc:Sh.Sc}{n:Nat}{s:Lm}(h:Sh.schk sc=0)(i:Inv sc n s)(hv:verd s=0):Inv sc (n+1) (stepF s):=by
 obtain⟨h1,h2,h3,h4,h5,h6,h7⟩:=schk_ok h
 have hpl:0<s.p.length:=by
  unfold verd at hv
  split at hv
  ·omega
  ·split at hv
   ·omega
   ·split at hv
    ·omega
    ·omega
 have hn:n<sc.pl.length:=by
  rw[i.p,List.length_drop] at hpl
  omega
 have hp':s.p.tail=sc.pl.drop (n+1):=by rw[i.p,List.tail_drop]
 have b0:B1 sc.ps.length (2*n*n+2*n) n (4*n) (n+1) n {s with p:=s.p.tail}:=⟨⟨i.b.bw.cb,i.b.bw.tn⟩,i.b.cp,i.b.cl,i.b.sb,i.b.sl,i.b.nl,i.b.md⟩
 have hs:=sq_step n
 unfold stepF
 rw[if_neg (by omega)]
 split
 ·refine⟨i.ps,?_,hp',i.d,i.dl,by omega⟩
  exact (b0.tell _).mono (by omega) (by omega) (by omega) (by omega) (by omega)
 ·have sm:=sme_do {s with p:=s.p.tail} (whoN s) (opOf s (whoN s))
  refine⟨sm.ps.trans i.ps,?_,sm.p.trans hp',fun x hx=>i.d x (sm.d x hx),Nat.le_trans sm.dl i.dl,by omega⟩
  exact (b0.do_ _ _ (op_chk h i _)).mono (by omega) (by omega) (by omega) (by omega) (by omega)
end Lo
open Go.ChangeShapes Go.WideShapes Go.ChangeAt Go.RowKit
namespace En
open Ba Re
def spn(e:Ev):List Int:=
 if e.k=1 then [0,511,-1,-1,-1,-1,0,7,0,511]
 else if e.k=2 then [0,511,0,511,-1,-1,0,4,-1,-1]
 else if e.k=3∨e.k=4∨e.k=7 then [0,511,0,511,-1,3,0,vm e,ml e,mh e]
 else if e.k=5 then [0,511,0,511,-1,-1,-1,-1,-1,-1]
 else if e.k=6 then if (e.a !=-1)=true then [0,511,-1,-1,-1,4,0,vm e,-1,-1] else [0,511,-1,511,-1,4,0,vm e,-1,-1]
 else if e.k=9∨e.k=10 then [0,511,-1,-1,-1,-1,0,7,-1,-1]
 else if e.k=13 then [-1,-1,-1,-1,-1,-1,-1,-1,-1,-1]
 else [0,511,-1,-1,-1,-1,-1,-1,-1,-1]
theorem size_a10:(Tryz.prog.info? 229).map (·.size)=some 10:=by kernel_rfl
theorem loadVar_a10{w:World}{b:Nat}{c:Array Value}{t:TypeId}(h:w.heap[b]? =some (.cells c t (0,0)))(hc:c.size=10):(loadVar 229 ⟨b,0,none⟩).run Tryz.prog w=.ok (.agg c) w:=
 run_loadVar_row w b t _ _ _ _ h Tryz.underlying229 rfl (by rw[size_a10,hc])
theorem in5(w:World)(a b c d e:Obj):(((((w.alloc a).alloc b).alloc c).alloc d).alloc e).heap[w.heap.size+1]? =some b:=heap_below (heap_new2 w a b) (btr (btr (below_alloc _ _) (below_alloc _ _)) (below_alloc _ _))
theorem below5(w:World)(a b c d e:Obj):Below w.heap.size w (((((w.alloc a).alloc b).alloc c).alloc d).alloc e):=btr (btr (btr (btr (below_alloc _ _) (below_alloc _ _)) (below_alloc _ _)) (below_alloc _ _)) (below_alloc _ _)
set_option maxRecDepth 100000 in
theorem spans1(e:Ev)(w:World)(hk:e.k=1):
 Calls Tryz.prog 158 #[evv e] w fun r w'=>r=.returned (.agg (row (spn e)))∧Below w.heap.size w w':=by
 have HS:Hid (spn e=[0,511,-1,-1,-1,-1,0,7,0,511]):=by show _=_;unfold spn;simp[hk]
 obtain⟨k,g,c,a,v,m,s,o⟩:=e
 simp only at hk
 subst hk
 unfold evv evc
 go_enter Tryz.func158,Tryz.ntmps158
 go_wp2_with fail
 go_region
 all_goals
  go_wp2_with fail
  exact bodyPost_ret (results_row1 Tryz.results158 _ _ _ _ rfl (loadVar_a10 (heap_below (in5 _ _ _ _ _ _) (bdrew1 _)) rfl)) rfl ⟨by rw[HS.out];rfl,btr (below5 _ _ _ _ _ _) (bdrew1 _)⟩
set_option maxRecDepth 100000 in
theorem spans2(e:Ev)(w:World)(hk:e.k=2):
 Calls Tryz.prog 158 #[evv e] w fun r w'=>r=.returned (.agg (row (spn e)))∧Below w.heap.size w w':=by
 have HS:Hid (spn e=[0,511,0,511,-1,-1,0,4,-1,-1]):=by show _=_;unfold spn;simp[hk]
 obtain⟨k,g,c,a,v,m,s,o⟩:=e
 simp only at hk
 subst hk
 unfold evv evc
 go_enter Tryz.func158,Tryz.ntmps158
 go_wp2_with fail
 exact bodyPost_ret (results_row1 Tryz.results158 _ _ _ _ rfl (loadVar_a10 (in5 _ _ _ _ _ _) rfl)) rfl ⟨by rw[HS.out];rfl,below5 _ _ _ _ _ _⟩
set_option maxRecDepth 100000 in
theorem spans5(e:Ev)(w:World)(hk:e.k=5):
 Calls Tryz.prog 158 #[evv e] w fun r w'=>r=.returned (.agg (row (spn e)))∧Below w.heap.size w w':=by
 have HS:Hid (spn e=[0,511,0,511,-1,-1,-1,-1,-1,-1]):=by show _=_;unfold spn;simp[hk]
 obtain⟨k,g,c,a,v,m,s,o⟩:=e
 simp only at hk
 subst hk
 unfold evv evc
 go_enter Tryz.func158,Tryz.ntmps158
 go_wp2_with fail
 exact bodyPost_ret (results_row1 Tryz.results158 _ _ _ _ rfl (loadVar_a10 (in5 _ _ _ _ _ _) rfl)) rfl ⟨by rw[HS.out];rfl,below5 _ _ _ _ _ _⟩
set_option maxRecDepth 100000 in
theorem spans8(e:Ev)(w:World)(hk:e.k=8):
 Calls Tryz.prog 158 #[evv e] w fun r w'=>r=.returned (.agg (row (spn e)))∧Below w.heap.size w w':=by
 have HS:Hid (spn e=[0,511,-1,-1,-1,-1,-1,-1,-1,-1]):=by show _=_;unfold spn;simp[hk]
 obtain⟨k,g,c,a,v,m,s,o⟩:=e
 simp only at hk
 subst hk
 unfold evv evc
 go_enter Tryz.func158,Tryz.ntmps158
 go_wp2_with fail
 exact bodyPost_ret (results_row1 Tryz.results158 _ _ _ _ rfl (loadVar_a10 (in5 _ _ _ _ _ _) rfl)) rfl ⟨by rw[HS.out];rfl,below5 _ _ _ _ _ _⟩
set_option maxRecDepth 100000 in
theorem spans11(e:Ev)(w:World)(hk:e.k=11):
 Calls Tryz.prog 158 #[evv e] w fun r w'=>r=.returned (.agg (row (spn e)))∧Below w.heap.size w w':=by
 have HS:Hid (spn e=[0,511,-1,-1,-1,-1,-1,-1,-1,-1]):=by show _=_;unfold spn;simp[hk]
 obtain⟨k,g,c,a,v,m,s,o⟩:=e
 simp only at hk
 subst hk
 unfold evv evc
 go_enter Tryz.func158,Tryz.ntmps158
 go_wp2_with fail
 exact bodyPost_ret (results_row1 Tryz.results158 _ _ _ _ rfl (loadVar_a10 (in5 _ _ _ _ _ _) rfl)) rfl ⟨by rw[HS.out];rfl,below5 _ _ _ _ _ _⟩
set_option maxRecDepth 100000 in
theorem spans12(e:Ev)(w:World)(hk:e.k=12):
 Calls Tryz.prog 158 #[evv e] w fun r w'=>r=.returned (.agg (row (spn e)))∧Below w.heap.size w w':=by
 have HS:Hid (spn e=[0,511,-1,-1,-1,-1,-1,-1,-1,-1]):=by show _=_;unfold spn;simp[hk]
 obtain⟨k,g,c,a,v,m,s,o⟩:=e
 simp only at hk
 subst hk
 unfold evv evc
 go_enter Tryz.func158,Tryz.ntmps158
 go_wp2_with fail
 exact bodyPost_ret (results_row1 Tryz.results158 _ _ _ _ rfl (loadVar_a10 (in5 _ _ _ _ _ _) rfl)) rfl ⟨by rw[HS.out];rfl,below5 _ _ _ _ _ _⟩
set_option maxRecDepth 100000 in
theorem spans9(e:Ev)(w:World)(hk:e.k=9):
 Calls Tryz.prog 158 #[evv e] w fun r w'=>r=.returned (.agg (row (spn e)))∧Below w.heap.size w w':=by
 have HS:Hid (spn e=[0,511,-1,-1,-1,-1,0,7,-1,-1]):=by show _=_;unfold spn;simp[hk]
 obtain⟨k,g,c,a,v,m,s,o⟩:=e
 simp only at hk
 subst hk
 unfold evv evc
 go_enter Tryz.func158,Tryz.ntmps158
 go_wp2_with fail
 exact bodyPost_ret (results_row1 Tryz.results158 _ _ _ _ rfl (loadVar_a10 (in5 _ _ _ _ _ _) rfl)) rfl ⟨by rw[HS.out];rfl,below5 _ _ _ _ _ _⟩
set_option maxRecDepth 100000 in
theorem spans10(e:Ev)(w:World)(hk:e.k=10):
 Calls Tryz.prog 158 #[evv e] w fun r w'=>r=.returned (.agg (row (spn e)))∧Below w.heap.size w w':=by
 have HS:Hid (spn e=[0,511,-1,-1,-1,-1,0,7,-1,-1]):=by show _=_;unfold spn;simp[hk]
 obtain⟨k,g,c,a,v,m,s,o⟩:=e
 simp only at hk
 subst hk
 unfold evv evc
 go_enter Tryz.func158,Tryz.ntmps158
 go_wp2_with fail
 exact bodyPost_ret (results_row1 Tryz.results158 _ _ _ _ rfl (loadVar_a10 (in5 _ _ _ _ _ _) rfl)) rfl ⟨by rw[HS.out];rfl,below5 _ _ _ _ _ _⟩
set_option maxRecDepth 100000 in
theorem spans13(e:Ev)(w:World)(hk:e.k=13):
 Calls Tryz.prog 158 #[evv e] w fun r w'=>r=.returned (.agg (row (spn e)))∧Below w.heap.size w w':=by
 have HS:Hid (spn e=[-1,-1,-1,-1,-1,-1,-1,-1,-1,-1]):=by show _=_;unfold spn;simp[hk]
 obtain⟨k,g,c,a,v,m,s,o⟩:=e
 simp only at hk
 subst hk
 unfold evv evc
 go_enter Tryz.func158,Tryz.ntmps158
 go_wp2_with fail
 exact bodyPost_ret (results_row1 Tryz.results158 _ _ _ _ rfl (loadVar_a10 (in5 _ _ _ _ _ _) rfl)) rfl ⟨by rw[HS.out];rfl,below5 _ _ _ _ _ _⟩
end En
namespace En
open Ba Re
theorem cellB{w w':World}{b i:Nat}{v:Value}(h:w.cell? ⟨b,i,none⟩=some v)(hb:Below w.heap.size w w'):w'.cell? ⟨b,i,none⟩=some v:=(hb.cell (World.block_lt_of_cell? w _ h)).trans h
theorem cellS{w:World}{b i R j:Nat}{v u:Value}(h:w.cell? ⟨b,i,none⟩=some v)(hb:b≠R):(w.setCell ⟨R,j,none⟩ u).cell? ⟨b,i,none⟩=some v:=((KB.refl R w).setCell j u).cell h hb
structure SpW(w u:World)(N:Nat)(e:Ev)(r:List Int):Prop where
 ev:u.heap[N]? =some (.cells (evc e) 40 (0,0))
 rs:u.heap[N+1]? =some (.cells #[.int .i64 0,.int .i64 0,.int .i64 0,.int .i64 0,.int .i64 0,.int .i64 0,.int .i64 0,.int .i64 0,.int .i64 0,.int .i64 0] 229 (0,0))
 no:u.heap[N+1+1]? =some (.cells #[.int .i64 (-1),.int .i64 (-1)] 228 (0,0))
 nu:u.heap[N+1+1+1]? =some (.cells #[.int .i64 0,.int .i64 511] 228 (0,0))
 rw:u.heap[N+1+1+1+1]? =some (.cells (row r) 229 (0,0))
 ln:r.length=10
 b:Below N w u
theorem SpW.below{w u v:World}{N:Nat}{e:Ev}{r:List Int}(h:SpW w u N e r)(hb:Below u.heap.size u v):SpW w v N e r:=
 ⟨heap_below h.ev hb,heap_below h.rs hb,heap_below h.no hb,heap_below h.nu hb,heap_below h.rw hb,h.ln,h.b.trans (hb.mono (by have:=Ba.heap_lt h.ev;omega))⟩
theorem row_set(m:List Int)(k:Nat)(x:Int):(row m).setIfInBounds k (.int .i64 x)=row (m.set k x):=by
 apply Array.ext
 ·simp[row]
 ·intro j h1 h2
  simp[row,List.getElem_set]
theorem SpW.set{w u:World}{N:Nat}{e:Ev}{r:List Int}(h:SpW w u N e r)(i:Nat)(x:Int):SpW w (u.setCell ⟨N+1+1+1+1,i,none⟩ (.int .i64 x)) N e (r.set i x):=by
 have K:=(KB.refl (N+1+1+1+1) u).setCell i (.int .i64 x)
 exact⟨K.heap h.ev (by omega),K.heap h.rs (by omega),K.heap h.no (by omega),K.heap h.nu (by omega),(Ba.heap_setCell_same h.rw _).trans (by rw[row_set]),by rw[List.length_set];exact h.ln,h.b.setCell (p:=⟨N+1+1+1+1,i,none⟩) (by show N≤N+1+1+1+1;omega) _⟩
theorem SpW.start(w:World)(e:Ev):SpW w (((((w.alloc (.cells (evc e) 40)).alloc (.cells #[.int .i64 0,.int .i64 0,.int .i64 0,.int .i64 0,.int .i64 0,.int .i64 0,.int .i64 0,.int .i64 0,.int .i64 0,.int .i64 0] 229)).alloc (.cells #[.int .i64 (-1),.int .i64 (-1)] 228)).alloc (.cells #[.int .i64 0,.int .i64 511] 228)).alloc (.cells (row [0,511,-1,-1,-1,-1,-1,-1,-1,-1]) 229)) w.heap.size e [0,511,-1,-1,-1,-1,-1,-1,-1,-1]:=by
 have s1:=World.size_alloc w (.cells (evc e) 40)
 have s2:=World.size_alloc (w.alloc (.cells (evc e) 40)) (.cells #[.int .i64 0,.int .i64 0,.int .i64 0,.int .i64 0,.int .i64 0,.int .i64 0,.int .i64 0,.int .i64 0,.int .i64 0,.int .i64 0] 229)
 refine⟨heap_below (heap_new _ _) (btr (btr (btr (below_alloc _ _) (below_alloc _ _)) (below_alloc _ _)) (below_alloc _ _)),in5 _ _ _ _ _ _,?_,?_,?_,rfl,below5 _ _ _ _ _ _⟩
 ·have q:=heap_new2 (w.alloc (.cells (evc e) 40)) (.cells #[.int .i64 0,.int .i64 0,.int .i64 0,.int .i64 0,.int .i64 0,.int .i64 0,.int .i64 0,.int .i64 0,.int .i64 0,.int .i64 0] 229) (.cells #[.int .i64 (-1),.int .i64 (-1)] 228)
  rw[s1] at q
  exact heap_below q (btr (below_alloc _ _) (below_alloc _ _))
 ·have q:=heap_new2 ((w.alloc (.cells (evc e) 40)).alloc (.cells #[.int .i64 0,.int .i64 0,.int .i64 0,.int .i64 0,.int .i64 0,.int .i64 0,.int .i64 0,.int .i64 0,.int .i64 0,.int .i64 0] 229)) (.cells #[.int .i64 (-1),.int .i64 (-1)] 228) (.cells #[.int .i64 0,.int .i64 511] 228)
  rw[s2,s1] at q
  exact heap_below q (below_alloc _ _)
 ·have q:=heap_new2 (((w.alloc (.cells (evc e) 40)).alloc (.cells #[.int .i64 0,.int .i64 0,.int .i64 0,.int .i64 0,.int .i64 0,.int .i64 0,.int .i64 0,.int .i64 0,.int .i64 0,.int .i64 0] 229)).alloc (.cells #[.int .i64 (-1),.int .i64 (-1)] 228)) (.cells #[.int .i64 0,.int .i64 511] 228) (.cells (row [0,511,-1,-1,-1,-1,-1,-1,-1,-1]) 229)
  rw[World.size_alloc,s2,s1] at q
  exact q
theorem ten_set{w:World}{b:Nat}{z:List Int}{t:TypeId}(hz:z.length=10)(h:w.heap[b]? =some (.cells (row z) t (0,0)))(x0 x1 x2 x3 x4 x5 x6 x7 x8 x9:Int):(((((((((((w.setCell ⟨b,0,none⟩ ((.int .i64 x0))).setCell ⟨b,1,none⟩ ((.int .i64 x1))).setCell ⟨b,2,none⟩ ((.int .i64 x2))).setCell ⟨b,3,none⟩ ((.int .i64 x3))).setCell ⟨b,4,none⟩ ((.int .i64 x4))).setCell ⟨b,5,none⟩ ((.int .i64 x5))).setCell ⟨b,6,none⟩ ((.int .i64 x6))).setCell ⟨b,7,none⟩ ((.int .i64 x7))).setCell ⟨b,8,none⟩ ((.int .i64 x8))).setCell ⟨b,9,none⟩ ((.int .i64 x9)))).heap[b]? =some (.cells (row [x0,x1,x2,x3,x4,x5,x6,x7,x8,x9]) t (0,0)):=by
 have q:=(Ba.heap_setCell_same (i:=9) (Ba.heap_setCell_same (i:=8) (Ba.heap_setCell_same (i:=7) (Ba.heap_setCell_same (i:=6) (Ba.heap_setCell_same (i:=5) (Ba.heap_setCell_same (i:=4) (Ba.heap_setCell_same (i:=3) (Ba.heap_setCell_same (i:=2) (Ba.heap_setCell_same (i:=1) (Ba.heap_setCell_same (i:=0) h (.int .i64 x0)) (.int .i64 x1)) (.int .i64 x2)) (.int .i64 x3)) (.int .i64 x4)) (.int .i64 x5)) (.int .i64 x6)) (.int .i64 x7)) (.int .i64 x8)) (.int .i64 x9))
 simp only[row_set] at q
 rw[q]
 match z,hz with
 |[_,_,_,_,_,_,_,_,_,_],_=>rfl
theorem ten_below{n:Nat}{w v:World}{b:Nat}(h:Below n w v)(hb:n≤b)(u0 u1 u2 u3 u4 u5 u6 u7 u8 u9:Value):Below n w (((((((((((v.setCell ⟨b,0,none⟩ (u0)).setCell ⟨b,1,none⟩ (u1)).setCell ⟨b,2,none⟩ (u2)).setCell ⟨b,3,none⟩ (u3)).setCell ⟨b,4,none⟩ (u4)).setCell ⟨b,5,none⟩ (u5)).setCell ⟨b,6,none⟩ (u6)).setCell ⟨b,7,none⟩ (u7)).setCell ⟨b,8,none⟩ (u8)).setCell ⟨b,9,none⟩ (u9))):=
 ((((((((((h.setCell (p:=⟨b,0,none⟩) hb u0).setCell (p:=⟨b,1,none⟩) hb u1).setCell (p:=⟨b,2,none⟩) hb u2).setCell (p:=⟨b,3,none⟩) hb u3).setCell (p:=⟨b,4,none⟩) hb u4).setCell (p:=⟨b,5,none⟩) hb u5).setCell (p:=⟨b,6,none⟩) hb u6).setCell (p:=⟨b,7,none⟩) hb u7).setCell (p:=⟨b,8,none⟩) hb u8).setCell (p:=⟨b,9,none⟩) hb u9)
set_option maxRecDepth 100000 in
theorem spans3(e:Ev)(w:World)(hk:e.k=3):
 Calls Tryz.prog 158 #[evv e] w fun r w'=>r=.returned (.agg (row (spn e)))∧Below w.heap.size w w':=by
 have HS:Hid (spn e=[0,511,0,511,-1,3,0,vm e,ml e,mh e]):=by show _=_;unfold spn;simp[hk]
 have S1:=hide (SpW.start w e)
 have VA:=hide fun u=>values_any e u
 have MA:=hide fun u=>mates_any e u
 obtain⟨k,g,c,a,v,m,s,o⟩:=e
 simp only at hk
 subst hk
 generalize vm (Ev.mk 3 g c a v m s o)=xv at HS VA
 generalize ml (Ev.mk 3 g c a v m s o)=xl at HS MA
 generalize mh (Ev.mk 3 g c a v m s o)=xh at HS MA
 generalize spn (Ev.mk 3 g c a v m s o)=sp at HS ⊢
 obtain rfl:=HS.out
 clear HS
 unfold evv evc at VA MA ⊢
 simp only at VA MA
 simp only[evc,row,List.map_cons,List.map_nil] at S1
 go_enter Tryz.func158,Tryz.ntmps158
 go_wp2_with fail
 generalize (((((w.alloc (.cells #[.int .i64 3,.int .i64 g,.int .i64 c,.int .i64 a,.int .i64 v,.int .i64 m,.bool s,.bool o] 40)).alloc (.cells #[.int .i64 0,.int .i64 0,.int .i64 0,.int .i64 0,.int .i64 0,.int .i64 0,.int .i64 0,.int .i64 0,.int .i64 0,.int .i64 0] 229)).alloc (.cells #[.int .i64 (-1),.int .i64 (-1)] 228)).alloc (.cells #[.int .i64 0,.int .i64 511] 228)).alloc (.cells #[.int .i64 0,.int .i64 511,.int .i64 (-1),.int .i64 (-1),.int .i64 (-1),.int .i64 (-1),.int .i64 (-1),.int .i64 (-1),.int .i64 (-1),.int .i64 (-1)] 229))=W at S1 ⊢
 generalize hN:w.heap.size=N at S1 ⊢
 have HN:=hide hN
 clear hN
 have y0:W.cell? ⟨N,0,none⟩=some (.int .i64 3):=cell_of S1.out.ev 0
 have y1:W.cell? ⟨N,1,none⟩=some (.int .i64 g):=cell_of S1.out.ev 1
 have y2:W.cell? ⟨N,2,none⟩=some (.int .i64 c):=cell_of S1.out.ev 2
 have y3:W.cell? ⟨N,3,none⟩=some (.int .i64 a):=cell_of S1.out.ev 3
 have y4:W.cell? ⟨N,4,none⟩=some (.int .i64 v):=cell_of S1.out.ev 4
 have y5:W.cell? ⟨N,5,none⟩=some (.int .i64 m):=cell_of S1.out.ev 5
 have y6:W.cell? ⟨N,6,none⟩=some (.bool s):=cell_of S1.out.ev 6
 have y7:W.cell? ⟨N,7,none⟩=some (.bool o):=cell_of S1.out.ev 7
 have n0:W.cell? ⟨N+1+1+1,0,none⟩=some (.int .i64 0):=cell_of S1.out.nu 0
 have n1:W.cell? ⟨N+1+1+1,1,none⟩=some (.int .i64 511):=cell_of S1.out.nu 1
 go_region_held3 (fun w'=>w'.cell? ⟨N,0,none⟩=some (.int .i64 3)∧w'.cell? ⟨N,1,none⟩=some (.int .i64 g)∧w'.cell? ⟨N,2,none⟩=some (.int .i64 c)∧w'.cell? ⟨N,3,none⟩=some (.int .i64 a)∧w'.cell? ⟨N,4,none⟩=some (.int .i64 v)∧w'.cell? ⟨N,5,none⟩=some (.int .i64 m)∧w'.cell? ⟨N,6,none⟩=some (.bool s)∧w'.cell? ⟨N,7,none⟩=some (.bool o)∧w'.cell? ⟨N+1+1+1,0,none⟩=some (.int .i64 0)∧w'.cell? ⟨N+1+1+1,1,none⟩=some (.int .i64 511))
  (first
    |(go_split_ands;refine⟨?_,?_,?_,?_,?_,?_,?_,?_,?_,?_⟩<;>(with_reducible (refine cellS (cellS ?_ ?_) ?_))<;>(first|with_reducible assumption|omega))
    |(go_split_ands;refine⟨?_,?_,?_,?_,?_,?_,?_,?_,?_,?_⟩<;>(with_reducible (refine cellB ?_ c5))<;>with_reducible assumption)
    |go_keep)
  ((go_at_call 179;refine (VA.out _).mono ?_;rintro r w5 ⟨rfl,c5⟩;have S5:=hide ((S1.out.below (bdrew1 _)).below c5);have r2:w5.cell? ⟨N+1+1+1+1,2,none⟩=some (.int .i64 (-1)):=cell_of S5.out.rw 2;have r3:w5.cell? ⟨N+1+1+1+1,3,none⟩=some (.int .i64 (-1)):=cell_of S5.out.rw 3;have r4:w5.cell? ⟨N+1+1+1+1,4,none⟩=some (.int .i64 (-1)):=cell_of S5.out.rw 4;have r5:w5.cell? ⟨N+1+1+1+1,5,none⟩=some (.int .i64 (-1)):=cell_of S5.out.rw 5;have r6:w5.cell? ⟨N+1+1+1+1,6,none⟩=some (.int .i64 (-1)):=cell_of S5.out.rw 6;have r7:w5.cell? ⟨N+1+1+1+1,7,none⟩=some (.int .i64 (-1)):=cell_of S5.out.rw 7;have z2:=frozen_of S5.out.rw 2;have z3:=frozen_of S5.out.rw 3;have z4:=frozen_of S5.out.rw 4;have z5:=frozen_of S5.out.rw 5;have z6:=frozen_of S5.out.rw 6;have z7:=frozen_of S5.out.rw 7))
 have S6:Hid (SpW w ((((((w5.setCell ⟨N+1+1+1+1,2,none⟩ (.int .i64 0)).setCell ⟨N+1+1+1+1,3,none⟩ (.int .i64 511)).setCell ⟨N+1+1+1+1,4,none⟩ (.int .i64 (-1))).setCell ⟨N+1+1+1+1,5,none⟩ (.int .i64 3)).setCell ⟨N+1+1+1+1,6,none⟩ (.int .i64 0)).setCell ⟨N+1+1+1+1,7,none⟩ (.int .i64 xv)) N (Ev.mk 3 g c a v m s o) [0,511,0,511,-1,3,0,xv,-1,-1]):=((((((S5.out.set 2 0).set 3 511).set 4 (-1)).set 5 3).set 6 0).set 7 xv)
 clear S5 S1 c5
 generalize ((((((w5.setCell ⟨N+1+1+1+1,2,none⟩ (.int .i64 0)).setCell ⟨N+1+1+1+1,3,none⟩ (.int .i64 511)).setCell ⟨N+1+1+1+1,4,none⟩ (.int .i64 (-1))).setCell ⟨N+1+1+1+1,5,none⟩ (.int .i64 3)).setCell ⟨N+1+1+1+1,6,none⟩ (.int .i64 0)).setCell ⟨N+1+1+1+1,7,none⟩ (.int .i64 xv))=U at S6 ⊢
 have y0:U.cell? ⟨N,0,none⟩=some (.int .i64 3):=cell_of S6.out.ev 0
 have y1:U.cell? ⟨N,1,none⟩=some (.int .i64 g):=cell_of S6.out.ev 1
 have y2:U.cell? ⟨N,2,none⟩=some (.int .i64 c):=cell_of S6.out.ev 2
 have y3:U.cell? ⟨N,3,none⟩=some (.int .i64 a):=cell_of S6.out.ev 3
 have y4:U.cell? ⟨N,4,none⟩=some (.int .i64 v):=cell_of S6.out.ev 4
 have y5:U.cell? ⟨N,5,none⟩=some (.int .i64 m):=cell_of S6.out.ev 5
 have y6:U.cell? ⟨N,6,none⟩=some (.bool s):=cell_of S6.out.ev 6
 have y7:U.cell? ⟨N,7,none⟩=some (.bool o):=cell_of S6.out.ev 7
 go_wp2_with fail
 refine (MA.out _).mono ?_
 rintro r w7 ⟨rfl,b7⟩
 have S7:=hide (S6.out.below b7)
 clear b7 S6 VA MA
 have r0:w7.cell? ⟨N+1+1+1+1,0,none⟩=some (.int .i64 0):=cell_of S7.out.rw 0
 have r1:w7.cell? ⟨N+1+1+1+1,1,none⟩=some (.int .i64 511):=cell_of S7.out.rw 1
 have r2:w7.cell? ⟨N+1+1+1+1,2,none⟩=some (.int .i64 0):=cell_of S7.out.rw 2
 have r3:w7.cell? ⟨N+1+1+1+1,3,none⟩=some (.int .i64 511):=cell_of S7.out.rw 3
 have r4:w7.cell? ⟨N+1+1+1+1,4,none⟩=some (.int .i64 (-1)):=cell_of S7.out.rw 4
 have r5:w7.cell? ⟨N+1+1+1+1,5,none⟩=some (.int .i64 3):=cell_of S7.out.rw 5
 have r6:w7.cell? ⟨N+1+1+1+1,6,none⟩=some (.int .i64 0):=cell_of S7.out.rw 6
 have r7:w7.cell? ⟨N+1+1+1+1,7,none⟩=some (.int .i64 xv):=cell_of S7.out.rw 7
 have r8:w7.cell? ⟨N+1+1+1+1,8,none⟩=some (.int .i64 (-1)):=cell_of S7.out.rw 8
 have r9:w7.cell? ⟨N+1+1+1+1,9,none⟩=some (.int .i64 (-1)):=cell_of S7.out.rw 9
 have t0:w7.cell? ⟨N+1,0,none⟩=some (.int .i64 0):=cell_of S7.out.rs 0
 have t1:w7.cell? ⟨N+1,1,none⟩=some (.int .i64 0):=cell_of S7.out.rs 1
 have t2:w7.cell? ⟨N+1,2,none⟩=some (.int .i64 0):=cell_of S7.out.rs 2
 have t3:w7.cell? ⟨N+1,3,none⟩=some (.int .i64 0):=cell_of S7.out.rs 3
 have t4:w7.cell? ⟨N+1,4,none⟩=some (.int .i64 0):=cell_of S7.out.rs 4
 have t5:w7.cell? ⟨N+1,5,none⟩=some (.int .i64 0):=cell_of S7.out.rs 5
 have t6:w7.cell? ⟨N+1,6,none⟩=some (.int .i64 0):=cell_of S7.out.rs 6
 have t7:w7.cell? ⟨N+1,7,none⟩=some (.int .i64 0):=cell_of S7.out.rs 7
 have t8:w7.cell? ⟨N+1,8,none⟩=some (.int .i64 0):=cell_of S7.out.rs 8
 have t9:w7.cell? ⟨N+1,9,none⟩=some (.int .i64 0):=cell_of S7.out.rs 9
 have f0:=frozen_of S7.out.rs 0
 have f1:=frozen_of S7.out.rs 1
 have f2:=frozen_of S7.out.rs 2
 have f3:=frozen_of S7.out.rs 3
 have f4:=frozen_of S7.out.rs 4
 have f5:=frozen_of S7.out.rs 5
 have f6:=frozen_of S7.out.rs 6
 have f7:=frozen_of S7.out.rs 7
 have f8:=frozen_of S7.out.rs 8
 have f9:=frozen_of S7.out.rs 9
 have z8:=frozen_of S7.out.rw 8
 have z9:=frozen_of S7.out.rw 9
 have S9:=hide ((S7.out.set 8 xl).set 9 xh)
 go_wp2_with fail
 exact bodyPost_ret (results_row1 Tryz.results158 _ _ _ _ rfl (loadVar_a10 (ten_set (z:=[0,0,0,0,0,0,0,0,0,0]) rfl S9.out.rs _ _ _ _ _ _ _ _ _ _) rfl)) rfl ⟨rfl,by rw[HN.out];exact ten_below S9.out.b (Nat.le_succ _) _ _ _ _ _ _ _ _ _ _⟩
set_option maxRecDepth 100000 in
theorem spans4(e:Ev)(w:World)(hk:e.k=4):
 Calls Tryz.prog 158 #[evv e] w fun r w'=>r=.returned (.agg (row (spn e)))∧Below w.heap.size w w':=by
 have HS:Hid (spn e=[0,511,0,511,-1,3,0,vm e,ml e,mh e]):=by show _=_;unfold spn;simp[hk]
 have S1:=hide (SpW.start w e)
 have VA:=hide fun u=>values_any e u
 have MA:=hide fun u=>mates_any e u
 obtain⟨k,g,c,a,v,m,s,o⟩:=e
 simp only at hk
 subst hk
 generalize vm (Ev.mk 4 g c a v m s o)=xv at HS VA
 generalize ml (Ev.mk 4 g c a v m s o)=xl at HS MA
 generalize mh (Ev.mk 4 g c a v m s o)=xh at HS MA
 generalize spn (Ev.mk 4 g c a v m s o)=sp at HS ⊢
 obtain rfl:=HS.out
 clear HS
 unfold evv evc at VA MA ⊢
 simp only at VA MA
 simp only[evc,row,List.map_cons,List.map_nil] at S1
 go_enter Tryz.func158,Tryz.ntmps158
 go_wp2_with fail
 generalize (((((w.alloc (.cells #[.int .i64 4,.int .i64 g,.int .i64 c,.int .i64 a,.int .i64 v,.int .i64 m,.bool s,.bool o] 40)).alloc (.cells #[.int .i64 0,.int .i64 0,.int .i64 0,.int .i64 0,.int .i64 0,.int .i64 0,.int .i64 0,.int .i64 0,.int .i64 0,.int .i64 0] 229)).alloc (.cells #[.int .i64 (-1),.int .i64 (-1)] 228)).alloc (.cells #[.int .i64 0,.int .i64 511] 228)).alloc (.cells #[.int .i64 0,.int .i64 511,.int .i64 (-1),.int .i64 (-1),.int .i64 (-1),.int .i64 (-1),.int .i64 (-1),.int .i64 (-1),.int .i64 (-1),.int .i64 (-1)] 229))=W at S1 ⊢
 generalize hN:w.heap.size=N at S1 ⊢
 have HN:=hide hN
 clear hN
 have y0:W.cell? ⟨N,0,none⟩=some (.int .i64 4):=cell_of S1.out.ev 0
 have y1:W.cell? ⟨N,1,none⟩=some (.int .i64 g):=cell_of S1.out.ev 1
 have y2:W.cell? ⟨N,2,none⟩=some (.int .i64 c):=cell_of S1.out.ev 2
 have y3:W.cell? ⟨N,3,none⟩=some (.int .i64 a):=cell_of S1.out.ev 3
 have y4:W.cell? ⟨N,4,none⟩=some (.int .i64 v):=cell_of S1.out.ev 4
 have y5:W.cell? ⟨N,5,none⟩=some (.int .i64 m):=cell_of S1.out.ev 5
 have y6:W.cell? ⟨N,6,none⟩=some (.bool s):=cell_of S1.out.ev 6
 have y7:W.cell? ⟨N,7,none⟩=some (.bool o):=cell_of S1.out.ev 7
 have n0:W.cell? ⟨N+1+1+1,0,none⟩=some (.int .i64 0):=cell_of S1.out.nu 0
 have n1:W.cell? ⟨N+1+1+1,1,none⟩=some (.int .i64 511):=cell_of S1.out.nu 1
 go_region_held3 (fun w'=>w'.cell? ⟨N,0,none⟩=some (.int .i64 4)∧w'.cell? ⟨N,1,none⟩=some (.int .i64 g)∧w'.cell? ⟨N,2,none⟩=some (.int .i64 c)∧w'.cell? ⟨N,3,none⟩=some (.int .i64 a)∧w'.cell? ⟨N,4,none⟩=some (.int .i64 v)∧w'.cell? ⟨N,5,none⟩=some (.int .i64 m)∧w'.cell? ⟨N,6,none⟩=some (.bool s)∧w'.cell? ⟨N,7,none⟩=some (.bool o)∧w'.cell? ⟨N+1+1+1,0,none⟩=some (.int .i64 0)∧w'.cell? ⟨N+1+1+1,1,none⟩=some (.int .i64 511))
  (first
    |(go_split_ands;refine⟨?_,?_,?_,?_,?_,?_,?_,?_,?_,?_⟩<;>(with_reducible (refine cellS (cellS ?_ ?_) ?_))<;>(first|with_reducible assumption|omega))
    |(go_split_ands;refine⟨?_,?_,?_,?_,?_,?_,?_,?_,?_,?_⟩<;>(with_reducible (refine cellB ?_ c5))<;>with_reducible assumption)
    |go_keep)
  ((go_at_call 179;refine (VA.out _).mono ?_;rintro r w5 ⟨rfl,c5⟩;have S5:=hide ((S1.out.below (bdrew1 _)).below c5);have r2:w5.cell? ⟨N+1+1+1+1,2,none⟩=some (.int .i64 (-1)):=cell_of S5.out.rw 2;have r3:w5.cell? ⟨N+1+1+1+1,3,none⟩=some (.int .i64 (-1)):=cell_of S5.out.rw 3;have r4:w5.cell? ⟨N+1+1+1+1,4,none⟩=some (.int .i64 (-1)):=cell_of S5.out.rw 4;have r5:w5.cell? ⟨N+1+1+1+1,5,none⟩=some (.int .i64 (-1)):=cell_of S5.out.rw 5;have r6:w5.cell? ⟨N+1+1+1+1,6,none⟩=some (.int .i64 (-1)):=cell_of S5.out.rw 6;have r7:w5.cell? ⟨N+1+1+1+1,7,none⟩=some (.int .i64 (-1)):=cell_of S5.out.rw 7;have z2:=frozen_of S5.out.rw 2;have z3:=frozen_of S5.out.rw 3;have z4:=frozen_of S5.out.rw 4;have z5:=frozen_of S5.out.rw 5;have z6:=frozen_of S5.out.rw 6;have z7:=frozen_of S5.out.rw 7))
 have S6:Hid (SpW w ((((((w5.setCell ⟨N+1+1+1+1,2,none⟩ (.int .i64 0)).setCell ⟨N+1+1+1+1,3,none⟩ (.int .i64 511)).setCell ⟨N+1+1+1+1,4,none⟩ (.int .i64 (-1))).setCell ⟨N+1+1+1+1,5,none⟩ (.int .i64 3)).setCell ⟨N+1+1+1+1,6,none⟩ (.int .i64 0)).setCell ⟨N+1+1+1+1,7,none⟩ (.int .i64 xv)) N (Ev.mk 4 g c a v m s o) [0,511,0,511,-1,3,0,xv,-1,-1]):=((((((S5.out.set 2 0).set 3 511).set 4 (-1)).set 5 3).set 6 0).set 7 xv)
 clear S5 S1 c5
 generalize ((((((w5.setCell ⟨N+1+1+1+1,2,none⟩ (.int .i64 0)).setCell ⟨N+1+1+1+1,3,none⟩ (.int .i64 511)).setCell ⟨N+1+1+1+1,4,none⟩ (.int .i64 (-1))).setCell ⟨N+1+1+1+1,5,none⟩ (.int .i64 3)).setCell ⟨N+1+1+1+1,6,none⟩ (.int .i64 0)).setCell ⟨N+1+1+1+1,7,none⟩ (.int .i64 xv))=U at S6 ⊢
 have y0:U.cell? ⟨N,0,none⟩=some (.int .i64 4):=cell_of S6.out.ev 0
 have y1:U.cell? ⟨N,1,none⟩=some (.int .i64 g):=cell_of S6.out.ev 1
 have y2:U.cell? ⟨N,2,none⟩=some (.int .i64 c):=cell_of S6.out.ev 2
 have y3:U.cell? ⟨N,3,none⟩=some (.int .i64 a):=cell_of S6.out.ev 3
 have y4:U.cell? ⟨N,4,none⟩=some (.int .i64 v):=cell_of S6.out.ev 4
 have y5:U.cell? ⟨N,5,none⟩=some (.int .i64 m):=cell_of S6.out.ev 5
 have y6:U.cell? ⟨N,6,none⟩=some (.bool s):=cell_of S6.out.ev 6
 have y7:U.cell? ⟨N,7,none⟩=some (.bool o):=cell_of S6.out.ev 7
 go_wp2_with fail
 refine (MA.out _).mono ?_
 rintro r w7 ⟨rfl,b7⟩
 have S7:=hide (S6.out.below b7)
 clear b7 S6 VA MA
 have r0:w7.cell? ⟨N+1+1+1+1,0,none⟩=some (.int .i64 0):=cell_of S7.out.rw 0
 have r1:w7.cell? ⟨N+1+1+1+1,1,none⟩=some (.int .i64 511):=cell_of S7.out.rw 1
 have r2:w7.cell? ⟨N+1+1+1+1,2,none⟩=some (.int .i64 0):=cell_of S7.out.rw 2
 have r3:w7.cell? ⟨N+1+1+1+1,3,none⟩=some (.int .i64 511):=cell_of S7.out.rw 3
 have r4:w7.cell? ⟨N+1+1+1+1,4,none⟩=some (.int .i64 (-1)):=cell_of S7.out.rw 4
 have r5:w7.cell? ⟨N+1+1+1+1,5,none⟩=some (.int .i64 3):=cell_of S7.out.rw 5
 have r6:w7.cell? ⟨N+1+1+1+1,6,none⟩=some (.int .i64 0):=cell_of S7.out.rw 6
 have r7:w7.cell? ⟨N+1+1+1+1,7,none⟩=some (.int .i64 xv):=cell_of S7.out.rw 7
 have r8:w7.cell? ⟨N+1+1+1+1,8,none⟩=some (.int .i64 (-1)):=cell_of S7.out.rw 8
 have r9:w7.cell? ⟨N+1+1+1+1,9,none⟩=some (.int .i64 (-1)):=cell_of S7.out.rw 9
 have t0:w7.cell? ⟨N+1,0,none⟩=some (.int .i64 0):=cell_of S7.out.rs 0
 have t1:w7.cell? ⟨N+1,1,none⟩=some (.int .i64 0):=cell_of S7.out.rs 1
 have t2:w7.cell? ⟨N+1,2,none⟩=some (.int .i64 0):=cell_of S7.out.rs 2
 have t3:w7.cell? ⟨N+1,3,none⟩=some (.int .i64 0):=cell_of S7.out.rs 3
 have t4:w7.cell? ⟨N+1,4,none⟩=some (.int .i64 0):=cell_of S7.out.rs 4
 have t5:w7.cell? ⟨N+1,5,none⟩=some (.int .i64 0):=cell_of S7.out.rs 5
 have t6:w7.cell? ⟨N+1,6,none⟩=some (.int .i64 0):=cell_of S7.out.rs 6
 have t7:w7.cell? ⟨N+1,7,none⟩=some (.int .i64 0):=cell_of S7.out.rs 7
 have t8:w7.cell? ⟨N+1,8,none⟩=some (.int .i64 0):=cell_of S7.out.rs 8
 have t9:w7.cell? ⟨N+1,9,none⟩=some (.int .i64 0):=cell_of S7.out.rs 9
 have f0:=frozen_of S7.out.rs 0
 have f1:=frozen_of S7.out.rs 1
 have f2:=frozen_of S7.out.rs 2
 have f3:=frozen_of S7.out.rs 3
 have f4:=frozen_of S7.out.rs 4
 have f5:=frozen_of S7.out.rs 5
 have f6:=frozen_of S7.out.rs 6
 have f7:=frozen_of S7.out.rs 7
 have f8:=frozen_of S7.out.rs 8
 have f9:=frozen_of S7.out.rs 9
 have z8:=frozen_of S7.out.rw 8
 have z9:=frozen_of S7.out.rw 9
 have S9:=hide ((S7.out.set 8 xl).set 9 xh)
 go_wp2_with fail
 exact bodyPost_ret (results_row1 Tryz.results158 _ _ _ _ rfl (loadVar_a10 (ten_set (z:=[0,0,0,0,0,0,0,0,0,0]) rfl S9.out.rs _ _ _ _ _ _ _ _ _ _) rfl)) rfl ⟨rfl,by rw[HN.out];exact ten_below S9.out.b (Nat.le_succ _) _ _ _ _ _ _ _ _ _ _⟩
set_option maxRecDepth 100000 in
theorem spans7(e:Ev)(w:World)(hk:e.k=7):
 Calls Tryz.prog 158 #[evv e] w fun r w'=>r=.returned (.agg (row (spn e)))∧Below w.heap.size w w':=by
 have HS:Hid (spn e=[0,511,0,511,-1,3,0,vm e,ml e,mh e]):=by show _=_;unfold spn;simp[hk]
 have S1:=hide (SpW.start w e)
 have VA:=hide fun u=>values_any e u
 have MA:=hide fun u=>mates_any e u
 obtain⟨k,g,c,a,v,m,s,o⟩:=e
 simp only at hk
 subst hk
 generalize vm (Ev.mk 7 g c a v m s o)=xv at HS VA
 generalize ml (Ev.mk 7 g c a v m s o)=xl at HS MA
 generalize mh (Ev.mk 7 g c a v m s o)=xh at HS MA
 generalize spn (Ev.mk 7 g c a v m s o)=sp at HS ⊢
 obtain rfl:=HS.out
 clear HS
 unfold evv evc at VA MA ⊢
 simp only at VA MA
 simp only[evc,row,List.map_cons,List.map_nil] at S1
 go_enter Tryz.func158,Tryz.ntmps158
 go_wp2_with fail
 generalize (((((w.alloc (.cells #[.int .i64 7,.int .i64 g,.int .i64 c,.int .i64 a,.int .i64 v,.int .i64 m,.bool s,.bool o] 40)).alloc (.cells #[.int .i64 0,.int .i64 0,.int .i64 0,.int .i64 0,.int .i64 0,.int .i64 0,.int .i64 0,.int .i64 0,.int .i64 0,.int .i64 0] 229)).alloc (.cells #[.int .i64 (-1),.int .i64 (-1)] 228)).alloc (.cells #[.int .i64 0,.int .i64 511] 228)).alloc (.cells #[.int .i64 0,.int .i64 511,.int .i64 (-1),.int .i64 (-1),.int .i64 (-1),.int .i64 (-1),.int .i64 (-1),.int .i64 (-1),.int .i64 (-1),.int .i64 (-1)] 229))=W at S1 ⊢
 generalize hN:w.heap.size=N at S1 ⊢
 have HN:=hide hN
 clear hN
 have y0:W.cell? ⟨N,0,none⟩=some (.int .i64 7):=cell_of S1.out.ev 0
 have y1:W.cell? ⟨N,1,none⟩=some (.int .i64 g):=cell_of S1.out.ev 1
 have y2:W.cell? ⟨N,2,none⟩=some (.int .i64 c):=cell_of S1.out.ev 2
 have y3:W.cell? ⟨N,3,none⟩=some (.int .i64 a):=cell_of S1.out.ev 3
 have y4:W.cell? ⟨N,4,none⟩=some (.int .i64 v):=cell_of S1.out.ev 4
 have y5:W.cell? ⟨N,5,none⟩=some (.int .i64 m):=cell_of S1.out.ev 5
 have y6:W.cell? ⟨N,6,none⟩=some (.bool s):=cell_of S1.out.ev 6
 have y7:W.cell? ⟨N,7,none⟩=some (.bool o):=cell_of S1.out.ev 7
 have n0:W.cell? ⟨N+1+1+1,0,none⟩=some (.int .i64 0):=cell_of S1.out.nu 0
 have n1:W.cell? ⟨N+1+1+1,1,none⟩=some (.int .i64 511):=cell_of S1.out.nu 1
 go_region_held3 (fun w'=>w'.cell? ⟨N,0,none⟩=some (.int .i64 7)∧w'.cell? ⟨N,1,none⟩=some (.int .i64 g)∧w'.cell? ⟨N,2,none⟩=some (.int .i64 c)∧w'.cell? ⟨N,3,none⟩=some (.int .i64 a)∧w'.cell? ⟨N,4,none⟩=some (.int .i64 v)∧w'.cell? ⟨N,5,none⟩=some (.int .i64 m)∧w'.cell? ⟨N,6,none⟩=some (.bool s)∧w'.cell? ⟨N,7,none⟩=some (.bool o)∧w'.cell? ⟨N+1+1+1,0,none⟩=some (.int .i64 0)∧w'.cell? ⟨N+1+1+1,1,none⟩=some (.int .i64 511))
  (first
    |(go_split_ands;refine⟨?_,?_,?_,?_,?_,?_,?_,?_,?_,?_⟩<;>(with_reducible (refine cellS (cellS ?_ ?_) ?_))<;>(first|with_reducible assumption|omega))
    |(go_split_ands;refine⟨?_,?_,?_,?_,?_,?_,?_,?_,?_,?_⟩<;>(with_reducible (refine cellB ?_ c5))<;>with_reducible assumption)
    |go_keep)
  ((go_at_call 179;refine (VA.out _).mono ?_;rintro r w5 ⟨rfl,c5⟩;have S5:=hide ((S1.out.below (bdrew1 _)).below c5);have r2:w5.cell? ⟨N+1+1+1+1,2,none⟩=some (.int .i64 (-1)):=cell_of S5.out.rw 2;have r3:w5.cell? ⟨N+1+1+1+1,3,none⟩=some (.int .i64 (-1)):=cell_of S5.out.rw 3;have r4:w5.cell? ⟨N+1+1+1+1,4,none⟩=some (.int .i64 (-1)):=cell_of S5.out.rw 4;have r5:w5.cell? ⟨N+1+1+1+1,5,none⟩=some (.int .i64 (-1)):=cell_of S5.out.rw 5;have r6:w5.cell? ⟨N+1+1+1+1,6,none⟩=some (.int .i64 (-1)):=cell_of S5.out.rw 6;have r7:w5.cell? ⟨N+1+1+1+1,7,none⟩=some (.int .i64 (-1)):=cell_of S5.out.rw 7;have z2:=frozen_of S5.out.rw 2;have z3:=frozen_of S5.out.rw 3;have z4:=frozen_of S5.out.rw 4;have z5:=frozen_of S5.out.rw 5;have z6:=frozen_of S5.out.rw 6;have z7:=frozen_of S5.out.rw 7))
 have S6:Hid (SpW w ((((((w5.setCell ⟨N+1+1+1+1,2,none⟩ (.int .i64 0)).setCell ⟨N+1+1+1+1,3,none⟩ (.int .i64 511)).setCell ⟨N+1+1+1+1,4,none⟩ (.int .i64 (-1))).setCell ⟨N+1+1+1+1,5,none⟩ (.int .i64 3)).setCell ⟨N+1+1+1+1,6,none⟩ (.int .i64 0)).setCell ⟨N+1+1+1+1,7,none⟩ (.int .i64 xv)) N (Ev.mk 7 g c a v m s o) [0,511,0,511,-1,3,0,xv,-1,-1]):=((((((S5.out.set 2 0).set 3 511).set 4 (-1)).set 5 3).set 6 0).set 7 xv)
 clear S5 S1 c5
 generalize ((((((w5.setCell ⟨N+1+1+1+1,2,none⟩ (.int .i64 0)).setCell ⟨N+1+1+1+1,3,none⟩ (.int .i64 511)).setCell ⟨N+1+1+1+1,4,none⟩ (.int .i64 (-1))).setCell ⟨N+1+1+1+1,5,none⟩ (.int .i64 3)).setCell ⟨N+1+1+1+1,6,none⟩ (.int .i64 0)).setCell ⟨N+1+1+1+1,7,none⟩ (.int .i64 xv))=U at S6 ⊢
 have y0:U.cell? ⟨N,0,none⟩=some (.int .i64 7):=cell_of S6.out.ev 0
 have y1:U.cell? ⟨N,1,none⟩=some (.int .i64 g):=cell_of S6.out.ev 1
 have y2:U.cell? ⟨N,2,none⟩=some (.int .i64 c):=cell_of S6.out.ev 2
 have y3:U.cell? ⟨N,3,none⟩=some (.int .i64 a):=cell_of S6.out.ev 3
 have y4:U.cell? ⟨N,4,none⟩=some (.int .i64 v):=cell_of S6.out.ev 4
 have y5:U.cell? ⟨N,5,none⟩=some (.int .i64 m):=cell_of S6.out.ev 5
 have y6:U.cell? ⟨N,6,none⟩=some (.bool s):=cell_of S6.out.ev 6
 have y7:U.cell? ⟨N,7,none⟩=some (.bool o):=cell_of S6.out.ev 7
 go_wp2_with fail
 refine (MA.out _).mono ?_
 rintro r w7 ⟨rfl,b7⟩
 have S7:=hide (S6.out.below b7)
 clear b7 S6 VA MA
 have r0:w7.cell? ⟨N+1+1+1+1,0,none⟩=some (.int .i64 0):=cell_of S7.out.rw 0
 have r1:w7.cell? ⟨N+1+1+1+1,1,none⟩=some (.int .i64 511):=cell_of S7.out.rw 1
 have r2:w7.cell? ⟨N+1+1+1+1,2,none⟩=some (.int .i64 0):=cell_of S7.out.rw 2
 have r3:w7.cell? ⟨N+1+1+1+1,3,none⟩=some (.int .i64 511):=cell_of S7.out.rw 3
 have r4:w7.cell? ⟨N+1+1+1+1,4,none⟩=some (.int .i64 (-1)):=cell_of S7.out.rw 4
 have r5:w7.cell? ⟨N+1+1+1+1,5,none⟩=some (.int .i64 3):=cell_of S7.out.rw 5
 have r6:w7.cell? ⟨N+1+1+1+1,6,none⟩=some (.int .i64 0):=cell_of S7.out.rw 6
 have r7:w7.cell? ⟨N+1+1+1+1,7,none⟩=some (.int .i64 xv):=cell_of S7.out.rw 7
 have r8:w7.cell? ⟨N+1+1+1+1,8,none⟩=some (.int .i64 (-1)):=cell_of S7.out.rw 8
 have r9:w7.cell? ⟨N+1+1+1+1,9,none⟩=some (.int .i64 (-1)):=cell_of S7.out.rw 9
 have t0:w7.cell? ⟨N+1,0,none⟩=some (.int .i64 0):=cell_of S7.out.rs 0
 have t1:w7.cell? ⟨N+1,1,none⟩=some (.int .i64 0):=cell_of S7.out.rs 1
 have t2:w7.cell? ⟨N+1,2,none⟩=some (.int .i64 0):=cell_of S7.out.rs 2
 have t3:w7.cell? ⟨N+1,3,none⟩=some (.int .i64 0):=cell_of S7.out.rs 3
 have t4:w7.cell? ⟨N+1,4,none⟩=some (.int .i64 0):=cell_of S7.out.rs 4
 have t5:w7.cell? ⟨N+1,5,none⟩=some (.int .i64 0):=cell_of S7.out.rs 5
 have t6:w7.cell? ⟨N+1,6,none⟩=some (.int .i64 0):=cell_of S7.out.rs 6
 have t7:w7.cell? ⟨N+1,7,none⟩=some (.int .i64 0):=cell_of S7.out.rs 7
 have t8:w7.cell? ⟨N+1,8,none⟩=some (.int .i64 0):=cell_of S7.out.rs 8
 have t9:w7.cell? ⟨N+1,9,none⟩=some (.int .i64 0):=cell_of S7.out.rs 9
 have f0:=frozen_of S7.out.rs 0
 have f1:=frozen_of S7.out.rs 1
 have f2:=frozen_of S7.out.rs 2
 have f3:=frozen_of S7.out.rs 3
 have f4:=frozen_of S7.out.rs 4
 have f5:=frozen_of S7.out.rs 5
 have f6:=frozen_of S7.out.rs 6
 have f7:=frozen_of S7.out.rs 7
 have f8:=frozen_of S7.out.rs 8
 have f9:=frozen_of S7.out.rs 9
 have z8:=frozen_of S7.out.rw 8
 have z9:=frozen_of S7.out.rw 9
 have S9:=hide ((S7.out.set 8 xl).set 9 xh)
 go_wp2_with fail
 exact bodyPost_ret (results_row1 Tryz.results158 _ _ _ _ rfl (loadVar_a10 (ten_set (z:=[0,0,0,0,0,0,0,0,0,0]) rfl S9.out.rs _ _ _ _ _ _ _ _ _ _) rfl)) rfl ⟨rfl,by rw[HN.out];exact ten_below S9.out.b (Nat.le_succ _) _ _ _ _ _ _ _ _ _ _⟩
set_option maxRecDepth 100000 in
theorem spans6(e:Ev)(w:World)(hk:e.k=6):
 Calls Tryz.prog 158 #[evv e] w fun r w'=>r=.returned (.agg (row (spn e)))∧Below w.heap.size w w':=by
 have HS:Hid (spn e=if (e.a !=-1)=true then [0,511,-1,-1,-1,4,0,vm e,-1,-1] else [0,511,-1,511,-1,4,0,vm e,-1,-1]):=by show _=_;unfold spn;simp[hk]
 have S1:=hide (SpW.start w e)
 have VA:=hide fun u=>values_any e u
 have IS:=hide fun u=>isSelect_any e u
 obtain⟨k,g,c,a,v,m,s,o⟩:=e
 simp only at hk HS IS
 subst hk
 generalize vm (Ev.mk 6 g c a v m s o)=xv at HS VA
 generalize spn (Ev.mk 6 g c a v m s o)=sp at HS ⊢
 generalize hsel:(a !=-1)=sel at HS IS
 clear hsel
 unfold evv evc at VA IS ⊢
 simp only at VA IS
 simp only[evc,row,List.map_cons,List.map_nil] at S1
 go_enter Tryz.func158,Tryz.ntmps158
 go_wp2_with fail
 generalize (((((w.alloc (.cells #[.int .i64 6,.int .i64 g,.int .i64 c,.int .i64 a,.int .i64 v,.int .i64 m,.bool s,.bool o] 40)).alloc (.cells #[.int .i64 0,.int .i64 0,.int .i64 0,.int .i64 0,.int .i64 0,.int .i64 0,.int .i64 0,.int .i64 0,.int .i64 0,.int .i64 0] 229)).alloc (.cells #[.int .i64 (-1),.int .i64 (-1)] 228)).alloc (.cells #[.int .i64 0,.int .i64 511] 228)).alloc (.cells #[.int .i64 0,.int .i64 511,.int .i64 (-1),.int .i64 (-1),.int .i64 (-1),.int .i64 (-1),.int .i64 (-1),.int .i64 (-1),.int .i64 (-1),.int .i64 (-1)] 229))=W at S1 ⊢
 generalize hN:w.heap.size=N at S1 ⊢
 have HN:=hide hN
 clear hN
 refine (VA.out _).mono ?_
 rintro r w5 ⟨rfl,b5⟩
 have S5:=hide (S1.out.below b5)
 clear b5 S1
 have r0:w5.cell? ⟨N+1+1+1+1,0,none⟩=some (.int .i64 0):=cell_of S5.out.rw 0
 have r1:w5.cell? ⟨N+1+1+1+1,1,none⟩=some (.int .i64 511):=cell_of S5.out.rw 1
 have r2:w5.cell? ⟨N+1+1+1+1,2,none⟩=some (.int .i64 (-1)):=cell_of S5.out.rw 2
 have r3:w5.cell? ⟨N+1+1+1+1,3,none⟩=some (.int .i64 (-1)):=cell_of S5.out.rw 3
 have r4:w5.cell? ⟨N+1+1+1+1,4,none⟩=some (.int .i64 (-1)):=cell_of S5.out.rw 4
 have r5:w5.cell? ⟨N+1+1+1+1,5,none⟩=some (.int .i64 (-1)):=cell_of S5.out.rw 5
 have r6:w5.cell? ⟨N+1+1+1+1,6,none⟩=some (.int .i64 (-1)):=cell_of S5.out.rw 6
 have r7:w5.cell? ⟨N+1+1+1+1,7,none⟩=some (.int .i64 (-1)):=cell_of S5.out.rw 7
 have r8:w5.cell? ⟨N+1+1+1+1,8,none⟩=some (.int .i64 (-1)):=cell_of S5.out.rw 8
 have r9:w5.cell? ⟨N+1+1+1+1,9,none⟩=some (.int .i64 (-1)):=cell_of S5.out.rw 9
 have z0:=frozen_of S5.out.rw 0
 have z1:=frozen_of S5.out.rw 1
 have z2:=frozen_of S5.out.rw 2
 have z3:=frozen_of S5.out.rw 3
 have z4:=frozen_of S5.out.rw 4
 have z5:=frozen_of S5.out.rw 5
 have z6:=frozen_of S5.out.rw 6
 have z7:=frozen_of S5.out.rw 7
 have z8:=frozen_of S5.out.rw 8
 have z9:=frozen_of S5.out.rw 9
 have y0:w5.cell? ⟨N,0,none⟩=some (.int .i64 6):=cell_of S5.out.ev 0
 have y1:w5.cell? ⟨N,1,none⟩=some (.int .i64 g):=cell_of S5.out.ev 1
 have y2:w5.cell? ⟨N,2,none⟩=some (.int .i64 c):=cell_of S5.out.ev 2
 have y3:w5.cell? ⟨N,3,none⟩=some (.int .i64 a):=cell_of S5.out.ev 3
 have y4:w5.cell? ⟨N,4,none⟩=some (.int .i64 v):=cell_of S5.out.ev 4
 have y5:w5.cell? ⟨N,5,none⟩=some (.int .i64 m):=cell_of S5.out.ev 5
 have y6:w5.cell? ⟨N,6,none⟩=some (.bool s):=cell_of S5.out.ev 6
 have y7:w5.cell? ⟨N,7,none⟩=some (.bool o):=cell_of S5.out.ev 7
 have S6:Hid (SpW w ((((((w5.setCell ⟨N+1+1+1+1,2,none⟩ (.int .i64 (-1))).setCell ⟨N+1+1+1+1,3,none⟩ (.int .i64 511)).setCell ⟨N+1+1+1+1,4,none⟩ (.int .i64 (-1))).setCell ⟨N+1+1+1+1,5,none⟩ (.int .i64 4)).setCell ⟨N+1+1+1+1,6,none⟩ (.int .i64 0)).setCell ⟨N+1+1+1+1,7,none⟩ (.int .i64 xv)) N (Ev.mk 6 g c a v m s o) [0,511,-1,511,-1,4,0,xv,-1,-1]):=((((((S5.out.set 2 (-1)).set 3 511).set 4 (-1)).set 5 4).set 6 0).set 7 xv)
 go_wp2_with fail
 generalize ((((((w5.setCell ⟨N+1+1+1+1,2,none⟩ (.int .i64 (-1))).setCell ⟨N+1+1+1+1,3,none⟩ (.int .i64 511)).setCell ⟨N+1+1+1+1,4,none⟩ (.int .i64 (-1))).setCell ⟨N+1+1+1+1,5,none⟩ (.int .i64 4)).setCell ⟨N+1+1+1+1,6,none⟩ (.int .i64 0)).setCell ⟨N+1+1+1+1,7,none⟩ (.int .i64 xv))=U at S6 ⊢
 refine (IS.out _).mono ?_
 rintro r w7 ⟨rfl,b7⟩
 have S7:=hide (S6.out.below b7)
 clear b7 S6 S5 VA IS r0 r1 r2 r3 r4 r5 r6 r7 r8 r9 z0 z1 z2 z3 z4 z5 z6 z7 z8 z9 y0 y1 y2 y3 y4 y5 y6 y7
 have r0:w7.cell? ⟨N+1+1+1+1,0,none⟩=some (.int .i64 0):=cell_of S7.out.rw 0
 have r1:w7.cell? ⟨N+1+1+1+1,1,none⟩=some (.int .i64 511):=cell_of S7.out.rw 1
 have r2:w7.cell? ⟨N+1+1+1+1,2,none⟩=some (.int .i64 (-1)):=cell_of S7.out.rw 2
 have r3:w7.cell? ⟨N+1+1+1+1,3,none⟩=some (.int .i64 511):=cell_of S7.out.rw 3
 have r4:w7.cell? ⟨N+1+1+1+1,4,none⟩=some (.int .i64 (-1)):=cell_of S7.out.rw 4
 have r5:w7.cell? ⟨N+1+1+1+1,5,none⟩=some (.int .i64 4):=cell_of S7.out.rw 5
 have r6:w7.cell? ⟨N+1+1+1+1,6,none⟩=some (.int .i64 0):=cell_of S7.out.rw 6
 have r7:w7.cell? ⟨N+1+1+1+1,7,none⟩=some (.int .i64 xv):=cell_of S7.out.rw 7
 have r8:w7.cell? ⟨N+1+1+1+1,8,none⟩=some (.int .i64 (-1)):=cell_of S7.out.rw 8
 have r9:w7.cell? ⟨N+1+1+1+1,9,none⟩=some (.int .i64 (-1)):=cell_of S7.out.rw 9
 have t0:w7.cell? ⟨N+1,0,none⟩=some (.int .i64 0):=cell_of S7.out.rs 0
 have t1:w7.cell? ⟨N+1,1,none⟩=some (.int .i64 0):=cell_of S7.out.rs 1
 have t2:w7.cell? ⟨N+1,2,none⟩=some (.int .i64 0):=cell_of S7.out.rs 2
 have t3:w7.cell? ⟨N+1,3,none⟩=some (.int .i64 0):=cell_of S7.out.rs 3
 have t4:w7.cell? ⟨N+1,4,none⟩=some (.int .i64 0):=cell_of S7.out.rs 4
 have t5:w7.cell? ⟨N+1,5,none⟩=some (.int .i64 0):=cell_of S7.out.rs 5
 have t6:w7.cell? ⟨N+1,6,none⟩=some (.int .i64 0):=cell_of S7.out.rs 6
 have t7:w7.cell? ⟨N+1,7,none⟩=some (.int .i64 0):=cell_of S7.out.rs 7
 have t8:w7.cell? ⟨N+1,8,none⟩=some (.int .i64 0):=cell_of S7.out.rs 8
 have t9:w7.cell? ⟨N+1,9,none⟩=some (.int .i64 0):=cell_of S7.out.rs 9
 have f0:=frozen_of S7.out.rs 0
 have f1:=frozen_of S7.out.rs 1
 have f2:=frozen_of S7.out.rs 2
 have f3:=frozen_of S7.out.rs 3
 have f4:=frozen_of S7.out.rs 4
 have f5:=frozen_of S7.out.rs 5
 have f6:=frozen_of S7.out.rs 6
 have f7:=frozen_of S7.out.rs 7
 have f8:=frozen_of S7.out.rs 8
 have f9:=frozen_of S7.out.rs 9
 cases sel
 ·obtain rfl:=HS.out
  go_wp2_with fail
  exact bodyPost_ret (results_row1 Tryz.results158 _ _ _ _ rfl (loadVar_a10 (ten_set (z:=[0,0,0,0,0,0,0,0,0,0]) rfl S7.out.rs _ _ _ _ _ _ _ _ _ _) rfl)) rfl ⟨rfl,by rw[HN.out];exact ten_below S7.out.b (Nat.le_succ _) _ _ _ _ _ _ _ _ _ _⟩
 ·obtain rfl:=HS.out
  have z2:=frozen_of S7.out.rw 2
  have z3:=frozen_of S7.out.rw 3
  have n0:w7.cell? ⟨N+1+1,0,none⟩=some (.int .i64 (-1)):=cell_of S7.out.no 0
  have n1:w7.cell? ⟨N+1+1,1,none⟩=some (.int .i64 (-1)):=cell_of S7.out.no 1
  have S9:=hide ((S7.out.set 2 (-1)).set 3 (-1))
  go_wp2_with fail
  exact bodyPost_ret (results_row1 Tryz.results158 _ _ _ _ rfl (loadVar_a10 (ten_set (z:=[0,0,0,0,0,0,0,0,0,0]) rfl S9.out.rs _ _ _ _ _ _ _ _ _ _) rfl)) rfl ⟨rfl,by rw[HN.out];exact ten_below S9.out.b (Nat.le_succ _) _ _ _ _ _ _ _ _ _ _⟩
theorem spans_any(e:Ev)(w:World)(h1:1≤e.k)(h2:e.k≤13):
 Calls Tryz.prog 158 #[evv e] w fun r w'=>r=.returned (.agg (row (spn e)))∧Below w.heap.size w w':=by
 have hk:e.k=1∨e.k=2∨e.k=3∨e.k=4∨e.k=5∨e.k=6∨e.k=7∨e.k=8∨e.k=9∨e.k=10∨e.k=11∨e.k=12∨e.k=13:=by omega
 rcases hk with h|h|h|h|h|h|h|h|h|h|h|h|h
 ·exact spans1 e w h
 ·exact spans2 e w h
 ·exact spans3 e w h
 ·exact spans4 e w h
 ·exact spans5 e w h
 ·exact spans6 e w h
 ·exact spans7 e w h
 ·exact spans8 e w h
 ·exact spans9 e w h
 ·exact spans10 e w h
 ·exact spans11 e w h
 ·exact spans12 e w h
 ·exact spans13 e w h
end En
end Go.Proofs.YtogkjaekfhjelaaGreat
