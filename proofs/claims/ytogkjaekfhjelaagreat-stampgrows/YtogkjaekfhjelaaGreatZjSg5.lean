import Derived.Test.YtogkjaekfhjelaaGreatZjSg1
import Derived.Test.YtogkjaekfhjelaaGreatZjSg2
import Derived.Test.YtogkjaekfhjelaaGreatZjSg4
import Derived.LaidEqlPtr
import Derived.Lib.AppendZeros
import Derived.Deep.RegionWith
import Derived.Deep.Slices
import Derived.ShutString
import Derived.ChangeOld
set_option maxHeartbeats 12800000
namespace Go.Proofs.YtogkjaekfhjelaaGreat
open Go.ChangeShapes Go.WideShapes Go.ChangeAt Go.RowKit
namespace Fk
open Ba Pe _root_.Go.Proofs.YtogkjaekfhjelaaGreat.Pi Rp
def dropO(g:Int)(o:Option St):Option St:=o.map fun st=>dropS st g
def dropM(g:Int)(o:Option St):Int:=match o with|none=>0|some st=>dropN st g
def leaveS(g:Int)(sts:List (Option St)):List (Option St):=sts.map (dropO g)
def leaveN(g:Int)(sts:List (Option St)):Int:=(sts.map (dropM g)).foldl (·+·) 0
def lvS(g:Int)(sts:List (Option St))(k:Nat):List (Option St):=(sts.take k).map (dropO g)++sts.drop k
def lvN(g:Int)(sts:List (Option St))(k:Nat):Int:=((sts.take k).map (dropM g)).foldl (·+·) 0
theorem lv_zero(g:Int)(sts:List (Option St)):lvS g sts 0=sts:=by simp[lvS]
theorem lv_all(g:Int)(sts:List (Option St)):lvS g sts sts.length=leaveS g sts:=by simp[lvS,leaveS]
theorem lvN_all(g:Int)(sts:List (Option St)):lvN g sts sts.length=leaveN g sts:=by simp[lvN,leaveN]
theorem lvN_succ(g:Int)(sts:List (Option St))(k:Nat)(o:Option St)(h:sts[k]? =some o):lvN g sts (k+1)=lvN g sts k+dropM g o:=by
 unfold lvN
 rw[List.take_add_one,h,List.map_append,List.foldl_append]
 rfl
theorem lv_at(g:Int)(sts:List (Option St))(k:Nat):(lvS g sts k)[k]? =sts[k]?:=by
 unfold lvS
 by_cases h:k<sts.length
 ·rw[List.getElem?_append_right (by simp;omega)]
  simp[Nat.min_eq_left (Nat.le_of_lt h)]
 ·rw[List.getElem?_eq_none (by simp;omega),List.getElem?_eq_none (by omega)]
theorem lv_succ(g:Int)(sts:List (Option St))(k:Nat)(o:Option St)(h:sts[k]? =some o):lvS g sts (k+1)=(lvS g sts k).set k (dropO g o):=by
 have hk:k<sts.length:=(List.getElem?_eq_some_iff.1 h).1
 unfold lvS
 rw[List.set_append_right _ _ (by simp;omega)]
 rw[List.take_add_one,h,List.map_append,List.append_assoc]
 congr 1
 rw[List.drop_eq_getElem_cons hk,List.length_map,List.length_take,Nat.min_eq_left (Nat.le_of_lt hk),Nat.sub_self,List.set_cons_zero]
 rfl
theorem lv_none(g:Int)(sts:List (Option St))(k:Nat)(h:sts[k]? =some none):lvS g sts (k+1)=lvS g sts k:=by
 rw[lv_succ g sts k none h]
 apply List.ext_getElem?
 intro i
 rw[List.getElem?_set]
 by_cases e:k=i
 ·subst e
  have hk:k<(lvS g sts k).length:=by
   have:=(List.getElem?_eq_some_iff.1 h).1
   simp[lvS]
   omega
  rw[if_pos rfl,if_pos hk,lv_at,h]
  rfl
 ·rw[if_neg e]
theorem dropM_bd{g:Int}{st:St}(h1:st.snd.length≤1024)(h2:st.rcv.length≤1024):0≤dropM g (some st)∧dropM g (some st)≤2048:=by
 have a:=dr_len g st.snd
 have b:=dr_len g st.rcv
 simp only[dropM,dropN]
 omega
set_option maxRecDepth 100000 in
theorem leave_any(g:Int)(oa:Option Addr)(bs:List (Option Nat))(cp:Nat)(Fs:Nat→Nat→Prop)(sts:List (Option St))(w:World)(h:Qs Pp w oa bs Fs sts)(hl:bs.length≤1000):
 Calls Tryz.prog 146 #[.int .i64 g,.slice oa bs.length cp] w fun r w'=>r=.returned (.int .i64 (leaveN g sts))∧Rz Pp w w' oa bs Fs (leaveS g sts):=by
 have H:=hide h
 clear h
 go_enter Tryz.func146,Tryz.ntmps146
 go_wp2_with fail
 go_loopw [5,9] (fun s i wr=>∃(k:Nat) (n:Int),k≤bs.length∧i=.int .i64 k∧s=.int .i64 n∧n=lvN g sts k∧(0≤n∧n≤2048*(k:Int))∧Rz Pp w wr oa bs Fs (lvS g sts k)) (fun _ i _=>bs.length - (intOf i).toNat)
 case atStart=>exact⟨0,0,Nat.zero_le _,rfl,rfl,rfl,⟨by omega,by omega⟩,by rw[lv_zero];exact Rz.same frP H.out (Below.refl _ _)⟩
 case round=>
  obtain⟨k,n,hk,rfl,rfl,hn,hnb,rz⟩:=hrel
  have HN:=hide hn
  clear hn
  by_cases hlt:k<bs.length
  ·have hlt':(k:Int)<(bs.length:Int):=by omega
   obtain⟨Fs1,n1,q1,k1⟩:=rz
   obtain⟨o,ho⟩:∃o,bs[k]? =some o:=⟨_,List.getElem?_eq_getElem hlt⟩
   obtain⟨b,off,e,hc⟩:=q1.row k o ho
   subst e
   have Q1:=hide q1
   have N1:=hide n1
   have K1:=hide k1
   cases o with
   |none=>
    have hs:=q1.non k ho
    rw[lv_at] at hs
    have E1:=hide (lv_none g sts k hs)
    have E2:=hide (lvN_succ g sts k none hs)
    simp only[pt,Option.map_none] at hc
    clear q1 n1 k1 ho hs
    go_wp2_with fail
    refine (Pi.drop_nil g _).mono ?_
    rintro r w2 ⟨rfl,rfl⟩
    go_wp2_with fail
    go_roundw
    case rel=>exact⟨k+1,n,by omega,by go_num,by simp,by rw[E2.out,←HN.out];simp[dropM],⟨hnb.1,by omega⟩,by rw[E1.out];exact⟨Fs1,N1.out,Q1.out,K1.out⟩⟩
    case measure=>simp[intOf];omega
   |some B=>
    obtain⟨st,hs,q⟩:=q1.one k B ho
    have hs':=hs
    rw[lv_at] at hs'
    have E1:=hide (lv_succ g sts k (some st) hs')
    have E2:=hide (lvN_succ g sts k (some st) hs')
    have HO:=hide ho
    have DP:=hide (Pi.drop_any B _ st g _ q)
    have BDD:Hid (0≤dropN st g∧dropN st g≤2048):=by
     obtain⟨R0,S0,Q0,FS0,FQ0,po⟩:=q
     exact dropM_bd po.ps.le po.pq.le
    simp only[pt,Option.map_some] at hc
    clear q1 n1 k1 ho hs hs' q
    have hd1:=BDD.out.1
    have hd2:=BDD.out.2
    have ED:Hid (dropM g (some st)=dropN st g):=rfl
    generalize dropN st g=dd at DP hd1 hd2 ED
    go_wp2_with fail
    refine DP.out.mono ?_
    rintro r w2 ⟨rfl,k2,F2,n2,p2⟩
    have R2:=hide (Rz.trans N1.out K1.out (Rz.step frP Q1.out (Below.refl _ _) HO.out k2 n2 p2))
    clear k2 n2 p2
    go_wp2_with fail
    go_roundw
    case rel=>exact⟨k+1,n+dd,by omega,by go_num,by first|rfl|go_num,by rw[E2.out,←HN.out,ED.out],⟨by omega,by omega⟩,by rw[E1.out];exact R2.out⟩
    case measure=>simp[intOf];omega
  ·have hlt':¬((k:Int)<(bs.length:Int)):=by omega
   obtain rfl:k=bs.length:=by omega
   have HE:=hide H.out.len
   rw[HE.out,lv_all] at rz
   have RZ:=hide rz
   clear rz
   go_wp2_with fail
   go_ret
   exact⟨ret_int (by rw[HN.out,HE.out,lvN_all]),RZ.out⟩
end Fk
namespace Fk
open Ba Pe _root_.Go.Proofs.YtogkjaekfhjelaaGreat.Pi Rp
theorem ps_mem{P:Nat→Bool}{n:Nat}{k:Nat}(hk:k<(ps P n).length):∃p:Nat,nth (ps P n) k=(p:Int)∧p<n∧P p=true:=by
 rw[nth_lt _ _ hk]
 have hm:=List.getElem_mem hk
 unfold ps at hm
 obtain⟨p,hp,e⟩:=List.mem_map.1 hm
 rw[List.mem_filter,List.mem_range] at hp
 exact⟨p,e.symm,hp.1,hp.2⟩
def smP(bs:List (Option Nat))(c:Ca)(l:List Ca):Nat→Bool:=fun i=>match l[i]? with|none=>false|some o=>decide (nmB bs o.ch=nmB bs c.ch)&&(o.sd==c.sd)
theorem size_pipe:(Tryz.prog.info? 209).map (·.size)=some 6:=by kernel_rfl
theorem eql_none(a:Addr)(w:World):(binOp .eql 160 (.pointer none) (.pointer (some a))).run Tryz.prog w=.ok (.bool false) w:=by
 have h:∀d:Nat,(Op.equalIn (d+1) 160 (.pointer none) (.pointer (some a))).run Tryz.prog w=.ok false w:=fun d=>by
  simp[Op.equalIn,run_underlying Tryz.underlying160]
 simp only[binOp]
 simp[Op.equal,Op.maxDepth,h 9999]
theorem eql_pipes(D B:Nat)(w:World)(hB:∃c t,w.heap[B]? =some (.cells c t (0,0)))(hD:∃c t,w.heap[D]? =some (.cells c t (0,0))):(binOp .eql 160 (.pointer (some ⟨D,0,none⟩)) (.pointer (some ⟨B,0,none⟩))).run Tryz.prog w=.ok (.bool (decide (D=B))) w:=by
 cases hi:Tryz.prog.info? 209 with
 |none=>have:=size_pipe;rw[hi] at this;cases this
 |some j=>
 have hs:=size_pipe
 rw[hi] at hs
 simp at hs
 by_cases e:D=B
 ·subst e
  rw[decide_eq_true rfl]
  exact run_eql_ptr_same w _ Tryz.underlying160 hi
 ·rw[decide_eq_false e]
  obtain⟨c1,t1,h1⟩:=hB
  obtain⟨c2,t2,h2⟩:=hD
  exact run_eql_ptr_other w Tryz.underlying160 hi (by omega) (fun q=>e (by simp at q)) h2 h1
set_option maxRecDepth 100000 in
theorem rehearse1_any(o c:Ca)(q:Option Nat)(B X Y:Nat)(w:World)(hX:w.cell? ⟨X,0,none⟩=some (.pointer (some ⟨B,0,none⟩)))(hY:w.cell? ⟨Y,0,none⟩=some (.bool c.sd))(hB:∃c t,w.heap[B]? =some (.cells c t (0,0)))(hD:∀D,q=some D→∃c t,w.heap[D]? =some (.cells c t (0,0))):
 Calls Tryz.prog 177 #[cv o,pt q,.pointer (some ⟨X,0,none⟩),.pointer (some ⟨Y,0,none⟩)] w fun r w'=>r=.returned (.bool (decide (q=some B)&&(o.sd==c.sd)))∧Below w.heap.size w w':=by
 have hXl:=World.block_lt_of_cell? w _ hX
 have hYl:=World.block_lt_of_cell? w _ hY
 simp only at hXl hYl
 have lift:∀{D:Nat},(∃c t,w.heap[D]? =some (.cells c t (0,0)))→∃c t,(w.alloc (.cells #[.bool o.sd,.int .i64 o.ch,.int .i64 o.v] 108)).heap[D]? =some (.cells c t (0,0)):=fun ⟨c,t,h⟩=>⟨c,t,heap_below h (below_alloc _ _)⟩
 unfold cv
 cases q with
 |none=>
  have he:=eql_none ⟨B,0,none⟩ (w.alloc (.cells #[.bool o.sd,.int .i64 o.ch,.int .i64 o.v] 108))
  simp only[pt,Option.map_none]
  clear lift hB hD
  go_enter Tryz.func177,Tryz.ntmps177
  go_wp2_with fail
  go_ret
  exact⟨ret_bool (by simp),below_alloc _ _⟩
 |some D=>
  have he:=eql_pipes D B (w.alloc (.cells #[.bool o.sd,.int .i64 o.ch,.int .i64 o.v] 108)) (lift hB) (lift (hD D rfl))
  simp only[pt,Option.map_some]
  clear lift hB hD
  by_cases e:D=B
  ·subst e
   rw[decide_eq_true rfl] at he
   go_enter Tryz.func177,Tryz.ntmps177
   go_wp2_with fail
   go_ret
   exact⟨ret_bool (by simp),below_alloc _ _⟩
  ·rw[decide_eq_false e] at he
   go_enter Tryz.func177,Tryz.ntmps177
   go_wp2_with fail
   go_ret
   exact⟨ret_bool (by simp[e]),below_alloc _ _⟩
theorem waiting_new(B:Nat)(F:Nat→Prop)(st:St)(b:Bool)(w:World)(h:Pp w B F st):
 Calls Tryz.prog 176 #[.pointer (some ⟨B,0,none⟩),.bool b] w fun r w'=>∃oa c,r=.returned (.slice oa (own st b).length c)∧WAt w' oa (own st b)∧Below w.heap.size w w'∧∀a,oa=some a→w.heap.size≤a.block:=by
 obtain⟨R,S,Q,FS,FQ,h⟩:=h
 have SD:=hide (h.side b)
 have LS:=hide (list_new (sd S Q b) _ w (h.pew b))
 clear h
 generalize sd S Q b=X at SD LS
 generalize own st b=L at LS ⊢
 go_enter Tryz.func176,Tryz.ntmps176
 go_wp2_with fail
 refine SD.out.mono ?_
 rintro r w1 ⟨rfl,rfl⟩
 go_wp2_with fail
 refine LS.out.mono ?_
 rintro r w2 ⟨oa,c,rfl,hA,b2,n2⟩
 have B2:=hide b2
 have HA:=hide hA
 have N2:=hide n2
 clear b2 hA n2
 go_wp2_with fail
 go_ret
 exact⟨oa,c,rfl,HA.out,B2.out,N2.out⟩
structure Tr(w wr:World)(T:Nat)(F:Nat→Prop)(t:List Wt):Prop where
 p:PF wr T F t
 b:Below w.heap.size w wr
 lo:∀k,F k→w.heap.size≤k
theorem Tr.below{w a c:World}{T:Nat}{F:Nat→Prop}{t:List Wt}(h:Tr w a T F t)(hb:Below a.heap.size a c):Tr w c T F t:=⟨h.p.below hb,btr h.b hb,h.lo⟩
theorem Tr.step{w a c:World}{T:Nat}{F F':Nat→Prop}{t t':List Wt}(h:Tr w a T F t)(k:KF F a c)(i:Nw F' F a)(p:PF c T F' t'):Tr w c T F' t':=
 ⟨p,k.below h.b h.lo,fun x hx=>by
   rcases i x hx with q|q
   ·exact h.lo x q
   ·exact Nat.le_trans h.b.size q⟩
theorem al_len(l:List Wt)(x:Wt):(al l x).length≤l.length+1:=by
 unfold al
 split
 ·split<;>simp
 ·omega
theorem ae_ok{l:List Wt}{x:Wt}(h:okb x=true)(hl:l.length≠1024):ae l x=0:=by simp[ae,h,hl]
theorem pp_blk{w:World}{B:Nat}{F:Nat→Prop}{st:St}(h:Pp w B F st):∃c t,w.heap[B]? =some (.cells c t (0,0)):=by
 obtain⟨R,S,Q,FS,FQ,h⟩:=h
 exact⟨_,_,h.hp⟩
theorem own_at2{w:World}{base:Nat}{v:Value}{l:List Int}(h:w.ownsRow base 3 1 v l.length (ic l)):∃oa c,v=.slice oa l.length c∧At w oa l∧∀a,oa=some a→base≤a.block:=by
 obtain⟨oa,c,e,h1,h2⟩:=own_at h
 refine⟨oa,c,e,h1,fun a ea=>?_⟩
 rcases h.2 with⟨e2,h0⟩|⟨g,cap,cur,e2,hbase,_⟩
 ·rw[e,ea] at e2
  cases e2
 ·rw[e,ea] at e2
  simp only[Value.slice.injEq,Option.some.injEq] at e2
  rw[e2.1]
  exact hbase
theorem at_kf{w w':World}{F:Nat→Prop}{oa:Option Addr}{l:List Int}(h:At w oa l)(k:KF F w w')(hn:∀a,oa=some a→¬F a.block):At w' oa l:=by
 intro j hj
 obtain⟨b,off,e,h0⟩:=h j hj
 exact⟨b,off,e,k.cell h0 (hn _ e)⟩
set_option maxRecDepth 100000 in
theorem rehearse_ok(g:Int)(c:Ca)(oc:Option Addr)(l:List Ca)(cc:Nat)(oa:Option Addr)(bs:List (Option Nat))(cp:Nat)(Fs:Nat→Nat→Prop)(sts:List (Option St))(B:Nat)(st:St)(w:World)(hC:CaAt w oc l)(h:Qs Pp w oa bs Fs sts)(hl:l.length≤4)(hg:0≤g)(hB:nmB bs c.ch=some B)(hP:∀u,Below w.heap.size w u→∃F,Pp u B F st)(hle:(own st c.sd).length≤1000):
 Calls Tryz.prog 152 #[.int .i64 g,cv c,.slice oc l.length cc,.slice oa bs.length cp] w fun r w'=>r=.returned (.int .i64 0)∧Below w.heap.size w w':=by
 have b1:=below_alloc w (.cells #[.bool c.sd,.int .i64 c.ch,.int .i64 c.v] 108)
 have b2:=below_alloc (w.alloc (.cells #[.bool c.sd,.int .i64 c.ch,.int .i64 c.v] 108)) (.cells #[.pointer (some ⟨B,0,none⟩)] 160)
 have BB:=hide (btr b1 b2)
 have X1:=hide (heap_new w (.cells #[.bool c.sd,.int .i64 c.ch,.int .i64 c.v] 108))
 have X2:=hide (heap_below (heap_new w (.cells #[.bool c.sd,.int .i64 c.ch,.int .i64 c.v] 108)) b2)
 have hy:=heap_new (w.alloc (.cells #[.bool c.sd,.int .i64 c.ch,.int .i64 c.v] 108)) (.cells #[.pointer (some ⟨B,0,none⟩)] 160)
 rw[World.size_alloc] at hy
 have Y2:=hide hy
 have NM:=hide (named_any oa bs c.ch cp _ (h.row.below b1))
 rw[hB] at NM
 simp only[pt,Option.map_some] at NM
 have HC:=hide hC
 have HQ:=hide h
 have HB:=hide hB
 have HP:=hide hP
 clear hC h hB hP b1 b2 hy
 unfold cv
 go_enter Tryz.func152,Tryz.ntmps152
 go_wp2_with fail
 refine NM.out.mono ?_
 rintro r w1 ⟨rfl,hw1⟩
 subst hw1
 go_wp2_with fail
 generalize (w.alloc (.cells #[.bool c.sd,.int .i64 c.ch,.int .i64 c.v] 108)).alloc (.cells #[.pointer (some ⟨B,0,none⟩)] 160)=W2 at BB X2 Y2 ⊢
 refine (Pe.new_any _).mono ?_
 rintro r w3 ⟨rfl,p3,b3⟩
 have T3:Hid (Tr w w3 W2.heap.size (fun k=>k=W2.heap.size) []):=⟨p3,btr BB.out b3,fun k e=>by have e':k=W2.heap.size:=e;rw[e'];exact BB.out.size⟩
 have X3:=hide (heap_below X2.out b3)
 have Y3:=hide (heap_below Y2.out b3)
 have x0:w3.cell? ⟨w.heap.size,0,none⟩=some (.bool c.sd):=cell_of X3.out 0
 have y0:w3.cell? ⟨w.heap.size+1,0,none⟩=some (.pointer (some ⟨B,0,none⟩)):=cell_of Y3.out 0
 have hTn:w.heap.size+1<W2.heap.size:=heap_lt Y2.out
 clear p3 b3 X2 Y2 NM
 generalize W2.heap.size=T at T3 hTn ⊢
 obtain⟨F0,pp⟩:=HP.out _ T3.out.b
 have WT:=hide (waiting_new B F0 st c.sd _ pp)
 clear pp
 obtain⟨n1,hn1⟩:∃n1,(own st c.sd).length=n1:=⟨_,rfl⟩
 rw[hn1] at WT hle
 have HN1:=hide hn1
 clear hn1
 go_wp2_with fail
 refine WT.out.mono ?_
 rintro r w4 ⟨o4,c4,rfl,at4,b4,n4⟩
 have N4:=hide n4
 have hw34:=b4.size
 have hTw3:=T3.out.p.lt
 have F4:Hid (∀x,x=T→x=T∨w4.heap.size≤x):=fun _ e=>.inl e
 have T4:=hide (T3.out.below b4)
 have A4:=hide at4
 have L4:=hide fun (q:0<(own st c.sd).length)=>at4.lt q
 have X4:=hide (heap_below X3.out b4)
 have Y4:=hide (heap_below Y3.out b4)
 clear b4 at4 n4 T3 X3 Y3 x0 y0 WT
 go_wp2_with fail
 go_loopw [27] (fun i wr=>∃(k:Nat) (F:Nat→Prop) (t:List Wt),k≤n1∧i=.int .i64 k∧t.length≤k∧Tr w wr T F t∧(∀x,F x→x=T∨w4.heap.size≤x)∧WAt wr o4 (own st c.sd)∧wr.heap[w.heap.size]? =some (.cells #[.bool c.sd,.int .i64 c.ch,.int .i64 c.v] 108)∧wr.heap[w.heap.size+1]? =some (.cells #[.pointer (some ⟨B,0,none⟩)] 160)∧w4.heap.size≤wr.heap.size) (fun i _=>n1 - (intOf i).toNat)
 case atStart=>exact⟨0,fun k=>k=T,[],Nat.zero_le _,rfl,Nat.le_refl _,T4.out,F4.out,A4.out,X4.out,Y4.out,Nat.le_refl _⟩
 case round=>
  clear T4 A4 X4 Y4 F4
  obtain⟨k,F,t,hk,rfl,ht,t5,f5,a5,x5,y5,hsz⟩:=hrel
  have T5:=hide t5
  have F5:=hide f5
  have A5:=hide a5
  have X5:=hide x5
  have Y5:=hide y5
  clear t5 f5 a5 x5 y5
  by_cases hlt:k<n1
  ·have hlt':(k:Int)<(n1:Int):=by omega
   have hkl:k<(own st c.sd).length:=by have:=HN1.out;omega
   obtain⟨y,hy⟩:∃y,(own st c.sd)[k]? =some y:=⟨_,List.getElem?_eq_getElem hkl⟩
   obtain⟨by',oy,eo,q0,q1,q2⟩:=A5.out k y hy
   have hbl4:by'<wr.heap.size:=World.block_lt_of_cell? wr _ q0
   have NL:Hid (∀a,o4=some a→¬F a.block):=by
    intro a e hf
    have h1:=N4.out a e
    rcases F5.out _ hf with z|z
    ·omega
    ·have:=L4.out (by omega) a e
     omega
   subst eo
   have bx:=below_alloc wr (.cells #[.int .i64 y.g,.int .i64 y.c,.int .i64 y.v] 169)
   have T6:=hide (T5.out.below bx)
   have AD:=hide (add_any T F t y _ T6.out.p)
   have A6:=hide (A5.out.below bx)
   have X6:=hide (heap_below X5.out bx)
   have Y6:=hide (heap_below Y5.out bx)
   have sz6:wr.heap.size≤(wr.alloc (.cells #[.int .i64 y.g,.int .i64 y.c,.int .i64 y.v] 169)).heap.size:=bx.size
   have hal:=al_len t y
   unfold wv at AD
   clear hy bx
   go_wp2_with fail
   refine AD.out.mono ?_
   rintro r w7 ⟨rfl,k7,F7,n7,p7⟩
   have T7:=hide (T6.out.step k7 n7 p7)
   have A7:=hide (A6.out.kf k7 NL.out)
   have X7:=hide (k7.heap X6.out (fun hf=>by rcases F5.out _ hf with z|z<;>omega))
   have Y7:=hide (k7.heap Y6.out (fun hf=>by rcases F5.out _ hf with z|z<;>omega))
   have F7':Hid (∀x,F7 x→x=T∨w4.heap.size≤x):=fun x hx=>by
    rcases n7 x hx with z|z
    ·exact F5.out x z
    ·exact .inr (by omega)
   have sz7:=k7.size
   clear k7 n7 p7
   go_wp2_with fail
   go_roundw
   case rel=>exact⟨k+1,F7,al t y,by omega,by go_num,by omega,T7.out,F7'.out,A7.out,X7.out,Y7.out,by omega⟩
   case measure=>simp[intOf];omega
  ·have hlt':¬((k:Int)<(n1:Int)):=by omega
   have szw:w.heap.size+1<wr.heap.size:=heap_lt Y5.out
   have BD5:=hide T5.out.p.bd
   have GS:Hid (∀u,Below wr.heap.size wr u→Calls Tryz.prog 148 #[.slice oc l.length cc,.slice oa bs.length cp,.func (.func 177) #[] #[.pointer (some ⟨w.heap.size+1,0,none⟩),.pointer (some ⟨w.heap.size,0,none⟩)]] u fun r w'=>∃ob d,r=.returned (.slice ob (ps (smP bs c l) l.length).length d)∧w'.ownsRow u.heap.size 3 1 (.slice ob (ps (smP bs c l) l.length).length d) (ps (smP bs c l) l.length).length (ic (ps (smP bs c l) l.length))∧Below u.heap.size u w'):=by
    intro u hu
    have bu:=btr T5.out.b hu
    refine gather_s (w.heap.size+1) w.heap.size (smP bs c l) oc l cc oa bs cp u (HC.out.below bu) (HQ.out.row.below bu) (by omega) ?_
    intro i o v hi hv
    have bv:=btr bu hv
    have hX:=heap_below (heap_below X5.out hu) hv
    have hY:=heap_below (heap_below Y5.out hu) hv
    have e:smP bs c l i=(decide (nmB bs o.ch=some B)&&(o.sd==c.sd)):=by
     unfold smP
     rw[hi]
     simp only[HB.out]
    rw[e]
    refine rehearse1_any o c (nmB bs o.ch) B _ _ v (cell_of hY 0) (cell_of hX 0) ?_ ?_
    ·obtain⟨F1,p1⟩:=HP.out v bv
     exact pp_blk p1
    ·intro D hD
     rcases (HQ.out.below frP bv).nm o.ch with⟨q,_⟩|⟨B1,s1,q,_,_,_,_,_,p1⟩
     ·rw[q] at hD
      cases hD
     ·rw[q] at hD
      cases hD
      exact pp_blk p1
   obtain⟨l2,hl2⟩:∃l2,l2=ps (smP bs c l) l.length:=⟨_,rfl⟩
   have hpl:=ps_len (smP bs c l) l.length
   rw[←hl2] at GS hpl
   have MB:Hid (∀k,k<l2.length→∃p:Nat,nth l2 k=(p:Int)∧p<l.length):=by
    intro k hk
    rw[hl2] at hk ⊢
    obtain⟨p,e,hp,_⟩:=ps_mem hk
    exact⟨p,e,hp⟩
   clear hl2 A5 HN1 N4 L4 X5 Y5
   go_wp2_with fail
   refine (GS.out _ (by first|exact Below.refl _ _|exact bdrew1 _)).mono ?_
   rintro r w6 ⟨o6,d6,rfl,ow6,b6⟩
   obtain⟨o6',c6',e6,at6,nb6⟩:=own_at2 ow6
   simp only[Value.slice.injEq] at e6
   obtain⟨rfl,-,rfl⟩:=e6
   have A6:=hide at6
   have N6:=hide nb6
   have L6:=hide fun (q:0<l2.length)=>at6.lt q
   have T6:=hide (T5.out.below (by first|exact b6|exact btr (bdrew1 _) b6))
   have sz6:wr.heap.size≤w6.heap.size:=by first|exact b6.size|exact (btr (bdrew1 _) b6).size
   clear at6 nb6 ow6 b6 GS T5
   obtain⟨n2,hn2⟩:∃n2,l2.length=n2:=⟨_,rfl⟩
   rw[hn2] at MB hpl L6
   have HN2:=hide hn2
   rw[hn2]
   clear hn2
   go_wp2_with fail
   go_loopw [41] (fun i wz=>∃(j:Nat) (F':Nat→Prop) (t':List Wt),j≤n2∧i=.int .i64 j∧t'.length≤n1+j∧Tr w wz T F' t'∧(∀x,F' x→F x∨w6.heap.size≤x)∧At wz o6 l2∧w6.heap.size≤wz.heap.size) (fun i _=>n2 - (intOf i).toNat)
   case atStart=>exact⟨0,F,t,Nat.zero_le _,rfl,by omega,T6.out,fun _ e=>.inl e,A6.out,Nat.le_refl _⟩
   case round=>
    clear T6 A6
    obtain⟨j,F7,t7,hj,rfl,ht7,t8,f8,a8,hs8⟩:=hrel
    have T8:=hide t8
    have F8:=hide f8
    have A8:=hide a8
    clear t8 f8 a8
    by_cases hjl:j<n2
    ·have hjl':(j:Int)<(n2:Int):=by omega
     have hjn:j<l2.length:=by have:=HN2.out;omega
     obtain⟨p,ep,hp⟩:=MB.out j hjl
     obtain⟨b9,off9,e9,q9⟩:=A8.out j hjn
     rw[ep] at q9
     have NL:Hid (∀a,o6=some a→¬F7 a.block):=by
      intro a e hf
      have h1:=N6.out a e
      have h2:=L6.out (by omega) a e
      rcases F8.out _ hf with z|z
      ·have:=BD5.out _ z
       omega
      ·omega
     subst e9
     have hp':(p:Int)<(l.length:Int):=by omega
     obtain⟨o,ho⟩:∃o,l[p]? =some o:=⟨_,List.getElem?_eq_getElem hp⟩
     obtain⟨bc,offc,rfl,c0,c1,c2⟩:=HC.out.below T8.out.b p o ho
     have WA:=hide (waiter_any g p o wr)
     unfold cv wv at WA
     have ALL:Hid (∀u,Below wr.heap.size wr u→Calls Tryz.prog 137 #[.pointer (some ⟨T,0,none⟩),wv ⟨g,p,o.v⟩] u fun r w'=>r=.returned (.int .i64 0)∧∃F',Tr w w' T F' (al t7 ⟨g,p,o.v⟩)∧(∀x,F' x→F x∨w6.heap.size≤x)∧At w' (some ⟨b9,off9,none⟩) l2∧w6.heap.size≤w'.heap.size):=by
      intro u hu
      have TU:=T8.out.below hu
      refine (add_any T F7 t7 ⟨g,p,o.v⟩ u TU.p).mono ?_
      rintro r w9 ⟨rfl,k9,F9,n9,p9⟩
      refine⟨by rw[ae_ok ((okb_iff _).2 ⟨hg,by simp only;omega⟩) (by omega)],F9,TU.step k9 n9 p9,?_,at_kf (A8.out.below hu) k9 NL.out,?_⟩
      ·intro x hx
       rcases n9 x hx with z|z
       ·exact F8.out x z
       ·exact .inr (by have:=hu.size;omega)
      ·have:=hu.size
       have:=k9.size
       omega
     unfold wv at ALL
     have hal:=al_len t7 ⟨g,p,o.v⟩
     clear MB ho NL
     go_wp2_with fail
     refine WA.out.mono ?_
     rintro r w9 ⟨rfl,b9'⟩
     have B9:=hide b9'
     clear b9' c0 c1 c2 q9
     go_wp2_with fail
     refine (ALL.out _ B9.out).mono ?_
     rintro r w10 ⟨rfl,F10,t10,f10,a10,s10⟩
     have T10:=hide t10
     have G10:=hide f10
     have A10:=hide a10
     clear t10 f10 a10 ALL WA
     go_wp2_with fail
     go_roundw
     case rel=>exact⟨j+1,F10,_,by omega,by go_num,by omega,T10.out,G10.out,A10.out,s10⟩
     case measure=>simp[intOf];omega
    ·have hjl':¬((j:Int)<(n2:Int)):=by omega
     have B9:=hide T8.out.b
     go_wp2_with fail
     go_ret
     exact⟨rfl,B9.out⟩
end Fk
namespace Fk
open Ba Pe _root_.Go.Proofs.YtogkjaekfhjelaaGreat.Pi Rp
def pk1(g:Int)(p:Nat)(c:Ca)(s:List (Option St)):List (Option St):=match nmB s c.ch with|none=>s|some st=>s.set c.ch.toNat (some (waitS st c.sd ⟨g,p,c.v⟩))
def pkS(g:Int)(l:List Ca)(s:List (Option St)):Nat→List (Option St)
 |0=>s
 |k+1=>match l[k]? with|none=>pkS g l s k|some c=>pk1 g k c (pkS g l s k)
def pkL(g:Int)(l:List Ca)(s:List (Option St))(L:List Int):List (Option St):=L.foldl (fun s p=>match l[p.toNat]? with|none=>s|some c=>pk1 g p.toNat c s) s
theorem pkL_app(g:Int)(l:List Ca)(s:List (Option St))(L:List Int)(p:Nat)(c:Ca)(h:l[p]? =some c):pkL g l s (L++[(p:Int)])=pk1 g p c (pkL g l s L):=by
 unfold pkL
 rw[List.foldl_append]
 simp only[List.foldl_cons,List.foldl_nil,Int.toNat_natCast,h]
def hasC(s:List (Option St))(l:List Ca):Nat→Bool:=fun i=>match l[i]? with|none=>false|some c=>(nmB s c.ch).isSome
theorem nmB_set{s:List (Option St)}{c d:Int}{st:St}(v:St)(h:nmB s c=some st):nmB (s.set c.toNat (some v)) d=if d=c then some v else nmB s d:=by
 unfold nmB at h ⊢
 split at h
 ·cases h
 ·rename_i e
  rw[List.length_set]
  by_cases ed:d=c
  ·subst ed
   rw[if_neg e,if_pos rfl,List.getElem?_set_self (by omega)]
   rfl
  ·rw[if_neg ed]
   split
   ·rfl
   ·rw[List.getElem?_set_ne (by omega)]
theorem nmB_at{s:List (Option St)}{c:Int}{st:St}(h:nmB s c=some st):s[c.toNat]? =some (some st):=by
 unfold nmB at h
 split at h
 ·cases h
 ·cases e:s[c.toNat]? with
  |none=>rw[e] at h;cases h
  |some o=>rw[e] at h;exact congrArg some h
theorem pk1_none(g:Int)(p:Nat)(c:Ca)(s:List (Option St))(d:Int):nmB (pk1 g p c s) d=none↔nmB s d=none:=by
 unfold pk1
 cases h:nmB s c.ch with
 |none=>rfl
 |some st=>
  simp only
  rw[nmB_set _ h]
  by_cases e:d=c.ch
  ·subst e
   rw[if_pos rfl,h]
   simp
  ·rw[if_neg e]
theorem pkS_none(g:Int)(l:List Ca)(s:List (Option St))(k:Nat)(d:Int):nmB (pkS g l s k) d=none↔nmB s d=none:=by
 induction k with
 |zero=>rfl
 |succ k ih=>
  unfold pkS
  cases h:l[k]? with
  |none=>exact ih
  |some c=>exact (pk1_none g k c _ d).trans ih
theorem pk_ps(g:Int)(l:List Ca)(s:List (Option St))(k:Nat):pkL g l s (ps (hasC s l) k)=pkS g l s k:=by
 induction k with
 |zero=>rfl
 |succ k ih=>
  rw[ps_succ]
  unfold pkS
  cases h:l[k]? with
  |none=>
   have e:hasC s l k=false:=by unfold hasC;rw[h]
   rw[e]
   simp only[Bool.false_eq_true,if_false]
   exact ih
  |some c=>
   cases hn:nmB s c.ch with
   |none=>
    have e:hasC s l k=false:=by unfold hasC;rw[h];simp only[hn];rfl
    rw[e]
    simp only[Bool.false_eq_true,if_false]
    rw[ih]
    unfold pk1
    rw[(pkS_none g l s k c.ch).2 hn]
   |some st=>
    have e:hasC s l k=true:=by unfold hasC;rw[h];simp only[hn];rfl
    rw[e]
    simp only[if_true]
    rw[pkL_app g l s _ k c h,ih]
structure Iv(g:Int)(l:List Ca)(m:Nat)(s:List (Option St)):Prop where
 no:∀c∈l,∀st,nmB s c.ch=some st→st.closed=false∧room st c.sd=false∧∀x∈own st (!c.sd),x.g=g
 le:∀(i:Nat) (st:St),s[i]? =some (some st)→∀b,(own st b).length≤m
theorem dr_nil{g:Int}{L:List Wt}(h:∀x∈L,x.g=g):dr g L=[]:=by
 unfold dr
 rw[List.filter_eq_nil_iff]
 intro x hx
 simp[h x hx]
theorem Iv.ok{g:Int}{l:List Ca}{m:Nat}{s:List (Option St)}(h:Iv g l m s)(hg:0≤g)(hm:m<1024){c:Ca}(hc:c∈l){st:St}(hn:nmB s c.ch=some st)(p:Nat):waitE st c.sd ⟨g,p,c.v⟩=0∧waitS st c.sd ⟨g,p,c.v⟩=if c.sd then {st with snd:=st.snd++[⟨g,p,c.v⟩]} else {st with rcv:=st.rcv++[⟨g,p,c.v⟩]}:=by
 obtain⟨h1,h2,h3⟩:=h.no c hc st hn
 have hl:=h.le _ _ (nmB_at hn)
 have hr:rdyBut st c.sd g=false:=by
  unfold rdyBut
  rw[h1,h2,dr_nil h3]
  rfl
 have ho:okb ⟨g,(p:Int),c.v⟩=true:=(okb_iff _).2 ⟨hg,by simp only;omega⟩
 unfold waitE waitS
 simp only[hr,Bool.false_eq_true,if_false]
 refine⟨ae_ok ho (by have:=hl c.sd;omega),?_⟩
 have ht:=hl true
 have hf:=hl false
 unfold own at ht hf
 simp only[if_true,Bool.false_eq_true,if_false] at ht hf
 have e1:al st.snd ⟨g,(p:Int),c.v⟩=st.snd++[⟨g,(p:Int),c.v⟩]:=by
  unfold al
  rw[if_pos ho,if_neg (by omega)]
 have e2:al st.rcv ⟨g,(p:Int),c.v⟩=st.rcv++[⟨g,(p:Int),c.v⟩]:=by
  unfold al
  rw[if_pos ho,if_neg (by omega)]
 rw[e1,e2]
theorem Iv.step{g:Int}{l:List Ca}{m:Nat}{s:List (Option St)}(h:Iv g l m s)(hg:0≤g)(hm:m<1024){c:Ca}(hc:c∈l)(p:Nat):Iv g l (m+1) (pk1 g p c s):=by
 unfold pk1
 cases hn:nmB s c.ch with
 |none=>exact⟨h.no,fun i st hi b=>Nat.le_succ_of_le (h.le i st hi b)⟩
 |some st=>
  simp only
  rw[(h.ok hg hm hc hn p).2]
  constructor
  ·intro d hd st' hs
   rw[nmB_set _ hn] at hs
   by_cases e:d.ch=c.ch
   ·rw[if_pos e] at hs
    rw[←e] at hn
    obtain⟨h1,h2,h3⟩:=h.no d hd st hn
    cases hs
    cases hcs:c.sd
    ·simp only[Bool.false_eq_true,if_false]
     refine⟨h1,h2,?_⟩
     cases hds:d.sd
     ·rw[hds] at h3;exact h3
     ·rw[hds] at h3
      intro x hx
      rcases List.mem_append.1 hx with q|q
      ·exact h3 x q
      ·rw[List.mem_singleton] at q;rw[q]
    ·simp only[if_true]
     refine⟨h1,h2,?_⟩
     cases hds:d.sd
     ·rw[hds] at h3
      intro x hx
      rcases List.mem_append.1 hx with q|q
      ·exact h3 x q
      ·rw[List.mem_singleton] at q;rw[q]
     ·rw[hds] at h3;exact h3
   ·rw[if_neg e] at hs
    exact h.no d hd st' hs
  ·intro i st' hi b
   have hl:=h.le _ _ (nmB_at hn)
   by_cases e:i=c.ch.toNat
   ·subst e
    have hlt:=(List.getElem?_eq_some_iff.1 (nmB_at hn)).1
    rw[List.getElem?_set_self hlt] at hi
    cases hi
    have ht:=hl true
    have hf:=hl false
    unfold own at ht hf ⊢
    simp only[if_true,Bool.false_eq_true,if_false] at ht hf
    cases c.sd<;>cases b<;>simp<;>omega
   ·rw[List.getElem?_set_ne (fun q=>e q.symm)] at hi
    exact Nat.le_succ_of_le (h.le i st' hi b)
theorem ps_nil{P:Nat→Bool}{n:Nat}(h:ps P n=[])(k:Nat)(hk:k<n):P k=false:=by
 unfold ps at h
 rw[List.map_eq_nil_iff,List.filter_eq_nil_iff] at h
 have:=h k (List.mem_range.2 hk)
 simpa using this
theorem Iv.start{g:Int}{l:List Ca}{m:Nat}{s:List (Option St)}(h:rdyL l s=[])(hl:∀(i:Nat) (st:St),s[i]? =some (some st)→∀b,(own st b).length≤m):Iv g l m s:=by
 refine⟨fun c hc st hn=>?_,hl⟩
 obtain⟨k,hk⟩:=List.getElem?_of_mem hc
 have hkl:=(List.getElem?_eq_some_iff.1 hk).1
 have q:=ps_nil h k hkl
 simp only[hk] at q
 unfold crdy at q
 rw[hn] at q
 simp only at q
 unfold rdy at q
 simp only[Bool.or_eq_false_iff,decide_eq_false_iff_not,Nat.not_lt,Nat.le_zero] at q
 refine⟨q.1.1,q.1.2,fun x hx=>?_⟩
 rw[List.eq_nil_of_length_eq_zero q.2] at hx
 cases hx
def pkBad(g:Int)(l:List Ca):Bool:=decide (g<0)||decide (4<l.length)
def pkE(g:Int)(l:List Ca)(s:List (Option St)):Int:=if pkBad g l=true then 1 else if 0<(rdyL l s).length then 7 else 0
def pkN(g:Int)(l:List Ca)(s:List (Option St)):Int:=if pkBad g l=true then 0 else if 0<(rdyL l s).length then 0 else ((ps (hasC s l) l.length).length:Int)
def pkA(g:Int)(l:List Ca)(s:List (Option St)):List (Option St):=if pkBad g l=true then s else if 0<(rdyL l s).length then s else pkS g l s l.length
end Fk
namespace Pk
open Ba
def ab(lo hi:Int)(l:List Int):Bool:=l.all fun x=>decide (lo≤x)&&decide (x≤hi)
theorem ab_iff(lo hi:Int)(l:List Int):ab lo hi l=true↔∀x∈l,lo≤x∧x≤hi:=by
 simp[ab]
theorem ab_nth{lo hi:Int}{l:List Int}:ab lo hi l=true↔∀k,k<l.length→lo≤nth l k∧nth l k≤hi:=by
 rw[ab_iff]
 constructor
 ·intro h k hk
  rw[nth_lt l k hk]
  exact h _ (List.getElem_mem hk)
 ·intro h x hx
  obtain⟨k,hk,rfl⟩:=List.mem_iff_getElem.1 hx
  rw[←nth_lt l k hk]
  exact h k hk
theorem between_any(oa:Option Addr)(l:List Int)(c:Nat)(lo hi:Int)(w:World)(hA:At w oa l)(hl:l.length≤maxLen):
 Calls Tryz.prog 60 #[.slice oa l.length c,.int .i64 lo,.int .i64 hi] w fun r w'=>r=.returned (.bool (ab lo hi l))∧w'=w:=by
 have HA:=hide hA
 clear hA
 unfold maxLen at hl
 go_enter Tryz.func60,Tryz.ntmps60
 go_wp2_with fail
 go_loop [11] (fun i=>∃k:Nat,k≤l.length∧i=.int .i64 k∧∀j,j<k→lo≤nth l j∧nth l j≤hi) (fun i=>l.length - (intOf i).toNat)
 case atStart=>exact⟨0,Nat.zero_le _,rfl,fun j hj=>absurd hj (Nat.not_lt_zero _)⟩
 case round=>
  obtain⟨k,hk,rfl,hall⟩:=hrel
  have HE:=hide hall
  clear hall
  by_cases hlt:k<l.length
  ·obtain⟨b1,o1,rfl,hc1⟩:=HA.out k hlt
   have hlt':(k:Int)<(l.length:Int):=by omega
   cases h1:decide (nth l k<lo)
   ·cases h2:decide (hi<nth l k)
    ·have HX:Hid (lo≤nth l k∧nth l k≤hi):=by show _∧_;simp at h1 h2;exact⟨h1,h2⟩
     go_wp2_with fail
     go_round
     case rel=>exact⟨k+1,by omega,by go_num,fun j hj=>by
      by_cases e:j=k
      ·subst e;exact HX.out
      ·exact HE.out j (by omega)⟩
     case measure=>simp[intOf];omega
    ·have HX:Hid (ab lo hi l=false):=by
      show _=_
      simp at h2
      rw[←Bool.not_eq_true]
      intro e
      have:=ab_nth.1 e k hlt
      omega
     go_wp2_with fail
     go_ret
     exact⟨ret_bool HX.out.symm,rfl⟩
   ·have HX:Hid (ab lo hi l=false):=by
     show _=_
     simp at h1
     rw[←Bool.not_eq_true]
     intro e
     have:=ab_nth.1 e k hlt
     omega
    go_wp2_with fail
    go_ret
    exact⟨ret_bool HX.out.symm,rfl⟩
  ·have HX:Hid (ab lo hi l=true):=ab_nth.2 fun j hj=>HE.out j (by omega)
   go_wp2_with fail
   go_ret
   exact⟨ret_bool HX.out.symm,rfl⟩
theorem take_none(C i:Nat)(oa:Option Addr)(c:Nat)(w:World)(h:w.cell? ⟨C,i,none⟩=some (.slice oa 0 c)):
 Calls Tryz.prog 98 #[.pointer (some ⟨C,i,none⟩)] w fun r w'=>r=.returned (.tuple #[.int .i64 0,.bool false])∧w'=w:=by
 go_enter Tryz.func98,Tryz.ntmps98
 go_wp2_with fail
 go_ret2
 exact⟨rfl,rfl⟩
theorem take_some(C i b off n c:Nat)(x:Int)(w:World)(h:w.cell? ⟨C,i,none⟩=some (.slice (some ⟨b,off,none⟩) (n+1) c))(hf:w.frozen? ⟨C,i,none⟩=false)(hc:w.cell? ⟨b,off,none⟩=some (.int .i64 x))(hn:n+1≤c):
 Calls Tryz.prog 98 #[.pointer (some ⟨C,i,none⟩)] w fun r w'=>r=.returned (.tuple #[.int .i64 x,.bool true])∧∃off',(0<n→off'=off+1)∧w'=w.setCell ⟨C,i,none⟩ (.slice (some ⟨b,off',none⟩) n (c - 1)):=by
 go_enter Tryz.func98,Tryz.ntmps98
 go_wp2_with fail
 ·go_ret2
  exact⟨rfl,off,fun h=>by omega,rfl⟩
 ·go_ret2
  exact⟨rfl,off+1,fun _=>rfl,rfl⟩
def Cur(w:World)(C:Nat)(p d:List Int):Prop:=
 ∃oa ca ob cb,w.heap[C]? =some (.cells #[.slice oa p.length ca,.slice ob d.length cb] 116 (0,0))∧(At w oa p∧p.length≤ca∧∀a,oa=some a→a.block<C)∧At w ob d∧d.length≤cb∧∀a,ob=some a→a.block<C
theorem Cur.below{w w':World}{C:Nat}{p d:List Int}(h:Cur w C p d)(hb:Below w.heap.size w w'):Cur w' C p d:=by
 obtain⟨oa,ca,ob,cb,h0,⟨h1,h2,h4⟩,h5,h6,h8⟩:=h
 exact⟨oa,ca,ob,cb,heap_below h0 hb,⟨h1.below hb,h2,h4⟩,h5.below hb,h6,h8⟩
theorem at_tail{w w':World}{C i b off off':Nat}{x:Int}{l:List Int}{v:Value}(h:At w (some ⟨b,off,none⟩) (x::l))(hb:b<C)(ho:0<l.length→off'=off+1)(hw:w'=w.setCell ⟨C,i,none⟩ v):At w' (some ⟨b,off',none⟩) l:=by
 subst hw
 intro k hk
 obtain rfl:=ho (by omega)
 obtain⟨b',o',e,hc⟩:=((KB.refl C w).setCell i v).at h.tail (fun a e=>by cases e;show b≠C;omega) k hk
 exact⟨b',o',e,hc⟩
theorem hmf:∀(fn:Fn) (first cap:Array Value) (w:World),(Instr.makeFunc fn first cap).run Tryz.prog w=.ok (.func fn first cap) w:=fun _ _ _ _=>rfl
theorem takers_any(C:Nat)(w:World):
 Calls Tryz.prog 67 #[.pointer (some ⟨C,0,none⟩)] w fun r w'=>r=.returned (.tuple #[.func (.func 98) #[.pointer (some ⟨C,0,none⟩)] #[],.func (.func 98) #[.pointer (some ⟨C,1,none⟩)] #[]])∧Below w.heap.size w w':=by
 have hm:=hmf
 go_enter Tryz.func67,Tryz.ntmps67
 go_wp2_with fail
 go_region
 all_goals
  go_wp2_with fail
  go_ret2
  exact⟨rfl,bdrew1 _⟩
end Pk
namespace Pk
open Ba
theorem next_none(C:Nat)(d:List Int)(w:World)(h:Cur w C [] d):
 Calls Tryz.prog 33 #[.pointer (some ⟨C,0,none⟩)] w fun r w'=>r=.returned (.tuple #[.int .i64 0,.bool false])∧Below w.heap.size w w':=by
 obtain⟨oa,ca,ob,cb,h0,_⟩:=h
 have H:=hide h0
 clear h0
 go_enter Tryz.func33,Tryz.ntmps33
 go_wp2_with fail
 refine (takers_any _ _).mono ?_
 rintro r w1 ⟨rfl,b1⟩
 have c0:=cell_of (heap_below H.out b1) 0
 have B:=hide b1
 clear b1
 go_wp2_with fail
 refine (take_none C 0 oa ca _ c0).mono ?_
 rintro r w2 ⟨rfl,rfl⟩
 go_wp2_with fail
 go_ret2
 exact⟨rfl,B.out⟩
theorem next_some(C:Nat)(x:Int)(p d:List Int)(w:World)(h:Cur w C (x::p) d):
 Calls Tryz.prog 33 #[.pointer (some ⟨C,0,none⟩)] w fun r w'=>r=.returned (.tuple #[.int .i64 x,.bool true])∧Cur w' C p d∧KB C w w':=by
 obtain⟨oa,ca,ob,cb,h0,⟨h1,h2,h4⟩,h5,h6,h8⟩:=h
 obtain⟨b,off,rfl,hc⟩:=h1.head
 have hbC:=h4 _ rfl
 simp only at hbC
 have H:=hide h0
 have H1:=hide h1
 have H5:=hide h5
 have HC:=hide hc
 simp at h2
 clear h0 h1 h5 hc
 go_enter Tryz.func33,Tryz.ntmps33
 go_wp2_with fail
 refine (takers_any _ _).mono ?_
 rintro r w1 ⟨rfl,b1⟩
 have G1:=hide (heap_below H.out b1)
 have c0:=cell_of G1.out 0
 have f0:=frozen_of G1.out 0
 have A1:=hide (H1.out.below b1)
 have A5:=hide (H5.out.below b1)
 obtain⟨_,_,e,hc⟩:=A1.out.head
 simp at e
 obtain⟨rfl,rfl⟩:=e
 have B:=hide b1
 clear b1
 go_wp2_with fail
 refine (take_some C 0 b off p.length ca x _ c0 f0 hc h2).mono ?_
 rintro r w2 ⟨rfl,off',ho,hw⟩
 have HW:=hide hw
 have HO:=hide ho
 clear hw ho
 go_wp2_with fail
 go_ret2
 refine⟨rfl,⟨some ⟨b,off',none⟩,ca - 1,ob,cb,?_,⟨at_tail A1.out hbC HO.out HW.out,by omega,fun a e=>by cases e;exact hbC⟩,?_,h6,h8⟩,?_⟩
 ·rw[HW.out,Ba.heap_setCell_same G1.out]
  rfl
 ·rw[HW.out]
  exact ((KB.refl C w1).setCell 0 _).at A5.out fun a e=>by have:=h8 a e;omega
 ·rw[HW.out]
  exact (KB.of B.out).setCell 0 _
theorem draw_arg(o:Option Addr)(n:Int)(w:World)(h:n<1∨64<n):
 Calls Tryz.prog 109 #[.pointer o,.int .i64 n] w fun r w'=>r=.returned (.tuple #[.int .i64 0,.int .i64 1])∧w'=w:=by
 by_cases h1:n<1
 ·have d1:decide (n<1)=true:=by simp;omega
  go_enter Tryz.func109,Tryz.ntmps109
  go_wp2_with fail
  go_ret2
  exact⟨rfl,rfl⟩
 ·have d1:decide (n<1)=false:=by simp;omega
  have d2:decide (64<n)=true:=by simp;omega
  go_enter Tryz.func109,Tryz.ntmps109
  go_wp2_with fail
  go_ret2
  exact⟨rfl,rfl⟩
theorem draw_one(o:Option Addr)(w:World):
 Calls Tryz.prog 109 #[.pointer o,.int .i64 1] w fun r w'=>r=.returned (.tuple #[.int .i64 0,.int .i64 0])∧w'=w:=by
 go_enter Tryz.func109,Tryz.ntmps109
 go_wp2_with fail
 go_ret2
 exact⟨rfl,rfl⟩
theorem draw_none(C:Nat)(p:List Int)(n:Int)(w:World)(h:2≤n∧n≤64)(hC:Cur w C p []):
 Calls Tryz.prog 109 #[.pointer (some ⟨C,0,none⟩),.int .i64 n] w fun r w'=>r=.returned (.tuple #[.int .i64 0,.int .i64 0])∧Below w.heap.size w w':=by
 obtain⟨oa,ca,ob,cb,h0,_⟩:=hC
 have H:=hide h0
 clear h0
 have d1:decide (n<1)=false:=by simp;omega
 have d2:decide (64<n)=false:=by simp;omega
 have d3:(n==1)=false:=by simp;omega
 have n1:=h.1
 have n2:=h.2
 go_enter Tryz.func109,Tryz.ntmps109
 go_wp2_with fail
 refine (takers_any _ _).mono ?_
 rintro r w1 ⟨rfl,b1⟩
 have c0:=cell_of (heap_below H.out b1) 1
 have B:=hide b1
 clear b1
 go_wp2_with fail
 refine (take_none C 1 ob cb _ c0).mono ?_
 rintro r w2 ⟨rfl,rfl⟩
 go_wp2_with fail
 go_ret2
 exact⟨by simp,B.out⟩
theorem draw_some(C:Nat)(x:Int)(p d:List Int)(n:Int)(w:World)(h:2≤n∧n≤64)(hx:0≤x)(hC:Cur w C p (x::d)):
 Calls Tryz.prog 109 #[.pointer (some ⟨C,0,none⟩),.int .i64 n] w fun r w'=>r=.returned (.tuple #[.int .i64 (x % n),.int .i64 0])∧Cur w' C p d∧KB C w w':=by
 obtain⟨oa,ca,ob,cb,h0,⟨h1,h2,h4⟩,h5,h6,h8⟩:=hC
 obtain⟨b,off,rfl,hc⟩:=h5.head
 have hbC:=h8 _ rfl
 simp only at hbC
 have H:=hide h0
 have H1:=hide h1
 have H5:=hide h5
 simp at h6
 clear h0 h1 h5 hc
 have d1:decide (n<1)=false:=by simp;omega
 have d2:decide (64<n)=false:=by simp;omega
 have d3:(n==1)=false:=by simp;omega
 have n1:=h.1
 have n2:=h.2
 go_enter Tryz.func109,Tryz.ntmps109
 go_wp2_with fail
 refine (takers_any _ _).mono ?_
 rintro r w1 ⟨rfl,b1⟩
 have G1:=hide (heap_below H.out b1)
 have c0:=cell_of G1.out 1
 have f0:=frozen_of G1.out 1
 have A1:=hide (H1.out.below b1)
 have A5:=hide (H5.out.below b1)
 obtain⟨_,_,e,hc⟩:=A5.out.head
 simp at e
 obtain⟨rfl,rfl⟩:=e
 have B:=hide b1
 clear b1
 go_wp2_with fail
 refine (take_some C 1 b off d.length cb x _ c0 f0 hc h6).mono ?_
 rintro r w2 ⟨rfl,off',ho,hw⟩
 have HW:=hide hw
 have HO:=hide ho
 clear hw ho
 go_wp2_with fail
 go_ret2
 refine⟨rfl,⟨oa,ca,some ⟨b,off',none⟩,cb - 1,?_,⟨?_,h2,h4⟩,at_tail A5.out hbC HO.out HW.out,by omega,fun a e=>by cases e;exact hbC⟩,?_⟩
 ·rw[HW.out,Ba.heap_setCell_same G1.out]
  rfl
 ·rw[HW.out]
  exact ((KB.refl C w1).setCell 1 _).at A1.out fun a e=>by have:=h4 a e;omega
 ·rw[HW.out]
  exact (KB.of B.out).setCell 1 _
theorem left_any(C:Nat)(p d:List Int)(w:World)(h:Cur w C p d):
 Calls Tryz.prog 31 #[.pointer (some ⟨C,0,none⟩)] w fun r w'=>r=.returned (.tuple #[.int .i64 p.length,.int .i64 d.length])∧Below w.heap.size w w':=by
 obtain⟨oa,ca,ob,cb,h0,_⟩:=h
 have c0:=cell_of h0 0
 have c1:=cell_of h0 1
 simp at c0 c1
 clear h0
 go_enter Tryz.func31,Tryz.ntmps31
 go_wp2_with fail
 go_quiet (fail)
 go_wp2_with fail
 go_ret2
 exact⟨rfl,by first|exact bdrew _ _|exact Below.refl _ _⟩
end Pk
namespace Pk
open Ba
theorem info_int:(Tryz.prog.info? 3).map (fun i=>(i.zero,i.size,i.bytes))=some (some (.int .i64 0),1,8):=by kernel_rfl
theorem run_fresh(w:World)(oa:Option Addr)(l:List Int)(c:Nat)(ty:TypeId)(hA:At w oa l)(hl:l.length≤1000):
 ∃ob d W,(Builtin.append_ #[113,113] ty #[.slice none 0 0,.slice oa l.length c]).run Tryz.prog w=.ok (.slice ob l.length d) W∧l.length≤d∧At W ob l∧(∀a,ob=some a→a.block<W.heap.size)∧Below w.heap.size w W:=by
 cases hi:Tryz.prog.info? 3 with
 |none=>have:=info_int;rw[hi] at this;cases this
 |some i=>
  have hx:=info_int
  rw[hi] at hx
  simp at hx
  obtain⟨hz,hs,hb⟩:=hx
  by_cases h0:l.length=0
  ·obtain rfl:=List.eq_nil_of_length_eq_zero h0
   refine⟨none,0,w,?_,Nat.le_refl _,At.nil _ _,fun a e=>(by cases e),Below.refl _ _⟩
   have hs0:(Builtin.firstCells 1 0 (.slice oa 0 c)).run Tryz.prog w=.ok #[] w:=by
    cases oa with
    |none=>exact run_firstCells_none w 1 0 0 c
    |some a=>exact run_firstCells_some w 1 0 a 0 c [] rfl (fun j v h=>by simp at h)
   simp[Builtin.append_,run_underlying Tryz.underlying113,sizeOf,typeInfo,hi,hs,Builtin.lenOf,hs0]
  ·obtain⟨b,off,rfl,_⟩:=hA 0 (by omega)
   have hnews:∀j u,(l.map (Value.int .i64))[j]? =some u→w.cell? ((⟨b,off,none⟩:Addr).add j)=some u:=by
    intro j u hu
    have hj:j<l.length:=by
     rcases Nat.lt_or_ge j l.length with q|q
     ·exact q
     ·rw[List.getElem?_eq_none (by simpa using q)] at hu;cases hu
    obtain⟨b',off',e,hc⟩:=hA j hj
    simp at e
    obtain⟨rfl,rfl⟩:=e
    rw[List.getElem?_map,List.getElem?_eq_getElem hj] at hu
    simp at hu
    rw[←hu,←nth_lt l j hj,Addr.add_lit]
    exact hc
   have src:=Src.ofSlice (P:=Tryz.prog) w (size:=1) Tryz.underlying113 ⟨b,off,none⟩ l.length c (l.map (Value.int .i64)) (by simp) hnews (fun u hu=>by
    obtain⟨x,_,rfl⟩:=List.mem_map.1 hu
    rfl)
   have hold:(Builtin.firstCells i.size 0 (.slice none 0 0)).run Tryz.prog w.drew=.ok ([]:List Value).toArray w.drew:=run_firstCells_none w.drew i.size 0 0 0
   have hcap:Builtin.nextslicecap (0+l.length) 0*i.bytes≤281474976710656:=by
    rw[Nat.zero_add,nextslicecap_zero (by omega),hb]
    omega
   have:=run_append_grow_src (P:=Tryz.prog) w 113 113 ty 3 i (.int .i64 0) Tryz.underlying113 hi hz none 0 0 [] hold (.slice (some ⟨b,off,none⟩) l.length c) l.length (l.map (Value.int .i64)) (by rw[hs];exact src) (by omega) (by omega) hcap
   simp only[Nat.zero_add,List.nil_append] at this
   refine⟨_,_,_,this,grownCap_ge _ _ _ _,?_,fun a e=>(by cases e;simp),btr (bdrew1 w) (below_alloc _ _)⟩
   intro k hk
   refine⟨w.heap.size,0,rfl,?_⟩
   rw[Nat.zero_add]
   have hn:=heap_new w.drew (.cells ((l.map (Value.int .i64)).toArray++Builtin.zeroCells (Value.cells (.int .i64 0)) (grownCap w l.length 0 3 - l.length)) 3)
   have:=cell_of hn k
   rw[show w.drew.heap.size=w.heap.size from rfl] at this
   rw[this,Array.getElem?_append_left (by simpa using hk)]
   exact row_at l k hk
theorem fresh_any(oa:Option Addr)(l:List Int)(c:Nat)(w:World)(hA:At w oa l)(hl:l.length≤1000):
 Calls Tryz.prog 61 #[.slice oa l.length c] w fun r w'=>∃ob d,r=.returned (.slice ob l.length d)∧l.length≤d∧At w' ob l∧(∀a,ob=some a→a.block<w'.heap.size)∧Below w.heap.size w w':=by
 obtain⟨ob,d,W,hr,h1,h2,h3,h4⟩:=run_fresh w oa l c 113 hA hl
 have HR:=hide hr
 have H2:=hide h2
 have H4:=hide h4
 clear hr h2 h4 hA
 go_enter Tryz.func61,Tryz.ntmps61
 go_wp2_with (at_builtin;refine Lib.wpList_append_run _ rfl _ _ 113 113 rfl _ _ rfl rfl _ _ HR.out ?_)
 go_ret
 exact⟨ob,d,rfl,h1,H2.out,h3,H4.out⟩
def ne(p d:List Int):Int:=bif decide (200<p.length)||decide (64<d.length) then 2 else bif ab (-1) 1000 p&&ab 0 1000 d then 0 else 4
theorem ne_zero{p d:List Int}(h:ne p d=0):p.length≤200∧d.length≤64∧ab (-1) 1000 p=true∧ab 0 1000 d=true:=by
 unfold ne at h
 cases h1:decide (200<p.length)<;>cases h2:decide (64<d.length)<;>cases h3:ab (-1) 1000 p<;>cases h4:ab 0 1000 d<;>rw[h1,h2,h3,h4] at h<;>simp at h h1 h2 ⊢
 exact⟨h1,h2⟩
end Pk
namespace Pk
open Ba
set_option maxRecDepth 100000 in
theorem copy_any(C:Nat)(p d:List Int)(w:World)(h:Cur w C p d)(hp:p.length≤1000)(hd:d.length≤1000):
 Calls Tryz.prog 63 #[.pointer (some ⟨C,0,none⟩)] w fun r w'=>∃D,r=.returned (.pointer (some ⟨D,0,none⟩))∧w.heap.size≤D∧Cur w' D p d∧Below w.heap.size w w':=by
 obtain⟨oa,ca,ob,cb,h0,⟨h1,h2,h4⟩,h5,h6,h8⟩:=h
 have c0:=cell_of h0 0
 have c1:=cell_of h0 1
 simp at c0 c1
 have H:=hide h0
 have H1:=hide h1
 have H5:=hide h5
 clear h0 h1 h5 h2 h4 h6 h8
 go_enter Tryz.func63,Tryz.ntmps63
 go_wp2_with fail
 go_region_with (first
  |(go_at_call_of 61 oa;refine (fresh_any oa p ca w.drew (H1.out.below (bdrew1 _)) hp).mono ?_;rintro r w1 ⟨o1,e1,rfl,k1,k2,k3,k4⟩;have K2:=hide k2;have K4:=hide k4;have d0:=(k4.cell (World.block_lt_of_cell? w _ c0)).trans c0;have d1:=(k4.cell (World.block_lt_of_cell? w _ c1)).trans c1;clear k2 k4)
  |(go_at_call_of 61 ob;refine (fresh_any ob d cb w.drew (H5.out.below (bdrew1 _)) hd).mono ?_;rintro r w1 ⟨o1,e1,rfl,k1,k2,k3,k4⟩;have K2:=hide k2;have K4:=hide k4;have d0:=(k4.cell (World.block_lt_of_cell? w _ c0)).trans c0;have d1:=(k4.cell (World.block_lt_of_cell? w _ c1)).trans c1;clear k2 k4)
  |(go_at_call_of 61 oa;refine (fresh_any oa p ca _ ((H1.out.below (bdrew1 _)).below K4.out) hp).mono ?_;rintro r w2 ⟨o2,e2,rfl,l1,l2,l3,l4⟩;have L2:=hide l2;have L4:=hide l4;clear l2 l4)
  |(go_at_call_of 61 ob;refine (fresh_any ob d cb _ ((H5.out.below (bdrew1 _)).below K4.out) hd).mono ?_;rintro r w2 ⟨o2,e2,rfl,l1,l2,l3,l4⟩;have L2:=hide l2;have L4:=hide l4;clear l2 l4))
 all_goals
  go_wp2_with fail
  go_ret
  have s1:=K4.out.size
  have s2:=L4.out.size
  have s0:w.drew.heap.size=w.heap.size:=rfl
  refine⟨w2.heap.size,rfl,by omega,?_,btr (btr (btr (bdrew1 w) K4.out) L4.out) (below_alloc _ _)⟩
  first
   |exact⟨o1,e1,o2,e2,heap_new _ _,⟨(K2.out.below L4.out).below (below_alloc _ _),k1,fun a e=>by have:=k3 a e;omega⟩,L2.out.below (below_alloc _ _),l1,l3⟩
   |exact⟨o2,e2,o1,e1,heap_new _ _,⟨L2.out.below (below_alloc _ _),l1,l3⟩,(K2.out.below L4.out).below (below_alloc _ _),k1,fun a e=>by have:=k3 a e;omega⟩
end Pk
namespace Pk
open Ba
theorem of_neg(p:Int)(oa:Option Addr)(n c:Nat)(w:World)(h:p<0):
 Calls Tryz.prog 64 #[.int .i64 p,.slice oa n c] w fun r w'=>r=.returned (.tuple #[.int .i64 0,.int .i64 1])∧w'=w:=by
 go_enter Tryz.func64,Tryz.ntmps64
 go_wp2_with fail
 go_ret2
 exact⟨rfl,rfl⟩
theorem of_none(p:Nat)(oa:Option Addr)(c:Nat)(w:World):
 Calls Tryz.prog 64 #[.int .i64 (p:Int),.slice oa 0 c] w fun r w'=>r=.returned (.tuple #[.int .i64 0,.int .i64 6])∧w'=w:=by
 have h:¬((p:Int)<0):=by omega
 go_enter Tryz.func64,Tryz.ntmps64
 go_wp2_with fail
 go_ret2
 exact⟨rfl,rfl⟩
theorem of_ok(p:Nat)(oa:Option Addr)(l:List Int)(c:Nat)(w:World)(hA:At w oa l)(h0:0<l.length)(hm:l.length≤maxLen):
 Calls Tryz.prog 64 #[.int .i64 (p:Int),.slice oa l.length c] w fun r w'=>r=.returned (.tuple #[.int .i64 (nth l (p % l.length)),.int .i64 0])∧w'=w:=by
 have hlt:=Nat.mod_lt p h0
 obtain⟨b,off,rfl,hc⟩:=hA _ hlt
 unfold maxLen at hm
 have h:¬((p:Int)<0):=by omega
 have h1:((l.length:Int)==0)=false:=by rw[beq_eq_false_iff_ne];omega
 have h2:(0:Int)<(l.length:Int):=by omega
 have h3:((p:Int) % (l.length:Int))=((p % l.length:Nat):Int):=by simp
 have h4:((p:Int).tmod (l.length:Int))=((p % l.length:Nat):Int):=by rw[Int.tmod_eq_emod_of_nonneg (by omega),h3]
 have hlt':((p % l.length:Nat):Int)<(l.length:Int):=by omega
 generalize p % l.length=q at*
 clear hA
 go_enter Tryz.func64,Tryz.ntmps64
 go_wp2_with fail
 go_ret2
 exact⟨rfl,rfl⟩
end Pk
namespace Pk
open Ba
def nok(p:List Int):Bool:=!p.isEmpty
def dv(d:List Int)(n:Int):Int:=if n<1∨64<n then 0 else if n=1 then 0 else nth d 0 % n
def de(n:Int):Int:=if n<1∨64<n then 1 else 0
def dr(d:List Int)(n:Int):List Int:=if n<1∨64<n∨n=1 then d else d.tail
theorem dr_sub{d:List Int}{n x:Int}(h:x∈dr d n):x∈d:=by
 unfold dr at h
 split at h
 ·exact h
 ·exact List.mem_of_mem_tail h
theorem next_any(C:Nat)(p d:List Int)(w:World)(h:Cur w C p d):
 Calls Tryz.prog 33 #[.pointer (some ⟨C,0,none⟩)] w fun r w'=>r=.returned (.tuple #[.int .i64 (nth p 0),.bool (nok p)])∧Cur w' C p.tail d∧KB C w w':=by
 cases p with
 |nil=>
  refine (next_none C d w h).mono ?_
  rintro r w1 ⟨rfl,b1⟩
  exact⟨rfl,h.below b1,KB.of b1⟩
 |cons x p=>exact next_some C x p d w h
end Pk
namespace Lk
open Ba Pk
def Cu(w:World)(N C:Nat)(p d:List Int):Prop:=
 ∃oa ca ob cb,w.heap[C]? =some (.cells #[.slice oa p.length ca,.slice ob d.length cb] 116 (0,0))∧(At w oa p∧p.length≤ca∧∀a,oa=some a→N≤a.block∧a.block<C)∧At w ob d∧d.length≤cb∧∀a,ob=some a→N≤a.block∧a.block<C
theorem Cu.cur{w:World}{N C:Nat}{p d:List Int}(h:Cu w N C p d):Cur w C p d:=by
 obtain⟨oa,ca,ob,cb,h0,⟨h1,h2,h4⟩,h5,h6,h8⟩:=h
 exact⟨oa,ca,ob,cb,h0,⟨h1,h2,fun a e=>(h4 a e).2⟩,h5,h6,fun a e=>(h8 a e).2⟩
theorem Cu.lt{w:World}{N C:Nat}{p d:List Int}(h:Cu w N C p d):C<w.heap.size:=by
 obtain⟨oa,ca,ob,cb,h0,_⟩:=h
 exact heap_lt h0
theorem Cu.keep{w w':World}{N C:Nat}{p d:List Int}(h:Cu w N C p d)(hk:∀x,N≤x→x≤C→w'.heap[x]? =w.heap[x]?)(hN:N≤C):Cu w' N C p d:=by
 obtain⟨oa,ca,ob,cb,h0,⟨h1,h2,h4⟩,h5,h6,h8⟩:=h
 refine⟨oa,ca,ob,cb,(hk C hN (Nat.le_refl _)).trans h0,⟨?_,h2,h4⟩,?_,h6,h8⟩
 ·intro k hk'
  obtain⟨b,off,e,hc⟩:=h1 k hk'
  have q:=h4 _ e
  refine⟨b,off,e,?_⟩
  rw[←hc]
  simp only[World.cell?,hk b q.1 (Nat.le_of_lt q.2)]
 ·intro k hk'
  obtain⟨b,off,e,hc⟩:=h5 k hk'
  have q:=h8 _ e
  refine⟨b,off,e,?_⟩
  rw[←hc]
  simp only[World.cell?,hk b q.1 (Nat.le_of_lt q.2)]
theorem Cu.below{w w':World}{N C:Nat}{p d:List Int}(h:Cu w N C p d)(hb:Below w.heap.size w w'):Cu w' N C p d:=by
 obtain⟨oa,ca,ob,cb,h0,⟨h1,h2,h4⟩,h5,h6,h8⟩:=h
 exact⟨oa,ca,ob,cb,heap_below h0 hb,⟨h1.below hb,h2,h4⟩,h5.below hb,h6,h8⟩
theorem next_some(N C:Nat)(x:Int)(p d:List Int)(w:World)(h:Cu w N C (x::p) d):
 Calls Tryz.prog 33 #[.pointer (some ⟨C,0,none⟩)] w fun r w'=>r=.returned (.tuple #[.int .i64 x,.bool true])∧Cu w' N C p d∧KB C w w':=by
 obtain⟨oa,ca,ob,cb,h0,⟨h1,h2,h4⟩,h5,h6,h8⟩:=h
 obtain⟨b,off,rfl,hc⟩:=h1.head
 have hbC:=h4 _ rfl
 simp only at hbC
 have H:=hide h0
 have H1:=hide h1
 have H5:=hide h5
 have HC:=hide hc
 simp at h2
 clear h0 h1 h5 hc
 go_enter Tryz.func33,Tryz.ntmps33
 go_wp2_with fail
 refine (takers_any _ _).mono ?_
 rintro r w1 ⟨rfl,b1⟩
 have G1:=hide (heap_below H.out b1)
 have c0:=cell_of G1.out 0
 have f0:=frozen_of G1.out 0
 have A1:=hide (H1.out.below b1)
 have A5:=hide (H5.out.below b1)
 obtain⟨_,_,e,hc⟩:=A1.out.head
 simp at e
 obtain⟨rfl,rfl⟩:=e
 have B:=hide b1
 clear b1
 go_wp2_with fail
 refine (take_some C 0 b off p.length ca x _ c0 f0 hc h2).mono ?_
 rintro r w2 ⟨rfl,off',ho,hw⟩
 have HW:=hide hw
 have HO:=hide ho
 clear hw ho
 go_wp2_with fail
 go_ret2
 refine⟨rfl,⟨some ⟨b,off',none⟩,ca - 1,ob,cb,?_,⟨at_tail A1.out hbC.2 HO.out HW.out,by omega,fun a e=>by cases e;exact hbC⟩,?_,h6,h8⟩,?_⟩
 ·rw[HW.out,Ba.heap_setCell_same G1.out]
  rfl
 ·rw[HW.out]
  exact ((KB.refl C w1).setCell 0 _).at A5.out fun a e=>by have:=h8 a e;omega
 ·rw[HW.out]
  exact (KB.of B.out).setCell 0 _
theorem draw_some(N C:Nat)(x:Int)(p d:List Int)(n:Int)(w:World)(h:2≤n∧n≤64)(hx:0≤x)(hC:Cu w N C p (x::d)):
 Calls Tryz.prog 109 #[.pointer (some ⟨C,0,none⟩),.int .i64 n] w fun r w'=>r=.returned (.tuple #[.int .i64 (x % n),.int .i64 0])∧Cu w' N C p d∧KB C w w':=by
 obtain⟨oa,ca,ob,cb,h0,⟨h1,h2,h4⟩,h5,h6,h8⟩:=hC
 obtain⟨b,off,rfl,hc⟩:=h5.head
 have hbC:=h8 _ rfl
 simp only at hbC
 have H:=hide h0
 have H1:=hide h1
 have H5:=hide h5
 simp at h6
 clear h0 h1 h5 hc
 have d1:decide (n<1)=false:=by simp;omega
 have d2:decide (64<n)=false:=by simp;omega
 have d3:(n==1)=false:=by simp;omega
 have n1:=h.1
 have n2:=h.2
 go_enter Tryz.func109,Tryz.ntmps109
 go_wp2_with fail
 refine (takers_any _ _).mono ?_
 rintro r w1 ⟨rfl,b1⟩
 have G1:=hide (heap_below H.out b1)
 have c0:=cell_of G1.out 1
 have f0:=frozen_of G1.out 1
 have A1:=hide (H1.out.below b1)
 have A5:=hide (H5.out.below b1)
 obtain⟨_,_,e,hc⟩:=A5.out.head
 simp at e
 obtain⟨rfl,rfl⟩:=e
 have B:=hide b1
 clear b1
 go_wp2_with fail
 refine (take_some C 1 b off d.length cb x _ c0 f0 hc h6).mono ?_
 rintro r w2 ⟨rfl,off',ho,hw⟩
 have HW:=hide hw
 have HO:=hide ho
 clear hw ho
 go_wp2_with fail
 go_ret2
 refine⟨rfl,⟨oa,ca,some ⟨b,off',none⟩,cb - 1,?_,⟨?_,h2,h4⟩,at_tail A5.out hbC.2 HO.out HW.out,by omega,fun a e=>by cases e;exact hbC⟩,?_⟩
 ·rw[HW.out,Ba.heap_setCell_same G1.out]
  rfl
 ·rw[HW.out]
  exact ((KB.refl C w1).setCell 1 _).at A1.out fun a e=>by have:=h4 a e;omega
 ·rw[HW.out]
  exact (KB.of B.out).setCell 1 _
theorem run_fresh(w:World)(oa:Option Addr)(l:List Int)(c:Nat)(ty:TypeId)(hA:At w oa l)(hl:l.length≤1000):
 ∃ob d W,(Builtin.append_ #[113,113] ty #[.slice none 0 0,.slice oa l.length c]).run Tryz.prog w=.ok (.slice ob l.length d) W∧l.length≤d∧At W ob l∧(∀a,ob=some a→w.heap.size≤a.block∧a.block<W.heap.size)∧Below w.heap.size w W:=by
 cases hi:Tryz.prog.info? 3 with
 |none=>have:=Pk.info_int;rw[hi] at this;cases this
 |some i=>
  have hx:=Pk.info_int
  rw[hi] at hx
  simp at hx
  obtain⟨hz,hs,hb⟩:=hx
  by_cases h0:l.length=0
  ·obtain rfl:=List.eq_nil_of_length_eq_zero h0
   refine⟨none,0,w,?_,Nat.le_refl _,At.nil _ _,fun a e=>(by cases e),Below.refl _ _⟩
   have hs0:(Builtin.firstCells 1 0 (.slice oa 0 c)).run Tryz.prog w=.ok #[] w:=by
    cases oa with
    |none=>exact run_firstCells_none w 1 0 0 c
    |some a=>exact run_firstCells_some w 1 0 a 0 c [] rfl (fun j v h=>by simp at h)
   simp[Builtin.append_,run_underlying Tryz.underlying113,sizeOf,typeInfo,hi,hs,Builtin.lenOf,hs0]
  ·obtain⟨b,off,rfl,_⟩:=hA 0 (by omega)
   have hnews:∀j u,(l.map (Value.int .i64))[j]? =some u→w.cell? ((⟨b,off,none⟩:Addr).add j)=some u:=by
    intro j u hu
    have hj:j<l.length:=by
     rcases Nat.lt_or_ge j l.length with q|q
     ·exact q
     ·rw[List.getElem?_eq_none (by simpa using q)] at hu;cases hu
    obtain⟨b',off',e,hc⟩:=hA j hj
    simp at e
    obtain⟨rfl,rfl⟩:=e
    rw[List.getElem?_map,List.getElem?_eq_getElem hj] at hu
    simp at hu
    rw[←hu,←nth_lt l j hj,Addr.add_lit]
    exact hc
   have src:=Src.ofSlice (P:=Tryz.prog) w (size:=1) Tryz.underlying113 ⟨b,off,none⟩ l.length c (l.map (Value.int .i64)) (by simp) hnews (fun u hu=>by
    obtain⟨x,_,rfl⟩:=List.mem_map.1 hu
    rfl)
   have hold:(Builtin.firstCells i.size 0 (.slice none 0 0)).run Tryz.prog w.drew=.ok ([]:List Value).toArray w.drew:=run_firstCells_none w.drew i.size 0 0 0
   have hcap:Builtin.nextslicecap (0+l.length) 0*i.bytes≤281474976710656:=by
    rw[Nat.zero_add,nextslicecap_zero (by omega),hb]
    omega
   have:=run_append_grow_src (P:=Tryz.prog) w 113 113 ty 3 i (.int .i64 0) Tryz.underlying113 hi hz none 0 0 [] hold (.slice (some ⟨b,off,none⟩) l.length c) l.length (l.map (Value.int .i64)) (by rw[hs];exact src) (by omega) (by omega) hcap
   simp only[Nat.zero_add,List.nil_append] at this
   refine⟨_,_,_,this,grownCap_ge _ _ _ _,?_,fun a e=>(by cases e;simp),btr (bdrew1 w) (below_alloc _ _)⟩
   intro k hk
   refine⟨w.heap.size,0,rfl,?_⟩
   rw[Nat.zero_add]
   have hn:=heap_new w.drew (.cells ((l.map (Value.int .i64)).toArray++Builtin.zeroCells (Value.cells (.int .i64 0)) (grownCap w l.length 0 3 - l.length)) 3)
   have:=cell_of hn k
   rw[show w.drew.heap.size=w.heap.size from rfl] at this
   rw[this,Array.getElem?_append_left (by simpa using hk)]
   exact row_at l k hk
theorem fresh_any(oa:Option Addr)(l:List Int)(c:Nat)(w:World)(hA:At w oa l)(hl:l.length≤1000):
 Calls Tryz.prog 61 #[.slice oa l.length c] w fun r w'=>∃ob d,r=.returned (.slice ob l.length d)∧l.length≤d∧At w' ob l∧(∀a,ob=some a→w.heap.size≤a.block∧a.block<w'.heap.size)∧Below w.heap.size w w':=by
 obtain⟨ob,d,W,hr,h1,h2,h3,h4⟩:=run_fresh w oa l c 113 hA hl
 have HR:=hide hr
 have H2:=hide h2
 have H4:=hide h4
 clear hr h2 h4 hA
 go_enter Tryz.func61,Tryz.ntmps61
 go_wp2_with (at_builtin;refine Lib.wpList_append_run _ rfl _ _ 113 113 rfl _ _ rfl rfl _ _ HR.out ?_)
 go_ret
 exact⟨ob,d,rfl,h1,H2.out,h3,H4.out⟩
theorem new_cu(oa ob:Option Addr)(p d:List Int)(c e:Nat)(w:World)(hA:At w oa p)(hB:At w ob d)(h0:ne p d=0):
 Calls Tryz.prog 28 #[.slice oa p.length c,.slice ob d.length e] w fun r w'=>∃C,r=.returned (.tuple #[.pointer (some ⟨C,0,none⟩),.int .i64 0])∧w.heap.size≤C∧Cu w' w.heap.size C p d∧Below w.heap.size w w':=by
 obtain⟨hp,hd,h3,h4⟩:=ne_zero h0
 have HA:=hide hA
 have HB:=hide hB
 clear hA hB h0
 have g1:decide (200<(p.length:Int))=false:=by simp;omega
 have g2:decide (64<(d.length:Int))=false:=by simp;omega
 go_enter Tryz.func28,Tryz.ntmps28
 go_wp2_with fail
 refine (between_any oa p c (-1) 1000 _ HA.out (by unfold maxLen;omega)).mono ?_
 rw[h3]
 rintro r w1 ⟨rfl,rfl⟩
 go_wp2_with fail
 refine (between_any ob d e 0 1000 _ HB.out (by unfold maxLen;omega)).mono ?_
 rw[h4]
 rintro r w1 ⟨rfl,rfl⟩
 go_wp2_with fail
 refine (fresh_any oa p c _ HA.out (by omega)).mono ?_
 rintro r w2 ⟨o1,c1,rfl,k1,k2,k3,k4⟩
 have K2:=hide k2
 have K4:=hide k4
 clear k2 k4
 go_wp2_with fail
 refine (fresh_any ob d e _ (HB.out.below K4.out) (by omega)).mono ?_
 rintro r w3 ⟨o2,c2,rfl,l1,l2,l3,l4⟩
 have L2:=hide l2
 have L4:=hide l4
 clear l2 l4
 go_wp2_with fail
 go_ret2
 have s1:=K4.out.size
 have s2:=L4.out.size
 exact⟨w3.heap.size,rfl,by omega,⟨o1,c1,o2,c2,heap_new _ _,⟨(K2.out.below L4.out).below (below_alloc _ _),k1,fun a e=>by have:=k3 a e;omega⟩,L2.out.below (below_alloc _ _),l1,fun a e=>by have:=l3 a e;omega⟩,btr (btr K4.out L4.out) (below_alloc _ _)⟩
theorem next_cu(N C:Nat)(p d:List Int)(w:World)(h:Cu w N C p d):
 Calls Tryz.prog 33 #[.pointer (some ⟨C,0,none⟩)] w fun r w'=>r=.returned (.tuple #[.int .i64 (nth p 0),.bool (nok p)])∧Cu w' N C p.tail d∧KB C w w':=by
 cases p with
 |nil=>
  refine (next_none C d w h.cur).mono ?_
  rintro r w1 ⟨rfl,b1⟩
  exact⟨rfl,h.below b1,KB.of b1⟩
 |cons x p=>exact next_some N C x p d w h
theorem draw_cu(N C:Nat)(p d:List Int)(n:Int)(w:World)(h:Cu w N C p d)(hd:∀x∈d,0≤x):
 Calls Tryz.prog 109 #[.pointer (some ⟨C,0,none⟩),.int .i64 n] w fun r w'=>r=.returned (.tuple #[.int .i64 (dv d n),.int .i64 (de n)])∧Cu w' N C p (dr d n)∧KB C w w':=by
 by_cases h1:n<1∨64<n
 ·refine (draw_arg _ n w h1).mono ?_
  rintro r w1 ⟨rfl,rfl⟩
  simp only[dv,de,dr,if_pos h1,if_pos (show n<1∨64<n∨n=1 by omega)]
  exact⟨by first|rfl|trivial,h,KB.refl _ _⟩
 ·by_cases h2:n=1
  ·subst h2
   refine (draw_one _ w).mono ?_
   rintro r w1 ⟨rfl,rfl⟩
   exact⟨rfl,h,KB.refl _ _⟩
  ·simp only[dv,de,dr,if_neg h1,if_neg h2,if_neg (show ¬(n<1∨64<n∨n=1) by omega)]
   cases d with
   |nil=>
    refine (draw_none C p n w (by omega) h.cur).mono ?_
    rintro r w1 ⟨rfl,b1⟩
    exact⟨by simp[nth],h.below b1,KB.of b1⟩
   |cons x d=>exact draw_some N C x p d n w (by omega) (hd x (by simp)) h
end Lk
namespace Ba
section
variable {H:Type}{enc:TypeId × Value→H}{w:World}
theorem ints_open{fuel:Nat}{oa:Option Addr}{len cap:Nat}{x:DataW H × List MemPlace}(h:DataW.trod enc Tryz.prog w 0 (fun _=>true) true fuel 23 [.slice oa len cap]=some x):∃l,l.length=len∧At w oa l∧len≤cap∧cap≤maxLen:=by
 rcases open_ints Tryz.underlying23 Tryz.underlying3 (by kernel_rfl) h with⟨hcs,_⟩|⟨x,l,c,zs,hcs,_,hl,hm,hz,_,hcell,hwz⟩
 ·simp at hcs
  obtain⟨rfl,rfl,rfl⟩:=hcs
  exact⟨[],rfl,At.nil _ _,Nat.le_refl _,Nat.zero_le _⟩
 ·simp at hcs
  obtain⟨rfl,rfl,rfl⟩:=hcs
  simp at hz
  refine⟨zs.take len,by simp;omega,fun k hk=>?_,hl,hm⟩
  have hk':k<len∧k<zs.length:=by simp at hk;omega
  obtain⟨b,off,spot⟩:=x
  have hspot:spot=none:=by simpa [Addr.add] using World.cell?_spot (hcell 0 (by omega))
  subst hspot
  have hc:=hcell k hk'.2
  refine⟨b,off,rfl,?_⟩
  rw[nth_take zs len k hk'.1]
  rw[Addr.add_lit] at hc
  exact hc
end
end Ba
namespace Ba
section
variable {H:Type}{enc:TypeId × Value→H}{w:World}
end
end Ba
namespace Pk
open Ba
def ofx(p:Int)(l:List Int):Int:=if p<0 then 0 else if l.length=0 then 0 else nth l (p.toNat % l.length)
def ofe(p:Int)(l:List Int):Int:=if p<0 then 1 else if l.length=0 then 6 else 0
theorem of_any(p:Int)(oa:Option Addr)(l:List Int)(c:Nat)(w:World)(hA:At w oa l)(hm:l.length≤maxLen):
 Calls Tryz.prog 64 #[.int .i64 p,.slice oa l.length c] w fun r w'=>r=.returned (.tuple #[.int .i64 (ofx p l),.int .i64 (ofe p l)])∧w'=w:=by
 by_cases h:p<0
 ·simp only[ofx,ofe,if_pos h]
  exact of_neg p oa _ c w h
 ·obtain⟨n,rfl⟩:=Int.eq_ofNat_of_zero_le (show 0≤p by omega)
  by_cases h0:l.length=0
  ·simp only[ofx,ofe,if_neg h,h0,if_true]
   exact of_none n oa c w
  ·simp only[ofx,ofe,if_neg h,if_neg h0,Int.toNat_natCast]
   exact of_ok n oa l c w hA (by omega) hm
end Pk
namespace Lo
open Ba
abbrev Ev:=En.Ev
abbrev Mb:=Cr.Mb
abbrev OpD:=De.OpD
abbrev Ca:=Fk.Ca
abbrev St:=_root_.Go.Proofs.YtogkjaekfhjelaaGreat.Pi.St
abbrev Gt:=_root_.Go.Proofs.YtogkjaekfhjelaaGreat.Pi.Gt
abbrev Wt:=Pe.Wt
structure Lm where
 ps:List (List OpD)
 p:List Int
 d:List Int
 cr:List Mb
 sts:List (Option St)
 nm:List Int
 md:Int
 tr:List Ev
 pk:Bool
def cav(c:De.Cs):Ca:=⟨c.send,c.ch,c.val⟩
def bareE(k g:Int):Ev:=⟨k,g,-1,-1,-1,-1,false,false⟩
def tellS(s:Lm)(e:Ev):Lm:={s with tr:=s.tr++[e]}
def goS(s:Lm)(e:Ev):Lm:=tellS {s with cr:=Cr.chL s.cr e.g 0 0 1} e
def waitsS(s:Lm)(e:Ev):Lm:=tellS {s with cr:=Cr.chL s.cr e.g 0 1 0} e
def wakesS(s:Lm)(e:Ev):Lm:=tellS {s with sts:=Fk.leaveS e.g s.sts,cr:=Cr.chL s.cr e.g 1 0 1} e
def opensS(s:Lm)(name:Int)(size:Int):Lm:={s with sts:=s.sts.set name.toNat (some (_root_.Go.Proofs.YtogkjaekfhjelaaGreat.Pi.st0 size.toNat)),nm:=s.nm.set name.toNat s.md,md:=s.md+1}
def num(s:Lm)(c:Int):Int:=nth s.nm c.toNat
def tryV(s:Lm)(g at_:Int)(c:Ca)(t:Gt):Ev:=⟨if c.sd then 3 else 4,g,num s c.ch,at_,if c.sd then c.v else t.v,if t.wk then t.m.g else -1,c.sd,t.ok⟩
def servV(e:Ev)(t:Gt):Ev:=⟨7,t.m.g,e.c,t.m.c,if e.s then e.v else t.m.v,e.g,!e.s,true⟩
structure Tr3 where
 s:Lm
 done:Bool
 fine:Bool
def tryF(s:Lm)(g at_:Int)(c:Ca):Tr3:=
 if Fk.tryE s.sts c≠0∨(Fk.tryG s.sts c).rd=false then⟨{s with sts:=Fk.tryS s.sts c},false,Fk.tryE s.sts c==0⟩
 else if (Fk.tryG s.sts c).wk then⟨wakesS (goS {s with sts:=Fk.tryS s.sts c} (tryV s g at_ c (Fk.tryG s.sts c))) (servV (tryV s g at_ c (Fk.tryG s.sts c)) (Fk.tryG s.sts c)),true,true⟩
 else⟨goS {s with sts:=Fk.tryS s.sts c} (tryV s g at_ c (Fk.tryG s.sts c)),true,true⟩
def waitN(sts:List (Option St))(c:Ca)(g:Int):List (Option St):=match Fk.nmB sts c.ch with
 |none=>sts
 |some st=>sts.set c.ch.toNat (some (_root_.Go.Proofs.YtogkjaekfhjelaaGreat.Pi.waitS st c.sd ⟨g,-1,c.v⟩))
structure Tr2 where
 s:Lm
 fine:Bool
def aloneF(s:Lm)(g:Int)(c:Ca):Tr2:=
 if (tryF s g (-1) c).done||!(tryF s g (-1) c).fine then⟨(tryF s g (-1) c).s,(tryF s g (-1) c).fine⟩
 else⟨waitsS {(tryF s g (-1) c).s with sts:=waitN (tryF s g (-1) c).s.sts c g} ⟨6,g,num s c.ch,-1,c.v,-1,c.sd,false⟩,true⟩
def cas(o:OpD):List Ca:=o.cases.map cav
def caseAt(o:OpD)(i:Int):Ca:=((cas o)[i.toNat]?).getD ⟨false,0,0⟩
def chooseF(s:Lm)(g:Int)(o:OpD):Tr2:=
 if 0<(Fk.rdyL (cas o) s.sts).length then
  ⟨(tryF {s with d:=Pk.dr s.d (Fk.rdyL (cas o) s.sts).length} g (nth (Fk.rdyL (cas o) s.sts) (Pk.dv s.d (Fk.rdyL (cas o) s.sts).length).toNat) (caseAt o (nth (Fk.rdyL (cas o) s.sts) (Pk.dv s.d (Fk.rdyL (cas o) s.sts).length).toNat))).s,
   (tryF {s with d:=Pk.dr s.d (Fk.rdyL (cas o) s.sts).length} g (nth (Fk.rdyL (cas o) s.sts) (Pk.dv s.d (Fk.rdyL (cas o) s.sts).length).toNat) (caseAt o (nth (Fk.rdyL (cas o) s.sts) (Pk.dv s.d (Fk.rdyL (cas o) s.sts).length).toNat))).fine⟩
 else if o.def_ then⟨goS s (bareE 8 g),true⟩
 else⟨waitsS {s with sts:=Fk.pkA g (cas o) s.sts} ⟨6,g,-1,o.cases.length,0,-1,false,false⟩,true⟩
def parked(s:Lm)(g:Int):Bool:=(Cr.one0 (Cr.gt s.cr g)).s==1
def wakeAll(g c:Int):Lm→List Wt→Lm
 |s,[]=>s
 |s,x::l=>wakeAll g c (if parked s x.g then wakesS s ⟨7,x.g,c,x.c,0,g,false,false⟩ else s) l
def first(s:Lm):List Wt→Int
 |[]=>-1
 |x::l=>if parked s x.g then x.g else first s l
structure TrW where
 s:Lm
 who:Int
def closesF(s:Lm)(g name:Int):TrW:=match Fk.nmB s.sts name with
 |none=>⟨s,g⟩
 |some st=>if st.closed then⟨s,g⟩ else
  ⟨wakeAll g (num s name) (goS {s with sts:=s.sts.set name.toNat (some (_root_.Go.Proofs.YtogkjaekfhjelaaGreat.Pi.closeS st))} ⟨5,g,num s name,-1,-1,-1,false,false⟩) st.rcv,
   first (wakeAll g (num s name) (goS {s with sts:=s.sts.set name.toNat (some (_root_.Go.Proofs.YtogkjaekfhjelaaGreat.Pi.closeS st))} ⟨5,g,num s name,-1,-1,-1,false,false⟩) st.rcv) st.snd⟩
def panicS(s:Lm)(who:Int):Lm:=tellS {s with pk:=true} (bareE 12 who)
def doF(s:Lm)(g:Int)(o:OpD):Lm:=
 if o.kind=1 then goS {s with cr:=Cr.spL s.cr o.a} ⟨1,g,-1,-1,o.a,Cr.spV s.cr o.a,false,false⟩
 else if o.kind=2 then goS (opensS s o.a o.b) ⟨2,g,s.md,-1,o.b,-1,false,false⟩
 else if o.kind=7 then goS s ⟨9,g,-1,-1,o.a,-1,false,false⟩
 else if o.kind=8 then goS s ⟨10,g,-1,-1,o.a,-1,false,false⟩
 else if o.kind=9 then tellS {s with cr:=Cr.chL s.cr g 0 2 0} (bareE 11 g)
 else if o.kind=3 then (if (aloneF s g ⟨true,o.a,o.b⟩).fine then (aloneF s g ⟨true,o.a,o.b⟩).s else panicS (aloneF s g ⟨true,o.a,o.b⟩).s g)
 else if o.kind=4 then (aloneF s g ⟨false,o.a,0⟩).s
 else if o.kind=5 then (if (closesF s g o.a).who=-1 then (closesF s g o.a).s else panicS (closesF s g o.a).s (closesF s g o.a).who)
 else if o.kind=6 then (if (chooseF s g o).fine then (chooseF s g o).s else panicS (chooseF s g o).s g)
 else s
def verd(s:Lm):Int:=if s.pk then 3 else if Cr.ovr s.cr≠0 then Cr.ovr s.cr else if s.p.length=0 then 4 else 0
def exitO:OpD:=⟨9,0,0,[],false⟩
def opOf(s:Lm)(g:Int):OpD:=(((s.ps[(Cr.one0 (Cr.gt s.cr g)).p.toNat]?).getD [])[(Cr.one0 (Cr.gt s.cr g)).q.toNat]?).getD exitO
def whoN(s:Lm):Int:=Pk.ofx (nth s.p 0) (Cr.abl s.cr)
def stepF(s:Lm):Lm:=
 if verd s≠0 then s
 else if nth s.p 0=-1 then tellS {s with p:=s.p.tail} (bareE 13 (-1))
 else doF {s with p:=s.p.tail} (whoN s) (opOf s (whoN s))
def newS(sc:Sh.Sc):Lm:=⟨sc.ps,sc.pl,sc.dr,[⟨0,0,0⟩],List.replicate 8 none,List.replicate 8 (-1),0,[],false⟩
def stepsF:Nat→Lm→Lm
 |0,s=>s
 |n+1,s=>stepsF n (stepF s)
end Lo
namespace Fk
open Ba Pe _root_.Go.Proofs.YtogkjaekfhjelaaGreat.Pi Rp
set_option maxRecDepth 100000 in
theorem ftry_false(ch val:Int)(oa:Option Addr)(bs:List (Option Nat))(cp:Nat)(Fs:Nat→Nat→Prop)(sts:List (Option St))(w:World)(h:Qs Pp w oa bs Fs sts)(hs:Sml sts):
 Calls Tryz.prog 135 #[cv ⟨false,ch,val⟩,.slice oa bs.length cp] w fun r w'=>r=.returned (.tuple #[gv (tryG sts ⟨false,ch,val⟩),.int .i64 (tryE sts ⟨false,ch,val⟩)])∧Rz Pp w w' oa bs Fs (tryS sts ⟨false,ch,val⟩):=by
 have b1:=below_alloc w (.cells #[.bool false,.int .i64 ch,.int .i64 val] 108)
 have b2:=below_alloc (w.alloc (.cells #[.bool false,.int .i64 ch,.int .i64 val] 108)) (.cells #[.bool false,.bool false,.bool false,.int .i64 0,.int .i64 0,.int .i64 0,.int .i64 0] 171)
 have BB:=hide (btr b1 b2)
 have X2:=hide (heap_below (heap_new w (.cells #[.bool false,.int .i64 ch,.int .i64 val] 108)) b2)
 have hz:=heap_new (w.alloc (.cells #[.bool false,.int .i64 ch,.int .i64 val] 108)) (.cells #[.bool false,.bool false,.bool false,.int .i64 0,.int .i64 0,.int .i64 0,.int .i64 0] 171)
 rw[World.size_alloc] at hz
 have Z2:=hide hz
 have NM:=hide (named_any oa bs ch cp _ (h.row.below BB.out))
 have H:=hide h
 have hS2:((w.alloc (.cells #[.bool false,.int .i64 ch,.int .i64 val] 108)).alloc (.cells #[.bool false,.bool false,.bool false,.int .i64 0,.int .i64 0,.int .i64 0,.int .i64 0] 171)).heap.size=w.heap.size+2:=by rw[World.size_alloc,World.size_alloc]
 have NZ:Hid (∀i,¬Fs i (w.heap.size+1)):=fun i e=>by have:=h.bd i _ e;omega
 have RR:Hid (∀a,oa=some a→a.block<w.heap.size∨bs=[]):=fun a e=>by
  cases hb:bs with
  |nil=>exact .inr rfl
  |cons o t=>exact .inl (h.rl (i:=0) (o:=o) (by rw[hb];rfl) a e)
 clear b1 b2 hz
 unfold tryG tryE tryS cv
 rcases h.nm ch with⟨e1,e2⟩|⟨B,st,e1,e2,h0,hl,hi,hi2,q⟩
 ·rw[e2]
  simp only
  rw[e1] at NM
  simp only[pt,Option.map_none] at NM
  clear h e1 e2
  go_enter Tryz.func135,Tryz.ntmps135
  go_wp2_with fail
  generalize (w.alloc (.cells #[.bool false,.int .i64 ch,.int .i64 val] 108)).alloc (.cells #[.bool false,.bool false,.bool false,.int .i64 0,.int .i64 0,.int .i64 0,.int .i64 0] 171)=W2 at BB X2 Z2 NM hS2 ⊢
  refine NM.out.mono ?_
  rintro r w2 ⟨rfl,rfl⟩
  have x0:w2.cell? ⟨w.heap.size,0,none⟩=some (.bool false):=cell_of X2.out 0
  have x2:w2.cell? ⟨w.heap.size,2,none⟩=some (.int .i64 val):=cell_of X2.out 2
  go_wp2_with fail
  refine (recv_nil _).mono ?_
  rintro r w3 ⟨rfl,b3⟩
  have Z3:=hide (heap_below Z2.out b3)
  have B3:=hide (btr BB.out b3)
  clear b3
  have z0:w3.cell? ⟨w.heap.size+1,0,none⟩=some (.bool false):=cell_of Z3.out 0
  have zf0:=frozen_of Z3.out 0
  have z1:w3.cell? ⟨w.heap.size+1,1,none⟩=some (.bool false):=cell_of Z3.out 1
  have zf1:=frozen_of Z3.out 1
  have z2:w3.cell? ⟨w.heap.size+1,2,none⟩=some (.bool false):=cell_of Z3.out 2
  have zf2:=frozen_of Z3.out 2
  have z3:w3.cell? ⟨w.heap.size+1,3,none⟩=some (.int .i64 0):=cell_of Z3.out 3
  have zf3:=frozen_of Z3.out 3
  have z4:w3.cell? ⟨w.heap.size+1,4,none⟩=some (.int .i64 0):=cell_of Z3.out 4
  have zf4:=frozen_of Z3.out 4
  have z5:w3.cell? ⟨w.heap.size+1,5,none⟩=some (.int .i64 0):=cell_of Z3.out 5
  have zf5:=frozen_of Z3.out 5
  have z6:w3.cell? ⟨w.heap.size+1,6,none⟩=some (.int .i64 0):=cell_of Z3.out 6
  have zf6:=frozen_of Z3.out 6
  unfold gv gz
  go_wp2_with fail
  exact bodyPost_ret (results_row2 Tryz.results135 _ _ _ _ _ rfl rfl (loadVar_got (got_set Z3.out _ _ _ _ _ _ _) rfl)) rfl ⟨rfl,Rz.set7 frP ⟨Fs,NwA.refl _ _,H.out.below frP B3.out,KF.of B3.out,NZ.out⟩ (Nat.le_succ _) RR.out _ _ _ _ _ _ _⟩
 ·rw[e2]
  simp only[Bool.false_eq_true,if_false]
  rw[e1] at NM
  simp only[pt,Option.map_some] at NM
  have hb1:=(hs _ _ hi2).1
  have hb2:=(hs _ _ hi2).2
  have HI:=hide hi
  have P2:=hide (q.below BB.out)
  clear h e1 e2 q hi hi2 h0 hl
  have CL:=hide (recv_any B _ st _ P2.out hb1 hb2)
  generalize recvG st=gg at CL ⊢
  skip
  obtain⟨rd,ok,wk,v,⟨mg,mc,mv⟩⟩:=gg
  unfold gv at CL ⊢
  go_enter Tryz.func135,Tryz.ntmps135
  go_wp2_with fail
  generalize (w.alloc (.cells #[.bool false,.int .i64 ch,.int .i64 val] 108)).alloc (.cells #[.bool false,.bool false,.bool false,.int .i64 0,.int .i64 0,.int .i64 0,.int .i64 0] 171)=W2 at BB X2 Z2 NM hS2 P2 CL ⊢
  refine NM.out.mono ?_
  rintro r w2 ⟨rfl,rfl⟩
  have x0:w2.cell? ⟨w.heap.size,0,none⟩=some (.bool false):=cell_of X2.out 0
  have x2:w2.cell? ⟨w.heap.size,2,none⟩=some (.int .i64 val):=cell_of X2.out 2
  go_wp2_with fail
  refine CL.out.mono ?_
  rintro r w3 ⟨rfl,k3,F3,n3,p3⟩
  have Z3:=hide (k3.heap Z2.out (NZ.out _))
  have R3:=hide (Rz.step frP H.out BB.out HI.out k3 n3 p3)
  have NZ3:Hid (∃Fs',NwA Fs' Fs w∧Qs Pp w3 oa bs Fs' (sts.set ch.toNat (some (recvS st)))∧KF (All Fs) w w3∧∀i,¬Fs' i (w.heap.size+1)):=by
   have ha:=H.out.below frP BB.out
   refine⟨up Fs ch.toNat F3,?_,ha.step frP HI.out k3 n3 p3 (ha.rl HI.out),(KF.of (F:=All Fs) BB.out).trans k3 (fun x hx=>.inl ⟨_,hx⟩),?_⟩
   ·intro j x hx
    by_cases e:j=ch.toNat
    ·subst e
     rw[up_same] at hx
     rcases n3 x hx with z|z
     ·exact .inl ⟨_,z⟩
     ·exact .inr (by omega)
    ·rw[up_other _ _ _ _ e] at hx
     exact .inl ⟨j,hx⟩
   ·intro j hx
    by_cases e:j=ch.toNat
    ·subst e
     rw[up_same] at hx
     rcases n3 _ hx with z|z
     ·exact NZ.out _ z
     ·omega
    ·rw[up_other _ _ _ _ e] at hx
     exact NZ.out _ hx
  clear k3 n3 p3 R3
  have z0:w3.cell? ⟨w.heap.size+1,0,none⟩=some (.bool false):=cell_of Z3.out 0
  have zf0:=frozen_of Z3.out 0
  have z1:w3.cell? ⟨w.heap.size+1,1,none⟩=some (.bool false):=cell_of Z3.out 1
  have zf1:=frozen_of Z3.out 1
  have z2:w3.cell? ⟨w.heap.size+1,2,none⟩=some (.bool false):=cell_of Z3.out 2
  have zf2:=frozen_of Z3.out 2
  have z3:w3.cell? ⟨w.heap.size+1,3,none⟩=some (.int .i64 0):=cell_of Z3.out 3
  have zf3:=frozen_of Z3.out 3
  have z4:w3.cell? ⟨w.heap.size+1,4,none⟩=some (.int .i64 0):=cell_of Z3.out 4
  have zf4:=frozen_of Z3.out 4
  have z5:w3.cell? ⟨w.heap.size+1,5,none⟩=some (.int .i64 0):=cell_of Z3.out 5
  have zf5:=frozen_of Z3.out 5
  have z6:w3.cell? ⟨w.heap.size+1,6,none⟩=some (.int .i64 0):=cell_of Z3.out 6
  have zf6:=frozen_of Z3.out 6
  go_wp2_with fail
  exact bodyPost_ret (results_row2 Tryz.results135 _ _ _ _ _ rfl rfl (loadVar_got (got_set Z3.out _ _ _ _ _ _ _) rfl)) rfl ⟨rfl,Rz.set7 frP NZ3.out (Nat.le_succ _) RR.out _ _ _ _ _ _ _⟩
set_option maxRecDepth 100000 in
theorem ftry_true(ch val:Int)(oa:Option Addr)(bs:List (Option Nat))(cp:Nat)(Fs:Nat→Nat→Prop)(sts:List (Option St))(w:World)(h:Qs Pp w oa bs Fs sts)(hs:Sml sts):
 Calls Tryz.prog 135 #[cv ⟨true,ch,val⟩,.slice oa bs.length cp] w fun r w'=>r=.returned (.tuple #[gv (tryG sts ⟨true,ch,val⟩),.int .i64 (tryE sts ⟨true,ch,val⟩)])∧Rz Pp w w' oa bs Fs (tryS sts ⟨true,ch,val⟩):=by
 have b1:=below_alloc w (.cells #[.bool true,.int .i64 ch,.int .i64 val] 108)
 have b2:=below_alloc (w.alloc (.cells #[.bool true,.int .i64 ch,.int .i64 val] 108)) (.cells #[.bool false,.bool false,.bool false,.int .i64 0,.int .i64 0,.int .i64 0,.int .i64 0] 171)
 have BB:=hide (btr b1 b2)
 have X2:=hide (heap_below (heap_new w (.cells #[.bool true,.int .i64 ch,.int .i64 val] 108)) b2)
 have hz:=heap_new (w.alloc (.cells #[.bool true,.int .i64 ch,.int .i64 val] 108)) (.cells #[.bool false,.bool false,.bool false,.int .i64 0,.int .i64 0,.int .i64 0,.int .i64 0] 171)
 rw[World.size_alloc] at hz
 have Z2:=hide hz
 have NM:=hide (named_any oa bs ch cp _ (h.row.below BB.out))
 have H:=hide h
 have hS2:((w.alloc (.cells #[.bool true,.int .i64 ch,.int .i64 val] 108)).alloc (.cells #[.bool false,.bool false,.bool false,.int .i64 0,.int .i64 0,.int .i64 0,.int .i64 0] 171)).heap.size=w.heap.size+2:=by rw[World.size_alloc,World.size_alloc]
 have NZ:Hid (∀i,¬Fs i (w.heap.size+1)):=fun i e=>by have:=h.bd i _ e;omega
 have RR:Hid (∀a,oa=some a→a.block<w.heap.size∨bs=[]):=fun a e=>by
  cases hb:bs with
  |nil=>exact .inr rfl
  |cons o t=>exact .inl (h.rl (i:=0) (o:=o) (by rw[hb];rfl) a e)
 clear b1 b2 hz
 unfold tryG tryE tryS cv
 rcases h.nm ch with⟨e1,e2⟩|⟨B,st,e1,e2,h0,hl,hi,hi2,q⟩
 ·rw[e2]
  simp only
  rw[e1] at NM
  simp only[pt,Option.map_none] at NM
  clear h e1 e2
  go_enter Tryz.func135,Tryz.ntmps135
  go_wp2_with fail
  generalize (w.alloc (.cells #[.bool true,.int .i64 ch,.int .i64 val] 108)).alloc (.cells #[.bool false,.bool false,.bool false,.int .i64 0,.int .i64 0,.int .i64 0,.int .i64 0] 171)=W2 at BB X2 Z2 NM hS2 ⊢
  refine NM.out.mono ?_
  rintro r w2 ⟨rfl,rfl⟩
  have x0:w2.cell? ⟨w.heap.size,0,none⟩=some (.bool true):=cell_of X2.out 0
  have x2:w2.cell? ⟨w.heap.size,2,none⟩=some (.int .i64 val):=cell_of X2.out 2
  go_wp2_with fail
  refine (send_nil val _).mono ?_
  rintro r w3 ⟨rfl,b3⟩
  have Z3:=hide (heap_below Z2.out b3)
  have B3:=hide (btr BB.out b3)
  clear b3
  have z0:w3.cell? ⟨w.heap.size+1,0,none⟩=some (.bool false):=cell_of Z3.out 0
  have zf0:=frozen_of Z3.out 0
  have z1:w3.cell? ⟨w.heap.size+1,1,none⟩=some (.bool false):=cell_of Z3.out 1
  have zf1:=frozen_of Z3.out 1
  have z2:w3.cell? ⟨w.heap.size+1,2,none⟩=some (.bool false):=cell_of Z3.out 2
  have zf2:=frozen_of Z3.out 2
  have z3:w3.cell? ⟨w.heap.size+1,3,none⟩=some (.int .i64 0):=cell_of Z3.out 3
  have zf3:=frozen_of Z3.out 3
  have z4:w3.cell? ⟨w.heap.size+1,4,none⟩=some (.int .i64 0):=cell_of Z3.out 4
  have zf4:=frozen_of Z3.out 4
  have z5:w3.cell? ⟨w.heap.size+1,5,none⟩=some (.int .i64 0):=cell_of Z3.out 5
  have zf5:=frozen_of Z3.out 5
  have z6:w3.cell? ⟨w.heap.size+1,6,none⟩=some (.int .i64 0):=cell_of Z3.out 6
  have zf6:=frozen_of Z3.out 6
  unfold gv gz
  go_wp2_with fail
  exact bodyPost_ret (results_row2 Tryz.results135 _ _ _ _ _ rfl rfl (loadVar_got (got_set Z3.out _ _ _ _ _ _ _) rfl)) rfl ⟨rfl,Rz.set7 frP ⟨Fs,NwA.refl _ _,H.out.below frP B3.out,KF.of B3.out,NZ.out⟩ (Nat.le_succ _) RR.out _ _ _ _ _ _ _⟩
 ·rw[e2]
  simp only[if_true]
  rw[e1] at NM
  simp only[pt,Option.map_some] at NM
  have hb1:=(hs _ _ hi2).1
  have hb2:=(hs _ _ hi2).2
  have HI:=hide hi
  have P2:=hide (q.below BB.out)
  clear h e1 e2 q hi hi2 h0 hl
  have CL:=hide (send_any B _ st val _ P2.out hb1 hb2)
  generalize sendG st=gg at CL ⊢
  generalize sendE st=ee at CL ⊢
  obtain⟨rd,ok,wk,v,⟨mg,mc,mv⟩⟩:=gg
  unfold gv at CL ⊢
  go_enter Tryz.func135,Tryz.ntmps135
  go_wp2_with fail
  generalize (w.alloc (.cells #[.bool true,.int .i64 ch,.int .i64 val] 108)).alloc (.cells #[.bool false,.bool false,.bool false,.int .i64 0,.int .i64 0,.int .i64 0,.int .i64 0] 171)=W2 at BB X2 Z2 NM hS2 P2 CL ⊢
  refine NM.out.mono ?_
  rintro r w2 ⟨rfl,rfl⟩
  have x0:w2.cell? ⟨w.heap.size,0,none⟩=some (.bool true):=cell_of X2.out 0
  have x2:w2.cell? ⟨w.heap.size,2,none⟩=some (.int .i64 val):=cell_of X2.out 2
  go_wp2_with fail
  refine CL.out.mono ?_
  rintro r w3 ⟨rfl,k3,F3,n3,p3⟩
  have Z3:=hide (k3.heap Z2.out (NZ.out _))
  have R3:=hide (Rz.step frP H.out BB.out HI.out k3 n3 p3)
  have NZ3:Hid (∃Fs',NwA Fs' Fs w∧Qs Pp w3 oa bs Fs' (sts.set ch.toNat (some (sendS st val)))∧KF (All Fs) w w3∧∀i,¬Fs' i (w.heap.size+1)):=by
   have ha:=H.out.below frP BB.out
   refine⟨up Fs ch.toNat F3,?_,ha.step frP HI.out k3 n3 p3 (ha.rl HI.out),(KF.of (F:=All Fs) BB.out).trans k3 (fun x hx=>.inl ⟨_,hx⟩),?_⟩
   ·intro j x hx
    by_cases e:j=ch.toNat
    ·subst e
     rw[up_same] at hx
     rcases n3 x hx with z|z
     ·exact .inl ⟨_,z⟩
     ·exact .inr (by omega)
    ·rw[up_other _ _ _ _ e] at hx
     exact .inl ⟨j,hx⟩
   ·intro j hx
    by_cases e:j=ch.toNat
    ·subst e
     rw[up_same] at hx
     rcases n3 _ hx with z|z
     ·exact NZ.out _ z
     ·omega
    ·rw[up_other _ _ _ _ e] at hx
     exact NZ.out _ hx
  clear k3 n3 p3 R3
  have z0:w3.cell? ⟨w.heap.size+1,0,none⟩=some (.bool false):=cell_of Z3.out 0
  have zf0:=frozen_of Z3.out 0
  have z1:w3.cell? ⟨w.heap.size+1,1,none⟩=some (.bool false):=cell_of Z3.out 1
  have zf1:=frozen_of Z3.out 1
  have z2:w3.cell? ⟨w.heap.size+1,2,none⟩=some (.bool false):=cell_of Z3.out 2
  have zf2:=frozen_of Z3.out 2
  have z3:w3.cell? ⟨w.heap.size+1,3,none⟩=some (.int .i64 0):=cell_of Z3.out 3
  have zf3:=frozen_of Z3.out 3
  have z4:w3.cell? ⟨w.heap.size+1,4,none⟩=some (.int .i64 0):=cell_of Z3.out 4
  have zf4:=frozen_of Z3.out 4
  have z5:w3.cell? ⟨w.heap.size+1,5,none⟩=some (.int .i64 0):=cell_of Z3.out 5
  have zf5:=frozen_of Z3.out 5
  have z6:w3.cell? ⟨w.heap.size+1,6,none⟩=some (.int .i64 0):=cell_of Z3.out 6
  have zf6:=frozen_of Z3.out 6
  go_wp2_with fail
  exact bodyPost_ret (results_row2 Tryz.results135 _ _ _ _ _ rfl rfl (loadVar_got (got_set Z3.out _ _ _ _ _ _ _) rfl)) rfl ⟨rfl,Rz.set7 frP NZ3.out (Nat.le_succ _) RR.out _ _ _ _ _ _ _⟩
theorem ftry_any(c:Ca)(oa:Option Addr)(bs:List (Option Nat))(cp:Nat)(Fs:Nat→Nat→Prop)(sts:List (Option St))(w:World)(h:Qs Pp w oa bs Fs sts)(hs:Sml sts):
 Calls Tryz.prog 135 #[cv c,.slice oa bs.length cp] w fun r w'=>r=.returned (.tuple #[gv (tryG sts c),.int .i64 (tryE sts c)])∧Rz Pp w w' oa bs Fs (tryS sts c):=by
 obtain⟨sd,ch,val⟩:=c
 cases sd
 ·exact ftry_false ch val oa bs cp Fs sts w h hs
 ·exact ftry_true ch val oa bs cp Fs sts w h hs
end Fk
end Go.Proofs.YtogkjaekfhjelaaGreat
