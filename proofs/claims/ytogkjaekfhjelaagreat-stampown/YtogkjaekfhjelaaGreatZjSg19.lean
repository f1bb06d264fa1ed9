import Derived.Test.YtogkjaekfhjelaaGreatZjSg9
import Derived.Test.YtogkjaekfhjelaaGreatZjSg10
import Derived.Test.YtogkjaekfhjelaaGreatZjSg12
import Derived.Test.YtogkjaekfhjelaaGreatZjSg18
import Derived.Maps.AppendAt
set_option maxHeartbeats 12800000
namespace Go.Proofs.YtogkjaekfhjelaaGreat
open Go.ChangeShapes Go.WideShapes Go.ChangeAt Go.RowKit
namespace Sp
open Ck Wa
open En (Ev chk ff okF okA okF_at spn fl inS ml mh)
open Sg (tlk ftk)
structure Ff(e:Ev):Prop where
 g:e.k≠13→0≤e.g
 g13:e.k=13→e.g=-1
 gl:-1≤e.g∧e.g≤511
 c:e.k=3∨e.k=4∨e.k=5∨e.k=7→0≤e.c
 v:e.k=2→0≤e.v∧e.v≤4∧e.c≤511
 m1:e.k=1→0≤e.m
 ml:-1≤e.m∧e.m≤511
theorem ff_of{e:Ev}(h:chk e=0):Ff e:=by
 have hk:¬(e.k<1∨13<e.k):=fun q=>by simp[chk,q] at h
 have hb:(ff e&&okF e)=true:=by
  apply Classical.byContradiction
  intro q
  simp[chk,hk,q] at h
 have ho:okF e=true:=by revert hb;cases okF e<;>simp
 have o0:=okF_at ho 0 (by decide)
 have o1:=okF_at ho 1 (by decide)
 have o3:=okF_at ho 3 (by decide)
 have o4:=okF_at ho 4 (by decide)
 obtain⟨k,g,c,a,v,m,s,o⟩:=e
 simp only at hk
 have hc:k=1∨k=2∨k=3∨k=4∨k=5∨k=6∨k=7∨k=8∨k=9∨k=10∨k=11∨k=12∨k=13:=by omega
 clear h hk hb ho
 rcases hc with rfl|rfl|rfl|rfl|rfl|rfl|rfl|rfl|rfl|rfl|rfl|rfl|rfl<;>
  simp[okA,spn,fl,Ba.nth,inS,ml,mh] at o0 o1 o3 o4<;>
  (try (by_cases ha:a=-1<;>simp[ha] at o0 o1 o3 o4))<;>
  (try (cases s<;>cases o<;>simp at o4))<;>
  exact⟨fun q=>by simp at q ⊢<;>omega,fun q=>by simp at q ⊢<;>omega,by simp;omega,fun q=>by simp at q ⊢<;>omega,fun q=>by simp at q ⊢<;>omega,fun q=>by simp at q ⊢<;>omega,by simp;omega⟩
theorem wf_s{g:Int}(h:-1≤g∧g≤511):(Lit.int .i64 g).wf=true:=by
 have h1:IntKind.i64.min=-9223372036854775808:=by decide
 have h2:IntKind.i64.max=9223372036854775807:=by decide
 simp[Lit.wf,h1,h2]
 omega
structure Rf(p:List Ev)(e:Ev):Prop where
 f:Ff e
 g:e.k≠13→e.g<(Gu.there p:Int)
 m:e.k=1→e.m=(Gu.there p:Int)
 c:e.k≠2→e.c<((p.countP fun x=>decide (x.k=2):Nat):Int)
 c2:e.k=2→e.c=((p.countP fun x=>decide (x.k=2):Nat):Int)
theorem rf_of{l:List Ev}{i:Nat}{e:Ev}(h:Gu.ruleD l i e=0):Rf (l.take i) e:=by
 unfold Gu.ruleD at h
 split at h
 ·omega
 ·rename_i h1
  split at h
  ·omega
  ·rename_i h2
   split at h
   ·omega
   ·rename_i h3
    have f:=ff_of (e:=e) (by omega)
    have h2:Gu.crew (l.take i) e=true:=by simpa using h2
    have h3:Gu.made (l.take i) e=true:=by simpa using h3
    unfold Gu.crew at h2
    unfold Gu.made at h3
    simp at h2
    refine⟨f,fun q=>?_,fun q=>?_,fun q=>?_,fun q=>?_⟩
    ·rcases h2.2 with z|z
     ·exact absurd z q
     ·exact z.1.1.1
    ·rcases h2.2 with z|z
     ·omega
     ·rcases z.2 with y|y
      ·exact absurd q y
      ·exact y
    ·rw[if_neg q] at h3
     exact of_decide_eq_true h3
    ·rw[if_pos q] at h3
     exact of_decide_eq_true h3
structure AI(es:List Ev)(w:World)(S B:Nat)(T:Nat→Prop)(s:Sg.St)(st:Wst)(h:Nat→Option (List Int))(cs:List Chn)(wm:Wm)(du:Option Nat)(p:Pl)(H:List Int→Prop):Prop where
 sq:SQ w S B st h es cs wm du p T H (6*es.length)
 tm:st.T=256∧st.M=1048576∧st.n=s.n
 f:∀g:Nat,g<s.n→∃b l,st.f (g:Int)=some (g,b)∧h b=some l∧∀t,nth l t=s.K g t
 no:∀x:Int,(x<0∨(s.n:Int)≤x)→st.f x=none
 hh:∀y,H y→s.H (nth y)
 len:cs.length=es.countP fun x=>decide (x.k=2)
def nxS(s:Sg.St)(e:Ev)(g:Nat)(x:Nat→Int):Sg.St:=
 ⟨s.n+if e.k=1 then 1 else 0,fun y t=>if y=g then x t+(if t=g∧tlk e.k=true then 1 else 0) else if y=s.n∧e.k=1 then (if t=s.n then 1 else x t) else s.K y t,fun y=>s.H y∨(tlk e.k=true∧∀t,y t=x t)⟩
section
variable {w w':World}{S B:Nat}{st st':Wst}{h h':Nat→Option (List Int)}{es:List Ev}{cs cs':List Chn}{wm wm':Wm}{du du':Option Nat}{p p':Pl}{T:Nat→Prop}{H:List Int→Prop}{k R g b:Nat}{l L m:List Int}{s:Sg.St}{e:Ev}
theorem SQ.inj(s:SQ w S B st h es cs wm du p T H k){g g':Int}{t t' c:Nat}(a:st.f g=some (t,c))(b:st.f g'=some (t',c)):g=g':=by
 obtain⟨n,col,mb,D,ea,c,DW,m,q⟩:=s.ss
 exact m.wt.inj _ _ _ _ _ a b
theorem AI.evf(a:AI es w S B T s st h cs wm du p H)(r:Rf es e)(hn:s.n=Gu.there es)(ht:Gu.there (es++[e])≤256):EvF st cs e:=by
 obtain⟨sq,tm,f,no,hh,len⟩:=a
 refine⟨wf_s r.f.gl,wf_s r.f.ml,fun q=>?_,fun q=>?_,fun q=>?_⟩
 ·have c0:=r.f.c (by omega)
  have c1:=r.c (by omega)
  have il:e.c.toNat<cs.length:=by rw[len];omega
  exact⟨e.c.toNat,_,_,by omega,cs[e.c.toNat],List.getElem?_eq_getElem il,rfl,rfl⟩
 ·obtain⟨a,b,c⟩:=r.f.v q
  have:=r.c2 q
  exact⟨e.v.toNat,by omega,by omega,by rw[len];omega⟩
 ·have m1:=r.m q
  rw[Gu.there_app,if_pos q] at ht
  refine⟨r.f.m1 q,no _ (.inr (by omega)),by rw[tm.2.2,tm.1];omega,fun t=>⟨fun ⟨g,b,u⟩=>?_,fun u=>?_⟩⟩
  ·by_cases z:g<0∨(s.n:Int)≤g
   ·rw[no g z] at u;cases u
   ·obtain⟨b',l,u',-⟩:=f g.toNat (by omega)
    rw[show ((g.toNat:Nat):Int)=g by omega,u] at u'
    cases u'
    rw[tm.2.2];omega
  ·obtain⟨b,l,u',-⟩:=f t (by rw[←tm.2.2];exact u)
   exact⟨_,_,u'⟩
theorem AI.own(a:AI es w S B T s st h cs wm du p H)(r:Rf es e)(hn:s.n=Gu.there es)(hg:e.g=(g:Int))(gn:g<s.n)(hf:st.f e.g=some (g,b))(hl:∀t,nth l t=s.K g t)
 (q:EvQ w w' S B st h (es++[e]) T H (6*es.length) cs.length g b l e R L m st' h' cs' wm' du' p'):Sg.Own e s (nxS s e g (nth L)) g (nth L)∧AI (es++[e]) w' S B (Y1 T R) (nxS s e g (nth L)) st' h' cs' wm' du' p' (if tlk e.k then HL H L else H):=by
 have e1:e.k=1→e.m=(s.n:Int):=fun k=>by rw[r.m k,hn]
 have nw:=q.nw
 unfold NwG at nw
 have gn2:g≠s.n:=by omega
 obtain⟨lb,hlb,hown⟩:=q.own
 have stf:∀x:Int,x≠(s.n:Int)→st'.f x=st.f x:=fun x hx=>by
  split at nw
  ·rename_i k1
   obtain⟨Ac,lc,rfl,-⟩:=nw
   show upf _ _ _ _=_
   rw[upf_other _ _ _ _ (by rw[e1 k1];exact hx)]
  ·rw[nw]
 refine⟨⟨hg,gn,⟨nth m,.inr (a.hh m q.hm),fun t=>by rw[q.mx,hl],fun z t=>?_⟩,fun t=>if_pos rfl,fun y h1 h2 t=>?_,rfl,fun k t=>?_,fun y hy=>hy⟩,⟨?_,?_,fun y hy=>?_,fun x hx=>?_,fun y hy=>?_,?_⟩⟩
 ·rw[q.no z];exact nth_out [] t (by simp)
 ·show (if y=g then _ else if y=s.n∧e.k=1 then _ else _)=_
  rw[if_neg h2,if_neg (fun z=>by omega)]
 ·show (if s.n=g then _ else if s.n=s.n∧e.k=1 then _ else _)=_
  rw[if_neg (Ne.symm gn2),if_pos ⟨rfl,k⟩]
 ·have:=q.sq
  rw[show 6*es.length+6=6*(es++[e]).length by simp;omega] at this
  exact this
 ·split at nw
  ·rename_i k1
   obtain⟨Ac,lc,rfl,-⟩:=nw
   exact⟨a.tm.1,a.tm.2.1,by show st.n+1=s.n+if e.k=1 then 1 else 0;rw[if_pos k1,a.tm.2.2]⟩
  ·rename_i k1
   rw[nw]
   exact⟨a.tm.1,a.tm.2.1,by show st.n=s.n+if e.k=1 then 1 else 0;rw[if_neg k1,a.tm.2.2];rfl⟩
 ·have hy:y<s.n+if e.k=1 then 1 else 0:=hy
  by_cases yg:y=g
  ·refine⟨b,lb,by rw[stf _ (by omega),yg,←hg];exact hf,hlb,fun t=>?_⟩
   show _=if y=g then _ else _
   rw[if_pos yg,hown]
  ·by_cases yn:y<s.n
   ·obtain⟨c,l',c1,c2,c3⟩:=a.f y yn
    refine⟨c,l',by rw[stf _ (by omega)];exact c1,q.one c l' (fun z=>?_) c2,fun t=>?_⟩
    ·rw[z] at c1
     have:=a.sq.inj c1 hf
     omega
    ·show _=if y=g then _ else if y=s.n∧e.k=1 then _ else _
     rw[if_neg yg,if_neg (fun z=>by omega),c3]
   ·have k1:e.k=1:=by split at hy<;>omega
    rw[if_pos k1] at hy nw
    obtain⟨Ac,lc,rfl,-,c1,c2⟩:=nw
    have ye:y=s.n:=by omega
    refine⟨Ac,lc,?_,c1,fun t=>?_⟩
    ·show upf _ _ _ _=_
     rw[show (y:Int)=e.m by rw[e1 k1,ye],upf_same,a.tm.2.2,ye]
    ·show _=if y=g then _ else if y=s.n∧e.k=1 then _ else _
     rw[if_neg yg,if_pos ⟨ye,k1⟩,c2,a.tm.2.2]
 ·have hx:x<0∨((s.n+if e.k=1 then 1 else 0:Nat):Int)≤x:=hx
  by_cases k1:e.k=1
  ·rw[if_pos k1] at hx
   rw[stf _ (by omega)]
   exact a.no x (by omega)
  ·rw[if_neg k1] at hx nw
   rw[nw]
   exact a.no x (by omega)
 ·cases tk:tlk e.k
  ·rw[tk] at hy
   exact .inl (a.hh y hy)
  ·rw[tk] at hy
   rcases hy with z|z
   ·exact .inl (a.hh y z)
   ·exact .inr ⟨tk,fun t=>by rw[z]⟩
 ·rw[q.len,a.len,List.countP_append]
  by_cases k2:e.k=2<;>simp[k2]
theorem AI.note(a:AI es w S B T s st h cs wm du p H)(r:Rf es e)(v:Sg.Inv s)(hbd:∀g,g<s.n→s.K g g≤(es.length:Int)+1)(hn:s.n=Gu.there es)(ht:Gu.there (es++[e])≤256)(hl:es.length<1400)(hfo:∀b,FlP es e b→b=true):
 Calls Tryz.prog 13 #[.pointer (some ⟨S,0,none⟩),En.evv e] w fun r w'=>∃ev ra L s' st' h' cs' wm' du' p' H' T',r=.returned (.tuple #[.agg #[.int .u64 ev,.slice ra L.length L.length],.int .i64 0])∧Ck.At w' ra L∧(∀k,T k→T' k)∧(∀x,ra=some x→T' x.block∧¬T x.block)∧Kp T w w'∧Sg.Step e s s' (nth L)∧AI (es++[e]) w' S B T' s' st' h' cs' wm' du' p' H'∧Canon L∧if e.k=13 then ev=0∧L=[] else ev=epk e.g (nth L e.g.toNat):=by
 by_cases k13:e.k=13
 ·refine (note_n a.sq e (by omega) hfo (wf_s r.f.gl) k13 (a.no _ (.inl (by rw[r.f.g13 k13];decide)))).mono ?_
  rintro r' w' ⟨rfl,sq,kp⟩
  refine⟨0,none,[],s,st,h,cs,wm,du,p,H,T,rfl,fun k hk=>absurd hk (Nat.not_lt_zero _),fun _ q=>q,fun x q=>(by cases q),kp,?_,⟨sq.up (by simp;omega),a.tm,a.f,a.no,a.hh,?_⟩,(by unfold Canon;decide),?_⟩
  ·unfold Sg.Step
   rw[if_pos k13]
   exact⟨rfl,fun t=>nth_out [] t (by simp)⟩
  ·rw[a.len,List.countP_append]
   simp[k13]
  ·rw[if_pos k13];exact⟨rfl,rfl⟩
 ·have g0:=r.f.g k13
  have g1:=r.g k13
  have gn:e.g.toNat<s.n:=by omega
  have hg:e.g=((e.g.toNat:Nat):Int):=by omega
  obtain⟨b,l,hf,hb,hl2⟩:=a.f _ gn
  rw[←hg] at hf
  refine (note_q a.sq e (by omega) hfo (a.evf r hn ht) hf hb (fun m hm=>?_) (by omega)).mono ?_
  ·have h1:=v.hk _ e.g.toNat (a.hh m hm) gn
   have h2:=hbd _ gn
   rw[a.tm.2.1,hl2]
   omega
  ·rintro r' w' ⟨R,L,m,st',h',cs',wm',du',p',rfl,q⟩
   obtain⟨o,ai⟩:=a.own r hn hg gn hf hl2 q
   refine⟨_,some ⟨R,0,none⟩,L,_,st',h',cs',wm',du',p',_,_,rfl,q.at_,fun _ q=>.inl q,fun x z=>(by cases z;exact⟨.inr rfl,fun y=>by have y:T R:=y;have:=a.sq.ss.tlt y;have:=q.new;omega⟩),q.kp,?_,ai,q.cn,?_⟩
   ·unfold Sg.Step
    rw[if_neg k13]
    exact⟨_,o⟩
   ·rw[if_neg k13,←hg]
end
end Sp
namespace Sp
open Ck Wa
open En (Ev)
open Sg (tlk ftk)
section
variable {w w':World}{S B:Nat}{st:Wst}{h:Nat→Option (List Int)}{es:List Ev}{cs:List Chn}{wm:Wm}{du:Option Nat}{p:Pl}{T T':Nat→Prop}{H:List Int→Prop}{k:Nat}
theorem SQ.gen(s:SQ w S B st h es cs wm du p T H k)(os:w'.os=w.os)(tp:w'.tape=w.tape)(ot:w'.output=w.output)(sz:w.heap.size≤w'.heap.size)(hb:∀j,j<w.heap.size→¬T j→w'.heap[j]? =w.heap[j]?)(hT:∀j,T' j→T j∨w.heap.size≤j∧j<w'.heap.size):SQ w' S B st h es cs wm du p T' H k:=by
 classical
 refine⟨?_,s.kp,s.cn,s.z,s.wn⟩
 obtain⟨n,col,mb,D,ea,c,DW,m,q⟩:=s.ss
 have lt:∀j,col j≠0→j<w.heap.size:=m.cx.base
 obtain⟨c1,hc⟩:∃c1:Nat→Nat,∀j,c1 j=if (T' j∧w.heap.size≤j)∨1000≤col j then 1000 else col j:=⟨_,fun _=>rfl⟩
 have hq:∀d,1≤d→d<1000→∀j,c1 j=d↔col j=d:=fun d h1 h2 j=>by
  rw[hc]
  by_cases z:(T' j∧w.heap.size≤j)∨1000≤col j
  ·rw[if_pos z]
   refine⟨fun e=>by omega,fun e=>?_⟩
   rcases z with z|z
   ·have:=lt j (by omega);omega
   ·omega
  ·rw[if_neg z]
 have bd:∀d j,1≤d→d<1000→col j=d→w'.heap[j]? =w.heap[j]?:=fun d j h1 h2 e=>hb j (lt j (by omega)) fun z=>by have:=q j z;omega
 have kp:Kp (fun j=>1≤col j∧col j<1000) w w':=⟨os,tp,ot,sz,fun j e=>bd (col j) j e.1 e.2 rfl⟩
 obtain⟨es',clock,hm,r⟩:=m.sa.mw
 have il:∀(i:Nat) x,cs[i]? =some x→i<900:=fun i x hi=>Nat.lt_of_lt_of_le (List.getElem?_eq_some_iff.1 hi).1 n
 refine⟨n,c1,mb,D,ea,c,DW,⟨⟨(bd 1 B (by omega) (by omega) ((m.wt.own B).2 (.inl rfl))).trans m.wt.hp,Wa.own_kp m.wt.ow kp (by have:=(m.wt.own mb).2 (.inr rfl);exact⟨by omega,by omega⟩),m.wt.mi,m.wt.sz,m.wt.ne,fun j=>(hq 1 (by omega) (by omega) j).trans (m.wt.own j),m.wt.inj,m.wt.tid,m.wt.bd⟩,
  ⟨(bd 2 S (by omega) (by omega) ((m.sa.c2 S).2 rfl)).trans m.sa.hp,fun j=>(hq 2 (by omega) (by omega) j).trans (m.sa.c2 j),own_keep m.sa.ev fun j e=>bd 3 j (by omega) (by omega) ((m.sa.c3 j).2 e),fun j=>(hq 3 (by omega) (by omega) j).trans (m.sa.c3 j),own_keep m.sa.cr fun j e=>bd 4 j (by omega) (by omega) ((m.sa.c4 j).2 e),fun j=>(hq 4 (by omega) (by omega) j).trans (m.sa.c4 j),⟨es',clock,(bd 5 _ (by omega) (by omega) ((m.sa.c5 _).2 rfl)).trans hm,r⟩,fun j=>(hq 5 (by omega) (by omega) j).trans (m.sa.c5 j),m.sa.wi⟩,fun i x hi=>?_,?_,m.wd,m.cd,m.md,m.dd⟩,fun j hj=>?_⟩
 ·have:=il i x hi
  have a:=m.ch i x hi
  have ho:∀j,x.own j→w'.heap[j]? =w.heap[j]?:=fun j q=>bd (6+i) j (by omega) (by omega) ((a.ow j).2 q)
  exact⟨(ho _ (.inl rfl)).trans a.hp,own_keep a.gv fun j e=>ho j (.inr (.inl e)),own_keep a.bk fun j e=>ho j (.inr (.inr e)),a.ap,a.sg,a.sb,fun j=>(hq (6+i) (by omega) (by omega) j).trans (a.ow j)⟩
 ·refine Sl.cx_ext m.cx (fun j hj hn=>hb j hj fun z=>hn (by have:=q j z;show col j≠0;omega)) (fun j z=>?_) fun j z=>?_
  ·have z:c1 j≠0:=z
   rw[hc] at z
   by_cases y:(T' j∧w.heap.size≤j)∨1000≤col j
   ·rcases y with y|y
    ·exact .inr y.2
    ·exact .inl (show col j≠0 by omega)
   ·rw[if_neg y] at z;exact .inl z
  ·have z:c1 j≠0:=z
   rw[hc] at z
   by_cases y:(T' j∧w.heap.size≤j)∨1000≤col j
   ·rcases y with y|y
    ·rcases hT j y.1 with x|x
     ·exact Nat.lt_of_lt_of_le (s.ss.tlt x) sz
     ·exact x.2
    ·exact Nat.lt_of_lt_of_le (lt j (by omega)) sz
   ·rw[if_neg y] at z;exact Nat.lt_of_lt_of_le (lt j z) sz
 ·rw[hc]
  rcases hT j hj with z|z
  ·rw[if_pos (.inr (q j z))];omega
  ·rw[if_pos (.inl ⟨hj,z.1⟩)];omega
end
structure Stm where
 ev:Int
 ra:Option Addr
 L:List Int
def stc(xs:List Stm):List Value:=xs.flatMap fun x=>[.int .u64 x.ev,.slice x.ra x.L.length x.L.length]
theorem stc_app(l m:List Stm):stc (l++m)=stc l++stc m:=by simp[stc]
theorem stc_at:∀(l:List Stm) (k:Nat) (x:Stm),l[k]? =some x→(stc l)[k*2]? =some (.int .u64 x.ev)∧(stc l)[k*2+1]? =some (.slice x.ra x.L.length x.L.length)
 |[],_,_,hk=>by cases hk
 |y::l,0,x,hk=>by cases hk;exact⟨rfl,rfl⟩
 |y::l,k+1,x,hk=>by
  obtain⟨a,b⟩:=stc_at l k x (by simpa using hk)
  refine⟨?_,?_⟩
  ·rw[show (k+1)*2=k*2+2 by omega];exact a
  ·rw[show (k+1)*2+1=(k*2+1)+2 by omega];exact b
def StR(e:Ev)(x:Nat→Int)(y:Stm):Prop:=(∀t,nth y.L t=x t)∧Canon y.L∧if e.k=13 then y.ev=0∧y.L=[] else y.ev=epk e.g (nth y.L e.g.toNat)
def StAt(w:World)(oa:Option Addr)(xs:List Stm):Prop:=∀(j:Nat) y,xs[j]? =some y→∃b,oa=some ⟨b,0,none⟩∧w.cell? ⟨b,j*2,none⟩=some (.int .u64 y.ev)∧w.cell? ⟨b,j*2+1,none⟩=some (.slice y.ra y.L.length y.L.length)∧Ck.At w y.ra y.L
theorem info_st:(Tryz.prog.info? 38).map (fun i=>(i.zero,i.size,i.bytes))=some (some (.agg #[.int .u64 0,.slice none 0 0]),2,32):=by kernel_rfl
theorem app_st(w:World)(oa:Option Addr)(n c:Nat)(xs:List Stm)(y:Stm)(hn:n=xs.length)(hown:w.ownsRow 0 38 2 (.slice oa n c) n (stc xs))(a:Addr)(ha:∀(j:Nat) u,[Value.int .u64 y.ev,.slice y.ra y.L.length y.L.length][j]? =some u→w.cell? (a.add j)=some u)(hl:n≤2000):
 ∃oa' c' w',(Builtin.append_ #[31,31] 31 #[.slice oa n c,.slice (some a) 1 1]).run Tryz.prog w=.ok (.slice oa' (n+1) c') w'∧w'.ownsRow 0 38 2 (.slice oa' (n+1) c') (n+1) (stc (xs++[y]))∧w.grownBy w' (Value.slice oa n c).ownBlock∧
  ((Value.slice oa' (n+1) c').ownBlock=(Value.slice oa n c).ownBlock∨(Value.slice oa' (n+1) c').ownBlock=some w.heap.size):=by
 obtain⟨i0,hi,hz0,hs,hb⟩:∃i0,Tryz.prog.info? 38=some i0∧i0.zero=some (.agg #[.int .u64 0,.slice none 0 0])∧i0.size=2∧i0.bytes=32:=by
  cases hi:Tryz.prog.info? 38 with
  |none=>have:=info_st;rw[hi] at this;cases this
  |some i0=>
   have hx:=info_st
   rw[hi] at hx
   simp at hx
   exact⟨i0,rfl,hx⟩
 obtain⟨v',w',hr,ho,hg,-,hat⟩:=run_append_own_at (P:=Tryz.prog) w 0 31 31 38 i0 _ 2 32 Tryz.underlying31 hi hz0 hs hb rfl (by decide) _ _ _ hown a 1 1 [.int .u64 y.ev,.slice y.ra y.L.length y.L.length] rfl ha (by intro x hx;simp at hx;rcases hx with rfl|rfl<;>rfl) (by unfold maxLen;omega) (by omega) (Nat.zero_le _)
 obtain⟨oa',c',rfl⟩:∃oa' c',v'=.slice oa' (n+1) c':=by
  rcases ho.2 with⟨e,h0⟩|⟨g,cap,cur,e,-⟩
  ·omega
  ·exact⟨_,_,e⟩
 rw[show stc xs++[.int .u64 y.ev,.slice y.ra y.L.length y.L.length]=stc (xs++[y]) by rw[stc_app];rfl] at ho
 exact⟨oa',c',w',hr,ho,hg,hat⟩
end Sp
namespace Sp
open Ck Wa
open En (Ev)
open Sg (tlk ftk)
theorem at_keep{w w':World}{oa:Option Addr}{l:List Int}(h:Ck.At w oa l)(k:∀a,oa=some a→w'.heap[a.block]? =w.heap[a.block]?):Ck.At w' oa l:=by
 intro j hj
 obtain⟨b,o,e,hc⟩:=h j hj
 exact⟨b,o,e,cell_blk hc (k _ e)⟩
structure LpJ(l:List Ev)(w:World)(S B k:Nat)(wr:World)(T:Nat→Prop)(F:Nat→Sg.St)(X:Nat→Nat→Int)(st:Wst)(h:Nat→Option (List Int))(cs:List Chn)(wm:Wm)(du:Option Nat)(p:Pl)(H:List Int→Prop)(xs:List Stm)(oa:Option Addr)(c:Nat):Prop where
 ai:AI (l.take k) wr S B T (F k) st h cs wm du p H
 run:Sg.Run (l.take k) F X
 own:wr.ownsRow 0 38 2 (.slice oa k c) k (stc xs)
 len:xs.length=k
 st:∀(j:Nat) e y,l[j]? =some e→xs[j]? =some y→StR e (X j) y
 at_:∀(j:Nat) y,xs[j]? =some y→Ck.At wr y.ra y.L∧∀a,y.ra=some a→T a.block∧(Value.slice oa k c).ownBlock≠some a.block
 tw:∀g,(Value.slice oa k c).ownBlock=some g→T g∧w.heap.size≤g
 t0:∀j,j<w.heap.size→T j
 kp:Kp (Lw w) w wr
section
variable {l:List Ev}{w wr w1 w2 w4 w5:World}{S B k:Nat}{T T1:Nat→Prop}{F:Nat→Sg.St}{X:Nat→Nat→Int}{st st':Wst}{h h':Nat→Option (List Int)}{cs cs':List Chn}{wm wm':Wm}{du du':Option Nat}{p p':Pl}{H H':List Int→Prop}{xs:List Stm}{oa oa' ra:Option Addr}{c c':Nat}{ev:Int}{L:List Int}{s':Sg.St}{e:Ev}
theorem AI.mv{es:List Ev}{s:Sg.St}(a:AI es w S B T s st h cs wm du p H)(q:SQ w1 S B st h es cs wm du p T1 H (6*es.length)):AI es w1 S B T1 s st h cs wm du p H:=⟨q,a.tm,a.f,a.no,a.hh,a.len⟩
theorem LpJ.row(J:LpJ l w S B k wr T F X st h cs wm du p H xs oa c)(b1:Below wr.heap.size wr w1)(k2:Kp T w1 w2)(b4:Below w2.heap.size w2 w4):w4.ownsRow 0 38 2 (.slice oa k c) k (stc xs):=own_keep J.own fun g q=>by
 have lg:=own_lt J.own q
 exact (b4.block g (Nat.lt_of_lt_of_le (Nat.lt_of_lt_of_le lg b1.size) k2.size)).trans ((k2.block g (J.tw g q).1).trans (b1.block g lg))
theorem LpJ.step(J:LpJ l w S B k wr T F X st h cs wm du p H xs oa c)(he:l[k]? =some e)(b1:Below wr.heap.size wr w1)(at2:Ck.At w2 ra L)(t1:∀k,T k→T1 k)(ra1:∀x,ra=some x→T1 x.block∧¬T x.block)(k2:Kp T w1 w2)(stp:Sg.Step e (F k) s' (nth L))(ai:AI (l.take k++[e]) w2 S B T1 s' st' h' cs' wm' du' p' H')(hev:Canon L∧if e.k=13 then ev=0∧L=[] else ev=epk e.g (nth L e.g.toNat))
 (b4:Below w2.heap.size w2 w4) (own5:w5.ownsRow 0 38 2 (.slice oa' (k+1) c') (k+1) (stc (xs++[⟨ev,ra,L⟩]))) (g5:w4.grownBy w5 (Value.slice oa k c).ownBlock) (hat:(Value.slice oa' (k+1) c').ownBlock=(Value.slice oa k c).ownBlock∨(Value.slice oa' (k+1) c').ownBlock=some w4.heap.size):
 ∃T' F' X',LpJ l w S B (k+1) w5 T' F' X' st' h' cs' wm' du' p' H' (xs++[⟨ev,ra,L⟩]) oa' c':=by
 have kl:(l.take k).length=k:=by have:=(List.getElem?_eq_some_iff.1 he).1;simp;omega
 have tk:l.take (k+1)=l.take k++[e]:=by rw[List.take_add_one,he];rfl
 obtain⟨F',X',r',f',x1,x2⟩:=J.run.snoc (e:=e) (s':=s') (x:=nth L) (by rw[kl];exact stp)
 rw[kl] at f' x1 x2
 have tl:∀j,T1 j→j<w2.heap.size:=fun j q=>ai.sq.ss.tlt q
 have ot:∀g,(Value.slice oa k c).ownBlock=some g→T1 g:=fun g q=>t1 g (J.tw g q).1
 have bk:∀j,j<w2.heap.size→(Value.slice oa k c).ownBlock≠some j→w5.heap[j]? =w2.heap[j]?:=fun j h1 h2=>(g5.block j (Nat.lt_of_lt_of_le h1 b4.size) fun q=>h2 q.symm).trans (b4.block j h1)
 have s25:w2.heap.size≤w5.heap.size:=Nat.le_trans b4.size g5.size
 have nr:∀j,T1 j→(Value.slice oa k c).ownBlock≠some j→(Value.slice oa' (k+1) c').ownBlock≠some j:=fun j h1 h2 q=>by
  rcases hat with z|z
  ·exact h2 (z.symm.trans q)
  ·rw[z] at q
   cases q
   have:=tl _ h1
   have:=b4.size
   omega
 refine⟨fun j=>T1 j∨(Value.slice oa' (k+1) c').ownBlock=some j,F',X',?_,by rw[tk];exact r',own5,by simp[J.len],fun j f y h1 h2=>?_,fun j y h2=>?_,fun g q=>⟨.inr q,?_⟩,fun j q=>.inl (t1 j (J.t0 j q)),?_⟩
 ·rw[tk,f']
  refine ai.mv (ai.sq.gen (g5.os.trans b4.os) (g5.tape.trans b4.tape) (g5.output.trans b4.output) s25 (fun j h1 h2=>bk j h1 fun q=>h2 (ot j q)) fun j q=>?_)
  rcases q with q|q
  ·exact .inl q
  ·rcases hat with z|z
   ·exact .inl (ot j (z.symm.trans q))
   ·refine .inr ⟨?_,own_lt own5 q⟩
    rw[z] at q
    cases q
    exact b4.size
 ·by_cases q:j<k
  ·rw[List.getElem?_append_left (by rw[J.len];exact q)] at h2
   rw[x1 j q]
   exact J.st j f y h1 h2
  ·have:=(List.getElem?_eq_some_iff.1 h2).1
   simp[J.len] at this
   obtain rfl:j=k:=by omega
   rw[List.getElem?_append_right (by rw[J.len];exact Nat.le_refl _),J.len] at h2
   simp at h2
   subst h2
   rw[he] at h1
   cases h1
   rw[x2]
   exact⟨fun _=>rfl,hev⟩
 ·by_cases q:j<k
  ·rw[List.getElem?_append_left (by rw[J.len];exact q)] at h2
   obtain⟨a1,a2⟩:=J.at_ j y h2
   refine⟨at_keep a1 fun a z=>?_,fun a z=>⟨.inl (t1 _ (a2 a z).1),nr _ (t1 _ (a2 a z).1) (a2 a z).2⟩⟩
   have l1:=J.ai.sq.ss.tlt (a2 a z).1
   exact (bk _ (tl _ (t1 _ (a2 a z).1)) (a2 a z).2).trans ((k2.block _ (a2 a z).1).trans (b1.block _ l1))
  ·have:=(List.getElem?_eq_some_iff.1 h2).1
   simp[J.len] at this
   obtain rfl:j=k:=by omega
   rw[List.getElem?_append_right (by rw[J.len];exact Nat.le_refl _),J.len] at h2
   simp at h2
   subst h2
   have n1:∀a,ra=some a→(Value.slice oa j c).ownBlock≠some a.block:=fun a z q=>(ra1 a z).2 (J.tw _ q).1
   exact⟨at_keep at2 fun a z=>bk _ (tl _ (ra1 a z).1) (n1 a z),fun a z=>⟨.inl (ra1 a z).1,nr _ (ra1 a z).1 (n1 a z)⟩⟩
 ·rcases hat with z|z
  ·exact (J.tw g (z.symm.trans q)).2
  ·rw[z] at q
   cases q
   exact Nat.le_trans (Nat.le_trans J.kp.size (Nat.le_trans b1.size k2.size)) b4.size
 ·refine J.kp.trans ⟨?_,?_,?_,Nat.le_trans (Nat.le_trans b1.size k2.size) s25,fun j q=>?_⟩
  ·exact g5.os.trans (b4.os.trans (k2.os.trans b1.os))
  ·exact g5.tape.trans (b4.tape.trans (k2.tape.trans b1.tape))
  ·exact g5.output.trans (b4.output.trans (k2.output.trans b1.output))
  ·have q:j<w.heap.size:=q
   have l1:=J.ai.sq.ss.tlt (J.t0 j q)
   exact (bk j (tl j (t1 j (J.t0 j q))) fun z=>by have:=(J.tw j z).2;omega).trans ((k2.block j (J.t0 j q)).trans (b1.block j l1))
end
end Sp
namespace Sp
open Ck Wa
open En (Ev)
open Sg (tlk ftk)
theorem there_take(l:List Ev)(k:Nat):Gu.there (l.take k)≤Gu.there l:=by
 unfold Gu.there
 have:=(List.take_sublist k l).countP_le (p:=fun x:Ev=>decide (x.k=1))
 omega
theorem es_kp{w w':World}{oa:Option Addr}{l:List Ev}(h:Gu.EsAt w oa l)(k:Kp (Lw w) w w'):Gu.EsAt w' oa l:=by
 intro j e hj
 obtain⟨b,off,he,hc⟩:=h j e hj
 refine⟨b,off,he,fun i hi=>?_⟩
 obtain⟨v,hv⟩:∃v,(En.evc e)[i]? =some v:=⟨_,Array.getElem?_eq_getElem hi⟩
 have:=hc i hi
 rw[hv] at this ⊢
 exact cell_blk this (k.block b (World.block_lt_of_cell? w _ this))
def AllP(l:List Ev)(w:World)(r:Ending)(w':World):Prop:=∃oa c F X xs,r=.returned (.tuple #[.slice oa l.length c,.int .i64 0])∧Sg.Run l F X∧xs.length=l.length∧StAt w' oa xs∧(∀(j:Nat) e y,l[j]? =some e→xs[j]? =some y→StR e (X j) y)∧l.length≤c∧Kp (Lw w) w w'
section
variable {l:List Ev}{w wr:World}{S B k c:Nat}{T:Nat→Prop}{F:Nat→Sg.St}{X:Nat→Nat→Int}{st:Wst}{h:Nat→Option (List Int)}{cs:List Chn}{wm:Wm}{du:Option Nat}{p:Pl}{H:List Int→Prop}{xs:List Stm}{oa:Option Addr}
theorem LpJ.start(sq:SQ wr S B ⟨256,1048576,1,upf (fun _=>none) 0 (some (0,c))⟩ h [] [] wm0 none p (Lw w) (fun y=>∀t,nth y t=0) 0)(hc:h c=some [1])(kp:Kp (Lw w) w wr):LpJ l w S B 0 wr (Lw w) (fun _=>Sg.St.init) (fun _ _=>0) ⟨256,1048576,1,upf (fun _=>none) 0 (some (0,c))⟩ h [] wm0 none p (fun y=>∀t,nth y t=0) [] none 0:=by
 refine⟨⟨sq,⟨rfl,rfl,rfl⟩,fun g hg=>?_,fun x hx=>?_,fun y q=>q,rfl⟩,Sg.Run.nil,World.ownsRow_nil _ _ _ _,rfl,fun j e y _ q=>(by cases q),fun j y q=>(by cases q),fun g q=>(by cases q),fun j q=>q,kp⟩
 ·have hg:g<1:=hg
  obtain rfl:g=0:=by omega
  refine⟨c,[1],upf_same (fun _=>none) 0 (some (0,c)),hc,fun t=>?_⟩
  show _=if t=0 then 1 else 0
  match t with
  |0=>rfl
  |t+1=>rw[nth_out _ _ (by simp),if_neg (by omega)]
 ·have hx:x<0∨((1:Nat):Int)≤x:=hx
  exact upf_other (fun _=>none) 0 x (some (0,c)) (by intro e;subst e;rcases hx with z|z<;>revert z<;>decide)
theorem LpJ.fin(J:LpJ l w S B l.length wr T F X st h cs wm du p H xs oa c):AllP l w (.returned (.tuple #[.slice oa l.length c,.int .i64 0])) wr:=by
 have run:=J.run
 rw[List.take_length] at run
 have hc:l.length≤c:=by
  rcases J.own.2 with⟨e,h0⟩|⟨g,cap,cur,e,-,-,hn,-⟩
  ·injection e with e1 e2 e3;omega
  ·injection e with e1 e2 e3;omega
 refine⟨oa,c,F,X,xs,rfl,run,J.len,fun j y hj=>?_,J.st,hc,J.kp⟩
 have jl:=(List.getElem?_eq_some_iff.1 hj).1
 rcases J.own.2 with⟨e,h0⟩|⟨g,cap,cur,e,-,hg,-,-,-,ht⟩
 ·rw[J.len] at jl;omega
 ·injection e with e1 e2 e3
  have key:∀i,i<2→cur[j*2+i]? =(stc xs)[j*2+i]?:=fun i hi=>by
   rw[←ht,List.getElem?_take,if_pos (by rw[J.len] at jl;omega)]
   simp
  obtain⟨a,b⟩:=stc_at xs j y hj
  refine⟨g,e1,?_,?_,(J.at_ j y hj).1⟩
  ·rw[cell_of hg];exact (key 0 (by omega)).trans a
  ·rw[cell_of hg];exact (key 1 (by omega)).trans b
end
theorem srcS(w:World)(ev:Int)(ra:Option Addr)(n:Nat):∀(j:Nat) u,[Value.int .u64 ev,.slice ra n n][j]? =some u→(w.alloc (.cells #[.int .u64 ev,.slice ra n n] 38)).cell? ((⟨w.heap.size,0,none⟩:Addr).add j)=some u:=by
 intro j x hj
 have hn:=heap_new w (.cells #[.int .u64 ev,.slice ra n n] 38)
 rw[Addr.add_lit,Nat.zero_add,cell_of hn,←hj]
 simp
set_option maxRecDepth 100000 in
theorem all_q(l:List Ev)(ob:Option Addr)(d:Nat)(w:World)(hA:Gu.EsAt w ob l)(hl:l.length≤1300)(hr:∀(i:Nat) e,l[i]? =some e→Gu.ruleD l i e=0)(hf:∀(i:Nat) e,l[i]? =some e→∀b,FlP (l.take i) e b→b=true)(ht:Gu.there l≤256):
 Calls Tryz.prog 8 #[.slice ob l.length d,.int .i64 256,.int .i64 1048576] w fun r w'=>AllP l w r w':=by
 have HA:=hide hA
 have HR:=hide (And.intro hr (And.intro hf ht))
 have NW:=hide (new_q w)
 clear hA hr hf ht
 go_enter Tryz.func8,Tryz.ntmps8
 go_wp2_with fail
 refine NW.out.mono ?_
 rintro r w1 ⟨S,B,c,h,p,rfl,sq,hc,kp⟩
 have J0:=hide (LpJ.start (l:=l) sq hc kp)
 clear sq hc kp NW
 go_wp2_with fail
 go_loopw [26,10] (fun i v wr=>∃k:Nat,k≤l.length∧i=.int .i64 k∧∃oa c,v=.slice oa k c∧∃T F X st h cs wm du p H xs,LpJ l w S B k wr T F X st h cs wm du p H xs oa c) (fun i _ _=>l.length - (intOf i).toNat)
 case atStart=>exact⟨0,Nat.zero_le _,rfl,none,0,rfl,_,_,_,_,_,_,_,_,_,_,_,J0.out⟩
 case round=>
  clear J0
  obtain⟨k,hk,rfl,oa,c,rfl,T,F,X,st,h,cs,wm,du,p,H,xs,j⟩:=hrel
  have J:=hide j
  clear j
  by_cases hlt:k<l.length
  ·have hlt':(k:Int)<(l.length:Int):=by omega
   obtain⟨x,hx⟩:∃x,l[k]? =some x:=⟨_,List.getElem?_eq_getElem hlt⟩
   obtain⟨bb,off,rfl,_⟩:=HA.out k x hx
   obtain⟨q0,q1,q2,q3,q4,q5,q6,q7⟩:=(es_kp HA.out J.out.kp).read hx
   have HX:=hide hx
   have kl:(l.take k).length=k:=by simp;omega
   have b1:=below_alloc wr (.cells #[.int .i64 x.k,.int .i64 x.g,.int .i64 x.c,.int .i64 x.a,.int .i64 x.v,.int .i64 x.m,.bool x.s,.bool x.o] 40)
   have B1:=hide b1
   have NT:=hide ((J.out.ai.mv (J.out.ai.sq.below b1)).note (rf_of (HR.out.1 k x hx)) (J.out.run.inv k (by omega)) (fun g hg=>by rw[kl];exact J.out.run.bd k (by omega) g hg) (by have:=J.out.run.there k (by omega);rw[List.take_take,Nat.min_self] at this;exact this) (by have:=there_take l (k+1);have:=HR.out.2.2;rw[List.take_add_one,hx] at*;simp at*;omega) (by rw[kl];omega) (HR.out.2.1 k x hx))
   unfold En.evv En.evc at NT
   clear hx b1
   go_wp2_with fail
   refine NT.out.mono ?_
   rintro r w2 ⟨ev,ra,L,s',st',h',cs',wm',du',p',H',T1,rfl,at2,t1,ra1,k2,stp,ai,hev⟩
   obtain⟨n,hn⟩:∃n,L.length=n:=⟨_,rfl⟩
   rw[hn]
   have b4:=btr (below_alloc w2 (.cells #[.int .u64 ev,.slice ra n n] 38)) (below_alloc (w2.alloc (.cells #[.int .u64 ev,.slice ra n n] 38)) (.cells #[.int .u64 ev,.slice ra n n] 38))
   have sr:=srcS (w2.alloc (.cells #[.int .u64 ev,.slice ra n n] 38)) ev ra n
   rw[World.size_alloc] at sr
   obtain⟨oa',c',w5,hr,ho,hg,hat⟩:=app_st _ oa k c xs ⟨ev,ra,L⟩ J.out.len.symm (J.out.row B1.out k2 b4) ⟨w2.heap.size+1,0,none⟩ (by rw[hn];exact sr) (by omega)
   obtain⟨T',F',X',j'⟩:=J.out.step HX.out B1.out at2 t1 ra1 k2 stp ai hev b4 ho hg hat
   have J':=hide j'
   have HN:=hide hr
   clear j' hr ho hg hat sr b4 at2 t1 ra1 k2 stp ai hev hn NT J q0 q1 q2 q3 q4 q5 q6 q7
   go_wp2_with (at_builtin;refine Gu.wpL_app rfl _ _ 31 31 rfl _ _ rfl rfl _ _ HN.out ?_)
   go_roundw
   case rel=>exact⟨k+1,by omega,by go_num,oa',c',rfl,T',F',X',_,_,_,_,_,_,_,_,J'.out⟩
   case measure=>simp[intOf];omega
  ·have hlt':¬((k:Int)<(l.length:Int)):=by omega
   obtain rfl:k=l.length:=by omega
   have FN:=hide J.out.fin
   clear J
   go_wp2_with fail
   go_ret2
   exact FN.out
end Sp
namespace Lo
open Ba
theorem run_there{sc:Sh.Sc}(hs:Sh.schk sc=0):Gu.there (runF sc).tr≤256:=by
 have h200:sc.pl.length≤200:=(schk_ok hs).2.2.1
 obtain⟨gs,h⟩:=RI.steps hs sc.pl.length
 have h1:=(run_acc hs sc.pl.length (by omega)).1
 have ha:=h.acc.acc (i:=0) (EI.steps hs sc.pl.length).1.tr (by omega)
 have ig:=ha.ig (stepsF sc.pl.length (newS sc)).tr (Gu.IG.nil _) (by simp)
 rw[Nat.zero_add] at ig
 obtain⟨k,hk,i,-⟩:=Inv.steps hs sc.pl.length
 have a:=ig.c.len
 rw[List.take_length,h.gi.st,List.length_map] at a
 have b:=i.b.cl
 have c:Gu.there (runF sc).tr=Gu.there (stepsF sc.pl.length (newS sc)).tr:=rfl
 omega
structure Tr7(l:List Ev):Prop where
 len:l.length≤1300
 rul:∀(i:Nat) e,l[i]? =some e→Gu.ruleD l i e=0
 fol:∀(i:Nat) e,l[i]? =some e→∀b,Sp.FlP (l.take i) e b→b=true
 few:Gu.there l≤256
theorem tr7{l:List Ev}(h:Gu.TrOK l)(ht:Gu.there l≤256):Tr7 l:=by
 refine⟨h.1,fun i e he=>?_,fun i e he b hb=>?_,ht⟩
 ·rcases h.all with⟨j,x,-,n1,n2,-⟩|⟨q,-⟩
  ·exact absurd n2.symm n1
  ·exact q i e he
 ·obtain⟨n,a,hc,rfl⟩:=hb
  have il:=(List.getElem?_eq_some_iff.1 he).1
  have tk:l.take i++[e]=l.take (i+1):=by rw[List.take_add_one,he];rfl
  have pr:=h.pre (i+1)
  rw[tk] at hc
  obtain⟨rfl,rfl⟩:=hc.eq pr
  have l1:(l.take (i+1)).length=i+1:=by simp;omega
  have l2:(l.take i).length=i:=by simp;omega
  split
  ·rw[l1,l2];simp
  ·simp
def RnQ(w:World)(r:Ending)(w':World):Prop:=∃(ob:Option Addr) (l:List Ev) (d:Nat) (v:Int),r=.returned (.tuple #[.slice ob l.length d,.int .i64 v])∧Gu.EsAt w' ob l∧l.length≤d∧Tr7 l∧Below w.heap.size w w'
theorem run_q(T M:Int)(ps:List (List OpD))(pl dr:List Int)(pa la da:Option Addr)(pc lc dc:Nat)(w:World)(hS:Sh.SAt w ⟨T,M,ps,pl,dr⟩ pa la da):
 Calls Tryz.prog 7 #[.agg #[.int .i64 T,.int .i64 M,.slice pa ps.length pc,.slice la pl.length lc,.slice da dr.length dc]] w fun r w'=>RnQ w r w':=by
 by_cases hs:Sh.schk ⟨T,M,ps,pl,dr⟩=0
 ·refine (run_yes T M ps pl dr pa la da pc lc dc w hS hs _ rfl).mono ?_
  rintro r w' ⟨ob,d,rfl,es,⟨hd,-⟩,b⟩
  exact⟨ob,_,d,_,rfl,es,hd,tr7 (run_ok hs) (run_there hs),b⟩
 ·refine (run_no T M ps pl dr pa la da pc lc dc w hS hs).mono ?_
  rintro r w' ⟨rfl,b⟩
  exact⟨none,[],0,0,rfl,Gu.EsAt.nil _ _,Nat.le_refl _,tr7 Gu.TrOK.nil (by decide),b⟩
end Lo
namespace Sp
open Ck Wa
open En (Ev)
open Sg (tlk ftk)
open Ep (tidOf clkOf)
theorem epk_dec{t c:Int}(h:0≤t∧t<256∧1≤c∧c≤1048576):tidOf (epk t c)=t∧clkOf (epk t c)=c∧0≤epk t c∧epk t c≤18446744073709551615:=by
 have e:epk t c=(t+1)*4294967296+c:=if_pos h
 have d:((t+1)*4294967296+c) / 4294967296=t+1:=by omega
 have r:((t+1)*4294967296+c) % 4294967296=c:=by omega
 have o:Ep.ownB (epk t c)=true:=by
  unfold Ep.ownB
  rw[e,d,r]
  exact decide_eq_true ⟨by omega,by omega,by omega,by omega⟩
 refine⟨?_,?_,by omega,by omega⟩
 ·rw[Ep.tid_own _ o,e,d];omega
 ·rw[Ep.clk_own _ o,e,r]
theorem canon_len{l:List Int}(c:Canon l){n:Nat}(h:∀t,n≤t→nth l t=0):l.length≤n:=by
 unfold Canon at c
 have q:=(tlen_is l).2.2
 rw[c] at q
 apply Classical.byContradiction
 intro z
 rcases q with q|q
 ·omega
 ·exact q (h _ (by omega))
theorem kp_lo{w w1 w2:World}(b:Below w.heap.size w w1)(k:Kp (Lw w1) w1 w2):Below w.heap.size w w2:=⟨k.os.trans b.os,k.tape.trans b.tape,k.output.trans b.output,Nat.le_trans b.size k.size,fun j hj=>(k.block j (Nat.lt_of_lt_of_le hj b.size)).trans (b.block j hj)⟩
theorem stat_below{w w':World}{oa:Option Addr}{xs:List Stm}(h:StAt w oa xs)(b:Below w.heap.size w w'):StAt w' oa xs:=fun j y hj=>by
 obtain⟨a,e,h1,h2,h3⟩:=h j y hj
 exact⟨a,e,(b.cell (World.block_lt_of_cell? w _ h1)).trans h1,(b.cell (World.block_lt_of_cell? w _ h2)).trans h2,h3.below b⟩
structure Tx(l:List Ev)(xs:List Stm):Prop where
 len:xs.length=l.length
 sh:∀(i:Nat) y,xs[i]? =some y→y.L.length≤256
 no:∀(i:Nat) e y,l[i]? =some e→xs[i]? =some y→e.k=13→y.ev=0∧y.L=[]
 ev:∀(i:Nat) e y,l[i]? =some e→xs[i]? =some y→e.k≠13→∃g:Nat,e.g=(g:Int)∧tidOf y.ev=(g:Int)∧clkOf y.ev=nth y.L g∧0≤y.ev∧y.ev≤18446744073709551615∧g<y.L.length
 gr:∀(k i:Nat) f e z y (c g:Nat),k<i→l[k]? =some f→l[i]? =some e→xs[k]? =some z→xs[i]? =some y→f.k≠13→e.k≠13→f.g=(c:Int)→e.g=(g:Int)→(c=g→∀t,nth z.L t≤nth y.L t)∧(c≠g→nth z.L g<nth y.L g)
 ow:∀(k i:Nat) f e z y (g:Nat),k<i→l[k]? =some f→l[i]? =some e→xs[k]? =some z→xs[i]? =some y→f.k≠13→e.k≠13→f.g=(g:Int)→e.g=(g:Int)→ftk e.k=false→(∀j x,k<j→j<i→l[j]? =some x→x.k=13∨x.g≠(g:Int))→∀t,t≠g→nth y.L t=nth z.L t
theorem tx_of{l:List Ev}{F:Nat→Sg.St}{X:Nat→Nat→Int}{xs:List Stm}(r:Sg.Run l F X)(len:xs.length=l.length)(h:∀(j:Nat) e y,l[j]? =some e→xs[j]? =some y→StR e (X j) y)(t7:Lo.Tr7 l):Tx l xs:=by
 have few:∀i,i≤l.length→(F i).n≤256:=fun i hi=>by
  have:=r.there i hi
  have:=there_take l i
  have:=t7.few
  omega
 have key:∀(i:Nat) e,l[i]? =some e→e.k≠13→∃g:Nat,e.g=(g:Int)∧g<256∧1≤X i g∧X i g≤1301∧∀t,256≤t→X i t=0:=fun i e he hk=>by
  obtain⟨g,o⟩:=r.get he hk
  have il:=(List.getElem?_eq_some_iff.1 he).1
  have v:=r.inv i (by omega)
  have f:=few i (by omega)
  obtain⟨k1,-,k3,-⟩:=o.knows v
  have b:=r.bd i (by omega) g o.gn
  have p:=v.pos g o.gn
  have:=t7.len
  have:=o.gn
  exact⟨g,o.eg,by omega,by omega,by omega,fun t ht=>k3 t (by omega)⟩
 refine⟨len,fun i y hy=>?_,fun i e y he hy hk=>?_,fun i e y he hy hk=>?_,fun k i f e z y c g hlt hf he hz hy kf ke fg eg=>?_,fun k i f e z y g hlt hf he hz hy kf ke fg eg nf no t ht=>?_⟩
 ·have il:=(List.getElem?_eq_some_iff.1 hy).1
  obtain⟨e,he⟩:∃e,l[i]? =some e:=⟨_,List.getElem?_eq_getElem (by omega)⟩
  obtain⟨a,b,c⟩:=h i e y he hy
  by_cases hk:e.k=13
  ·rw[if_pos hk] at c
   rw[c.2];exact Nat.zero_le _
  ·obtain⟨g,-,-,-,-,q⟩:=key i e he hk
   exact canon_len b fun t ht=>by rw[a];exact q t ht
 ·have q:=(h i e y he hy).2.2
  rw[if_pos hk] at q
  exact q
 ·obtain⟨a,b,c⟩:=h i e y he hy
  rw[if_neg hk] at c
  obtain⟨g,eg,g1,g2,g3,-⟩:=key i e he hk
  rw[eg,Int.toNat_natCast] at c
  obtain⟨d1,d2,d3,d4⟩:=epk_dec (t:=(g:Int)) (c:=nth y.L g) ⟨by omega,by omega,by rw[a];omega,by rw[a];omega⟩
  rw[←c] at d1 d2 d3 d4
  refine⟨g,eg,d1,d2,d3,d4,Classical.byContradiction fun q=>?_⟩
  have:=nth_out y.L g (by omega)
  rw[a] at this
  omega
 ·obtain⟨a,b⟩:=r.grows hf he hlt ke kf eg fg
  have z1:=(h k f z hf hz).1
  have y1:=(h i e y he hy).1
  exact⟨fun q t=>by rw[z1,y1];exact a q t,fun q=>by rw[z1,y1];exact b q⟩
 ·rw[(h k f z hf hz).1,(h i e y he hy).1]
  exact r.same hf he hlt ke kf eg fg nf no t ht
set_option maxRecDepth 100000 in
theorem within_any(oa ob:Option Addr)(a b:List Int)(w:World)(hA:Ck.At w oa a)(hB:Ck.At w ob b)(hl:a.length≤256)(h:∀t,nth a t≤nth b t):
 Calls Tryz.prog 11 #[.slice oa a.length a.length,.slice ob b.length b.length] w fun r w'=>r=.returned (.bool true)∧w'=w:=by
 have HA:=hide hA
 have HB:=hide hB
 have HH:=hide h
 clear hA hB h
 go_enter Tryz.func11,Tryz.ntmps11
 go_wp2_with fail
 go_loopw [9] (fun i wr=>∃k:Nat,k≤a.length∧i=.int .i64 k∧wr=w) (fun i _=>a.length - (intOf i).toNat)
 case atStart=>exact⟨0,Nat.zero_le _,rfl,rfl⟩
 case round=>
  obtain⟨k,hk,rfl,e⟩:=hrel
  obtain rfl:=e.symm
  by_cases hlt:k<a.length
  ·have hlt':(k:Int)<(a.length:Int):=by omega
   obtain⟨b1,o1,rfl,c1⟩:=HA.out k hlt
   have hkl:=HH.out k
   obtain⟨x,hx⟩:∃x,nth a k=x:=⟨_,rfl⟩
   rw[hx] at c1 hkl
   by_cases hp:0<x
   ·have p1:decide (0<x)=true:=decide_eq_true hp
    have hkb:k<b.length:=Classical.byContradiction fun q=>by rw[nth_out b k (by omega)] at hkl;omega
    have hkb':(k:Int)<(b.length:Int):=by omega
    have p2:decide ((b.length:Int)≤(k:Int))=false:=decide_eq_false (by omega)
    have p2':decide (b.length≤k)=false:=decide_eq_false (by omega)
    obtain⟨b2,o2,rfl,c2⟩:=HB.out k hkb
    have p3:decide (nth b k<x)=false:=decide_eq_false (by omega)
    go_wp2_with fail
    go_roundw
    case rel=>exact⟨k+1,by omega,by go_num,trivial⟩
    case measure=>simp[intOf];omega
   ·have p1:decide (0<x)=false:=decide_eq_false hp
    go_wp2_with fail
    go_roundw
    case rel=>exact⟨k+1,by omega,by go_num,trivial⟩
    case measure=>simp[intOf];omega
  ·have hlt':¬((k:Int)<(a.length:Int)):=by omega
   go_wp2_with fail
   go_ret
   exact⟨rfl,rfl⟩
end Sp
namespace Lo
open Sh De Ba
def AnB(r:Ending):Prop:=∃b:Bool,r=.returned (.bool b)
set_option maxRecDepth 100000 in
theorem large17(T M:Int)(ps:List (List OpD))(pl dr:List Int)(pa la da:Option Addr)(pc lc dc:Nat)(w:World)(hS:SAt w ⟨T,M,ps,pl,dr⟩ pa la da):
 Calls Tryz.prog 5 #[.agg #[.int .i64 T,.int .i64 M,.slice pa ps.length pc,.slice la pl.length lc,.slice da dr.length dc]] w fun r w'=>AnB r∧Below w.heap.size w w':=by
 have S0:=hide (hS.below (below_alloc w (.cells #[.int .i64 T,.int .i64 M,.slice pa ps.length pc,.slice la pl.length lc,.slice da dr.length dc] 25)))
 have B0:=hide (below_alloc w (.cells #[.int .i64 T,.int .i64 M,.slice pa ps.length pc,.slice la pl.length lc,.slice da dr.length dc] 25))
 have X0:=hide (heap_new w (.cells #[.int .i64 T,.int .i64 M,.slice pa ps.length pc,.slice la pl.length lc,.slice da dr.length dc] 25))
 have h1:=hS.h1
 have h2:=hS.h2
 have h3:=hS.h3
 unfold maxLen at h1 h2 h3
 simp only at h1 h2 h3
 clear hS
 by_cases n1:20<ps.length
 ·have g1:decide (20<(ps.length:Int))=true:=by simp;omega
  go_enter Tryz.func5,Tryz.ntmps5
  go_wp2_with fail
  go_ret
  exact⟨⟨true,rfl⟩,B0.out⟩
 have g1:decide (20<(ps.length:Int))=false:=by simp;omega
 by_cases n2:110<pl.length
 ·have g2:decide (110<(pl.length:Int))=true:=by simp;omega
  go_enter Tryz.func5,Tryz.ntmps5
  go_wp2_with fail
  go_ret
  exact⟨⟨true,rfl⟩,B0.out⟩
 have g2:decide (110<(pl.length:Int))=false:=by simp;omega
 by_cases n3:1000<dr.length
 ·have g3:decide (1000<(dr.length:Int))=true:=by simp;omega
  go_enter Tryz.func5,Tryz.ntmps5
  go_wp2_with fail
  go_ret
  exact⟨⟨true,rfl⟩,B0.out⟩
 have g3:decide (1000<(dr.length:Int))=false:=by simp;omega
 go_enter Tryz.func5,Tryz.ntmps5
 go_wp2_with fail
 generalize w.alloc (.cells #[.int .i64 T,.int .i64 M,.slice pa ps.length pc,.slice la pl.length lc,.slice da dr.length dc] 25)=W at S0 B0 X0 ⊢
 obtain⟨x0,x1,x2,x3,x4⟩:=sc_cells X0.out
 go_loopw [26] (fun i wr=>∃k:Nat,k≤ps.length∧i=.int .i64 k∧Below W.heap.size W wr) (fun i _=>ps.length - (intOf i).toNat)
 case atStart=>exact⟨0,Nat.zero_le _,rfl,Below.refl _ _⟩
 case round=>
  rename World=>w5
  obtain⟨k,hk,rfl,b5⟩:=hrel
  have B5:=hide b5
  clear b5
  by_cases hlt:k<ps.length
  ·have hlt':(k:Int)<(ps.length:Int):=by omega
   obtain⟨q,hq⟩:∃q,ps[k]? =some q:=⟨ps[k],by simp[hlt]⟩
   obtain⟨b,off,qa,qc,e1,c1,hO,m1⟩:=(S0.out.below B5.out).ps k q hq
   subst e1
   have HO:=hide hO
   unfold maxLen at m1
   clear hq hO
   by_cases hl:100<q.length
   ·have hl':decide (100<(q.length:Int))=true:=by simp;omega
    go_wp2_with fail
    go_ret
    exact⟨⟨true,rfl⟩,btr B0.out B5.out⟩
   ·have hl':decide (100<(q.length:Int))=false:=by simp;omega
    go_wp2_with fail
    go_loopw [35] (fun i wr=>∃j:Nat,j≤q.length∧i=.int .i64 j∧Below w5.heap.size w5 wr) (fun i _=>q.length - (intOf i).toNat)
    case atStart=>exact⟨0,Nat.zero_le _,rfl,Below.refl _ _⟩
    case round=>
     obtain⟨j,hj,rfl,b6⟩:=hrel
     have B6:=hide b6
     clear b6
     by_cases hlt2:j<q.length
     ·have hlt2':(j:Int)<(q.length:Int):=by omega
      obtain⟨o,ho⟩:∃o,q[j]? =some o:=⟨q[j],by simp[hlt2]⟩
      obtain⟨b',off',ca,cc,e2,⟨y0,y1,y2,y3,y4⟩,hC,hM⟩:=(HO.out.below B6.out) j o ho
      subst e2
      have B7:=hide (btr B6.out (below_alloc wr (.cells #[.int .i64 o.kind,.int .i64 o.a,.int .i64 o.b,.slice ca o.cases.length cc,.bool o.def_] 46)))
      clear ho hC
      by_cases hc:20<o.cases.length
      ·have hc':decide (20<(o.cases.length:Int))=true:=by simp;omega
       go_wp2_with fail
       go_ret
       exact⟨⟨true,rfl⟩,btr B0.out (btr B5.out B7.out)⟩
      ·have hc':decide (20<(o.cases.length:Int))=false:=by simp;omega
       go_wp2_with fail
       go_roundw
       case rel=>exact⟨j+1,by omega,by go_num,B7.out⟩
       case measure=>simp[intOf];omega
     ·have hlt2':¬((j:Int)<(q.length:Int)):=by omega
      go_wp2_with fail
      go_roundw
      case rel=>exact⟨k+1,by omega,by go_num,btr B5.out B6.out⟩
      case measure=>simp[intOf];omega
  ·have hlt':¬((k:Int)<(ps.length:Int)):=by omega
   go_wp2_with fail
   go_ret
   exact⟨⟨false,rfl⟩,btr B0.out B5.out⟩
end Lo
namespace Sp
open Ck Wa
open En (Ev)
def e1:Ev:=⟨1,0,-1,-1,1,1,false,false⟩
def e2:Ev:=⟨9,1,-1,-1,0,-1,false,false⟩
def e3:Ev:=⟨9,0,-1,-1,0,-1,false,false⟩
theorem fl_of{es:List Ev}{e:Ev}(h:Gu.Chk (es++[e]) 0 0):∀b,FlP es e b→b=true:=by
 rintro b ⟨n,a,hc,rfl⟩
 obtain⟨rfl,rfl⟩:=hc.eq h
 rfl
theorem ck1:Gu.Chk ([]++[e1]) 0 0:=.inr ⟨fun j x hx=>by
 have:j=0:=by have:=(List.getElem?_eq_some_iff.1 hx).1;simp at this;exact this
 subst this
 cases hx
 decide,by decide⟩
theorem ck2:Gu.Chk ([]++[e1]++[e2]) 0 0:=.inr ⟨fun j x hx=>by
 have:j=0∨j=1:=by have:=(List.getElem?_eq_some_iff.1 hx).1;simp at this;omega
 rcases this with rfl|rfl<;>cases hx<;>decide,by decide⟩
theorem ck3:Gu.Chk ([]++[e1]++[e2]++[e3]) 0 0:=.inr ⟨fun j x hx=>by
 have:j=0∨j=1∨j=2:=by have:=(List.getElem?_eq_some_iff.1 hx).1;simp at this;omega
 rcases this with rfl|rfl|rfl<;>cases hx<;>decide,by decide⟩
def Yn(Y0:Nat→Prop)(R T:Nat):Nat→Prop:=fun k=>Y0 k∨k=R∨k=T
theorem NoQ.box{Y0:Nat→Prop}{S B:Nat}{w:World}{es:List Ev}{cv mv dv:Value}{F:Int→Nat→List Int→Wst→(Nat→Option (List Int))→Prop}{e:Ev}{r:Ending}{w':World}{ev:Int}{R n:Nat}{l:List Int}{st':Wst}{h':Nat→Option (List Int)}{Y':Nat→Prop}{ea':Option Addr}{c':Nat}(q:NoQ Y0 S B w es cv mv dv F e r w' ev R n l st' h' Y' ea' c'):
 ∀k,Yn Y0 R w'.heap.size k→(Y1 Y' w'.heap.size) k∧k≠S∧(Value.slice ea' (es++[e]).length c').ownBlock≠some k:=by
 rintro k (y|y|y)
 ·exact⟨.inl (q.y0 k y).1,(q.y0 k y).2⟩
 ·subst y
  exact⟨.inl q.yr,q.ar⟩
 ·subst y
  exact⟨.inr rfl,(by have:=q.nx.lt;omega),fun z=>by have:=own_lt q.nx.ev z;omega⟩
def fS(c0:Nat):Int→Option (Nat × Nat):=upf (fun _=>none) 0 (some (0,c0))
def F1(c0:Nat):Int→Nat→List Int→Wst→(Nat→Option (List Int))→Prop:=fun ev n l st' h'=>ev=4294967297∧n=1∧l=[1]∧∃Ac,st'=⟨9,9,2,upf (fS c0) 1 (some (1,Ac))⟩∧h' c0=some [2]∧h' Ac=some [1,1]
theorem used0(c:Nat)(t:Nat):Used (fS c) t↔t=0:=used1 c t
theorem do1{S B c0:Nat}{h:Nat→Option (List Int)}(hc:h c0=some [1]):DoQ S B ⟨9,9,1,fS c0⟩ h e1 (F1 c0):=by
 intro Y u s hY hS
 have hk:dgF e1.k=44:=by decide
 rw[hk]
 refine (spawn_ok s hS hY e1 (by decide) (by decide) (by decide) 0 c0 1 1 [1] rfl rfl hc rfl (by show nth [1] 0<((9:Nat):Int);decide) (by show 1<9;decide) (by decide) (fun q=>by have:=(used0 c0 1).1 q;cases this) (fun t ht=>(used0 c0 t).2 (by omega))).mono ?_
 rintro r w' ⟨R,Ac,lb,lc,h',q⟩
 have eb:lb=[2]:=set_eq q.isb (by unfold Canon;decide) (fun j=>by match j with|0=>rfl|j+1=>simp[nth])
 have ec:lc=[1,1]:=set_eq q.isc (by unfold Canon;decide) (fun j=>by match j with|0=>rfl|1=>rfl|j+2=>simp[nth])
 subst eb ec
 exact⟨4294967297,R,1,[1],_,h',q.res,q.at_,q.new,q.ww,q.kp,rfl,rfl,rfl,Ac,rfl,q.hb,q.hc⟩
def F2(c0 Ac:Nat):Int→Nat→List Int→Wst→(Nat→Option (List Int))→Prop:=fun ev n l st' h'=>ev=8589934593∧n=2∧l=[1,1]∧st'=⟨9,9,2,upf (fS c0) 1 (some (1,Ac))⟩∧h' c0=some [2]
theorem do2{S B c0 Ac:Nat}{h:Nat→Option (List Int)}(hc:h c0=some [2])(ha:h Ac=some [1,1]):DoQ S B ⟨9,9,2,upf (fS c0) 1 (some (1,Ac))⟩ h e2 (F2 c0 Ac):=by
 intro Y u s hY hS
 have hk:dgF e2.k=51:=by decide
 rw[hk]
 refine (stay_some s hS hY e2 (by decide) 1 Ac 2 [1,1] (by show upf (fS c0) 1 (some (1,Ac)) 1=_;rw[upf_same]) ha rfl).mono ?_
 rintro r w' ⟨R,A,hA,rfl,at2,hR,s2,k2⟩
 refine⟨8589934593,R,2,[1,1],_,_,rfl,at2,hR,s2,k2,rfl,rfl,rfl,rfl,?_⟩
 rw[upd_other _ _ _ _ (fun q=>by rw[←q,hc] at hA;cases hA)]
 exact hc
def F3:Int→Nat→List Int→Wst→(Nat→Option (List Int))→Prop:=fun _ n l _ _=>n=1∧l=[2]
theorem do3{S B c0 Ac:Nat}{h:Nat→Option (List Int)}(hc:h c0=some [2]):DoQ S B ⟨9,9,2,upf (fS c0) 1 (some (1,Ac))⟩ h e3 F3:=by
 intro Y u s hY hS
 have hk:dgF e3.k=51:=by decide
 rw[hk]
 refine (stay_some s hS hY e3 (by decide) 0 c0 1 [2] (by show upf (fS c0) 1 (some (1,Ac)) 0=_;rw[upf_other _ _ _ _ (by decide)];rfl) hc rfl).mono ?_
 rintro r w' ⟨R,A,hA,rfl,at2,hR,s2,k2⟩
 exact⟨_,R,1,[2],_,_,rfl,at2,hR,s2,k2,rfl,rfl⟩
theorem can1:((!((1:Int)==1)||decide (1<9))&&decide (nth [1] 0<((9:Nat):Int)))=true:=by decide
set_option maxRecDepth 100000 in
theorem spawns_any(w:World):Calls Tryz.prog 6 #[] w fun r w'=>r=.returned (.bool true)∧Below w.heap.size w w':=by
 have NW:=hide (new_any 9 9 w (by decide) (by decide))
 go_enter Tryz.func6,Tryz.ntmps6
 go_wp2_with fail
 refine NW.out.mono ?_
 rintro r w1 ⟨S,M,B,c0,h,rfl,hS1,-,hM,eSM,s1,hc0,k1⟩
 have HM:=hide (And.intro hM eSM)
 clear hM eSM
 have X1:Hid (NX (Y1 (Y1 (Lw w) M) S) S B w1 ⟨9,9,1,fS c0⟩ h none 0 [] (.slice none 0 0) (.map (some M)) (.pointer none)):=⟨hS1,s1,.inr rfl,World.ownsRow_nil _ _ _ _,fun g q=>by simp[Value.ownBlock] at q⟩
 have N1:=hide (note_go (Y0:=Lw w) X1.out (fun k y=>⟨.inl (.inl y),(by have:=HM.out.1;have:=HM.out.2;unfold Lw at y;omega),fun q=>by simp[Value.ownBlock] at q⟩) e1 (by decide) (fl_of ck1) (fun _=>⟨by decide,0,c0,[1],rfl,hc0,can1⟩) (F1 c0) (do1 hc0))
 have K1:=hide k1
 rw[show En.evv e1=.agg #[.int .i64 1,.int .i64 0,.int .i64 (-1),.int .i64 (-1),.int .i64 1,.int .i64 1,.bool false,.bool false] from rfl] at N1
 clear hS1 s1 hc0 k1 NW
 go_wp2_with fail
 refine N1.out.mono ?_
 rintro r w2 ⟨ev,R1,n,l,st',h2,Y2,ea2,c2,q1⟩
 obtain⟨rfl,rfl,rfl,Ac,rfl,hc2,ha2⟩:=q1.f
 obtain rfl:=q1.res
 have x2:=q1.nx.box (.cells #[.int .u64 4294967297,.slice (some ⟨R1,0,none⟩) 1 1] 38)
 have N2:=hide (note_go x2 q1.box e2 (by decide) (fl_of ck2) (fun q=>by cases q) (F2 c0 Ac) (do2 hc2 ha2))
 have T2:=hide (heap_new w2 (.cells #[.int .u64 4294967297,.slice (some ⟨R1,0,none⟩) 1 1] 38))
 have Q1:=hide q1
 have A1:=hide (q1.at_.below (below_alloc w2 (.cells #[.int .u64 4294967297,.slice (some ⟨R1,0,none⟩) 1 1] 38)))
 have K2:=hide (K1.out.trans q1.kp)
 have k2b:=hide (Kp.of (X:=Lw w) (below_alloc w2 (.cells #[.int .u64 4294967297,.slice (some ⟨R1,0,none⟩) 1 1] 38)) (fun k y=>Nat.lt_of_lt_of_le y K2.out.size))
 rw[show En.evv e2=.agg #[.int .i64 9,.int .i64 1,.int .i64 (-1),.int .i64 (-1),.int .i64 0,.int .i64 (-1),.bool false,.bool false] from rfl] at N2
 clear x2 hc2 ha2 q1 N1
 go_wp2_with fail
 generalize w2.heap.size=T3 at*
 have K2':=hide (K2.out.trans k2b.out)
 clear K2 k2b K1 X1
 generalize w2.alloc (.cells #[.int .u64 4294967297,.slice (some ⟨R1,0,none⟩) 1 1] 38)=w3 at*
 refine N2.out.mono ?_
 rintro r w4 ⟨ev,R2,n,l,st',h4,Y4,ea4,c4,q2⟩
 obtain⟨rfl,rfl,rfl,rfl,hc4⟩:=q2.f
 obtain rfl:=q2.res
 have x4:=q2.nx.box (.cells #[.int .u64 8589934593,.slice (some ⟨R2,0,none⟩) 2 2] 38)
 have N3:=hide (note_go x4 q2.box e3 (by decide) (fl_of ck3) (fun q=>by cases q) F3 (do3 hc4))
 have b4:=below_alloc w4 (.cells #[.int .u64 8589934593,.slice (some ⟨R2,0,none⟩) 2 2] 38)
 have T4:=hide (heap_new w4 (.cells #[.int .u64 8589934593,.slice (some ⟨R2,0,none⟩) 2 2] 38))
 have T34:=hide (Ba.heap_below (kp_heap q2.kp T2.out (.inr (.inr rfl))) b4)
 have A14:=hide ((atK A1.out q2.kp (.inr (.inl rfl))).below b4)
 have A24:=hide (q2.at_.below b4)
 have K4:=hide ((K2'.out.trans (Kp.mono q2.kp fun k y=>.inl y)).trans (Kp.of b4 (fun k y=>Nat.lt_of_lt_of_le y (Nat.le_trans K2'.out.size q2.kp.size))))
 rw[show En.evv e3=.agg #[.int .i64 9,.int .i64 0,.int .i64 (-1),.int .i64 (-1),.int .i64 0,.int .i64 (-1),.bool false,.bool false] from rfl] at N3
 clear x4 hc4 q2 N2 b4 T2 A1 K2' Q1
 go_wp2_with fail
 generalize w4.heap.size=T5 at*
 generalize w4.alloc (.cells #[.int .u64 8589934593,.slice (some ⟨R2,0,none⟩) 2 2] 38)=w5 at*
 refine N3.out.mono ?_
 rintro r w6 ⟨ev,R3,n,l,st',h6,Y6,ea6,c6,q3⟩
 obtain⟨rfl,rfl⟩:=q3.f
 obtain rfl:=q3.res
 have b6:=below_alloc w6 (.cells #[.int .u64 ev,.slice (some ⟨R3,0,none⟩) 1 1] 38)
 have T76:=hide (heap_new w6 (.cells #[.int .u64 ev,.slice (some ⟨R3,0,none⟩) 1 1] 38))
 have T56:=hide (Ba.heap_below (kp_heap q3.kp T4.out (.inr (.inr rfl))) b6)
 have T36:=hide (Ba.heap_below (kp_heap q3.kp T34.out (.inl (.inr (.inr rfl)))) b6)
 have A16:=hide ((atK A14.out q3.kp (.inl (.inr (.inl rfl)))).below b6)
 have A26:=hide ((atK A24.out q3.kp (.inr (.inl rfl))).below b6)
 have A36:=hide (q3.at_.below b6)
 have K6:=hide ((K4.out.trans (Kp.mono q3.kp fun k y=>.inl (.inl y))).trans (Kp.of b6 (fun k y=>Nat.lt_of_lt_of_le y (Nat.le_trans K4.out.size q3.kp.size))))
 clear q3 N3 b6 T4 T34 A14 A24 K4
 have g0:(w6.alloc (.cells #[.int .u64 ev,.slice (some ⟨R3,0,none⟩) 1 1] 38)).cell? ⟨T3,1,none⟩=some (.slice (some ⟨R1,0,none⟩) 1 1):=cell_of T36.out 1
 have I1:=hide (At.lit (w6.alloc (.cells #[.int .u64 ev,.slice (some ⟨R3,0,none⟩) 1 1] 38)) [1] 3 #[.int .i64 1] (by rfl))
 rw[World.size_alloc] at I1
 have B7:=hide (below_alloc (w6.alloc (.cells #[.int .u64 ev,.slice (some ⟨R3,0,none⟩) 1 1] 38)) (.cells #[.int .i64 1] 3))
 go_wp2_with fail
 refine (ints_b _ _ [1] [1] _ _ _ _ true (by decide) (by rfl) (by rfl) _ (A16.out.below B7.out) I1.out (by decide) (by decide)).mono ?_
 rintro r w7 ⟨rfl,b7⟩
 have bb:=btr B7.out b7
 have K7:=hide (K6.out.trans (Kp.of bb (fun k y=>Nat.lt_of_lt_of_le y K6.out.size)))
 have T57:=hide (Ba.heap_below T56.out bb)
 have T77:=hide (Ba.heap_below T76.out bb)
 have A27:=hide (A26.out.below bb)
 have A37:=hide (A36.out.below bb)
 clear bb b7 B7 I1 K6 T56 T76 A26 A36 T36 A16 g0
 generalize w6.heap.size=T7 at*
 have g1:w7.cell? ⟨T5,1,none⟩=some (.slice (some ⟨R2,0,none⟩) 2 2):=cell_of T57.out 1
 go_wp2_with fail
 refine (ints_b _ _ [1,1] [1,1] _ _ _ _ true (by decide) (by rfl) (by rfl) _ (A27.out.below (below_alloc _ _)) (At.lit _ _ _ _ (by rfl)) (by decide) (by decide)).mono ?_
 rintro r w8 ⟨rfl,b8⟩
 have bb:=btr (below_alloc w7 (.cells #[.int .i64 1,.int .i64 1] 3)) b8
 have K8:=hide (K7.out.trans (Kp.of bb (fun k y=>Nat.lt_of_lt_of_le y K7.out.size)))
 have T58:=hide (Ba.heap_below T57.out bb)
 have T78:=hide (Ba.heap_below T77.out bb)
 have A38:=hide (A37.out.below bb)
 clear bb b8 K7 T57 T77 A27 A37 g1
 have g2:w8.cell? ⟨T7,1,none⟩=some (.slice (some ⟨R3,0,none⟩) 1 1):=cell_of T78.out 1
 go_wp2_with fail
 refine (ints_b _ _ [2] [2] _ _ _ _ true (by decide) (by rfl) (by rfl) _ (A38.out.below (below_alloc _ _)) (At.lit _ _ _ _ (by rfl)) (by decide) (by decide)).mono ?_
 rintro r w9 ⟨rfl,b9⟩
 have bb:=btr (below_alloc w8 (.cells #[.int .i64 2] 3)) b9
 have K9:=hide (K8.out.trans (Kp.of bb (fun k y=>Nat.lt_of_lt_of_le y K8.out.size)))
 have T59:=hide (Ba.heap_below T58.out bb)
 clear bb b9 K8 T58 T78 A38 g2
 have g3:w9.cell? ⟨T5,0,none⟩=some (.int .u64 8589934593):=cell_of T59.out 0
 have TD:=hide (Ep.tid_any 8589934593 (by decide) (by decide) w9)
 rw[show Ep.tidOf 8589934593=1 by decide] at TD
 go_wp2_with fail
 refine TD.out.mono ?_
 rintro r wa ⟨rfl,ea⟩
 obtain rfl:=ea.symm
 go_wp2_with fail
 go_ret
 exact⟨rfl,Kp.lw K9.out⟩
end Sp
end Go.Proofs.YtogkjaekfhjelaaGreat
