import Derived.Test.YtogkjaekfhjelaaGreatZjSg14
import Derived.Test.YtogkjaekfhjelaaGreatZjSg16
import Derived.Deep.RegionHeld3
import Derived.Deep.DeepCutAuto
set_option maxHeartbeats 12800000
namespace Go.Proofs.YtogkjaekfhjelaaGreat
open Go.ChangeShapes Go.WideShapes Go.ChangeAt Go.RowKit
namespace Sp
open Ck Wa
open En (Ev)
def X0(col:Nat→Nat):Nat→Prop:=fun k=>col k≠0
def Xc(col:Nat→Nat)(c:Nat):Nat→Prop:=fun k=>col k≠0∧col k≠c
open Classical in
noncomputable def rcl(col:Nat→Nat)(c:Nat)(O:Nat→Prop):Nat→Nat:=fun k=>if O k then c else if col k=c then 0 else col k
section
variable {col:Nat→Nat}{c:Nat}{O:Nat→Prop}{w w':World}
theorem rcl_own(hc:c≠0)(k:Nat):rcl col c O k=c↔O k:=by
 unfold rcl
 by_cases h:O k
 ·simp[h]
 ·rw[if_neg h]
  by_cases e:col k=c
  ·rw[if_pos e]
   exact⟨fun q=>absurd q.symm hc,fun q=>absurd q h⟩
  ·rw[if_neg e]
   exact⟨fun q=>absurd q e,fun q=>absurd q h⟩
theorem rcl_oth{d:Nat}(hd:d≠c)(d0:d≠0)(hO:∀k,O k→¬Xc col c k)(k:Nat):rcl col c O k=d↔col k=d:=by
 unfold rcl
 by_cases h:O k
 ·rw[if_pos h]
  refine⟨fun q=>absurd q.symm hd,fun q=>absurd ⟨by rw[q];exact d0,by rw[q];exact hd⟩ (hO k h)⟩
 ·rw[if_neg h]
  by_cases e:col k=c
  ·rw[if_pos e,e]
   exact⟨fun q=>absurd q.symm d0,fun q=>absurd q.symm hd⟩
  ·rw[if_neg e]
theorem rcl_x0(k:Nat)(h:X0 (rcl col c O) k):Xc col c k∨O k:=by
 unfold X0 rcl at h
 by_cases q:O k
 ·exact .inr q
 ·rw[if_neg q] at h
  by_cases e:col k=c
  ·rw[if_pos e] at h
   exact absurd rfl h
  ·rw[if_neg e] at h
   exact .inl ⟨h,e⟩
end
theorem cx_less{X X':Nat→Prop}{w:World}{h:Nat→Option (Nat × List Int)}(s:Cx X w h)(hi:∀k,X' k→X k):Cx X' w h:=by
 obtain⟨f,t,hf⟩:=s
 exact⟨f,⟨t.rep,fun i c hc=>⟨(t.ok i c hc).1,(t.ok i c hc).2.1,fun q=>(t.ok i c hc).2.2.1 (hi _ q),fun x hx q=>(t.ok i c hc).2.2.2 x hx (hi _ q)⟩,t.apart,fun k q=>t.base k (hi _ q)⟩,hf⟩
theorem cx_sub{X:Nat→Prop}{w:World}{h h':Nat→Option (List Int)}(s:Cx X w (hx h))(hs:∀b l,h' b=some l→h b=some l):Cx X w (hx h'):=by
 obtain⟨f,t,hf⟩:=s
 refine⟨fun i=>if (h' i).isSome then f i else none,⟨fun i c hc=>?_,fun i c hc=>?_,fun i j c d hne hc hd=>?_,t.base⟩,fun i=>?_⟩
 ·split at hc
  ·exact t.rep i c hc
  ·cases hc
 ·split at hc
  ·exact t.ok i c hc
  ·cases hc
 ·split at hc
  ·split at hd
   ·exact t.apart i j c d hne hc hd
   ·cases hd
  ·cases hc
 ·have q:=hf i
  unfold hx at q ⊢
  cases e:h' i with
  |none=>simp[e]
  |some l=>
   rw[hs i l e] at q
   simpa [e] using q
structure Chn where
 p:Nat
 st:Sl.Sst
 vg:Value
 vb:Value
def Chn.own(x:Chn):Nat→Prop:=fun k=>k=x.p∨x.vg.ownBlock=some k∨x.vb.ownBlock=some k
structure ChA(col:Nat→Nat)(i:Nat)(w:World)(x:Chn):Prop where
 hp:w.heap[x.p]? =some (.cells (Sl.scs x.st x.vg x.vb) 194 (0,0))
 gv:w.ownsRow 0 63 1 x.vg x.st.gv.length (Sl.pcs x.st.gv)
 bk:w.ownsRow 0 63 1 x.vb x.st.bk.length (Sl.pcs x.st.bk)
 ap:∀k,x.vg.ownBlock=some k→x.vb.ownBlock≠some k
 sg:x.vg.ownBlock≠some x.p
 sb:x.vb.ownBlock≠some x.p
 ow:∀k,col k=6+i↔x.own k
section
variable {col col':Nat→Nat}{i c:Nat}{w w':World}{x:Chn}{h:Nat→Option (List Int)}
theorem ChA.sx(a:ChA col i w x)(cx:Cx (X0 col) w (hx h))(dm:Sl.Dom x.st h):Sl.SX (Xc col (6+i)) x.p w x.st h x.vg x.vb:=
 ⟨a.hp,a.gv,a.bk,a.ap,fun q=>q.2 ((a.ow _).2 (.inl rfl)),fun k e q=>q.2 ((a.ow _).2 (.inr (.inl e))),fun k e q=>q.2 ((a.ow _).2 (.inr (.inr e))),a.sg,a.sb,cx_less cx fun k q=>by
   rcases q with q|q|q|q
   ·exact q.1
   ·show col k≠0
    rw[(a.ow k).2 (.inl q)];omega
   ·show col k≠0
    rw[(a.ow k).2 (.inr (.inl q))];omega
   ·show col k≠0
    rw[(a.ow k).2 (.inr (.inr q))];omega,dm⟩
theorem ChA.keep(a:ChA col i w x)(k:Kp (Xc col c) w w')(hc:6+i≠c)(hq:∀k,col' k=6+i↔col k=6+i):ChA col' i w' x:=by
 have hx:∀k,x.own k→Xc col c k:=fun k q=>by
  have e:=(a.ow k).2 q
  exact⟨by rw[e];omega,by rw[e];exact hc⟩
 exact⟨(k.block _ (hx _ (.inl rfl))).trans a.hp,Sl.own_kp a.gv k fun _ e=>hx _ (.inr (.inl e)),Sl.own_kp a.bk k fun _ e=>hx _ (.inr (.inr e)),a.ap,a.sg,a.sb,fun k=>(hq k).trans (a.ow k)⟩
theorem ChA.of{st':Sl.Sst}{h':Nat→Option (List Int)}{vg' vb':Value}(s:Sl.SX (Xc col (6+i)) x.p w' st' h' vg' vb'):ChA (rcl col (6+i) (Chn.own ⟨x.p,st',vg',vb'⟩)) i w' ⟨x.p,st',vg',vb'⟩∧Cx (X0 (rcl col (6+i) (Chn.own ⟨x.p,st',vg',vb'⟩))) w' (hx h')∧Sl.Dom st' h'∧∀k,Chn.own ⟨x.p,st',vg',vb'⟩ k→¬Xc col (6+i) k:=by
 have hO:∀k,Chn.own ⟨x.p,st',vg',vb'⟩ k→¬Xc col (6+i) k:=fun k q=>by
  rcases q with q|q|q
  ·rw[q];exact s.ys
  ·exact s.yg k q
  ·exact s.yb k q
 refine⟨⟨s.hp,s.gv,s.bk,s.ap,s.sg,s.sb,fun k=>rcl_own (by omega) k⟩,cx_less s.cx fun k q=>?_,s.dom,hO⟩
 rcases rcl_x0 k q with z|z
 ·exact .inl z
 ·exact .inr z
end
structure WtA(col:Nat→Nat)(w:World)(B mb:Nat)(st:Wst)(D:DataW Unit):Prop where
 hp:w.heap[B]? =some (.cells #[.int .i64 (st.T:Int),.int .i64 (st.M:Int),.map (some mb)] 95 (0,0))
 ow:w.ownsMap Tryz.prog 3 mE mb NB D
 mi:MI D st.f
 sz:Maps.size D=st.n
 ne:B≠mb
 own:∀k,col k=1↔k=B∨k=mb
 inj:∀g g' t t' b,st.f g=some (t,b)→st.f g'=some (t',b)→g=g'
 tid:∀g t b,st.f g=some (t,b)→t<256
 bd:st.T≤256∧1≤st.M∧st.M≤1048576∧st.n≤10000
def WDom(st:Wst)(h:Nat→Option (List Int)):Prop:=∀g t b,st.f g=some (t,b)→∃l,h b=some l
section
variable {col col':Nat→Nat}{c B mb:Nat}{w w':World}{st:Wst}{D:DataW Unit}{h:Nat→Option (List Int)}
theorem WtA.ww(a:WtA col w B mb st D)(cx:Cx (X0 col) w (hx h))(dm:WDom st h):WW (Xc col 1) B w st h:=
 ⟨mb,D,a.hp,a.ow,a.mi,a.sz,a.ne,fun q=>q.2 ((a.own _).2 (.inl rfl)),fun q=>q.2 ((a.own _).2 (.inr rfl)),cx_less cx fun k q=>by
   rcases q with q|q|q
   ·exact q.1
   ·show col k≠0
    rw[(a.own k).2 (.inl q)];omega
   ·show col k≠0
    rw[(a.own k).2 (.inr q)];omega,dm,a.inj,a.tid,a.bd⟩
theorem WtA.keep(a:WtA col w B mb st D)(k:Kp (Xc col c) w w')(hc:1≠c)(hq:∀k,col' k=1↔col k=1):WtA col' w' B mb st D:=by
 have hx:∀k,k=B∨k=mb→Xc col c k:=fun k q=>by
  have e:=(a.own k).2 q
  exact⟨by rw[e];omega,by rw[e];exact hc⟩
 exact⟨(k.block _ (hx _ (.inl rfl))).trans a.hp,Wa.own_kp a.ow k (hx _ (.inr rfl)),a.mi,a.sz,a.ne,fun k=>(hq k).trans (a.own k),a.inj,a.tid,a.bd⟩
theorem WtA.of{Y:Nat→Prop}(hY:∀k,Y k↔Xc col 1 k)(s:WW Y B w st h):∃mb D,WtA (rcl col 1 (fun k=>k=B∨k=mb)) w B mb st D∧Cx (X0 (rcl col 1 (fun k=>k=B∨k=mb))) w (hx h)∧WDom st h∧∀k,(k=B∨k=mb)→¬Xc col 1 k:=by
 obtain⟨mb,D,s⟩:=s
 have hO:∀k,(k=B∨k=mb)→¬Xc col 1 k:=fun k q z=>by
  rcases q with q|q
  ·rw[q] at z;exact s.yb ((hY _).2 z)
  ·rw[q] at z;exact s.ym ((hY _).2 z)
 refine⟨mb,D,⟨s.hp,s.ow,s.mi,s.sz,s.ne,fun k=>rcl_own (by omega) k,s.inj,s.tid,s.bd⟩,cx_less s.cx fun k q=>?_,s.dom,hO⟩
 rcases rcl_x0 k q with z|z
 ·exact .inl ((hY _).2 z)
 ·exact .inr z
end
end Sp
namespace Sp
open Ck Wa
open En (Ev)
open Go.Maps (Keyed int_keyed keyOf_int_mk)
def pD(b:Nat):DataW Unit:=.lit (.int .i64 (b:Int))
def wE:Value→Option (DataW Unit × List MemPlace)
 |.pointer none=>some (.nil,[])
 |.pointer (some ⟨b,0,none⟩)=>some (pD b,[])
 |_=>none
theorem pD_inj{b b':Nat}(h:pD b=pD b'):b=b':=by
 unfold pD at h
 simp at h
 omega
structure Wm where
 f:Int→Option Nat
 n:Nat
instance:CoeFun Wm fun _=>Int→Option Nat:=⟨Wm.f⟩
structure WI(D:DataW Unit)(f:Wm):Prop where
 tidy:Maps.Tidy D
 has:∀g,Maps.has D (kl g)=(f g).isSome
 at_:∀g b z,f g=some b→D.atKey (kl g) z=pD b
 sz:Maps.size D≤f.n
theorem WI.no{D:DataW Unit}{f:Wm}(h:WI D f){g:Int}(e:f g=none)(z:DataW Unit):D.atKey (kl g) z=z:=Maps.atKey_of_not_has (by rw[h.has,e];rfl) z
def upw(f:Wm)(g:Int)(v:Option Nat):Wm:=⟨fun x=>if x=g then v else f x,f.n+1⟩
theorem upw_at(f:Wm)(g:Int)(v:Option Nat)(x:Int):upw f g v x=if x=g then v else f x:=rfl
theorem WI.put{D:DataW Unit}{f:Wm}(h:WI D f){g:Int}(hg:(Lit.int .i64 g).wf=true)(b:Nat):WI (D.put (kl g) (pD b)) (upw f g (some b)):=by
 refine⟨h.tidy.put (lit_key g hg) _,fun x=>?_,fun x b' z e=>?_,?_⟩
 ·rw[upw_at]
  by_cases q:x=g
  ·subst q
   rw[Maps.has_put_same h.tidy.isMap (lit_key x hg)];simp
  ·rw[Maps.has_put_other (fun e=>q (kl_inj e)),h.has,if_neg q]
 ·rw[upw_at] at e
  by_cases q:x=g
  ·subst q
   simp at e
   subst e
   exact Maps.atKey_put_same h.tidy.isMap (lit_key x hg) _ _
  ·rw[if_neg q] at e
   rw[Maps.atKey_put_other (fun e=>q (kl_inj e))]
   exact h.at_ x b' z e
 ·have:=h.sz
  rw[Maps.size_put h.tidy]
  show _≤f.n+1
  split<;>omega
theorem WI.del{D:DataW Unit}{f:Wm}(h:WI D f)(g:Int):WI (D.del (kl g)) (upw f g none):=by
 refine⟨h.tidy.del _,fun x=>?_,fun x b' z e=>?_,?_⟩
 ·rw[upw_at]
  by_cases q:x=g
  ·subst q
   rw[Maps.has_del_same];simp
  ·rw[Maps.has_del_other (fun e=>q (kl_inj e)),h.has,if_neg q]
 ·rw[upw_at] at e
  by_cases q:x=g
  ·rw[if_pos q] at e
   cases e
  ·rw[if_neg q] at e
   rw[Maps.atKey_del_other (fun e=>q (kl_inj e))]
   exact h.at_ x b' z e
 ·have:=h.sz
  show _≤f.n+1
  have:=Maps.size_del (k:=kl g) h.tidy
  split at this<;>omega
def chc(cs:List Chn):List Value:=cs.flatMap fun x=>[.int .i64 (x.st.sz:Int),.pointer (some ⟨x.p,0,none⟩)]
structure StA(col:Nat→Nat)(w:World)(S B:Nat)(ea:Option Addr)(c:Nat)(es:List Ev)(co:Option Addr)(cc:Nat)(cs:List Chn)(MW:Nat)(DW:DataW Unit)(wm:Wm)(du:Option Nat):Prop where
 hp:w.heap[S]? =some (.cells #[.pointer (some ⟨B,0,none⟩),.slice ea es.length c,.slice co cs.length cc,.map (some MW),Sl.clv du] 65 (0,0))
 c2:∀k,col k=2↔k=S
 ev:w.ownsRow 0 40 8 (.slice ea es.length c) es.length (ec es)
 c3:∀k,col k=3↔(Value.slice ea es.length c).ownBlock=some k
 cr:w.ownsRow 0 150 2 (.slice co cs.length cc) cs.length (chc cs)
 c4:∀k,col k=4↔(Value.slice co cs.length cc).ownBlock=some k
 mw:w.ownsMap Tryz.prog 3 wE MW NB DW
 c5:∀k,col k=5↔k=MW
 wi:WI DW wm
section
variable {col col':Nat→Nat}{w w':World}{S B c:Nat}{ea:Option Addr}{es:List Ev}{co:Option Addr}{cc:Nat}{cs:List Chn}{MW:Nat}{DW:DataW Unit}{wm:Wm}{du:Option Nat}{o:Nat}
theorem StA.keep(a:StA col w S B ea c es co cc cs MW DW wm du)(k:Kp (Xc col o) w w')(h2:o<2∨5<o)(hq:∀d,d≠o→d≠0→∀k,col' k=d↔col k=d):StA col' w' S B ea c es co cc cs MW DW wm du:=by
 have hx:∀d k,2≤d→d≤5→col k=d→Xc col o k:=fun d k h1 h3 e=>⟨by rw[e];omega,by rw[e];omega⟩
 refine⟨(k.block _ (hx 2 _ (by omega) (by omega) ((a.c2 _).2 rfl))).trans a.hp,fun j=>(hq 2 (by omega) (by omega) j).trans (a.c2 j),own_keep a.ev fun g q=>k.block g (hx 3 g (by omega) (by omega) ((a.c3 g).2 q)),fun j=>(hq 3 (by omega) (by omega) j).trans (a.c3 j),own_keep a.cr fun g q=>k.block g (hx 4 g (by omega) (by omega) ((a.c4 g).2 q)),fun j=>(hq 4 (by omega) (by omega) j).trans (a.c4 j),?_,fun j=>(hq 5 (by omega) (by omega) j).trans (a.c5 j),a.wi⟩
 obtain⟨es',clock,hb,r⟩:=a.mw
 exact⟨es',clock,(k.block MW (hx 5 _ (by omega) (by omega) ((a.c5 _).2 rfl))).trans hb,r⟩
end
structure SM(col:Nat→Nat)(w:World)(S B mb:Nat)(st:Wst)(D:DataW Unit)(h:Nat→Option (List Int))(ea:Option Addr)(c:Nat)(es:List Ev)(co:Option Addr)(cc:Nat)(cs:List Chn)(MW:Nat)(DW:DataW Unit)(wm:Wm)(du:Option Nat):Prop where
 wt:WtA col w B mb st D
 sa:StA col w S B ea c es co cc cs MW DW wm du
 ch:∀(i:Nat) x,cs[i]? =some x→ChA col i w x
 cx:Cx (X0 col) w (hx h)
 wd:WDom st h
 cd:∀(i:Nat) x,cs[i]? =some x→Sl.Dom x.st h
 md:∀g b,wm g=some b→∃l,h b=some l
 dd:∀b,du=some b→∃l,h b=some l
section
variable {col:Nat→Nat}{w w':World}{S B mb:Nat}{st st':Wst}{D:DataW Unit}{h h':Nat→Option (List Int)}{ea:Option Addr}{c:Nat}{es:List Ev}{co:Option Addr}{cc:Nat}{cs:List Chn}{MW:Nat}{DW:DataW Unit}{wm:Wm}{du:Option Nat}
theorem SM.ww(s:SM col w S B mb st D h ea c es co cc cs MW DW wm du):WW (Xc col 1) B w st h:=s.wt.ww s.cx s.wd
theorem SM.sx(s:SM col w S B mb st D h ea c es co cc cs MW DW wm du){i:Nat}{x:Chn}(hi:cs[i]? =some x):Sl.SX (Xc col (6+i)) x.p w x.st h x.vg x.vb:=(s.ch i x hi).sx s.cx (s.cd i x hi)
theorem SM.watch(s:SM col w S B mb st D h ea c es co cc cs MW DW wm du)(q:WW (Xc col 1) B w' st' h')(k:Kp (Xc col 1) w w')(hd:∀b l,h b=some l→∃l',h' b=some l'):
 ∃col' mb' D',SM col' w' S B mb' st' D' h' ea c es co cc cs MW DW wm du∧∀d,d≠1→d≠0→∀k,col' k=d↔col k=d:=by
 obtain⟨mb',D',a,cx,wd,hO⟩:=WtA.of (fun _=>Iff.rfl) q
 have hq:∀d,d≠1→d≠0→∀k,rcl col 1 (fun k=>k=B∨k=mb') k=d↔col k=d:=fun d h1 h2 k=>rcl_oth h1 h2 hO k
 refine⟨_,mb',D',⟨a,s.sa.keep k (by omega) hq,fun i x hi=>(s.ch i x hi).keep k (by omega) (hq _ (by omega) (by omega)),cx,wd,fun i x hi b hb=>?_,fun g b e=>?_,fun b e=>?_⟩,hq⟩
 ·obtain⟨l,e⟩:=s.cd i x hi b hb
  exact hd b l e
 ·obtain⟨l,e⟩:=s.md g b e
  exact hd b l e
 ·obtain⟨l,e⟩:=s.dd b e
  exact hd b l e
theorem SM.slot(s:SM col w S B mb st D h ea c es co cc cs MW DW wm du){i:Nat}{x:Chn}(hi:cs[i]? =some x){t:Sl.Sst}(q:Sl.SW (Xc col (6+i)) x.p w' t h')(hz:t.sz=x.st.sz)(k:Kp (Xc col (6+i)) w w')(hd:Sl.Ext h h'):
 ∃col' vg vb,SM col' w' S B mb st D h' ea c es co cc (cs.set i ⟨x.p,t,vg,vb⟩) MW DW wm du∧∀d,d≠6+i→d≠0→∀k,col' k=d↔col k=d:=by
 obtain⟨vg,vb,q⟩:=q
 obtain⟨a,cx,dm,hO⟩:=ChA.of (i:=i) q
 have hq:∀d,d≠6+i→d≠0→∀k,rcl col (6+i) (Chn.own ⟨x.p,t,vg,vb⟩) k=d↔col k=d:=fun d h1 h2 k=>rcl_oth h1 h2 hO k
 have hil:=(List.getElem?_eq_some_iff.1 hi).1
 have hc:chc (cs.set i ⟨x.p,t,vg,vb⟩)=chc cs:=by
  have:∀(l:List Chn) (i:Nat),l[i]? =some x→chc (l.set i ⟨x.p,t,vg,vb⟩)=chc l:=by
   intro l
   induction l with
   |nil=>intro i hi;cases hi
   |cons y l ih=>
    intro i hi
    cases i with
    |zero=>
     cases hi
     simp[chc,hz]
    |succ i=>
     have:=ih i (by simpa using hi)
     simp only[List.set_cons_succ]
     unfold chc at this ⊢
     rw[List.flatMap_cons,List.flatMap_cons,this]
  exact this cs i hi
 have sa:=s.sa.keep (col':=rcl col (6+i) (Chn.own ⟨x.p,t,vg,vb⟩)) k (by omega) hq
 refine⟨_,vg,vb,⟨s.wt.keep k (by omega) (hq 1 (by omega) (by omega)),⟨by rw[List.length_set];exact sa.hp,sa.c2,sa.ev,sa.c3,by rw[List.length_set,hc];exact sa.cr,by rw[List.length_set];exact sa.c4,sa.mw,sa.c5,sa.wi⟩,fun j y hj=>?_,cx,fun g t b e=>?_,fun j y hj b hb=>?_,fun g b e=>?_,fun b e=>?_⟩,hq⟩
 ·by_cases e:j=i
  ·subst e
   rw[List.getElem?_set_self hil] at hj
   cases hj
   exact a
  ·rw[List.getElem?_set_ne (Ne.symm e)] at hj
   exact (s.ch j y hj).keep k (by omega) (hq _ (by omega) (by omega))
 ·obtain⟨l,e⟩:=s.wd g t b e
  exact⟨l,hd b l e⟩
 ·by_cases e:j=i
  ·subst e
   rw[List.getElem?_set_self hil] at hj
   cases hj
   exact dm b hb
  ·rw[List.getElem?_set_ne (Ne.symm e)] at hj
   obtain⟨l,e⟩:=s.cd j y hj b hb
   exact⟨l,hd b l e⟩
 ·obtain⟨l,e⟩:=s.md g b e
  exact⟨l,hd b l e⟩
 ·obtain⟨l,e⟩:=s.dd b e
  exact⟨l,hd b l e⟩
theorem SM.sub(s:SM col w S B mb st D h ea c es co cc cs MW DW wm du)(hs:∀b l,h' b=some l→h b=some l)(h1:WDom st h')(h2:∀(i:Nat) x,cs[i]? =some x→Sl.Dom x.st h')(h3:∀g b,wm g=some b→∃l,h' b=some l)(h4:∀b,du=some b→∃l,h' b=some l):SM col w S B mb st D h' ea c es co cc cs MW DW wm du:=
 ⟨s.wt,s.sa,s.ch,cx_sub s.cx hs,h1,h2,h3,h4⟩
theorem SM.below(s:SM col w S B mb st D h ea c es co cc cs MW DW wm du)(b:Below w.heap.size w w'):SM col w' S B mb st D h ea c es co cc cs MW DW wm du:=by
 have k:Kp (Xc col 0) w w':=Kp.of b fun k q=>s.cx.base k q.1
 exact⟨s.wt.keep k (by omega) fun _=>Iff.rfl,s.sa.keep k (by omega) fun _ _ _ _=>Iff.rfl,fun i x hi=>(s.ch i x hi).keep k (by omega) fun _=>Iff.rfl,s.cx.below b,s.wd,s.cd,s.md,s.dd⟩
theorem SM.box(s:SM col w S B mb st D h ea c es co cc cs MW DW wm du)(o:Obj){d:Nat}(hd:6+cs.length≤d):
 SM (fun k=>if k=w.heap.size then d else col k) (w.alloc o) S B mb st D h ea c es co cc cs MW DW wm du:=by
 have b:=s.below (below_alloc w o)
 have c0:col w.heap.size=0:=by
  cases e:col w.heap.size with
  |zero=>rfl
  |succ n=>exact absurd (s.cx.base w.heap.size (show col w.heap.size≠0 by rw[e];omega)) (Nat.lt_irrefl _)
 have hq:∀x,x≠d→x≠0→∀k,(if k=w.heap.size then d else col k)=x↔col k=x:=fun x h1 h2 k=>by
  by_cases e:k=w.heap.size
  ·rw[if_pos e,e,c0]
   exact⟨fun q=>absurd q.symm h1,fun q=>absurd q.symm h2⟩
  ·rw[if_neg e]
 have k:Kp (Xc col d) (w.alloc o) (w.alloc o):=Kp.refl _ _
 refine⟨b.wt.keep k (by omega) (hq 1 (by omega) (by omega)),b.sa.keep k (by omega) hq,fun i x hi=>?_,?_,s.wd,s.cd,s.md,s.dd⟩
 ·have hil:=(List.getElem?_eq_some_iff.1 hi).1
  exact (b.ch i x hi).keep k (by omega) (hq _ (by omega) (by omega))
 ·refine cx_ext s.cx (fun k hk _=>(below_alloc w o).block k hk) (fun k q=>?_) (fun k q=>?_)
  ·by_cases e:k=w.heap.size
   ·exact .inr (by omega)
   ·have q:(if k=w.heap.size then d else col k)≠0:=q
    rw[if_neg e] at q
    exact .inl q
  ·rw[World.size_alloc]
   by_cases e:k=w.heap.size
   ·omega
   ·have q:(if k=w.heap.size then d else col k)≠0:=q
    rw[if_neg e] at q
    have:=s.cx.base k q
    omega
end
end Sp
namespace Sp
open Ck Wa
open En (Ev)
structure Pl where
 co:Option Addr
 cc:Nat
 MW:Nat
def Fx(S:Nat)(p:Pl):Nat→Prop:=fun k=>k=S∨(∃a,p.co=some a∧k=a.block)∨k=p.MW
def SS(w:World)(S B:Nat)(st:Wst)(h:Nat→Option (List Int))(es:List Ev)(cs:List Chn)(wm:Wm)(du:Option Nat)(p:Pl)(T:Nat→Prop):Prop:=
 cs.length≤900∧∃col mb D ea c DW,SM col w S B mb st D h ea c es p.co p.cc cs p.MW DW wm du∧∀k,T k→1000≤col k
section
variable {w w':World}{S B:Nat}{st st':Wst}{h h':Nat→Option (List Int)}{es:List Ev}{cs:List Chn}{wm:Wm}{du:Option Nat}{p:Pl}{T T':Nat→Prop}
theorem SS.below(s:SS w S B st h es cs wm du p T)(b:Below w.heap.size w w'):SS w' S B st h es cs wm du p T:=by
 obtain⟨n,col,mb,D,ea,c,DW,s,q⟩:=s
 exact⟨n,col,mb,D,ea,c,DW,s.below b,q⟩
theorem SS.less(s:SS w S B st h es cs wm du p T)(hi:∀k,T' k→T k):SS w S B st h es cs wm du p T':=by
 obtain⟨n,col,mb,D,ea,c,DW,s,q⟩:=s
 exact⟨n,col,mb,D,ea,c,DW,s,fun k hk=>q k (hi k hk)⟩
theorem SS.tlt(s:SS w S B st h es cs wm du p T){k:Nat}(hk:T k):k<w.heap.size:=by
 obtain⟨n,col,mb,D,ea,c,DW,s,q⟩:=s
 have:=q k hk
 exact s.cx.base k (show col k≠0 by omega)
theorem SS.box(s:SS w S B st h es cs wm du p T)(o:Obj):SS (w.alloc o) S B st h es cs wm du p (Y1 T w.heap.size):=by
 obtain⟨n,col,mb,D,ea,c,DW,s,q⟩:=s
 refine⟨n,_,mb,D,ea,c,DW,s.box o (d:=1000) (by omega),fun k hk=>?_⟩
 by_cases e:k=w.heap.size
 ·rw[if_pos e];omega
 ·rw[if_neg e]
  rcases hk with z|z
  ·exact q k z
  ·exact absurd z e
theorem SS.cellS(s:SS w S B st h es cs wm du p T):w.cell? ⟨S,0,none⟩=some (.pointer (some ⟨B,0,none⟩))∧w.cell? ⟨S,4,none⟩=some (Sl.clv du):=by
 obtain⟨n,col,mb,D,ea,c,DW,s,q⟩:=s
 exact⟨cell_of s.sa.hp 0,cell_of s.sa.hp 4⟩
theorem SS.set(s:SS w S B st h es cs wm du p T){k:Nat}(hk:T k)(i:Nat)(v:Value):SS (w.setCell ⟨k,i,none⟩ v) S B st h es cs wm du p T:=by
 obtain⟨n,col,mb,D,ea,c,DW,s,q⟩:=s
 have hc:=q k hk
 have kp:Kp (Xc col (col k)) w (w.setCell ⟨k,i,none⟩ v):=⟨rfl,rfl,rfl,by simp[World.setCell],fun j hj=>Below.heap_setCell _ _ _ _ (fun e=>hj.2 (by rw[show j=k from e]))⟩
 refine⟨n,col,mb,D,ea,c,DW,⟨s.wt.keep kp (by omega) fun _=>Iff.rfl,s.sa.keep kp (by omega) fun _ _ _ _=>Iff.rfl,fun j x hj=>?_,Cx.other s.cx (by simp[World.setCell]) fun j _ hn=>Below.heap_setCell _ _ _ _ (fun e=>hn (show col j≠0 by rw[show j=k from e];omega)),s.wd,s.cd,s.md,s.dd⟩,q⟩
 have hjl:=(List.getElem?_eq_some_iff.1 hj).1
 exact (s.ch j x hj).keep kp (by omega) fun _=>Iff.rfl
theorem SS.sub(s:SS w S B st h es cs wm du p T)(hs:∀b l,h' b=some l→h b=some l)(h1:WDom st h')(h2:∀(i:Nat) x,cs[i]? =some x→Sl.Dom x.st h')(h3:∀g b,wm g=some b→∃l,h' b=some l)(h4:∀b,du=some b→∃l,h' b=some l):SS w S B st h' es cs wm du p T:=by
 obtain⟨n,col,mb,D,ea,c,DW,s,q⟩:=s
 exact⟨n,col,mb,D,ea,c,DW,s.sub hs h1 h2 h3 h4,q⟩
theorem SS.dom(s:SS w S B st h es cs wm du p T)(hd:∀b l,h b=some l→∃l',h' b=some l'):WDom st h'∧(∀(i:Nat) x,cs[i]? =some x→Sl.Dom x.st h')∧(∀g b,wm g=some b→∃l,h' b=some l)∧∀b,du=some b→∃l,h' b=some l:=by
 obtain⟨n,col,mb,D,ea,c,DW,s,q⟩:=s
 refine⟨fun g t b e=>?_,fun i x hi b hb=>?_,fun g b e=>?_,fun b e=>?_⟩
 ·obtain⟨l,e⟩:=s.wd g t b e
  exact hd b l e
 ·obtain⟨l,e⟩:=s.cd i x hi b hb
  exact hd b l e
 ·obtain⟨l,e⟩:=s.md g b e
  exact hd b l e
 ·obtain⟨l,e⟩:=s.dd b e
  exact hd b l e
theorem SS.watch{A:Nat→Prop}(n:cs.length≤900){col:Nat→Nat}{mb:Nat}{D:DataW Unit}{ea:Option Addr}{c:Nat}{DW:DataW Unit}(s:SM col w S B mb st D h ea c es p.co p.cc cs p.MW DW wm du)(q:∀k,T k→1000≤col k)
 (hA:∀k,A k→w.heap.size≤k) (x:WW (fun k=>Xc col 1 k∨A k) B w' st' h') (kp:Kp (Xc col 1) w w') (hd:∀b l,h b=some l→∃l',h' b=some l'):SS w' S B st' h' es cs wm du p (fun k=>T k∨A k):=by
 classical
 have c0:∀k,A k→col k=0:=fun k hk=>by
  cases e:col k with
  |zero=>rfl
  |succ m=>exact absurd (s.cx.base k (show col k≠0 by rw[e];omega)) (by have:=hA k hk;omega)
 obtain⟨col1,hcol⟩:∃col1:Nat→Nat,∀k,col1 k=if A k then 1000 else col k:=⟨fun k=>if A k then 1000 else col k,fun _=>rfl⟩
 have hY:∀k,(Xc col 1 k∨A k)↔Xc col1 1 k:=fun k=>by
  unfold Xc
  rw[hcol]
  by_cases a:A k
  ·rw[if_pos a]
   exact⟨fun _=>⟨by omega,by omega⟩,fun _=>.inr a⟩
  ·rw[if_neg a]
   exact⟨fun z=>z.resolve_right a,fun z=>.inl z⟩
 obtain⟨mb',D',a,cx,wd,hO⟩:=WtA.of hY x
 have hq:∀d,d≠1→d≠0→d<1000→∀k,rcl col1 1 (fun k=>k=B∨k=mb') k=d↔col k=d:=fun d h1 h2 h3 k=>by
  refine (rcl_oth h1 h2 hO k).trans ?_
  rw[hcol]
  by_cases a:A k
  ·rw[if_pos a,c0 k a];omega
  ·rw[if_neg a]
 have sd:=SS.dom ⟨n,col,mb,D,ea,c,DW,s,fun _ (z:False)=>z.elim⟩ hd
 have hil:∀(i:Nat) y,cs[i]? =some y→i<900:=fun i y hi=>Nat.lt_of_lt_of_le (List.getElem?_eq_some_iff.1 hi).1 n
 have sa:StA (rcl col1 1 (fun k=>k=B∨k=mb')) w' S B ea c es p.co p.cc cs p.MW DW wm du:=by
  have z:=s.sa.keep (col':=col) kp (by omega) fun _ _ _ _=>Iff.rfl
  exact⟨z.hp,fun k=>(hq 2 (by omega) (by omega) (by omega) k).trans (z.c2 k),z.ev,fun k=>(hq 3 (by omega) (by omega) (by omega) k).trans (z.c3 k),z.cr,fun k=>(hq 4 (by omega) (by omega) (by omega) k).trans (z.c4 k),z.mw,fun k=>(hq 5 (by omega) (by omega) (by omega) k).trans (z.c5 k),z.wi⟩
 refine⟨n,_,mb',D',ea,c,DW,⟨a,sa,fun i y hi=>(s.ch i y hi).keep kp (by omega) (hq _ (by omega) (by omega) (by have:=hil i y hi;omega)),cx,wd,sd.2.1,sd.2.2.1,sd.2.2.2⟩,fun k hk=>?_⟩
 have k1:1000≤col1 k:=by
  rw[hcol]
  by_cases a:A k
  ·rw[if_pos a];omega
  ·rw[if_neg a]
   rcases hk with z|z
   ·exact q k z
   ·exact absurd z a
 have:=(rcl_oth (col:=col1) (c:=1) (d:=col1 k) (by omega) (by omega) hO k).2 rfl
 omega
end
end Sp
namespace Sl
open Ck
open Ba (KF Bd Nw)
def Gv(h:Nat→Option (List Int))(c:Option Nat)(l:List Int):Prop:=match c with
 |none=>l=[]
 |some b=>h b=some l
theorem copy_gv{Y:Nat→Prop}{S:Nat}{w:World}{st:Sst}{h:Nat→Option (List Int)}{vg vb:Value}(s:SX Y S w st h vg vb){c:Option Nat}{l:List Int}(e:Gv h c l):
 Calls Tryz.prog 122 #[clv c] w fun r w'=>∃A,r=.returned (ptr A)∧h A=none∧SX Y S w' st (upd h A l) vg vb∧Kp (Xs Y S vg vb) w w':=by
 cases c with
 |some b=>exact copy_sx s e
 |none=>
  obtain rfl:l=[]:=e
  refine (copy_nil w).mono ?_
  rintro r w' ⟨rfl,rfl⟩
  have b1:=below_alloc w (.cells #[.slice none 0 0,.bool false] 135)
  have hc:=s.cx.fresh (new_rep w) (Nat.le_refl _) (fun _ q=>nomatch q) b1 (by unfold Canon;decide) (by unfold Valid;simp)
  have hA:=cx_new s.cx hc
  have k:=Kp.of b1 s.cx.base
  exact⟨w.heap.size,rfl,hA,s.clk (by rw[←hx_upd];exact hc _) k fun b' l' e'=>⟨l',Ext.upd hA b' l' e'⟩,k⟩
theorem recv_2{Y:Nat→Prop}{S:Nat}{w:World}{st:Sst}{h:Nat→Option (List Int)}(s:SW Y S w st h){c:Option Nat}{l:List Int}(hc:Gv h c l)(x:Nat)(gl:List Nat)(hg:st.gv=x::gl)(hn:st.rc≤100000)(hbl:st.bk.length≤100000):
 Calls Tryz.prog 91 #[.pointer (some ⟨S,0,none⟩),clv c] w fun r w'=>r=.returned (.tuple #[ptr x,.int .i64 0])∧∃A h',((h'=h∧st.sz=0)∨(h A=none∧h'=upd h A l∧0<st.sz))∧SW Y S w' (recvS st A) h'∧Kp Y w w':=by
 obtain⟨vg,vb,s⟩:=s
 have yl:=s.ylt
 have hlt:=s.lt
 have SR:=hide (source_any s false)
 have TK:=hide (fun u (b:Below w.heap.size w u)=>takeG_any (s.below b) hg)
 have K1:Hid (∀u,Below w.heap.size w u→Kp Y w u):=fun u b=>Kp.of b yl
 have EC:=hide (fun st' vg' vb' u (s':SX Y S u st' h vg' vb')=>copy_gv s' hc)
 obtain⟨pc,hpc⟩:∃pc,clv c=.pointer pc:=by cases c<;>exact⟨_,rfl⟩
 rw[hpc] at EC ⊢
 have HG:=hide hg
 unfold srcP at SR
 unfold ptr at TK ⊢
 clear s hc hg yl
 by_cases hz:0<st.sz
 ·have d:decide (0<(st.sz:Int))=true:=decide_eq_true (by omega)
  have hz':0<(st.sz:Int):=by omega
  go_enter Tryz.func91,Tryz.ntmps91
  go_wp2_with fail
  refine SR.out.mono ?_
  rintro r w1 ⟨rfl,b1⟩
  have B1:=hide b1
  have TK1:=hide (TK.out w1 b1)
  clear b1
  go_wp2_with fail
  refine TK1.out.mono ?_
  rintro r w2 ⟨rfl,vg2,s2,k2⟩
  have b3:=Ba.bdrew1 w2
  have S3:=hide (s2.below b3)
  have K3:=hide (((K1.out w1 B1.out).trans k2).trans (Kp.of b3 s2.ylt))
  have y0:w2.cell? ⟨S,0,none⟩=some (.int .i64 (st.sz:Int)):=s2.cells.1
  clear s2 k2 b3 TK1
  go_wp2_with fail
  go_region_held3 (fun _=>True) (trivial)
   (first
     |(go_at_call 122;refine (EC.out _ _ _ _ S3.out).mono ?_;rintro r w4 ⟨A,rfl,hA,s4,k4⟩;have S4:=hide s4;have H4:=hide hA;have K4:=hide (K3.out.trans (Kp.mono k4 fun k q=>.inl q));clear s4 k4 hA;unfold ptr)
     |(go_at_call 127;refine (add_any S 4 194 (scs {st with gv:=gl} vg2 vb) vb A st.bk w4 S4.out.hp rfl S4.out.bk S4.out.sb (by omega)).mono ?_;rintro r w5 ⟨rfl,v5,hS5,ho5,hat5,kf5⟩))
  obtain⟨s5,k5⟩:=S4.out.addB (upd_same _ _ _) hS5 ho5 hat5 kf5
  have y1:w5.cell? ⟨S,2,none⟩=some (.int .i64 (st.rc:Int)):=s5.cells.2.2.1
  have f1:w5.frozen? ⟨S,2,none⟩=false:=frozen_of s5.hp 2
  have S5:=hide s5
  have K5:=hide (K4.out.trans k5)
  clear s5 k5 hS5 ho5 hat5 kf5 S4 K4 S3 K3
  go_wp2_with fail
  go_ret2
  have e:recvS st A={st with rc:=st.rc+1,gv:=gl,bk:=st.bk++[A]}:=by unfold recvS;rw[HG.out,if_pos hz];rfl
  obtain⟨s6,k6⟩:=S5.out.cnt (st':=recvS st A) 2 (.int .i64 ((st.rc:Int)+1)) (by rw[e];rfl) (by rw[e]) (by rw[e]) (by rw[e];exact S5.out.dom)
  first|exact⟨rfl,A,_,.inr ⟨H4.out,rfl,hz⟩,⟨_,_,s6⟩,K5.out.trans k6⟩|exact⟨rfl,A,_,.inr ⟨H4.out,rfl⟩,⟨_,_,s6⟩,K5.out.trans k6⟩
 ·have d:decide (0<(st.sz:Int))=false:=decide_eq_false (by omega)
  have hz0:(st.sz:Int)=0:=by omega
  go_enter Tryz.func91,Tryz.ntmps91
  go_wp2_with fail
  refine SR.out.mono ?_
  rintro r w1 ⟨rfl,b1⟩
  have B1:=hide b1
  have TK1:=hide (TK.out w1 b1)
  clear b1
  go_wp2_with fail
  refine TK1.out.mono ?_
  rintro r w2 ⟨rfl,vg2,s2,k2⟩
  have y0:w2.cell? ⟨S,0,none⟩=some (.int .i64 (st.sz:Int)):=s2.cells.1
  have y1:w2.cell? ⟨S,2,none⟩=some (.int .i64 (st.rc:Int)):=s2.cells.2.2.1
  have f1:w2.frozen? ⟨S,2,none⟩=false:=frozen_of s2.hp 2
  have S5:=hide s2
  have K5:=hide ((K1.out w1 B1.out).trans k2)
  rw[hz0] at y0
  clear s2 k2 TK1
  go_wp2_with fail
  go_ret2
  have e:recvS st 0={st with rc:=st.rc+1,gv:=gl}:=by unfold recvS;rw[HG.out,if_neg hz];rfl
  obtain⟨s6,k6⟩:=S5.out.cnt (st':=recvS st 0) 2 (.int .i64 ((st.rc:Int)+1)) (by rw[e];rfl) (by rw[e]) (by rw[e]) (by rw[e];exact S5.out.dom)
  exact⟨rfl,0,h,.inl ⟨rfl,by omega⟩,⟨_,_,s6⟩,K5.out.trans k6⟩
theorem peek_2{Y:Nat→Prop}{S:Nat}{w:World}{st:Sst}{h:Nat→Option (List Int)}(s:SW Y S w st h)(b:Bool):
 Calls Tryz.prog 89 #[.pointer (some ⟨S,0,none⟩),.bool b] w fun r w'=>∃p h',r=.returned (.tuple #[clv p,.bool (pkS st b).isSome])∧((p=none∧h'=h∧pkS st b=none)∨∃A x l,p=some A∧pkS st b=some x∧h x=some l∧h A=none∧h'=upd h A l)∧SW Y S w' st h'∧Kp Y w w':=by
 obtain⟨vg,vb,s⟩:=s
 have SR:=hide (source_any s b)
 have F1:=hide (fun u (q:Below w.heap.size w u)=>firstS_any (s.below q) b)
 have HS:=hide s
 have hpp:∃pa,srcP S st b=.pointer pa:=by
  unfold srcP
  split
  ·split<;>exact⟨_,rfl⟩
  ·exact⟨_,rfl⟩
 obtain⟨pa,hpa⟩:=hpp
 rw[hpa] at SR F1
 clear s hpa
 cases hp:pkS st b with
 |none=>
  rw[hp] at F1
  unfold clv at F1
  go_enter Tryz.func89,Tryz.ntmps89
  go_wp2_with fail
  refine SR.out.mono ?_
  rintro r w1 ⟨rfl,b1⟩
  have B1:=hide b1
  have F2:=hide (F1.out w1 b1)
  clear b1
  go_wp2_with fail
  refine F2.out.mono ?_
  rintro r w2 ⟨rfl,e2⟩
  obtain rfl:=e2.symm
  go_wp2_with fail
  go_ret2
  exact⟨none,h,rfl,(by first|exact .inl ⟨rfl,rfl,rfl⟩|exact .inl ⟨rfl,rfl,trivial⟩|simp),⟨_,_,HS.out.below B1.out⟩,Kp.of B1.out HS.out.ylt⟩
 |some x=>
  obtain⟨lx,hlx⟩:=HS.out.pk hp
  have HX:=hide hlx
  rw[hp] at F1
  unfold clv ptr at F1
  clear hlx
  go_enter Tryz.func89,Tryz.ntmps89
  go_wp2_with fail
  refine SR.out.mono ?_
  rintro r w1 ⟨rfl,b1⟩
  have B1:=hide b1
  have F2:=hide (F1.out w1 b1)
  have CP:=hide (copy_sx (HS.out.below b1) HX.out)
  unfold ptr at CP
  clear b1
  go_wp2_with fail
  refine F2.out.mono ?_
  rintro r w2 ⟨rfl,e2⟩
  obtain rfl:=e2.symm
  go_wp2_with fail
  refine CP.out.mono ?_
  rintro r w3 ⟨A,rfl,hA,s3,k3⟩
  have S3:=hide s3
  have HA:=hide hA
  have K3:=hide ((Kp.of B1.out HS.out.ylt).trans (Kp.mono k3 fun k q=>.inl q))
  clear s3 hA k3
  go_wp2_with fail
  go_ret2
  exact⟨some A,_,rfl,.inr ⟨A,x,lx,rfl,rfl,HX.out,HA.out,rfl⟩,⟨_,_,S3.out⟩,K3.out⟩
theorem close_2{Y:Nat→Prop}{S:Nat}{w:World}{st:Sst}{h:Nat→Option (List Int)}(s:SW Y S w st h)(c:Nat)(l:List Int)(hc:h c=some l)(hcl:st.cl=none):
 Calls Tryz.prog 93 #[.pointer (some ⟨S,0,none⟩),.pointer (some ⟨c,0,none⟩)] w fun r w'=>r=.returned (.int .i64 0)∧∃A,h A=none∧SW Y S w' {st with cl:=some A} (upd h A l)∧Kp Y w w':=by
 obtain⟨vg,vb,s⟩:=s
 obtain⟨-,-,-,-,-,y5⟩:=s.cells
 rw[hcl] at y5
 unfold clv at y5
 have CP:=hide (copy_sx s hc)
 unfold ptr at CP
 clear s hc
 go_enter Tryz.func93,Tryz.ntmps93
 go_wp2_with fail
 refine CP.out.mono ?_
 rintro r w1 ⟨A,rfl,hA,s1,k1⟩
 have y5:w1.cell? ⟨S,5,none⟩=some (.pointer none):=by have:=s1.cells.2.2.2.2.2;rw[hcl] at this;exact this
 have f5:w1.frozen? ⟨S,5,none⟩=false:=frozen_of s1.hp 5
 have S1:=hide s1
 have HA:=hide hA
 have K1:=hide (Kp.mono (Y:=Y) k1 fun k q=>.inl q)
 clear s1 hA k1
 go_wp2_with fail
 go_ret
 obtain⟨s6,k6⟩:=S1.out.cnt (st':={st with cl:=some A}) 5 (.pointer (some ⟨A,0,none⟩)) rfl rfl rfl (fun b hb=>by
  rcases hb with q|q|q
  ·exact S1.out.dom b (.inl q)
  ·exact S1.out.dom b (.inr (.inl q))
  ·cases q;exact⟨_,upd_same _ _ _⟩)
 exact⟨rfl,A,HA.out,⟨_,_,s6⟩,K1.out.trans k6⟩
theorem closed_2{Y:Nat→Prop}{S:Nat}{w:World}{st:Sst}{h:Nat→Option (List Int)}(s:SW Y S w st h):
 Calls Tryz.prog 94 #[.pointer (some ⟨S,0,none⟩)] w fun r w'=>∃p h',r=.returned (.tuple #[clv p,.bool st.cl.isSome])∧((p=none∧h'=h∧st.cl=none)∨∃A x l,p=some A∧st.cl=some x∧h x=some l∧h A=none∧h'=upd h A l)∧SW Y S w' st h'∧Kp Y w w':=by
 obtain⟨vg,vb,s⟩:=s
 obtain⟨-,-,-,-,-,y5⟩:=s.cells
 have HS:=hide s
 clear s
 cases hcl:st.cl with
 |none=>
  rw[hcl] at y5
  unfold clv at y5
  go_enter Tryz.func94,Tryz.ntmps94
  go_wp2_with fail
  go_ret2
  first|exact⟨none,h,rfl,(by first|exact .inl ⟨rfl,rfl,rfl⟩|exact .inl ⟨rfl,rfl,trivial⟩|simp),⟨_,_,HS.out⟩,Kp.refl _ _⟩|exact⟨none,rfl,h,(by first|exact .inl ⟨rfl,rfl,rfl⟩|exact .inl ⟨rfl,rfl,trivial⟩|simp),⟨_,_,HS.out⟩,Kp.refl _ _⟩|exact⟨none,rfl,h,by simp,⟨_,_,HS.out⟩,Kp.refl _ _⟩
 |some x=>
  obtain⟨lx,hlx⟩:=HS.out.dom x (.inr (.inr hcl))
  have HX:=hide hlx
  rw[hcl] at y5
  unfold clv ptr at y5
  have CP:=hide (copy_sx HS.out HX.out)
  unfold ptr at CP
  clear hlx
  go_enter Tryz.func94,Tryz.ntmps94
  go_wp2_with fail
  refine CP.out.mono ?_
  rintro r w3 ⟨A,rfl,hA,s3,k3⟩
  have S3:=hide s3
  have HA:=hide hA
  have K3:=hide (Kp.mono (Y:=Y) k3 fun k q=>.inl q)
  clear s3 hA k3
  go_wp2_with fail
  go_ret2
  exact⟨some A,_,rfl,.inr ⟨A,x,lx,rfl,rfl,HX.out,HA.out,rfl⟩,⟨_,_,S3.out⟩,K3.out⟩
theorem send_2{Y:Nat→Prop}{S:Nat}{w:World}{st:Sst}{h:Nat→Option (List Int)}(s:SW Y S w st h){c:Option Nat}{l:List Int}(hc:Gv h c l)(hE:sendE st=0)(hn:st.sn≤100000)(hr:st.rc≤st.sn)(hgl:st.gv.length≤100000):
 Calls Tryz.prog 90 #[.pointer (some ⟨S,0,none⟩),clv c] w fun r w'=>r=.returned (.tuple #[clv (fetS st),.int .i64 0])∧∃A,h A=none∧SW Y S w' (sendS st A) (upd h A l)∧Kp Y w w':=by
 obtain⟨vg,vb,s⟩:=s
 obtain⟨y0,y1,y2,-,-,y5⟩:=s.cells
 have hlt:=s.lt
 have hcl:st.cl=none:=by
  unfold sendE at hE
  cases e:st.cl with
  |none=>rfl
  |some b=>rw[e] at hE;simp at hE
 have hf:st.sn<st.rc+max 1 st.sz:=by
  unfold sendE at hE
  rw[hcl] at hE
  simp only[Option.isSome_none,Bool.false_eq_true,if_false] at hE
  split at hE
  ·cases hE
  ·omega
 rw[hcl] at y5
 unfold clv at y5
 have b1:=Ba.bdrew1 w
 have yl:=s.ylt
 have s1:=s.below b1
 have SR:=hide (source_any s1 true)
 have TK:=hide (fun u (b:Below w.drew.heap.size w.drew u)=>took_any (s1.below b))
 have K1:=hide (Kp.of (X:=Y) b1 yl)
 have K1':Hid (∀u,Below w.drew.heap.size w.drew u→Kp Y w.drew u):=fun u b=>Kp.of b s1.ylt
 have EC:=hide (fun st' vg' vb' u (s':SX Y S u st' h vg' vb')=>copy_gv s' hc)
 obtain⟨pc,hpc⟩:∃pc,clv c=.pointer pc:=by cases c<;>exact⟨_,rfl⟩
 rw[hpc] at EC ⊢
 have HCL:=hide hcl
 clear s s1 b1 hE hc hcl
 obtain⟨P,hP⟩:∃P,srcP S st true=P:=⟨_,rfl⟩
 rw[hP] at SR TK
 have hP2:∃pa,P=.pointer pa:=by
  rw[←hP]
  unfold srcP
  rw[if_pos rfl]
  split<;>exact⟨_,rfl⟩
 obtain⟨pa,rfl⟩:=hP2
 clear hP
 have hF2:∃pf,clv (fetS st)=.pointer pf:=by
  cases fetS st with
  |none=>exact⟨_,rfl⟩
  |some b=>exact⟨_,rfl⟩
 obtain⟨pf,hpf⟩:=hF2
 rw[hpf] at TK ⊢
 have tsn:(tookS st).sn=st.sn:=rfl
 have tgv:(tookS st).gv=st.gv:=rfl
 suffices H:∀(Q:Bool),Q=decide ((1:Int)<(st.sz:Int))→Calls Tryz.prog 90 #[.pointer (some ⟨S,0,none⟩),.pointer pc] w fun r w'=>r=.returned (.tuple #[.pointer pf,.int .i64 0])∧∃A,h A=none∧SW Y S w' (sendS st A) (upd h A l)∧Kp Y w w' from H _ rfl
 intro Q hQ
 have key:∀(G:Prop),((¬(1:Int)<(st.sz:Int))→decide ((1:Int)≤(st.sn:Int) - (st.rc:Int))=false→G)→(((1:Int)<(st.sz:Int))→decide ((st.sz:Int)≤(st.sn:Int) - (st.rc:Int))=false→G)→G:=by
  intro G g1 g2
  by_cases hz:(1:Int)<(st.sz:Int)
  ·exact g2 hz (decide_eq_false (by omega))
  ·exact g1 hz (decide_eq_false (by omega))
 clear hQ
 refine key _ (fun hz d=>?_) (fun hz d=>?_)
 all_goals
  clear key
  go_enter Tryz.func90,Tryz.ntmps90
  go_wp2_with fail
  go_region
  go_wp2_with fail
  refine SR.out.mono ?_
  rintro r w1 ⟨rfl,b1⟩
  have B1:=hide b1
  have TK1:=hide (TK.out w1 b1)
  clear b1
  go_wp2_with fail
  refine TK1.out.mono ?_
  rintro r w2 ⟨⟨bb,rfl⟩,vb2,s2,k2⟩
  have b3:=Ba.bdrew1 w2
  have S3:=hide (s2.below b3)
  have K3:=hide (((K1.out.trans (K1'.out w1 B1.out)).trans k2).trans (Kp.of b3 s2.ylt))
  clear s2 k2 b3 TK1
  go_wp2_with fail
  go_region_held3 (fun _=>True) (trivial)
   (first
     |(go_at_call 122;refine (EC.out _ _ _ _ S3.out).mono ?_;rintro r w4 ⟨A,rfl,hA,s4,k4⟩;have S4:=hide s4;have H4:=hide hA;have K4:=hide (K3.out.trans (Kp.mono k4 fun k q=>.inl q));clear s4 k4 hA;unfold ptr)
     |(go_at_call 127;refine (add_any S 3 194 (scs (tookS st) vg vb2) vg A st.gv w4 S4.out.hp rfl S4.out.gv S4.out.sg (by omega)).mono ?_;rintro r w5 ⟨rfl,v5,hS5,ho5,hat5,kf5⟩))
  obtain⟨s5,k5⟩:=S4.out.addG (upd_same _ _ _) hS5 ho5 hat5 kf5
  have y1:w5.cell? ⟨S,1,none⟩=some (.int .i64 (st.sn:Int)):=s5.cells.2.1
  have f1:w5.frozen? ⟨S,1,none⟩=false:=frozen_of s5.hp 1
  have S5:=hide s5
  have K5:=hide (K4.out.trans k5)
  clear s5 k5 hS5 ho5 hat5 kf5 S4 K4 S3 K3
  go_wp2_with fail
  go_ret2
  obtain⟨s6,k6⟩:=S5.out.cnt (st':=sendS st A) 1 (.int .i64 ((st.sn:Int)+1)) rfl rfl rfl S5.out.dom
  exact⟨rfl,A,H4.out,⟨_,_,s6⟩,K5.out.trans k6⟩
def Blk(s:Sst)(b:Nat):Prop:=b∈s.gv∨b∈s.bk∨s.cl=some b
structure Cn(k:Nat)(s:Sst):Prop where
 cnt:s.sn=s.rc+s.gv.length
 le:s.sn≤k
 bk:s.bk.length≤k
structure Cs(st st':Sst)(h h':Nat→Option (List Int))(l:List Int)(q:Option Nat):Prop where
 sz:st'.sz=st.sz
 cn:∀k,Cn k st→Cn (k+1) st'
 ext:Ext h h'
 blk:∀b,Blk st' b→Blk st b∨(h b=none∧h' b=some l)
 res:∀b,q=some b→Blk st b∨(h b=none∧∃x m,Blk st x∧h x=some m∧h' b=some m)
section
variable {st:Sst}{h:Nat→Option (List Int)}{l:List Int}{k A:Nat}
theorem Cn.up{k m:Nat}(c:Cn k st)(hk:k≤m):Cn m st:=⟨c.cnt,Nat.le_trans c.le hk,Nat.le_trans c.bk hk⟩
theorem Cs.same(st:Sst)(h:Nat→Option (List Int))(l:List Int):Cs st st h h l none:=⟨rfl,fun _ c=>c.up (Nat.le_succ _),Ext.refl h,fun _ q=>.inl q,fun _ q=>nomatch q⟩
theorem fet_blk{b:Nat}(q:fetS st=some b):b∈st.bk:=by
 unfold fetS at q
 split at q
 ·cases q
 ·exact head_mem q
theorem cs_send(hA:h A=none):Cs st (sendS st A) h (upd h A l) l (fetS st):=by
 refine⟨rfl,fun k c=>⟨?_,?_,?_⟩,Ext.upd hA,fun b q=>?_,fun b q=>.inl (.inr (.inl (fet_blk q)))⟩
 ·have:=c.cnt
  show st.sn+1=st.rc+(st.gv++[A]).length
  simp;omega
 ·exact Nat.succ_le_succ c.le
 ·have:=c.bk
  show (if st.sn<st.sz then st.bk else st.bk.tail).length≤k+1
  split
  ·omega
  ·rw[List.length_tail];omega
 ·rcases q with q|q|q
  ·rcases List.mem_append.1 q with q|q
   ·exact .inl (.inl q)
   ·rw[List.mem_singleton] at q
    rw[q]
    exact .inr ⟨hA,upd_same _ _ _⟩
  ·have q:b∈(if st.sn<st.sz then st.bk else st.bk.tail):=q
   split at q
   ·exact .inl (.inr (.inl q))
   ·exact .inl (.inr (.inl (List.mem_of_mem_tail q)))
  ·exact .inl (.inr (.inr q))
theorem cs_recv{x:Nat}{gl:List Nat}{h':Nat→Option (List Int)}(hg:st.gv=x::gl)(hA:(h'=h∧st.sz=0)∨(h A=none∧h'=upd h A l∧0<st.sz)):Cs st (recvS st A) h h' l (some x):=by
 have ht:st.gv.tail=gl:=by rw[hg];rfl
 refine⟨rfl,fun k c=>⟨?_,Nat.le_trans c.le (Nat.le_succ _),?_⟩,?_,fun b q=>?_,fun b q=>?_⟩
 ·have:=c.cnt
  show st.sn=st.rc+1+st.gv.tail.length
  rw[ht]
  rw[hg] at this
  simp at this;omega
 ·have:=c.bk
  show (if 0<st.sz then st.bk++[A] else st.bk).length≤k+1
  split
  ·simp;omega
  ·omega
 ·rcases hA with q|q
  ·rw[q.1];exact Ext.refl h
  ·rw[q.2.1];exact Ext.upd q.1
 ·rcases q with q|q|q
  ·exact .inl (.inl (List.mem_of_mem_tail q))
  ·have q:b∈(if 0<st.sz then st.bk++[A] else st.bk):=q
   rcases hA with z|z
   ·rw[if_neg (by omega)] at q
    exact .inl (.inr (.inl q))
   ·rw[if_pos z.2.2] at q
    rcases List.mem_append.1 q with q|q
    ·exact .inl (.inr (.inl q))
    ·rw[List.mem_singleton] at q
     rw[q,z.2.1]
     exact .inr ⟨z.1,upd_same _ _ _⟩
  ·exact .inl (.inr (.inr q))
 ·cases q
  exact .inl (.inl (by rw[hg];exact List.mem_cons_self ..))
theorem cs_look{p:Option Nat}{h':Nat→Option (List Int)}{z:Option Nat}(hz:∀x,z=some x→Blk st x)(d:(p=none∧h'=h∧z=none)∨∃A x m,p=some A∧z=some x∧h x=some m∧h A=none∧h'=upd h A m):Cs st st h h' l p:=by
 rcases d with⟨rfl,rfl,-⟩|⟨A,x,m,rfl,hx,hm,hA,rfl⟩
 ·exact Cs.same st _ l
 ·exact⟨rfl,fun _ c=>c.up (Nat.le_succ _),Ext.upd hA,fun _ q=>.inl q,fun b q=>by cases q;exact .inr ⟨hA,x,m,hz x hx,hm,upd_same _ _ _⟩⟩
variable {Y:Nat→Prop}{S:Nat}{w:World}{c:Option Nat}
theorem send_c(s:SW Y S w st h)(hc:Gv h c l)(cn:Cn k st)(hk:k≤10000):Calls Tryz.prog 90 #[.pointer (some ⟨S,0,none⟩),clv c] w fun r w'=>∃q E st' h',r=.returned (.tuple #[clv q,.int .i64 E])∧Cs st st' h h' l q∧SW Y S w' st' h'∧Kp Y w w':=by
 have c1:=cn.cnt
 have c2:=cn.le
 by_cases hE:sendE st=0
 ·refine (send_2 s hc hE (by omega) (by omega) (by omega)).mono ?_
  rintro r w' ⟨rfl,A,hA,s',k'⟩
  exact⟨_,_,_,_,rfl,cs_send hA,s',k'⟩
 ·obtain⟨vg,vb,s⟩:=s
  refine (send_err s (clv c) hE (by omega) (by omega)).mono ?_
  rintro r w' ⟨rfl,b⟩
  exact⟨none,_,_,_,rfl,Cs.same st h l,⟨_,_,s.below b⟩,Kp.of b s.ylt⟩
theorem recv_c(s:SW Y S w st h)(hc:Gv h c l)(cn:Cn k st)(hk:k≤10000):Calls Tryz.prog 91 #[.pointer (some ⟨S,0,none⟩),clv c] w fun r w'=>∃q E st' h',r=.returned (.tuple #[clv q,.int .i64 E])∧Cs st st' h h' l q∧SW Y S w' st' h'∧Kp Y w w':=by
 have c1:=cn.cnt
 have c2:=cn.le
 have c3:=cn.bk
 cases hg:st.gv with
 |nil=>
  obtain⟨vg,vb,s⟩:=s
  refine (recv_none s (clv c) hg).mono ?_
  rintro r w' ⟨rfl,b⟩
  exact⟨none,_,_,_,rfl,Cs.same st h l,⟨_,_,s.below b⟩,Kp.of b s.ylt⟩
 |cons x gl=>
  refine (recv_2 s hc x gl hg (by omega) (by omega)).mono ?_
  rintro r w' ⟨rfl,A,h',hA,s',k'⟩
  exact⟨some x,_,_,_,rfl,cs_recv hg hA,s',k'⟩
theorem peek_c(s:SW Y S w st h)(b:Bool)(l:List Int):Calls Tryz.prog 89 #[.pointer (some ⟨S,0,none⟩),.bool b] w fun r w'=>∃q E st' h',r=.returned (.tuple #[clv q,.bool E])∧Cs st st' h h' l q∧SW Y S w' st' h'∧Kp Y w w':=by
 refine (peek_2 s b).mono ?_
 rintro r w' ⟨p,h',rfl,d,s',k'⟩
 refine⟨p,_,st,h',rfl,cs_look (fun x q=>?_) d,s',k'⟩
 unfold pkS at q
 split at q
 ·exact .inr (.inl (fet_blk q))
 ·exact .inl (head_mem q)
theorem closed_c(s:SW Y S w st h)(l:List Int):Calls Tryz.prog 94 #[.pointer (some ⟨S,0,none⟩)] w fun r w'=>∃q E st' h',r=.returned (.tuple #[clv q,.bool E])∧Cs st st' h h' l q∧SW Y S w' st' h'∧Kp Y w w':=by
 refine (closed_2 s).mono ?_
 rintro r w' ⟨p,h',rfl,d,s',k'⟩
 exact⟨p,_,st,h',rfl,cs_look (fun x q=>.inr (.inr q)) d,s',k'⟩
theorem close_c(s:SW Y S w st h){a:Nat}(hc:h a=some l):Calls Tryz.prog 93 #[.pointer (some ⟨S,0,none⟩),.pointer (some ⟨a,0,none⟩)] w fun r w'=>∃E st' h',r=.returned (.int .i64 E)∧Cs st st' h h' l none∧SW Y S w' st' h'∧Kp Y w w':=by
 cases hcl:st.cl with
 |some b=>
  obtain⟨vg,vb,s⟩:=s
  refine (close_err s _ b hcl).mono ?_
  rintro r w' ⟨rfl,rfl⟩
  exact⟨_,_,_,rfl,Cs.same st h l,⟨_,_,s⟩,Kp.refl _ _⟩
 |none=>
  refine (close_2 s a l hc hcl).mono ?_
  rintro r w' ⟨rfl,A,hA,s',k'⟩
  refine⟨_,{st with cl:=some A},_,rfl,⟨rfl,fun k c=>⟨c.cnt,Nat.le_trans c.le (Nat.le_succ _),Nat.le_trans c.bk (Nat.le_succ _)⟩,Ext.upd hA,fun b q=>?_,fun _ q=>nomatch q⟩,s',k'⟩
  rcases q with q|q|q
  ·exact .inl (.inl q)
  ·exact .inl (.inr (.inl q))
  ·cases q
   exact .inr ⟨hA,upd_same _ _ _⟩
end
end Sl
namespace Sp
open Ck Wa
open En (Ev)
section
variable {w w':World}{S B:Nat}{st st':Wst}{h h' h1:Nat→Option (List Int)}{es:List Ev}{cs:List Chn}{wm:Wm}{du:Option Nat}{p:Pl}{T T':Nat→Prop}
theorem SM.fxc{col:Nat→Nat}{mb:Nat}{D:DataW Unit}{ea:Option Addr}{c:Nat}{DW:DataW Unit}(s:SM col w S B mb st D h ea c es p.co p.cc cs p.MW DW wm du){k:Nat}(hk:Fx S p k):2≤col k∧col k≤5:=by
 rcases hk with q|⟨a,q,q2⟩|q
 ·have:=(s.sa.c2 k).2 q;omega
 ·have:(Value.slice p.co cs.length p.cc).ownBlock=some k:=by rw[q,q2];rfl
  have:=(s.sa.c4 k).2 this;omega
 ·have:=(s.sa.c5 k).2 q;omega
theorem SS.wat(s:SS w S B st h es cs wm du p T):∃Y:Nat→Prop,WW Y B w st h∧Y S∧(∀k,T k∨Fx S p k→Y k)∧∀(w':World) (st':Wst) (h':Nat→Option (List Int)) (A:Nat→Prop),WW (fun k=>Y k∨A k) B w' st' h'→(∀k,A k→w.heap.size≤k)→Kp Y w w'→(∀b l,h b=some l→∃l',h' b=some l')→SS w' S B st' h' es cs wm du p (fun k=>T k∨A k):=by
 obtain⟨n,col,mb,D,ea,c,DW,s,q⟩:=s
 have cS:col S=2:=(s.sa.c2 S).2 rfl
 refine⟨Xc col 1,s.ww,⟨by rw[cS];omega,by rw[cS];omega⟩,fun k hk=>?_,fun w' st' h' A x hA kp hd=>SS.watch n s q hA x kp hd⟩
 rcases hk with hk|hk
 ·have:=q k hk
  exact⟨by omega,by omega⟩
 ·have:=s.fxc hk
  exact⟨by omega,by omega⟩
theorem SS.slot(s:SS w S B st h es cs wm du p T){i:Nat}{x:Chn}(hi:cs[i]? =some x):∃Y:Nat→Prop,Sl.SW Y x.p w x.st h∧∀(w':World) (t:Sl.Sst) (h':Nat→Option (List Int)),Sl.SW Y x.p w' t h'→t.sz=x.st.sz→Kp Y w w'→Sl.Ext h h'→
 (∃y:Chn,y.p=x.p∧y.st=t∧SS w' S B st h' es (cs.set i y) wm du p T)∧Kp (fun k=>T k∨Fx S p k) w w':=by
 obtain⟨n,col,mb,D,ea,c,DW,s,q⟩:=s
 have il:=(List.getElem?_eq_some_iff.1 hi).1
 refine⟨Xc col (6+i),⟨_,_,s.sx hi⟩,fun w' t h' x' hz kp hd=>?_⟩
 obtain⟨col',vg,vb,s',hq⟩:=s.slot hi x' hz kp hd
 refine⟨⟨⟨x.p,t,vg,vb⟩,rfl,rfl,by rw[List.length_set];exact n,col',mb,D,ea,c,DW,s',fun k hk=>?_⟩,Wa.Kp.mono kp fun k hk=>?_⟩
 ·have:=q k hk
  have:=(hq (col k) (by omega) (by omega) k).2 rfl
  omega
 ·rcases hk with hk|hk
  ·have:=q k hk
   exact⟨by omega,by omega⟩
  ·have:=s.fxc hk
   exact⟨by omega,by omega⟩
theorem SS.chan(s:SS w S B st h es cs wm du p T){i:Nat}{x:Chn}(hi:cs[i]? =some x):∃b,p.co=some ⟨b,0,none⟩∧w.cell? ⟨S,2,none⟩=some (.slice (some ⟨b,0,none⟩) cs.length p.cc)∧w.cell? ⟨b,i*2,none⟩=some (.int .i64 (x.st.sz:Int))∧w.cell? ⟨b,i*2+1,none⟩=some (.pointer (some ⟨x.p,0,none⟩)):=by
 obtain⟨n,col,mb,D,ea,c,DW,s,q⟩:=s
 have il:=(List.getElem?_eq_some_iff.1 hi).1
 have y2:=cell_of s.sa.hp 2
 rcases s.sa.cr.2 with⟨e,h0⟩|⟨g,cap,cur,e,-,hg,-,-,-,ht⟩
 ·omega
 ·injection e with e1 e2 e3
  have key:∀j,j<2→cur[i*2+j]? =(chc cs)[i*2+j]?:=fun j hj=>by
   rw[←ht,List.getElem?_take,if_pos (by omega)]
   simp
  have at2:∀(l:List Chn) (i:Nat),l[i]? =some x→(chc l)[i*2]? =some (.int .i64 (x.st.sz:Int))∧(chc l)[i*2+1]? =some (.pointer (some ⟨x.p,0,none⟩)):=by
   intro l
   induction l with
   |nil=>intro i hi;cases hi
   |cons y l ih=>
    intro i hi
    cases i with
    |zero=>cases hi;exact⟨rfl,rfl⟩
    |succ i=>
     obtain⟨a,b⟩:=ih i (by simpa using hi)
     refine⟨?_,?_⟩
     ·rw[show (i+1)*2=i*2+2 by omega];exact a
     ·rw[show (i+1)*2+1=(i*2+1)+2 by omega];exact b
  obtain⟨a,b⟩:=at2 cs i hi
  refine⟨g,e1,by rw[e1] at y2;exact y2,?_,?_⟩
  ·rw[cell_of hg];exact (key 0 (by omega)).trans a
  ·rw[cell_of hg];exact (key 1 (by omega)).trans b
theorem SS.learn(s:SS w S B st h es cs wm du p T)(g:Int)(hg:(Lit.int .i64 g).wf=true)(t b:Nat)(l:List Int)(v:Value)(hv:∃oa,v=.pointer oa)(kn:Kn B st h g v h1)(hf:st.f g=some (t,b))(hb:h1 b=some l)(hd:∀b l,h b=some l→∃l',h1 b=some l'):
 Calls Tryz.prog 85 #[.pointer (some ⟨S,0,none⟩),.int .i64 g,v] w fun r w'=>∃R,r=.returned (.agg #[.int .u64 (epk (t:Int) (nth l t)),.slice (some ⟨R,0,none⟩) l.length l.length])∧Ck.At w' (some ⟨R,0,none⟩) l∧w.heap.size≤R∧SS w' S B st h1 es cs wm du p (Y1 T R)∧Kp (fun k=>T k∨Fx S p k) w w':=by
 obtain⟨Y,W,yS,hT,go⟩:=s.wat
 refine (learn_some W s.cellS.1 yS g v hg t b _ l hv kn hf hb rfl).mono ?_
 rintro r w' ⟨R,A,hA,rfl,at_,hR,x,kp⟩
 have s2:=go w' st (upd h1 A l) (fun k=>k=R) x (fun k e=>by rw[e];exact hR) kp fun b' l' e=>by
  obtain⟨l2,q⟩:=hd b' l' e
  exact⟨l2,Ext.upd hA b' l2 q⟩
 refine⟨R,rfl,at_,hR,?_,Wa.Kp.mono kp hT⟩
 have d:=s.dom hd
 exact s2.sub (Ext.upd hA) d.1 d.2.1 d.2.2.1 d.2.2.2
theorem SS.tell(s:SS w S B st h es cs wm du p T)(g:Int)(hg:(Lit.int .i64 g).wf=true)(t b:Nat)(l:List Int)(hf:st.f g=some (t,b))(hb:h b=some l)(hM:nth l t<(st.M:Int)):
 Calls Tryz.prog 87 #[.pointer (some ⟨S,0,none⟩),.int .i64 g] w fun r w'=>∃A l',r=.returned (.pointer (some ⟨A,0,none⟩))∧h A=none∧IsSet l l' t (nth l t+1)∧SS w' S B st (upd (upd h A l) b l') es cs wm du p T∧Kp (fun k=>T k∨Fx S p k) w w':=by
 obtain⟨Y,W,yS,hT,go⟩:=s.wat
 refine (tell_ok W s.cellS.1 g hg t b l hf hb hM).mono ?_
 rintro r w' ⟨A,l',rfl,hA,is,x,kp⟩
 have s2:=go w' st (upd (upd h A l) b l') (fun _=>False) (lessW x fun k q=>q.resolve_right id) (fun k e=>e.elim) kp fun b' l2 e=>by
  by_cases q:b'=b
  ·rw[q];exact⟨l',upd_same _ _ _⟩
  ·exact⟨l2,by rw[upd_other _ _ _ _ q];exact Ext.upd hA b' l2 e⟩
 exact⟨A,l',rfl,hA,is,s2.less fun k q=>.inl q,Wa.Kp.mono kp hT⟩
end
end Sp
namespace Sp
open Ck Wa
open En (Ev)
def ON(st:Wst)(c:Nat):Prop:=∃g t,st.f g=some (t,c)
def FV(st:Wst)(h:Nat→Option (List Int))(H:List Int→Prop)(c:Nat):Prop:=¬ON st c∧∃m,h c=some m∧H m
def Kept(cs:List Chn)(wm:Wm)(du:Option Nat)(c:Nat):Prop:=(∃(i:Nat) (x:Chn),cs[i]? =some x∧Sl.Blk x.st c)∨(∃g,wm g=some c)∨du=some c
structure SQ(w:World)(S B:Nat)(st:Wst)(h:Nat→Option (List Int))(es:List Ev)(cs:List Chn)(wm:Wm)(du:Option Nat)(p:Pl)(T:Nat→Prop)(H:List Int→Prop)(k:Nat):Prop where
 ss:SS w S B st h es cs wm du p T
 kp:∀c,Kept cs wm du c→FV st h H c
 cn:∀(i:Nat) x,cs[i]? =some x→Sl.Cn k x.st
 z:H []
 wn:wm.n≤k
def ChAt(cs:List Chn)(i P z:Nat):Prop:=∃x,cs[i]? =some x∧x.p=P∧x.st.sz=z
def NOc(st:Wst)(h h':Nat→Option (List Int)):Prop:=∀c l,¬ON st c→h c=some l→h' c=some l
section
variable {w w':World}{S B:Nat}{st st':Wst}{h h' h1:Nat→Option (List Int)}{es:List Ev}{cs:List Chn}{wm:Wm}{du:Option Nat}{p:Pl}{T T':Nat→Prop}{H H':List Int→Prop}{k i P z:Nat}
theorem FV.nx{c:Nat}(f:FV st h H c)(n:NOc st h h')(hH:∀m,H m→H' m):FV st h' H' c:=by
 obtain⟨a,m,b,d⟩:=f
 exact⟨a,m,n c m a b,hH m d⟩
theorem SQ.wd(s:SQ w S B st h es cs wm du p T H k){c:Nat}(o:ON st c):∃l,h c=some l:=by
 obtain⟨g,t,e⟩:=o
 exact (s.ss.dom (fun b l q=>⟨l,q⟩)).1 g t c e
theorem SQ.val(s:SQ w S B st h es cs wm du p T H k){c:Nat}{l:List Int}(e:h c=some l):Valid l:=by
 obtain⟨n,col,mb,D,ea,c,DW,s,q⟩:=s.ss
 exact (s.cx.get (Sl.hx_at e)).2.2
theorem SQ.can(s:SQ w S B st h es cs wm du p T H k){c:Nat}{l:List Int}(e:h c=some l):Canon l:=by
 obtain⟨n,col,mb,D,ea,c,DW,s,q⟩:=s.ss
 exact (s.cx.get (Sl.hx_at e)).2.1
theorem SQ.below(s:SQ w S B st h es cs wm du p T H k)(b:Below w.heap.size w w'):SQ w' S B st h es cs wm du p T H k:=⟨s.ss.below b,s.kp,s.cn,s.z,s.wn⟩
theorem SQ.less(s:SQ w S B st h es cs wm du p T H k)(hi:∀k,T' k→T k):SQ w S B st h es cs wm du p T' H k:=⟨s.ss.less hi,s.kp,s.cn,s.z,s.wn⟩
theorem SQ.set(s:SQ w S B st h es cs wm du p T H k){j:Nat}(hk:T j)(i:Nat)(v:Value):SQ (w.setCell ⟨j,i,none⟩ v) S B st h es cs wm du p T H k:=⟨s.ss.set hk i v,s.kp,s.cn,s.z,s.wn⟩
theorem SQ.box(s:SQ w S B st h es cs wm du p T H k)(o:Obj):SQ (w.alloc o) S B st h es cs wm du p (Y1 T w.heap.size) H k:=⟨s.ss.box o,s.kp,s.cn,s.z,s.wn⟩
theorem SQ.up{m:Nat}(s:SQ w S B st h es cs wm du p T H k)(hk:k≤m):SQ w S B st h es cs wm du p T H m:=⟨s.ss,s.kp,fun i x e=>(s.cn i x e).up hk,s.z,Nat.le_trans s.wn hk⟩
theorem SQ.chan(s:SQ w S B st h es cs wm du p T H k)(hi:ChAt cs i P z):∃b,p.co=some ⟨b,0,none⟩∧w.cell? ⟨S,2,none⟩=some (.slice (some ⟨b,0,none⟩) cs.length p.cc)∧w.cell? ⟨b,i*2,none⟩=some (.int .i64 (z:Int))∧w.cell? ⟨b,i*2+1,none⟩=some (.pointer (some ⟨P,0,none⟩)):=by
 obtain⟨x,hx,rfl,rfl⟩:=hi
 exact s.ss.chan hx
structure OpP(w w':World)(S B:Nat)(st:Wst)(h:Nat→Option (List Int))(es:List Ev)(cs:List Chn)(wm:Wm)(du:Option Nat)(p:Pl)(T:Nat→Prop)(H:List Int→Prop)(k i P z:Nat)(h':Nat→Option (List Int))(cs':List Chn)(q:Option Nat):Prop where
 sq:SQ w' S B st h' es cs' wm du p T H (k+1)
 at_:ChAt cs' i P z
 fv:∀c,q=some c→FV st h' H c
 ext:Sl.Ext h h'
 kp:Kp (fun k=>T k∨Fx S p k) w w'
 len:cs'.length=cs.length
theorem SQ.op(s:SQ w S B st h es cs wm du p T H k)(hi:ChAt cs i P z):∃(x:Sl.Sst) (Y:Nat→Prop),Sl.SW Y P w x h∧Sl.Cn k x∧∀(w':World) (x':Sl.Sst) (h':Nat→Option (List Int)) (l:List Int) (q:Option Nat),H l→Sl.Cs x x' h h' l q→Sl.SW Y P w' x' h'→Kp Y w w'→
 ∃cs',OpP w w' S B st h es cs wm du p T H k i P z h' cs' q:=by
 obtain⟨x,hx,rfl,rfl⟩:=hi
 obtain⟨Y,sw,go⟩:=s.ss.slot hx
 refine⟨x.st,Y,sw,s.cn i x hx,fun w' x' h' l q hl c sw' kp=>?_⟩
 obtain⟨⟨y,yp,rfl,ss⟩,kk⟩:=go w' x' h' sw' c.sz kp c.ext
 have il:=(List.getElem?_eq_some_iff.1 hx).1
 have nx:NOc st h h':=fun b l _ e=>c.ext b l e
 have new:∀b m,h b=none→h' b=some m→H m→FV st h' H b:=fun b m h0 h1 hm=>⟨fun o=>(by obtain⟨l,e⟩:=s.wd o;rw[h0] at e;cases e),m,h1,hm⟩
 refine⟨cs.set i y,⟨ss,fun b hb=>?_,fun j u hj=>?_,s.z,Nat.le_succ_of_le s.wn⟩,⟨y,List.getElem?_set_self il,yp,c.sz⟩,fun b hb=>?_,c.ext,kk,List.length_set ..⟩
 ·rcases hb with⟨j,u,hj,hb⟩|hb
  ·by_cases e:j=i
   ·subst e
    rw[List.getElem?_set_self il] at hj
    cases hj
    rcases c.blk b hb with z|z
    ·exact (s.kp b (.inl ⟨j,x,hx,z⟩)).nx nx fun _ z=>z
    ·exact new b l z.1 z.2 hl
   ·rw[List.getElem?_set_ne (Ne.symm e)] at hj
    exact (s.kp b (.inl ⟨j,u,hj,hb⟩)).nx nx fun _ z=>z
  ·exact (s.kp b (.inr hb)).nx nx fun _ z=>z
 ·by_cases e:j=i
  ·subst e
   rw[List.getElem?_set_self il] at hj
   cases hj
   exact c.cn k (s.cn j x hx)
  ·rw[List.getElem?_set_ne (Ne.symm e)] at hj
   exact (s.cn j u hj).up (Nat.le_succ _)
 ·rcases c.res b hb with z|⟨z,v,m,h1,h2,h3⟩
  ·exact (s.kp b (.inl ⟨i,x,hx,z⟩)).nx nx fun _ z=>z
  ·obtain⟨-,m',e,hm⟩:=s.kp v (.inl ⟨i,x,hx,h1⟩)
   rw[h2] at e
   cases e
   exact new b m z h3 hm
theorem gv_of(s:SQ w S B st h es cs wm du p T H k){c:Option Nat}(fv:∀a,c=some a→FV st h H a):∃l,Sl.Gv h c l∧H l:=by
 cases c with
 |none=>exact⟨[],rfl,s.z⟩
 |some a=>
  obtain⟨-,m,e,hm⟩:=fv a rfl
  exact⟨m,e,hm⟩
theorem SQ.send(s:SQ w S B st h es cs wm du p T H k)(hi:ChAt cs i P z){c:Option Nat}(fv:∀a,c=some a→FV st h H a)(hk:k≤10000):Calls Tryz.prog 90 #[.pointer (some ⟨P,0,none⟩),Sl.clv c] w fun r w'=>∃q E h' cs',r=.returned (.tuple #[Sl.clv q,.int .i64 E])∧OpP w w' S B st h es cs wm du p T H k i P z h' cs' q:=by
 obtain⟨x,Y,sw,cn,go⟩:=s.op hi
 obtain⟨l,gv,hl⟩:=gv_of s fv
 refine (Sl.send_c sw gv cn hk).mono ?_
 rintro r w' ⟨q,E,x',h',rfl,c,sw',kp⟩
 obtain⟨cs',o⟩:=go w' x' h' l q hl c sw' kp
 exact⟨q,E,h',cs',rfl,o⟩
theorem SQ.recv(s:SQ w S B st h es cs wm du p T H k)(hi:ChAt cs i P z){c:Option Nat}(fv:∀a,c=some a→FV st h H a)(hk:k≤10000):Calls Tryz.prog 91 #[.pointer (some ⟨P,0,none⟩),Sl.clv c] w fun r w'=>∃q E h' cs',r=.returned (.tuple #[Sl.clv q,.int .i64 E])∧OpP w w' S B st h es cs wm du p T H k i P z h' cs' q:=by
 obtain⟨x,Y,sw,cn,go⟩:=s.op hi
 obtain⟨l,gv,hl⟩:=gv_of s fv
 refine (Sl.recv_c sw gv cn hk).mono ?_
 rintro r w' ⟨q,E,x',h',rfl,c,sw',kp⟩
 obtain⟨cs',o⟩:=go w' x' h' l q hl c sw' kp
 exact⟨q,E,h',cs',rfl,o⟩
theorem SQ.peek(s:SQ w S B st h es cs wm du p T H k)(hi:ChAt cs i P z)(b:Bool):Calls Tryz.prog 89 #[.pointer (some ⟨P,0,none⟩),.bool b] w fun r w'=>∃q E h' cs',r=.returned (.tuple #[Sl.clv q,.bool E])∧OpP w w' S B st h es cs wm du p T H k i P z h' cs' q:=by
 obtain⟨x,Y,sw,cn,go⟩:=s.op hi
 refine (Sl.peek_c sw b []).mono ?_
 rintro r w' ⟨q,E,x',h',rfl,c,sw',kp⟩
 obtain⟨cs',o⟩:=go w' x' h' [] q s.z c sw' kp
 exact⟨q,E,h',cs',rfl,o⟩
theorem SQ.closed(s:SQ w S B st h es cs wm du p T H k)(hi:ChAt cs i P z):Calls Tryz.prog 94 #[.pointer (some ⟨P,0,none⟩)] w fun r w'=>∃q E h' cs',r=.returned (.tuple #[Sl.clv q,.bool E])∧OpP w w' S B st h es cs wm du p T H k i P z h' cs' q:=by
 obtain⟨x,Y,sw,cn,go⟩:=s.op hi
 refine (Sl.closed_c sw []).mono ?_
 rintro r w' ⟨q,E,x',h',rfl,c,sw',kp⟩
 obtain⟨cs',o⟩:=go w' x' h' [] q s.z c sw' kp
 exact⟨q,E,h',cs',rfl,o⟩
theorem SQ.close(s:SQ w S B st h es cs wm du p T H k)(hi:ChAt cs i P z){a:Nat}(fv:FV st h H a):Calls Tryz.prog 93 #[.pointer (some ⟨P,0,none⟩),.pointer (some ⟨a,0,none⟩)] w fun r w'=>∃E h' cs',r=.returned (.int .i64 E)∧OpP w w' S B st h es cs wm du p T H k i P z h' cs' none:=by
 obtain⟨x,Y,sw,cn,go⟩:=s.op hi
 obtain⟨-,l,gv,hl⟩:=fv
 refine (Sl.close_c sw gv).mono ?_
 rintro r w' ⟨E,x',h',rfl,c,sw',kp⟩
 obtain⟨cs',o⟩:=go w' x' h' l none hl c sw' kp
 exact⟨E,h',cs',rfl,o⟩
def One(b:Nat)(h h':Nat→Option (List Int)):Prop:=∀c l,c≠b→h c=some l→h' c=some l
theorem One.nx{b:Nat}(o:One b h h')(hb:ON st b):NOc st h h':=fun c l n e=>o c l (fun q=>n (q ▸ hb)) e
structure LeP(w w':World)(S B:Nat)(st:Wst)(h:Nat→Option (List Int))(es:List Ev)(cs:List Chn)(wm:Wm)(du:Option Nat)(p:Pl)(T:Nat→Prop)(H:List Int→Prop)(k b:Nat)(l:List Int)(q:Option Nat)(h':Nat→Option (List Int))(R:Nat)(L m:List Int):Prop where
 at_:Ck.At w' (some ⟨R,0,none⟩) L
 new:w.heap.size≤R
 sq:SQ w' S B st h' es cs wm du p (Y1 T R) H k
 kp:Kp (fun k=>T k∨Fx S p k) w w'
 hm:H m
 mx:∀j,nth L j=max (nth l j) (nth m j)
 no:q=none→m=[]
 hb:h' b=some L
 one:One b h h'
 cn:Canon L
theorem SQ.learn(s:SQ w S B st h es cs wm du p T H k)(g:Int)(hg:(Lit.int .i64 g).wf=true)(t b:Nat)(l:List Int)(hf:st.f g=some (t,b))(hb:h b=some l){q:Option Nat}(fv:∀a,q=some a→FV st h H a):
 Calls Tryz.prog 85 #[.pointer (some ⟨S,0,none⟩),.int .i64 g,Sl.clv q] w fun r w'=>∃R L m h',r=.returned (.agg #[.int .u64 (epk (t:Int) (nth L t)),.slice (some ⟨R,0,none⟩) L.length L.length])∧LeP w w' S B st h es cs wm du p T H k b l q h' R L m:=by
 have ob:ON st b:=⟨g,t,hf⟩
 cases q with
 |none=>
  refine (s.ss.learn g hg t b l (.pointer none) ⟨_,rfl⟩ (kn_nil g hg t b hf) hf hb fun _ l q=>⟨l,q⟩).mono ?_
  rintro r w' ⟨R,rfl,at_,hR,x,kp⟩
  refine⟨R,l,[],h,rfl,at_,hR,⟨x,s.kp,s.cn,s.z,s.wn⟩,kp,s.z,fun j=>?_,fun _=>rfl,hb,fun _ _ _ e=>e,s.can hb⟩
  have v:=s.val hb
  by_cases q:j<l.length
  ·have:=v j q
   unfold okN at this
   simp at this
   rw[nth_out [] j (by simp)]
   omega
  ·rw[nth_out l j (by omega),nth_out [] j (by simp)];rfl
 |some a=>
  obtain⟨na,m,ha,hm⟩:=fv a rfl
  have one:One b h (upd h b (jn l m)):=fun c l' n e=>by rw[upd_other _ _ _ _ n];exact e
  refine (s.ss.learn g hg t b (jn l m) (.pointer (some ⟨a,0,none⟩)) ⟨_,rfl⟩ (kn_some g hg t b a l m hf hb ha) hf (upd_same _ _ _) fun b' l' e=>?_).mono ?_
  ·by_cases q:b'=b
   ·exact⟨_,by rw[q,upd_same]⟩
   ·exact⟨l',one b' l' q e⟩
  ·rintro r w' ⟨R,rfl,at_,hR,x,kp⟩
   have sq:SQ w' S B st _ es cs wm du p (Y1 T R) H k:=⟨x,fun c hc=>(s.kp c hc).nx (one.nx ob) fun _ z=>z,s.cn,s.z,s.wn⟩
   exact⟨R,jn l m,m,_,rfl,at_,hR,sq,kp,hm,nth_jn l m,(fun q=>nomatch q),upd_same _ _ _,one,sq.can (upd_same _ _ _)⟩
def HL(H:List Int→Prop)(L:List Int):List Int→Prop:=fun y=>H y∨y=L
structure TeP(w w':World)(S B:Nat)(st:Wst)(h:Nat→Option (List Int))(es:List Ev)(cs:List Chn)(wm:Wm)(du:Option Nat)(p:Pl)(T:Nat→Prop)(H:List Int→Prop)(k t b:Nat)(l:List Int)(h':Nat→Option (List Int))(A:Nat)(l':List Int):Prop where
 sq:SQ w' S B st h' es cs wm du p T (HL H l) k
 kp:Kp (fun k=>T k∨Fx S p k) w w'
 fv:FV st h' (HL H l) A
 set:IsSet l l' t (nth l t+1)
 hb:h' b=some l'
 one:One b h h'
theorem SQ.tell(s:SQ w S B st h es cs wm du p T H k)(g:Int)(hg:(Lit.int .i64 g).wf=true)(t b:Nat)(l:List Int)(hf:st.f g=some (t,b))(hb:h b=some l)(hM:nth l t<(st.M:Int)):
 Calls Tryz.prog 87 #[.pointer (some ⟨S,0,none⟩),.int .i64 g] w fun r w'=>∃A l' h',r=.returned (.pointer (some ⟨A,0,none⟩))∧TeP w w' S B st h es cs wm du p T H k t b l h' A l':=by
 have ob:ON st b:=⟨g,t,hf⟩
 refine (s.ss.tell g hg t b l hf hb hM).mono ?_
 rintro r w' ⟨A,l',rfl,hA,is,x,kp⟩
 have hAb:A≠b:=fun q=>by rw[q,hb] at hA;cases hA
 have one:One b h (upd (upd h A l) b l'):=fun c l2 n e=>by rw[upd_other _ _ _ _ n];exact Sl.Ext.upd hA c l2 e
 refine⟨A,l',_,rfl,⟨x,fun c hc=>(s.kp c hc).nx (one.nx ob) fun _ z=>.inl z,s.cn,.inl s.z,s.wn⟩,kp,⟨fun o=>?_,l,by rw[upd_other _ _ _ _ hAb,upd_same],.inr rfl⟩,is,upd_same _ _ _,one⟩
 obtain⟨l2,e⟩:=s.wd o
 rw[hA] at e
 cases e
end
end Sp
namespace Sp
open Ck Wa
open En (Ev)
structure Bx(w u:World)(T:Nat→Prop)(e:Ev):Prop where
 e0:u.heap[w.heap.size]? =some (.cells #[.int .i64 e.k,.int .i64 e.g,.int .i64 e.c,.int .i64 e.a,.int .i64 e.v,.int .i64 e.m,.bool e.s,.bool e.o] 40)
 z0:u.heap[w.heap.size+1]? =some (.cells #[.int .u64 0,.slice none 0 0] 38)
 kp:Kp T w u
 lt:∀k,T k→k<w.heap.size
def T2(w:World)(T:Nat→Prop):Nat→Prop:=Y1 (Y1 T w.heap.size) (w.heap.size+1)
structure EvP(w w':World)(S B:Nat)(st:Wst)(h:Nat→Option (List Int))(es:List Ev)(T:Nat→Prop)(H:List Int→Prop)(k nc t b:Nat)(l:List Int)(ft tl:Bool)(r:Ending)(R:Nat)(L m lb:List Int)(h':Nat→Option (List Int))(cs':List Chn)(wm':Wm)(du':Option Nat)(p':Pl):Prop where
 res:r=.returned (.agg #[.int .u64 (epk (t:Int) (nth L t)),.slice (some ⟨R,0,none⟩) L.length L.length])
 at_:Ck.At w' (some ⟨R,0,none⟩) L
 new:w.heap.size≤R
 sq:SQ w' S B st h' es cs' wm' du' p' (Y1 T R) (if tl then HL H L else H) (k+6)
 kp:Kp T w w'
 hm:H m
 mx:∀j,nth L j=max (nth l j) (nth m j)
 no:ft=false→m=[]
 hb:h' b=some lb
 set:if tl then IsSet L lb t (nth L t+1) else lb=L
 one:One b h h'
 len:cs'.length=nc
 cn:Canon L
section
variable {w w' u u':World}{S B:Nat}{st st':Wst}{h h' h1:Nat→Option (List Int)}{es:List Ev}{cs cs':List Chn}{wm wm':Wm}{du du':Option Nat}{p p':Pl}{T T' X:Nat→Prop}{H H':List Int→Prop}{k i P z t b:Nat}{e:Ev}{l:List Int}
theorem clv_some(A:Nat):Sl.clv (some A)=.pointer (some ⟨A,0,none⟩):=rfl
theorem clv_ptr(q:Option Nat):∃pq,Sl.clv q=.pointer pq:=by cases q<;>exact⟨_,rfl⟩
theorem One.trans{h2:Nat→Option (List Int)}(a:One b h h1)(c:One b h1 h2):One b h h2:=fun x l n e=>c x l n (a x l n e)
theorem One.ext(a:Sl.Ext h h'):One b h h':=fun x l _ e=>a x l e
theorem SQ.two(s:SQ w S B st h es cs wm du p T H k)(e:Ev):SQ ((w.alloc (.cells #[.int .i64 e.k,.int .i64 e.g,.int .i64 e.c,.int .i64 e.a,.int .i64 e.v,.int .i64 e.m,.bool e.s,.bool e.o] 40)).alloc (.cells #[.int .u64 0,.slice none 0 0] 38)) S B st h es cs wm du p (T2 w T) H k:=by
 have:=(s.box (.cells #[.int .i64 e.k,.int .i64 e.g,.int .i64 e.c,.int .i64 e.a,.int .i64 e.v,.int .i64 e.m,.bool e.s,.bool e.o] 40)).box (.cells #[.int .u64 0,.slice none 0 0] 38)
 rw[World.size_alloc] at this
 exact this
theorem SQ.bx(s:SQ w S B st h es cs wm du p T H k)(e:Ev):Bx w ((w.alloc (.cells #[.int .i64 e.k,.int .i64 e.g,.int .i64 e.c,.int .i64 e.a,.int .i64 e.v,.int .i64 e.m,.bool e.s,.bool e.o] 40)).alloc (.cells #[.int .u64 0,.slice none 0 0] 38)) T e:=by
 have E1:=heap_new (w.alloc (.cells #[.int .i64 e.k,.int .i64 e.g,.int .i64 e.c,.int .i64 e.a,.int .i64 e.v,.int .i64 e.m,.bool e.s,.bool e.o] 40)) (.cells #[.int .u64 0,.slice none 0 0] 38)
 rw[World.size_alloc] at E1
 exact⟨Ba.heap_below (heap_new w (.cells #[.int .i64 e.k,.int .i64 e.g,.int .i64 e.c,.int .i64 e.a,.int .i64 e.v,.int .i64 e.m,.bool e.s,.bool e.o] 40)) (below_alloc _ (.cells #[.int .u64 0,.slice none 0 0] 38)),E1,Kp.of (btr (below_alloc w (.cells #[.int .i64 e.k,.int .i64 e.g,.int .i64 e.c,.int .i64 e.a,.int .i64 e.v,.int .i64 e.m,.bool e.s,.bool e.o] 40)) (below_alloc _ (.cells #[.int .u64 0,.slice none 0 0] 38))) fun k q=>s.ss.tlt q,fun k q=>s.ss.tlt q⟩
theorem Bx.step(b:Bx w u T e)(k:Kp X u u')(hX:∀j,T2 w T j→X j):Bx w u' T e:=
 ⟨kp_heap k b.e0 (hX _ (.inl (.inr rfl))),kp_heap k b.z0 (hX _ (.inr rfl)),b.kp.trans (Wa.Kp.mono k fun j q=>hX j (.inl (.inl q))),b.lt⟩
theorem Bx.below(b:Bx w u T e)(q:Below u.heap.size u u'):Bx w u' T e:=
 ⟨Ba.heap_below b.e0 q,Ba.heap_below b.z0 q,b.kp.trans (Kp.of q fun j z=>Nat.lt_of_lt_of_le (b.lt j z) b.kp.size),b.lt⟩
theorem Bx.lt2(b:Bx w u T e):w.heap.size+1<u.heap.size:=Ba.heap_lt b.z0
theorem Bx.fill(b:Bx w u T e)(x y:Value):Kp T w ((u.setCell ⟨w.heap.size+1,0,none⟩ x).setCell ⟨w.heap.size+1,1,none⟩ y):=st2K b.kp (fun q=>by have:=b.lt _ q;omega) x y
theorem SQ.fill(s:SQ u S B st h es cs wm du p T' H k)(x y:Value)(hT:T' (w.heap.size+1))(hi:∀j,X j→T' j):SQ ((u.setCell ⟨w.heap.size+1,0,none⟩ x).setCell ⟨w.heap.size+1,1,none⟩ y) S B st h es cs wm du p X H k:=((s.set hT 0 x).set hT 1 y).less hi
set_option maxRecDepth 100000 in
theorem shut_ok(s:SQ w S B st h es cs wm du p T H k)(e:Ev)(hg:(Lit.int .i64 e.g).wf=true)(hf:st.f e.g=some (t,b))(hb:h b=some l)(hM:∀m,H m→max (nth l t) (nth m t)<(st.M:Int))(hc:e.c=(i:Int))(hi:ChAt cs i P z):
 Calls Tryz.prog 48 #[.pointer (some ⟨S,0,none⟩),En.evv e] w fun r w'=>∃R L m lb h' cs' wm' du' p',EvP w w' S B st h es T H k cs.length t b l false true r R L m lb h' cs' wm' du' p':=by
 have B2:=hide (s.bx e)
 have LE:=hide ((s.two e).learn e.g hg t b l hf hb (q:=none) fun _ q=>nomatch q)
 have HF:=hide (And.intro hg (And.intro hf (And.intro hb (And.intro hM (And.intro hi hc)))))
 have il:i<cs.length:=by obtain⟨x,hx,-⟩:=hi;exact (List.getElem?_eq_some_iff.1 hx).1
 have c1:((w.alloc (.cells #[.int .i64 e.k,.int .i64 e.g,.int .i64 e.c,.int .i64 e.a,.int .i64 e.v,.int .i64 e.m,.bool e.s,.bool e.o] 40)).alloc (.cells #[.int .u64 0,.slice none 0 0] 38)).cell? ⟨w.heap.size,1,none⟩=some (.int .i64 e.g):=cell_of B2.out.e0 1
 have i0:(0:Int)≤(i:Int):=by omega
 have i1:(i:Int)<(cs.length:Int):=by omega
 unfold Sl.clv at LE
 unfold En.evv En.evc
 clear s hg hf hb hM hi hc
 go_enter Tryz.func48,Tryz.ntmps48
 go_wp2_with fail
 refine LE.out.mono ?_
 rintro r w2 ⟨R,L,m,h1,rfl,le⟩
 obtain⟨ev,hev⟩:∃z,epk (t:Int) (nth L t)=z:=⟨_,rfl⟩
 obtain⟨n,hn⟩:∃n,L.length=n:=⟨_,rfl⟩
 rw[hev,hn]
 have HE:=hide (And.intro hev hn)
 have LP:=hide le
 have b3:=below_alloc w2 (.cells #[.int .u64 ev,.slice (some ⟨R,0,none⟩) n n] 38)
 have S3:=hide (le.sq.box (.cells #[.int .u64 ev,.slice (some ⟨R,0,none⟩) n n] 38))
 have E3:=hide (heap_new w2 (.cells #[.int .u64 ev,.slice (some ⟨R,0,none⟩) n n] 38))
 have B3:=hide ((B2.out.step le.kp fun _ q=>.inl q).below b3)
 have A3:=hide (le.at_.below b3)
 have v1:(w2.alloc (.cells #[.int .u64 ev,.slice (some ⟨R,0,none⟩) n n] 38)).cell? ⟨w.heap.size,1,none⟩=some (.int .i64 e.g):=cell_of B3.out.e0 1
 have v2:(w2.alloc (.cells #[.int .u64 ev,.slice (some ⟨R,0,none⟩) n n] 38)).cell? ⟨w.heap.size,2,none⟩=some (.int .i64 (i:Int)):=by rw[←HF.out.2.2.2.2.2];exact cell_of B3.out.e0 2
 obtain⟨cb,hco,y2,-,yp⟩:=S3.out.chan HF.out.2.2.2.2.1
 have HCO:=hide hco
 have TE:=hide (fun u (q:Below (w2.alloc (.cells #[.int .u64 ev,.slice (some ⟨R,0,none⟩) n n] 38)).heap.size (w2.alloc (.cells #[.int .u64 ev,.slice (some ⟨R,0,none⟩) n n] 38)) u)=>(S3.out.below q).tell e.g HF.out.1 t b L HF.out.2.1 LP.out.hb (by rw[LP.out.mx];exact HF.out.2.2.2.1 m LP.out.hm))
 have LT:=hide (show w.heap.size+1<R by have:=LP.out.new;have:w.heap.size+1<((w.alloc (.cells #[.int .i64 e.k,.int .i64 e.g,.int .i64 e.c,.int .i64 e.a,.int .i64 e.v,.int .i64 e.m,.bool e.s,.bool e.o] 40)).alloc (.cells #[.int .u64 0,.slice none 0 0] 38)).heap.size:=B2.out.lt2;omega)
 clear le LE b3 hco hev hn
 go_upto_region 2 with fail
 generalize w2.alloc (.cells #[.int .u64 ev,.slice (some ⟨R,0,none⟩) n n] 38)=w3 at*
 generalize w2.heap.size=Q at*
 have HI:=hide HF.out.2.2.2.2.1
 go_region_held3 (fun w'=>w'.cell? ⟨S,2,none⟩=some (.slice (some ⟨cb,0,none⟩) cs.length p.cc)∧w'.cell? ⟨w.heap.size,2,none⟩=some (.int .i64 (i:Int))∧w'.cell? ⟨cb,i*2+1,none⟩=some (.pointer (some ⟨P,0,none⟩))∧w'.cell? ⟨w.heap.size,1,none⟩=some (.int .i64 e.g))
  (first|(go_keep;done)|exact⟨y2,v2,yp,v1⟩|exact⟨q1,q2,q3,q4⟩|exact⟨z1,z2,z3,z4⟩)
  (first
    |(go_at_call 87;refine (TE.out _ (Ba.bdrew1 _)).mono ?_;rintro r w4 ⟨A,l',h4,rfl,te⟩;have q1:=cell_blk (w:=w3) y2 (te.kp.block S (.inr (.inl rfl)));have q2:=cell_blk (w:=w3) v2 (te.kp.block w.heap.size (.inl (.inl (.inl (.inl (.inr rfl))))));have q3:=cell_blk (w:=w3) yp (te.kp.block cb (.inr (.inr (.inl ⟨_,HCO.out,rfl⟩))));have q4:=cell_blk (w:=w3) v1 (te.kp.block w.heap.size (.inl (.inl (.inl (.inl (.inr rfl))))));have TP:=hide te;clear te)
    |(go_at_call 93;refine (TP.out.sq.close HI.out TP.out.fv).mono ?_;rintro r w5 ⟨E,h5,cs5,rfl,op⟩;have z1:=cell_blk q1 (op.kp.block S (.inr (.inl rfl)));have z2:=cell_blk q2 (op.kp.block w.heap.size (.inl (.inl (.inl (.inl (.inr rfl))))));have z3:=cell_blk q3 (op.kp.block cb (.inr (.inr (.inl ⟨_,HCO.out,rfl⟩))));have z4:=cell_blk q4 (op.kp.block w.heap.size (.inl (.inl (.inl (.inl (.inr rfl))))))))
 rename_i hh
 clear hh z1 z2 z3 z4 q1 q2 q3 q4 y2 v1 v2 yp TE
 have B5:=hide (((B3.out.below (Ba.bdrew1 w3)).step TP.out.kp fun _ q=>.inl (.inl (.inl q))).step op.kp fun _ q=>.inl (.inl (.inl q)))
 have e5:=kp_heap op.kp (kp_heap TP.out.kp E3.out (.inl (.inr rfl))) (.inl (.inr rfl))
 have f0:w5.frozen? ⟨w.heap.size+1,0,none⟩=false:=frozen_of B5.out.z0 0
 have f1:w5.frozen? ⟨w.heap.size+1,1,none⟩=false:=frozen_of B5.out.z0 1
 have d0:w5.cell? ⟨w.heap.size+1,0,none⟩=some (.int .u64 0):=cell_of B5.out.z0 0
 have d1:w5.cell? ⟨w.heap.size+1,1,none⟩=some (.slice none 0 0):=cell_of B5.out.z0 1
 have g0:w5.cell? ⟨Q,0,none⟩=some (.int .u64 ev):=cell_of e5 0
 have g1:w5.cell? ⟨Q,1,none⟩=some (.slice (some ⟨R,0,none⟩) n n):=cell_of e5 1
 have OP:=hide op
 clear op e5
 go_wp2_with fail
 have lt:=LT.out
 exact bodyPost_ret (En.results_row1 Tryz.results48 _ _ _ _ rfl (loadVar_stp (two_set _ _ B5.out.z0 rfl) rfl)) rfl ⟨R,L,m,l',h5,cs5,wm,du,p,by rw[HE.out.1,HE.out.2],st2A (atK (atK (A3.out.below (Ba.bdrew1 w3)) TP.out.kp (.inl (.inl (.inr rfl)))) OP.out.kp (.inl (.inl (.inr rfl)))) (by omega) _ _,by omega,(OP.out.sq.fill _ _ (.inl (.inl (.inr rfl))) fun j q=>by rcases q with q|q;exact .inl (.inl (.inl (.inl q)));exact .inl (.inr q)).up (by omega),B5.out.fill _ _,LP.out.hm,LP.out.mx,fun _=>LP.out.no rfl,OP.out.ext _ _ TP.out.hb,TP.out.set,LP.out.one.trans (TP.out.one.trans (One.ext OP.out.ext)),OP.out.len,LP.out.cn⟩
set_option maxRecDepth 100000 in
theorem hear_ok(s:SQ w S B st h es cs wm du p T H k)(e:Ev)(hg:(Lit.int .i64 e.g).wf=true)(hf:st.f e.g=some (t,b))(hb:h b=some l)(hM:∀m,H m→max (nth l t) (nth m t)<(st.M:Int))(hc:e.c=(i:Int))(hi:ChAt cs i P z):
 Calls Tryz.prog 92 #[.pointer (some ⟨S,0,none⟩),En.evv e] w fun r w'=>∃R L m lb h' cs' wm' du' p',EvP w w' S B st h es T H k cs.length t b l true true r R L m lb h' cs' wm' du' p':=by
 have B2:=hide (s.bx e)
 have S2:=hide (s.two e)
 have HF:=hide (And.intro hg (And.intro hf (And.intro hb (And.intro hM (And.intro hi hc)))))
 have il:i<cs.length:=by obtain⟨x,hx,-⟩:=hi;exact (List.getElem?_eq_some_iff.1 hx).1
 have v1:((w.alloc (.cells #[.int .i64 e.k,.int .i64 e.g,.int .i64 e.c,.int .i64 e.a,.int .i64 e.v,.int .i64 e.m,.bool e.s,.bool e.o] 40)).alloc (.cells #[.int .u64 0,.slice none 0 0] 38)).cell? ⟨w.heap.size,1,none⟩=some (.int .i64 e.g):=cell_of B2.out.e0 1
 have v2:((w.alloc (.cells #[.int .i64 e.k,.int .i64 e.g,.int .i64 e.c,.int .i64 e.a,.int .i64 e.v,.int .i64 e.m,.bool e.s,.bool e.o] 40)).alloc (.cells #[.int .u64 0,.slice none 0 0] 38)).cell? ⟨w.heap.size,2,none⟩=some (.int .i64 (i:Int)):=by rw[←hc];exact cell_of B2.out.e0 2
 obtain⟨cb,hco,y2,-,yp⟩:=S2.out.chan hi
 have HCO:=hide hco
 have i0:(0:Int)≤(i:Int):=by omega
 have i1:(i:Int)<(cs.length:Int):=by omega
 have CL:=hide ((S2.out.below (Ba.bdrew1 _)).closed hi)
 unfold En.evv En.evc
 clear s hg hf hb hM hi hc hco
 go_enter Tryz.func92,Tryz.ntmps92
 go_upto_region 1 with fail
 have SZ:=hide B2.out.lt2
 generalize (w.alloc (.cells #[.int .i64 e.k,.int .i64 e.g,.int .i64 e.c,.int .i64 e.a,.int .i64 e.v,.int .i64 e.m,.bool e.s,.bool e.o] 40)).alloc (.cells #[.int .u64 0,.slice none 0 0] 38)=w1 at*
 go_region_held3 (fun w'=>w'.cell? ⟨S,2,none⟩=some (.slice (some ⟨cb,0,none⟩) cs.length p.cc)∧w'.cell? ⟨w.heap.size,2,none⟩=some (.int .i64 (i:Int))∧w'.cell? ⟨cb,i*2+1,none⟩=some (.pointer (some ⟨P,0,none⟩)))
  (first|(go_keep;done)|exact⟨y2,v2,yp⟩|exact⟨q1,q2,q3⟩)
  (first
    |(go_at_call 94;refine CL.out.mono ?_;rintro r w2 ⟨q,E,h2,cs2,rfl,op⟩;have q1:=cell_blk (w:=w1) y2 (op.kp.block S (.inr (.inl rfl)));have q2:=cell_blk (w:=w1) v2 (op.kp.block w.heap.size (.inl (.inl (.inr rfl))));have q3:=cell_blk (w:=w1) yp (op.kp.block cb (.inr (.inr (.inl ⟨_,HCO.out,rfl⟩))))))
 rename_i hh
 clear hh q1 q2 q3 y2 v2 yp v1 CL
 have OP:=hide op
 have B3:=hide ((B2.out.below (Ba.bdrew1 _)).step op.kp fun _ q=>.inl q)
 have v1:w2.cell? ⟨w.heap.size,1,none⟩=some (.int .i64 e.g):=cell_of B3.out.e0 1
 have LE:=hide (op.sq.learn e.g HF.out.1 t b l HF.out.2.1 (op.ext _ _ HF.out.2.2.1) (q:=q) fun _ e=>op.fv _ e)
 obtain⟨pq,hpq⟩:∃pq,Sl.clv q=.pointer pq:=by cases q<;>exact⟨_,rfl⟩
 rw[hpq] at LE ⊢
 clear op B2
 go_wp2_with fail
 refine LE.out.mono ?_
 rintro r w3 ⟨R,L,m,h3,rfl,le⟩
 obtain⟨ev,hev⟩:∃z,epk (t:Int) (nth L t)=z:=⟨_,rfl⟩
 obtain⟨n,hn⟩:∃n,L.length=n:=⟨_,rfl⟩
 rw[hev,hn]
 have HE:=hide (And.intro hev hn)
 have LP:=hide le
 have b4:=below_alloc w3 (.cells #[.int .u64 ev,.slice (some ⟨R,0,none⟩) n n] 38)
 have S4:=hide (le.sq.box (.cells #[.int .u64 ev,.slice (some ⟨R,0,none⟩) n n] 38))
 have E4:=hide (heap_new w3 (.cells #[.int .u64 ev,.slice (some ⟨R,0,none⟩) n n] 38))
 have B4:=hide ((B3.out.step le.kp fun _ q=>.inl q).below b4)
 have A4:=hide (le.at_.below b4)
 have v4:(w3.alloc (.cells #[.int .u64 ev,.slice (some ⟨R,0,none⟩) n n] 38)).cell? ⟨w.heap.size,1,none⟩=some (.int .i64 e.g):=cell_of B4.out.e0 1
 have TE:=hide (S4.out.tell e.g HF.out.1 t b L HF.out.2.1 le.hb (by rw[le.mx];exact HF.out.2.2.2.1 m le.hm))
 have LT:=hide (show w.heap.size+1<R by have:=le.new;have:=B3.out.lt2;omega)
 clear le LE b4 hev hn v1
 go_upto_region 3 with fail
 generalize w3.alloc (.cells #[.int .u64 ev,.slice (some ⟨R,0,none⟩) n n] 38)=w4 at*
 generalize w3.heap.size=Q at*
 go_wp2_with fail
 refine TE.out.mono ?_
 rintro r w5 ⟨A,l',h5,rfl,te⟩
 have B5:=hide (B4.out.step te.kp fun _ q=>.inl (.inl (.inl q)))
 have e5:=kp_heap te.kp E4.out (.inl (.inr rfl))
 have f0:w5.frozen? ⟨w.heap.size+1,0,none⟩=false:=frozen_of B5.out.z0 0
 have f1:w5.frozen? ⟨w.heap.size+1,1,none⟩=false:=frozen_of B5.out.z0 1
 have d0:w5.cell? ⟨w.heap.size+1,0,none⟩=some (.int .u64 0):=cell_of B5.out.z0 0
 have d1:w5.cell? ⟨w.heap.size+1,1,none⟩=some (.slice none 0 0):=cell_of B5.out.z0 1
 have g0:w5.cell? ⟨Q,0,none⟩=some (.int .u64 ev):=cell_of e5 0
 have g1:w5.cell? ⟨Q,1,none⟩=some (.slice (some ⟨R,0,none⟩) n n):=cell_of e5 1
 have TP:=hide te
 clear te e5 TE v4
 go_wp2_with fail
 have lt:=LT.out
 exact bodyPost_ret (En.results_row1 Tryz.results92 _ _ _ _ rfl (loadVar_stp (two_set _ _ B5.out.z0 rfl) rfl)) rfl ⟨R,L,m,l',h5,cs2,wm,du,p,by rw[HE.out.1,HE.out.2],st2A (atK A4.out TP.out.kp (.inl (.inl (.inr rfl)))) (by omega) _ _,by omega,(TP.out.sq.fill _ _ (.inl (.inl (.inr rfl))) fun j q=>by rcases q with q|q;exact .inl (.inl (.inl (.inl q)));exact .inl (.inr q)).up (by omega),B5.out.fill _ _,LP.out.hm,LP.out.mx,(fun q=>nomatch q),TP.out.hb,TP.out.set,(One.ext OP.out.ext).trans (LP.out.one.trans TP.out.one),OP.out.len,LP.out.cn⟩
end
end Sp
namespace Sp
open Ck Wa
open En (Ev)
theorem info_pc:(Tryz.prog.info? 63).map (fun i=>(i.zero,i.size))=some (some (.pointer none),1):=by kernel_rfl
theorem wE_at{D:DataW Unit}{f:Wm}(h:WI D f){g:Int}{v:Value}{ps:List MemPlace}(e:wE v=some (D.atKey (kl g) .nil,ps)):v=Sl.clv (f g):=by
 cases hf:f g with
 |none=>
  rw[h.no hf] at e
  unfold wE at e
  split at e
  ·rfl
  ·unfold pD at e
   simp at e
  ·cases e
 |some b=>
  rw[h.at_ g b .nil hf] at e
  unfold wE at e
  split at e
  ·unfold pD at e
   simp at e
  ·rename_i b'
   have:pD b'=pD b:=by injection e with e;exact (Prod.mk.inj e).1
   rw[pD_inj this]
   rfl
  ·cases e
theorem tight_w{w:World}{mb n m:Nat}{D:DataW Unit}(h:w.ownsMap Tryz.prog 3 wE mb n D)(hm:Maps.size D≤m):w.ownsMap Tryz.prog 3 wE mb m D:=by
 obtain⟨es,clock,hb,F,hs,rfl⟩:=h
 refine⟨es,clock,hb,F,?_,rfl⟩
 rw[Maps.size_eq,length_read] at hm
 exact hm
section
variable {w w':World}{S B:Nat}{st st':Wst}{h h':Nat→Option (List Int)}{es:List Ev}{cs:List Chn}{wm:Wm}{du du':Option Nat}{p:Pl}{T:Nat→Prop}{H:List Int→Prop}{k:Nat}
theorem SQ.look(s:SQ w S B st h es cs wm du p T H k){g:Int}(hg:(Lit.int .i64 g).wf=true):w.cell? ⟨S,3,none⟩=some (.map (some p.MW))∧(Instr.lookup 61 (.map (some p.MW)) (.int .i64 g) false).run Tryz.prog w=.ok (Sl.clv (wm g)) w:=by
 obtain⟨n,col,mb,D,ea,c,DW,s,q⟩:=s.ss
 refine⟨cell_of s.sa.hp 3,?_⟩
 obtain⟨v,ps,hr,hv⟩:=s.sa.mw.lookup law Tryz.underlying61 ((zero_of_info info_pc).1 w) (zd:=.nil) (zp:=[]) rfl (key_kl g hg)
 rw[hr,wE_at s.sa.wi hv]
theorem SM.own5{col:Nat→Nat}{mb:Nat}{D DW DW':DataW Unit}{ea:Option Addr}{c:Nat}{wm':Wm}(s:SM col w S B mb st D h ea c es p.co p.cc cs p.MW DW wm du)(hS:w'.heap[S]? =some (.cells #[.pointer (some ⟨B,0,none⟩),.slice ea es.length c,.slice p.co cs.length p.cc,.map (some p.MW),Sl.clv du'] 65 (0,0)))
 (o:w'.ownsMap Tryz.prog 3 wE p.MW NB DW') (wi:WI DW' wm') (sz:w.heap.size≤w'.heap.size) (os:w'.os=w.os) (ot:w'.output=w.output) (tp:w'.tape=w.tape) (hb:∀j,j<w.heap.size→j≠S→j≠p.MW→w'.heap[j]? =w.heap[j]?) (md:∀g b,wm' g=some b→∃l,h b=some l) (dd:∀b,du'=some b→∃l,h b=some l):
 SM col w' S B mb st D h ea c es p.co p.cc cs p.MW DW' wm' du':=by
 have cS:=(s.sa.c2 S).2 rfl
 have cM:=(s.sa.c5 p.MW).2 rfl
 have lt:∀j,col j≠0→j<w.heap.size:=s.cx.base
 have bl:∀j,col j≠0→col j≠2→col j≠5→w'.heap[j]? =w.heap[j]?:=fun j h1 h2 h3=>hb j (lt j h1) (fun q=>h2 (q ▸ cS)) (fun q=>h3 (q ▸ cM))
 obtain⟨col2,hc2⟩:∃c2:Nat→Nat,∀j,c2 j=if col j=5 then 2 else col j:=⟨fun j=>if col j=5 then 2 else col j,fun _=>rfl⟩
 have kp:Kp (Xc col2 2) w w':=⟨os,tp,ot,sz,fun j q=>by
  obtain⟨q1,q2⟩:=q
  rw[hc2] at q1 q2
  split at q2
  ·exact absurd rfl q2
  ·rename_i n5
   rw[if_neg n5] at q1
   exact bl j q1 q2 n5⟩
 have hq:∀d,d≠2→d≠5→∀j,col j=d↔col2 j=d:=fun d h1 h2 j=>by
  rw[hc2]
  split
  ·rename_i e
   rw[e]
   exact⟨fun q=>absurd q.symm h2,fun q=>absurd q.symm h1⟩
  ·exact Iff.rfl
 have wt:WtA col2 w B mb st D:=⟨s.wt.hp,s.wt.ow,s.wt.mi,s.wt.sz,s.wt.ne,fun j=>(hq 1 (by omega) (by omega) j).symm.trans (s.wt.own j),s.wt.inj,s.wt.tid,s.wt.bd⟩
 refine⟨wt.keep kp (by omega) (hq 1 (by omega) (by omega)),⟨hS,s.sa.c2,own_keep s.sa.ev fun g e=>bl g (by rw[(s.sa.c3 g).2 e];omega) (by rw[(s.sa.c3 g).2 e];omega) (by rw[(s.sa.c3 g).2 e];omega),s.sa.c3,own_keep s.sa.cr fun g e=>bl g (by rw[(s.sa.c4 g).2 e];omega) (by rw[(s.sa.c4 g).2 e];omega) (by rw[(s.sa.c4 g).2 e];omega),s.sa.c4,o,s.sa.c5,wi⟩,fun i x hi=>?_,?_,s.wd,s.cd,md,dd⟩
 ·have a:=s.ch i x hi
  have a2:ChA col2 i w x:=⟨a.hp,a.gv,a.bk,a.ap,a.sg,a.sb,fun j=>(hq (6+i) (by omega) (by omega) j).symm.trans (a.ow j)⟩
  exact a2.keep kp (by omega) (hq (6+i) (by omega) (by omega))
 ·exact Cx.other s.cx sz fun j hj hn=>hb j hj (fun q=>hn (show col j≠0 by rw[q,cS];omega)) (fun q=>hn (show col j≠0 by rw[q,cM];omega))
theorem SM.ne{col:Nat→Nat}{mb:Nat}{D DW:DataW Unit}{ea:Option Addr}{c:Nat}(s:SM col w S B mb st D h ea c es p.co p.cc cs p.MW DW wm du):S≠p.MW:=fun q=>by
 have cS:=(s.sa.c2 S).2 rfl
 have cM:=(s.sa.c5 p.MW).2 rfl
 rw[q,cM] at cS
 cases cS
theorem SQ.put(s:SQ w S B st h es cs wm du p T H k){g:Int}(hg:(Lit.int .i64 g).wf=true){A:Nat}(fv:FV st h H A)(hk:k≤10000):
 ∃w',(Instr.mapUpdate 61 (.map (some p.MW)) (.int .i64 g) (.pointer (some ⟨A,0,none⟩))).run Tryz.prog w=.ok () w'∧SQ w' S B st h es cs (upw wm g (some A)) du p T H (k+1)∧Kp T w w':=by
 have wn:=s.wn
 obtain⟨n,col,mb,D,ea,c,DW,m,q⟩:=s.ss
 have o:=tight_w m.sa.mw m.sa.wi.sz
 obtain⟨w',hr,o',gr⟩:=o.update law Tryz.underlying61 (by unfold maxLen;omega) (key_kl g hg) (val:=.pointer (some ⟨A,0,none⟩)) (d:=pD A) (ps:=[]) rfl
 obtain⟨-,l,hA,-⟩:=id fv
 have wi:=m.sa.wi.put hg A
 have ws:=wi.sz
 have hn:(upw wm g (some A)).n=wm.n+1:=rfl
 refine⟨w',hr,⟨⟨n,col,mb,D,ea,c,_,m.own5 ((gr.block S (m.cx.base S (show col S≠0 by rw[(m.sa.c2 S).2 rfl];omega)) (fun e=>m.ne (by cases e;rfl))).trans m.sa.hp) (tight_w o' (by rw[hn] at ws;show _≤100000;omega)) wi gr.size gr.os gr.output gr.tape (fun j hj _ h2=>gr.block j hj (fun e=>h2 (by cases e;rfl))) (fun g' b e=>?_) m.dd,q⟩,fun b hb=>?_,fun i x e=>(s.cn i x e).up (Nat.le_succ _),s.z,by rw[hn];omega⟩,⟨gr.os,gr.tape,gr.output,gr.size,fun j hj=>gr.block j (s.ss.tlt hj) fun e=>?_⟩⟩
 ·rw[upw_at] at e
  split at e
  ·cases e;exact⟨l,hA⟩
  ·exact m.md g' b e
 ·rcases hb with z|⟨g',z⟩|z
  ·exact s.kp b (.inl z)
  ·rw[upw_at] at z
   split at z
   ·cases z;exact fv
   ·exact s.kp b (.inr (.inl ⟨g',z⟩))
  ·exact s.kp b (.inr (.inr z))
 ·cases e
  have:=q _ hj
  rw[(m.sa.c5 _).2 rfl] at this
  omega
theorem SQ.drop(s:SQ w S B st h es cs wm du p T H k){g:Int}(hg:(Lit.int .i64 g).wf=true)(ty:TypeId):
 ∃w',(Builtin.delete_ #[61,3] ty #[.map (some p.MW),.int .i64 g]).run Tryz.prog w=.ok (.tuple #[]) w'∧SQ w' S B st h es cs (upw wm g none) du p T H (k+1)∧Kp T w w':=by
 have wn:=s.wn
 obtain⟨n,col,mb,D,ea,c,DW,m,q⟩:=s.ss
 obtain⟨w',hr,o',tu⟩:=m.sa.mw.drop law Tryz.underlying61 (key_kl g hg) ty
 have gr:=tu.grown
 have hn:(upw wm g none).n=wm.n+1:=rfl
 refine⟨w',hr,⟨⟨n,col,mb,D,ea,c,_,m.own5 ((gr.block S (m.cx.base S (show col S≠0 by rw[(m.sa.c2 S).2 rfl];omega)) (fun e=>m.ne (by cases e;rfl))).trans m.sa.hp) o' (m.sa.wi.del g) gr.size gr.os gr.output gr.tape (fun j hj _ h2=>gr.block j hj (fun e=>h2 (by cases e;rfl))) (fun g' b e=>?_) m.dd,q⟩,fun b hb=>?_,fun i x e=>(s.cn i x e).up (Nat.le_succ _),s.z,by rw[hn];omega⟩,⟨gr.os,gr.tape,gr.output,gr.size,fun j hj=>gr.block j (s.ss.tlt hj) fun e=>?_⟩⟩
 ·rw[upw_at] at e
  split at e
  ·cases e
  ·exact m.md g' b e
 ·rcases hb with z|⟨g',z⟩|z
  ·exact s.kp b (.inl z)
  ·rw[upw_at] at z
   split at z
   ·cases z
   ·exact s.kp b (.inr (.inl ⟨g',z⟩))
  ·exact s.kp b (.inr (.inr z))
 ·cases e
  have:=q _ hj
  rw[(m.sa.c5 _).2 rfl] at this
  omega
theorem SQ.due(s:SQ w S B st h es cs wm du p T H k)(fv:∀c,du'=some c→FV st h H c):SQ (w.setCell ⟨S,4,none⟩ (Sl.clv du')) S B st h es cs wm du' p T H k∧Kp T w (w.setCell ⟨S,4,none⟩ (Sl.clv du'))∧w.frozen? ⟨S,4,none⟩=false:=by
 obtain⟨n,col,mb,D,ea,c,DW,m,q⟩:=s.ss
 have bl:∀j,j≠S→(w.setCell ⟨S,4,none⟩ (Sl.clv du')).heap[j]? =w.heap[j]?:=fun j hj=>Below.heap_setCell _ _ _ _ hj
 have sz:(w.setCell ⟨S,4,none⟩ (Sl.clv du')).heap.size=w.heap.size:=by simp[World.setCell]
 obtain⟨es',clock,hb,r⟩:=m.sa.mw
 refine⟨⟨⟨n,col,mb,D,ea,c,DW,m.own5 (by rw[Ba.heap_setCell_same m.sa.hp];rfl) ⟨es',clock,(bl _ (Ne.symm m.ne)).trans hb,r⟩ m.sa.wi (by rw[sz];exact Nat.le_refl _) rfl rfl rfl (fun j _ h1 _=>bl j h1) m.md fun b e=>?_,q⟩,fun b hb=>?_,s.cn,s.z,s.wn⟩,⟨rfl,rfl,rfl,by rw[sz];exact Nat.le_refl _,fun j hj=>bl j fun e=>?_⟩,frozen_of m.sa.hp 4⟩
 ·obtain⟨-,l,e,-⟩:=fv b e
  exact⟨l,e⟩
 ·rcases hb with z|z|z
  ·exact s.kp b (.inl z)
  ·exact s.kp b (.inr (.inl z))
  ·exact fv b z
 ·have:=q j hj
  rw[e,(m.sa.c2 S).2 rfl] at this
  omega
end
end Sp
namespace Sp
open Ck Wa
open En (Ev)
section
variable {w:World}{S B:Nat}{st:Wst}{h:Nat→Option (List Int)}{es:List Ev}{cs:List Chn}{wm:Wm}{du:Option Nat}{p:Pl}{T:Nat→Prop}{H:List Int→Prop}{k i P z t b:Nat}{l:List Int}
set_option maxRecDepth 100000 in
theorem park_ok(s:SQ w S B st h es cs wm du p T H k)(e:Ev)(hg:(Lit.int .i64 e.g).wf=true)(hf:st.f e.g=some (t,b))(hb:h b=some l)(hM:∀m,H m→max (nth l t) (nth m t)<(st.M:Int))(hk:k≤9000):
 Calls Tryz.prog 49 #[.pointer (some ⟨S,0,none⟩),En.evv e] w fun r w'=>∃R L m lb h' cs' wm' du' p',EvP w w' S B st h es T H k cs.length t b l false true r R L m lb h' cs' wm' du' p':=by
 have B2:=hide (s.bx e)
 have LE:=hide ((s.two e).learn e.g hg t b l hf hb (q:=none) fun _ q=>nomatch q)
 have HF:=hide (And.intro hg (And.intro hf (And.intro hb (And.intro hM hk))))
 have c1:((w.alloc (.cells #[.int .i64 e.k,.int .i64 e.g,.int .i64 e.c,.int .i64 e.a,.int .i64 e.v,.int .i64 e.m,.bool e.s,.bool e.o] 40)).alloc (.cells #[.int .u64 0,.slice none 0 0] 38)).cell? ⟨w.heap.size,1,none⟩=some (.int .i64 e.g):=cell_of B2.out.e0 1
 unfold Sl.clv at LE
 unfold En.evv En.evc
 clear s hg hf hb hM hk
 go_enter Tryz.func49,Tryz.ntmps49
 go_wp2_with fail
 refine LE.out.mono ?_
 rintro r w2 ⟨R,L,m,h1,rfl,le⟩
 obtain⟨ev,hev⟩:∃z,epk (t:Int) (nth L t)=z:=⟨_,rfl⟩
 obtain⟨n,hn⟩:∃n,L.length=n:=⟨_,rfl⟩
 rw[hev,hn]
 have HE:=hide (And.intro hev hn)
 have LP:=hide le
 have b3:=below_alloc w2 (.cells #[.int .u64 ev,.slice (some ⟨R,0,none⟩) n n] 38)
 have S3:=hide (le.sq.box (.cells #[.int .u64 ev,.slice (some ⟨R,0,none⟩) n n] 38))
 have E3:=hide (heap_new w2 (.cells #[.int .u64 ev,.slice (some ⟨R,0,none⟩) n n] 38))
 have B3:=hide ((B2.out.step le.kp fun _ q=>.inl q).below b3)
 have A3:=hide (le.at_.below b3)
 have v1:(w2.alloc (.cells #[.int .u64 ev,.slice (some ⟨R,0,none⟩) n n] 38)).cell? ⟨w.heap.size,1,none⟩=some (.int .i64 e.g):=cell_of B3.out.e0 1
 have v3:=(S3.out.look HF.out.1).1
 have TE:=hide (fun u (q:Below (w2.alloc (.cells #[.int .u64 ev,.slice (some ⟨R,0,none⟩) n n] 38)).heap.size (w2.alloc (.cells #[.int .u64 ev,.slice (some ⟨R,0,none⟩) n n] 38)) u)=>(S3.out.below q).tell e.g HF.out.1 t b L HF.out.2.1 LP.out.hb (by rw[LP.out.mx];exact HF.out.2.2.2.1 m LP.out.hm))
 have LT:=hide (show w.heap.size+1<R by have:=LP.out.new;have:w.heap.size+1<((w.alloc (.cells #[.int .i64 e.k,.int .i64 e.g,.int .i64 e.c,.int .i64 e.a,.int .i64 e.v,.int .i64 e.m,.bool e.s,.bool e.o] 40)).alloc (.cells #[.int .u64 0,.slice none 0 0] 38)).heap.size:=B2.out.lt2;omega)
 have HK:=hide (show k≤10000 by have:=HF.out.2.2.2.2;omega)
 clear le LE b3 hev hn
 go_upto_region 2 with fail
 generalize w2.alloc (.cells #[.int .u64 ev,.slice (some ⟨R,0,none⟩) n n] 38)=w3 at*
 generalize w2.heap.size=Q at*
 go_region_held3 (fun w'=>w'.cell? ⟨S,3,none⟩=some (.map (some p.MW))∧w'.cell? ⟨w.heap.size,1,none⟩=some (.int .i64 e.g))
  (first|(go_keep;done)|exact⟨v3,v1⟩|exact⟨q1,q2⟩|exact⟨z1,z2⟩)
  (first
    |(go_at_call 87;refine (TE.out _ (Ba.bdrew1 _)).mono ?_;rintro r w4 ⟨A,l',h4,rfl,te⟩;have q1:=(te.sq.look HF.out.1).1;have q2:=cell_blk (w:=w3) v1 (te.kp.block w.heap.size (.inl (.inl (.inl (.inl (.inr rfl))))));obtain⟨w5,mu,sq5,kp5⟩:=te.sq.put HF.out.1 te.fv HK.out;have z1:=(sq5.look HF.out.1).1;have z2:=cell_blk q2 (kp5.block w.heap.size (.inl (.inl (.inl (.inr rfl)))));have TP:=hide te;clear te))
 rename_i hh
 clear hh z1 z2 q1 q2 v1 v3 TE
 have B5:=hide (((B3.out.below (Ba.bdrew1 w3)).step TP.out.kp fun _ q=>.inl (.inl (.inl q))).step kp5 fun _ q=>.inl (.inl q))
 have e5:=kp_heap kp5 (kp_heap TP.out.kp E3.out (.inl (.inr rfl))) (.inr rfl)
 have f0:w5.frozen? ⟨w.heap.size+1,0,none⟩=false:=frozen_of B5.out.z0 0
 have f1:w5.frozen? ⟨w.heap.size+1,1,none⟩=false:=frozen_of B5.out.z0 1
 have d0:w5.cell? ⟨w.heap.size+1,0,none⟩=some (.int .u64 0):=cell_of B5.out.z0 0
 have d1:w5.cell? ⟨w.heap.size+1,1,none⟩=some (.slice none 0 0):=cell_of B5.out.z0 1
 have g0:w5.cell? ⟨Q,0,none⟩=some (.int .u64 ev):=cell_of e5 0
 have g1:w5.cell? ⟨Q,1,none⟩=some (.slice (some ⟨R,0,none⟩) n n):=cell_of e5 1
 have SQ5:=hide (And.intro sq5 kp5)
 clear sq5 kp5 e5
 go_wp2_with fail
 have lt:=LT.out
 exact bodyPost_ret (En.results_row1 Tryz.results49 _ _ _ _ rfl (loadVar_stp (two_set _ _ B5.out.z0 rfl) rfl)) rfl ⟨R,L,m,l',h4,cs,_,du,p,by rw[HE.out.1,HE.out.2],st2A (atK (atK (A3.out.below (Ba.bdrew1 w3)) TP.out.kp (.inl (.inl (.inr rfl)))) SQ5.out.2 (.inl (.inr rfl))) (by omega) _ _,by omega,(SQ5.out.1.fill _ _ (.inl (.inl (.inr rfl))) fun j q=>by rcases q with q|q;exact .inl (.inl (.inl (.inl q)));exact .inl (.inr q)).up (by omega),B5.out.fill _ _,LP.out.hm,LP.out.mx,fun _=>LP.out.no rfl,TP.out.hb,TP.out.set,LP.out.one.trans TP.out.one,rfl,LP.out.cn⟩
set_option maxRecDepth 100000 in
theorem wake_ok(s:SQ w S B st h es cs wm du p T H k)(e:Ev)(hg:(Lit.int .i64 e.g).wf=true)(hf:st.f e.g=some (t,b))(hb:h b=some l)(hc:e.o=false→∃(i P z:Nat),e.c=(i:Int)∧ChAt cs i P z):
 Calls Tryz.prog 50 #[.pointer (some ⟨S,0,none⟩),En.evv e] w fun r w'=>∃R L m lb h' cs' wm' du' p',EvP w w' S B st h es T H k cs.length t b l true false r R L m lb h' cs' wm' du' p':=by
 have B2:=hide (s.bx e)
 have S2:=hide (s.two e)
 have HF:=hide (And.intro hg (And.intro hf hb))
 have v4:=(S2.out.ss.cellS).2
 have FD:=hide (fun c (q:du=some c)=>S2.out.kp c (.inr (.inr q)))
 obtain⟨pd,hpd⟩:∃pd,Sl.clv du=.pointer pd:=by cases du<;>exact⟨_,rfl⟩
 have HP:=hide hpd
 rw[hpd] at v4
 have v1:((w.alloc (.cells #[.int .i64 e.k,.int .i64 e.g,.int .i64 e.c,.int .i64 e.a,.int .i64 e.v,.int .i64 e.m,.bool e.s,.bool e.o] 40)).alloc (.cells #[.int .u64 0,.slice none 0 0] 38)).cell? ⟨w.heap.size,1,none⟩=some (.int .i64 e.g):=cell_of B2.out.e0 1
 unfold En.evv En.evc
 obtain⟨o,ho⟩:∃o,e.o=o:=⟨_,rfl⟩
 have HO:=hide ho
 have v7:((w.alloc (.cells #[.int .i64 e.k,.int .i64 e.g,.int .i64 e.c,.int .i64 e.a,.int .i64 e.v,.int .i64 e.m,.bool e.s,.bool e.o] 40)).alloc (.cells #[.int .u64 0,.slice none 0 0] 38)).cell? ⟨w.heap.size,7,none⟩=some (.bool o):=by rw[←ho];exact cell_of B2.out.e0 7
 clear s hg hf hb hpd ho
 go_enter Tryz.func50,Tryz.ntmps50
 go_upto_if 12 with fail
 generalize (w.alloc (.cells #[.int .i64 e.k,.int .i64 e.g,.int .i64 e.c,.int .i64 e.a,.int .i64 e.v,.int .i64 e.m,.bool e.s,.bool e.o] 40)).alloc (.cells #[.int .u64 0,.slice none 0 0] 38)=w1 at*
 go_cut [5] (fun s5 wx=>∃pq q h2 cs2,s5=.pointer pq∧Sl.clv q=.pointer pq∧(∀c,q=some c→FV st h2 H c)∧Sl.Ext h h2∧SQ wx S B st h2 es cs2 wm du p (T2 w T) H (k+1)∧Bx w wx T e∧cs2.length=cs.length)
 case first=>
  cases o
  ·obtain⟨i,P,z,hc,hi⟩:=hc HO.out
   have il:i<cs.length:=by obtain⟨x,hx,-⟩:=hi;exact (List.getElem?_eq_some_iff.1 hx).1
   have v2:w1.cell? ⟨w.heap.size,2,none⟩=some (.int .i64 (i:Int)):=by rw[←hc];exact cell_of B2.out.e0 2
   obtain⟨cb,hco,y2,-,yp⟩:=S2.out.chan hi
   have HCO:=hide hco
   have i0:(0:Int)≤(i:Int):=by omega
   have i1:(i:Int)<(cs.length:Int):=by omega
   have CL:=hide ((S2.out.below (Ba.bdrew1 _)).closed hi)
   clear hi hc hco
   go_upto_region 3 with fail
   go_region_held3 (fun w'=>w'.cell? ⟨S,2,none⟩=some (.slice (some ⟨cb,0,none⟩) cs.length p.cc)∧w'.cell? ⟨w.heap.size,2,none⟩=some (.int .i64 (i:Int))∧w'.cell? ⟨cb,i*2+1,none⟩=some (.pointer (some ⟨P,0,none⟩)))
    (first|(go_keep;done)|exact⟨y2,v2,yp⟩|exact⟨q1,q2,q3⟩)
    (first
      |(go_at_call 94;refine CL.out.mono ?_;rintro r w2 ⟨q,E,h2,cs2,rfl,op⟩;have q1:=cell_blk (w:=w1) y2 (op.kp.block S (.inr (.inl rfl)));have q2:=cell_blk (w:=w1) v2 (op.kp.block w.heap.size (.inl (.inl (.inr rfl))));have q3:=cell_blk (w:=w1) yp (op.kp.block cb (.inr (.inr (.inl ⟨_,HCO.out,rfl⟩))))))
   rename_i hh
   clear hh q1 q2 q3 y2 v2 yp v1 v4 v7 CL
   obtain⟨pq,hpq⟩:∃pq,Sl.clv q=.pointer pq:=by cases q<;>exact⟨_,rfl⟩
   have HQ:=hide hpq
   have OP:=hide op
   rw[hpq]
   clear hpq op
   go_wp2_with fail
   go_meet
   case rel=>exact⟨pq,q,h2,cs2,rfl,HQ.out,OP.out.fv,OP.out.ext,OP.out.sq,(B2.out.below (Ba.bdrew1 _)).step OP.out.kp fun _ q=>.inl q,OP.out.len⟩
  ·go_wp2_with fail
   go_meet
   case rel=>exact⟨pd,du,h,cs,rfl,HP.out,FD.out,Sl.Ext.refl h,S2.out.up (Nat.le_succ _),B2.out,rfl⟩
 case rest=>
 obtain⟨pq,q,h2,cs2,e5,hq,fv,ext,sq,bx,hlen⟩:=hcut
 have HLN:=hide hlen
 obtain rfl:=e5
 have P3:=hide (And.intro hq (And.intro fv (And.intro ext bx)))
 have y4:=sq.ss.cellS.2
 rw[HP.out] at y4
 obtain⟨s3,k3,f4⟩:=sq.due (du':=none) (fun _ q=>nomatch q)
 unfold Sl.clv at s3 k3
 have s4:=s3.below (Ba.bdrew1 _)
 obtain⟨w4,dr,s5,k5⟩:=s4.drop HF.out.1 0
 have SQ5:=hide s5
 have E3:=hide ext
 have FQ:=hide fv
 have B5:=hide (((bx.step k3 fun _ q=>q).below (Ba.bdrew1 _)).step k5 fun _ q=>q)
 have y3:=(s4.look HF.out.1).1
 have y1:(wc.setCell ⟨S,4,none⟩ (.pointer none)).drew.cell? ⟨w.heap.size,1,none⟩=some (.int .i64 e.g):=cell_of ((bx.step k3 fun _ q=>q).below (Ba.bdrew1 _)).e0 1
 have y5:w4.cell? ⟨w.heap.size,1,none⟩=some (.int .i64 e.g):=cell_of B5.out.e0 1
 have LE:=hide (s5.learn e.g HF.out.1 t b l HF.out.2.1 (ext _ _ HF.out.2.2) (q:=q) fv)
 rw[hq] at LE
 clear s3 k3 s4 s5 k5 sq bx P3 v1 v4 v7 hq fv ext hlen
 go_wp2_with fail
 go_region
 go_wp2_with fail
 refine LE.out.mono ?_
 rintro r w6 ⟨R,L,m,h6,rfl,le⟩
 have B6:=hide (B5.out.step le.kp fun _ q=>.inl q)
 have f0:w6.frozen? ⟨w.heap.size+1,0,none⟩=false:=frozen_of B6.out.z0 0
 have f1:w6.frozen? ⟨w.heap.size+1,1,none⟩=false:=frozen_of B6.out.z0 1
 have d0:w6.cell? ⟨w.heap.size+1,0,none⟩=some (.int .u64 0):=cell_of B6.out.z0 0
 have d1:w6.cell? ⟨w.heap.size+1,1,none⟩=some (.slice none 0 0):=cell_of B6.out.z0 1
 have LT:=hide (show w.heap.size+1<R by have:=le.new;have:=B5.out.lt2;omega)
 have LP:=hide le
 clear le y5 LE
 go_wp2_with fail
 have lt:=LT.out
 exact bodyPost_ret (En.results_row1 Tryz.results50 _ _ _ _ rfl (loadVar_stp (two_set _ _ B6.out.z0 rfl) rfl)) rfl ⟨R,L,m,L,h6,cs2,_,none,p,rfl,st2A LP.out.at_ (by omega) _ _,by omega,(LP.out.sq.fill _ _ (.inl (.inr rfl)) fun j q=>by rcases q with q|q;exact .inl (.inl (.inl q));exact .inr q).up (by omega),B6.out.fill _ _,LP.out.hm,LP.out.mx,(fun q=>nomatch q),LP.out.hb,rfl,(One.ext E3.out).trans LP.out.one,HLN.out,LP.out.cn⟩
end
end Sp
end Go.Proofs.YtogkjaekfhjelaaGreat
