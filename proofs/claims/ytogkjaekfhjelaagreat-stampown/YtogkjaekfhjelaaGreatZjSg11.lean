import Derived.Test.YtogkjaekfhjelaaGreatZjSg8
import Derived.Test.YtogkjaekfhjelaaGreatZjSg10
import Derived.Deep.RegionHeld3
import Derived.Deep.DeepCutAuto
import Derived.Deep.RegionLaw
import Derived.Maps.AppendAt
import Derived.OwnWalk
import Derived.Lib.AppendZeros
import Derived.Lib.Slices
set_option maxHeartbeats 12800000
namespace Go.Proofs.YtogkjaekfhjelaaGreat
namespace Gu
open En
def there(p:List Ev):Nat:=1+p.countP (fun x=>decide (x.k=1))
def exitF(g:Int)(p:List Ev):Bool:=p.any fun x=>decide (x.g=g)&&decide (x.k=11)
def wstep(g:Int)(b:Bool)(x:Ev):Bool:=if x.g≠g then b else if x.k=6 then true else if x.k=7 then false else b
def waitsF(g:Int)(p:List Ev):Bool:=p.foldl (wstep g) false
def panF(p:List Ev):Bool:=p.any fun x=>decide (x.k=12)
def crew(p:List Ev)(e:Ev):Bool:=
 !panF p&&(decide (e.k=13)||(decide (e.g<there p)&&!exitF e.g p&&(decide (e.k=12)||waitsF e.g p==decide (e.k=7))&&(decide (e.k≠1)||decide (e.m=there p))))
theorem there_app(p:List Ev)(e:Ev):there (p++[e])=there p+if e.k=1 then 1 else 0:=by
 simp only[there,List.countP_append,List.countP_cons,List.countP_nil,decide_eq_true_eq];omega
theorem exit_app(g:Int)(p:List Ev)(e:Ev):exitF g (p++[e])=(exitF g p||(decide (e.g=g)&&decide (e.k=11))):=by
 simp[exitF]
theorem waits_app(g:Int)(p:List Ev)(e:Ev):waitsF g (p++[e])=wstep g (waitsF g p) e:=by
 simp[waitsF]
theorem pan_app(p:List Ev)(e:Ev):panF (p++[e])=(panF p||decide (e.k=12)):=by simp[panF]
def may(t k:Int):Bool:=if k=7 then decide (t=1) else if k=12 then decide (t≠2) else decide (t=0)
def r2(st:List Int)(pn:Bool)(e:Ev):Option (List Int × Bool):=
 if pn then none
 else if e.k=13 then some (st,pn)
 else if (st.length:Int)≤e.g then none
 else if may (st.getD e.g.toNat 0) e.k=false then none
 else if e.k=1 then if e.m≠st.length then none else some (st++[0],pn)
 else if e.k=6 then some (st.set e.g.toNat 1,pn)
 else if e.k=7 then some (st.set e.g.toNat 0,pn)
 else if e.k=11 then some (st.set e.g.toNat 2,pn)
 else if e.k=12 then some (st,true)
 else some (st,pn)
def is(g:Int)(p:List Ev):Int:=if exitF g p then 2 else if waitsF g p then 1 else 0
structure IC(p:List Ev)(st:List Int)(pn:Bool):Prop where
 len:st.length=there p
 at_:∀g:Nat,g<st.length→st.getD g 0=is g p
 few:∀g:Nat,st.length≤g→exitF g p=false∧waitsF g p=false
 pn:pn=panF p
theorem IC.nil:IC [] [0] false:=⟨rfl,fun g h=>by
 have:g=0:=by simp at h;exact h
 subst this;rfl,fun _ _=>⟨rfl,rfl⟩,rfl⟩
theorem is_app_other{g:Int}{p:List Ev}{e:Ev}(h:e.g≠g):is g (p++[e])=is g p:=by
 simp[is,exit_app,waits_app,wstep,h]
theorem ew_app_other{g:Int}{p:List Ev}{e:Ev}(h:e.g≠g):exitF g (p++[e])=exitF g p∧waitsF g (p++[e])=waitsF g p:=by
 simp[exit_app,waits_app,wstep,h]
theorem may_is(g:Int)(p:List Ev)(k:Int):may (is g p) k=(!exitF g p&&(decide (k=12)||waitsF g p==decide (k=7))):=by
 unfold may is
 by_cases h7:k=7
 ·subst h7;cases exitF g p<;>cases waitsF g p<;>simp
 ·by_cases h12:k=12
  ·subst h12;cases exitF g p<;>cases waitsF g p<;>simp
  ·cases exitF g p<;>cases waitsF g p<;>simp[h7,h12]
theorem r2_some{p:List Ev}{st:List Int}{pn:Bool}(I:IC p st pn)(e:Ev)(hg:e.k≠13→0≤e.g):(r2 st pn e).isSome=crew p e:=by
 unfold r2 crew
 rw[←I.pn]
 cases pn
 case true=>simp
 case false=>
 by_cases h13:e.k=13
 ·simp[h13]
 ·have g0:=hg h13
  by_cases hl:(st.length:Int)≤e.g
  ·have:¬(e.g<there p):=by rw[←I.len];omega
   simp[h13,hl,this]
  ·have hlt:e.g<there p:=by rw[←I.len];omega
   have hn:e.g.toNat<st.length:=by omega
   have hat:=I.at_ _ hn
   have ge:((e.g.toNat:Nat):Int)=e.g:=by omega
   rw[ge] at hat
   rw[hat,may_is]
   cases hm:(!exitF e.g p&&(decide (e.k=12)||waitsF e.g p==decide (e.k=7)))
   ·simp only[Bool.and_assoc] at hm ⊢
    simp[h13,hl,hlt]
    revert hm
    cases exitF e.g p<;>simp
    intro a b
    simp[a,b]
   ·have hx:exitF e.g p=false:=by revert hm;cases exitF e.g p<;>simp
    have hw:(decide (e.k=12)||waitsF e.g p==decide (e.k=7))=true:=by revert hm;rw[hx];simp
    rw[if_neg (by simp),if_neg h13,if_neg hl,if_neg (by simp)]
    have R:(!false&&(decide (e.k=13)||(decide (e.g<there p)&&!exitF e.g p&&(decide (e.k=12)||waitsF e.g p==decide (e.k=7))&&(decide (e.k≠1)||decide (e.m=there p)))))=(decide (e.k≠1)||decide (e.m=there p)):=by
     rw[hx,hw,decide_eq_true hlt,decide_eq_false h13];simp
    rw[R,←I.len]
    by_cases h1:e.k=1
    ·rw[if_pos h1]
     by_cases hm':e.m=st.length<;>simp[h1,hm']
    ·rw[if_neg h1]
     have:(decide (e.k≠1)||decide (e.m=(st.length:Int)))=true:=by simp[h1]
     rw[this]
     repeat' split
     all_goals rfl
theorem IC.same{p:List Ev}{st:List Int}{pn:Bool}(I:IC p st pn)(e:Ev)(h:e.k≠1)(h6:e.k≠6)(h7:e.k≠7)(h11:e.k≠11):IC (p++[e]) st (pn||decide (e.k=12)):=by
 have hi:∀g,exitF g (p++[e])=exitF g p∧waitsF g (p++[e])=waitsF g p:=fun g=>by
  simp[exit_app,waits_app,wstep,h6,h7,h11]
 refine⟨?_,fun g hg=>?_,fun g hg=>?_,?_⟩
 ·rw[there_app,I.len];simp[h]
 ·rw[I.at_ g hg];simp[is,hi]
 ·rw[(hi g).1,(hi g).2];exact I.few g hg
 ·rw[pan_app,I.pn]
theorem IC.set{p:List Ev}{st:List Int}{pn:Bool}(I:IC p st pn)(e:Ev)(h0:0≤e.g)(hl:e.g<st.length)(h1:e.k≠1)(h12:e.k≠12)(x:Int)(hx:is e.g (p++[e])=x):IC (p++[e]) (st.set e.g.toNat x) pn:=by
 refine⟨?_,fun g hg=>?_,fun g hg=>?_,?_⟩
 ·rw[List.length_set,there_app,I.len];simp[h1]
 ·rw[List.length_set] at hg
  by_cases hge:e.g.toNat=g
  ·subst hge
   have ge:((e.g.toNat:Nat):Int)=e.g:=by omega
   rw[ge,hx]
   simp[List.getD_eq_getElem?_getD,hg]
  ·have ne:e.g≠(g:Int):=by omega
   rw[is_app_other ne,←I.at_ g hg]
   simp[List.getD_eq_getElem?_getD,List.getElem?_set_ne hge]
 ·rw[List.length_set] at hg
  have ne:e.g≠(g:Int):=by omega
  rw[(ew_app_other ne).1,(ew_app_other ne).2]
  exact I.few g hg
 ·rw[pan_app,I.pn];simp[h12]
theorem r2_keeps{p:List Ev}{st:List Int}{pn:Bool}(I:IC p st pn)(e:Ev)(hg:e.k≠13→0≤e.g){st':List Int}{pn':Bool}(h:r2 st pn e=some (st',pn')):IC (p++[e]) st' pn':=by
 unfold r2 at h
 cases pn
 case true=>simp at h
 case false=>
 by_cases h13:e.k=13
 ·simp[h13] at h
  obtain⟨rfl,rfl⟩:=h
  have:=I.same e (by omega) (by omega) (by omega) (by omega)
  simpa [h13] using this
 ·have g0:=hg h13
  by_cases hl:(st.length:Int)≤e.g
  ·simp[h13,hl] at h
  have hn:e.g.toNat<st.length:=by omega
  have hat:=I.at_ _ hn
  have ge:((e.g.toNat:Nat):Int)=e.g:=by omega
  rw[ge] at hat
  rw[hat] at h
  have hl':e.g<st.length:=by omega
  by_cases hm:may (is e.g p) e.k=false
  ·simp[h13,hl,hm] at h
  rw[if_neg (by simp),if_neg h13,if_neg hl,if_neg hm] at h
  have hm':may (is e.g p) e.k=true:=by simpa using hm
  rw[may_is] at hm'
  have hx:exitF e.g p=false:=by revert hm';cases exitF e.g p<;>simp
  by_cases h1:e.k=1
  ·rw[if_pos h1] at h
   by_cases hmm:e.m=st.length
   ·simp[hmm] at h
    obtain⟨rfl,rfl⟩:=h
    have hi:∀g,exitF g (p++[e])=exitF g p∧waitsF g (p++[e])=waitsF g p:=fun g=>by
     simp[exit_app,waits_app,wstep,h1]
    refine⟨?_,fun g hg=>?_,fun g hg=>?_,?_⟩
    ·rw[there_app,List.length_append,I.len];simp[h1]
    ·simp only[is,hi]
     by_cases hlt:g<st.length
     ·have:=I.at_ g hlt
      simp only[is] at this
      rw[←this]
      simp[List.getD_eq_getElem?_getD,List.getElem?_append_left hlt]
     ·have he:g=st.length:=by simp at hg;omega
      have:=I.few g (by omega)
      rw[this.1,this.2]
      subst he
      simp[List.getD_eq_getElem?_getD]
    ·rw[(hi g).1,(hi g).2]
     exact I.few g (by simp at hg;omega)
    ·rw[pan_app,←I.pn];simp[h1]
   ·simp[hmm] at h
  rw[if_neg h1] at h
  by_cases h6:e.k=6
  ·rw[if_pos h6] at h
   obtain⟨rfl,rfl⟩:=by simpa using h
   exact I.set e g0 hl' h1 (by omega) 1 (by simp[is,exit_app,waits_app,wstep,h6,hx])
  rw[if_neg h6] at h
  by_cases h7:e.k=7
  ·rw[if_pos h7] at h
   obtain⟨rfl,rfl⟩:=by simpa using h
   exact I.set e g0 hl' h1 (by omega) 0 (by simp[is,exit_app,waits_app,wstep,h7,hx])
  rw[if_neg h7] at h
  by_cases h11:e.k=11
  ·rw[if_pos h11] at h
   obtain⟨rfl,rfl⟩:=by simpa using h
   exact I.set e g0 hl' h1 (by omega) 2 (by simp[is,exit_app,h11])
  rw[if_neg h11] at h
  have S:=I.same e h1 h6 h7 h11
  by_cases h12:e.k=12
  ·rw[if_pos h12] at h
   obtain⟨rfl,rfl⟩:=by simpa using h
   simpa [h12] using S
  ·rw[if_neg h12] at h
   obtain⟨rfl,rfl⟩:=by simpa using h
   simpa [h12] using S
def serves(e:Ev):Bool:=(decide (e.k=3)||decide (e.k=4))&&decide (0≤e.m)
def servF(s e:Ev):Bool:=decide (e.k=7)&&decide (e.g=s.m)&&decide (e.m=s.g)&&decide (e.c=s.c)&&(e.s !=s.s)&&e.o&&(!s.s||decide (e.v=s.v))
def back(e:Ev):List Ev→Bool
 |[]=>false
 |x::r=>if x.k=5 then decide (x.g=e.m)&&decide (x.c=e.c) else if x.k≠7 then false else if (r.head?.any serves) then false else back e r
def wakeF(r:List Ev)(e:Ev):Bool:=if e.k≠7 then true else if e.o||e.s then false else back e r
def served(r:List Ev)(e:Ev):Bool:=match r with
 |[]=>wakeF [] e
 |s::r'=>if serves s then servF s e else wakeF (s::r') e
def owed(x:Ev):Bool:=(decide (x.k=3)||decide (x.k=4))&&decide (x.m≠-1)
def servP(s e:Ev):Bool:=
 if e.k≠7∨e.g≠s.m∨e.m≠s.g∨e.c≠s.c∨e.o=false then false
 else if s.k=4 then e.s else !e.s&&decide (e.v=s.v)
def closeP(la e:Ev):Bool:=decide (la.k=5)&&decide (e.m=la.g)&&decide (e.c=la.c)&&!e.s&&!e.o
def r4(la e:Ev):Option Ev:=
 if owed la then if servP la e then some e else none
 else if e.k≠7 then some e
 else if closeP la e then some la else none
structure Fit(e:Ev):Prop where
 g:e.k≠13→0≤e.g
 c:e.k=2∨e.k=3∨e.k=4∨e.k=5→0≤e.c
 m:-1≤e.m
 s3:e.k=3→e.s=true
 s4:e.k=4→e.s=false
 v:e.k=2→0≤e.v
def ev0:Ev:=⟨0,0,0,0,0,0,false,false⟩
structure IS(r:List Ev)(la:Ev):Prop where
 ow:owed la=r.head?.any serves
 eq:owed la=true→r.head? =some la
 fit:Fit la
 bk:owed la=false→∀e:Ev,back e r=(decide (la.k=5)&&decide (la.g=e.m)&&decide (la.c=e.c))
theorem Fit.zero:Fit ev0:=⟨fun _=>by decide,fun _=>by decide,by decide,fun h=>by revert h;decide,fun h=>by revert h;decide,fun h=>by revert h;decide⟩
theorem IS.nil:IS [] ev0:=⟨rfl,fun h=>absurd h (by decide),Fit.zero,fun _ e=>by simp[back,ev0]⟩
theorem owed_serves{e:Ev}(f:Fit e):owed e=serves e:=by
 have:=f.m
 unfold owed serves
 by_cases h:e.m=-1
 ·simp[h]
 ·have:0≤e.m:=by omega
  simp[h,this]
theorem serv_eq{s e:Ev}(f:Fit s)(h:serves s=true):servP s e=servF s e:=by
 have hk:s.k=3∨s.k=4:=by
  unfold serves at h
  simp at h
  exact h.1
 unfold servP servF
 by_cases a1:e.k=7<;>by_cases a2:e.g=s.m<;>by_cases a3:e.m=s.g<;>by_cases a4:e.c=s.c<;>simp[a1,a2,a3,a4]
 rcases hk with hk|hk
 ·rw[f.s3 hk]
  cases e.o<;>cases e.s<;>simp[hk]
 ·rw[f.s4 hk]
  cases e.o<;>cases e.s<;>simp[hk]
theorem r4_some{r:List Ev}{la:Ev}(I:IS r la)(e:Ev):(r4 la e).isSome=served r e:=by
 unfold r4
 cases ho:owed la
 ·have hh:=I.ow
  rw[ho] at hh
  have hw:served r e=wakeF r e:=by
   cases r with
   |nil=>rfl
   |cons s r'=>
    have hs:serves s=false:=by simpa using hh.symm
    simp[served,hs]
  rw[hw,if_neg (by simp)]
  unfold wakeF
  by_cases h7:e.k=7
  ·have n7:¬(e.k≠7):=fun q=>q h7
   rw[if_neg n7,if_neg n7,I.bk ho e]
   unfold closeP
   rw[show decide (e.m=la.g)=decide (la.g=e.m) from decide_eq_decide.2 eq_comm,show decide (e.c=la.c)=decide (la.c=e.c) from decide_eq_decide.2 eq_comm]
   cases e.o<;>cases e.s<;>cases decide (la.k=5)<;>cases decide (la.g=e.m)<;>cases decide (la.c=e.c)<;>rfl
  ·rw[if_pos h7,if_pos h7];rfl
 ·have hr:=I.eq ho
  have hs:serves la=true:=by rw[←owed_serves I.fit];exact ho
  cases r with
  |nil=>simp at hr
  |cons s r'=>
   simp only[List.head?_cons,Option.some.injEq] at hr
   subst hr
   rw[if_pos rfl]
   simp only[served,hs,if_true]
   rw[serv_eq I.fit hs]
   cases servF s e<;>rfl
theorem r4_keeps{r:List Ev}{la:Ev}(I:IS r la)(e:Ev)(f:Fit e){la':Ev}(h:r4 la e=some la'):IS (e::r) la':=by
 unfold r4 at h
 cases ho:owed la
 ·rw[ho,if_neg (by simp)] at h
  by_cases h7:e.k=7
  ·rw[if_neg (by simp[h7])] at h
   by_cases hc:closeP la e=true
   ·rw[if_pos hc] at h
    cases h
    have hk:la.k=5:=by revert hc;unfold closeP;simp;intro a;simp[a]
    have hn:serves e=false:=by simp[serves,h7]
    refine⟨?_,?_,I.fit,fun _ x=>?_⟩
    ·rw[ho];simp[hn]
    ·rw[ho];intro q;cases q
    ·have hh:=I.ow
     rw[ho] at hh
     rw[←I.bk ho x]
     simp[back,h7,←hh]
   ·rw[if_neg hc] at h;cases h
  ·rw[if_pos h7] at h
   cases h
   refine⟨?_,fun _=>rfl,f,fun _ x=>?_⟩
   ·rw[owed_serves f];simp
   ·by_cases h5:e.k=5
    ·simp[back,h5]
    ·simp[back,h5,h7]
 ·rw[ho,if_pos rfl] at h
  by_cases hv:servP la e=true
  ·rw[if_pos hv] at h
   cases h
   have h7:e.k=7:=by
    apply Classical.byContradiction
    intro q
    simp[servP,q] at hv
   refine⟨?_,fun _=>rfl,f,fun _ x=>?_⟩
   ·rw[owed_serves f];simp
   ·have hr:=I.ow
    rw[ho] at hr
    simp[back,h7,←hr]
  ·rw[if_neg hv] at h;cases h
def made(p:List Ev)(e:Ev):Bool:=if e.k=2 then decide (e.c=p.countP fun x=>decide (x.k=2)) else decide (e.c<p.countP fun x=>decide (x.k=2))
structure In where
 size:Int
 L:List Int
 closed:Bool
 right:Bool
def in0:In:=⟨0,[],false,true⟩
def moves(e:Ev):Bool:=decide (e.k=3)||(decide (e.k=4)&&e.o)
def put(L:List Int)(e:Ev)(nx:Option Ev):List Int:=
 if e.k=3 then L++[e.v] else if 0≤e.m then match nx with
  |some x=>L++[x.v]
  |none=>L
 else L
def mov(s:In)(e:Ev)(nx:Option Ev):In:=
 if e.k=4∨0≤e.m then match put s.L e nx with
  |v::r=>⟨s.size,r,s.closed,decide (v=e.v)&&decide ((r.length:Int)≤s.size)⟩
  |[]=>⟨s.size,[],s.closed,(decide (0≤e.m)&&nx.isNone)&&decide (0≤s.size)⟩
 else⟨s.size,put s.L e nx,s.closed,decide (((put s.L e nx).length:Int)≤s.size)⟩
def ins(s:In)(c:Int)(e:Ev)(nx:Option Ev):In:=
 if e.c≠c then s
 else if moves e then mov s e nx
 else⟨if e.k=2 then e.v else s.size,s.L,if e.k=5 then true else s.closed,s.right⟩
def ordered(s:In)(e:Ev)(nx:Option Ev):Bool:=if moves e then (mov s e nx).right else true
def closedF(s:In)(e:Ev):Bool:=
 if e.k<3∨5<e.k then true
 else if e.k=4∧e.o=false then s.closed&&s.L.isEmpty
 else if e.k=4∧e.m<0 then true
 else !s.closed
structure Chn where
 cap:Int
 vs:List Int
 cl:Bool
def chz:Chn:=⟨0,[],false⟩
def r3(ch:List Chn)(e:Ev):Option (List Chn):=
 if e.k=2 then if e.c≠ch.length then none else some (ch++[⟨e.v,[],false⟩])
 else if e.c<ch.length then some ch else none
def putP(c:Chn)(e:Ev)(nx:Option Ev):List Int:=
 if e.k=3 then c.vs++[e.v] else if e.m≠-1 then match nx with
  |some x=>c.vs++[x.v]
  |none=>c.vs
 else c.vs
def r5c(c:Chn)(e:Ev)(nx:Option Ev):Option Chn:=
 if e.k=4∨e.m≠-1 then match putP c e nx with
  |[]=>if e.m≠-1 then some c else none
  |v::r=>if v≠e.v then none else if (r.length:Int)≤c.cap then some ⟨c.cap,r,c.cl⟩ else none
 else if ((putP c e nx).length:Int)≤c.cap then some ⟨c.cap,putP c e nx,c.cl⟩ else none
def r5(ch:List Chn)(e:Ev)(nx:Option Ev):Option (List Chn):=
 if moves e then (r5c (ch.getD e.c.toNat chz) e nx).map fun c=>ch.set e.c.toNat c else some ch
def r6(ch:List Chn)(e:Ev):Option (List Chn):=
 let c:=ch.getD e.c.toNat chz
 if e.k=5 then if c.cl then none else some (ch.set e.c.toNat ⟨c.cap,c.vs,true⟩)
 else if e.k=3 then if c.cl then none else some ch
 else if e.k=4 then
  if e.o=false then if c.cl&&c.vs.isEmpty then some ch else none
  else if e.m=-1∨c.cl=false then some ch else none
 else some ch
def chOf(s:In):Chn:=⟨s.size,s.L,s.closed⟩
theorem put_eq{e:Ev}(f:Fit e)(s:In)(nx:Option Ev):putP (chOf s) e nx=put s.L e nx:=by
 unfold putP put chOf
 have:=f.m
 by_cases h:e.m=-1
 ·simp[h]
 ·have h':0≤e.m:=by omega
  simp[h,h']
theorem mov_size(s:In)(e:Ev)(nx:Option Ev):(mov s e nx).size=s.size:=by
 unfold mov;repeat' split
 all_goals rfl
theorem mov_closed(s:In)(e:Ev)(nx:Option Ev):(mov s e nx).closed=s.closed:=by
 unfold mov;repeat' split
 all_goals rfl
theorem r5c_is{e:Ev}(f:Fit e){s:In}(h0:0≤s.size)(nx:Option Ev):
 r5c (chOf s) e nx=if (mov s e nx).right then some (chOf (mov s e nx)) else none:=by
 unfold r5c mov
 rw[put_eq f]
 have fm:=f.m
 have e1:(e.k=4∨e.m≠-1)↔(e.k=4∨0≤e.m):=by
  constructor
  ·rintro (h|h)
   ·exact .inl h
   ·exact .inr (by omega)
  ·rintro (h|h)
   ·exact .inl h
   ·exact .inr (by omega)
 by_cases h:e.k=4∨0≤e.m
 ·rw[if_pos (e1.2 h),if_pos h]
  cases hp:put s.L e nx with
  |nil=>
   have hL:s.L=[]∧(0≤e.m→nx.isNone=true):=by
    unfold put at hp
    by_cases h3:e.k=3
    ·simp[h3] at hp
    ·simp only[h3,if_false] at hp
     by_cases hmm:0≤e.m
     ·rw[if_pos hmm] at hp
      cases nx with
      |none=>exact⟨hp,fun _=>rfl⟩
      |some x=>simp at hp
     ·rw[if_neg hmm] at hp
      exact⟨hp,fun q=>absurd q hmm⟩
   by_cases hmm:0≤e.m
   ·have:e.m≠-1:=by omega
    simp[this,hmm,hL.2 hmm,h0,chOf,hL.1]
   ·have:e.m=-1:=by omega
    simp[this]
  |cons v r=>
   by_cases hv:v=e.v
   ·by_cases hr:(r.length:Int)≤s.size
    ·simp[hv,hr,chOf]
    ·simp[hv,hr,chOf]
   ·simp[hv]
 ·rw[if_neg (fun q=>h (e1.1 q)),if_neg h]
  by_cases hr:((put s.L e nx).length:Int)≤s.size
  ·simp[hr,chOf]
  ·simp[hr,chOf]
structure IM(p:List Ev)(K:Int→In)(ch:List Chn):Prop where
 len:ch.length=p.countP fun x=>decide (x.k=2)
 at_:∀c:Nat,c<ch.length→ch.getD c chz=chOf (K c)∧0≤(K c).size
 few:∀c:Nat,ch.length≤c→K c=in0
theorem IM.nil:IM [] (fun _=>in0) []:=⟨rfl,fun _ h=>by simp at h,fun _ _=>rfl⟩
theorem r3_some{p:List Ev}{K:Int→In}{ch:List Chn}(I:IM p K ch)(e:Ev):(r3 ch e).isSome=made p e:=by
 unfold r3 made
 rw[←I.len]
 by_cases h:e.k=2
 ·by_cases hc:e.c=ch.length<;>simp[h,hc]
 ·by_cases hc:e.c<ch.length<;>simp[h,hc]
theorem IM.set{p:List Ev}{K:Int→In}{ch:List Chn}(I:IM p K ch)(e:Ev)(nx:Option Ev)(h2:e.k≠2)(h0:0≤e.c)(hl:e.c<ch.length)
 (x:Chn) (hx:x=chOf (ins (K e.c) e.c e nx)):IM (p++[e]) (fun c=>ins (K c) c e nx) (ch.set e.c.toNat x):=by
 have ce:((e.c.toNat:Nat):Int)=e.c:=by omega
 refine⟨?_,fun c hc=>?_,fun c hc=>?_⟩
 ·rw[List.length_set,I.len];simp[List.countP_append,h2]
 ·rw[List.length_set] at hc
  by_cases he:e.c.toNat=c
  ·subst he
   rw[ce]
   refine⟨?_,?_⟩
   ·rw[hx];simp[List.getD_eq_getElem?_getD,hc]
   ·have:=(I.at_ _ hc).2
    rw[ce] at this
    unfold ins
    rw[if_neg (by simp)]
    split
    ·rw[mov_size];exact this
    ·simpa [h2] using this
  ·have ne:e.c≠(c:Int):=by omega
   have:=I.at_ c hc
   simp only[ins,ne,ne_eq,not_false_eq_true,if_true]
   refine⟨?_,this.2⟩
   rw[←this.1]
   simp[List.getD_eq_getElem?_getD,List.getElem?_set_ne he]
 ·rw[List.length_set] at hc
  have ne:e.c≠(c:Int):=by omega
  simp only[ins,ne,ne_eq,not_false_eq_true,if_true]
  exact I.few c hc
theorem IM.rest{p:List Ev}{K:Int→In}{ch:List Chn}(I:IM p K ch)(e:Ev)(nx:Option Ev)(h2:e.k≠2)(h5:e.k≠5)(hm:moves e=false):IM (p++[e]) (fun c=>ins (K c) c e nx) ch:=by
 have hi:∀c,ins (K c) c e nx=K c:=fun c=>by
  unfold ins
  split
  ·rfl
  ·rw[hm];rfl
 simp only[hi]
 refine⟨?_,I.at_,I.few⟩
 rw[I.len];simp[List.countP_append,h2]
theorem IM.make{p:List Ev}{K:Int→In}{ch:List Chn}(I:IM p K ch)(e:Ev)(nx:Option Ev)(h2:e.k=2)(hc:e.c=ch.length)(hv:0≤e.v):IM (p++[e]) (fun c=>ins (K c) c e nx) (ch++[⟨e.v,[],false⟩]):=by
 have hm:moves e=false:=by simp[moves,h2]
 refine⟨?_,fun c hl=>?_,fun c hl=>?_⟩
 ·rw[List.length_append,I.len];simp[List.countP_append,h2]
 ·by_cases he:c=ch.length
  ·subst he
   have:=I.few ch.length (Nat.le_refl _)
   unfold ins
   rw[if_neg (by simp[hc]),hm,this]
   simp[List.getD_eq_getElem?_getD,chOf,in0,h2,hv]
  ·have hlt:c<ch.length:=by simp at hl;omega
   have ne:e.c≠(c:Int):=by omega
   have:=I.at_ c hlt
   simp only[ins,ne,ne_eq,not_false_eq_true,if_true]
   refine⟨?_,this.2⟩
   rw[←this.1]
   simp[List.getD_eq_getElem?_getD,List.getElem?_append_left hlt]
 ·have ne:e.c≠(c:Int):=by simp at hl;omega
  simp only[ins,ne,ne_eq,not_false_eq_true,if_true]
  exact I.few c (by simp at hl;omega)
theorem moves_k{e:Ev}(h:moves e=true):e.k=3∨(e.k=4∧e.o=true):=by
 unfold moves at h;simpa using h
theorem chans{p:List Ev}{K:Int→In}{ch:List Chn}(I:IM p K ch)(e:Ev)(f:Fit e)(nx:Option Ev){ch3:List Chn}(h3:r3 ch e=some ch3):
 (r5 ch3 e nx).isSome=ordered (K e.c) e nx∧∀ch5,r5 ch3 e nx=some ch5→(r6 ch5 e).isSome=closedF (K e.c) e∧∀ch6,r6 ch5 e=some ch6→IM (p++[e]) (fun c=>ins (K c) c e nx) ch6:=by
 unfold r3 at h3
 by_cases h2:e.k=2
 ·rw[if_pos h2] at h3
  by_cases hc:e.c=ch.length
  ·rw[if_neg (by simp[hc])] at h3
   cases h3
   have hm:moves e=false:=by simp[moves,h2]
   refine⟨by simp[r5,ordered,hm],fun ch5 h5=>?_⟩
   simp only[r5,hm] at h5
   cases h5
   refine⟨by simp[r6,closedF,h2],fun ch6 h6=>?_⟩
   simp[r6,h2] at h6
   subst h6
   exact I.make e nx h2 hc (f.v h2)
  ·rw[if_pos (by simpa using hc)] at h3;cases h3
 rw[if_neg h2] at h3
 by_cases hl:e.c<ch.length
 case neg=>rw[if_neg hl] at h3;cases h3
 rw[if_pos hl] at h3
 cases h3
 by_cases hk:e.k=3∨e.k=4∨e.k=5
 ·have h0:0≤e.c:=f.c (by omega)
  have hn:e.c.toNat<ch.length:=by omega
  have ce:((e.c.toNat:Nat):Int)=e.c:=by omega
  have ha:=I.at_ _ hn
  rw[ce] at ha
  by_cases hm:moves e=true
  ·have hr:r5 ch e nx=if (mov (K e.c) e nx).right then some (ch.set e.c.toNat (chOf (mov (K e.c) e nx))) else none:=by
    unfold r5
    rw[if_pos hm,ha.1,r5c_is f ha.2]
    cases (mov (K e.c) e nx).right<;>rfl
   rw[hr]
   refine⟨?_,fun ch5 h5=>?_⟩
   ·unfold ordered
    rw[if_pos hm]
    cases (mov (K e.c) e nx).right<;>rfl
   ·have hx:ch5=ch.set e.c.toNat (chOf (mov (K e.c) e nx)):=by
     revert h5
     cases (mov (K e.c) e nx).right<;>simp
     intro q;exact q.symm
    have hi:ins (K e.c) e.c e nx=mov (K e.c) e nx:=by simp[ins,hm]
    have hg:(ch.set e.c.toNat (chOf (mov (K e.c) e nx))).getD e.c.toNat chz=chOf (mov (K e.c) e nx):=by simp[List.getD_eq_getElem?_getD,hn]
    have hcl:(chOf (mov (K e.c) e nx)).cl=(K e.c).closed:=mov_closed _ _ _
    have IMs:=I.set e nx h2 h0 hl (chOf (mov (K e.c) e nx)) (by rw[hi])
    subst hx
    rcases moves_k hm with k3|⟨k4,ko⟩
    ·have hr6:r6 (ch.set e.c.toNat (chOf (mov (K e.c) e nx))) e=if (K e.c).closed then none else some (ch.set e.c.toNat (chOf (mov (K e.c) e nx))):=by
      unfold r6;simp only[hg,hcl];simp[k3]
     rw[hr6]
     refine⟨by simp[closedF,k3];cases (K e.c).closed<;>rfl,fun ch6 h6=>?_⟩
     revert h6
     cases (K e.c).closed<;>simp
     intro q;subst q;exact IMs
    ·have hr6:r6 (ch.set e.c.toNat (chOf (mov (K e.c) e nx))) e=if e.m=-1∨(K e.c).closed=false then some (ch.set e.c.toNat (chOf (mov (K e.c) e nx))) else none:=by
      unfold r6;simp only[hg,hcl];simp[k4,ko]
     rw[hr6]
     refine⟨?_,fun ch6 h6=>?_⟩
     ·have:=f.m
      by_cases hmm:e.m=-1
      ·simp[closedF,k4,ko,hmm]
      ·have:¬(e.m<0):=by omega
       simp only[closedF,k4,ko,hmm,this]
       cases (K e.c).closed<;>simp
     ·split at h6
      ·cases h6;exact IMs
      ·cases h6
  ·have hm:moves e=false:=by simpa using hm
   refine⟨by simp[r5,ordered,hm],fun ch5 h5=>?_⟩
   simp only[r5,hm] at h5
   cases h5
   by_cases k5:e.k=5
   ·have hr6:r6 ch e=if (K e.c).closed then none else some (ch.set e.c.toNat ⟨(K e.c).size,(K e.c).L,true⟩):=by
     unfold r6;simp only[ha.1];rw[if_pos k5];rfl
    rw[hr6]
    refine⟨by simp[closedF,k5];cases (K e.c).closed<;>rfl,fun ch6 h6=>?_⟩
    have IMs:=I.set e nx h2 h0 hl ⟨(K e.c).size,(K e.c).L,true⟩ (by simp[ins,hm,k5,chOf])
    revert h6
    cases (K e.c).closed<;>simp
    intro q;subst q;exact IMs
   ·have k4:e.k=4:=by
     rcases hk with q|q|q
     ·exact absurd hm (by simp[moves,q])
     ·exact q
     ·exact absurd q k5
    have ko:e.o=false:=by simpa [moves,k4] using hm
    have hr6:r6 ch e=if (K e.c).closed&&(K e.c).L.isEmpty then some ch else none:=by
     unfold r6;simp only[ha.1];simp[k4,ko,chOf]
    rw[hr6]
    refine⟨by simp only[closedF,k4,ko];cases ((K e.c).closed&&(K e.c).L.isEmpty)<;>simp,fun ch6 h6=>?_⟩
    split at h6
    ·cases h6;exact I.rest e nx h2 k5 hm
    ·cases h6
 ·have n3:e.k≠3:=fun q=>hk (.inl q)
  have n4:e.k≠4:=fun q=>hk (.inr (.inl q))
  have n5:e.k≠5:=fun q=>hk (.inr (.inr q))
  have hm:moves e=false:=by simp[moves,n3,n4]
  refine⟨by simp[r5,ordered,hm],fun ch5 h5=>?_⟩
  simp only[r5,hm] at h5
  cases h5
  have hcf:closedF (K e.c) e=true:=by
   unfold closedF
   rw[if_pos (by omega)]
  refine⟨by rw[hcf];simp[r6,n3,n4,n5],fun ch6 h6=>?_⟩
  simp[r6,n3,n4,n5] at h6
  subst h6
  exact I.rest e nx h2 n5 hm
theorem fit_of{e:Ev}(h:chk e=0):Fit e:=by
 have hk:¬(e.k<1∨13<e.k):=fun q=>by simp[chk,q] at h
 have hb:(ff e&&okF e)=true:=by
  apply Classical.byContradiction
  intro q
  simp[chk,hk,q] at h
 have hf:ff e=true:=by revert hb;cases ff e<;>simp
 have ho:okF e=true:=by revert hb;rw[hf];simp
 have o0:=okF_at ho 0 (by decide)
 have o1:=okF_at ho 1 (by decide)
 have o3:=okF_at ho 3 (by decide)
 have o4:=okF_at ho 4 (by decide)
 obtain⟨k,g,c,a,v,m,s,o⟩:=e
 simp only at hk
 have hc:k=1∨k=2∨k=3∨k=4∨k=5∨k=6∨k=7∨k=8∨k=9∨k=10∨k=11∨k=12∨k=13:=by omega
 clear h hk hb ho
 rcases hc with rfl|rfl|rfl|rfl|rfl|rfl|rfl|rfl|rfl|rfl|rfl|rfl|rfl<;>
  simp[okA,spn,fl,Ba.nth,inS,ml,mh,ff] at o0 o1 o3 o4 hf<;>
  (try (by_cases ha:a=-1<;>simp[ha] at o0 o1 o3 o4))<;>
  exact⟨fun q=>by simp at q ⊢<;>omega,fun q=>by simp at q ⊢<;>omega,by simp;omega,fun q=>by simp at q ⊢<;>simp_all,fun q=>by simp at q ⊢<;>simp_all,fun q=>by simp at q ⊢<;>omega⟩
def inn(l:List Ev):Nat→Int→In
 |0,_=>in0
 |n+1,c=>match l[n]? with
  |some e=>ins (inn l n c) c e l[n+1]?
  |none=>inn l n c
def ruleD(l:List Ev)(i:Nat)(e:Ev):Int:=
 if 2000≤i∨chk e≠0 then 1
 else if crew (l.take i) e=false then 2
 else if made (l.take i) e=false then 3
 else if served (l.take i).reverse e=false then 4
 else if ordered (inn l i e.c) e l[i+1]? =false then 5
 else if closedF (inn l i e.c) e=false then 6
 else 0
structure Gs where
 st:List Int
 pn:Bool
 ch:List Chn
 la:Ev
def stepG(s:Gs)(i:Nat)(e:Ev)(nx:Option Ev):Except Int Gs:=
 if 2000≤i∨chk e≠0 then .error 1
 else match r2 s.st s.pn e with
 |none=>.error 2
 |some (st,pn)=>match r3 s.ch e with
  |none=>.error 3
  |some ch3=>match r4 s.la e with
   |none=>.error 4
   |some la=>match r5 ch3 e nx with
    |none=>.error 5
    |some ch5=>match r6 ch5 e with
     |none=>.error 6
     |some ch6=>.ok ⟨st,pn,ch6,la⟩
structure IG(l:List Ev)(i:Nat)(s:Gs):Prop where
 c:IC (l.take i) s.st s.pn
 m:IM (l.take i) (inn l i) s.ch
 s:IS (l.take i).reverse s.la
def gs0:Gs:=⟨[0],false,[],ev0⟩
theorem IG.nil(l:List Ev):IG l 0 gs0:=by
 refine⟨?_,?_,?_⟩
 ·rw[List.take_zero];exact IC.nil
 ·have:inn l 0=fun _=>in0:=by funext c;rfl
  rw[this,List.take_zero];exact IM.nil
 ·rw[List.take_zero];exact IS.nil
theorem stepG_is{l:List Ev}{i:Nat}{e:Ev}{s:Gs}(I:IG l i s)(he:l[i]? =some e):
 (∃n,n≠0∧ruleD l i e=n∧stepG s i e l[i+1]? =.error n)∨(ruleD l i e=0∧∃s',stepG s i e l[i+1]? =.ok s'∧IG l (i+1) s'):=by
 have ht:l.take (i+1)=l.take i++[e]:=by rw[List.take_add_one,he];rfl
 have hK:inn l (i+1)=fun c=>ins (inn l i c) c e l[i+1]?:=by funext c;simp[inn,he]
 unfold ruleD stepG
 by_cases h1:2000≤i∨chk e≠0
 ·exact .inl ⟨1,by decide,by rw[if_pos h1],by rw[if_pos h1]⟩
 rw[if_neg h1,if_neg h1]
 have f:Fit e:=fit_of (by omega)
 have q2:=r2_some I.c e f.g
 cases e2:r2 s.st s.pn e with
 |none=>
  rw[e2] at q2
  exact .inl ⟨2,by decide,if_pos (by rw[←q2];rfl),rfl⟩
 |some sp=>
 obtain⟨st,pn⟩:=sp
 have c2:=r2_keeps I.c e f.g e2
 rw[e2] at q2
 rw[if_neg (by rw[←q2];simp)]
 have q3:=r3_some I.m e
 cases e3:r3 s.ch e with
 |none=>
  rw[e3] at q3
  exact .inl ⟨3,by decide,if_pos (by rw[←q3];rfl),rfl⟩
 |some ch3=>
 rw[e3] at q3
 rw[if_neg (by rw[←q3];simp)]
 have q4:=r4_some I.s e
 cases e4:r4 s.la e with
 |none=>
  rw[e4] at q4
  exact .inl ⟨4,by decide,if_pos (by rw[←q4];rfl),rfl⟩
 |some la=>
 have c4:=r4_keeps I.s e f e4
 rw[e4] at q4
 rw[if_neg (by rw[←q4];simp)]
 obtain⟨q5,c5⟩:=chans I.m e f l[i+1]? e3
 cases e5:r5 ch3 e l[i+1]? with
 |none=>
  rw[e5] at q5
  exact .inl ⟨5,by decide,if_pos (by rw[←q5];rfl),by simp only[e5]⟩
 |some ch5=>
 rw[e5] at q5
 rw[if_neg (by rw[←q5];simp)]
 obtain⟨q6,c6⟩:=c5 _ e5
 cases e6:r6 ch5 e with
 |none=>
  rw[e6] at q6
  exact .inl ⟨6,by decide,if_pos (by rw[←q6];rfl),by simp only[e5,e6]⟩
 |some ch6=>
 rw[e6] at q6
 rw[if_neg (by rw[←q6];simp)]
 refine .inr ⟨rfl,_,by simp only[e5,e6];rfl,⟨?_,?_,?_⟩⟩
 ·rw[ht];exact c2
 ·rw[ht,hK];exact c6 _ e6
 ·rw[ht,List.reverse_append];exact c4
theorem IG.owed{l:List Ev}{s:Gs}(I:IG l l.length s):owed s.la=l.getLast?.any serves:=by
 have:=I.s.ow
 rw[List.take_length,List.head?_reverse] at this
 exact this
end Gu
open Go.ChangeShapes Go.WideShapes Go.ChangeAt Go.RowKit
namespace Gu
open En Ba
def EsAt(w:World)(oa:Option Addr)(l:List Ev):Prop:=
 ∀k e,l[k]? =some e→∃b off,oa=some ⟨b,off,none⟩∧∀j,j<8→w.cell? ⟨b,off+k*8+j,none⟩=(En.evc e)[j]?
theorem EsAt.nil(w:World)(oa:Option Addr):EsAt w oa []:=fun _ _ h=>by simp at h
theorem evc_some(e:Ev)(j:Nat)(h:j<8):∃v,(En.evc e)[j]? =some v:=⟨_,Array.getElem?_eq_getElem h⟩
theorem EsAt.below{w w':World}{oa:Option Addr}{l:List Ev}(h:EsAt w oa l)(hb:Below w.heap.size w w'):EsAt w' oa l:=by
 intro k e hk
 obtain⟨b,off,he,hc⟩:=h k e hk
 refine⟨b,off,he,fun j hj=>?_⟩
 obtain⟨v,hv⟩:=evc_some e j hj
 have:=hc j hj
 rw[hv] at this ⊢
 exact (hb.cell (World.block_lt_of_cell? w _ this)).trans this
theorem EsAt.read{w:World}{b off:Nat}{l:List Ev}{k:Nat}{e:Ev}(h:EsAt w (some ⟨b,off,none⟩) l)(hk:l[k]? =some e):w.cell? ⟨b,off+k*8,none⟩=some (.int .i64 e.k)∧w.cell? ⟨b,off+k*8+1,none⟩=some (.int .i64 e.g)∧w.cell? ⟨b,off+k*8+2,none⟩=some (.int .i64 e.c)∧w.cell? ⟨b,off+k*8+3,none⟩=some (.int .i64 e.a)∧w.cell? ⟨b,off+k*8+4,none⟩=some (.int .i64 e.v)∧w.cell? ⟨b,off+k*8+5,none⟩=some (.int .i64 e.m)∧w.cell? ⟨b,off+k*8+6,none⟩=some (.bool e.s)∧w.cell? ⟨b,off+k*8+7,none⟩=some (.bool e.o):=by
 obtain⟨b',off',he,hc⟩:=h k e hk
 cases he
 exact⟨hc 0 (by decide),hc 1 (by decide),hc 2 (by decide),hc 3 (by decide),hc 4 (by decide),hc 5 (by decide),hc 6 (by decide),hc 7 (by decide)⟩
end Gu
namespace Gu
open En Ba
end Gu
namespace Gu
open En Ba
end Gu
namespace Gu
open En Ba
def ic(l:List Int):List Value:=l.map (Value.int .i64)
theorem ic_app(l m:List Int):ic (l++m)=ic l++ic m:=by simp[ic]
theorem ic_one(l:List Int):∀u∈ic l,u.oneCell'=true:=by
 intro u hu
 obtain⟨b,-,rfl⟩:=List.mem_map.1 hu
 rfl
theorem ic_len(l:List Int):(ic l).length=l.length:=by simp[ic]
theorem info_int:(Tryz.prog.info? 3).map (fun i=>(i.zero,i.size,i.bytes))=some (some (.int .i64 0),1,8):=by kernel_rfl
theorem own_sl{w:World}{base:Nat}{e:TypeId}{size n:Nat}{v:Value}{xs:List Value}(h:w.ownsRow base e size v n xs):∃oa c,v=.slice oa n c:=by
 rcases h.2 with⟨rfl,rfl⟩|⟨g,cap,cr,rfl,-⟩
 ·exact⟨none,0,rfl⟩
 ·exact⟨_,_,rfl⟩
theorem own_kb{w w':World}{P base size:Nat}{e:TypeId}{v:Value}{n:Nat}{xs:List Value}(h:w.ownsRow base e size v n xs)(k:KB P w w')(hn:v.ownBlock≠some P):w'.ownsRow base e size v n xs:=by
 refine⟨h.1,?_⟩
 rcases h.2 with q|⟨g,cap,cur,q1,q2,q3,q4⟩
 ·exact .inl q
 ·refine .inr ⟨g,cap,cur,q1,q2,k.heap q3 ?_,q4⟩
  subst q1;intro e;subst e;exact hn rfl
theorem below_set{w u:World}{n b i:Nat}{v:Value}(h:Below n w u)(hb:n≤b):Below n w (u.setCell ⟨b,i,none⟩ v):=by
 refine⟨h.os,h.tape,h.output,?_,fun k hk=>?_⟩
 ·have:(u.setCell ⟨b,i,none⟩ v).heap.size=u.heap.size:=by simp[World.setCell]
  rw[this];exact h.size
 ·rw[←h.block k hk]
  exact Below.heap_setCell _ _ _ _ (by show k≠b;omega)
theorem step_append_run{ops:Array Oper}(w:World){o:Oper}{a:Act}{K:Act→World→Prop}{Q:Exit→Act→World→Prop}{E:Prop}(hgd:o.guard=none)(s x:Operand)(t tn:TypeId)
 (ho:o.op=.call {callee:=.builtin .append,args:=#[s,x],argTypes:=#[t,tn]}) (vs vx:Value) (hs:a.eval s=vs) (hx:a.eval x=vx)
 (v':Value) (w':World) (hr:(Builtin.append_ #[t,tn] o.type #[vs,vx]).run Tryz.prog w=.ok v' w') (h:K (a.put o.dst v') w'):
 if Region.wanted o (yielded ops a.tmps)=true then Oper.wp Tryz.prog o a w K Q else E:=by
 have hw:Region.wanted o (yielded ops a.tmps)=true:=by simp[Region.wanted,hgd]
 rw[if_pos hw]
 exact Lib.wp_append_run w s x t tn ho vs vx hs hx v' w' hr h
section
variable {ops:Array Oper}{rest:List Oper}{o:Oper}{a:Act}{w:World}{Q:Exit→Act→World→Prop}
theorem wpL_app(hgd:o.guard=none)(s x:Operand)(t tn:TypeId)
 (ho:o.op=.call {callee:=.builtin .append,args:=#[s,x],argTypes:=#[t,tn]}) (vs vx:Value) (hs:a.eval s=vs) (hx:a.eval x=vx)
 (v':Value) (w':World) (hr:(Builtin.append_ #[t,tn] o.type #[vs,vx]).run Tryz.prog w=.ok v' w') (h:wpList Tryz.prog ops Q rest (a.put o.dst v') w'):wpList Tryz.prog ops Q (o::rest) a w:=
 wpList_plain hgd fun _ hK=>Lib.wp_append_run w s x t tn ho vs vx hs hx v' w' hr (hK _ _ h)
end
section
variable {w w':World}{N:Nat}{v:Value}{sz:Int}{L:List Int}{cl rt:Bool}
end
end Gu
namespace Gu
open En Ba
end Gu
namespace En
open Ba Re
end En
namespace En
open Ba Re
end En
namespace En
open Ba Re
end En
namespace En
open Ba Re
end En
namespace En
open Ba Re
end En
namespace En
open Ba Re
end En
namespace En
open Ba Re
end En
namespace En
open Ba Re
end En
namespace En
open Ba Re
end En
namespace En
open Ba Re
end En
namespace Gu
open En Ba
def Chk(l:List Ev)(n a:Int):Prop:=
 (∃(i:Nat) (e:Ev),l[i]? =some e∧ruleD l i e≠0∧n=ruleD l i e∧a=(i:Int)∧∀j,j<i→∀x,l[j]? =some x→ruleD l j x=0)∨
 ((∀j x,l[j]? =some x→ruleD l j x=0)∧(n,a)=if l.getLast?.any serves=true then (4,(l.length:Int)) else (0,0))
theorem Chk.eq{l:List Ev}{n a n' a':Int}(h:Chk l n a)(h':Chk l n' a'):n=n'∧a=a':=by
 rcases h with⟨i,e,he,hn,rfl,rfl,hj⟩|⟨ha,hr⟩<;>rcases h' with⟨i',e',he',hn',rfl,rfl,hj'⟩|⟨ha',hr'⟩
 ·have:i=i':=by
   rcases Nat.lt_trichotomy i i' with q|q|q
   ·exact absurd (hj' i q e he) hn
   ·exact q
   ·exact absurd (hj i' q e' he') hn'
  subst this
  rw[he] at he'
  cases he'
  exact⟨rfl,rfl⟩
 ·exact absurd (ha' i e he) hn
 ·exact absurd (ha i' e' he') hn'
 ·rw[←hr'] at hr
  exact⟨congrArg Prod.fst hr,congrArg Prod.snd hr⟩
end Gu
end Go.Proofs.YtogkjaekfhjelaaGreat
namespace Go.Proofs.YtogkjaekfhjelaaGreat
namespace Gu
open En
def Acc:Gs→Nat→List Ev→Gs→Prop
 |gs,_,[],g'=>g'=gs
 |gs,i,e::es,g'=>∃g1,(∀nx,(es≠[]→nx=es.head?)→stepG gs i e nx=.ok g1)∧(∃g2,stepG gs i e none=.ok g2)∧Acc g1 (i+1) es g'
theorem Acc.rules:∀{es:List Ev} {gs g':Gs} {i:Nat},Acc gs i es g'→∀(m:List Ev),IG m i gs→(∃fs,es=m.drop i++fs)→∀j x,i≤j→m[j]? =some x→ruleD m j x=0
 |[],gs,g',i,h,m,I,⟨fs,hf⟩,j,x,hj,hx=>by
  have h0:m.drop i=[]:=(List.append_eq_nil_iff.1 hf.symm).1
  have h1:m.length≤i:=by simpa using h0
  have:=(List.getElem?_eq_some_iff.1 hx).1
  omega
 |e::es,gs,g',i,h,m,I,⟨fs,hf⟩,j,x,hj,hx=>by
  obtain⟨g1,h1,⟨g2,h2⟩,h3⟩:=h
  cases hd:m.drop i with
  |nil=>
   have h1:m.length≤i:=by simpa using hd
   have:=(List.getElem?_eq_some_iff.1 hx).1
   omega
  |cons a r=>
   rw[hd] at hf
   simp at hf
   obtain⟨rfl,rfl⟩:=hf
   have he:m[i]? =some e:=by
    have:=congrArg List.head? hd
    simpa using this
   have hr:m.drop (i+1)=r:=by
    have:=congrArg List.tail hd
    simpa using this
   have hn:m[i+1]? =r.head?:=by rw[←hr];simp
   have key:∃g,stepG gs i e m[i+1]? =.ok g∧(r≠[]→g=g1):=by
    cases r with
    |nil=>exact⟨g2,by rw[hn];exact h2,fun q=>absurd rfl q⟩
    |cons b r=>exact⟨g1,by rw[hn];exact h1 _ (fun _=>rfl),fun _=>rfl⟩
   obtain⟨g,hg,hg1⟩:=key
   rcases stepG_is I he with⟨n,_,_,q⟩|⟨q0,s',q,I'⟩
   ·rw[hg] at q;cases q
   ·rw[hg] at q
    cases q
    by_cases hij:j=i
    ·subst hij
     rw[he] at hx
     cases hx
     exact q0
    ·cases hr2:r with
     |nil=>
      rw[hr2] at hr
      have h1:m.length≤i+1:=by simpa using hr
      have:=(List.getElem?_eq_some_iff.1 hx).1
      omega
     |cons b r'=>
      have:g=g1:=hg1 (by rw[hr2];simp)
      subst this
      exact h3.rules m I' ⟨fs,by rw[hr]⟩ j x (by omega) hx
theorem Acc.chk{l:List Ev}{g':Gs}(h:Acc gs0 0 l g')(n:Nat):Chk (l.take n) (if (l.take n).getLast?.any serves=true then 4 else 0) (if (l.take n).getLast?.any serves=true then ((l.take n).length:Int) else 0):=by
 refine .inr ⟨fun j x hx=>h.rules (l.take n) (IG.nil _) ⟨l.drop n,by simp⟩ j x (Nat.zero_le _) hx,?_⟩
 split<;>rfl
def stepH(s:Gs)(e:Ev)(nx:Option Ev):Option Gs:=
 match r2 s.st s.pn e with
 |none=>none
 |some (st,pn)=>match r3 s.ch e with
  |none=>none
  |some ch3=>match r4 s.la e with
   |none=>none
   |some la=>match r5 ch3 e nx with
    |none=>none
    |some ch5=>match r6 ch5 e with
     |none=>none
     |some ch6=>some ⟨st,pn,ch6,la⟩
theorem stepH_g{s s':Gs}{i:Nat}{e:Ev}{nx:Option Ev}(h:stepH s e nx=some s')(hi:i<2000)(hc:chk e=0):stepG s i e nx=.ok s':=by
 unfold stepH at h
 unfold stepG
 rw[if_neg (by omega)]
 split at h
 ·cases h
 ·rename_i e2
  try rw[e2]
  split at h
  ·cases h
  ·rename_i e3
   try simp only[e3]
   split at h
   ·cases h
   ·rename_i e4
    try simp only[e4]
    split at h
    ·cases h
    ·rename_i e5
     try simp only[e5]
     split at h
     ·cases h
     ·rename_i e6
      try simp only[e6]
      cases h
      rfl
def AccH:Gs→List Ev→Gs→Prop
 |gs,[],g'=>g'=gs
 |gs,e::es,g'=>∃g1,(∀nx,(es≠[]→nx=es.head?)→stepH gs e nx=some g1)∧(∃g2,stepH gs e none=some g2)∧AccH g1 es g'
theorem AccH.app:∀{es fs:List Ev} {a b c:Gs},AccH a es b→AccH b fs c→AccH a (es++fs) c
 |[],fs,a,b,c,h,k=>by
  have:b=a:=h
  subst this
  exact k
 |e::es,fs,a,b,c,h,k=>by
  obtain⟨g1,h1,h2,h3⟩:=h
  refine⟨g1,fun nx hnx=>h1 nx fun hne=>?_,h2,h3.app k⟩
  cases es with
  |nil=>exact absurd rfl hne
  |cons x es=>exact hnx (by simp)
theorem AccH.one{gs g':Gs}{e:Ev}(h:∀nx,stepH gs e nx=some g'):AccH gs [e] g':=⟨g',fun nx _=>h nx,⟨g',h none⟩,rfl⟩
theorem AccH.two{gs g1 g2 g':Gs}{e x:Ev}(h:stepH gs e (some x)=some g1)(h2:stepH gs e none=some g2)(k:∀nx,stepH g1 x nx=some g'):AccH gs [e,x] g':=
 ⟨g1,fun nx hnx=>by rw[hnx (by simp)];exact h,⟨g2,h2⟩,AccH.one k⟩
theorem AccH.acc:∀{es:List Ev} {gs g':Gs} {i:Nat},AccH gs es g'→(∀e∈es,chk e=0)→i+es.length≤2000→Acc gs i es g'
 |[],_,_,_,h,_,_=>h
 |e::es,gs,g',i,h,hc,hl=>by
  obtain⟨g1,h1,⟨g2,h2⟩,h3⟩:=h
  have hl':i+1+es.length≤2000:=by simp at hl;omega
  exact⟨g1,fun nx hnx=>stepH_g (h1 nx hnx) (by omega) (hc e (by simp)),⟨g2,stepH_g h2 (by omega) (hc e (by simp))⟩,h3.acc (fun x hx=>hc x (by simp[hx])) hl'⟩
end Gu
end Go.Proofs.YtogkjaekfhjelaaGreat
namespace Go.Proofs.YtogkjaekfhjelaaGreat
namespace Lo
open Ba
theorem gt_at{l:List Mb}{g:Int}{y:Mb}(h:Cr.gt l g=some y):0≤g∧g.toNat<l.length∧l[g.toNat]? =some y:=by
 obtain⟨k,rfl,hk,hy⟩:=Cr.gt_some h
 exact⟨by omega,by simpa using hk,by simpa using hy⟩
theorem st_at{l:List Mb}{g:Int}{y:Mb}(h:Cr.gt l g=some y):(l.map (·.s)).getD g.toNat 0=y.s:=by
 obtain⟨_,_,hy⟩:=gt_at h
 simp[List.getD_eq_getElem?_getD,hy]
theorem ch_is{l:List Mb}{g a b d:Int}{y:Mb}(h:Cr.gt l g=some y)(hy:y.s=a):Cr.chL l g a b d=l.set g.toNat ⟨y.p,y.q+d,b⟩:=by
 unfold Cr.chL
 rw[h]
 simp[hy]
theorem ch_map{l:List Mb}{g a b d:Int}{y:Mb}(h:Cr.gt l g=some y)(hy:y.s=a):(Cr.chL l g a b d).map (·.s)=(l.map (·.s)).set g.toNat b:=by
 rw[ch_is h hy,List.map_set]
theorem gt_set'(l:List Mb)(g x:Int)(z:Mb)(h:x≠g)(hg:0≤g):Cr.gt (l.set g.toNat z) x=Cr.gt l x:=by
 unfold Cr.gt
 split
 ·rfl
 ·rw[List.getElem?_set_ne (by omega)]
theorem gt_ch_other{l:List Mb}{g a b d x:Int}(h:x≠g):Cr.gt (Cr.chL l g a b d) x=Cr.gt l x:=by
 unfold Cr.chL
 split
 ·rfl
 ·rename_i y hy
  split
  ·exact gt_set' l g x _ h (gt_at hy).1
  ·rfl
theorem gt_ch_same{l:List Mb}{g a b d:Int}{y:Mb}(h:Cr.gt l g=some y)(hy:y.s=a):Cr.gt (Cr.chL l g a b d) g=some ⟨y.p,y.q+d,b⟩:=by
 rw[ch_is h hy]
 obtain⟨h0,h1,_⟩:=gt_at h
 unfold Cr.gt
 rw[if_neg (by omega)]
 simp[h1]
def pc(l:List Mb):Nat:=l.countP fun x=>decide (x.s=1)
theorem countP_set{α:Type}(p:α→Bool):∀(l:List α) (k:Nat) (x y:α),l[k]? =some x→(l.set k y).countP p+(if p x then 1 else 0)=l.countP p+(if p y then 1 else 0)
 |[],_,_,_,h=>by simp at h
 |a::l,0,x,y,h=>by
  simp at h
  subst h
  simp only[List.set_cons_zero,List.countP_cons]
  omega
 |a::l,k+1,x,y,h=>by
  have:=countP_set p l k x y (by simpa using h)
  simp only[List.set_cons_succ,List.countP_cons]
  omega
def Wm(sts:List (Option St))(x:Wt):Prop:=∃(i:Nat) (st:St),sts[i]? =some (some st)∧(x∈st.snd∨x∈st.rcv)
def WQ(sts:List (Option St))(cr:List Mb):Prop:=∀x,Wm sts x→∃y,Cr.gt cr x.g=some y∧y.s=1
theorem WQ.sub{a b:List (Option St)}{cr:List Mb}(h:WQ a cr)(hs:∀x,Wm b x→Wm a x):WQ b cr:=fun x hx=>h x (hs x hx)
theorem WQ.ch{sts:List (Option St)}{cr:List Mb}(h:WQ sts cr){g:Int}{y:Mb}(hg:Cr.gt cr g=some y)(hy:y.s≠1)(a b d:Int):WQ sts (Cr.chL cr g a b d):=fun x hx=>by
 obtain⟨z,hz,hz1⟩:=h x hx
 have:x.g≠g:=fun e=>by rw[e,hg] at hz;cases hz;exact hy hz1
 exact⟨z,by rw[gt_ch_other this];exact hz,hz1⟩
theorem dr_in{g:Int}{l:List Wt}{x:Wt}(h:x∈Pe.dr g l):x∈l∧x.g≠g:=by
 unfold Pe.dr at h
 simp at h
 exact h
theorem leave_at{g:Int}{a:List (Option St)}{i:Nat}{z:St}(hz:(Fk.leaveS g a)[i]? =some (some z)):∃x,a[i]? =some (some x)∧z=_root_.Go.Proofs.YtogkjaekfhjelaaGreat.Pi.dropS x g:=by
 unfold Fk.leaveS at hz
 rw[List.getElem?_map] at hz
 cases hx:a[i]? with
 |none=>rw[hx] at hz;cases hz
 |some o=>
  rw[hx] at hz
  cases o with
  |none=>simp[Fk.dropO] at hz
  |some x=>
   simp[Fk.dropO] at hz
   exact⟨x,rfl,hz.symm⟩
theorem wm_leave{g:Int}{a:List (Option St)}{x:Wt}(h:Wm (Fk.leaveS g a) x):Wm a x∧x.g≠g:=by
 obtain⟨i,z,hz,hx⟩:=h
 obtain⟨y,hy,rfl⟩:=leave_at hz
 unfold _root_.Go.Proofs.YtogkjaekfhjelaaGreat.Pi.dropS at hx
 rcases hx with q|q
 ·exact⟨⟨i,y,hy,.inl (dr_in q).1⟩,(dr_in q).2⟩
 ·exact⟨⟨i,y,hy,.inr (dr_in q).1⟩,(dr_in q).2⟩
theorem WQ.wake{sts:List (Option St)}{cr:List Mb}(h:WQ sts cr)(g a b d:Int):WQ (Fk.leaveS g sts) (Cr.chL cr g a b d):=fun x hx=>by
 obtain⟨h1,h2⟩:=wm_leave hx
 obtain⟨z,hz,hz1⟩:=h x h1
 exact⟨z,by rw[gt_ch_other h2];exact hz,hz1⟩
theorem wm_set{sts:List (Option St)}{i:Nat}{st:St}{x:Wt}(h:Wm (sts.set i (some st)) x):Wm sts x∨x∈st.snd∨x∈st.rcv:=by
 obtain⟨j,z,hz,hx⟩:=h
 rw[List.getElem?_set] at hz
 split at hz
 ·split at hz
  ·simp at hz
   subst hz
   exact .inr hx
  ·cases hz
 ·exact .inl ⟨j,z,hz,hx⟩
def WG(g:Int)(sts:List (Option St))(cr:List Mb):Prop:=∀x,Wm sts x→x.g=g∨∃y,Cr.gt cr x.g=some y∧y.s=1
theorem WG.park{g:Int}{sts:List (Option St)}{cr:List Mb}(h:WG g sts cr){y:Mb}(hg:Cr.gt cr g=some y)(hy:y.s=0)(d:Int):WQ sts (Cr.chL cr g 0 1 d):=fun x hx=>by
 by_cases e:x.g=g
 ·rw[e]
  exact⟨_,gt_ch_same hg hy,rfl⟩
 ·rcases h x hx with q|⟨z,hz,hz1⟩
  ·exact absurd q e
  ·exact⟨z,by rw[gt_ch_other e];exact hz,hz1⟩
theorem al_mem{l:List Wt}{x z:Wt}(h:z∈Pe.al l x):z∈l∨z=x:=by
 unfold Pe.al at h
 split at h
 ·split at h
  ·exact .inl h
  ·simp at h
   rcases h with h|h
   ·exact .inl h
   ·exact .inr h
 ·exact .inl h
theorem wait_mem{st:St}{b:Bool}{x z:Wt}(h:z∈(_root_.Go.Proofs.YtogkjaekfhjelaaGreat.Pi.waitS st b x).snd∨z∈(_root_.Go.Proofs.YtogkjaekfhjelaaGreat.Pi.waitS st b x).rcv):(z∈st.snd∨z∈st.rcv)∨z=x:=by
 unfold _root_.Go.Proofs.YtogkjaekfhjelaaGreat.Pi.waitS at h
 split at h
 ·exact .inl h
 ·split at h
  ·rcases h with h|h
   ·rcases al_mem h with q|q
    ·exact .inl (.inl q)
    ·exact .inr q
   ·exact .inl (.inr h)
  ·rcases h with h|h
   ·exact .inl (.inl h)
   ·rcases al_mem h with q|q
    ·exact .inl (.inr q)
    ·exact .inr q
theorem WG.pk{g:Int}{sts:List (Option St)}{cr:List Mb}(h:WG g sts cr){c:Int}{st:St}(hc:Fk.nmB sts c=some st)(b:Bool)(p v:Int):WG g (sts.set c.toNat (some (_root_.Go.Proofs.YtogkjaekfhjelaaGreat.Pi.waitS st b ⟨g,p,v⟩))) cr:=fun x hx=>by
 rcases wm_set hx with q|q
 ·exact h x q
 ·rcases wait_mem q with q|q
  ·exact h x ⟨_,st,Fk.nmB_at hc,q⟩
  ·exact .inl (by rw[q])
theorem WG.wait{g:Int}{sts:List (Option St)}{cr:List Mb}(h:WG g sts cr)(c:Ca):WG g (waitN sts c g) cr:=by
 unfold waitN
 split
 ·exact h
 ·rename_i st e
  exact h.pk e _ _ _
theorem WG.pkS{g:Int}{sts:List (Option St)}{cr:List Mb}(h:WG g sts cr)(l:List Ca):∀k,WG g (Fk.pkS g l sts k) cr
 |0=>h
 |k+1=>by
  unfold Fk.pkS
  split
  ·exact h.pkS l k
  ·unfold Fk.pk1
   split
   ·exact h.pkS l k
   ·rename_i st e
    exact (h.pkS l k).pk e _ _ _
theorem WG.pkA{g:Int}{sts:List (Option St)}{cr:List Mb}(h:WG g sts cr)(l:List Ca):WG g (Fk.pkA g l sts) cr:=by
 unfold Fk.pkA
 split
 ·exact h
 ·split
  ·exact h
  ·exact h.pkS l _
structure Fine(st:St):Prop where
 cl:st.closed=true→st.snd=[]∧st.rcv=[]
 bf:st.buf.length≤st.size
def CQ(sts:List (Option St)):Prop:=∀(i:Nat) (st:St),sts[i]? =some (some st)→Fine st
theorem CQ.set{sts:List (Option St)}(h:CQ sts){st:St}(hs:Fine st)(i:Nat):CQ (sts.set i (some st)):=fun j z hz=>by
 rw[List.getElem?_set] at hz
 split at hz
 ·split at hz
  ·simp at hz
   subst hz
   exact hs
  ·cases hz
 ·exact h j z hz
theorem CQ.leave{sts:List (Option St)}(h:CQ sts)(g:Int):CQ (Fk.leaveS g sts):=fun i z hz=>by
 obtain⟨y,hy,rfl⟩:=leave_at hz
 have f:=h i y hy
 refine⟨fun q=>?_,f.bf⟩
 obtain⟨a,b⟩:=f.cl q
 unfold _root_.Go.Proofs.YtogkjaekfhjelaaGreat.Pi.dropS
 simp only[a,b]
 exact⟨rfl,rfl⟩
theorem Fine.wait{st:St}(h:Fine st)(b:Bool)(x:Wt):Fine (_root_.Go.Proofs.YtogkjaekfhjelaaGreat.Pi.waitS st b x):=by
 unfold _root_.Go.Proofs.YtogkjaekfhjelaaGreat.Pi.waitS
 split
 ·exact h
 ·rename_i hr
  have hc:st.closed=false:=by
   unfold _root_.Go.Proofs.YtogkjaekfhjelaaGreat.Pi.rdyBut at hr
   simp at hr
   exact hr.1.1
  split
  ·exact⟨(fun q=>by rw[hc] at q;cases q),h.bf⟩
  ·exact⟨(fun q=>by rw[hc] at q;cases q),h.bf⟩
theorem CQ.wait{sts:List (Option St)}(h:CQ sts)(c:Ca)(g:Int):CQ (waitN sts c g):=by
 unfold waitN
 split
 ·exact h
 ·rename_i st e
  exact h.set ((h _ _ (Fk.nmB_at e)).wait _ _) _
theorem CQ.pkS{sts:List (Option St)}(h:CQ sts)(g:Int)(l:List Ca):∀k,CQ (Fk.pkS g l sts k)
 |0=>h
 |k+1=>by
  unfold Fk.pkS
  split
  ·exact h.pkS g l k
  ·unfold Fk.pk1
   split
   ·exact h.pkS g l k
   ·rename_i st e
    exact (h.pkS g l k).set ((h.pkS g l k _ _ (Fk.nmB_at e)).wait _ _) _
theorem CQ.pkA{sts:List (Option St)}(h:CQ sts)(g:Int)(l:List Ca):CQ (Fk.pkA g l sts):=by
 unfold Fk.pkA
 split
 ·exact h
 ·split
  ·exact h
  ·exact h.pkS g l _
def vw(st:St):Gu.Chn:=⟨st.size,st.buf,st.closed⟩
def Sv(a b:List (Option St)):Prop:=∀(i:Nat) (y:St),b[i]? =some (some y)→∃x,a[i]? =some (some x)∧vw y=vw x
theorem Sv.refl(a:List (Option St)):Sv a a:=fun _ y h=>⟨y,h,rfl⟩
theorem Sv.trans{a b c:List (Option St)}(h:Sv a b)(k:Sv b c):Sv a c:=fun i z hz=>by
 obtain⟨y,hy,e⟩:=k i z hz
 obtain⟨x,hx,e2⟩:=h i y hy
 exact⟨x,hx,e.trans e2⟩
theorem Sv.set{a:List (Option St)}{c:Int}{x y:St}(h:Fk.nmB a c=some x)(e:vw y=vw x):Sv a (a.set c.toNat (some y)):=fun i z hz=>by
 rw[List.getElem?_set] at hz
 split at hz
 ·rename_i e1
  subst e1
  split at hz
  ·simp at hz
   subst hz
   exact⟨x,Fk.nmB_at h,e⟩
  ·cases hz
 ·exact⟨z,hz,rfl⟩
theorem Sv.leave(g:Int)(a:List (Option St)):Sv a (Fk.leaveS g a):=fun i z hz=>by
 obtain⟨y,hy,rfl⟩:=leave_at hz
 exact⟨y,hy,rfl⟩
theorem vw_wait(st:St)(b:Bool)(x:Wt):vw (_root_.Go.Proofs.YtogkjaekfhjelaaGreat.Pi.waitS st b x)=vw st:=by
 unfold _root_.Go.Proofs.YtogkjaekfhjelaaGreat.Pi.waitS
 split
 ·rfl
 ·split<;>rfl
theorem Sv.wait(a:List (Option St))(c:Ca)(g:Int):Sv a (waitN a c g):=by
 unfold waitN
 split
 ·exact Sv.refl a
 ·rename_i st e
  exact Sv.set e (vw_wait _ _ _)
theorem Sv.pkS(g:Int)(l:List Ca)(a:List (Option St)):∀k,Sv a (Fk.pkS g l a k)
 |0=>Sv.refl a
 |k+1=>by
  unfold Fk.pkS
  split
  ·exact Sv.pkS g l a k
  ·unfold Fk.pk1
   split
   ·exact Sv.pkS g l a k
   ·rename_i st e
    exact (Sv.pkS g l a k).trans (Sv.set e (vw_wait _ _ _))
theorem Sv.pkA(g:Int)(l:List Ca)(a:List (Option St)):Sv a (Fk.pkA g l a):=by
 unfold Fk.pkA
 split
 ·exact Sv.refl a
 ·split
  ·exact Sv.refl a
  ·exact Sv.pkS g l a _
end Lo
end Go.Proofs.YtogkjaekfhjelaaGreat
namespace Go.Proofs.YtogkjaekfhjelaaGreat
namespace Lo
open Ba
structure GI(s:Lm)(gs:Gu.Gs):Prop where
 st:gs.st=s.cr.map (·.s)
 pn:gs.pn=s.pk
 len:(gs.ch.length:Int)=s.md
 ch:∀(i:Nat) (st:St),s.sts[i]? =some (some st)→gs.ch.getD (nth s.nm i).toNat Gu.chz=vw st
 ow:Gu.owed gs.la=false
structure RI(s:Lm)(gs:Gu.Gs):Prop where
 acc:Gu.AccH Gu.gs0 s.tr gs
 gi:GI s gs
 w:WQ s.sts s.cr
 c:CQ s.sts
theorem RI.one{s s':Lm}{gs gs':Gu.Gs}{e:Ev}(h:RI s gs)(ht:s'.tr=s.tr++[e])(hs:∀nx,Gu.stepH gs e nx=some gs')(gi:GI s' gs')(w:WQ s'.sts s'.cr)(c:CQ s'.sts):RI s' gs':=
 ⟨by rw[ht];exact h.acc.app (Gu.AccH.one hs),gi,w,c⟩
theorem RI.two{s s':Lm}{gs g1 g2 gs':Gu.Gs}{e x:Ev}(h:RI s gs)(ht:s'.tr=s.tr++[e,x])(h1:Gu.stepH gs e (some x)=some g1)(h2:Gu.stepH gs e none=some g2)(hs:∀nx,Gu.stepH g1 x nx=some gs')(gi:GI s' gs')(w:WQ s'.sts s'.cr)(c:CQ s'.sts):RI s' gs':=
 ⟨by rw[ht];exact h.acc.app (Gu.AccH.two h1 h2 hs),gi,w,c⟩
theorem sh_ok{gs:Gu.Gs}{e:Ev}{nx:Option Ev}{st:List Int}{pn:Bool}{ch3 ch5 ch6:List Gu.Chn}{la:Ev}(h2:Gu.r2 gs.st gs.pn e=some (st,pn))(h3:Gu.r3 gs.ch e=some ch3)(h4:Gu.r4 gs.la e=some la)(h5:Gu.r5 ch3 e nx=some ch5)(h6:Gu.r6 ch5 e=some ch6):Gu.stepH gs e nx=some ⟨st,pn,ch6,la⟩:=by
 unfold Gu.stepH
 rw[h2]
 simp only[h3,h4,h5,h6]
theorem sh_plain{gs:Gu.Gs}{e:Ev}{st:List Int}{pn:Bool}(h2:Gu.r2 gs.st gs.pn e=some (st,pn))(hk:e.k≠2∧e.k≠3∧e.k≠4∧e.k≠5∧e.k≠7)(hc:e.c<gs.ch.length)(ho:Gu.owed gs.la=false):∀nx,Gu.stepH gs e nx=some ⟨st,pn,gs.ch,e⟩:=fun nx=>by
 obtain⟨k2,k3,k4,k5,k7⟩:=hk
 refine sh_ok h2 (ch3:=gs.ch) ?_ ?_ (ch5:=gs.ch) ?_ ?_
 ·unfold Gu.r3
  rw[if_neg k2,if_pos hc]
 ·unfold Gu.r4
  rw[ho]
  simp[k7]
 ·unfold Gu.r5 Gu.moves
  simp[k3,k4]
 ·unfold Gu.r6
  simp[k3,k4,k5]
theorem owed_k{e:Ev}(h3:e.k≠3)(h4:e.k≠4):Gu.owed e=false:=by
 unfold Gu.owed
 simp[h3,h4]
theorem r2_in{cr:List Mb}{e:Ev}{y:Mb}(hg:Cr.gt cr e.g=some y)(hm:Gu.may y.s e.k=true)(h13:e.k≠13):Gu.r2 (cr.map (·.s)) false e=
 if e.k=1 then if e.m≠cr.length then none else some (cr.map (·.s)++[0],false)
 else if e.k=6 then some ((cr.map (·.s)).set e.g.toNat 1,false)
 else if e.k=7 then some ((cr.map (·.s)).set e.g.toNat 0,false)
 else if e.k=11 then some ((cr.map (·.s)).set e.g.toNat 2,false)
 else if e.k=12 then some (cr.map (·.s),true)
 else some (cr.map (·.s),false):=by
 obtain⟨h0,h1,h2⟩:=gt_at hg
 unfold Gu.r2
 rw[if_neg (by simp),if_neg h13,if_neg (by rw[List.length_map];omega),st_at hg,if_neg (by rw[hm];simp),List.length_map]
theorem map_same{cr:List Mb}{g:Int}{y:Mb}(h:Cr.gt cr g=some y):(cr.map (·.s)).set g.toNat y.s=cr.map (·.s):=by
 obtain⟨_,h1,h2⟩:=gt_at h
 rw[←List.map_set]
 congr 1
 apply List.ext_getElem?
 intro j
 rw[List.getElem?_set]
 split
 ·rename_i e
  subst e
  rw[h2]
 ·rfl
theorem go_map{cr:List Mb}{g d:Int}{y:Mb}(h:Cr.gt cr g=some y)(hy:y.s=0):(Cr.chL cr g 0 0 d).map (·.s)=cr.map (·.s):=by
 rw[ch_map h hy]
 have:=map_same h
 rw[hy] at this
 exact this
section
variable {s:Lm}{gs:Gu.Gs}{g:Int}{y:Mb}
theorem RI.go(h:RI s gs)(hp:s.pk=false)(e:Ev)(hg:Cr.gt s.cr e.g=some y)(hy:y.s=0)(hk:e.k=8∨e.k=9∨e.k=10)(hc:e.c=-1):∃gs',RI (goS s e) gs':=by
 have hl:=h.gi.len
 have r2:Gu.r2 gs.st gs.pn e=some (s.cr.map (·.s),false):=by
  rw[h.gi.st,h.gi.pn,hp,r2_in hg (by unfold Gu.may;rcases hk with q|q|q<;>simp[q,hy]) (by rcases hk with q|q|q<;>omega)]
  rcases hk with q|q|q<;>simp[q]
 refine⟨_,h.one (s':=goS s e) rfl (sh_plain r2 (by rcases hk with q|q|q<;>omega) (by omega) h.gi.ow) ⟨?_,?_,hl,h.gi.ch,owed_k (e:=e) (by rcases hk with q|q|q<;>omega) (by rcases hk with q|q|q<;>omega)⟩ (h.w.ch hg (by omega) _ _ _) h.c⟩
 ·exact (go_map hg hy).symm
 ·exact hp.symm
theorem RI.compact(h:RI s gs)(hp:s.pk=false)(p:List Int):∃gs',RI (tellS {s with p:=p} (bareE 13 (-1))) gs':=by
 have hl:=h.gi.len
 have r2:Gu.r2 gs.st gs.pn (bareE 13 (-1))=some (gs.st,gs.pn):=by
  unfold Gu.r2
  rw[h.gi.pn,hp]
  simp[bareE]
 exact⟨_,h.one (s':=tellS {s with p:=p} (bareE 13 (-1))) rfl (sh_plain r2 (by simp[bareE]) (by show (-1:Int)<_;omega) h.gi.ow) ⟨h.gi.st,h.gi.pn,hl,h.gi.ch,owed_k (by simp[bareE]) (by simp[bareE])⟩ h.w h.c⟩
theorem RI.exit(h:RI s gs)(hp:s.pk=false)(hg:Cr.gt s.cr g=some y)(hy:y.s=0):∃gs',RI (tellS {s with cr:=Cr.chL s.cr g 0 2 0} (bareE 11 g)) gs':=by
 have hl:=h.gi.len
 have r2:Gu.r2 gs.st gs.pn (bareE 11 g)=some ((s.cr.map (·.s)).set g.toNat 2,false):=by
  rw[h.gi.st,h.gi.pn,hp,r2_in (e:=bareE 11 g) hg (by unfold Gu.may;simp[bareE,hy]) (by simp[bareE])]
  simp[bareE]
 exact⟨_,h.one (s':=tellS {s with cr:=Cr.chL s.cr g 0 2 0} (bareE 11 g)) rfl (sh_plain r2 (by simp[bareE]) (by show (-1:Int)<_;omega) h.gi.ow) ⟨(ch_map hg hy).symm,hp.symm,hl,h.gi.ch,owed_k (by simp[bareE]) (by simp[bareE])⟩ (h.w.ch hg (by omega) _ _ _) h.c⟩
theorem RI.panic(h:RI s gs)(hp:s.pk=false)(hg:Cr.gt s.cr g=some y)(hy:y.s≠2):∃gs',RI (panicS s g) gs':=by
 have hl:=h.gi.len
 have r2:Gu.r2 gs.st gs.pn (bareE 12 g)=some (s.cr.map (·.s),true):=by
  rw[h.gi.st,h.gi.pn,hp,r2_in (e:=bareE 12 g) hg (by unfold Gu.may;simp[bareE,hy]) (by simp[bareE])]
  simp[bareE]
 exact⟨_,h.one (s':=panicS s g) rfl (sh_plain r2 (by simp[bareE]) (by show (-1:Int)<_;omega) h.gi.ow) ⟨rfl,rfl,hl,h.gi.ch,owed_k (by simp[bareE]) (by simp[bareE])⟩ h.w h.c⟩
theorem RI.waits(h:RI s gs)(hp:s.pk=false){sts':List (Option St)}(e:Ev)(hg:Cr.gt s.cr e.g=some y)(hy:y.s=0)(hk:e.k=6)(hc:e.c<s.md)(sv:Sv s.sts sts')(wg:WG e.g sts' s.cr)(cq:CQ sts'):∃gs',RI (waitsS {s with sts:=sts'} e) gs':=by
 have hl:=h.gi.len
 have r2:Gu.r2 gs.st gs.pn e=some ((s.cr.map (·.s)).set e.g.toNat 1,false):=by
  rw[h.gi.st,h.gi.pn,hp,r2_in hg (by unfold Gu.may;simp[hk,hy]) (by omega)]
  simp[hk]
 refine⟨_,h.one (s':=waitsS {s with sts:=sts'} e) rfl (sh_plain r2 (by omega) (by omega) h.gi.ow) ⟨(ch_map hg hy).symm,hp.symm,hl,fun i st hst=>?_,owed_k (e:=e) (by omega) (by omega)⟩ (wg.park hg hy _) cq⟩
 obtain⟨x,hx,e2⟩:=sv i st hst
 rw[e2]
 exact h.gi.ch i x hx
theorem WQ.app{sts:List (Option St)}{cr:List Mb}(h:WQ sts cr)(z:Mb):WQ sts (cr++[z]):=fun x hx=>by
 obtain⟨q,hq,q1⟩:=h x hx
 refine⟨q,?_,q1⟩
 obtain⟨h0,h1,h2⟩:=gt_at hq
 unfold Cr.gt
 rw[if_neg (by omega),List.getElem?_append_left h1]
 exact h2
theorem RI.spawn(h:RI s gs)(hp:s.pk=false)(a:Int)(ha:0≤a)(hc:s.cr.length<512)(hg:Cr.gt s.cr g=some y)(hy:y.s=0):∃gs',RI (goS {s with cr:=Cr.spL s.cr a} ⟨1,g,-1,-1,a,Cr.spV s.cr a,false,false⟩) gs':=by
 have hl:=h.gi.len
 have e1:Cr.spV s.cr a=s.cr.length:=by unfold Cr.spV;rw[if_neg (by omega),if_neg (by omega)]
 have e2:Cr.spL s.cr a=s.cr++[⟨a,0,0⟩]:=by unfold Cr.spL;rw[if_neg (by omega),if_neg (by omega)]
 rw[e1,e2]
 have r2:Gu.r2 gs.st gs.pn ⟨1,g,-1,-1,a,s.cr.length,false,false⟩=some (s.cr.map (·.s)++[0],false):=by
  rw[h.gi.st,h.gi.pn,hp,r2_in (e:=⟨1,g,-1,-1,a,s.cr.length,false,false⟩) hg (by unfold Gu.may;simp[hy]) (by simp)]
  simp
 have hg':Cr.gt (s.cr++[⟨a,0,0⟩]) g=some y:=by
  obtain⟨h0,h1,h2⟩:=gt_at hg
  unfold Cr.gt
  rw[if_neg (by omega),List.getElem?_append_left h1]
  exact h2
 refine⟨_,h.one (s':=goS {s with cr:=s.cr++[⟨a,0,0⟩]} ⟨1,g,-1,-1,a,s.cr.length,false,false⟩) rfl (sh_plain r2 (by simp) (by show (-1:Int)<_;omega) h.gi.ow) ⟨?_,hp.symm,hl,h.gi.ch,owed_k (by simp) (by simp)⟩ ((h.w.app _).ch hg' (by omega) _ _ _) h.c⟩
 show _=(Cr.chL (s.cr++[⟨a,0,0⟩]) g 0 0 1).map (·.s)
 rw[go_map hg' hy]
 simp
end
end Lo
end Go.Proofs.YtogkjaekfhjelaaGreat
namespace Go.Proofs.YtogkjaekfhjelaaGreat
namespace Lo
open Ba
theorem set_id{α:Type}{l:List α}{i:Nat}{x:α}(h:l[i]? =some x):l.set i x=l:=by
 apply List.ext_getElem?
 intro j
 rw[List.getElem?_set]
 split
 ·rename_i e
  subst e
  rw[h]
  simp[(List.getElem?_eq_some_iff.1 h).1]
 ·rfl
theorem getD_set_same{α:Type}(l:List α)(n:Nat)(x z:α)(h:n<l.length):(l.set n x).getD n z=x:=by
 simp[List.getD_eq_getElem?_getD,h]
theorem getD_set_other{α:Type}(l:List α)(n m:Nat)(x z:α)(h:m≠n):(l.set n x).getD m z=l.getD m z:=by
 simp[List.getD_eq_getElem?_getD,List.getElem?_set_ne (Ne.symm h)]
section
variable {s:Lm}{gs:Gu.Gs}{g:Int}{y:Mb}
theorem RI.at_(h:RI s gs)(v:VI s){c:Int}{st:St}(hc:Fk.nmB s.sts c=some st):0≤num s c∧num s c<gs.ch.length∧gs.ch.getD (num s c).toNat Gu.chz=vw st∧Fine st∧J st:=by
 obtain⟨c8,n0,nl,-,hJ⟩:=v.nmd hc
 have hl:=h.gi.len
 exact⟨n0,by omega,h.gi.ch _ _ (Fk.nmB_at hc),h.c _ _ (Fk.nmB_at hc),hJ⟩
theorem ch_set(h:GI s gs)(v:VI s){c:Int}{st st':St}(hc:Fk.nmB s.sts c=some st):∀(i:Nat) (z:St),(s.sts.set c.toNat (some st'))[i]? =some (some z)→(gs.ch.set (num s c).toNat (vw st')).getD (nth s.nm i).toNat Gu.chz=vw z:=by
 obtain⟨c8,n0,nl,-,-⟩:=v.nmd hc
 have hl:=h.len
 intro i z hz
 rw[List.getElem?_set] at hz
 split at hz
 ·rename_i e
  subst e
  split at hz
  ·simp at hz
   subst hz
   show (gs.ch.set (num s c).toNat (vw st')).getD (num s c).toNat Gu.chz=_
   rw[getD_set_same _ _ _ _ (by omega)]
  ·cases hz
 ·rename_i e
  have hi:i<8:=by have:=(List.getElem?_eq_some_iff.1 hz).1;rw[v.l1] at this;exact this
  obtain⟨a0,-,-⟩:=v.ch i z hz
  rw[getD_set_other _ _ _ _ _ (fun q=>e (v.inj i c.toNat hi c8 (by unfold num at q;have h2:(0:Int)≤nth s.nm c.toNat:=n0;omega) a0).symm)]
  exact h.ch i z hz
theorem wq_set(h:RI s gs){c:Int}{st st':St}(hc:Fk.nmB s.sts c=some st)(hs:∀x,x∈st'.snd∨x∈st'.rcv→x∈st.snd∨x∈st.rcv):WQ (s.sts.set c.toNat (some st')) s.cr:=
 h.w.sub fun x hx=>by
  rcases wm_set hx with q|q
  ·exact q
  ·exact⟨_,st,Fk.nmB_at hc,hs x q⟩
theorem r2_go{e:Ev}(h:RI s gs)(hp:s.pk=false)(hg:Cr.gt s.cr e.g=some y)(hy:y.s=0)(hk:e.k=2∨e.k=3∨e.k=4∨e.k=5):Gu.r2 gs.st gs.pn e=some (s.cr.map (·.s),false):=by
 rw[h.gi.st,h.gi.pn,hp,r2_in hg (by unfold Gu.may;rcases hk with q|q|q|q<;>simp[q,hy]) (by rcases hk with q|q|q|q<;>omega)]
 rcases hk with q|q|q|q<;>simp[q]
theorem r4_go{e:Ev}(h:RI s gs)(hk:e.k≠7):Gu.r4 gs.la e=some e:=by
 unfold Gu.r4
 rw[h.gi.ow]
 simp[hk]
theorem r3_go{e:Ev}(hk:e.k≠2)(hc:e.c<gs.ch.length):Gu.r3 gs.ch e=some gs.ch:=by
 unfold Gu.r3
 rw[if_neg hk,if_pos hc]
theorem RI.make(h:RI s gs)(v:VI s)(hp:s.pk=false)(a b:Int)(ha:0≤a∧a<8)(hb:0≤b)(hg:Cr.gt s.cr g=some y)(hy:y.s=0):∃gs',RI (goS (opensS s a b) ⟨2,g,s.md,-1,b,-1,false,false⟩) gs':=by
 have hl:=h.gi.len
 have h0:=v.md0
 obtain⟨e,he⟩:∃e:Ev,e=⟨2,g,s.md,-1,b,-1,false,false⟩:=⟨_,rfl⟩
 have hk:e.k=2:=by rw[he]
 have hgg:e.g=g:=by rw[he]
 have hec:e.c=s.md:=by rw[he]
 have hev:e.v=b:=by rw[he]
 rw[←he]
 have r2:=r2_go (e:=e) h hp (by rw[hgg];exact hg) hy (.inl hk)
 have hs:∀nx,Gu.stepH gs e nx=some ⟨s.cr.map (·.s),false,gs.ch++[⟨b,[],false⟩],e⟩:=fun nx=>by
  refine sh_ok r2 (ch3:=gs.ch++[⟨b,[],false⟩]) ?_ (r4_go h (by omega)) (ch5:=gs.ch++[⟨b,[],false⟩]) ?_ ?_
  ·unfold Gu.r3
   rw[if_pos hk,if_neg (by rw[hec,hl];simp),hev]
  ·unfold Gu.r5 Gu.moves
   simp[hk]
  ·unfold Gu.r6
   simp[hk]
 refine⟨_,h.one (s':=goS (opensS s a b) e) rfl hs ⟨?_,hp.symm,?_,fun i z hz=>?_,owed_k (e:=e) (by omega) (by omega)⟩ ?_ ?_⟩
 ·show _=(Cr.chL s.cr e.g 0 0 1).map (·.s)
  rw[hgg]
  exact (go_map hg hy).symm
 ·show ((gs.ch++[(⟨b,[],false⟩:Gu.Chn)]).length:Int)=s.md+1
  simp
  omega
 ·have hz':(s.sts.set a.toNat (some (_root_.Go.Proofs.YtogkjaekfhjelaaGreat.Pi.st0 b.toNat)))[i]? =some (some z):=hz
  show (gs.ch++[(⟨b,[],false⟩:Gu.Chn)]).getD (nth (s.nm.set a.toNat s.md) i).toNat Gu.chz=vw z
  rw[List.getElem?_set] at hz'
  split at hz'
  ·rename_i e1
   subst e1
   split at hz'
   ·simp at hz'
    subst hz'
    have:nth (s.nm.set a.toNat s.md) a.toNat=s.md:=by rw[nth_lt _ _ (by rw[List.length_set,v.l2];omega),List.getElem_set_self]
    rw[this,List.getD_eq_getElem?_getD,List.getElem?_append_right (by omega)]
    have:s.md.toNat - gs.ch.length=0:=by omega
    rw[this]
    unfold vw _root_.Go.Proofs.YtogkjaekfhjelaaGreat.Pi.st0
    simp
    omega
   ·cases hz'
  ·rename_i e1
   have hi:i<8:=by have:=(List.getElem?_eq_some_iff.1 hz').1;rw[v.l1] at this;exact this
   have hn:nth (s.nm.set a.toNat s.md) i=nth s.nm i:=by
    rw[nth_lt _ _ (by rw[List.length_set,v.l2];exact hi),nth_lt _ _ (by rw[v.l2];exact hi),List.getElem_set_ne e1]
   obtain⟨a0,-,-⟩:=v.ch i z hz'
   have:=v.nlt i hi
   rw[hn,List.getD_eq_getElem?_getD,List.getElem?_append_left (by omega),←List.getD_eq_getElem?_getD]
   exact h.gi.ch i z hz'
 ·refine WQ.ch (h.w.sub fun x hx=>?_) (by rw[hgg];exact hg) (by omega) _ _ _
  rcases wm_set hx with q|q
  ·exact q
  ·unfold _root_.Go.Proofs.YtogkjaekfhjelaaGreat.Pi.st0 at q
   simp at q
 ·exact h.c.set ⟨(fun q=>by unfold _root_.Go.Proofs.YtogkjaekfhjelaaGreat.Pi.st0 at q;cases q),Nat.zero_le _⟩ _
theorem RI.act(h:RI s gs)(v:VI s)(hp:s.pk=false)(e:Ev)(hg:Cr.gt s.cr e.g=some y)(hy:y.s=0)(hk:e.k=3∨e.k=4∨e.k=5){c:Int}{st st':St}(hc:Fk.nmB s.sts c=some st)(hec:e.c=num s c)(ho:Gu.owed e=false)
 (h5:∀nx,Gu.r5 gs.ch e nx=some (gs.ch.set (num s c).toNat (vw st'))∧Gu.r6 (gs.ch.set (num s c).toNat (vw st')) e=some (gs.ch.set (num s c).toNat (vw st'))∨Gu.r5 gs.ch e nx=some gs.ch∧Gu.r6 gs.ch e=some (gs.ch.set (num s c).toNat (vw st'))) (hf:Fine st') (hw:∀x,x∈st'.snd∨x∈st'.rcv→x∈st.snd∨x∈st.rcv):
 ∃gs',RI (goS {s with sts:=s.sts.set c.toNat (some st')} e) gs'∧gs'.la=e:=by
 have hl:=h.gi.len
 obtain⟨n0,nl,-,-,-⟩:=h.at_ v hc
 have r2:=r2_go h hp hg hy (.inr hk)
 have r4:=r4_go (e:=e) h (by rcases hk with q|q|q<;>omega)
 have r3:=r3_go (gs:=gs) (e:=e) (by rcases hk with q|q|q<;>omega) (by rw[hec];exact nl)
 refine⟨⟨s.cr.map (·.s),false,gs.ch.set (num s c).toNat (vw st'),e⟩,h.one (s':=goS {s with sts:=s.sts.set c.toNat (some st')} e) rfl (fun nx=>?_) ⟨(go_map hg hy).symm,hp.symm,(by show ((gs.ch.set _ _).length:Int)=s.md;rw[List.length_set];exact hl),ch_set h.gi v hc,ho⟩ (WQ.ch (wq_set h hc hw) hg (by omega) _ _ _) (h.c.set hf _),rfl⟩
 rcases h5 nx with⟨a,b⟩|⟨a,b⟩
 ·exact sh_ok r2 r3 r4 a b
 ·exact sh_ok r2 r3 r4 a b
end
end Lo
end Go.Proofs.YtogkjaekfhjelaaGreat
namespace Go.Proofs.YtogkjaekfhjelaaGreat
namespace Lo
open Ba
section
variable {s:Lm}{gs:Gu.Gs}{g:Int}{y:Mb}
theorem moves3{e:Ev}(h:e.k=3):Gu.moves e=true:=by unfold Gu.moves;simp[h]
theorem moves4{e:Ev}(h:e.k=4)(ho:e.o=true):Gu.moves e=true:=by unfold Gu.moves;simp[h,ho]
theorem r5_of{ch:List Gu.Chn}{e:Ev}{nx:Option Ev}{x x':Gu.Chn}(hm:Gu.moves e=true)(hx:ch.getD e.c.toNat Gu.chz=x)(h:Gu.r5c x e nx=some x'):Gu.r5 ch e nx=some (ch.set e.c.toNat x'):=by
 unfold Gu.r5
 rw[if_pos hm,hx,h]
 rfl
theorem r6_send{ch:List Gu.Chn}{e:Ev}(hk:e.k=3)(hx:(ch.getD e.c.toNat Gu.chz).cl=false):Gu.r6 ch e=some ch:=by
 unfold Gu.r6
 simp only[hk,hx]
 simp
theorem r6_recv{ch:List Gu.Chn}{e:Ev}(hk:e.k=4)(ho:e.o=true)(hx:e.m=-1∨(ch.getD e.c.toNat Gu.chz).cl=false):Gu.r6 ch e=some ch:=by
 unfold Gu.r6
 simp only[hk,ho]
 rw[if_neg (by omega),if_neg (by omega),if_pos trivial,if_neg (by simp),if_pos hx]
theorem RI.send1(h:RI s gs)(v:VI s)(hp:s.pk=false)(e:Ev)(hg:Cr.gt s.cr e.g=some y)(hy:y.s=0)(hk:e.k=3)(hm:e.m=-1){c:Int}{st st':St}(hc:Fk.nmB s.sts c=some st)(hec:e.c=num s c)(hcl:st.closed=false)(hl:st.buf.length<st.size)(hst:st'.size=st.size∧st'.buf=st.buf++[e.v]∧st'.closed=st.closed∧st'.snd=st.snd∧st'.rcv=st.rcv):
 ∃gs',RI (goS {s with sts:=s.sts.set c.toNat (some st')} e) gs':=by
 obtain⟨n0,nl,nv,nf,nj⟩:=h.at_ v hc
 obtain⟨t1,t2,t3,t4,t5⟩:=hst
 have hvw:vw st'=⟨st.size,st.buf++[e.v],false⟩:=by unfold vw;rw[t1,t2,t3,hcl]
 have a5:∀nx,Gu.r5 gs.ch e nx=some (gs.ch.set (num s c).toNat (vw st')):=fun nx=>by
  rw[←hec]
  refine r5_of (x:=vw st) (moves3 hk) (by rw[hec];exact nv) ?_
  unfold Gu.r5c Gu.putP vw
  rw[if_neg (by omega),if_pos hk,if_pos (by simp;omega),t1,t2,t3]
 have a6:Gu.r6 (gs.ch.set (num s c).toNat (vw st')) e=some (gs.ch.set (num s c).toNat (vw st')):=by
  rw[←hec]
  refine r6_send hk ?_
  rw[getD_set_same _ _ _ _ (by rw[hec];omega),hvw]
 obtain⟨gs',r,-⟩:=h.act v hp e hg hy (.inl hk) (st':=st') hc hec (by unfold Gu.owed;simp[hm]) (fun nx=>.inl ⟨a5 nx,a6⟩) ⟨(fun q=>by rw[t3,hcl] at q;cases q),by rw[t2,t1];simp;omega⟩ (fun x hx=>by rw[t4,t5] at hx;exact hx)
 exact⟨gs',r⟩
theorem RI.recv1(h:RI s gs)(v:VI s)(hp:s.pk=false)(e:Ev)(hg:Cr.gt s.cr e.g=some y)(hy:y.s=0)(hk:e.k=4)(ho:e.o=true)(hm:e.m=-1){c:Int}{st st':St}(hc:Fk.nmB s.sts c=some st)(hec:e.c=num s c){b:List Int}(hb:st.buf=e.v::b)(hst:st'.size=st.size∧st'.buf=b∧st'.closed=st.closed∧st'.snd=st.snd∧st'.rcv=st.rcv):
 ∃gs',RI (goS {s with sts:=s.sts.set c.toNat (some st')} e) gs':=by
 obtain⟨n0,nl,nv,nf,nj⟩:=h.at_ v hc
 obtain⟨t1,t2,t3,t4,t5⟩:=hst
 have hbl:=nf.bf
 rw[hb] at hbl
 simp at hbl
 have a5:∀nx,Gu.r5 gs.ch e nx=some (gs.ch.set (num s c).toNat (vw st')):=fun nx=>by
  rw[←hec]
  refine r5_of (x:=vw st) (moves4 hk ho) (by rw[hec];exact nv) ?_
  unfold Gu.r5c Gu.putP vw
  rw[if_pos (.inl hk),if_neg (by omega),if_neg (by omega)]
  simp only[hb]
  rw[if_neg (by simp),if_pos (by omega),t1,t2,t3]
 obtain⟨gs',r,-⟩:=h.act v hp e hg hy (.inr (.inl hk)) (st':=st') hc hec (by unfold Gu.owed;simp[hm]) (fun nx=>.inl ⟨a5 nx,r6_recv hk ho (.inl hm)⟩) ⟨(fun q=>by rw[t4,t5];rw[t3] at q;exact nf.cl q),by rw[t2,t1];omega⟩ (fun x hx=>by rw[t4,t5] at hx;exact hx)
 exact⟨gs',r⟩
theorem RI.recv0(h:RI s gs)(v:VI s)(hp:s.pk=false)(e:Ev)(hg:Cr.gt s.cr e.g=some y)(hy:y.s=0)(hk:e.k=4)(ho:e.o=false)(hm:e.m=-1){c:Int}{st:St}(hc:Fk.nmB s.sts c=some st)(hec:e.c=num s c)(hb:st.buf=[])(hcl:st.closed=true):
 ∃gs',RI (goS {s with sts:=s.sts.set c.toNat (some st)} e) gs':=by
 obtain⟨n0,nl,nv,nf,nj⟩:=h.at_ v hc
 have a5:∀nx,Gu.r5 gs.ch e nx=some gs.ch:=fun nx=>by
  unfold Gu.r5 Gu.moves
  simp[hk,ho]
 have a6:Gu.r6 gs.ch e=some (gs.ch.set (num s c).toNat (vw st)):=by
  have e1:gs.ch.set (num s c).toNat (vw st)=gs.ch:=set_id (by
   rw[←nv,List.getD_eq_getElem?_getD]
   rw[List.getElem?_eq_getElem (by omega)]
   rfl)
  rw[e1]
  unfold Gu.r6
  simp only[hec,nv,hk,ho]
  rw[if_neg (by omega),if_neg (by omega),if_pos trivial,if_pos trivial]
  unfold vw
  simp[hb,hcl]
 obtain⟨gs',r,-⟩:=h.act v hp e hg hy (.inr (.inl hk)) (st':=st) hc hec (by unfold Gu.owed;simp[hm]) (fun nx=>.inr ⟨a5 nx,a6⟩) nf (fun x hx=>hx)
 exact⟨gs',r⟩
theorem RI.wakeC(h:RI s gs)(hp:s.pk=false){c:Int}(hc:c<s.md)(hla:gs.la.k=5∧gs.la.g=g∧gs.la.c=c)(x a:Int)(hx:Cr.gt s.cr x=some y)(hy:y.s=1):∃gs',RI (wakesS s ⟨7,x,c,a,0,g,false,false⟩) gs'∧gs'.la=gs.la:=by
 have hl:=h.gi.len
 obtain⟨e,he⟩:∃e:Ev,e=⟨7,x,c,a,0,g,false,false⟩:=⟨_,rfl⟩
 have hk:e.k=7:=by rw[he]
 have hgg:e.g=x:=by rw[he]
 have hec:e.c=c:=by rw[he]
 have hem:e.m=g:=by rw[he]
 have hes:e.s=false:=by rw[he]
 have heo:e.o=false:=by rw[he]
 rw[←he]
 have hx':Cr.gt s.cr e.g=some y:=by rw[hgg];exact hx
 have r2:Gu.r2 gs.st gs.pn e=some ((s.cr.map (·.s)).set e.g.toNat 0,false):=by
  rw[h.gi.st,h.gi.pn,hp,r2_in hx' (by unfold Gu.may;simp[hk,hy]) (by omega)]
  simp[hk]
 refine⟨⟨(s.cr.map (·.s)).set e.g.toNat 0,false,gs.ch,gs.la⟩,h.one (s':=wakesS s e) rfl (fun nx=>sh_ok r2 (r3_go (by omega) (by omega)) ?_ (ch5:=gs.ch) ?_ ?_) ⟨(ch_map hx' hy).symm,hp.symm,hl,fun i st hst=>?_,h.gi.ow⟩ (h.w.wake _ _ _ _) (h.c.leave _),rfl⟩
 ·unfold Gu.r4
  rw[h.gi.ow]
  rw[if_neg (by simp),if_neg (by omega),if_pos]
  unfold Gu.closeP
  simp[hla.1,hla.2.1,hla.2.2,hem,hec,hes,heo]
 ·unfold Gu.r5 Gu.moves
  simp[hk]
 ·unfold Gu.r6
  simp[hk]
 ·obtain⟨z,hz,e2⟩:=Sv.leave e.g s.sts i st hst
  rw[e2]
  exact h.gi.ch i z hz
theorem parked_some{s:Lm}{x:Int}(h:parked s x=true):∃y,Cr.gt s.cr x=some y∧y.s=1:=by
 unfold parked Cr.one0 at h
 cases hg:Cr.gt s.cr x with
 |none=>rw[hg] at h;simp at h
 |some y=>rw[hg] at h;simp at h;exact⟨y,rfl,h⟩
theorem RI.wakeL{c:Int}:∀(l:List Wt) {s:Lm} {gs:Gu.Gs},RI s gs→s.pk=false→c<s.md→(gs.la.k=5∧gs.la.g=g∧gs.la.c=c)→∃gs',RI (wakeAll g c s l) gs'
 |[],_,gs,h,_,_,_=>⟨gs,h⟩
 |x::l,s,gs,h,hp,hc,hla=>by
  unfold Lo.wakeAll
  cases hq:parked s x.g
  ·simp only[Bool.false_eq_true,if_false]
   exact RI.wakeL l h hp hc hla
  ·simp only[if_true]
   obtain⟨y,hy,hy1⟩:=parked_some hq
   obtain⟨gs1,h1,e1⟩:=h.wakeC hp hc hla x.g x.c hy hy1
   exact RI.wakeL l h1 hp hc (by rw[e1];exact hla)
theorem RI.close(h:RI s gs)(v:VI s)(hp:s.pk=false)(hg:Cr.gt s.cr g=some y)(hy:y.s=0){c:Int}{st:St}(hc:Fk.nmB s.sts c=some st)(hcl:st.closed=false):
 ∃gs',RI (wakeAll g (num s c) (goS {s with sts:=s.sts.set c.toNat (some (_root_.Go.Proofs.YtogkjaekfhjelaaGreat.Pi.closeS st))} ⟨5,g,num s c,-1,-1,-1,false,false⟩) st.rcv) gs':=by
 obtain⟨n0,nl,nv,nf,nj⟩:=h.at_ v hc
 have hl:=h.gi.len
 have hcs:_root_.Go.Proofs.YtogkjaekfhjelaaGreat.Pi.closeS st={st with snd:=[],rcv:=[],closed:=true}:=by unfold _root_.Go.Proofs.YtogkjaekfhjelaaGreat.Pi.closeS;rw[hcl];rfl
 have a5:∀nx,Gu.r5 gs.ch ⟨5,g,num s c,-1,-1,-1,false,false⟩ nx=some gs.ch:=fun nx=>by
  unfold Gu.r5 Gu.moves
  simp
 have a6:Gu.r6 gs.ch ⟨5,g,num s c,-1,-1,-1,false,false⟩=some (gs.ch.set (num s c).toNat (vw (_root_.Go.Proofs.YtogkjaekfhjelaaGreat.Pi.closeS st))):=by
  unfold Gu.r6
  simp only[nv]
  rw[if_pos trivial,if_neg (by unfold vw;simp[hcl]),hcs]
  rfl
 obtain⟨gs',r,e1⟩:=h.act v hp ⟨5,g,num s c,-1,-1,-1,false,false⟩ hg hy (.inr (.inr rfl)) (st':=_root_.Go.Proofs.YtogkjaekfhjelaaGreat.Pi.closeS st) hc rfl (owed_k (by simp) (by simp)) (fun nx=>.inr ⟨a5 nx,a6⟩) (by rw[hcs];exact⟨fun _=>⟨rfl,rfl⟩,nf.bf⟩) (fun x hx=>by rw[hcs] at hx;simp at hx)
 exact RI.wakeL st.rcv r hp (by show num s c<s.md;omega) (by rw[e1];exact⟨rfl,rfl,rfl⟩)
end
end Lo
end Go.Proofs.YtogkjaekfhjelaaGreat
