import Derived.Test.YtogkjaekfhjelaaGreatZjSg1
import Derived.Test.YtogkjaekfhjelaaGreatZjSg11
import Derived.Test.YtogkjaekfhjelaaGreatZjSg13
import Derived.Test.YtogkjaekfhjelaaGreatZjSg14
import Derived.Test.YtogkjaekfhjelaaGreatZjSg15
import Derived.Deep.RegionLaw
import Derived.Deep.RegionWith
import Derived.Maps.AppendAt
import Derived.Lib.Slices
import Derived.Deep.RegionHeld3
import Derived.Deep.AppendSrc
set_option maxHeartbeats 12800000
namespace Go.Proofs.YtogkjaekfhjelaaGreat
open Go.ChangeShapes Go.WideShapes Go.ChangeAt Go.RowKit
namespace Gu
open En Ba
def rl(i k:Nat)(e:Ev)(nx:Option Ev)(s:Gs):Option Gs:=match i with
 |0=>if 2000≤k∨chk e≠0 then none else some s
 |1=>(r2 s.st s.pn e).map fun q=>{s with st:=q.1,pn:=q.2}
 |2=>(r3 s.ch e).map fun c=>{s with ch:=c}
 |3=>(r4 s.la e).map fun x=>{s with la:=x}
 |4=>(r5 s.ch e nx).map fun c=>{s with ch:=c}
 |_=>(r6 s.ch e).map fun c=>{s with ch:=c}
def upto(i k:Nat)(e:Ev)(nx:Option Ev)(s:Gs):Option Gs:=match i with
 |0=>some s
 |i+1=>(upto i k e nx s).bind (rl i k e nx)
theorem stepG_rl(s:Gs)(k:Nat)(e:Ev)(nx:Option Ev):
 (∃n s',n<6∧upto n k e nx s=some s'∧rl n k e nx s'=none∧stepG s k e nx=.error ((n:Int)+1))∨(∃s',upto 6 k e nx s=some s'∧stepG s k e nx=.ok s'):=by
 unfold stepG
 by_cases h1:2000≤k∨chk e≠0
 ·exact .inl ⟨0,s,by decide,rfl,by unfold rl;simp only;rw[if_pos h1],by rw[if_pos h1];rfl⟩
 rw[if_neg h1]
 have u1:upto 1 k e nx s=some s:=by unfold upto upto rl;simp only[Option.bind_some];rw[if_neg h1]
 cases e2:r2 s.st s.pn e with
 |none=>exact .inl ⟨1,s,by decide,u1,by simp[rl,e2],rfl⟩
 |some q=>
 obtain⟨st,pn⟩:=q
 have u2:upto 2 k e nx s=some {s with st:=st,pn:=pn}:=by unfold upto;rw[u1];simp[rl,e2]
 cases e3:r3 s.ch e with
 |none=>exact .inl ⟨2,_,by decide,u2,by simp[rl,e3],rfl⟩
 |some ch3=>
 have u3:upto 3 k e nx s=some {s with st:=st,pn:=pn,ch:=ch3}:=by unfold upto;rw[u2];simp[rl,e3]
 cases e4:r4 s.la e with
 |none=>exact .inl ⟨3,_,by decide,u3,by simp[rl,e4],rfl⟩
 |some la=>
 have u4:upto 4 k e nx s=some ⟨st,pn,ch3,la⟩:=by unfold upto;rw[u3];simp[rl,e4]
 cases e5:r5 ch3 e nx with
 |none=>exact .inl ⟨4,_,by decide,u4,by simp[rl,e5],by simp only[e5];rfl⟩
 |some ch5=>
 have u5:upto 5 k e nx s=some ⟨st,pn,ch5,la⟩:=by unfold upto;rw[u4];simp[rl,e5]
 cases e6:r6 ch5 e with
 |none=>exact .inl ⟨5,_,by decide,u5,by simp[rl,e6],by simp only[e5,e6];rfl⟩
 |some ch6=>
 have u6:upto 6 k e nx s=some ⟨st,pn,ch6,la⟩:=by unfold upto;rw[u5];simp[rl,e6]
 exact .inr ⟨_,u6,by simp only[e5,e6]⟩
structure Bn(s:Gs)(m:Nat):Prop where
 st:s.st.length≤m
 ch:s.ch.length≤m
 vs:∀(j:Nat) d,s.ch[j]? =some d→d.vs.length≤m
theorem Bn.mono{s:Gs}{m n:Nat}(h:Bn s m)(hn:m≤n):Bn s n:=⟨Nat.le_trans h.st hn,Nat.le_trans h.ch hn,fun j d hd=>Nat.le_trans (h.vs j d hd) hn⟩
theorem r2_len{st st':List Int}{pn pn':Bool}{e:Ev}(h:r2 st pn e=some (st',pn')):st'.length≤st.length+1:=by
 unfold r2 at h
 repeat' split at h
 all_goals first|(cases h;done)|(cases h;simp)
theorem r3_len{ch ch':List Chn}{e:Ev}(h:r3 ch e=some ch'):(e.k=2∧ch'=ch++[⟨e.v,[],false⟩])∨(e.k≠2∧ch'=ch∧e.c<ch.length):=by
 unfold r3 at h
 split at h
 ·split at h
  ·cases h
  ·cases h;exact .inl ⟨by assumption,rfl⟩
 ·split at h
  ·cases h;exact .inr ⟨by assumption,rfl,by assumption⟩
  ·cases h
theorem putP_len(c:Chn)(e:Ev)(nx:Option Ev):(putP c e nx).length≤c.vs.length+1:=by
 unfold putP
 split
 ·simp
 ·split
  ·cases nx<;>simp
  ·simp
theorem r5c_len{c c':Chn}{e:Ev}{nx:Option Ev}(h:r5c c e nx=some c'):c'.vs.length≤c.vs.length+1:=by
 have hp:=putP_len c e nx
 unfold r5c at h
 split at h
 ·split at h
  ·split at h
   ·cases h;exact Nat.le_succ _
   ·cases h
  ·rename_i v r hq
   rw[hq] at hp
   split at h
   ·cases h
   ·split at h
    ·cases h;simp at hp ⊢;omega
    ·cases h
 ·split at h
  ·cases h;exact hp
  ·cases h
theorem getD_at{ch:List Chn}{m j:Nat}(h:∀(j:Nat) d,ch[j]? =some d→d.vs.length≤m):(ch.getD j chz).vs.length≤m:=by
 rw[List.getD_eq_getElem?_getD]
 cases hq:ch[j]? with
 |none=>exact Nat.zero_le _
 |some d=>exact h j d hq
theorem set_vs{ch:List Chn}{m j:Nat}{c:Chn}(h:∀(j:Nat) d,ch[j]? =some d→d.vs.length≤m)(hc:c.vs.length≤m+1)(i:Nat)(d:Chn)(hd:(ch.set j c)[i]? =some d):d.vs.length≤m+1:=by
 by_cases e:j=i
 ·subst e
  have hl:j<ch.length:=by have:=(List.getElem?_eq_some_iff.1 hd).1;simpa using this
  rw[List.getElem?_set_self hl] at hd
  cases hd
  exact hc
 ·rw[List.getElem?_set_ne e] at hd
  exact Nat.le_succ_of_le (h i d hd)
theorem Bn.rl{i k:Nat}{e:Ev}{nx:Option Ev}{s s':Gs}{m:Nat}(h:Bn s m)(hr:rl i k e nx s=some s'):Bn s' (m+1):=by
 unfold Gu.rl at hr
 split at hr
 ·split at hr
  ·cases hr
  ·cases hr;exact h.mono (Nat.le_succ _)
 ·rw[Option.map_eq_some_iff] at hr
  obtain⟨q,hq,rfl⟩:=hr
  have:=r2_len (st':=q.1) (pn':=q.2) hq
  exact⟨by have:=h.st;simp only;omega,Nat.le_succ_of_le h.ch,fun j d hd=>Nat.le_succ_of_le (h.vs j d hd)⟩
 ·rw[Option.map_eq_some_iff] at hr
  obtain⟨q,hq,rfl⟩:=hr
  rcases r3_len hq with⟨-,rfl⟩|⟨-,rfl,-⟩
  ·refine⟨Nat.le_succ_of_le h.st,by have:=h.ch;simp;omega,fun j d hd=>?_⟩
   simp only at hd
   by_cases hj:j<s.ch.length
   ·rw[List.getElem?_append_left hj] at hd
    exact Nat.le_succ_of_le (h.vs j d hd)
   ·rw[List.getElem?_append_right (by omega)] at hd
    have:d=⟨e.v,[],false⟩:=by
     have hl:=(List.getElem?_eq_some_iff.1 hd).1
     simp at hl
     rw[hl] at hd
     simp at hd
     exact hd.symm
    rw[this]
    exact Nat.zero_le _
  ·exact h.mono (Nat.le_succ _)
 ·rw[Option.map_eq_some_iff] at hr
  obtain⟨q,hq,rfl⟩:=hr
  exact⟨Nat.le_succ_of_le h.st,Nat.le_succ_of_le h.ch,fun j d hd=>Nat.le_succ_of_le (h.vs j d hd)⟩
 ·rw[Option.map_eq_some_iff] at hr
  obtain⟨q,hq,rfl⟩:=hr
  unfold r5 at hq
  split at hq
  ·rw[Option.map_eq_some_iff] at hq
   obtain⟨c,hc,rfl⟩:=hq
   refine⟨Nat.le_succ_of_le h.st,by simp;exact Nat.le_succ_of_le h.ch,set_vs h.vs ?_⟩
   have:=r5c_len hc
   have:=getD_at (j:=e.c.toNat) h.vs
   omega
  ·cases hq;exact h.mono (Nat.le_succ _)
 ·rw[Option.map_eq_some_iff] at hr
  obtain⟨q,hq,rfl⟩:=hr
  have hg:=getD_at (j:=e.c.toNat) h.vs
  unfold r6 at hq
  simp only at hq
  repeat' split at hq
  all_goals first
   |(cases hq;done)
   |(cases hq;exact h.mono (Nat.le_succ _))
   |(cases hq;exact⟨Nat.le_succ_of_le h.st,by simp;exact Nat.le_succ_of_le h.ch,set_vs h.vs (by simp only;omega)⟩)
theorem Bn.upto{i k:Nat}{e:Ev}{nx:Option Ev}{s s':Gs}{m:Nat}(h:Bn s m)(hr:upto i k e nx s=some s'):Bn s' (m+i):=by
 induction i generalizing s' with
 |zero=>cases hr;exact h
 |succ i ih=>
  unfold Gu.upto at hr
  rw[Option.bind_eq_some_iff] at hr
  obtain⟨t,ht,hr⟩:=hr
  exact (ih ht).rl hr
theorem up_chk{i k:Nat}{e:Ev}{nx:Option Ev}{s s':Gs}(hi:1≤i)(hr:upto i k e nx s=some s'):chk e=0:=by
 induction i generalizing s' with
 |zero=>omega
 |succ i ih=>
  unfold Gu.upto at hr
  rw[Option.bind_eq_some_iff] at hr
  obtain⟨t,ht,hr⟩:=hr
  by_cases h0:i=0
  ·subst h0
   unfold rl at hr
   simp only at hr
   split at hr
   ·cases hr
   ·omega
  ·exact ih (by omega) ht
theorem up_in{k:Nat}{e:Ev}{nx:Option Ev}{s s':Gs}(h2:e.k≠2):
 (upto 4 k e nx s=some s'→e.c<s'.ch.length)∧(upto 5 k e nx s=some s'→e.c<s'.ch.length):=by
 have h3:∀t,upto 3 k e nx s=some t→e.c<t.ch.length:=fun t ht=>by
  unfold upto at ht
  rw[Option.bind_eq_some_iff] at ht
  obtain⟨u,-,hu⟩:=ht
  unfold rl at hu
  simp only at hu
  rw[Option.map_eq_some_iff] at hu
  obtain⟨q,hq,rfl⟩:=hu
  rcases r3_len hq with⟨q2,-⟩|⟨-,rfl,h⟩
  ·exact absurd q2 h2
  ·exact h
 have h4:∀t,upto 4 k e nx s=some t→e.c<t.ch.length:=fun t ht=>by
  unfold upto at ht
  rw[Option.bind_eq_some_iff] at ht
  obtain⟨u,hu0,hu⟩:=ht
  unfold rl at hu
  simp only at hu
  rw[Option.map_eq_some_iff] at hu
  obtain⟨q,-,rfl⟩:=hu
  exact h3 u hu0
 refine⟨h4 s',fun ht=>?_⟩
 unfold upto at ht
 rw[Option.bind_eq_some_iff] at ht
 obtain⟨u,hu0,hu⟩:=ht
 unfold rl at hu
 simp only at hu
 rw[Option.map_eq_some_iff] at hu
 obtain⟨q,hq,rfl⟩:=hu
 have:=h4 u hu0
 unfold r5 at hq
 split at hq
 ·rw[Option.map_eq_some_iff] at hq
  obtain⟨c,-,rfl⟩:=hq
  simpa using this
 ·cases hq;exact this
theorem c_pos{e:Ev}(h:chk e=0)(hk:e.k=3∨e.k=4∨e.k=5):0≤e.c:=by
 have f:=fit_of h
 exact f.c (by omega)
def RP(q:Option Gs)(N R:Nat)(ev:Value)(w:World)(r:Ending)(w':World):Prop:=((q=none∧r=.returned (.bool false))∨∃s',q=some s'∧r=.returned (.bool true)∧GW w' N R ev s')∧Fb N w w'
section
variable {w w':World}{N R k c:Nat}{ev:Value}{e:Ev}{nx:Option Ev}{s s0:Gs}{r:Ending}{oa:Option Addr}{l:List Ev}
theorem rp1(h:GoP (r2 s.st s.pn e) N R ev s w r w'):RP (rl 1 k e nx s) N R ev w r w':=by
 obtain⟨h|⟨st,pn,h1,h2,h3⟩,b⟩:=h
 ·exact⟨.inl ⟨by simp[rl,h.1],h.2⟩,b⟩
 ·exact⟨.inr ⟨_,by simp only[rl,h1];rfl,h2,h3⟩,b⟩
theorem rp2(h:ChP (r3 s.ch e) N R ev s w r w'):RP (rl 2 k e nx s) N R ev w r w':=by
 obtain⟨h|⟨st,h1,h2,h3⟩,b⟩:=h
 ·exact⟨.inl ⟨by simp[rl,h.1],h.2⟩,b⟩
 ·exact⟨.inr ⟨_,by simp only[rl,h1];rfl,h2,h3⟩,b⟩
theorem rp3(h:SeP (r4 s.la e) N R ev s w r w'):RP (rl 3 k e nx s) N R ev w r w':=by
 obtain⟨h|⟨st,h1,h2,h3⟩,b⟩:=h
 ·exact⟨.inl ⟨by simp[rl,h.1],h.2⟩,b⟩
 ·exact⟨.inr ⟨_,by simp only[rl,h1];rfl,h2,h3⟩,b⟩
theorem rp4(h:ChP (r5 s.ch e nx) N R ev s w r w'):RP (rl 4 k e nx s) N R ev w r w':=by
 obtain⟨h|⟨st,h1,h2,h3⟩,b⟩:=h
 ·exact⟨.inl ⟨by simp[rl,h.1],h.2⟩,b⟩
 ·exact⟨.inr ⟨_,by simp only[rl,h1];rfl,h2,h3⟩,b⟩
theorem rp5(h:ChP (r6 s.ch e) N R ev s w r w'):RP (rl 5 k e nx s) N R ev w r w':=by
 obtain⟨h|⟨st,h1,h2,h3⟩,b⟩:=h
 ·exact⟨.inl ⟨by simp[rl,h.1],h.2⟩,b⟩
 ·exact⟨.inr ⟨_,by simp only[rl,h1];rfl,h2,h3⟩,b⟩
theorem c0_any(h:GW w N R (.slice oa l.length c) s)(hA:EsAt w oa l)(hi:l[k]? =some e)(hN:N≤w.heap.size):Calls Tryz.prog 76 #[.pointer (some ⟨R,0,none⟩),.int .i64 (k:Int)] w fun r w'=>RP (rl 0 k e nx s) N R (.slice oa l.length c) w r w':=by
 refine (right_any h hA hi).mono ?_
 rintro r w' ⟨rfl,b⟩
 have hg:GW w' N R (.slice oa l.length c) s:=by obtain⟨mb,vs,D,cs,g⟩:=h;exact⟨mb,vs,D,cs,g.below b⟩
 by_cases h1:2000≤k∨chk e≠0
 ·refine⟨.inl ⟨by unfold rl;simp only;rw[if_pos h1],?_⟩,Fb.of b hN⟩
  have:(decide (2000≤k)||decide (chk e≠0))=true:=by simpa using h1
  rw[this];rfl
 ·refine⟨.inr ⟨s,by unfold rl;simp only;rw[if_neg h1],?_,hg⟩,Fb.of b hN⟩
  have:(decide (2000≤k)||decide (chk e≠0))=false:=by
   rw[Bool.eq_false_iff];intro q;exact h1 (by simpa using q)
  rw[this];rfl
theorem c1_any(h:GW w N R (.slice oa l.length c) s)(hA:EsAt w oa l)(hi:l[k]? =some e)(hN:N≤w.heap.size)(bn:Bn s 3000)(hu:upto 1 k e nx s0=some s):Calls Tryz.prog 77 #[.pointer (some ⟨R,0,none⟩),.int .i64 (k:Int)] w fun r w'=>RP (rl 1 k e nx s) N R (.slice oa l.length c) w r w':=
 (gor_any h hA hi (fit_of (up_chk (by decide) hu)).g bn.st hN).mono fun _ _ q=>rp1 q
theorem c2_any(h:GW w N R (.slice oa l.length c) s)(hA:EsAt w oa l)(hi:l[k]? =some e)(hN:N≤w.heap.size)(bn:Bn s 3000):Calls Tryz.prog 78 #[.pointer (some ⟨R,0,none⟩),.int .i64 (k:Int)] w fun r w'=>RP (rl 2 k e nx s) N R (.slice oa l.length c) w r w':=
 (numb_any h hA hi bn.ch hN).mono fun _ _ q=>rp2 q
theorem c3_any(h:GW w N R (.slice oa l.length c) s)(hA:EsAt w oa l)(hi:l[k]? =some e)(hN:N≤w.heap.size):Calls Tryz.prog 79 #[.pointer (some ⟨R,0,none⟩),.int .i64 (k:Int)] w fun r w'=>RP (rl 3 k e nx s) N R (.slice oa l.length c) w r w':=
 (serv_any h hA hi hN).mono fun _ _ q=>rp3 q
theorem c4_any(h:GW w N R (.slice oa l.length c) s)(hA:EsAt w oa l)(hi:l[k]? =some e)(hN:N≤w.heap.size)(bn:Bn s 3000)(hll:l.length≤4000)(hu:upto 4 k e l[k+1]? s0=some s):Calls Tryz.prog 80 #[.pointer (some ⟨R,0,none⟩),.int .i64 (k:Int)] w fun r w'=>RP (rl 4 k e l[k+1]? s) N R (.slice oa l.length c) w r w':=
 (ord_any h hA hi (chk_c (up_chk (by decide) hu)) (fun q=>by
   have h3:=moves_k q
   exact⟨c_pos (up_chk (by decide) hu) (by omega),(up_in (by omega)).1 hu⟩) bn.ch bn.vs hll hN).mono fun _ _ q=>rp4 q
theorem c5_any(h:GW w N R (.slice oa l.length c) s)(hA:EsAt w oa l)(hi:l[k]? =some e)(hN:N≤w.heap.size)(bn:Bn s 3000)(hu:upto 5 k e nx s0=some s):Calls Tryz.prog 81 #[.pointer (some ⟨R,0,none⟩),.int .i64 (k:Int)] w fun r w'=>RP (rl 5 k e nx s) N R (.slice oa l.length c) w r w':=
 (clos_any h hA hi (chk_c (up_chk (by decide) hu)) (fun q=>⟨c_pos (up_chk (by decide) hu) q,(up_in (by omega)).2 hu⟩) bn.ch bn.vs hN).mono fun _ _ q=>rp5 q
end
def BrP(k:Nat)(e:Ev)(nx:Option Ev)(s:Gs)(N R:Nat)(ev:Value)(w:World)(r:Ending)(w':World):Prop:=
 ((∃n:Int,stepG s k e nx=.error n∧r=.returned (.int .i64 n))∨∃s',stepG s k e nx=.ok s'∧r=.returned (.int .i64 0)∧GW w' N R ev s')∧Fb N w w'
theorem BrP.no{k n:Nat}{e:Ev}{nx:Option Ev}{s s':Gs}{N R:Nat}{ev:Value}{w w':World}{v:Int}(hn:n<6)(hu:upto n k e nx s=some s')(hr:rl n k e nx s'=none)(hv:v=(n:Int)+1)(b:Fb N w w'):BrP k e nx s N R ev w (.returned (.int .i64 v)) w':=by
 subst hv
 have key:∀a b,a≤b→∀t,upto b k e nx s=some t→∃u,upto a k e nx s=some u:=by
  intro a b hab
  induction b with
  |zero=>intro t ht;have:a=0:=by omega
         subst this;exact⟨t,ht⟩
  |succ b ih=>
   intro t ht
   by_cases hq:a=b+1
   ·subst hq;exact⟨t,ht⟩
   ·unfold upto at ht
    rw[Option.bind_eq_some_iff] at ht
    obtain⟨u,hu,-⟩:=ht
    exact ih (by omega) u hu
 have stop:∀m,n<m→∀t,upto m k e nx s=some t→False:=fun m hm t ht=>by
  obtain⟨u,hu'⟩:=key (n+1) m hm t ht
  unfold upto at hu'
  rw[hu] at hu'
  simp[hr] at hu'
 rcases stepG_rl s k e nx with⟨m,t,hm,h1,h2,h3⟩|⟨t,h1,-⟩
 ·have:m=n:=by
   rcases Nat.lt_trichotomy m n with q|q|q
   ·obtain⟨u,hu'⟩:=key (m+1) n q s' hu
    unfold upto at hu'
    rw[h1] at hu'
    simp[h2] at hu'
   ·exact q
   ·exact (stop m q t h1).elim
  subst this
  exact⟨.inl ⟨_,h3,rfl⟩,b⟩
 ·exact (stop 6 hn t h1).elim
theorem BrP.yes{k:Nat}{e:Ev}{nx:Option Ev}{s s':Gs}{N R:Nat}{ev:Value}{w w':World}(hu:upto 6 k e nx s=some s')(g:GW w' N R ev s')(b:Fb N w w'):BrP k e nx s N R ev w (.returned (.int .i64 0)) w':=by
 rcases stepG_rl s k e nx with⟨m,t,hm,h1,h2,h3⟩|⟨t,h1,h2⟩
 ·exfalso
  have key:∀b,m<b→upto b k e nx s=none:=by
   intro b hb
   induction b with
   |zero=>omega
   |succ b ih=>
    unfold upto
    by_cases hq:b=m
    ·subst hq;rw[h1];simp[h2]
    ·rw[ih (by omega)];rfl
  rw[key 6 hm] at hu
  cases hu
 ·rw[h1] at hu
  cases hu
  exact⟨.inr ⟨_,h2,rfl,g⟩,b⟩
def fv(R:Nat)(f:Nat):Value:=.func (.func f) #[.pointer (some ⟨R,0,none⟩)] #[]
set_option maxRecDepth 100000 in
theorem bro_any{w0 w:World}{N R B c k:Nat}{oa:Option Addr}{l:List Ev}{s:Gs}{e:Ev}(h:GW w N R (.slice oa l.length c) s)(hA:EsAt w0 oa l)(hN0:N=w0.heap.size)(hb0:Below N w0 w)(hi:l[k]? =some e)(bn:Bn s 2900)(hll:l.length≤4000)(hB:w.heap[B]? =some (.cells #[fv R 76,fv R 77,fv R 78,fv R 79,fv R 80,fv R 81] 67 (0,0))):
 Calls Tryz.prog 75 #[.int .i64 (k:Int),.slice (some ⟨B,0,none⟩) 6 6] w fun r w'=>BrP k e l[k+1]? s N R (.slice oa l.length c) w r w':=by
 have HH:=hide h
 have HA:=hide hA
 have HI:=hide hi
 have BN:=hide bn
 have HB:=hide hB
 have HB0:=hide hb0
 have hNw:N≤w.heap.size:=by rw[hN0];exact hN0 ▸ hb0.size
 have HN:=hide hNw
 have HN0:=hide hN0
 obtain⟨nx,hnx⟩:∃nx,l[k+1]? =nx:=⟨_,rfl⟩
 obtain⟨ev,hev⟩:∃ev,Value.slice oa l.length c=ev:=⟨_,rfl⟩
 have HNX:=hide hnx
 have HEV:=hide hev
 rw[hnx,hev]
 rw[hev] at HH
 have HLL:=hide hll
 clear h hA hi bn hB hb0 hnx hev hN0 hNw hll
 go_enter Tryz.func75,Tryz.ntmps75
 go_wp2_with fail
 go_loopw [9] (fun i wr=>∃(n:Nat) (t:Gs),n≤6∧i=.int .i64 (n:Int)∧upto n k e nx s=some t∧GW wr N R ev t∧Fb N w wr) (fun i _=>6 - (intOf i).toNat)
 case atStart=>exact⟨0,s,Nat.zero_le _,rfl,rfl,HH.out,Fb.of (Below.refl _ _) HN.out⟩
 case round=>
  obtain⟨n,t,hn,rfl,hu,g,fb⟩:=hrel
  have HU:=hide hu
  have HG:=hide g
  have FB:=hide fb
  have HW:Hid (N≤wr.heap.size):=by have:=FB.out.size;have:=HN.out;show N≤_;omega
  have EA:Hid (EsAt wr oa l):=HA.out.below (by rw[←HN0.out];exact HB0.out.trans FB.out.b)
  have CB:=hide (FB.out.f _ _ HB.out)
  have B3:=hide ((BN.out.upto HU.out).mono (show 2900+n≤3000 by omega))
  clear hu g fb
  by_cases hlt:n<6
  ·have hlt':(n:Int)<6:=by omega
   have hcs:n=0∨n=1∨n=2∨n=3∨n=4∨n=5:=by omega
   rcases hcs with q|q|q|q|q|q
   ·have cf:wr.cell? ⟨B,n,none⟩=some (.func (.func 76) #[.pointer (some ⟨R,0,none⟩)] #[]):=by rw[q];exact cell_of CB.out 0
    have CT:Hid (Calls Tryz.prog 76 #[.pointer (some ⟨R,0,none⟩),.int .i64 (k:Int)] wr fun r w'=>RP (rl n k e nx t) N R ev wr r w'):=by
     show Calls _ _ _ _ _
     have g:=HG.out
     have ea:=EA.out
     have hu:=HU.out
     rw[q] at hu ⊢
     rw[←HEV.out] at g ⊢
     rw[←HNX.out] at hu ⊢
     exact c0_any g ea HI.out HW.out
    clear q
    go_wp2_with fail
    refine CT.out.mono ?_
    rintro r w1 ⟨⟨hq,rfl⟩|⟨t',hq,rfl,g'⟩,fb1⟩
    ·have HQ:=hide hq
     have FB1:=hide (FB.out.trans fb1)
     clear hq fb1
     go_wp2_with fail
     go_ret
     exact BrP.no hlt HU.out HQ.out rfl FB1.out
    ·have HQ:Hid (upto (n+1) k e nx s=some t'):=by show _=_;unfold upto;rw[HU.out];exact hq
     have FB1:=hide (FB.out.trans fb1)
     have G1:=hide g'
     clear hq fb1 g'
     go_wp2_with fail
     go_roundw
     case measure=>simp[intOf];omega
     case rel=>exact⟨n+1,t',by omega,by simp,HQ.out,G1.out,FB1.out⟩
   ·have cf:wr.cell? ⟨B,n,none⟩=some (.func (.func 77) #[.pointer (some ⟨R,0,none⟩)] #[]):=by rw[q];exact cell_of CB.out 1
    have CT:Hid (Calls Tryz.prog 77 #[.pointer (some ⟨R,0,none⟩),.int .i64 (k:Int)] wr fun r w'=>RP (rl n k e nx t) N R ev wr r w'):=by
     show Calls _ _ _ _ _
     have g:=HG.out
     have ea:=EA.out
     have hu:=HU.out
     rw[q] at hu ⊢
     rw[←HEV.out] at g ⊢
     rw[←HNX.out] at hu ⊢
     exact c1_any g ea HI.out HW.out B3.out hu
    clear q
    go_wp2_with fail
    refine CT.out.mono ?_
    rintro r w1 ⟨⟨hq,rfl⟩|⟨t',hq,rfl,g'⟩,fb1⟩
    ·have HQ:=hide hq
     have FB1:=hide (FB.out.trans fb1)
     clear hq fb1
     go_wp2_with fail
     go_ret
     exact BrP.no hlt HU.out HQ.out rfl FB1.out
    ·have HQ:Hid (upto (n+1) k e nx s=some t'):=by show _=_;unfold upto;rw[HU.out];exact hq
     have FB1:=hide (FB.out.trans fb1)
     have G1:=hide g'
     clear hq fb1 g'
     go_wp2_with fail
     go_roundw
     case measure=>simp[intOf];omega
     case rel=>exact⟨n+1,t',by omega,by simp,HQ.out,G1.out,FB1.out⟩
   ·have cf:wr.cell? ⟨B,n,none⟩=some (.func (.func 78) #[.pointer (some ⟨R,0,none⟩)] #[]):=by rw[q];exact cell_of CB.out 2
    have CT:Hid (Calls Tryz.prog 78 #[.pointer (some ⟨R,0,none⟩),.int .i64 (k:Int)] wr fun r w'=>RP (rl n k e nx t) N R ev wr r w'):=by
     show Calls _ _ _ _ _
     have g:=HG.out
     have ea:=EA.out
     have hu:=HU.out
     rw[q] at hu ⊢
     rw[←HEV.out] at g ⊢
     rw[←HNX.out] at hu ⊢
     exact c2_any g ea HI.out HW.out B3.out
    clear q
    go_wp2_with fail
    refine CT.out.mono ?_
    rintro r w1 ⟨⟨hq,rfl⟩|⟨t',hq,rfl,g'⟩,fb1⟩
    ·have HQ:=hide hq
     have FB1:=hide (FB.out.trans fb1)
     clear hq fb1
     go_wp2_with fail
     go_ret
     exact BrP.no hlt HU.out HQ.out rfl FB1.out
    ·have HQ:Hid (upto (n+1) k e nx s=some t'):=by show _=_;unfold upto;rw[HU.out];exact hq
     have FB1:=hide (FB.out.trans fb1)
     have G1:=hide g'
     clear hq fb1 g'
     go_wp2_with fail
     go_roundw
     case measure=>simp[intOf];omega
     case rel=>exact⟨n+1,t',by omega,by simp,HQ.out,G1.out,FB1.out⟩
   ·have cf:wr.cell? ⟨B,n,none⟩=some (.func (.func 79) #[.pointer (some ⟨R,0,none⟩)] #[]):=by rw[q];exact cell_of CB.out 3
    have CT:Hid (Calls Tryz.prog 79 #[.pointer (some ⟨R,0,none⟩),.int .i64 (k:Int)] wr fun r w'=>RP (rl n k e nx t) N R ev wr r w'):=by
     show Calls _ _ _ _ _
     have g:=HG.out
     have ea:=EA.out
     have hu:=HU.out
     rw[q] at hu ⊢
     rw[←HEV.out] at g ⊢
     rw[←HNX.out] at hu ⊢
     exact c3_any g ea HI.out HW.out
    clear q
    go_wp2_with fail
    refine CT.out.mono ?_
    rintro r w1 ⟨⟨hq,rfl⟩|⟨t',hq,rfl,g'⟩,fb1⟩
    ·have HQ:=hide hq
     have FB1:=hide (FB.out.trans fb1)
     clear hq fb1
     go_wp2_with fail
     go_ret
     exact BrP.no hlt HU.out HQ.out rfl FB1.out
    ·have HQ:Hid (upto (n+1) k e nx s=some t'):=by show _=_;unfold upto;rw[HU.out];exact hq
     have FB1:=hide (FB.out.trans fb1)
     have G1:=hide g'
     clear hq fb1 g'
     go_wp2_with fail
     go_roundw
     case measure=>simp[intOf];omega
     case rel=>exact⟨n+1,t',by omega,by simp,HQ.out,G1.out,FB1.out⟩
   ·have cf:wr.cell? ⟨B,n,none⟩=some (.func (.func 80) #[.pointer (some ⟨R,0,none⟩)] #[]):=by rw[q];exact cell_of CB.out 4
    have CT:Hid (Calls Tryz.prog 80 #[.pointer (some ⟨R,0,none⟩),.int .i64 (k:Int)] wr fun r w'=>RP (rl n k e nx t) N R ev wr r w'):=by
     show Calls _ _ _ _ _
     have g:=HG.out
     have ea:=EA.out
     have hu:=HU.out
     rw[q] at hu ⊢
     rw[←HEV.out] at g ⊢
     rw[←HNX.out] at hu ⊢
     exact c4_any g ea HI.out HW.out B3.out HLL.out hu
    clear q
    go_wp2_with fail
    refine CT.out.mono ?_
    rintro r w1 ⟨⟨hq,rfl⟩|⟨t',hq,rfl,g'⟩,fb1⟩
    ·have HQ:=hide hq
     have FB1:=hide (FB.out.trans fb1)
     clear hq fb1
     go_wp2_with fail
     go_ret
     exact BrP.no hlt HU.out HQ.out rfl FB1.out
    ·have HQ:Hid (upto (n+1) k e nx s=some t'):=by show _=_;unfold upto;rw[HU.out];exact hq
     have FB1:=hide (FB.out.trans fb1)
     have G1:=hide g'
     clear hq fb1 g'
     go_wp2_with fail
     go_roundw
     case measure=>simp[intOf];omega
     case rel=>exact⟨n+1,t',by omega,by simp,HQ.out,G1.out,FB1.out⟩
   ·have cf:wr.cell? ⟨B,n,none⟩=some (.func (.func 81) #[.pointer (some ⟨R,0,none⟩)] #[]):=by rw[q];exact cell_of CB.out 5
    have CT:Hid (Calls Tryz.prog 81 #[.pointer (some ⟨R,0,none⟩),.int .i64 (k:Int)] wr fun r w'=>RP (rl n k e nx t) N R ev wr r w'):=by
     show Calls _ _ _ _ _
     have g:=HG.out
     have ea:=EA.out
     have hu:=HU.out
     rw[q] at hu ⊢
     rw[←HEV.out] at g ⊢
     rw[←HNX.out] at hu ⊢
     exact c5_any g ea HI.out HW.out B3.out hu
    clear q
    go_wp2_with fail
    refine CT.out.mono ?_
    rintro r w1 ⟨⟨hq,rfl⟩|⟨t',hq,rfl,g'⟩,fb1⟩
    ·have HQ:=hide hq
     have FB1:=hide (FB.out.trans fb1)
     clear hq fb1
     go_wp2_with fail
     go_ret
     exact BrP.no hlt HU.out HQ.out rfl FB1.out
    ·have HQ:Hid (upto (n+1) k e nx s=some t'):=by show _=_;unfold upto;rw[HU.out];exact hq
     have FB1:=hide (FB.out.trans fb1)
     have G1:=hide g'
     clear hq fb1 g'
     go_wp2_with fail
     go_roundw
     case measure=>simp[intOf];omega
     case rel=>exact⟨n+1,t',by omega,by simp,HQ.out,G1.out,FB1.out⟩
  ·have hge:n=6:=by omega
   have dl:decide ((n:Int)<6)=false:=by simp;omega
   have dl2:decide (n<6)=false:=by simp;omega
   rw[hge] at HU
   clear hge hlt
   go_wp2_with fail
   go_ret
   exact BrP.yes HU.out HG.out FB.out
end Gu
namespace Gu
open En Ba
theorem put_few(L:List Int)(e:Ev)(nx:Option Ev):(put L e nx).length≤L.length+1:=by
 unfold put
 split
 ·simp
 ·split
  ·cases nx<;>simp
  ·simp
theorem ins_few(s:In)(c:Int)(e:Ev)(nx:Option Ev):(ins s c e nx).L.length≤s.L.length+1:=by
 unfold ins
 split
 ·exact Nat.le_succ _
 ·split
  ·have:=put_few s.L e nx
   unfold mov
   split
   ·split
    ·rename_i v r hq
     rw[hq] at this
     simp at this ⊢
     omega
    ·simp
   ·exact this
  ·exact Nat.le_succ _
theorem inn_few(l:List Ev)(k:Nat)(c:Int):(inn l k c).L.length≤k:=by
 induction k with
 |zero=>simp[inn,in0]
 |succ k ih=>
  unfold inn
  split
  ·exact Nat.le_trans (ins_few _ _ _ _) (by omega)
  ·omega
theorem IG.bn{l:List Ev}{k:Nat}{s:Gs}(I:IG l k s)(hk:k≤2000):Bn s 2900:=by
 have h1:∀(p:Ev→Bool),(l.take k).countP p≤k:=fun p=>Nat.le_trans List.countP_le_length (by simp;omega)
 refine⟨?_,?_,fun j d hd=>?_⟩
 ·have:=I.c.len
  have:=h1 (fun x=>decide (x.k=1))
  unfold there at*
  omega
 ·have:=I.m.len
  have:=h1 (fun x=>decide (x.k=2))
  omega
 ·have hl:j<s.ch.length:=(List.getElem?_eq_some_iff.1 hd).1
  have h2:=(I.m.at_ j hl).1
  rw[List.getD_eq_getElem?_getD,hd] at h2
  have h3:d.vs=(inn l k (j:Int)).L:=congrArg Chn.vs h2
  have:=inn_few l k (j:Int)
  rw[h3]
  omega
theorem gw0(w:World)(oa:Option Addr)(n c:Nat):GW (((w.alloc (.cells #[.int .i64 0] 3)).alloc (.map #[] 0)).alloc (.cells #[.slice oa n c,.slice (some ⟨w.heap.size,0,none⟩) 1 1,.map (some (w.heap.size+1)),.bool false,.int .i64 0,.int .i64 0,.int .i64 0,.int .i64 0,.int .i64 0,.int .i64 0,.bool false,.bool false] 138)) w.heap.size (w.heap.size+1+1) (.slice oa n c) gs0:=by
 have hR:=heap_new ((w.alloc (.cells #[.int .i64 0] 3)).alloc (.map #[] 0)) (.cells #[.slice oa n c,.slice (some ⟨w.heap.size,0,none⟩) 1 1,.map (some (w.heap.size+1)),.bool false,.int .i64 0,.int .i64 0,.int .i64 0,.int .i64 0,.int .i64 0,.int .i64 0,.bool false,.bool false] 138)
 rw[World.size_alloc,World.size_alloc] at hR
 have hS:=heap_below (heap_below (heap_new w (.cells #[.int .i64 0] 3)) (below_alloc _ (.map #[] 0))) (below_alloc _ (.cells #[.slice oa n c,.slice (some ⟨w.heap.size,0,none⟩) 1 1,.map (some (w.heap.size+1)),.bool false,.int .i64 0,.int .i64 0,.int .i64 0,.int .i64 0,.int .i64 0,.int .i64 0,.bool false,.bool false] 138))
 have hM:=((World.ownsMap_made (w.alloc (.cells #[.int .i64 0] 3)) Tryz.prog 3 mE).alloc (.cells #[.slice oa n c,.slice (some ⟨w.heap.size,0,none⟩) 1 1,.map (some (w.heap.size+1)),.bool false,.int .i64 0,.int .i64 0,.int .i64 0,.int .i64 0,.int .i64 0,.int .i64 0,.bool false,.bool false] 138)).mono (Nat.zero_le 100000)
 rw[World.size_alloc] at hM
 exact⟨w.heap.size+1,.slice (some ⟨w.heap.size,0,none⟩) 1 1,.map [],[],⟨by omega,by omega⟩,hR,⟨rfl,.inr ⟨w.heap.size,1,#[.int .i64 0],rfl,Nat.le_refl _,hS,Nat.le_refl _,by unfold maxLen;omega,by simp,by simp[ic,gs0]⟩⟩,hM,MI.nil,rfl,(fun i x c hx=>by simp at hx),(fun i j x y hx=>by simp at hx),(fun i x hx=>by simp at hx)⟩
theorem hmf:∀(fn:Fn) (first cap:Array Value) (w:World),(Instr.makeFunc fn first cap).run Tryz.prog w=.ok (.func fn first cap) w:=fun _ _ _ _=>rfl
set_option maxRecDepth 100000 in
theorem gcheck_any(oa:Option Addr)(l:List Ev)(c:Nat)(w:World)(hA:EsAt w oa l)(hl:l.length≤2000):
 Calls Tryz.prog 40 #[.slice oa l.length c] w fun r w'=>(∃n a,r=.returned (.tuple #[.int .i64 n,.int .i64 a])∧Chk l n a)∧Below w.heap.size w w':=by
 have HA:=hide hA
 have HL:=hide hl
 have hmm:=@run_makeMap Tryz.prog
 obtain⟨M,hM⟩:∃M,l.length=M:=⟨_,rfl⟩
 have HM:=hide hM
 obtain⟨ev,hev⟩:∃ev,Value.slice oa l.length c=ev:=⟨_,rfl⟩
 have HEV:=hide hev
 have G0:=hide (gw0 w oa l.length c)
 have B0:=hide (btr (btr (below_alloc w (.cells #[.int .i64 0] 3)) (below_alloc _ (.map #[] 0))) (below_alloc _ (.cells #[.slice oa l.length c,.slice (some ⟨w.heap.size,0,none⟩) 1 1,.map (some (w.heap.size+1)),.bool false,.int .i64 0,.int .i64 0,.int .i64 0,.int .i64 0,.int .i64 0,.int .i64 0,.bool false,.bool false] 138)))
 rw[hM] at hl G0 B0 ⊢
 clear hA hM hev
 go_enter Tryz.func40,Tryz.ntmps40
 go_upto_region 3 with fail
 clear hmm
 generalize ((w.alloc (.cells #[.int .i64 0] 3)).alloc (.map #[] 0)).alloc (.cells #[.slice oa M c,.slice (some ⟨w.heap.size,0,none⟩) 1 1,.map (some (w.heap.size+1)),.bool false,.int .i64 0,.int .i64 0,.int .i64 0,.int .i64 0,.int .i64 0,.int .i64 0,.bool false,.bool false] 138)=W0 at*
 obtain⟨R,hR⟩:∃R,w.heap.size+1+1=R:=⟨_,rfl⟩
 rw[hR] at G0 ⊢
 clear hR
 go_loopw [13] (fun i wr=>∃(k:Nat) (s:Gs),k≤M∧i=.int .i64 (k:Int)∧IG l k s∧(∀j,j<k→∀x,l[j]? =some x→ruleD l j x=0)∧GW wr w.heap.size R (.slice oa M c) s∧Fb w.heap.size w wr) (fun i _=>M - (intOf i).toNat)
 case atStart=>exact⟨0,gs0,Nat.zero_le _,rfl,IG.nil l,fun j hj=>absurd hj (Nat.not_lt_zero _),G0.out,Fb.of B0.out (Nat.le_refl _)⟩
 case round=>
  obtain⟨k,s,hk,rfl,ig,hall,g,fb⟩:=hrel
  have IG0:=hide ig
  have ALL:=hide hall
  have HG:=hide g
  have FB:=hide fb
  clear ig hall g fb G0 B0
  by_cases hlt:k<M
  ·have hlt':(k:Int)<(M:Int):=by omega
   obtain⟨e,he⟩:∃e,l[k]? =some e:=⟨_,List.getElem?_eq_getElem (by rw[HM.out];omega)⟩
   have HE:=hide he
   have BN:=hide (IG0.out.bn (by omega))
   have AL:=below_alloc wr (.cells #[.func (.func 76) #[.pointer (some ⟨R,0,none⟩)] #[],.func (.func 77) #[.pointer (some ⟨R,0,none⟩)] #[],.func (.func 78) #[.pointer (some ⟨R,0,none⟩)] #[],.func (.func 79) #[.pointer (some ⟨R,0,none⟩)] #[],.func (.func 80) #[.pointer (some ⟨R,0,none⟩)] #[],.func (.func 81) #[.pointer (some ⟨R,0,none⟩)] #[]] 67)
   have FB1:=hide (FB.out.trans (Fb.of AL (by have:=FB.out.size;omega)))
   have CT:Hid (Calls Tryz.prog 75 #[.int .i64 (k:Int),.slice (some ⟨wr.heap.size,0,none⟩) 6 6] (wr.alloc (.cells #[.func (.func 76) #[.pointer (some ⟨R,0,none⟩)] #[],.func (.func 77) #[.pointer (some ⟨R,0,none⟩)] #[],.func (.func 78) #[.pointer (some ⟨R,0,none⟩)] #[],.func (.func 79) #[.pointer (some ⟨R,0,none⟩)] #[],.func (.func 80) #[.pointer (some ⟨R,0,none⟩)] #[],.func (.func 81) #[.pointer (some ⟨R,0,none⟩)] #[]] 67)) fun r w'=>BrP k e l[k+1]? s w.heap.size R (.slice oa M c) (wr.alloc (.cells #[.func (.func 76) #[.pointer (some ⟨R,0,none⟩)] #[],.func (.func 77) #[.pointer (some ⟨R,0,none⟩)] #[],.func (.func 78) #[.pointer (some ⟨R,0,none⟩)] #[],.func (.func 79) #[.pointer (some ⟨R,0,none⟩)] #[],.func (.func 80) #[.pointer (some ⟨R,0,none⟩)] #[],.func (.func 81) #[.pointer (some ⟨R,0,none⟩)] #[]] 67)) r w'):=by
    show Calls _ _ _ _ _
    have g:=HG.out
    rw[←HM.out] at g ⊢
    have hg:GW (wr.alloc (.cells #[.func (.func 76) #[.pointer (some ⟨R,0,none⟩)] #[],.func (.func 77) #[.pointer (some ⟨R,0,none⟩)] #[],.func (.func 78) #[.pointer (some ⟨R,0,none⟩)] #[],.func (.func 79) #[.pointer (some ⟨R,0,none⟩)] #[],.func (.func 80) #[.pointer (some ⟨R,0,none⟩)] #[],.func (.func 81) #[.pointer (some ⟨R,0,none⟩)] #[]] 67)) w.heap.size R (.slice oa l.length c) s:=by obtain⟨mb,vs,D,cs,g⟩:=g;exact⟨mb,vs,D,cs,g.below AL⟩
    exact bro_any hg HA.out rfl FB1.out.b HE.out BN.out (by have:=HL.out;omega) (heap_new wr (.cells #[.func (.func 76) #[.pointer (some ⟨R,0,none⟩)] #[],.func (.func 77) #[.pointer (some ⟨R,0,none⟩)] #[],.func (.func 78) #[.pointer (some ⟨R,0,none⟩)] #[],.func (.func 79) #[.pointer (some ⟨R,0,none⟩)] #[],.func (.func 80) #[.pointer (some ⟨R,0,none⟩)] #[],.func (.func 81) #[.pointer (some ⟨R,0,none⟩)] #[]] 67))
   clear AL he
   have mf:=hmf
   go_wp2_with fail
   refine CT.out.mono ?_
   rintro r w1 ⟨⟨n,hst,rfl⟩|⟨s',hst,rfl,g1⟩,fb1⟩
   ·rcases stepG_is IG0.out HE.out with⟨n',hn0,hrd,hq⟩|⟨-,t,hq,-⟩
    ·rw[hst] at hq
     injection hq with hq
     subst hq
     have dn:(n !=0)=true:=by simp[hn0]
     have FIN:Hid (Chk l n (k:Int)):=.inl ⟨k,e,HE.out,by rw[hrd];exact hn0,hrd.symm,rfl,ALL.out⟩
     have FB2:=hide (FB1.out.trans fb1)
     clear hst hn0 hrd fb1 mf
     go_wp2_with fail
     go_ret2
     exact⟨⟨_,_,rfl,FIN.out⟩,FB2.out.b⟩
    ·rw[hst] at hq;cases hq
   ·rcases stepG_is IG0.out HE.out with⟨n',hn0,hrd,hq⟩|⟨hrd,t,hq,ig'⟩
    ·rw[hst] at hq;cases hq
    ·rw[hst] at hq
     injection hq with hq
     subst hq
     have IG1:=hide ig'
     have G1:=hide g1
     have FB2:=hide (FB1.out.trans fb1)
     have AL1:Hid (∀j,j<k+1→∀x,l[j]? =some x→ruleD l j x=0):=fun j hj x hx=>by
      by_cases hjk:j=k
      ·subst hjk;rw[HE.out] at hx;cases hx;exact hrd
      ·exact ALL.out j (by omega) x hx
     clear hst hrd fb1 ig' g1 mf
     go_wp2_with fail
     go_roundw
     case measure=>simp[intOf];omega
     case rel=>exact⟨k+1,s',by omega,by simp,IG1.out,AL1.out,G1.out,FB2.out⟩
  ·have hge:k=M:=by omega
   have dl:decide ((k:Int)<(M:Int))=false:=by simp;omega
   have dl2:decide (k<M)=false:=by simp;omega
   have IG1:Hid (IG l l.length s):=by show IG _ _ _;rw[HM.out,←hge];exact IG0.out
   have AL1:Hid (∀j x,l[j]? =some x→ruleD l j x=0):=fun j x hx=>ALL.out j (by have:=(List.getElem?_eq_some_iff.1 hx).1;have:=HM.out;omega) x hx
   have OW:=hide (owed_any HG.out)
   have OI:=hide IG1.out.owed
   obtain⟨ow,how⟩:∃ow,owed s.la=ow:=⟨_,rfl⟩
   rw[how] at OW OI
   clear hge how hlt
   go_wp2_with fail
   refine OW.out.mono ?_
   rintro r w1 ⟨rfl,rfl⟩
   cases ow
   ·have FIN:Hid (Chk l 0 0):=.inr ⟨AL1.out,by rw[←OI.out];rfl⟩
    go_wp2_with fail
    go_ret2
    exact⟨⟨_,_,rfl,FIN.out⟩,FB.out.b⟩
   ·have FIN:Hid (Chk l 4 (M:Int)):=.inr ⟨AL1.out,by rw[←OI.out,HM.out];rfl⟩
    go_wp2_with fail
    go_ret2
    exact⟨⟨_,_,rfl,FIN.out⟩,FB.out.b⟩
end Gu
namespace Sp
open Ck Wa
open En (Ev)
def ec(l:List Ev):List Value:=l.flatMap fun e=>(En.evc e).toList
theorem ec_app(l m:List Ev):ec (l++m)=ec l++ec m:=by simp[ec]
theorem ec_one(l:List Ev):∀u∈ec l,u.oneCell'=true:=by
 intro u hu
 simp only[ec,List.mem_flatMap] at hu
 obtain⟨e,_,hu⟩:=hu
 simp[En.evc] at hu
 rcases hu with rfl|rfl|rfl|rfl|rfl|rfl|rfl|rfl<;>rfl
theorem ec_len(l:List Ev):(ec l).length=l.length*8:=by
 induction l with
 |nil=>rfl
 |cons e l ih=>simp[ec,En.evc] at ih ⊢;omega
theorem ec_at:∀(l:List Ev) (k:Nat) (e:Ev) (j:Nat),l[k]? =some e→j<8→(ec l)[k*8+j]? =(En.evc e)[j]?
 |[],_,_,_,hk,_=>by simp at hk
 |x::l,0,e,j,hk,hj=>by
  simp at hk
  subst hk
  have h8:(En.evc x).toList.length=8:=rfl
  show ((En.evc x).toList++ec l)[0*8+j]? =_
  rw[List.getElem?_append_left (by rw[h8];omega)]
  simp
 |x::l,k+1,e,j,hk,hj=>by
  have h8:(En.evc x).toList.length=8:=rfl
  show ((En.evc x).toList++ec l)[(k+1)*8+j]? =_
  rw[List.getElem?_append_right (by rw[h8];omega),h8,show (k+1)*8+j - 8=k*8+j by omega]
  exact ec_at l k e j (by simpa using hk) hj
theorem own_gu{w:World}{base:Nat}{v:Value}{l:List Ev}{n:Nat}(hn:n=l.length)(h:w.ownsRow base 40 8 v n (ec l)):∃ob d,v=.slice ob n d∧Gu.EsAt w ob l:=by
 subst hn
 rcases h.2 with⟨rfl,h0⟩|⟨g,cap,cur,rfl,_,hg,hc1,hc2,hcs,htk⟩
 ·exact⟨none,0,by rw[h0],fun k e hk=>by rw[List.eq_nil_of_length_eq_zero h0] at hk;simp at hk⟩
 ·refine⟨_,cap,rfl,fun k e hk=>⟨g,0,rfl,fun j hj=>?_⟩⟩
  have hk':=(List.getElem?_eq_some_iff.1 hk).1
  rw[←ec_at l k e j hk hj,←htk,cell_of hg,List.getElem?_take,if_pos (by omega),Nat.zero_add]
  simp
theorem own_keep{w w':World}{base:Nat}{e:TypeId}{size:Nat}{v:Value}{n:Nat}{xs:List Value}(h:w.ownsRow base e size v n xs)(hk:∀g,v.ownBlock=some g→w'.heap[g]? =w.heap[g]?):w'.ownsRow base e size v n xs:=by
 refine⟨h.1,?_⟩
 rcases h.2 with q|⟨g,cap,cur,q1,q2,q3,q4⟩
 ·exact .inl q
 ·exact .inr ⟨g,cap,cur,q1,q2,(hk g (by rw[q1];rfl)).trans q3,q4⟩
theorem own_lt{w:World}{base:Nat}{e:TypeId}{size:Nat}{v:Value}{n:Nat}{xs:List Value}(h:w.ownsRow base e size v n xs){g:Nat}(hg:v.ownBlock=some g):g<w.heap.size:=by
 rcases h.2 with⟨rfl,_⟩|⟨g',cap,cur,rfl,q2,q3,q4⟩
 ·simp[Value.ownBlock] at hg
 ·simp[Value.ownBlock] at hg
  subst hg
  exact (Array.getElem?_eq_some_iff.1 q3).1
theorem info_ev:(Tryz.prog.info? 40).map (fun i=>(i.zero,i.size,i.bytes))=some (some (.agg #[.int .i64 0,.int .i64 0,.int .i64 0,.int .i64 0,.int .i64 0,.int .i64 0,.bool false,.bool false]),8,56):=by kernel_rfl
theorem info_ex:∃i0,Tryz.prog.info? 40=some i0∧i0.zero=some (.agg #[.int .i64 0,.int .i64 0,.int .i64 0,.int .i64 0,.int .i64 0,.int .i64 0,.bool false,.bool false])∧i0.size=8∧i0.bytes=56:=by
 cases hi:Tryz.prog.info? 40 with
 |none=>have:=info_ev;rw[hi] at this;cases this
 |some i0=>
  have hx:=info_ev
  rw[hi] at hx
  simp at hx
  exact⟨i0,rfl,hx⟩
theorem app_keep(w:World)(ea:Option Addr)(n c:Nat)(l:List Ev)(e:Ev)(hn:n=l.length)(hown:w.ownsRow 0 40 8 (.slice ea n c) n (ec l))(a:Addr)(hnews:∀j u,(ec [e])[j]? =some u→w.cell? (a.add j)=some u)(hl:n≤100000):
 ∃ea' c' w',(Builtin.append_ #[28,28] 28 #[.slice ea n c,.slice (some a) 1 1]).run Tryz.prog w=.ok (.slice ea' (n+1) c') w'∧w'.ownsRow 0 40 8 (.slice ea' (n+1) c') (n+1) (ec (l++[e]))∧w'.ownsRow 0 40 8 (.slice ea n c) n (ec l)∧w.grownBy w' (Value.slice ea n c).ownBlock∧
  ((Value.slice ea' (n+1) c').ownBlock=(Value.slice ea n c).ownBlock∨(Value.slice ea' (n+1) c').ownBlock=some w.heap.size):=by
 obtain⟨i0,hi,hz,hs,hb⟩:=info_ex
 have h63:n+1≤maxLen:=by unfold maxLen;omega
 have hbytes:(n+1)*56≤140737488355328:=by omega
 obtain⟨v',w',hr,ho,hg,_,hat⟩:=run_append_own_at (P:=Tryz.prog) w 0 28 28 40 i0 _ 8 56 Tryz.underlying28 hi hz hs hb rfl (by decide) _ _ _ hown a 1 1 (ec [e]) rfl hnews (ec_one _) h63 hbytes (Nat.zero_le _)
 rw[←ec_app] at ho
 obtain⟨ea',c',rfl,-⟩:=own_gu (by rw[hn];simp) ho
 refine⟨ea',c',w',hr,ho,?_,hg,hat⟩
 rcases hown.2 with⟨q,h0⟩|⟨g,cap,cur,q,hbg,hgc,hnc,hcm,hcs,htk⟩
 ·exact⟨hown.1,.inl ⟨q,h0⟩⟩
 ·cases q
  by_cases hroom:n+1≤c
  ·have hfit:n*i0.size+(ec [e]).length≤cur.size:=by rw[hcs,hs,ec_len];simp;omega
   have hr2:=run_append_room (P:=Tryz.prog) w 28 28 40 i0 Tryz.underlying28 hi g n c cur hgc a 1 1 (ec [e]) (by rw[hs];rfl) hnews (ec_one _) hroom hfit
   rw[hr] at hr2
   cases hr2
   refine⟨hown.1,.inr ⟨g,c,_,rfl,hbg,setRow_heap w g cur _ _ _ hgc,hnc,hcm,?_,?_⟩⟩
   ·rw[hs] at hfit ⊢
    simp only[List.size_toArray,List.length_append,List.length_take,List.length_drop,Array.length_toList]
    omega
   ·rw[hs]
    show ((cur.toList.take (n*8)++ec [e])++_).take (n*8)=_
    rw[List.append_assoc,List.take_append_of_le_length (by rw[List.length_take,Array.length_toList,hcs];omega),List.take_take,Nat.min_self]
    exact htk
  ·have hr2:=run_append_grow (P:=Tryz.prog) w 28 28 40 i0 _ Tryz.underlying28 hi hz ⟨g,0,none⟩ n c (ec l) (by rw[hs];exact hown.1) (hown.cells (g:=g) rfl) a 1 1 (ec [e]) (by rw[hs];rfl) hnews (by omega) (by unfold maxLen at h63;omega) (growslice_fits (by omega) (by rw[hb];exact hbytes))
   rw[hr] at hr2
   cases hr2
   exact own_keep hown fun g' e'=>(below_alloc w.drew _).block g' (own_lt hown e')
theorem src8(w:World)(e:Ev)(t:TypeId):∀j u,(ec [e])[j]? =some u→((w.alloc (.cells #[.int .i64 e.k,.int .i64 e.g,.int .i64 e.c,.int .i64 e.a,.int .i64 e.v,.int .i64 e.m,.bool e.s,.bool e.o] t)).drew).cell? ((⟨w.heap.size,0,none⟩:Addr).add j)=some u:=by
 intro j u hj
 have hn:=heap_new w (.cells #[.int .i64 e.k,.int .i64 e.g,.int .i64 e.c,.int .i64 e.a,.int .i64 e.v,.int .i64 e.m,.bool e.s,.bool e.o] t)
 rw[Addr.add_lit,Nat.zero_add,cell_of (Ba.heap_below hn (Ba.bdrew1 _)),←hj]
 simp[ec,En.evc]
structure NX(Y:Nat→Prop)(S B:Nat)(w:World)(st:Wst)(h:Nat→Option (List Int))(ea:Option Addr)(c:Nat)(es:List Ev)(cv mv dv:Value):Prop where
 hp:w.heap[S]? =some (.cells #[.pointer (some ⟨B,0,none⟩),.slice ea es.length c,cv,mv,dv] 65 (0,0))
 ww:WW Y B w st h
 ys:Y S
 ev:w.ownsRow 0 40 8 (.slice ea es.length c) es.length (ec es)
 ye:∀g,(Value.slice ea es.length c).ownBlock=some g→Y g∧g≠S
theorem NX.lt{Y:Nat→Prop}{S B:Nat}{w:World}{st:Wst}{h:Nat→Option (List Int)}{ea:Option Addr}{c:Nat}{es:List Ev}{cv mv dv:Value}(x:NX Y S B w st h ea c es cv mv dv):S<w.heap.size:=x.ww.ylt S x.ys
def FlP(es:List Ev)(e:Ev)(x:Bool):Prop:=∃n a,Gu.Chk (es++[e]) n a∧x=(n==0||a==((es.length+1:Nat):Int))
set_option maxRecDepth 100000 in
theorem follows_any{Y:Nat→Prop}{S B:Nat}{w:World}{st:Wst}{h:Nat→Option (List Int)}{ea:Option Addr}{c:Nat}{es:List Ev}{cv mv dv:Value}(x:NX Y S B w st h ea c es cv mv dv)(e:Ev)(hl:es.length<2000):
 Calls Tryz.prog 21 #[.pointer (some ⟨S,0,none⟩),En.evv e] w fun r w'=>∃b,r=.returned (.bool b)∧FlP es e b∧w'.ownsRow 0 40 8 (.slice ea es.length c) es.length (ec es)∧w.grownBy w' (Value.slice ea es.length c).ownBlock:=by
 have b1:=btr (below_alloc w (.cells #[.int .i64 e.k,.int .i64 e.g,.int .i64 e.c,.int .i64 e.a,.int .i64 e.v,.int .i64 e.m,.bool e.s,.bool e.o] 40)) (Ba.bdrew1 _)
 have b2:=btr (btr (below_alloc w (.cells #[.int .i64 e.k,.int .i64 e.g,.int .i64 e.c,.int .i64 e.a,.int .i64 e.v,.int .i64 e.m,.bool e.s,.bool e.o] 40)) (below_alloc _ (.cells #[.int .i64 e.k,.int .i64 e.g,.int .i64 e.c,.int .i64 e.a,.int .i64 e.v,.int .i64 e.m,.bool e.s,.bool e.o] 40))) (Ba.bdrew1 _)
 have o2:((w.alloc (.cells #[.int .i64 e.k,.int .i64 e.g,.int .i64 e.c,.int .i64 e.a,.int .i64 e.v,.int .i64 e.m,.bool e.s,.bool e.o] 40)).alloc (.cells #[.int .i64 e.k,.int .i64 e.g,.int .i64 e.c,.int .i64 e.a,.int .i64 e.v,.int .i64 e.m,.bool e.s,.bool e.o] 40)).drew.ownsRow 0 40 8 (.slice ea es.length c) es.length (ec es):=own_keep x.ev fun g q=>b2.block g (own_lt x.ev q)
 obtain⟨n,hn⟩:∃n,n=es.length:=⟨_,rfl⟩
 have sr:=src8 (w.alloc (.cells #[.int .i64 e.k,.int .i64 e.g,.int .i64 e.c,.int .i64 e.a,.int .i64 e.v,.int .i64 e.m,.bool e.s,.bool e.o] 40)) e 40
 rw[World.size_alloc] at sr
 obtain⟨ea',c',w6,hr,ho,hk,hg,-⟩:=app_keep _ ea es.length c es e rfl o2 ⟨w.heap.size+1,0,none⟩ sr (by omega)
 obtain⟨_,_,q,es6⟩:=own_gu (by simp) ho
 cases q
 have GC:=hide (Gu.gcheck_any ea' (es++[e]) c' w6 es6 (by simp;omega))
 rw[show (es++[e]).length=es.length+1 by simp] at GC
 have HR:=hide hr
 have G6:=hide (show w.grownBy w6 (Value.slice ea es.length c).ownBlock from⟨hg.os.trans b2.os,hg.tape.trans b2.tape,hg.output.trans b2.output,Nat.le_trans b2.size hg.size,fun k hk hne=>(hg.block k (Nat.lt_of_lt_of_le hk b2.size) hne).trans (b2.block k hk)⟩)
 have HK:=hide hk
 have y1:w.cell? ⟨S,1,none⟩=some (.slice ea es.length c):=cell_of x.hp 1
 have hlt:=x.lt
 have hl2:(es.length:Int)+1<2001:=by omega
 have FL:=hide (fun n a (q:Gu.Chk (es++[e]) n a)=>(show FlP es e _ from⟨n,a,q,rfl⟩))
 rw[←hn] at*
 clear x o2 hr ho hk hg es6 sr b1 b2
 unfold En.evv En.evc
 go_enter Tryz.func21,Tryz.ntmps21
 go_wp2_with fail
 go_region_law (refine Gu.step_append_run _ (by rfl) _ _ _ _ (by rfl) _ _ (by rfl) (by rfl) _ _ HR.out ?_)
 all_goals
  go_wp2_with fail
  refine GC.out.mono ?_
  rintro r w7 ⟨⟨n7,a7,rfl,hc7⟩,b7⟩
  have F7:=hide (FL.out n7 a7 hc7)
  have O7:=hide (own_keep HK.out fun g q=>b7.block g (own_lt HK.out q))
  have G7:=hide (show w.grownBy w7 (Value.slice ea n c).ownBlock from⟨b7.os.trans G6.out.os,b7.tape.trans G6.out.tape,b7.output.trans G6.out.output,Nat.le_trans G6.out.size b7.size,fun k hk hne=>(b7.block k (Nat.lt_of_lt_of_le hk G6.out.size)).trans (G6.out.block k hk hne)⟩)
  clear hc7 b7
  cases hq:n7==0
  ·rw[hq] at F7
   go_wp2_with fail
   go_ret
   exact⟨_,rfl,F7.out,O7.out,G7.out⟩
  ·rw[hq] at F7
   go_wp2_with fail
   go_ret
   exact⟨_,rfl,F7.out,O7.out,G7.out⟩
end Sp
namespace Sl
open Ck
open Ba (KF Bd Nw)
def ptr(b:Nat):Value:=.pointer (some ⟨b,0,none⟩)
def pcs(l:List Nat):List Value:=l.map ptr
theorem pcs_len(l:List Nat):(pcs l).length=l.length*1:=by simp[pcs]
theorem pcs_one(l:List Nat):∀u∈pcs l,u.oneCell'=true:=by
 intro u hu
 obtain⟨b,-,rfl⟩:=List.mem_map.1 hu
 rfl
theorem info_pc:(Tryz.prog.info? 63).map (fun i=>(i.zero,i.size,i.bytes))=some (some (.pointer none),1,8):=by kernel_rfl
theorem zero_pc(w:World):(zeroValue 63).run Tryz.prog w=.ok (.pointer none) w:=by
 cases hi:Tryz.prog.info? 63 with
 |none=>have:=info_pc;rw[hi] at this;cases this
 |some i0=>
  have hx:=info_pc
  rw[hi] at hx
  simp at hx
  simp[zeroValue,typeInfo,hi,hx.1]
theorem step_append_run{ops:Array Oper}(w:World){o:Oper}{a:Act}{K:Act→World→Prop}{Q:Exit→Act→World→Prop}{E:Prop}(hgd:o.guard=none)(s x:Operand)(t tn:TypeId)
 (ho:o.op=.call {callee:=.builtin .append,args:=#[s,x],argTypes:=#[t,tn]}) (vs vx:Value) (hs:a.eval s=vs) (hx:a.eval x=vx)
 (v':Value) (w':World) (hr:(Builtin.append_ #[t,tn] o.type #[vs,vx]).run Tryz.prog w=.ok v' w') (h:K (a.put o.dst v') w'):
 if Region.wanted o (yielded ops a.tmps)=true then Oper.wp Tryz.prog o a w K Q else E:=by
 have hw:Region.wanted o (yielded ops a.tmps)=true:=by simp[Region.wanted,hgd]
 rw[if_pos hw]
 exact Lib.wp_append_run w s x t tn ho vs vx hs hx v' w' hr h
theorem heap_set_other(w:World)(S i k:Nat)(v:Value)(h:k≠S):(w.setCell ⟨S,i,none⟩ v).heap[k]? =w.heap[k]?:=by
 simp[World.setCell,Array.getElem?_modify,Ne.symm h]
theorem size_set(w:World)(S i:Nat)(v:Value):(w.setCell ⟨S,i,none⟩ v).heap.size=w.heap.size:=by simp[World.setCell]
theorem heap_row_other(w:World)(g k:Nat)(cs:Array Value)(h:k≠g):(w.setRow g cs).heap[k]? =w.heap[k]?:=by
 simp[World.setRow,Array.getElem?_modify,Ne.symm h]
theorem own_sl{w:World}{e:TypeId}{v:Value}{n:Nat}{xs:List Value}(h:w.ownsRow 0 e 1 v n xs):∃oa c,v=.slice oa n c:=by
 rcases h.2 with⟨rfl,rfl⟩|⟨g,cap,cr,rfl,-⟩
 ·exact⟨none,0,rfl⟩
 ·exact⟨_,_,rfl⟩
theorem own_set{w:World}{e:TypeId}{v:Value}{n S i:Nat}{xs:List Value}{u:Value}(h:w.ownsRow 0 e 1 v n xs)(hne:v.ownBlock≠some S):(w.setCell ⟨S,i,none⟩ u).ownsRow 0 e 1 v n xs:=by
 refine⟨h.1,?_⟩
 rcases h.2 with q|⟨g,cap,cr,rfl,h0,hg,q⟩
 ·exact .inl q
 ·refine .inr ⟨g,cap,cr,rfl,h0,?_,q⟩
  rw[heap_set_other _ _ _ _ _ (fun e=>hne (by rw[←e];rfl))]
  exact hg
theorem first_nil(w:World):Calls Tryz.prog 125 #[.pointer none] w fun r w'=>r=.returned (.tuple #[.pointer none,.bool false])∧w'=w:=by
 go_enter Tryz.func125,Tryz.ntmps125
 go_wp2_with fail
 go_ret2
 exact⟨rfl,rfl⟩
def fstV:List Nat→Value
 |[]=>.pointer none
 |x::_=>ptr x
theorem first_any(S i:Nat)(v:Value)(l:List Nat)(w:World)(hc:w.cell? ⟨S,i,none⟩=some v)(ho:w.ownsRow 0 63 1 v l.length (pcs l)):
 Calls Tryz.prog 125 #[.pointer (some ⟨S,i,none⟩)] w fun r w'=>r=.returned (.tuple #[fstV l,.bool (!l.isEmpty)])∧w'=w:=by
 cases l with
 |nil=>
  obtain⟨-,⟨rfl,-⟩|⟨g,cap,cur,rfl,-⟩⟩:=ho
  ·go_enter Tryz.func125,Tryz.ntmps125
   go_wp2_with fail
   go_ret2
   exact⟨rfl,rfl⟩
  ·go_enter Tryz.func125,Tryz.ntmps125
   go_wp2_with fail
   go_ret2
   exact⟨rfl,rfl⟩
 |cons x l=>
  rcases ho with⟨-,⟨-,hn⟩|⟨g,cap,cur,rfl,-,hg,hle,hmx,hsz,htk⟩⟩
  ·simp at hn
  ·have h0:cur[0]? =some (ptr x):=by
    have:(cur.toList.take ((x::l).length*1))[0]? =some (ptr x):=by rw[htk];rfl
    rw[List.getElem?_take] at this
    split at this
    ·simpa using this
    ·cases this
   have c0:w.cell? ⟨g,0,none⟩=some (ptr x):=by rw[cell_of hg];exact h0
   unfold ptr at c0
   have e0:(((x::l).length:Int)==0)=false:=by rw[beq_eq_false_iff_ne];simp only[List.length_cons];omega
   have e1:(0:Int)<((x::l).length:Int):=by simp only[List.length_cons];omega
   clear hg hsz htk hle h0
   generalize hN:(x::l).length=N at*
   go_enter Tryz.func125,Tryz.ntmps125
   go_wp2_with fail
   go_ret2
   exact⟨rfl,rfl⟩
set_option maxRecDepth 100000 in
theorem delete_any(v:Value)(x:Nat)(l:List Nat)(w:World)(ho:w.ownsRow 0 63 1 v (x::l).length (pcs (x::l))):
 Calls Tryz.prog 165 #[v,.int .i64 0,.int .i64 1] w fun r w'=>∃v',r=.returned v'∧w'.ownsRow 0 63 1 v' l.length (pcs l)∧v'.ownBlock=v.ownBlock∧w.grownBy w' v.ownBlock:=by
 rcases ho with⟨-,⟨-,hn⟩|⟨g,cap,cur,rfl,-,hg,hle,hmx,hsz,htk⟩⟩
 ·simp at hn
 have hL:(x::l).length=l.length+1:=rfl
 rw[hL] at hle htk ⊢
 have hm2:cap≤9223372036854775807:=by simp only[maxLen] at hmx;omega
 cases hi:Tryz.prog.info? 63 with
 |none=>have:=info_pc;rw[hi] at this;cases this
 |some i0=>
 have hx:=info_pc
 rw[hi] at hx
 simp at hx
 have hcell:∀j u,(pcs l)[j]? =some u→w.drew.cell? ((⟨g,1,none⟩:Addr).add j)=some u:=by
  intro j u hj
  have e:(⟨g,1,none⟩:Addr).add j=⟨g,1+j,none⟩:=by unfold Addr.add;split<;>simp_all
  rw[e]
  show w.cell? ⟨g,1+j,none⟩=some u
  rw[cell_of hg]
  have:(cur.toList.take ((l.length+1)*1))[1+j]? =some u:=by
   rw[htk]
   show (ptr x::pcs l)[1+j]? =some u
   rw[Nat.add_comm,List.getElem?_cons_succ]
   exact hj
  rw[List.getElem?_take] at this
  split at this
  ·simpa using this
  ·cases this
 have hr:(Builtin.append_ #[190,190] 190 #[.slice (some ⟨g,0,none⟩) 0 cap,.slice (if cap=1 then some ⟨g,0,none⟩ else some ⟨g,1,none⟩) l.length (cap - 1)]).run Tryz.prog w.drew=.ok (.slice (some ⟨g,0,none⟩) l.length cap) (w.drew.setRow g (pcs l++cur.toList.drop l.length).toArray):=by
  by_cases hc1:cap=1
  ·have hl0:l.length=0:=by omega
   have hnil:l=[]:=List.eq_nil_of_length_eq_zero hl0
   subst hnil
   have hr:=run_append_room (P:=Tryz.prog) w.drew 190 190 63 i0 Tryz.underlying190 hi g 0 cap cur hg ⟨g,0,none⟩ 0 (cap - 1) [] (by simp) (by simp) (by simp) (by omega) (by simp)
   rw[if_pos hc1]
   simpa [pcs] using hr
  ·have hr:=run_append_room (P:=Tryz.prog) w.drew 190 190 63 i0 Tryz.underlying190 hi g 0 cap cur hg ⟨g,1,none⟩ l.length (cap - 1) (pcs l) (by rw[hx.2.1];exact pcs_len l) hcell (pcs_one l) (by omega) (by rw[pcs_len];omega)
   rw[if_neg hc1]
   simp only[Nat.zero_mul,Nat.zero_add,List.take_zero,List.nil_append,pcs_len,Nat.mul_one] at hr
   exact hr
 have hg1:(w.drew.setRow g (pcs l++cur.toList.drop l.length).toArray).heap[g]? =some (.cells (pcs l++cur.toList.drop l.length).toArray 63 (0,0)):=by
  have hg':w.drew.heap[g]? =some (.cells cur 63 (0,0)):=hg
  simp only[World.setRow,Array.getElem?_modify,if_true,hg',Option.map_some]
 have hsz1:(pcs l++cur.toList.drop l.length).toArray.size=cap:=by simp[pcs];omega
 have hcl:∀ty c,(Builtin.clear_ #[190] ty #[.slice (some ⟨g,l.length,none⟩) 1 c]).run Tryz.prog (w.drew.setRow g (pcs l++cur.toList.drop l.length).toArray)=.ok (.tuple #[]) ((w.drew.setRow g (pcs l++cur.toList.drop l.length).toArray).setCells g l.length (List.replicate 1 (.pointer none))):=
  fun ty c=>Lib.run_clear_slice _ _ _ ty _ Tryz.underlying190 zero_pc rfl rfl g l.length 1 c (by omega) (fun t ht=>by rw[cell_of hg1,Array.getElem?_eq_getElem (by rw[hsz1];omega)];rfl) (fun t _=>frozen_of hg1 _)
 have hfin:(w.drew.setRow g (pcs l++cur.toList.drop l.length).toArray).setCells g l.length (List.replicate 1 (.pointer none))=(w.drew.setRow g (pcs l++cur.toList.drop l.length).toArray).setCell ⟨g,l.length,none⟩ (.pointer none):=rfl
 rw[hfin] at hcl
 have hg2:=Ba.heap_setCell_same (i:=l.length) hg1 (.pointer none)
 have FIN:Hid (∀c,c=cap→((w.drew.setRow g (pcs l++cur.toList.drop l.length).toArray).setCell ⟨g,l.length,none⟩ (.pointer none)).ownsRow 0 63 1 (.slice (some ⟨g,0,none⟩) l.length c) l.length (pcs l)∧w.grownBy ((w.drew.setRow g (pcs l++cur.toList.drop l.length).toArray).setCell ⟨g,l.length,none⟩ (.pointer none)) (some g)):=by
  intro c hc
  subst hc
  refine⟨⟨pcs_len l,.inr ⟨g,c,_,rfl,Nat.zero_le _,hg2,by omega,hmx,?_,?_⟩⟩,⟨rfl,rfl,rfl,?_,fun k hk hne=>?_⟩⟩
  ·rw[Array.size_setIfInBounds,hsz1,Nat.mul_one]
  ·rw[Array.toList_setIfInBounds,Nat.mul_one]
   rw[List.take_set_of_le (Nat.le_refl _)]
   simp[pcs]
  ·simp[World.setCell,World.setRow]
  ·have hne':k≠g:=fun e=>hne (by rw[e])
   rw[heap_set_other _ _ _ _ _ hne',heap_row_other _ _ _ _ hne']
   rfl
 have HR:=hide hr
 have HG:=hide hg
 have HT:=hide htk
 have HS:=hide hsz
 have e01:(l.length:Int)+1≤cap:=by omega
 have e02:(1:Int)≤(l.length:Int)+1:=by omega
 clear hr hcell hx hi hg htk hsz hg1 hg2 hsz1 hfin
 go_enter Tryz.func165,Tryz.ntmps165
 go_wp2_with fail
 go_region_law (refine step_append_run _ (by rfl) _ _ _ _ (by rfl) _ _ (by rfl) (by rfl) _ _ HR.out ?_)
 all_goals
  go_wp2_with fail
 all_goals
  go_ret
  exact⟨_,rfl,(FIN.out _ (by first|rfl|omega)).1,rfl,(FIN.out _ rfl).2⟩
theorem take_nil(w:World):Calls Tryz.prog 126 #[.pointer none] w fun r w'=>r=.returned (.tuple #[.pointer none,.bool false])∧w'=w:=by
 go_enter Tryz.func126,Tryz.ntmps126
 go_wp2_with fail
 refine (first_nil _).mono ?_
 rintro r w1 ⟨rfl,rfl⟩
 go_wp2_with fail
 go_ret2
 exact⟨rfl,rfl⟩
theorem take_empty(S i:Nat)(v:Value)(w:World)(hc:w.cell? ⟨S,i,none⟩=some v)(ho:w.ownsRow 0 63 1 v 0 (pcs [])):
 Calls Tryz.prog 126 #[.pointer (some ⟨S,i,none⟩)] w fun r w'=>r=.returned (.tuple #[.pointer none,.bool false])∧w'=w:=by
 have FF:=hide (first_any S i v [] w hc ho)
 clear hc ho
 go_enter Tryz.func126,Tryz.ntmps126
 go_wp2_with fail
 refine FF.out.mono ?_
 rintro r w1 ⟨rfl,rfl⟩
 go_wp2_with fail
 go_ret2
 exact⟨rfl,rfl⟩
theorem take_any(S i:Nat)(T:TypeId)(cur:Array Value)(v:Value)(x:Nat)(l:List Nat)(w:World)(hS:w.heap[S]? =some (.cells cur T (0,0)))(hi:cur[i]? =some v)
 (ho:w.ownsRow 0 63 1 v (x::l).length (pcs (x::l))) (hne:v.ownBlock≠some S):
 Calls Tryz.prog 126 #[.pointer (some ⟨S,i,none⟩)] w fun r w'=>r=.returned (.tuple #[ptr x,.bool true])∧∃v',w'.heap[S]? =some (.cells (cur.setIfInBounds i v') T (0,0))∧w'.ownsRow 0 63 1 v' l.length (pcs l)∧v'.ownBlock=v.ownBlock∧KF (fun k=>k=S∨v.ownBlock=some k) w w':=by
 have hc:w.cell? ⟨S,i,none⟩=some v:=by rw[cell_of hS];exact hi
 have FF:=hide (first_any S i v (x::l) w hc ho)
 have DD:=hide (delete_any v x l w ho)
 have HS:=hide hS
 have hlt:S<w.heap.size:=(Array.getElem?_eq_some_iff.1 hS).1
 unfold fstV ptr at FF
 unfold ptr
 clear ho hS
 go_enter Tryz.func126,Tryz.ntmps126
 go_wp2_with fail
 refine FF.out.mono ?_
 rintro r w0 ⟨rfl,e0⟩
 obtain rfl:=e0.symm
 go_wp2_with fail
 refine DD.out.mono ?_
 rintro r w1 ⟨v',rfl,ho1,hb1,hg1⟩
 obtain⟨oa',c',rfl⟩:=own_sl ho1
 have hS1:w1.heap[S]? =some (.cells cur T (0,0)):=(hg1.block S hlt (fun e=>hne e.symm)).trans HS.out
 have c1:w1.cell? ⟨S,i,none⟩=some v:=by rw[cell_of hS1];exact hi
 have f1:w1.frozen? ⟨S,i,none⟩=false:=frozen_of hS1 i
 have S2:Hid ((w1.setCell ⟨S,i,none⟩ (.slice oa' l.length c')).heap[S]? =some (.cells (cur.setIfInBounds i (.slice oa' l.length c')) T (0,0))):=Ba.heap_setCell_same hS1 (.slice oa' l.length c')
 have O2:Hid ((w1.setCell ⟨S,i,none⟩ (.slice oa' l.length c')).ownsRow 0 63 1 (.slice oa' l.length c') l.length (pcs l)):=by
  exact own_set ho1 (by rw[hb1];exact hne)
 have K2:Hid (KF (fun k=>k=S∨v.ownBlock=some k) w (w1.setCell ⟨S,i,none⟩ (.slice oa' l.length c'))):=by
  refine⟨hg1.os,hg1.tape,hg1.output,by rw[size_set];exact hg1.size,fun k hk hn=>?_⟩
  rw[heap_set_other _ _ _ _ _ (fun e=>hn (.inl e))]
  exact hg1.block k hk (fun e=>hn (.inr e.symm))
 have HB:=hide hb1
 clear ho1 hb1 hg1 hS1 DD FF
 go_wp2_with fail
 go_ret2
 exact⟨rfl,_,S2.out,O2.out,HB.out,K2.out⟩
theorem add_any(S i:Nat)(T:TypeId)(cur:Array Value)(v:Value)(x:Nat)(l:List Nat)(w:World)(hS:w.heap[S]? =some (.cells cur T (0,0)))(hi:cur[i]? =some v)
 (ho:w.ownsRow 0 63 1 v l.length (pcs l)) (hne:v.ownBlock≠some S) (hl:l.length≤100000):
 Calls Tryz.prog 127 #[.pointer (some ⟨S,i,none⟩),ptr x] w fun r w'=>r=.returned (.tuple #[])∧∃v',w'.heap[S]? =some (.cells (cur.setIfInBounds i v') T (0,0))∧w'.ownsRow 0 63 1 v' (l++[x]).length (pcs (l++[x]))∧(v'.ownBlock=v.ownBlock∨∃N,v'.ownBlock=some N∧w.heap.size≤N)∧KF (fun k=>k=S∨v.ownBlock=some k) w w':=by
 have hc:w.cell? ⟨S,i,none⟩=some v:=by rw[cell_of hS];exact hi
 have hlt:S<w.heap.size:=(Array.getElem?_eq_some_iff.1 hS).1
 cases hi0:Tryz.prog.info? 63 with
 |none=>have:=info_pc;rw[hi0] at this;cases this
 |some i0=>
 have hx:=info_pc
 rw[hi0] at hx
 simp at hx
 have INF:=hide (And.intro hi0 hx)
 have H1:=hide (ho.alloc (.cells #[ptr x] 63))
 have HS:=hide hS
 unfold ptr at H1 ⊢
 clear hx hi0 ho hS
 go_enter Tryz.func127,Tryz.ntmps127
 go_wp2_with (at_builtin;refine wpList_append_own_at _ rfl _ _ 190 rfl 0 63 i0 (.pointer none) 1 8 Tryz.underlying190 INF.out.1 INF.out.2.1 INF.out.2.2.1 INF.out.2.2.2 rfl (by decide) _ _ _ rfl H1.out ⟨w.heap.size,0,none⟩ 1 1 [.pointer (some ⟨x,0,none⟩)] rfl rfl ?c1 ?c2 ?c3 ?c4 (Nat.zero_le _) ?_)
 case c1=>exact cell_one_new _ _ _
 case c2=>intro u hu;rw[List.mem_singleton] at hu;rw[hu];rfl
 case c3=>unfold maxLen;omega
 case c4=>omega
 intro v' w2 ho hg _ hat
 obtain⟨oa',c',rfl⟩:=own_sl ho
 have hne2:some S≠v.ownBlock:=fun e=>hne e.symm
 have hS1:w2.heap[S]? =some (.cells cur T (0,0)):=(hg.block S (by first|omega|(rw[World.size_alloc];omega)) hne2).trans ((Ba.below_alloc w _).block S hlt|>.trans HS.out)
 have c1:w2.cell? ⟨S,i,none⟩=some v:=by rw[cell_of hS1];exact hi
 have f1:w2.frozen? ⟨S,i,none⟩=false:=frozen_of hS1 i
 have S2:Hid ((w2.setCell ⟨S,i,none⟩ (.slice oa' (l.length+1) c')).heap[S]? =some (.cells (cur.setIfInBounds i (.slice oa' (l.length+1) c')) T (0,0))):=Ba.heap_setCell_same hS1 (.slice oa' (l.length+1) c')
 have HA:Hid ((Value.slice oa' (l.length+1) c').ownBlock=v.ownBlock∨∃N,(Value.slice oa' (l.length+1) c').ownBlock=some N∧w.heap.size≤N):=by
  rcases hat with q|q
  ·exact .inl q
  ·exact .inr ⟨_,q,by first|omega|(rw[World.size_alloc];omega)⟩
 have O2:Hid ((w2.setCell ⟨S,i,none⟩ (.slice oa' (l.length+1) c')).ownsRow 0 63 1 (.slice oa' (l.length+1) c') (l++[x]).length (pcs (l++[x]))):=by
  have e1:(l++[x]).length=l.length+1:=by simp
  have e2:pcs (l++[x])=pcs l++[.pointer (some ⟨x,0,none⟩)]:=by simp[pcs,ptr]
  rw[e1,e2]
  refine own_set ho ?_
  rcases HA.out with q|⟨N,q,hN⟩
  ·rw[q];exact hne
  ·rw[q];intro e;cases e;omega
 have K2:Hid (KF (fun k=>k=S∨v.ownBlock=some k) w (w2.setCell ⟨S,i,none⟩ (.slice oa' (l.length+1) c'))):=by
  have hsz:w.heap.size≤w2.heap.size:=by have:=hg.size;first|omega|(rw[World.size_alloc] at this;omega)
  refine⟨hg.os,hg.tape,hg.output,by rw[size_set];exact hsz,fun k hk hn=>?_⟩
  rw[heap_set_other _ _ _ _ _ (fun e=>hn (.inl e))]
  exact (hg.block k (by first|omega|(rw[World.size_alloc];omega)) (fun e=>hn (.inr e.symm))).trans ((Ba.below_alloc w _).block k hk)
 clear ho hg hat hS1 H1
 go_wp2_with fail
 go_end0
 exact⟨rfl,_,S2.out,O2.out,HA.out,K2.out⟩
end Sl
namespace Sl
open Ck
open Ba (KF Bd Nw)
structure Sst where
 sz:Nat
 sn:Nat
 rc:Nat
 gv:List Nat
 bk:List Nat
 cl:Option Nat
def hx(h:Nat→Option (List Int)):Nat→Option (Nat × List Int):=fun b=>(h b).map fun l=>(b,l)
theorem hx_at{h:Nat→Option (List Int)}{b:Nat}{l:List Int}(e:h b=some l):hx h b=some (b,l):=by simp[hx,e]
theorem hx_upd(h:Nat→Option (List Int))(b:Nat)(l:List Int):upd (hx h) b (b,l)=hx (upd h b l):=by
 funext j
 unfold upd hx
 by_cases e:j=b<;>simp[e]
def clv:Option Nat→Value
 |none=>.pointer none
 |some b=>ptr b
def Xs(Y:Nat→Prop)(S:Nat)(vg vb:Value):Nat→Prop:=fun k=>Y k∨k=S∨vg.ownBlock=some k∨vb.ownBlock=some k
def scs(st:Sst)(vg vb:Value):Array Value:=#[.int .i64 (st.sz:Int),.int .i64 (st.sn:Int),.int .i64 (st.rc:Int),vg,vb,clv st.cl]
def Dom(st:Sst)(h:Nat→Option (List Int)):Prop:=∀b,b∈st.gv∨b∈st.bk∨st.cl=some b→∃l,h b=some l
structure SX(Y:Nat→Prop)(S:Nat)(w:World)(st:Sst)(h:Nat→Option (List Int))(vg vb:Value):Prop where
 hp:w.heap[S]? =some (.cells (scs st vg vb) 194 (0,0))
 gv:w.ownsRow 0 63 1 vg st.gv.length (pcs st.gv)
 bk:w.ownsRow 0 63 1 vb st.bk.length (pcs st.bk)
 ap:∀k,vg.ownBlock=some k→vb.ownBlock≠some k
 ys:¬Y S
 yg:∀k,vg.ownBlock=some k→¬Y k
 yb:∀k,vb.ownBlock=some k→¬Y k
 sg:vg.ownBlock≠some S
 sb:vb.ownBlock≠some S
 cx:Cx (Xs Y S vg vb) w (hx h)
 dom:Dom st h
def SW(Y:Nat→Prop)(S:Nat)(w:World)(st:Sst)(h:Nat→Option (List Int)):Prop:=∃vg vb,SX Y S w st h vg vb
def Ext(h h':Nat→Option (List Int)):Prop:=∀b l,h b=some l→h' b=some l
theorem Ext.refl(h:Nat→Option (List Int)):Ext h h:=fun _ _ e=>e
theorem Ext.upd{h:Nat→Option (List Int)}{A:Nat}{l:List Int}(e:h A=none):Ext h (upd h A l):=by
 intro b l' hb
 have:b≠A:=fun q=>by rw[q,e] at hb;cases hb
 rw[upd_other _ _ _ _ this]
 exact hb
theorem Kp.mono{X Y:Nat→Prop}{w w':World}(h:Kp X w w')(i:∀k,Y k→X k):Kp Y w w':=⟨h.os,h.tape,h.output,h.size,fun k hk=>h.block k (i k hk)⟩
theorem Kp.of{X:Nat→Prop}{w w':World}(h:Below w.heap.size w w')(hX:∀k,X k→k<w.heap.size):Kp X w w':=⟨h.os,h.tape,h.output,h.size,fun k hk=>h.block k (hX k hk)⟩
theorem cx_ext{X X':Nat→Prop}{w w':World}{h:Nat→Option (Nat × List Int)}(hs:Cx X w h)(hb:∀k,k<w.heap.size→¬X k→w'.heap[k]? =w.heap[k]?)
 (hi:∀k,X' k→X k∨w.heap.size≤k) (hd:∀k,X' k→k<w'.heap.size):Cx X' w' h:=by
 obtain⟨f,st,hf⟩:=hs
 have key:∀i c,f i=some c→c.b<w.heap.size∧∀x,c.g=some x→x<w.heap.size:=fun i c hc=>by
  obtain⟨cap,r⟩:=st.rep i c hc
  exact⟨r.lt,fun x hx=>r.glt hx⟩
 refine⟨f,⟨fun i c hc=>?_,fun i c hc=>?_,st.apart,hd⟩,hf⟩
 ·obtain⟨cap,r⟩:=st.rep i c hc
  have ok:=st.ok i c hc
  exact⟨cap,r.keep (hb _ r.lt ok.2.2.1) (fun x hx=>hb _ (r.glt hx) (ok.2.2.2 x hx))⟩
 ·have ok:=st.ok i c hc
  have kk:=key i c hc
  refine⟨ok.1,ok.2.1,fun q=>?_,fun x hx q=>?_⟩
  ·rcases hi _ q with q|q
   ·exact ok.2.2.1 q
   ·omega
  ·rcases hi _ q with q|q
   ·exact ok.2.2.2 x hx q
   ·have:=kk.2 x hx;omega
theorem cx_new{X:Nat→Prop}{w w':World}{h:Nat→Option (List Int)}{A:Nat}{l:List Int}(hs:Cx X w (hx h))(hn:∀i,Cx X w' (upd (hx h) i (A,l))):h A=none:=by
 cases hA:h A with
 |none=>rfl
 |some l0=>
  exfalso
  have h1:=(hs.get (hx_at hA)).1.lt
  have h2:h w.heap.size=none:=by
   cases e:h w.heap.size with
   |none=>rfl
   |some l1=>exact absurd (hs.get (hx_at e)).1.lt (Nat.lt_irrefl _)
  obtain⟨f,st,hf⟩:=hn w.heap.size
  have e1:=hf w.heap.size
  rw[upd_same] at e1
  have e2:=hf A
  rw[upd_other _ _ _ _ (by omega),hx_at hA] at e2
  cases q1:f w.heap.size with
  |none=>rw[q1] at e1;simp at e1
  |some c=>
   cases q2:f A with
   |none=>rw[q2] at e2;simp at e2
   |some d=>
    rw[q1] at e1
    rw[q2] at e2
    simp at e1 e2
    have ap:=st.apart w.heap.size A c d (by omega) q1 q2
    exact ap.1 (by rw[←e1.1,←e2.1])
theorem SX.lt{Y:Nat→Prop}{S:Nat}{w:World}{st:Sst}{h:Nat→Option (List Int)}{vg vb:Value}(s:SX Y S w st h vg vb):S<w.heap.size:=(Array.getElem?_eq_some_iff.1 s.hp).1
theorem SX.ylt{Y:Nat→Prop}{S:Nat}{w:World}{st:Sst}{h:Nat→Option (List Int)}{vg vb:Value}(s:SX Y S w st h vg vb):∀k,Y k→k<w.heap.size:=fun k hk=>s.cx.base k (.inl hk)
theorem own_kp{X:Nat→Prop}{w w':World}{e:TypeId}{v:Value}{n:Nat}{xs:List Value}(h:w.ownsRow 0 e 1 v n xs)(k:Kp X w w')(hX:∀b,v.ownBlock=some b→X b):w'.ownsRow 0 e 1 v n xs:=by
 refine⟨h.1,?_⟩
 rcases h.2 with q|⟨g,cap,cr,rfl,h0,hg,q⟩
 ·exact .inl q
 ·exact .inr ⟨g,cap,cr,rfl,h0,(k.block g (hX g rfl)).trans hg,q⟩
theorem SX.clk{Y:Nat→Prop}{S:Nat}{w w':World}{st:Sst}{h h':Nat→Option (List Int)}{vg vb:Value}(s:SX Y S w st h vg vb)(c:Cx (Xs Y S vg vb) w' (hx h'))(k:Kp (Xs Y S vg vb) w w')(hd:∀b l,h b=some l→∃l',h' b=some l'):SX Y S w' st h' vg vb:=
 ⟨(k.block S (.inr (.inl rfl))).trans s.hp,own_kp s.gv k fun _ e=>.inr (.inr (.inl e)),own_kp s.bk k fun _ e=>.inr (.inr (.inr e)),s.ap,s.ys,s.yg,s.yb,s.sg,s.sb,c,fun b hb=>by
   obtain⟨l,e⟩:=s.dom b hb
   exact hd b l e⟩
theorem SX.below{Y:Nat→Prop}{S:Nat}{w w':World}{st:Sst}{h:Nat→Option (List Int)}{vg vb:Value}(s:SX Y S w st h vg vb)(b:Below w.heap.size w w'):SX Y S w' st h vg vb:=
 s.clk (s.cx.below b) (Kp.of b s.cx.base) fun _ l e=>⟨l,e⟩
theorem SX.put{Y:Nat→Prop}{S:Nat}{w w':World}{st st':Sst}{h:Nat→Option (List Int)}{vg vb vg' vb':Value}(s:SX Y S w st h vg vb)(hp':w'.heap[S]? =some (.cells (scs st' vg' vb') 194 (0,0)))
 (og:w'.ownsRow 0 63 1 vg' st'.gv.length (pcs st'.gv)) (ob:w'.ownsRow 0 63 1 vb' st'.bk.length (pcs st'.bk)) (kf:KF (fun k=>k=S∨vg.ownBlock=some k∨vb.ownBlock=some k) w w')
 (ng:vg'.ownBlock=vg.ownBlock∨∃N,vg'.ownBlock=some N∧w.heap.size≤N) (nb:vb'.ownBlock=vb.ownBlock∨∃N,vb'.ownBlock=some N∧w.heap.size≤N)
 (ap':∀k,vg'.ownBlock=some k→vb'.ownBlock≠some k) (dm:Dom st' h):SX Y S w' st' h vg' vb'∧Kp Y w w':=by
 have hS:=s.lt
 have yl:=s.ylt
 have lg:∀k,vg'.ownBlock=some k→k<w'.heap.size:=fun k e=>(og.lt k e).2
 have lb:∀k,vb'.ownBlock=some k→k<w'.heap.size:=fun k e=>(ob.lt k e).2
 have cg:∀k,vg'.ownBlock=some k→vg.ownBlock=some k∨w.heap.size≤k:=fun k e=>by
  rcases ng with q|⟨N,q,hN⟩
  ·exact .inl (q ▸ e)
  ·rw[q] at e;cases e;exact .inr hN
 have cb:∀k,vb'.ownBlock=some k→vb.ownBlock=some k∨w.heap.size≤k:=fun k e=>by
  rcases nb with q|⟨N,q,hN⟩
  ·exact .inl (q ▸ e)
  ·rw[q] at e;cases e;exact .inr hN
 refine⟨⟨hp',og,ob,ap',s.ys,fun k e y=>?_,fun k e y=>?_,fun e=>?_,fun e=>?_,?_,dm⟩,⟨kf.os,kf.tape,kf.output,kf.size,fun k hk=>kf.block k (yl k hk) ?_⟩⟩
 ·rcases cg k e with q|q
  ·exact s.yg k q y
  ·have:=yl k y;omega
 ·rcases cb k e with q|q
  ·exact s.yb k q y
  ·have:=yl k y;omega
 ·rcases cg _ e with q|q
  ·exact s.sg q
  ·omega
 ·rcases cb _ e with q|q
  ·exact s.sb q
  ·omega
 ·refine cx_ext s.cx (fun k hk hn=>kf.block k hk (fun q=>hn (.inr q))) ?_ ?_
  ·rintro k (q|q|q|q)
   ·exact .inl (.inl q)
   ·exact .inl (.inr (.inl q))
   ·rcases cg k q with z|z
    ·exact .inl (.inr (.inr (.inl z)))
    ·exact .inr z
   ·rcases cb k q with z|z
    ·exact .inl (.inr (.inr (.inr z)))
    ·exact .inr z
  ·rintro k (q|q|q|q)
   ·exact Nat.lt_of_lt_of_le (yl k q) kf.size
   ·rw[q];exact Nat.lt_of_lt_of_le hS kf.size
   ·exact lg k q
   ·exact lb k q
 ·rintro (q|q|q)
  ·exact s.ys (q ▸ hk)
  ·exact s.yg k q hk
  ·exact s.yb k q hk
theorem copy_sx{Y:Nat→Prop}{S:Nat}{w:World}{st:Sst}{h:Nat→Option (List Int)}{vg vb:Value}(s:SX Y S w st h vg vb){b:Nat}{l:List Int}(e:h b=some l):
 Calls Tryz.prog 122 #[ptr b] w fun r w'=>∃A,r=.returned (ptr A)∧h A=none∧SX Y S w' st (upd h A l) vg vb∧Kp (Xs Y S vg vb) w w':=by
 refine (cx_copy s.cx (hx_at e)).mono ?_
 rintro r w' ⟨A,rfl,hc,kp⟩
 have hA:=cx_new s.cx hc
 refine⟨A,rfl,hA,s.clk (by rw[←hx_upd];exact hc A) kp fun b' l' e'=>⟨l',Ext.upd hA b' l' e'⟩,kp⟩
theorem SX.cells{Y:Nat→Prop}{S:Nat}{w:World}{st:Sst}{h:Nat→Option (List Int)}{vg vb:Value}(s:SX Y S w st h vg vb):
 w.cell? ⟨S,0,none⟩=some (.int .i64 (st.sz:Int))∧w.cell? ⟨S,1,none⟩=some (.int .i64 (st.sn:Int))∧w.cell? ⟨S,2,none⟩=some (.int .i64 (st.rc:Int))∧w.cell? ⟨S,3,none⟩=some vg∧w.cell? ⟨S,4,none⟩=some vb∧w.cell? ⟨S,5,none⟩=some (clv st.cl):=
 ⟨cell_of s.hp 0,cell_of s.hp 1,cell_of s.hp 2,cell_of s.hp 3,cell_of s.hp 4,cell_of s.hp 5⟩
def srcP(S:Nat)(st:Sst)(send:Bool):Value:=if send then (if st.sn<st.sz then .pointer none else .pointer (some ⟨S,4,none⟩)) else .pointer (some ⟨S,3,none⟩)
theorem source_any{Y:Nat→Prop}{S:Nat}{w:World}{st:Sst}{h:Nat→Option (List Int)}{vg vb:Value}(s:SX Y S w st h vg vb)(b:Bool):
 Calls Tryz.prog 124 #[.pointer (some ⟨S,0,none⟩),.bool b] w fun r w'=>r=.returned (srcP S st b)∧Below w.heap.size w w':=by
 obtain⟨y0,y1,-⟩:=s.cells
 clear s
 cases b
 ·go_enter Tryz.func124,Tryz.ntmps124
  go_wp2_with fail
  go_ret
  exact⟨rfl,Below.refl _ _⟩
 ·unfold srcP
  by_cases hlt:st.sn<st.sz
  ·have d:decide ((st.sn:Int)<(st.sz:Int))=true:=by simp;omega
   have hlt':(st.sn:Int)<(st.sz:Int):=by omega
   rw[if_pos rfl,if_pos hlt]
   go_enter Tryz.func124,Tryz.ntmps124
   go_wp2_with fail
   go_region
   go_wp2_with fail
   go_ret
   exact⟨rfl,Ba.bdrew1 _⟩
  ·have d:decide ((st.sn:Int)<(st.sz:Int))=false:=by simp;omega
   have hlt':¬(st.sn:Int)<(st.sz:Int):=by omega
   rw[if_pos rfl,if_neg hlt]
   go_enter Tryz.func124,Tryz.ntmps124
   go_wp2_with fail
   go_region
   go_wp2_with fail
   go_ret
   exact⟨rfl,Ba.bdrew1 _⟩
theorem new_any(n:Nat)(Y:Nat→Prop)(h:Nat→Option (List Int))(w:World)(hn:n≤4)(hc:Cx Y w (hx h)):
 Calls Tryz.prog 88 #[.int .i64 (n:Int)] w fun r w'=>∃S,r=.returned (.tuple #[.pointer (some ⟨S,0,none⟩),.int .i64 0])∧SX Y S w' ⟨n,0,0,[],[],none⟩ h (.slice none 0 0) (.slice none 0 0)∧Below w.heap.size w w':=by
 have d:decide ((n:Int)<0)=false:=by simp
 have d2:decide (4<(n:Int))=false:=by simp;omega
 have HC:=hide hc
 clear hc
 go_enter Tryz.func88,Tryz.ntmps88
 go_wp2_with fail
 go_ret2
 have b1:=below_alloc w (.cells #[.int .i64 (n:Int),.int .i64 0,.int .i64 0,.slice none 0 0,.slice none 0 0,.pointer none] 194)
 have nn:∀k,(Value.slice none 0 0).ownBlock≠some k:=fun k e=>nomatch e
 refine⟨_,rfl,⟨heap_new _ _,World.ownsRow_nil _ _ _ _,World.ownsRow_nil _ _ _ _,fun k e=>absurd e (nn k),fun q=>?_,fun k e=>absurd e (nn k),fun k e=>absurd e (nn k),nn _,nn _,?_,fun b hb=>?_⟩,b1⟩
 ·exact Nat.lt_irrefl _ (HC.out.base _ q)
 ·refine cx_ext HC.out (fun k hk _=>b1.block k hk) ?_ ?_
  ·rintro k (q|q|q|q)
   ·exact .inl q
   ·exact .inr (by omega)
   ·cases q
   ·cases q
  ·rintro k (q|q|q|q)
   ·exact Nat.lt_of_lt_of_le (HC.out.base k q) b1.size
   ·rw[q,World.size_alloc];omega
   ·cases q
   ·cases q
 ·simp at hb
end Sl
namespace Sl
open Ck
open Ba (KF Bd Nw)
def fetS(st:Sst):Option Nat:=if st.sn<st.sz then none else st.bk.head?
def sendE(st:Sst):Int:=if st.cl.isSome then 90 else if st.rc+max 1 st.sz≤st.sn then 5 else 0
def tookS(st:Sst):Sst:={st with bk:=if st.sn<st.sz then st.bk else st.bk.tail}
def sendS(st:Sst)(A:Nat):Sst:={tookS st with sn:=st.sn+1,gv:=st.gv++[A]}
theorem took_any{Y:Nat→Prop}{S:Nat}{w:World}{st:Sst}{h:Nat→Option (List Int)}{vg vb:Value}(s:SX Y S w st h vg vb):
 Calls Tryz.prog 126 #[srcP S st true] w fun r w'=>(∃b,r=.returned (.tuple #[clv (fetS st),.bool b]))∧∃vb',SX Y S w' (tookS st) h vg vb'∧Kp Y w w':=by
 unfold srcP fetS tookS
 rw[if_pos rfl]
 by_cases hlt:st.sn<st.sz
 ·simp only[if_pos hlt]
  refine (take_nil w).mono ?_
  rintro r w' ⟨rfl,rfl⟩
  exact⟨⟨_,rfl⟩,vb,s,Kp.refl _ _⟩
 ·simp only[if_neg hlt]
  obtain⟨y0,y1,y2,y3,y4,y5⟩:=s.cells
  cases hb:st.bk with
  |nil=>
   have ob:=s.bk
   rw[hb] at ob
   refine (take_empty S 4 vb w y4 ob).mono ?_
   rintro r w' ⟨rfl,rfl⟩
   refine⟨⟨_,rfl⟩,vb,?_,Kp.refl _ _⟩
   have:({st with bk:=([]:List Nat)}:Sst)=st:=by cases st;cases hb;rfl
   show SX Y S _ {st with bk:=[]} h vg vb
   rw[this]
   exact s
  |cons x l=>
   have ob:=s.bk
   rw[hb] at ob
   refine (take_any S 4 194 (scs st vg vb) vb x l w s.hp rfl ob s.sb).mono ?_
   rintro r w' ⟨rfl,v',hS,ho,hbl,kf⟩
   have hp':w'.heap[S]? =some (.cells (scs {st with bk:=l} vg v') 194 (0,0)):=hS
   have og:w'.ownsRow 0 63 1 vg st.gv.length (pcs st.gv):=by
    refine⟨s.gv.1,?_⟩
    rcases s.gv.2 with q|⟨g,cap,cr,e,h0,hg,q⟩
    ·exact .inl q
    ·refine .inr ⟨g,cap,cr,e,h0,(kf.block g (Array.getElem?_eq_some_iff.1 hg).1 ?_).trans hg,q⟩
     rintro (z|z)
     ·exact s.sg (by rw[e,←z];rfl)
     ·exact s.ap g (by rw[e];rfl) z
   obtain⟨s',k'⟩:=s.put (st':={st with bk:=l}) hp' og ho (kf.mono fun k q=>by rcases q with q|q;exact .inl q;exact .inr (.inr q)) (.inl rfl) (.inl hbl) (by rw[hbl];exact s.ap) (fun b hbb=>s.dom b (by
    rcases hbb with q|q|q
    ·exact .inl q
    ·exact .inr (.inl (by rw[hb];exact List.mem_cons_of_mem _ q))
    ·exact .inr (.inr q)))
   exact⟨⟨_,rfl⟩,v',s',k'⟩
theorem send_err{Y:Nat→Prop}{S:Nat}{w:World}{st:Sst}{h:Nat→Option (List Int)}{vg vb:Value}(s:SX Y S w st h vg vb)(c:Value)(hE:sendE st≠0)(hn:st.sn≤1000000)(hr:st.rc≤st.sn):
 Calls Tryz.prog 90 #[.pointer (some ⟨S,0,none⟩),c] w fun r w'=>r=.returned (.tuple #[.pointer none,.int .i64 (sendE st)])∧Below w.heap.size w w':=by
 obtain⟨y0,y1,y2,-,-,y5⟩:=s.cells
 clear s
 unfold sendE at hE ⊢
 cases hc:st.cl with
 |some b=>
  rw[hc] at y5
  unfold clv ptr at y5
  simp only[Option.isSome_some,if_true]
  clear hE y0 y1 y2
  go_enter Tryz.func90,Tryz.ntmps90
  go_wp2_with fail
  go_ret2
  exact⟨rfl,Below.refl _ _⟩
 |none=>
  rw[hc] at y5 hE
  unfold clv at y5
  simp only[Option.isSome_none,Bool.false_eq_true,if_false] at hE ⊢
  by_cases hf:st.rc+max 1 st.sz≤st.sn
  ·rw[if_pos hf]
   clear hE
   by_cases hz:(1:Int)<(st.sz:Int)
   ·have d:decide ((st.sz:Int)≤(st.sn:Int) - (st.rc:Int))=true:=decide_eq_true (by omega)
    go_enter Tryz.func90,Tryz.ntmps90
    go_wp2_with fail
    go_region
    all_goals
     go_wp2_with fail
     go_ret2
     exact⟨rfl,Ba.bdrew1 _⟩
   ·have d:decide ((1:Int)≤(st.sn:Int) - (st.rc:Int))=true:=decide_eq_true (by omega)
    go_enter Tryz.func90,Tryz.ntmps90
    go_wp2_with fail
    go_region
    all_goals
     go_wp2_with fail
     go_ret2
     exact⟨rfl,Ba.bdrew1 _⟩
  ·exact absurd (by rw[if_neg hf]) hE
theorem own_kf{F:Nat→Prop}{w w':World}{e:TypeId}{v:Value}{n:Nat}{xs:List Value}(h:w.ownsRow 0 e 1 v n xs)(k:KF F w w')(hX:∀b,v.ownBlock=some b→¬F b):w'.ownsRow 0 e 1 v n xs:=by
 refine⟨h.1,?_⟩
 rcases h.2 with q|⟨g,cap,cr,rfl,h0,hg,q⟩
 ·exact .inl q
 ·exact .inr ⟨g,cap,cr,rfl,h0,(k.block g (Array.getElem?_eq_some_iff.1 hg).1 (hX g rfl)).trans hg,q⟩
theorem SX.addG{Y:Nat→Prop}{S:Nat}{w w':World}{st:Sst}{h:Nat→Option (List Int)}{vg vb v':Value}{A:Nat}{l:List Int}(s:SX Y S w st h vg vb)(hA:h A=some l)
 (hS:w'.heap[S]? =some (.cells ((scs st vg vb).setIfInBounds 3 v') 194 (0,0))) (ho:w'.ownsRow 0 63 1 v' (st.gv++[A]).length (pcs (st.gv++[A]))) (hat:v'.ownBlock=vg.ownBlock∨∃N,v'.ownBlock=some N∧w.heap.size≤N)
 (kf:KF (fun k=>k=S∨vg.ownBlock=some k) w w'):SX Y S w' {st with gv:=st.gv++[A]} h v' vb∧Kp Y w w':=by
 refine s.put (st':={st with gv:=st.gv++[A]}) hS ho (own_kf s.bk kf ?_) (kf.mono fun k q=>by rcases q with q|q;exact .inl q;exact .inr (.inl q)) hat (.inl rfl) ?_ ?_
 ·rintro b e (q|q)
  ·exact s.sb (q ▸ e)
  ·exact s.ap b q e
 ·intro k e
  rcases hat with q|⟨N,q,hN⟩
  ·exact s.ap k (q ▸ e)
  ·rw[q] at e
   cases e
   intro z
   have:=(s.bk.lt _ z).2
   omega
 ·intro b hb
  rcases hb with q|q|q
  ·rcases List.mem_append.1 q with q|q
   ·exact s.dom b (.inl q)
   ·rw[List.mem_singleton] at q;rw[q];exact⟨l,hA⟩
  ·exact s.dom b (.inr (.inl q))
  ·exact s.dom b (.inr (.inr q))
theorem SX.addB{Y:Nat→Prop}{S:Nat}{w w':World}{st:Sst}{h:Nat→Option (List Int)}{vg vb v':Value}{A:Nat}{l:List Int}(s:SX Y S w st h vg vb)(hA:h A=some l)
 (hS:w'.heap[S]? =some (.cells ((scs st vg vb).setIfInBounds 4 v') 194 (0,0))) (ho:w'.ownsRow 0 63 1 v' (st.bk++[A]).length (pcs (st.bk++[A]))) (hat:v'.ownBlock=vb.ownBlock∨∃N,v'.ownBlock=some N∧w.heap.size≤N)
 (kf:KF (fun k=>k=S∨vb.ownBlock=some k) w w'):SX Y S w' {st with bk:=st.bk++[A]} h vg v'∧Kp Y w w':=by
 refine s.put (st':={st with bk:=st.bk++[A]}) hS (own_kf s.gv kf ?_) ho (kf.mono fun k q=>by rcases q with q|q;exact .inl q;exact .inr (.inr q)) (.inl rfl) hat ?_ ?_
 ·rintro b e (q|q)
  ·exact s.sg (q ▸ e)
  ·exact s.ap b e q
 ·intro k e
  rcases hat with q|⟨N,q,hN⟩
  ·rw[q];exact s.ap k e
  ·rw[q]
   intro z
   cases z
   have:=(s.gv.lt _ e).2
   omega
 ·intro b hb
  rcases hb with q|q|q
  ·exact s.dom b (.inl q)
  ·rcases List.mem_append.1 q with q|q
   ·exact s.dom b (.inr (.inl q))
   ·rw[List.mem_singleton] at q;rw[q];exact⟨l,hA⟩
  ·exact s.dom b (.inr (.inr q))
theorem SX.cnt{Y:Nat→Prop}{S:Nat}{w:World}{st st':Sst}{h:Nat→Option (List Int)}{vg vb:Value}(s:SX Y S w st h vg vb)(i:Nat)(v:Value)(hq:(scs st vg vb).setIfInBounds i v=scs st' vg vb)(hg:st'.gv=st.gv)(hb:st'.bk=st.bk)(hd:Dom st' h):
 SX Y S (w.setCell ⟨S,i,none⟩ v) st' h vg vb∧Kp Y w (w.setCell ⟨S,i,none⟩ v):=by
 refine s.put (by rw[←hq];exact Ba.heap_setCell_same s.hp v) (by rw[hg];exact own_set s.gv s.sg) (by rw[hb];exact own_set s.bk s.sb) ((KF.refl _ _).set (.inl rfl) i v) (.inl rfl) (.inl rfl) s.ap hd
end Sl
namespace Sl
open Ck
open Ba (KF Bd Nw)
def recvS(st:Sst)(A:Nat):Sst:={st with rc:=st.rc+1,gv:=st.gv.tail,bk:=if 0<st.sz then st.bk++[A] else st.bk}
theorem takeG_any{Y:Nat→Prop}{S:Nat}{w:World}{st:Sst}{h:Nat→Option (List Int)}{vg vb:Value}{x:Nat}{l:List Nat}(s:SX Y S w st h vg vb)(hb:st.gv=x::l):
 Calls Tryz.prog 126 #[.pointer (some ⟨S,3,none⟩)] w fun r w'=>r=.returned (.tuple #[ptr x,.bool true])∧∃vg',SX Y S w' {st with gv:=l} h vg' vb∧Kp Y w w':=by
 have ob:=s.gv
 rw[hb] at ob
 refine (take_any S 3 194 (scs st vg vb) vg x l w s.hp rfl ob s.sg).mono ?_
 rintro r w' ⟨rfl,v',hS,ho,hbl,kf⟩
 have hp':w'.heap[S]? =some (.cells (scs {st with gv:=l} v' vb) 194 (0,0)):=hS
 obtain⟨s',k'⟩:=s.put (st':={st with gv:=l}) hp' ho (own_kf s.bk kf (by
  rintro b e (q|q)
  ·exact s.sb (q ▸ e)
  ·exact s.ap b q e)) (kf.mono fun k q=>by rcases q with q|q;exact .inl q;exact .inr (.inl q)) (.inl hbl) (.inl rfl) (by rw[hbl];exact s.ap) (fun b hbb=>s.dom b (by
  rcases hbb with q|q|q
  ·exact .inl (by rw[hb];exact List.mem_cons_of_mem _ q)
  ·exact .inr (.inl q)
  ·exact .inr (.inr q)))
 exact⟨rfl,v',s',k'⟩
theorem recv_none{Y:Nat→Prop}{S:Nat}{w:World}{st:Sst}{h:Nat→Option (List Int)}{vg vb:Value}(s:SX Y S w st h vg vb)(c:Value)(hg:st.gv=[]):
 Calls Tryz.prog 91 #[.pointer (some ⟨S,0,none⟩),c] w fun r w'=>r=.returned (.tuple #[.pointer none,.int .i64 6])∧Below w.heap.size w w':=by
 have SR:=hide (source_any s false)
 have TK:Hid (∀u,Below w.heap.size w u→Calls Tryz.prog 126 #[.pointer (some ⟨S,3,none⟩)] u fun r w'=>r=.returned (.tuple #[.pointer none,.bool false])∧w'=u):=fun u b=>by
  have s1:=s.below b
  have og:=s1.gv
  rw[hg] at og
  exact take_empty S 3 vg u s1.cells.2.2.2.1 og
 unfold srcP at SR
 clear s
 go_enter Tryz.func91,Tryz.ntmps91
 go_wp2_with fail
 refine SR.out.mono ?_
 rintro r w1 ⟨rfl,b1⟩
 have B1:=hide b1
 have TK1:=hide (TK.out w1 b1)
 clear b1
 go_wp2_with fail
 refine TK1.out.mono ?_
 rintro r w2 ⟨rfl,rfl⟩
 go_wp2_with fail
 go_ret2
 exact⟨rfl,B1.out⟩
def pkS(st:Sst)(send:Bool):Option Nat:=if send then fetS st else st.gv.head?
theorem fst_clv(l:List Nat):fstV l=clv l.head?:=by cases l<;>rfl
theorem some_of(l:List Nat):(!l.isEmpty)=l.head?.isSome:=by cases l<;>rfl
theorem firstS_any{Y:Nat→Prop}{S:Nat}{w:World}{st:Sst}{h:Nat→Option (List Int)}{vg vb:Value}(s:SX Y S w st h vg vb)(b:Bool):
 Calls Tryz.prog 125 #[srcP S st b] w fun r w'=>r=.returned (.tuple #[clv (pkS st b),.bool (pkS st b).isSome])∧w'=w:=by
 obtain⟨y0,y1,y2,y3,y4,y5⟩:=s.cells
 cases b
 ·unfold srcP pkS
  simp only[Bool.false_eq_true,if_false]
  rw[←fst_clv,←some_of]
  exact first_any S 3 vg st.gv w y3 s.gv
 ·unfold srcP pkS fetS
  simp only[if_true]
  by_cases hlt:st.sn<st.sz
  ·simp only[if_pos hlt]
   exact first_nil w
  ·simp only[if_neg hlt]
   rw[←fst_clv,←some_of]
   exact first_any S 4 vb st.bk w y4 s.bk
theorem head_mem{l:List Nat}{x:Nat}(h:l.head? =some x):x∈l:=by
 cases l with
 |nil=>cases h
 |cons y l=>cases h;exact List.mem_cons_self
theorem SX.pk{Y:Nat→Prop}{S:Nat}{w:World}{st:Sst}{h:Nat→Option (List Int)}{vg vb:Value}(s:SX Y S w st h vg vb){b:Bool}{x:Nat}(hp:pkS st b=some x):∃l,h x=some l:=by
 cases b
 ·exact s.dom x (.inl (head_mem hp))
 ·have hp:(if st.sn<st.sz then none else st.bk.head?)=some x:=hp
  split at hp
  ·cases hp
  ·exact s.dom x (.inr (.inl (head_mem hp)))
theorem close_err{Y:Nat→Prop}{S:Nat}{w:World}{st:Sst}{h:Nat→Option (List Int)}{vg vb:Value}(s:SX Y S w st h vg vb)(v:Value)(b:Nat)(hc:st.cl=some b):
 Calls Tryz.prog 93 #[.pointer (some ⟨S,0,none⟩),v] w fun r w'=>r=.returned (.int .i64 90)∧w'=w:=by
 obtain⟨-,-,-,-,-,y5⟩:=s.cells
 rw[hc] at y5
 unfold clv ptr at y5
 clear s
 go_enter Tryz.func93,Tryz.ntmps93
 go_wp2_with fail
 go_ret
 exact⟨rfl,rfl⟩
end Sl
namespace Sl
open Ck
open Ba (KF Bd Nw)
end Sl
end Go.Proofs.YtogkjaekfhjelaaGreat
