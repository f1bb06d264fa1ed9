import Derived.Test.YtogkjaekfhjelaaGreatZjSg2
import Derived.Test.YtogkjaekfhjelaaGreatZjSg5
import Derived.Test.YtogkjaekfhjelaaGreatZjSg8
import Derived.Test.YtogkjaekfhjelaaGreatZjSg9
import Derived.Lib.Slices
import Derived.Deep.RegionHeld3
import Derived.SizedLaws
set_option maxHeartbeats 12800000
namespace Go.Proofs.YtogkjaekfhjelaaGreat
namespace Lo
open Ba
theorem VI.same{s s':Lm}(h:VI s)(hn:s'.nm=s.nm)(hm:s'.md=s.md)(hq:Qt s.sts s'.sts)(ht:s'.tr=s.tr):VI s':=
 h.quiet hn hm hq [] (by rw[ht];simp) (fun e he=>by simp at he)
theorem try_nm(s:Lm)(g at_:Int)(c:Ca):(tryF s g at_ c).s.nm=s.nm∧(tryF s g at_ c).s.md=s.md:=by
 unfold tryF
 split
 ·exact⟨rfl,rfl⟩
 ·split<;>exact⟨rfl,rfl⟩
theorem VI.try{s:Lm}(h:VI s)(g at_:Int)(c:Ca):VI (tryF s g at_ c).s:=by
 cases hn:Fk.nmB s.sts c.ch with
 |none=>
  have e1:Fk.tryG s.sts c=_root_.Go.Proofs.YtogkjaekfhjelaaGreat.Pi.gz:=by unfold Fk.tryG;rw[hn]
  have e2:Fk.tryS s.sts c=s.sts:=by unfold Fk.tryS;rw[hn]
  unfold tryF
  rw[e1,e2,if_pos (by exact Or.inr rfl)]
  exact h.same rfl rfl (Qt.refl _) rfl
 |some st=>
  have eE:Fk.tryE s.sts c=if c.sd then _root_.Go.Proofs.YtogkjaekfhjelaaGreat.Pi.sendE st else 0:=by unfold Fk.tryE;rw[hn]
  have eG:Fk.tryG s.sts c=if c.sd then _root_.Go.Proofs.YtogkjaekfhjelaaGreat.Pi.sendG st else _root_.Go.Proofs.YtogkjaekfhjelaaGreat.Pi.recvG st:=by unfold Fk.tryG;rw[hn]
  have eS:Fk.tryS s.sts c=s.sts.set c.ch.toNat (some (if c.sd then _root_.Go.Proofs.YtogkjaekfhjelaaGreat.Pi.sendS st c.v else _root_.Go.Proofs.YtogkjaekfhjelaaGreat.Pi.recvS st)):=by unfold Fk.tryS;rw[hn]
  unfold tryF
  rw[eE,eG,eS]
  cases hs:c.sd with
  |true=>
   simp only[if_true]
   unfold _root_.Go.Proofs.YtogkjaekfhjelaaGreat.Pi.sendE _root_.Go.Proofs.YtogkjaekfhjelaaGreat.Pi.sendG _root_.Go.Proofs.YtogkjaekfhjelaaGreat.Pi.sendS
   cases hcl:st.closed with
   |true=>
    rw[if_pos (by simp)]
    exact h.same rfl rfl (Qt.set hn rfl id) rfl
   |false=>
    cases hr:st.rcv with
    |cons y t=>
     simp only[Bool.false_eq_true,if_false]
     rw[if_neg (by simp),if_pos (by simp)]
     refine h.act hn rfl rfl (Qt.leave _ _) [_,_] (List.append_assoc s.tr [_] [_]) ?_ ?_
     ·intro e he
      simp only[List.mem_cons,List.not_mem_nil,or_false] at he
      rcases he with rfl|rfl<;>rfl
     ·intro j
      have hb:st.buf=[]:=j (by rw[hr];simp)
      refine⟨fun _=>by first|exact hb|rfl,?_⟩
      simp[ins,inB,outs,outB,tryV,servV,hs,hb]
    |nil=>
     simp only[Bool.false_eq_true,if_false]
     by_cases hl:st.buf.length<st.size
     ·simp only[if_pos hl]
      rw[if_neg (by simp),if_neg (by simp)]
      refine h.act hn rfl rfl (Qt.refl _) [_] rfl ?_ ?_
      ·intro e he
       simp only[List.mem_singleton] at he
       subst he
       rfl
      ·intro _
       refine⟨fun z=>by first|exact absurd hr z|exact absurd rfl z,?_⟩
       simp[ins,inB,outs,outB,tryV,hs]
     ·simp only[if_neg hl]
      rw[if_pos (by exact Or.inr rfl)]
      exact h.same rfl rfl (Qt.set hn rfl id) rfl
  |false=>
   simp only[Bool.false_eq_true,if_false]
   unfold _root_.Go.Proofs.YtogkjaekfhjelaaGreat.Pi.recvG _root_.Go.Proofs.YtogkjaekfhjelaaGreat.Pi.recvS
   cases hb:st.buf with
   |nil=>
    cases hq:st.snd with
    |nil=>
     simp only
     cases hcl:st.closed with
     |false=>
      rw[if_pos (by exact Or.inr rfl)]
      exact h.same rfl rfl (Qt.set hn rfl id) rfl
     |true=>
      rw[if_neg (by simp),if_neg (by simp)]
      refine h.act hn rfl rfl (Qt.refl _) [_] rfl ?_ ?_
      ·intro e he
       simp only[List.mem_singleton] at he
       subst he
       rfl
      ·intro j
       refine⟨j,?_⟩
       simp[ins,inB,outs,outB,tryV,hs]
    |cons y t=>
     simp only
     rw[if_neg (by simp),if_pos (by simp)]
     refine h.act hn rfl rfl (Qt.leave _ _) [_,_] (List.append_assoc s.tr [_] [_]) ?_ ?_
     ·intro e he
      simp only[List.mem_cons,List.not_mem_nil,or_false] at he
      rcases he with rfl|rfl<;>rfl
     ·intro _
      refine⟨fun _=>by first|exact hb|rfl,?_⟩
      simp[ins,inB,outs,outB,tryV,servV,hs,hb]
   |cons x b=>
    cases hq:st.snd with
    |nil=>
     simp only
     rw[if_neg (by simp),if_neg (by simp)]
     refine h.act hn rfl rfl (Qt.refl _) [_] rfl ?_ ?_
     ·intro e he
      simp only[List.mem_singleton] at he
      subst he
      rfl
     ·intro j
      refine⟨fun z=>?_,?_⟩
      ·have:=j z
       rw[hb] at this
       cases this
      ·simp[ins,inB,outs,outB,tryV,hs,hb]
    |cons y t=>
     simp only
     rw[if_neg (by simp),if_pos (by simp)]
     refine h.act hn rfl rfl (Qt.leave _ _) [_,_] (List.append_assoc s.tr [_] [_]) ?_ ?_
     ·intro e he
      simp only[List.mem_cons,List.not_mem_nil,or_false] at he
      rcases he with rfl|rfl<;>rfl
     ·intro j
      refine⟨fun z=>?_,?_⟩
      ·have:=j z
       rw[hb] at this
       cases this
      ·simp[ins,inB,outs,outB,tryV,servV,hs,hb]
theorem VI.alone{s:Lm}(h:VI s)(g:Int)(c:Ca)(hc:c.ch.toNat<8):VI (aloneF s g c).s:=by
 unfold aloneF
 split
 ·exact h.try _ _ _
 ·have h1:=h.try g (-1) c
  refine h1.tell _ rfl rfl (Qt.wait _ _ _) rfl ?_ rfl
  rw[(try_nm s g (-1) c).2]
  exact h.nlt _ hc
theorem VI.draw{s:Lm}(h:VI s)(d:List Int):VI {s with d:=d}:=⟨h.l1,h.l2,h.md0,h.lt,h.nlt,h.inj,h.ch,h.pre⟩
theorem VI.choose{s:Lm}(h:VI s)(g:Int)(o:OpD):VI (chooseF s g o).s:=by
 have:=h.md0
 unfold chooseF
 split
 ·exact (h.draw _).try _ _ _
 ·split
  ·exact h.tell _ rfl rfl (Qt.refl _) rfl (by show (-1:Int)<s.md;omega) rfl
  ·exact h.tell _ rfl rfl (Qt.pkA _ _ _) rfl (by show (-1:Int)<s.md;omega) rfl
theorem VI.all(g c:Int):∀(l:List Wt) {s:Lm},VI s→c<s.md→VI (wakeAll g c s l)
 |[],_,h,_=>h
 |x::l,s,h,hc=>by
  show VI (wakeAll g c (if parked s x.g then _ else s) l)
  split
  ·exact VI.all g c l (h.tell (s':={s with sts:=Fk.leaveS x.g s.sts,cr:=Cr.chL s.cr x.g 1 0 1}) ⟨7,x.g,c,x.c,0,g,false,false⟩ rfl rfl (Qt.leave _ _) rfl hc rfl) hc
  ·exact VI.all g c l h hc
theorem VI.closes{s:Lm}(h:VI s)(g k:Int):VI (closesF s g k).s:=by
 unfold closesF
 split
 ·exact h
 ·rename_i st e
  split
  ·exact h
  ·have hn:=(h.nmd e).2.2.1
   exact VI.all _ _ _ (h.tell _ rfl rfl (Qt.close e) rfl hn rfl) hn
theorem VI.panic{s:Lm}(h:VI s)(g:Int):VI (panicS s g):=
 h.tell _ rfl rfl (Qt.refl _) rfl (by have:=h.md0;show (-1:Int)<s.md;omega) rfl
theorem VI.opens{s:Lm}(h:VI s)(k:Nat)(hk:k<8)(size:Int)(g v:Int)(cr:List Mb):VI (tellS {s with sts:=s.sts.set k (some (_root_.Go.Proofs.YtogkjaekfhjelaaGreat.Pi.st0 size.toNat)),nm:=s.nm.set k s.md,md:=s.md+1,cr:=cr} ⟨2,g,s.md,-1,v,-1,false,false⟩):=by
 have m0:=h.md0
 have q:quietE ⟨2,g,s.md,-1,v,-1,false,false⟩=true:=rfl
 have i1:∀c,ins c (s.tr++[⟨2,g,s.md,-1,v,-1,false,false⟩])=ins c s.tr:=fun c=>by rw[ins_app,ins_none (l:=[_]) (fun e he=>by simp at he;subst he;exact (quiet_off q c).1),List.append_nil]
 have o1:∀c,outs c (s.tr++[⟨2,g,s.md,-1,v,-1,false,false⟩])=outs c s.tr:=fun c=>by rw[outs_app,outs_none (l:=[_]) (fun e he=>by simp at he;subst he;exact (quiet_off q c).2),List.append_nil]
 have im:ins s.md s.tr=[]:=ins_none fun e he=>(in_off (by have:=h.lt e he;omega)).1
 have om:outs s.md s.tr=[]:=outs_none fun e he=>(in_off (by have:=h.lt e he;omega)).2
 have nk:nth (s.nm.set k s.md) k=s.md:=by rw[nth_lt _ _ (by rw[List.length_set,h.l2];exact hk)];simp
 have nn:∀i,i<8→i≠k→nth (s.nm.set k s.md) i=nth s.nm i:=fun i hi hne=>by
  rw[nth_lt _ _ (by rw[List.length_set,h.l2];exact hi),nth_lt _ _ (by rw[h.l2];exact hi),List.getElem_set_ne (Ne.symm hne)]
 refine⟨by show (s.sts.set k _).length=8;rw[List.length_set];exact h.l1,by show (s.nm.set k _).length=8;rw[List.length_set];exact h.l2,by show 0≤s.md+1;omega,fun e he=>?_,fun i hi=>?_,fun i j hi hj e0 p0=>?_,fun i st hst=>?_,fun c=>?_⟩
 ·have he':e∈s.tr++[⟨2,g,s.md,-1,v,-1,false,false⟩]:=he
  rw[List.mem_append] at he'
  show e.c<s.md+1
  rcases he' with z|z
  ·have:=h.lt e z;omega
  ·simp at z;subst z;show s.md<s.md+1;omega
 ·show nth (s.nm.set k s.md) i<s.md+1
  by_cases e:i=k
  ·subst e;rw[nk];omega
  ·rw[nn i hi e];have:=h.nlt i hi;omega
 ·have e0':nth (s.nm.set k s.md) i=nth (s.nm.set k s.md) j:=e0
  have p0':0≤nth (s.nm.set k s.md) i:=p0
  by_cases ei:i=k
  ·by_cases ej:j=k
   ·omega
   ·subst ei
    rw[nk,nn j hj ej] at e0'
    have:=h.nlt j hj
    omega
  ·by_cases ej:j=k
   ·subst ej
    rw[nk,nn i hi ei] at e0'
    have:=h.nlt i hi
    omega
   ·rw[nn i hi ei,nn j hj ej] at e0'
    rw[nn i hi ei] at p0'
    exact h.inj i j hi hj e0' p0'
 ·have hst':(s.sts.set k (some (_root_.Go.Proofs.YtogkjaekfhjelaaGreat.Pi.st0 size.toNat)))[i]? =some (some st):=hst
  show 0≤nth (s.nm.set k s.md) i∧ins (nth (s.nm.set k s.md) i) (s.tr++[_])=outs (nth (s.nm.set k s.md) i) (s.tr++[_])++st.buf∧J st
  rw[i1,o1]
  rw[List.getElem?_set] at hst'
  split at hst'
  ·rename_i e
   subst e
   split at hst'
   ·simp at hst'
    subst hst'
    rw[nk,im,om]
    exact⟨m0,rfl,fun z=>absurd rfl z⟩
   ·cases hst'
  ·rename_i e
   have i8:i<8:=by have:=(List.getElem?_eq_some_iff.1 hst').1;rw[h.l1] at this;exact this
   rw[nn i i8 (fun z=>e z.symm)]
   exact h.ch i st hst'
 ·show ∃l,ins c (s.tr++[_])=outs c (s.tr++[_])++l
  rw[i1,o1]
  exact h.pre c
theorem VI.do_{s:Lm}(h:VI s)(g:Int)(o:OpD){n:Int}(ho:De.chk o n=0):VI (doF s g o):=by
 have m0:=h.md0
 obtain⟨hn,hk,-,ha,-,-,-⟩:=op_ok ho
 have neg:∀(e:Ev),e.c=-1→e.c<s.md:=fun e he=>by omega
 by_cases h1:o.kind=1
 ·unfold doF
  rw[if_pos h1]
  exact h.tell _ rfl rfl (Qt.refl _) rfl (neg _ rfl) rfl
 by_cases h2:o.kind=2
 ·unfold doF
  rw[if_neg h1,if_pos h2]
  have h8:o.a.toNat<8:=by rw[h2] at ha;simp[De.mA] at ha;omega
  exact h.opens o.a.toNat h8 o.b g o.b _
 by_cases h7:o.kind=7
 ·unfold doF
  rw[if_neg h1,if_neg h2,if_pos h7]
  exact h.tell _ rfl rfl (Qt.refl _) rfl (neg _ rfl) rfl
 by_cases h8:o.kind=8
 ·unfold doF
  rw[if_neg h1,if_neg h2,if_neg h7,if_pos h8]
  exact h.tell _ rfl rfl (Qt.refl _) rfl (neg _ rfl) rfl
 by_cases h9:o.kind=9
 ·unfold doF
  rw[if_neg h1,if_neg h2,if_neg h7,if_neg h8,if_pos h9]
  exact h.tell _ rfl rfl (Qt.refl _) rfl (neg _ rfl) rfl
 by_cases h3:o.kind=3
 ·unfold doF
  rw[if_neg h1,if_neg h2,if_neg h7,if_neg h8,if_neg h9,if_pos h3]
  have a8:o.a.toNat<8:=by rw[h3] at ha;simp[De.mA] at ha;omega
  split
  ·exact h.alone _ _ a8
  ·exact (h.alone _ _ a8).panic _
 by_cases h4:o.kind=4
 ·unfold doF
  rw[if_neg h1,if_neg h2,if_neg h7,if_neg h8,if_neg h9,if_neg h3,if_pos h4]
  have a8:o.a.toNat<8:=by rw[h4] at ha;simp[De.mA] at ha;omega
  exact h.alone _ _ a8
 by_cases h5:o.kind=5
 ·unfold doF
  rw[if_neg h1,if_neg h2,if_neg h7,if_neg h8,if_neg h9,if_neg h3,if_neg h4,if_pos h5]
  split
  ·exact h.closes _ _
  ·exact (h.closes _ _).panic _
 by_cases h6:o.kind=6
 ·unfold doF
  rw[if_neg h1,if_neg h2,if_neg h7,if_neg h8,if_neg h9,if_neg h3,if_neg h4,if_neg h5,if_pos h6]
  split
  ·exact h.choose _ _
  ·exact (h.choose _ _).panic _
 ·unfold doF
  rw[if_neg h1,if_neg h2,if_neg h7,if_neg h8,if_neg h9,if_neg h3,if_neg h4,if_neg h5,if_neg h6]
  exact h
theorem VI.plan{s:Lm}(h:VI s)(p:List Int):VI {s with p:=p}:=⟨h.l1,h.l2,h.md0,h.lt,h.nlt,h.inj,h.ch,h.pre⟩
theorem VI.new(sc:Sh.Sc):VI (newS sc):=by
 refine⟨rfl,rfl,Int.le_refl _,fun e he=>by simp[newS] at he,fun i hi=>?_,fun i j hi hj e0 p0=>?_,fun i st hst=>?_,fun c=>⟨[],rfl⟩⟩
 ·show nth (List.replicate 8 (-1)) i<0
  rw[nth_lt _ _ (by simpa using hi),List.getElem_replicate]
  decide
 ·have p0':0≤nth (List.replicate 8 (-1:Int)) i:=p0
  rw[nth_lt _ _ (by simpa using hi),List.getElem_replicate] at p0'
  omega
 ·have hst':(List.replicate 8 (none:Option St))[i]? =some (some st):=hst
  rw[List.getElem?_replicate] at hst'
  split at hst'<;>simp at hst'
theorem VI.steps{sc:Sh.Sc}(hs:Sh.schk sc=0):∀n,VI (stepsF n (newS sc))
 |0=>VI.new sc
 |n+1=>by
  have h:=VI.steps hs n
  rw[steps_succ]
  obtain⟨k,-,i,-⟩:=Inv.steps hs n
  generalize stepsF n (newS sc)=s at*
  unfold stepF
  split
  ·exact h
  ·split
   ·exact (h.plan _).tell _ rfl rfl (Qt.refl _) rfl (by have:=h.md0;show (-1:Int)<s.md;omega) rfl
   ·exact (h.plan _).do_ _ _ (op_chk hs i _)
end Lo
end Go.Proofs.YtogkjaekfhjelaaGreat
namespace Go.Proofs.YtogkjaekfhjelaaGreat
namespace Lo
open Ba
structure EI(s:Lm):Prop where
 sts:OkC s.sts
 tr:∀e∈s.tr,En.chk e=0
theorem EI.tell{s s':Lm}(h:EI s)(e:Ev)(hs:OkC s'.sts)(ht:s'.tr=s.tr)(he:En.chk e=0):EI (tellS s' e):=
 ⟨hs,fun x hx=>by
   have hx':x∈s'.tr++[e]:=hx
   rw[ht,List.mem_append] at hx'
   rcases hx' with q|q
   ·exact h.tr x q
   ·simp at q
    rw[q]
    exact he⟩
theorem EI.two{s s':Lm}(h:EI s)(e f:Ev)(hs:OkC s'.sts)(ht:s'.tr=s.tr++[e]++[f])(he:En.chk e=0)(hf:En.chk f=0):EI s':=
 ⟨hs,fun x hx=>by
   rw[ht,List.mem_append,List.mem_append] at hx
   rcases hx with (q|q)|q
   ·exact h.tr x q
   ·simp at q
    rw[q]
    exact he
   ·simp at q
    rw[q]
    exact hf⟩
theorem EI.sm{s s':Lm}(h:EI s)(hs:OkC s'.sts)(ht:s'.tr=s.tr):EI s':=⟨hs,fun x hx=>h.tr x (by rw[←ht];exact hx)⟩
theorem EI.try{s:Lm}(h:EI s)(g at_:Int)(c:Ca)(hg:gB g)(ha:aB at_)(hv:vB c.v)(hu:∀st,Fk.nmB s.sts c.ch=some st→gB (num s c.ch)):EI (tryF s g at_ c).s:=by
 cases hn:Fk.nmB s.sts c.ch with
 |none=>
  have e1:Fk.tryG s.sts c=_root_.Go.Proofs.YtogkjaekfhjelaaGreat.Pi.gz:=by unfold Fk.tryG;rw[hn]
  have e2:Fk.tryS s.sts c=s.sts:=by unfold Fk.tryS;rw[hn]
  unfold tryF
  rw[e1,e2,if_pos (by exact Or.inr rfl)]
  exact h.sm h.sts rfl
 |some st=>
  have hc:=hu st hn
  have os:=h.sts.nm hn
  have m0:(-1:Int)≤-1∧(-1:Int)≤511:=by decide
  have lift:∀{x:Int},gB x→-1≤x∧x≤511:=fun {x} q=>⟨by have:=q.1;omega,q.2⟩
  have eE:Fk.tryE s.sts c=if c.sd then _root_.Go.Proofs.YtogkjaekfhjelaaGreat.Pi.sendE st else 0:=by unfold Fk.tryE;rw[hn]
  have eG:Fk.tryG s.sts c=if c.sd then _root_.Go.Proofs.YtogkjaekfhjelaaGreat.Pi.sendG st else _root_.Go.Proofs.YtogkjaekfhjelaaGreat.Pi.recvG st:=by unfold Fk.tryG;rw[hn]
  have eS:Fk.tryS s.sts c=s.sts.set c.ch.toNat (some (if c.sd then _root_.Go.Proofs.YtogkjaekfhjelaaGreat.Pi.sendS st c.v else _root_.Go.Proofs.YtogkjaekfhjelaaGreat.Pi.recvS st)):=by unfold Fk.tryS;rw[hn]
  have o1:=os.snd
  have o2:=os.rcv
  have o3:=os.buf
  unfold tryF tryV servV
  rw[eE,eG,eS]
  cases hs:c.sd with
  |true=>
   simp only[if_true]
   unfold _root_.Go.Proofs.YtogkjaekfhjelaaGreat.Pi.sendE _root_.Go.Proofs.YtogkjaekfhjelaaGreat.Pi.sendG _root_.Go.Proofs.YtogkjaekfhjelaaGreat.Pi.sendS
   cases hcl:st.closed with
   |true=>
    rw[if_pos (by simp)]
    exact h.sm (h.sts.set os) rfl
   |false=>
    cases hr:st.rcv with
    |cons y t=>
     rw[hr] at o2
     have oy:=o2 y (by simp)
     simp only[Bool.false_eq_true,if_false]
     rw[if_neg (by simp),if_pos (by simp)]
     refine h.two _ _ ((h.sts.set ?_).leave _) rfl (ev_send hg hc ha hv (lift oy.1)) (ev_wake false oy.1 hc oy.2.1 hv hg)
     exact⟨o1,fun x hx=>o2 x (List.mem_cons_of_mem _ hx),o3⟩
    |nil=>
     simp only[Bool.false_eq_true,if_false]
     by_cases hl:st.buf.length<st.size
     ·simp only[if_pos hl]
      rw[if_neg (by simp),if_neg (by simp)]
      refine h.tell (s':={s with sts:=_,cr:=_}) _ (h.sts.set ?_) rfl (ev_send hg hc ha hv m0)
      refine⟨o1,fun x hx=>(by cases hx),fun x hx=>?_⟩
      simp at hx
      rcases hx with q|q
      ·exact o3 x q
      ·rw[q];exact hv
     ·simp only[if_neg hl]
      rw[if_pos (by exact Or.inr rfl)]
      exact h.sm (h.sts.set os) rfl
  |false=>
   simp only[Bool.false_eq_true,if_false]
   unfold _root_.Go.Proofs.YtogkjaekfhjelaaGreat.Pi.recvG _root_.Go.Proofs.YtogkjaekfhjelaaGreat.Pi.recvS
   cases hb:st.buf with
   |nil=>
    cases hq:st.snd with
    |nil=>
     simp only
     cases hcl:st.closed with
     |false=>
      rw[if_pos (by exact Or.inr rfl)]
      exact h.sm (h.sts.set os) rfl
     |true=>
      rw[if_neg (by simp),if_neg (by simp)]
      exact h.tell (s':={s with sts:=_,cr:=_}) _ (h.sts.set os) rfl (ev_recv0 hg hc ha)
    |cons y t=>
     rw[hq] at o1
     have oy:=o1 y (by simp)
     simp only
     rw[if_neg (by simp),if_pos (by simp)]
     refine h.two _ _ ((h.sts.set ?_).leave _) rfl (ev_recv hg hc ha oy.2.2 (lift oy.1)) (ev_wake true oy.1 hc oy.2.1 oy.2.2 hg)
     exact⟨fun x hx=>o1 x (List.mem_cons_of_mem _ hx),o2,fun x hx=>by cases hx⟩
   |cons x b=>
    rw[hb] at o3
    have ox:=o3 x (by simp)
    cases hq:st.snd with
    |nil=>
     simp only
     rw[if_neg (by simp),if_neg (by simp)]
     refine h.tell (s':={s with sts:=_,cr:=_}) _ (h.sts.set ?_) rfl (ev_recv hg hc ha ox m0)
     exact⟨fun z hz=>(by cases hz),o2,fun z hz=>o3 z (List.mem_cons_of_mem _ hz)⟩
    |cons y t=>
     rw[hq] at o1
     have oy:=o1 y (by simp)
     simp only
     rw[if_neg (by simp),if_pos (by simp)]
     refine h.two _ _ ((h.sts.set ?_).leave _) rfl (ev_recv hg hc ha ox (lift oy.1)) (ev_wake true oy.1 hc oy.2.1 oy.2.2 hg)
     refine⟨fun z hz=>o1 z (List.mem_cons_of_mem _ hz),o2,fun z hz=>?_⟩
     simp at hz
     rcases hz with q|q
     ·exact o3 z (by simp[q])
     ·rw[q];exact oy.2.2
end Lo
open Go.ChangeShapes Go.WideShapes Go.ChangeAt Go.RowKit
namespace Sh
open De Ba Re
def bar(l:List Int):List Int:=l.filter fun n=>!(n==-1)
end Sh
namespace Sh
open De Ba Re
end Sh
namespace Sh
open De Ba Re
end Sh
namespace Sh
open De Ba Re
def Held(ps:List (List OpD)):Prop:=∀q∈ps,∀o∈q,o.cases.length≤140737488355328
end Sh
namespace Sh
open De Ba Re
end Sh
namespace Sh
open De Ba Re
end Sh
namespace Sh
open De Ba Re
section
variable {H:Type}{enc:TypeId × Value→H}{w:World}
def WL(t:TypeId)(d:DataW H):Prop:=∀m∈d.weights Tryz.prog t,m≤reachBytes
theorem mem_all{e:TypeId}:∀{l:List (DataW H)} {d:DataW H},d∈l→∀n∈d.weights Tryz.prog e,n∈DataW.weightsAll Tryz.prog e l
 |d'::r,d,hd,n,hn=>by
  simp only[DataW.weightsAll,List.mem_append]
  rcases List.mem_cons.1 hd with rfl|h
  ·exact Or.inl hn
  ·exact Or.inr (mem_all h n hn)
theorem WL.field{t:TypeId}{fs:Array Field}{xs:List (DataW H × List MemPlace)}{j:Nat}{f:Field}{y:DataW H × List MemPlace}(hu:Tryz.prog.underlying t=some (.struct fs))(hf:fs[j]? =some f)(hx:xs[j]? =some y)(hz:WL t (DataW.agg (xs.map (·.1)))):WL f.type y.1:=by
 intro m hm
 apply hz
 simp only[DataW.weights,hu]
 refine DataW.weights_mem_each (j:=j) ?_ ?_ m hm
 ·rw[List.getElem?_map,Array.getElem?_toList,hf]
  rfl
 ·rw[List.getElem?_map,hx]
  rfl
theorem WL.elem{t e:TypeId}{l sp:List (DataW H)}(hu:Tryz.prog.underlying t=some (.slice e))(hz:WL t (DataW.slice l sp)):(l.length+sp.length)*Tryz.prog.bytesOf e≤reachBytes∧∀d∈l,WL e d:=by
 unfold WL at hz
 simp only[DataW.weights,hu] at hz
 exact⟨hz _ (List.mem_cons_self ..),fun d hd m hm=>hz _ (List.mem_cons_of_mem _ (List.mem_append_left _ (mem_all hd m hm)))⟩
theorem WL.elemAt{t e:TypeId}{len:Nat}{D:Nat→DataW H}{sp:List (DataW H)}(hu:Tryz.prog.underlying t=some (.slice e))(hz:WL t (DataW.slice ((List.range len).map D) sp))(i:Nat)(hi:i<len):WL e (D i):=
 (hz.elem hu).2 _ (List.mem_map.2 ⟨i,List.mem_range.2 hi,rfl⟩)
theorem bytes_case:Tryz.prog.bytesOf 108=24:=by kernel_rfl
theorem cells_pr:Tryz.prog.cellsOf 43=1:=by kernel_rfl
theorem cells_prs:Tryz.prog.cellsOf 22=1:=by kernel_rfl
theorem cells_ints:Tryz.prog.cellsOf 23=1:=by kernel_rfl
theorem cells_sc:Tryz.prog.cellsOf 25=5:=by kernel_rfl
theorem cases_held{n:Nat}{v:Value}{x:DataW H × List MemPlace}(h:DataW.trod enc Tryz.prog w 0 (fun _=>true) true n 44 [v]=some x)(hz:WL 44 x.1):∃(l:List Cs) (oa:Option Addr) (c:Nat),v=.slice oa l.length c∧CAt w oa l∧l.length≤maxLen∧l.length≤140737488355328:=by
 obtain⟨l,oa,c,rfl,hA,hm⟩:=cases_open h
 refine⟨l,oa,c,rfl,hA,hm,?_⟩
 rcases Go.Deep.open_slice Tryz.underlying44 h with⟨hcs,_⟩|⟨a,len,cap,m,n',D,Pl,hcs,_,hl,_,hmm,hx,_⟩
 ·simp at hcs
  have:=hcs.2.1
  simp[this]
 ·simp at hcs
  obtain⟨_,e,_⟩:=hcs
  rw[hx] at hz
  have:=(WL.elem Tryz.underlying44 hz).1
  rw[bytes_case] at this
  simp[reachBytes] at this
  omega
theorem op_held{n:Nat}{cs:List Value}{x:DataW H × List MemPlace}(h:DataW.trod enc Tryz.prog w 0 (fun _=>true) true n 46 cs=some x)(hz:WL 46 x.1):
 ∃(o:OpD) (oa:Option Addr) (c:Nat),(cs[0]? =some (.int .i64 o.kind)∧cs[1]? =some (.int .i64 o.a)∧cs[2]? =some (.int .i64 o.b)∧cs[3]? =some (.slice oa o.cases.length c)∧cs[4]? =some (.bool o.def_))∧CAt w oa o.cases∧o.cases.length≤maxLen∧o.cases.length≤140737488355328:=by
 obtain⟨fs,hu,hsz,field5_0,field5_1,field5_2,field5_3,field5_4⟩:=fields5
 obtain⟨xs,k,_,hxx,hcl,hxl,hff⟩:=DataW.trod_struct hu h
 rw[hxx] at hz
 rw[hsz] at hxl
 rw[cells_op] at hcl
 obtain⟨f0,g0,o0,t0⟩:=field5_0
 have h0:=hff 0 f0 g0
 rw[o0,t0,De.cells_int] at h0
 obtain⟨f1,g1,o1,t1⟩:=field5_1
 have h1:=hff 1 f1 g1
 rw[o1,t1,De.cells_int] at h1
 obtain⟨f2,g2,o2,t2⟩:=field5_2
 have h2:=hff 2 f2 g2
 rw[o2,t2,De.cells_int] at h2
 obtain⟨f3,g3,o3,t3⟩:=field5_3
 have h3:=hff 3 f3 g3
 rw[o3,t3,cells_cases] at h3
 obtain⟨f4,g4,o4,t4⟩:=field5_4
 have h4:=hff 4 f4 g4
 rw[o4,t4,cells_bool] at h4
 have x3:xs[3]? =some xs[3]:=List.getElem?_eq_getElem (by omega)
 have z3:=WL.field hu g3 x3 hz
 rw[t3] at z3
 rw[x3] at h3
 rw[List.getElem?_eq_getElem (by omega)] at h0 h1 h2 h4
 obtain⟨i0,e0,_⟩:=DataW.trod_int Tryz.underlying3 h0
 obtain⟨i1,e1,_⟩:=DataW.trod_int Tryz.underlying3 h1
 obtain⟨i2,e2,_⟩:=DataW.trod_int Tryz.underlying3 h2
 obtain⟨i4,e4,_⟩:=DataW.trod_bool Tryz.underlying4 h4
 have hq:∃z,(cs.drop 3).take 1=[z]:=by
  have hl:((cs.drop 3).take 1).length=1:=by simp;omega
  match hq:(cs.drop 3).take 1,hl with
  |[z],_=>exact⟨z,rfl⟩
 obtain⟨z,e3⟩:=hq
 rw[e3] at h3
 obtain⟨l,oa,c,rfl,hA,hm,hb⟩:=cases_held h3 z3
 exact⟨⟨i0,i1,i2,l,i4⟩,oa,c,⟨De.one_of e0,De.one_of e1,De.one_of e2,De.one_of e3,De.one_of e4⟩,hA,hm,hb⟩
theorem ops_held{n:Nat}{v:Value}{x:DataW H × List MemPlace}(h:DataW.trod enc Tryz.prog w 0 (fun _=>true) true n 43 [v]=some x)(hz:WL 43 x.1):∃(l:List OpD) (oa:Option Addr) (c:Nat),v=.slice oa l.length c∧OAt w oa l∧l.length≤maxLen∧∀o∈l,o.cases.length≤140737488355328:=by
 rcases Go.Deep.open_slice Tryz.underlying43 h with⟨hcs,_⟩|⟨a,len,cap,m,n',D,Pl,hcs,_,hl,hm,hmm,hx,hel⟩
 ·simp at hcs
  subst hcs
  exact⟨[],none,0,rfl,OAt.nil _ _,Nat.zero_le _,fun o ho=>by cases ho⟩
 ·simp at hcs
  subst hcs
  have hmc:m=cap:=by simpa using hmm
  subst hmc
  rw[hx] at hz
  have key:∀i,i<len→∃o:OpD,(∃ca cc,(w.cell? ((a.add (i*5)).add 0)=some (.int .i64 o.kind)∧w.cell? ((a.add (i*5)).add 1)=some (.int .i64 o.a)∧w.cell? ((a.add (i*5)).add 2)=some (.int .i64 o.b)∧w.cell? ((a.add (i*5)).add 3)=some (.slice ca o.cases.length cc)∧w.cell? ((a.add (i*5)).add 4)=some (.bool o.def_))∧CAt w ca o.cases)∧o.cases.length≤maxLen∧o.cases.length≤140737488355328:=by
   intro i hi
   obtain⟨cs',h1,h2⟩:=hel i (by omega)
   rw[cells_op] at h1
   obtain⟨_,_,hcell⟩:=World.cells?_some h1
   obtain⟨o,ca,cc,⟨q0,q1,q2,q3,q4⟩,hC,hM,hB⟩:=op_held h2 (WL.elemAt Tryz.underlying43 hz i hi)
   exact⟨o,⟨ca,cc,⟨(hcell 0 (by decide)).trans q0,(hcell 1 (by decide)).trans q1,(hcell 2 (by decide)).trans q2,(hcell 3 (by decide)).trans q3,(hcell 4 (by decide)).trans q4⟩,hC⟩,hM,hB⟩
  have fam:∃f:Nat→OpD,∀i,i<len→(∃ca cc,(w.cell? ((a.add (i*5)).add 0)=some (.int .i64 (f i).kind)∧w.cell? ((a.add (i*5)).add 1)=some (.int .i64 (f i).a)∧w.cell? ((a.add (i*5)).add 2)=some (.int .i64 (f i).b)∧w.cell? ((a.add (i*5)).add 3)=some (.slice ca (f i).cases.length cc)∧w.cell? ((a.add (i*5)).add 4)=some (.bool (f i).def_))∧CAt w ca (f i).cases)∧(f i).cases.length≤maxLen∧(f i).cases.length≤140737488355328:=by
   refine⟨fun i=>if hi:i<len then Classical.choose (key i hi) else⟨0,0,0,[],false⟩,fun i hi=>?_⟩
   simp only[dif_pos hi]
   exact Classical.choose_spec (key i hi)
  obtain⟨f,hf⟩:=fam
  have hlen:((List.range len).map f).length=len:=by simp
  refine⟨(List.range len).map f,some a,m,by rw[hlen],?_,by rw[hlen];omega,?_⟩
  ·intro k o hk
   have hk2:k<len:=by
    have:=(List.getElem?_eq_some_iff.1 hk).1
    simpa using this
   have hc:o=f k:=by
    simp[hk2] at hk
    exact hk.symm
   subst hc
   obtain⟨⟨ca,cc,⟨q0,q1,q2,q3,q4⟩,hC⟩,hM,_⟩:=hf k hk2
   have hspot:a.spot=none:=by
    obtain⟨⟨_,_,⟨p0,_⟩,_⟩,_⟩:=hf 0 (by omega)
    have:=World.cell?_spot p0
    simpa [Addr.add] using this
   obtain⟨b,off,spot⟩:=a
   simp at hspot
   subst hspot
   rw[Addr.add_lit,Addr.add_lit] at q0 q1 q2 q3 q4
   exact⟨b,off,ca,cc,rfl,⟨q0,q1,q2,q3,q4⟩,hC,hM⟩
  ·intro o ho
   obtain⟨i,hi,rfl⟩:=List.mem_map.1 ho
   exact (hf i (List.mem_range.1 hi)).2.2
theorem progs_held{n:Nat}{v:Value}{x:DataW H × List MemPlace}(h:DataW.trod enc Tryz.prog w 0 (fun _=>true) true n 22 [v]=some x)(hz:WL 22 x.1):∃(l:List (List OpD)) (oa:Option Addr) (c:Nat),v=.slice oa l.length c∧PAt w oa l∧l.length≤maxLen∧Held l:=by
 rcases Go.Deep.open_slice Tryz.underlying22 h with⟨hcs,_⟩|⟨a,len,cap,m,n',D,Pl,hcs,_,hl,hm,hmm,hx,hel⟩
 ·simp at hcs
  subst hcs
  exact⟨[],none,0,rfl,PAt.nil _ _,Nat.zero_le _,fun o ho=>by cases ho⟩
 ·simp at hcs
  subst hcs
  have hmc:m=cap:=by simpa using hmm
  subst hmc
  rw[hx] at hz
  have key:∀i,i<len→∃q:List OpD,(∃ca cc,w.cell? ((a.add (i*1)).add 0)=some (.slice ca q.length cc)∧OAt w ca q)∧q.length≤maxLen∧∀o∈q,o.cases.length≤140737488355328:=by
   intro i hi
   obtain⟨cs',h1,h2⟩:=hel i (by omega)
   rw[cells_pr] at h1
   obtain⟨_,hlc,hcell⟩:=World.cells?_some h1
   match cs',hlc,h2,hcell with
   |[z],_,h2,hcell=>
    obtain⟨q,ca,cc,rfl,hO,hM,hB⟩:=ops_held h2 (WL.elemAt Tryz.underlying22 hz i hi)
    exact⟨q,⟨ca,cc,(hcell 0 (by decide)).trans rfl,hO⟩,hM,hB⟩
  have fam:∃f:Nat→List OpD,∀i,i<len→(∃ca cc,w.cell? ((a.add (i*1)).add 0)=some (.slice ca (f i).length cc)∧OAt w ca (f i))∧(f i).length≤maxLen∧∀o∈f i,o.cases.length≤140737488355328:=by
   refine⟨fun i=>if hi:i<len then Classical.choose (key i hi) else [],fun i hi=>?_⟩
   simp only[dif_pos hi]
   exact Classical.choose_spec (key i hi)
  obtain⟨f,hf⟩:=fam
  have hlen:((List.range len).map f).length=len:=by simp
  refine⟨(List.range len).map f,some a,m,by rw[hlen],?_,by rw[hlen];omega,?_⟩
  ·intro k o hk
   have hk2:k<len:=by
    have:=(List.getElem?_eq_some_iff.1 hk).1
    simpa using this
   have hc:o=f k:=by
    simp[hk2] at hk
    exact hk.symm
   subst hc
   obtain⟨⟨ca,cc,q0,hC⟩,hM,_⟩:=hf k hk2
   have hspot:a.spot=none:=by
    obtain⟨⟨_,_,p0,_⟩,_⟩:=hf 0 (by omega)
    have:=World.cell?_spot p0
    simpa [Addr.add] using this
   obtain⟨b,off,spot⟩:=a
   simp at hspot
   subst hspot
   rw[Addr.add_lit,Addr.add_lit,Nat.mul_one,Nat.add_zero] at q0
   exact⟨b,off,ca,cc,rfl,q0,hC,hM⟩
  ·intro q hq
   obtain⟨i,hi,rfl⟩:=List.mem_map.1 hq
   exact (hf i (List.mem_range.1 hi)).2.2
theorem ints_held{n:Nat}{v:Value}{x:DataW H × List MemPlace}(h:DataW.trod enc Tryz.prog w 0 (fun _=>true) true n 23 [v]=some x):∃(l:List Int) (oa:Option Addr) (c:Nat),v=.slice oa l.length c∧At w oa l∧l.length≤maxLen:=by
 have hv:∃oa len cap,v=.slice oa len cap:=by
  rcases Go.Deep.open_slice Tryz.underlying23 h with⟨hcs,_⟩|⟨a,len,cap,m,n',D,Pl,hcs,_⟩
  ·simp at hcs;exact⟨_,_,_,hcs⟩
  ·simp at hcs;exact⟨_,_,_,hcs⟩
 obtain⟨oa,len,cap,rfl⟩:=hv
 obtain⟨l,rfl,hA,h1,h2⟩:=ints_open h
 exact⟨l,oa,cap,rfl,hA,by omega⟩
theorem fieldsS:∃fs:Array Field,Tryz.prog.underlying 25=some (.struct fs)∧fs.size=5∧(∃f,fs[0]? =some f∧f.offset=0∧f.type=3)∧(∃f,fs[1]? =some f∧f.offset=1∧f.type=3)∧(∃f,fs[2]? =some f∧f.offset=2∧f.type=22)∧(∃f,fs[3]? =some f∧f.offset=3∧f.type=23)∧(∃f,fs[4]? =some f∧f.offset=4∧f.type=23):=
 ⟨_,Tryz.underlying25,rfl,⟨_,rfl,rfl,rfl⟩,⟨_,rfl,rfl,rfl⟩,⟨_,rfl,rfl,rfl⟩,⟨_,rfl,rfl,rfl⟩,⟨_,rfl,rfl,rfl⟩⟩
theorem one_in{cs:List Value}(hcl:cs.length=5)(j:Nat)(hj:j<5):∃z,(cs.drop j).take 1=[z]:=by
 have hl:((cs.drop j).take 1).length=1:=by simp;omega
 match hq:(cs.drop j).take 1,hl with
 |[z],_=>exact⟨z,rfl⟩
set_option maxRecDepth 100000 in
theorem script_open{n:Nat}{v:Value}{x:DataW H × List MemPlace}(h:DataW.trod enc Tryz.prog w 0 (fun _=>true) true n 25 v.cells.toList=some x)(hz:WL 25 x.1):
 ∃(T M:Int) (ps:List (List OpD)) (pl dr:List Int) (pa la da:Option Addr) (pc lc dc:Nat),v=.agg #[.int .i64 T,.int .i64 M,.slice pa ps.length pc,.slice la pl.length lc,.slice da dr.length dc]∧SAt w ⟨T,M,ps,pl,dr⟩ pa la da∧Held ps:=by
 obtain⟨fs,hu,hsz,field5_0,field5_1,field5_2,field5_3,field5_4⟩:=fieldsS
 obtain⟨xs,k,_,hxx,hcl,hxl,hff⟩:=DataW.trod_struct hu h
 rw[hxx] at hz
 rw[hsz] at hxl
 rw[cells_sc] at hcl
 obtain⟨f0,g0,o0,t0⟩:=field5_0
 have h0:=hff 0 f0 g0
 rw[o0,t0,De.cells_int] at h0
 obtain⟨f1,g1,o1,t1⟩:=field5_1
 have h1:=hff 1 f1 g1
 rw[o1,t1,De.cells_int] at h1
 obtain⟨f2,g2,o2,t2⟩:=field5_2
 have h2:=hff 2 f2 g2
 rw[o2,t2,cells_prs] at h2
 obtain⟨f3,g3,o3,t3⟩:=field5_3
 have h3:=hff 3 f3 g3
 rw[o3,t3,cells_ints] at h3
 obtain⟨f4,g4,o4,t4⟩:=field5_4
 have h4:=hff 4 f4 g4
 rw[o4,t4,cells_ints] at h4
 have x2:xs[2]? =some xs[2]:=List.getElem?_eq_getElem (by omega)
 have z2:=WL.field hu g2 x2 hz
 rw[t2] at z2
 rw[x2] at h2
 rw[List.getElem?_eq_getElem (by omega)] at h0 h1 h3 h4
 obtain⟨T,e0,_⟩:=DataW.trod_int Tryz.underlying3 h0
 obtain⟨M,e1,_⟩:=DataW.trod_int Tryz.underlying3 h1
 obtain⟨y2,e2⟩:=one_in hcl 2 (by decide)
 obtain⟨y3,e3⟩:=one_in hcl 3 (by decide)
 obtain⟨y4,e4⟩:=one_in hcl 4 (by decide)
 rw[e2] at h2
 rw[e3] at h3
 rw[e4] at h4
 obtain⟨ps,pa,pc,rfl,hP,m1,hH⟩:=progs_held h2 z2
 obtain⟨pl,la,lc,rfl,hL,m2⟩:=ints_held h3
 obtain⟨dr,da,dc,rfl,hD,m3⟩:=ints_held h4
 refine⟨T,M,ps,pl,dr,pa,la,da,pc,lc,dc,?_,⟨hP,hL,hD,m1,m2,m3⟩,hH⟩
 have hc:v.cells=#[.int .i64 T,.int .i64 M,.slice pa ps.length pc,.slice la pl.length lc,.slice da dr.length dc]:=by
  apply Array.toList_inj.1
  have q0:=De.one_of e0
  have q1:=De.one_of e1
  have q2:=De.one_of e2
  have q3:=De.one_of e3
  have q4:=De.one_of e4
  generalize v.cells.toList=L at*
  match L,hcl with
  |[y0,y1,y2,y3,y4],_=>
   simp at q0 q1 q2 q3 q4
   simp[q0,q1,q2,q3,q4]
 cases v with
 |agg cs=>rw[←hc];rfl
 |_=>have:=congrArg Array.size hc;simp[Value.cells] at this
end
end Sh
namespace Sh
open De Ba Re
end Sh
end Go.Proofs.YtogkjaekfhjelaaGreat
namespace Go.Proofs.YtogkjaekfhjelaaGreat
namespace Lo
open Ba
def pre(t:List Ev)(p:List Int)(s:Lm):Lm:={s with p:=p,tr:=t++s.tr}
section
variable (t:List Ev)(p:List Int)
theorem do_is1(s:Lm)(g:Int)(o:OpD)(h:o.kind=1):doF s g o=(goS {s with cr:=Cr.spL s.cr o.a} ⟨1,g,-1,-1,o.a,Cr.spV s.cr o.a,false,false⟩):=by
 unfold doF
 rw[if_pos h]
theorem do_is2(s:Lm)(g:Int)(o:OpD)(h:o.kind=2):doF s g o=(goS (opensS s o.a o.b) ⟨2,g,s.md,-1,o.b,-1,false,false⟩):=by
 unfold doF
 rw[if_neg (by omega),if_pos h]
theorem do_is7(s:Lm)(g:Int)(o:OpD)(h:o.kind=7):doF s g o=(goS s ⟨9,g,-1,-1,o.a,-1,false,false⟩):=by
 unfold doF
 rw[if_neg (by omega),if_neg (by omega),if_pos h]
theorem do_is8(s:Lm)(g:Int)(o:OpD)(h:o.kind=8):doF s g o=(goS s ⟨10,g,-1,-1,o.a,-1,false,false⟩):=by
 unfold doF
 rw[if_neg (by omega),if_neg (by omega),if_neg (by omega),if_pos h]
theorem do_is9(s:Lm)(g:Int)(o:OpD)(h:o.kind=9):doF s g o=(tellS {s with cr:=Cr.chL s.cr g 0 2 0} (bareE 11 g)):=by
 unfold doF
 rw[if_neg (by omega),if_neg (by omega),if_neg (by omega),if_neg (by omega),if_pos h]
theorem do_is3(s:Lm)(g:Int)(o:OpD)(h:o.kind=3):doF s g o=(if (aloneF s g ⟨true,o.a,o.b⟩).fine then (aloneF s g ⟨true,o.a,o.b⟩).s else panicS (aloneF s g ⟨true,o.a,o.b⟩).s g):=by
 unfold doF
 rw[if_neg (by omega),if_neg (by omega),if_neg (by omega),if_neg (by omega),if_neg (by omega),if_pos h]
theorem do_is4(s:Lm)(g:Int)(o:OpD)(h:o.kind=4):doF s g o=((aloneF s g ⟨false,o.a,0⟩).s):=by
 unfold doF
 rw[if_neg (by omega),if_neg (by omega),if_neg (by omega),if_neg (by omega),if_neg (by omega),if_neg (by omega),if_pos h]
theorem do_is5(s:Lm)(g:Int)(o:OpD)(h:o.kind=5):doF s g o=(if (closesF s g o.a).who=-1 then (closesF s g o.a).s else panicS (closesF s g o.a).s (closesF s g o.a).who):=by
 unfold doF
 rw[if_neg (by omega),if_neg (by omega),if_neg (by omega),if_neg (by omega),if_neg (by omega),if_neg (by omega),if_neg (by omega),if_pos h]
theorem do_is6(s:Lm)(g:Int)(o:OpD)(h:o.kind=6):doF s g o=(if (chooseF s g o).fine then (chooseF s g o).s else panicS (chooseF s g o).s g):=by
 unfold doF
 rw[if_neg (by omega),if_neg (by omega),if_neg (by omega),if_neg (by omega),if_neg (by omega),if_neg (by omega),if_neg (by omega),if_neg (by omega),if_pos h]
theorem do_is0(s:Lm)(g:Int)(o:OpD)(h1:o.kind≠1)(h2:o.kind≠2)(h7:o.kind≠7)(h8:o.kind≠8)(h9:o.kind≠9)(h3:o.kind≠3)(h4:o.kind≠4)(h5:o.kind≠5)(h6:o.kind≠6):doF s g o=s:=by
 unfold doF
 rw[if_neg h1,if_neg h2,if_neg h7,if_neg h8,if_neg h9,if_neg h3,if_neg h4,if_neg h5,if_neg h6]
end
def nk(e:Ev):Bool:=!(e.k==13)
def er(s:Lm):Lm:={s with p:=Sh.bar s.p,tr:=s.tr.filter nk}
end Lo
end Go.Proofs.YtogkjaekfhjelaaGreat
namespace Go.Proofs.YtogkjaekfhjelaaGreat
namespace Lo
open Ba
theorem EI.alone{s:Lm}(h:EI s)(g:Int)(c:Ca)(hg:gB g)(hv:vB c.v)(h0:c.sd=false→c.v=0)(hu:∀st,Fk.nmB s.sts c.ch=some st→gB (num s c.ch))(hn:-1≤num s c.ch∧num s c.ch≤511):EI (aloneF s g c).s:=by
 have h1:=h.try g (-1) c hg (by unfold aB;omega) hv hu
 unfold aloneF
 split
 ·exact h1
 ·exact h1.tell _ (h1.sts.wait c g hg hv) rfl (ev_wait c.sd hg hn hv h0)
theorem EI.draw{s:Lm}(h:EI s)(d:List Int):EI {s with d:=d}:=⟨h.sts,h.tr⟩
theorem EI.plan{s:Lm}(h:EI s)(p:List Int):EI {s with p:=p}:=⟨h.sts,h.tr⟩
theorem nth_rdy(l:List Ca)(sts:List (Option St))(hl:l.length≤4)(k:Nat):aB (nth (Fk.rdyL l sts) k):=by
 by_cases hk:k<(Fk.rdyL l sts).length
 ·obtain⟨p,hp,hpl,-⟩:=ps_at (P:=fun i=>match l[i]? with|none=>false|some c=>Fk.crdy sts c) (n:=l.length) hk
  have e:nth (Fk.rdyL l sts) k=(p:Int):=hp
  rw[e]
  unfold aB
  omega
 ·have e:nth (Fk.rdyL l sts) k=0:=by
   unfold nth
   rw[List.getD_eq_getElem?_getD,List.getElem?_eq_none (by omega)]
   rfl
  rw[e]
  unfold aB
  omega
theorem caseAt_v(o:OpD)(hv:∀c∈cas o,vB c.v)(i:Int):vB (caseAt o i).v:=by
 unfold caseAt
 cases h:(cas o)[i.toNat]? with
 |none=>show vB 0;unfold vB;omega
 |some c=>exact hv c (List.mem_of_getElem? h)
theorem EI.choose{s:Lm}(h:EI s)(g:Int)(o:OpD)(hg:gB g)(h4:o.cases.length≤4)(hv:∀c∈cas o,vB c.v)(hu:∀c st,Fk.nmB s.sts c=some st→gB (num s c)):EI (chooseF s g o).s:=by
 have hl:(cas o).length≤4:=by unfold cas;rw[List.length_map];exact h4
 unfold chooseF
 split
 ·exact (h.draw _).try _ _ _ hg (nth_rdy _ _ hl _) (caseAt_v o hv _) (fun st e=>hu _ st e)
 ·split
  ·exact h.tell _ h.sts rfl (ev_bare (.inl rfl) hg)
  ·exact h.tell _ (h.sts.pkA g _ hg hl hv) rfl (ev_waits hg ⟨by omega,by omega⟩)
theorem EI.all(g c:Int)(hg:gB g)(hc:gB c):∀(l:List Wt) {s:Lm},(∀x∈l,okW x)→EI s→EI (wakeAll g c s l)
 |[],_,_,h=>h
 |x::l,s,hl,h=>by
  have ox:=hl x (by simp)
  show EI (wakeAll g c (if parked s x.g then _ else s) l)
  split
  ·exact EI.all g c hg hc l (fun y hy=>hl y (List.mem_cons_of_mem _ hy)) (h.tell (s':={s with sts:=Fk.leaveS x.g s.sts,cr:=Cr.chL s.cr x.g 1 0 1}) ⟨7,x.g,c,x.c,0,g,false,false⟩ (h.sts.leave _) rfl (ev_wake0 ox.1 hc ox.2.1 hg))
  ·exact EI.all g c hg hc l (fun y hy=>hl y (List.mem_cons_of_mem _ hy)) h
theorem first_ok(s:Lm):∀(l:List Wt),(∀x∈l,okW x)→first s l=-1∨gB (first s l)
 |[],_=>.inl rfl
 |x::l,hl=>by
  show (if parked s x.g then x.g else first s l)=-1∨gB (if parked s x.g then x.g else first s l)
  split
  ·exact .inr (hl x (by simp)).1
  ·exact first_ok s l (fun y hy=>hl y (List.mem_cons_of_mem _ hy))
theorem EI.closes{s:Lm}(h:EI s)(g k:Int)(hg:gB g)(hu:∀c st,Fk.nmB s.sts c=some st→gB (num s c)):EI (closesF s g k).s∧((closesF s g k).who=-1∨gB (closesF s g k).who):=by
 unfold closesF
 split
 ·exact⟨h,.inr hg⟩
 ·rename_i st e
  split
  ·exact⟨h,.inr hg⟩
  ·have hc:=hu k st e
   have os:=h.sts.nm e
   exact⟨EI.all _ _ hg hc _ os.rcv (h.tell _ (h.sts.set os.close) rfl (ev_close hg hc)),first_ok _ _ os.snd⟩
theorem EI.panic{s:Lm}(h:EI s)(g:Int)(hg:gB g):EI (panicS s g):=h.tell (s':={s with pk:=true}) _ h.sts rfl (ev_bare (.inr (.inr rfl)) hg)
def NL(s:Lm):Prop:=∀i,i<8→-1≤nth s.nm i
theorem EI.do_{s:Lm}(h:EI s)(v:VI s)(nl:NL s)(g:Int)(o:OpD){n:Int}(hg:gB g)(ho:De.chk o n=0)(hcr:s.cr.length≤511)(hmd:s.md≤511):EI (doF s g o):=by
 obtain⟨hn,hk,h4,ha,hb,-,hcs⟩:=op_ok ho
 have m0:=v.md0
 have hu:∀c st,Fk.nmB s.sts c=some st→gB (num s c):=fun c st e=>by
  have:=v.nmd e
  unfold gB
  omega
 have hnum:∀a:Int,a.toNat<8→num s a≤511:=fun a h8=>by
  have:=v.nlt _ h8
  unfold num
  omega
 have hcas:∀c∈cas o,vB c.v:=fun c hc=>by
  unfold cas at hc
  rw[List.mem_map] at hc
  obtain⟨x,hx,rfl⟩:=hc
  exact (hcs x hx).2
 by_cases h1:o.kind=1
 ·rw[do_is1 _ _ _ h1]
  have ha7:0≤o.a∧o.a≤7:=by rw[h1] at ha;simp[De.mA] at ha;omega
  refine h.tell (s':={s with cr:=_}) _ h.sts rfl (ev_spawn hg ha7 ?_)
  unfold Cr.spV gB
  rw[if_neg (by omega),if_neg (by omega)]
  omega
 by_cases h2:o.kind=2
 ·rw[do_is2 _ _ _ h2]
  have hb4:0≤o.b∧o.b≤4:=by rw[h2] at hb;simp[De.mB] at hb;omega
  exact h.tell (s':={opensS s o.a o.b with cr:=_}) _ (h.sts.set (OkS.new _)) rfl (ev_make hg ⟨m0,hmd⟩ hb4)
 by_cases h7:o.kind=7
 ·rw[do_is7 _ _ _ h7]
  have ha7:0≤o.a∧o.a≤7:=by rw[h7] at ha;simp[De.mA] at ha;omega
  exact h.tell (s':={s with cr:=_}) _ h.sts rfl (ev_cell (.inl rfl) hg ha7)
 by_cases h8:o.kind=8
 ·rw[do_is8 _ _ _ h8]
  have ha7:0≤o.a∧o.a≤7:=by rw[h8] at ha;simp[De.mA] at ha;omega
  exact h.tell (s':={s with cr:=_}) _ h.sts rfl (ev_cell (.inr rfl) hg ha7)
 by_cases h9:o.kind=9
 ·rw[do_is9 _ _ _ h9]
  exact h.tell (s':={s with cr:=_}) _ h.sts rfl (ev_bare (.inr (.inl rfl)) hg)
 have low:∀a:Int,a.toNat<8→-1≤num s a:=fun a h8=>nl _ h8
 by_cases h3:o.kind=3
 ·rw[do_is3 _ _ _ h3]
  have a8:o.a.toNat<8:=by rw[h3] at ha;simp[De.mA] at ha;omega
  have hb9:vB o.b:=by rw[h3] at hb;simp[De.mB] at hb;exact hb
  have q:=h.alone g ⟨true,o.a,o.b⟩ hg hb9 (by simp) (fun st e=>hu _ st e) ⟨low _ a8,hnum _ a8⟩
  split
  ·exact q
  ·exact q.panic _ hg
 by_cases h4':o.kind=4
 ·rw[do_is4 _ _ _ h4']
  have a8:o.a.toNat<8:=by rw[h4'] at ha;simp[De.mA] at ha;omega
  exact h.alone g ⟨false,o.a,0⟩ hg (by unfold vB;simp) (fun _=>rfl) (fun st e=>hu _ st e) ⟨low _ a8,hnum _ a8⟩
 by_cases h5:o.kind=5
 ·rw[do_is5 _ _ _ h5]
  obtain⟨q,w⟩:=h.closes g o.a hg hu
  split
  ·exact q
  ·rename_i z
   rcases w with w|w
   ·exact absurd w z
   ·exact q.panic _ w
 by_cases h6:o.kind=6
 ·rw[do_is6 _ _ _ h6]
  have q:=h.choose g o hg h4 hcas hu
  split
  ·exact q
  ·exact q.panic _ hg
 rw[do_is0 _ _ _ h1 h2 h7 h8 h9 h3 h4' h5 h6]
 exact h
end Lo
end Go.Proofs.YtogkjaekfhjelaaGreat
namespace Go.Proofs.YtogkjaekfhjelaaGreat
namespace Lo
open Ba
theorem alone_nm(s:Lm)(g:Int)(c:Ca):(aloneF s g c).s.nm=s.nm:=by
 unfold aloneF
 split
 ·exact (try_nm s g (-1) c).1
 ·exact (try_nm s g (-1) c).1
theorem choose_nm(s:Lm)(g:Int)(o:OpD):(chooseF s g o).s.nm=s.nm:=by
 unfold chooseF
 split
 ·exact (try_nm {s with d:=_} g _ _).1
 ·split<;>rfl
theorem all_nm(g c:Int):∀(l:List Wt) (s:Lm),(wakeAll g c s l).nm=s.nm
 |[],_=>rfl
 |x::l,s=>by
  show (wakeAll g c (if parked s x.g then _ else s) l).nm=s.nm
  rw[all_nm g c l]
  split<;>rfl
theorem closes_nm(s:Lm)(g k:Int):(closesF s g k).s.nm=s.nm:=by
 unfold closesF
 split
 ·rfl
 ·split
  ·rfl
  ·show (wakeAll _ _ _ _).nm=s.nm
   rw[all_nm]
   rfl
theorem do_nm(s:Lm)(g:Int)(o:OpD):(doF s g o).nm=s.nm∨(doF s g o).nm=s.nm.set o.a.toNat s.md:=by
 unfold doF
 split
 ·exact .inl rfl
 ·split
  ·exact .inr rfl
  ·split
   ·exact .inl rfl
   ·split
    ·exact .inl rfl
    ·split
     ·exact .inl rfl
     ·split
      ·split
       ·exact .inl (alone_nm _ _ _)
       ·exact .inl (alone_nm _ _ _)
      ·split
       ·exact .inl (alone_nm _ _ _)
       ·split
        ·split
         ·exact .inl (closes_nm _ _ _)
         ·exact .inl (closes_nm _ _ _)
        ·split
         ·split
          ·exact .inl (choose_nm _ _ _)
          ·exact .inl (choose_nm _ _ _)
         ·exact .inl rfl
theorem NL.step{s:Lm}(h:NL s)(v:VI s):NL (stepF s):=by
 unfold stepF
 split
 ·exact h
 ·split
  ·exact h
  ·intro i hi
   have m0:=v.md0
   rcases do_nm {s with p:=s.p.tail} (whoN s) (opOf s (whoN s)) with e|e
   ·rw[e]
    exact h i hi
   ·rw[e]
    show -1≤nth (s.nm.set _ s.md) i
    rw[nth_lt _ _ (by rw[List.length_set,v.l2];exact hi),List.getElem_set]
    split
    ·omega
    ·have:=h i hi
     rw[nth_lt _ _ (by rw[v.l2];exact hi)] at this
     exact this
theorem EI.steps{sc:Sh.Sc}(hs:Sh.schk sc=0):∀n,EI (stepsF n (newS sc))∧NL (stepsF n (newS sc))
 |0=>⟨⟨fun i st e=>by
   have e':(List.replicate 8 (none:Option St))[i]? =some (some st):=e
   rw[List.getElem?_replicate] at e'
   split at e'<;>simp at e',fun e he=>by simp[stepsF,newS] at he⟩,fun i hi=>by
   show -1≤nth (List.replicate 8 (-1)) i
   rw[nth_lt _ _ (by simpa using hi),List.getElem_replicate]
   decide⟩
 |n+1=>by
  obtain⟨h,nl⟩:=EI.steps hs n
  have v:=VI.steps hs n
  rw[steps_succ]
  obtain⟨k,-,i,-⟩:=Inv.steps hs n
  generalize stepsF n (newS sc)=s at*
  refine⟨?_,nl.step v⟩
  by_cases hv:verd s=0
  ·have hk:=i.n200 hs
   have hcl:=i.b.cl
   have hmd:=i.b.md
   obtain⟨h1,h2,h3,h4,h5,h6,h7⟩:=schk_ok hs
   by_cases ht:nth s.p 0=-1
   ·unfold stepF
    rw[if_neg (by omega),if_pos ht]
    exact (h.plan _).tell (s':={s with p:=s.p.tail}) _ h.sts rfl ev_comp
   ·have ht0:0≤nth s.p 0:=by
     have hpl:0<s.p.length:=by
      rcases Nat.eq_zero_or_pos s.p.length with z|z
      ·exfalso
       unfold verd at hv
       rw[if_pos z] at hv
       split at hv
       ·omega
       ·split at hv<;>omega
      ·exact z
     have hm:nth s.p 0∈sc.pl:=by
      rw[nth_lt _ _ hpl]
      have hsub:∀x∈s.p,x∈sc.pl:=fun x hx=>by
       rw[i.p] at hx
       exact List.mem_of_mem_drop hx
      exact hsub _ (List.getElem_mem hpl)
     have:=h6 _ hm
     omega
    obtain⟨j,y,hwk,hky,-⟩:=who_ok hv ht0
    have hj:=(List.getElem?_eq_some_iff.1 hky).1
    unfold stepF
    rw[if_neg (by omega),if_neg ht]
    have hgB:gB (whoN s):=by rw[hwk];unfold gB;omega
    have hop:=op_chk hs i (whoN s)
    have hc5:s.cr.length≤511:=by omega
    have hm5:s.md≤511:=by omega
    have hp1:EI {s with p:=s.p.tail}:=h.plan _
    have vp1:VI {s with p:=s.p.tail}:=v.plan _
    have np1:NL {s with p:=s.p.tail}:=nl
    generalize opOf s (whoN s)=o at*
    generalize whoN s=g at*
    exact EI.do_ hp1 vp1 np1 g o hgB hop hc5 hm5
  ·rw[step_end hv]
   exact h
theorem right{sc:Sh.Sc}(hs:Sh.schk sc=0):∀e∈(runF sc).tr,En.chk e=0:=(EI.steps hs sc.pl.length).1.tr
end Lo
end Go.Proofs.YtogkjaekfhjelaaGreat
