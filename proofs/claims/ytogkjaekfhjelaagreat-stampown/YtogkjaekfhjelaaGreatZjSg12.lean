import Derived.Test.YtogkjaekfhjelaaGreatZjSg9
import Derived.Test.YtogkjaekfhjelaaGreatZjSg11
import Derived.WalkKit
import Derived.ProofKit
import Derived.OpenShut
import Derived.WalkLawsBesides
import Derived.WalkSpells
import Derived.Below
import Derived.Laws.CopyOwn
import Derived.Laws.MakeOwn
import Derived.Deep.QuietTactic
import Derived.BigQuiet
import Derived.Lib.AppendZerosOnto
set_option maxHeartbeats 12800000
namespace Go.Proofs.YtogkjaekfhjelaaGreat
namespace Lo
open Ba
section
variable {s:Lm}{gs:Gu.Gs}{g:Int}{y z:Mb}
theorem RI.serve(h:RI s gs)(v:VI s)(hp:s.pk=false)(e x:Ev)(hg:Cr.gt s.cr e.g=some y)(hy:y.s=0)(hz:Cr.gt s.cr e.m=some z)(hz1:z.s=1)(hk:e.k=3∨e.k=4){c:Int}{st st':St}(hc:Fk.nmB s.sts c=some st)(hec:e.c=num s c)
 (hx:x.k=7∧x.g=e.m∧x.c=e.c∧x.m=e.g∧x.o=true) (hxs:(e.k=4∧x.s=true)∨(e.k=3∧x.s=false∧x.v=e.v))
 (h5:Gu.r5 gs.ch e (some x)=some (gs.ch.set (num s c).toNat (vw st'))) (h6:Gu.r6 (gs.ch.set (num s c).toNat (vw st')) e=some (gs.ch.set (num s c).toNat (vw st'))) {ch2 ch3:List Gu.Chn} (h52:Gu.r5 gs.ch e none=some ch2) (h62:Gu.r6 ch2 e=some ch3) (hf:Fine st') (hw:∀x,x∈st'.snd∨x∈st'.rcv→x∈st.snd∨x∈st.rcv):
 ∃gs',RI (wakesS (goS {s with sts:=s.sts.set c.toNat (some st')} e) x) gs':=by
 have hl:=h.gi.len
 obtain⟨n0,nl,-,-,-⟩:=h.at_ v hc
 obtain⟨x1,x2,x3,x4,x5⟩:=hx
 have hm0:=(gt_at hz).1
 have hne:e.m≠e.g:=fun q=>by rw[q,hg] at hz;cases hz;omega
 have r2:=r2_go h hp hg hy (by rcases hk with q|q<;>omega)
 have r4:=r4_go (e:=e) h (by rcases hk with q|q<;>omega)
 have r3:=r3_go (gs:=gs) (e:=e) (by rcases hk with q|q<;>omega) (by rw[hec];exact nl)
 have hz':Cr.gt (Cr.chL s.cr e.g 0 0 1) x.g=some z:=by rw[x2,gt_ch_other hne];exact hz
 have r2x:Gu.r2 (s.cr.map (·.s)) false x=some ((s.cr.map (·.s)).set x.g.toNat 0,false):=by
  rw[←go_map (d:=1) hg hy,r2_in hz' (by unfold Gu.may;simp[x1,hz1]) (by omega)]
  simp[x1]
 have r4x:Gu.r4 e x=some x:=by
  unfold Gu.r4
  have ho:Gu.owed e=true:=by
   unfold Gu.owed
   rcases hk with q|q<;>simp[q]<;>omega
  rw[if_pos ho,if_pos]
  unfold Gu.servP
  rw[if_neg (by simp[x1,x2,x3,x4,x5])]
  rcases hxs with⟨q,q2⟩|⟨q,q2,q3⟩
  ·rw[if_pos q];exact q2
  ·rw[if_neg (by omega)];simp[q2,q3]
 refine⟨⟨(s.cr.map (·.s)).set x.g.toNat 0,false,gs.ch.set (num s c).toNat (vw st'),x⟩,h.two (s':=wakesS (goS {s with sts:=s.sts.set c.toNat (some st')} e) x) (e:=e) (x:=x) ?_ (sh_ok r2 r3 r4 h5 h6) (sh_ok r2 r3 r4 h52 h62) (fun nx=>sh_ok (gs:=⟨s.cr.map (·.s),false,gs.ch.set (num s c).toNat (vw st'),e⟩) r2x (r3_go (by omega) (by show x.c<((gs.ch.set _ _).length:Int);rw[List.length_set,x3,hec];exact nl)) r4x (ch5:=gs.ch.set (num s c).toNat (vw st')) ?_ ?_) ⟨?_,hp.symm,?_,fun i w hw2=>?_,owed_k (e:=x) (by omega) (by omega)⟩ ?_ ?_⟩
 ·show s.tr++[e]++[x]=s.tr++[e,x]
  simp
 ·unfold Gu.r5 Gu.moves
  simp[x1]
 ·unfold Gu.r6
  simp[x1]
 ·show _=(Cr.chL (Cr.chL s.cr e.g 0 0 1) x.g 1 0 1).map (·.s)
  rw[ch_map hz' hz1,go_map hg hy]
 ·show ((gs.ch.set _ _).length:Int)=s.md
  rw[List.length_set]
  exact hl
 ·obtain⟨q,hq,e2⟩:=Sv.leave x.g (s.sts.set c.toNat (some st')) i w hw2
  rw[e2]
  exact ch_set h.gi v hc i q hq
 ·exact WQ.wake (WQ.ch (wq_set h hc hw) hg (by omega) 0 0 1) _ _ _ _
 ·exact (h.c.set hf _).leave _
theorem RI.eqv{s':Lm}(h:RI s gs)(h1:s'.tr=s.tr)(h2:s'.cr=s.cr)(h3:s'.sts=s.sts)(h4:s'.nm=s.nm)(h5:s'.md=s.md)(h6:s'.pk=s.pk):RI s' gs:=by
 refine⟨by rw[h1];exact h.acc,⟨by rw[h2];exact h.gi.st,by rw[h6];exact h.gi.pn,by rw[h5];exact h.gi.len,fun i st hi=>?_,h.gi.ow⟩,by rw[h3,h2];exact h.w,by rw[h3];exact h.c⟩
 rw[h4]
 rw[h3] at hi
 exact h.gi.ch i st hi
theorem tryS_no{sts:List (Option St)}{c:Ca}(h:Fk.tryE sts c≠0∨(Fk.tryG sts c).rd=false):Fk.tryS sts c=sts:=by
 unfold Fk.tryS
 unfold Fk.tryE Fk.tryG at h
 split
 ·rfl
 ·rename_i st e
  rw[e] at h
  simp only at h
  have key:(if c.sd then _root_.Go.Proofs.YtogkjaekfhjelaaGreat.Pi.sendS st c.v else _root_.Go.Proofs.YtogkjaekfhjelaaGreat.Pi.recvS st)=st:=by
   cases hs:c.sd
   ·simp only[hs,Bool.false_eq_true,if_false] at h ⊢
    rcases h with h|h
    ·exact absurd rfl h
    ·unfold _root_.Go.Proofs.YtogkjaekfhjelaaGreat.Pi.recvG at h
     unfold _root_.Go.Proofs.YtogkjaekfhjelaaGreat.Pi.recvS
     split at h<;>simp_all
   ·simp only[hs,if_true] at h ⊢
    unfold _root_.Go.Proofs.YtogkjaekfhjelaaGreat.Pi.sendS
    unfold _root_.Go.Proofs.YtogkjaekfhjelaaGreat.Pi.sendE _root_.Go.Proofs.YtogkjaekfhjelaaGreat.Pi.sendG at h
    cases hc:st.closed
    ·simp only[hc,Bool.false_eq_true,if_false] at h ⊢
     rcases h with h|h
     ·exact absurd rfl h
     ·split at h
      ·simp at h
      ·rename_i hr
       simp only[hr]
       split at h
       ·simp at h
       ·rename_i hl
        rw[if_neg hl]
    ·simp
  rw[key]
  exact set_id (Fk.nmB_at e)
theorem try_no{s:Lm}{g a:Int}{c:Ca}(h:(tryF s g a c).done=false):(tryF s g a c).s=s:=by
 unfold tryF at h ⊢
 split
 ·rename_i q
  simp only[tryS_no q]
 ·rename_i q
  rw[if_neg q] at h
  split at h<;>cases h
theorem RI.mate(h:RI s gs){c:Int}{st:St}(hc:Fk.nmB s.sts c=some st){x:Wt}(hx:x∈st.snd∨x∈st.rcv):∃z,Cr.gt s.cr x.g=some z∧z.s=1:=h.w x ⟨_,st,Fk.nmB_at hc,hx⟩
theorem RI.try_(h:RI s gs)(v:VI s)(hp:s.pk=false)(hg:Cr.gt s.cr g=some y)(hy:y.s=0)(a:Int)(c:Ca):∃gs',RI (tryF s g a c).s gs':=by
 cases hd:(tryF s g a c).done
 ·rw[try_no hd]
  exact⟨gs,h⟩
 unfold tryF at hd ⊢
 by_cases q:Fk.tryE s.sts c≠0∨(Fk.tryG s.sts c).rd=false
 ·rw[if_pos q] at hd
  cases hd
 rw[if_neg q]
 clear hd
 cases hn:Fk.nmB s.sts c.ch with
 |none=>
  exfalso
  apply q
  right
  unfold Fk.tryG
  rw[hn]
  rfl
 |some st=>
  obtain⟨n0,nl,nv,nf,nj⟩:=h.at_ v hn
  have eG:Fk.tryG s.sts c=if c.sd then _root_.Go.Proofs.YtogkjaekfhjelaaGreat.Pi.sendG st else _root_.Go.Proofs.YtogkjaekfhjelaaGreat.Pi.recvG st:=by unfold Fk.tryG;rw[hn]
  have eS:Fk.tryS s.sts c=s.sts.set c.ch.toNat (some (if c.sd then _root_.Go.Proofs.YtogkjaekfhjelaaGreat.Pi.sendS st c.v else _root_.Go.Proofs.YtogkjaekfhjelaaGreat.Pi.recvS st)):=by unfold Fk.tryS;rw[hn]
  have eE:Fk.tryE s.sts c=if c.sd then _root_.Go.Proofs.YtogkjaekfhjelaaGreat.Pi.sendE st else 0:=by unfold Fk.tryE;rw[hn]
  rw[eS]
  cases hs:c.sd
  ·simp only[hs,Bool.false_eq_true,if_false] at eG q ⊢
   rw[eG] at q ⊢
   rcases hb:st.buf with _|⟨b0,b⟩<;>rcases hq:st.snd with _|⟨m,t⟩
   ·
    have hG:_root_.Go.Proofs.YtogkjaekfhjelaaGreat.Pi.recvG st=⟨st.closed,false,false,0,⟨0,0,0⟩⟩:=by unfold _root_.Go.Proofs.YtogkjaekfhjelaaGreat.Pi.recvG;rw[hb,hq]
    have hS:_root_.Go.Proofs.YtogkjaekfhjelaaGreat.Pi.recvS st=st:=by unfold _root_.Go.Proofs.YtogkjaekfhjelaaGreat.Pi.recvS;rw[hb,hq]
    have hcl:st.closed=true:=by
     cases hc:st.closed
     ·exfalso;apply q;right;rw[hG];exact hc
     ·rfl
    rw[hG,hS]
    simp only[Bool.false_eq_true,if_false]
    exact h.recv0 v hp (tryV s g a c ⟨st.closed,false,false,0,⟨0,0,0⟩⟩) hg hy (by simp[tryV,hs]) rfl (by simp[tryV]) hn rfl hb hcl
   ·have hG:_root_.Go.Proofs.YtogkjaekfhjelaaGreat.Pi.recvG st=⟨true,true,true,m.v,m⟩:=by unfold _root_.Go.Proofs.YtogkjaekfhjelaaGreat.Pi.recvG;rw[hb,hq]
    have hS:_root_.Go.Proofs.YtogkjaekfhjelaaGreat.Pi.recvS st={st with snd:=t,sent:=st.sent+1,got:=st.got+1}:=by unfold _root_.Go.Proofs.YtogkjaekfhjelaaGreat.Pi.recvS;rw[hb,hq]
    rw[hG,hS]
    simp only[if_true]
    obtain⟨z,hz,hz1⟩:=h.mate hn (x:=m) (.inl (by rw[hq];simp))
    have hcl:st.closed=false:=by
     cases hc:st.closed
     ·rfl
     ·have:=(nf.cl hc).1;rw[hq] at this;cases this
    have hm0:=(gt_at hz).1
    obtain⟨e,he⟩:∃e,e=tryV s g a c ⟨true,true,true,m.v,m⟩:=⟨_,rfl⟩
    have ek:e.k=4:=by rw[he];simp[tryV,hs]
    have em:e.m=m.g:=by rw[he];simp[tryV]
    have ev:e.v=m.v:=by rw[he];simp[tryV,hs]
    have eo:e.o=true:=by rw[he];rfl
    have es:e.s=false:=by rw[he];simp[tryV,hs]
    have ec:e.c=num s c.ch:=by rw[he];rfl
    rw[←he]
    have r5s:Gu.r5 gs.ch e (some (servV e ⟨true,true,true,m.v,m⟩))=some (gs.ch.set (num s c.ch).toNat (vw {st with snd:=t,sent:=st.sent+1,got:=st.got+1})):=by
     rw[←ec]
     refine r5_of (x:=vw st) (moves4 ek eo) (by rw[ec];exact nv) ?_
     unfold Gu.r5c Gu.putP vw
     rw[if_pos (.inl ek),if_neg (by omega),if_pos (by omega)]
     simp only[hb,servV,es,Bool.false_eq_true,if_false,List.nil_append]
     rw[if_neg (by simp[ev]),if_pos (by simp)]
    have r5n:Gu.r5 gs.ch e none=some (gs.ch.set e.c.toNat (vw st)):=by
     refine r5_of (x:=vw st) (moves4 ek eo) (by rw[ec];exact nv) ?_
     unfold Gu.r5c Gu.putP vw
     rw[if_pos (.inl ek),if_neg (by omega),if_pos (by omega)]
     simp only[hb]
     rw[if_pos (by omega)]
    exact h.serve v hp e (servV e ⟨true,true,true,m.v,m⟩) (by rw[he];exact hg) hy (by rw[em];exact hz) hz1 (.inr ek) hn ec ⟨rfl,em.symm,rfl,rfl,rfl⟩ (.inl ⟨ek,by simp[servV,es]⟩) r5s
     (r6_recv ek eo (.inr (by rw[ec,getD_set_same _ _ _ _ (by omega)];exact hcl))) r5n (r6_recv ek eo (.inr (by rw[getD_set_same _ _ _ _ (by omega)];exact hcl))) ⟨(fun w=>by simp only at w;rw[hcl] at w;cases w),nf.bf⟩ (fun x hx=>by
       rcases hx with hx|hx
       ·exact .inl (by rw[hq];exact List.mem_cons_of_mem _ hx)
       ·exact .inr hx)
   ·have hG:_root_.Go.Proofs.YtogkjaekfhjelaaGreat.Pi.recvG st=⟨true,true,false,b0,⟨0,0,0⟩⟩:=by unfold _root_.Go.Proofs.YtogkjaekfhjelaaGreat.Pi.recvG;rw[hb,hq]
    have hS:_root_.Go.Proofs.YtogkjaekfhjelaaGreat.Pi.recvS st={st with buf:=b,got:=st.got+1}:=by unfold _root_.Go.Proofs.YtogkjaekfhjelaaGreat.Pi.recvS;rw[hb,hq]
    rw[hG,hS]
    simp only[Bool.false_eq_true,if_false]
    exact h.recv1 v hp (tryV s g a c ⟨true,true,false,b0,⟨0,0,0⟩⟩) hg hy (by simp[tryV,hs]) rfl (by simp[tryV]) hn rfl (b:=b) (by rw[hb];simp[tryV,hs]) ⟨rfl,rfl,rfl,rfl,rfl⟩
   ·have hG:_root_.Go.Proofs.YtogkjaekfhjelaaGreat.Pi.recvG st=⟨true,true,true,b0,m⟩:=by unfold _root_.Go.Proofs.YtogkjaekfhjelaaGreat.Pi.recvG;rw[hb,hq]
    have hS:_root_.Go.Proofs.YtogkjaekfhjelaaGreat.Pi.recvS st={st with buf:=b++[m.v],snd:=t,sent:=st.sent+1,got:=st.got+1}:=by unfold _root_.Go.Proofs.YtogkjaekfhjelaaGreat.Pi.recvS;rw[hb,hq]
    rw[hG,hS]
    simp only[if_true]
    obtain⟨z,hz,hz1⟩:=h.mate hn (x:=m) (.inl (by rw[hq];simp))
    have hcl:st.closed=false:=by
     cases hc:st.closed
     ·rfl
     ·have:=(nf.cl hc).1;rw[hq] at this;cases this
    have hm0:=(gt_at hz).1
    have hbl:=nf.bf
    rw[hb] at hbl
    simp at hbl
    obtain⟨e,he⟩:∃e,e=tryV s g a c ⟨true,true,true,b0,m⟩:=⟨_,rfl⟩
    have ek:e.k=4:=by rw[he];simp[tryV,hs]
    have em:e.m=m.g:=by rw[he];simp[tryV]
    have ev:e.v=b0:=by rw[he];simp[tryV,hs]
    have eo:e.o=true:=by rw[he];rfl
    have es:e.s=false:=by rw[he];simp[tryV,hs]
    have ec:e.c=num s c.ch:=by rw[he];rfl
    rw[←he]
    have r5s:Gu.r5 gs.ch e (some (servV e ⟨true,true,true,b0,m⟩))=some (gs.ch.set (num s c.ch).toNat (vw {st with buf:=b++[m.v],snd:=t,sent:=st.sent+1,got:=st.got+1})):=by
     rw[←ec]
     refine r5_of (x:=vw st) (moves4 ek eo) (by rw[ec];exact nv) ?_
     unfold Gu.r5c Gu.putP vw
     rw[if_pos (.inl ek),if_neg (by omega),if_pos (by omega)]
     simp only[hb,servV,es,Bool.false_eq_true,if_false,List.cons_append]
     rw[if_neg (by simp[ev]),if_pos (by simp;omega)]
    have r5n:Gu.r5 gs.ch e none=some (gs.ch.set e.c.toNat ⟨st.size,b,st.closed⟩):=by
     refine r5_of (x:=vw st) (moves4 ek eo) (by rw[ec];exact nv) ?_
     unfold Gu.r5c Gu.putP vw
     rw[if_pos (.inl ek),if_neg (by omega),if_pos (by omega)]
     simp only[hb]
     rw[if_neg (by simp[ev]),if_pos (by omega)]
    exact h.serve v hp e (servV e ⟨true,true,true,b0,m⟩) (by rw[he];exact hg) hy (by rw[em];exact hz) hz1 (.inr ek) hn ec ⟨rfl,em.symm,rfl,rfl,rfl⟩ (.inl ⟨ek,by simp[servV,es]⟩) r5s
     (r6_recv ek eo (.inr (by rw[ec,getD_set_same _ _ _ _ (by omega)];exact hcl))) r5n (r6_recv ek eo (.inr (by rw[getD_set_same _ _ _ _ (by omega)];exact hcl))) ⟨(fun w=>by simp only at w;rw[hcl] at w;cases w),by simp;omega⟩ (fun x hx=>by
       rcases hx with hx|hx
       ·exact .inl (by rw[hq];exact List.mem_cons_of_mem _ hx)
       ·exact .inr hx)
  ·simp only[hs,if_true] at eG eE q ⊢
   rw[eG,eE] at q
   rw[eG]
   have hcl:st.closed=false:=by
    cases hc:st.closed
    ·rfl
    ·exfalso;apply q;left;unfold _root_.Go.Proofs.YtogkjaekfhjelaaGreat.Pi.sendE;rw[hc];decide
   rcases hq:st.rcv with _|⟨m,t⟩
   ·have hl:st.buf.length<st.size:=by
     by_cases hl:st.buf.length<st.size
     ·exact hl
     ·exfalso;apply q;right;unfold _root_.Go.Proofs.YtogkjaekfhjelaaGreat.Pi.sendG;rw[hcl,hq];simp[hl];rfl
    have hG:_root_.Go.Proofs.YtogkjaekfhjelaaGreat.Pi.sendG st=⟨true,false,false,0,⟨0,0,0⟩⟩:=by unfold _root_.Go.Proofs.YtogkjaekfhjelaaGreat.Pi.sendG;rw[hcl,hq];simp[hl]
    have hS:_root_.Go.Proofs.YtogkjaekfhjelaaGreat.Pi.sendS st c.v={st with buf:=st.buf++[c.v],sent:=st.sent+1}:=by unfold _root_.Go.Proofs.YtogkjaekfhjelaaGreat.Pi.sendS;rw[hcl,hq];simp[hl]
    rw[hG,hS]
    simp only[Bool.false_eq_true,if_false]
    exact h.send1 v hp (tryV s g a c ⟨true,false,false,0,⟨0,0,0⟩⟩) hg hy (by simp[tryV,hs]) (by simp[tryV]) hn rfl hcl hl ⟨rfl,by simp[tryV,hs],rfl,rfl,rfl⟩
   ·have hG:_root_.Go.Proofs.YtogkjaekfhjelaaGreat.Pi.sendG st=⟨true,false,true,0,m⟩:=by unfold _root_.Go.Proofs.YtogkjaekfhjelaaGreat.Pi.sendG;rw[hcl,hq];simp
    have hS:_root_.Go.Proofs.YtogkjaekfhjelaaGreat.Pi.sendS st c.v={st with rcv:=t,sent:=st.sent+1,got:=st.got+1}:=by unfold _root_.Go.Proofs.YtogkjaekfhjelaaGreat.Pi.sendS;rw[hcl,hq];simp
    rw[hG,hS]
    simp only[if_true]
    obtain⟨z,hz,hz1⟩:=h.mate hn (x:=m) (.inr (by rw[hq];simp))
    have hm0:=(gt_at hz).1
    have hb:st.buf=[]:=nj (by rw[hq];simp)
    obtain⟨e,he⟩:∃e,e=tryV s g a c ⟨true,false,true,0,m⟩:=⟨_,rfl⟩
    have ek:e.k=3:=by rw[he];simp[tryV,hs]
    have em:e.m=m.g:=by rw[he];simp[tryV]
    have es:e.s=true:=by rw[he];simp[tryV,hs]
    have ec:e.c=num s c.ch:=by rw[he];rfl
    rw[←he]
    have r5s:∀nx,Gu.r5 gs.ch e nx=some (gs.ch.set (num s c.ch).toNat (vw {st with rcv:=t,sent:=st.sent+1,got:=st.got+1})):=fun nx=>by
     rw[←ec]
     refine r5_of (x:=vw st) (moves3 ek) (by rw[ec];exact nv) ?_
     unfold Gu.r5c Gu.putP vw
     rw[if_pos (.inr (by omega)),if_pos ek]
     simp only[hb,List.nil_append]
     rw[if_neg (by simp),if_pos (by simp)]
    have r6s:Gu.r6 (gs.ch.set (num s c.ch).toNat (vw {st with rcv:=t,sent:=st.sent+1,got:=st.got+1})) e=some (gs.ch.set (num s c.ch).toNat (vw {st with rcv:=t,sent:=st.sent+1,got:=st.got+1})):=r6_send ek (by rw[ec,getD_set_same _ _ _ _ (by omega)];exact hcl)
    exact h.serve v hp e (servV e ⟨true,false,true,0,m⟩) (by rw[he];exact hg) hy (by rw[em];exact hz) hz1 (.inl ek) hn ec ⟨rfl,em.symm,rfl,rfl,rfl⟩ (.inr ⟨ek,by simp[servV,es],by simp[servV,es]⟩) (r5s _) r6s (r5s _) r6s ⟨(fun w=>by simp only at w;rw[hcl] at w;cases w),nf.bf⟩ (fun x hx=>by
     rcases hx with hx|hx
     ·exact .inl hx
     ·exact .inr (by rw[hq];exact List.mem_cons_of_mem _ hx))
end
end Lo
end Go.Proofs.YtogkjaekfhjelaaGreat
namespace Go.Proofs.YtogkjaekfhjelaaGreat
namespace Lo
open Ba
section
variable {s:Lm}{gs:Gu.Gs}{g:Int}{y z:Mb}
theorem WQ.wg{sts:List (Option St)}{cr:List Mb}(h:WQ sts cr)(g:Int):WG g sts cr:=fun x hx=>.inr (h x hx)
theorem RI.alone(h:RI s gs)(v:VI s)(hp:s.pk=false)(hg:Cr.gt s.cr g=some y)(hy:y.s=0)(c:Ca)(hc:num s c.ch<s.md):∃gs',RI (aloneF s g c).s gs':=by
 unfold aloneF
 cases hd:(tryF s g (-1) c).done
 ·have e:=try_no hd
  cases hf:(tryF s g (-1) c).fine
  ·simp only[Bool.not_false,Bool.or_true,if_true]
   rw[e]
   exact⟨gs,h⟩
  ·simp only[Bool.not_true,Bool.or_false,Bool.false_eq_true,if_false]
   rw[e]
   exact h.waits hp (sts':=waitN s.sts c g) ⟨6,g,num s c.ch,-1,c.v,-1,c.sd,false⟩ hg hy rfl hc (Sv.wait _ _ _) ((h.w.wg g).wait c) (h.c.wait _ _)
 ·simp only[Bool.true_or,if_true]
  exact h.try_ v hp hg hy _ _
theorem alone_no{c:Ca}(h:(aloneF s g c).fine=false):(aloneF s g c).s=s:=by
 unfold aloneF at h ⊢
 cases hd:(tryF s g (-1) c).done
 ·rw[hd] at h
  cases hf:(tryF s g (-1) c).fine
  ·simp only[Bool.not_false,Bool.or_true,if_true]
   exact try_no hd
  ·rw[hf] at h
   simp at h
 ·rw[hd] at h
  simp only[Bool.true_or,if_true] at h
  exfalso
  unfold tryF at hd h
  split at hd
  ·cases hd
  ·rename_i q
   rw[if_neg q] at h
   split at h<;>cases h
theorem try_fine{a:Int}{c:Ca}(h:(tryF s g a c).fine=false):(tryF s g a c).s=s:=by
 apply try_no
 unfold tryF at h ⊢
 split
 ·rfl
 ·rename_i q
  rw[if_neg q] at h
  split at h<;>cases h
theorem RI.choose(h:RI s gs)(v:VI s)(hp:s.pk=false)(hg:Cr.gt s.cr g=some y)(hy:y.s=0)(o:OpD):∃gs',RI (chooseF s g o).s gs':=by
 have m0:=v.md0
 have key:∀d,RI {s with d:=d} gs:=fun d=>h.eqv rfl rfl rfl rfl rfl rfl
 have kv:∀d,VI {s with d:=d}:=fun d=>⟨v.l1,v.l2,v.md0,v.lt,v.nlt,v.inj,v.ch,v.pre⟩
 unfold chooseF
 split
 ·exact (key (Pk.dr s.d (Fk.rdyL (cas o) s.sts).length)).try_ (kv _) hp hg hy _ _
 ·split
  ·exact h.go hp (bareE 8 g) hg hy (.inl rfl) rfl
  ·exact h.waits hp (sts':=Fk.pkA g (cas o) s.sts) ⟨6,g,-1,o.cases.length,0,-1,false,false⟩ hg hy rfl (by show (-1:Int)<s.md;omega) (Sv.pkA _ _ _) ((h.w.wg g).pkA _) (h.c.pkA _ _)
theorem choose_no{o:OpD}(h:(chooseF s g o).fine=false):∃d,(chooseF s g o).s={s with d:=d}:=by
 unfold chooseF at h ⊢
 split
 ·rename_i q
  rw[if_pos q] at h
  exact⟨_,try_fine h⟩
 ·rename_i q
  rw[if_neg q] at h
  split at h<;>cases h
theorem first_is(s:Lm):∀l:List Wt,first s l=-1∨parked s (first s l)=true
 |[]=>.inl rfl
 |x::l=>by
  unfold first
  split
  ·rename_i q
   exact .inr q
  ·exact first_is s l
theorem all_pk(g c:Int):∀(l:List Wt) (s:Lm),(wakeAll g c s l).pk=s.pk
 |[],_=>rfl
 |x::l,s=>by
  show (wakeAll g c (if parked s x.g then _ else s) l).pk=s.pk
  rw[all_pk g c l]
  split<;>rfl
theorem RI.closes(h:RI s gs)(v:VI s)(hp:s.pk=false)(hg:Cr.gt s.cr g=some y)(hy:y.s=0)(n:Int):∃gs',RI (if (closesF s g n).who=-1 then (closesF s g n).s else panicS (closesF s g n).s (closesF s g n).who) gs':=by
 have g0:=(gt_at hg).1
 unfold closesF
 cases hn:Fk.nmB s.sts n with
 |none=>
  simp only
  rw[if_neg (by omega)]
  exact h.panic hp hg (by omega)
 |some st=>
  simp only
  cases hc:st.closed
  ·simp only[Bool.false_eq_true,if_false]
   obtain⟨gs1,h1⟩:=h.close v hp hg hy hn hc
   split
   ·exact⟨gs1,h1⟩
   ·rename_i q
    rcases first_is (wakeAll g (num s n) (goS {s with sts:=s.sts.set n.toNat (some (_root_.Go.Proofs.YtogkjaekfhjelaaGreat.Pi.closeS st))} ⟨5,g,num s n,-1,-1,-1,false,false⟩) st.rcv) st.snd with w|w
    ·exact absurd w q
    ·obtain⟨z,hz,hz1⟩:=parked_some w
     exact h1.panic (by rw[all_pk];exact hp) hz (by omega)
  ·simp only[if_true]
   rw[if_neg (by omega)]
   exact h.panic hp hg (by omega)
theorem RI.do_(h:RI s gs)(v:VI s)(hp:s.pk=false)(hg:Cr.gt s.cr g=some y)(hy:y.s=0)(o:OpD){n:Int}(ho:De.chk o n=0)(hcr:s.cr.length<512):∃gs',RI (doF s g o) gs':=by
 obtain⟨hn,hk,h4,ha,hb,-,hcs⟩:=op_ok ho
 have m0:=v.md0
 by_cases h1:o.kind=1
 ·rw[do_is1 _ _ _ h1]
  have ha7:0≤o.a:=by rw[h1] at ha;simp[De.mA] at ha;omega
  exact h.spawn hp o.a ha7 hcr hg hy
 by_cases h2:o.kind=2
 ·rw[do_is2 _ _ _ h2]
  have ha7:0≤o.a∧o.a<8:=by rw[h2] at ha;simp[De.mA] at ha;omega
  have hb4:0≤o.b:=by rw[h2] at hb;simp[De.mB] at hb;omega
  exact h.make v hp o.a o.b ha7 hb4 hg hy
 by_cases h7:o.kind=7
 ·rw[do_is7 _ _ _ h7]
  exact h.go hp ⟨9,g,-1,-1,o.a,-1,false,false⟩ hg hy (.inr (.inl rfl)) rfl
 by_cases h8:o.kind=8
 ·rw[do_is8 _ _ _ h8]
  exact h.go hp ⟨10,g,-1,-1,o.a,-1,false,false⟩ hg hy (.inr (.inr rfl)) rfl
 by_cases h9:o.kind=9
 ·rw[do_is9 _ _ _ h9]
  exact h.exit hp hg hy
 by_cases h3:o.kind=3
 ·rw[do_is3 _ _ _ h3]
  have a8:o.a.toNat<8:=by rw[h3] at ha;simp[De.mA] at ha;omega
  split
  ·exact h.alone v hp hg hy ⟨true,o.a,o.b⟩ (v.nlt _ a8)
  ·rename_i q
   rw[alone_no (by simpa using q)]
   exact h.panic hp hg (by omega)
 by_cases h4':o.kind=4
 ·rw[do_is4 _ _ _ h4']
  have a8:o.a.toNat<8:=by rw[h4'] at ha;simp[De.mA] at ha;omega
  exact h.alone v hp hg hy ⟨false,o.a,0⟩ (v.nlt _ a8)
 by_cases h5:o.kind=5
 ·rw[do_is5 _ _ _ h5]
  exact h.closes v hp hg hy o.a
 by_cases h6:o.kind=6
 ·rw[do_is6 _ _ _ h6]
  split
  ·exact h.choose v hp hg hy o
  ·rename_i q
   obtain⟨d,e⟩:=choose_no (s:=s) (g:=g) (o:=o) (by simpa using q)
   rw[e]
   exact RI.panic (s:={s with d:=d}) (h.eqv rfl rfl rfl rfl rfl rfl) hp hg (by omega)
 rw[do_is0 _ _ _ h1 h2 h7 h8 h9 h3 h4' h5 h6]
 exact⟨gs,h⟩
end
theorem RI.new(sc:Sh.Sc):RI (newS sc) Gu.gs0:=by
 have hno:∀(i:Nat) (st:St),(newS sc).sts[i]? =some (some st)→False:=fun i st e=>by
  have e':(List.replicate 8 (none:Option St))[i]? =some (some st):=e
  rw[List.getElem?_replicate] at e'
  split at e'<;>simp at e'
 exact⟨rfl,⟨rfl,rfl,rfl,fun i st hi=>(hno i st hi).elim,by decide⟩,fun x ⟨i,st,hi,_⟩=>(hno i st hi).elim,fun i st hi=>(hno i st hi).elim⟩
theorem plan_nn{sc:Sh.Sc}{n:Nat}{s:Lm}(hs:Sh.schk sc=0)(i:Inv sc n s)(hv:verd s=0)(ht:nth s.p 0≠-1):0≤nth s.p 0:=by
 obtain⟨-,-,-,-,-,h6,-⟩:=schk_ok hs
 have hpl:0<s.p.length:=by
  rcases Nat.eq_zero_or_pos s.p.length with z|z
  ·exfalso
   unfold verd at hv
   rw[if_pos z] at hv
   split at hv
   ·omega
   ·split at hv<;>omega
  ·exact z
 have hm:nth s.p 0∈sc.pl:=by
  rw[nth_lt _ _ hpl]
  have hsub:∀x∈s.p,x∈sc.pl:=fun x hx=>by
   rw[i.p] at hx
   exact List.mem_of_mem_drop hx
  exact hsub _ (List.getElem_mem hpl)
 have:=h6 _ hm
 omega
theorem pk_of{s:Lm}(hv:verd s=0):s.pk=false:=by
 cases h:s.pk
 ·rfl
 ·unfold verd at hv
  rw[h] at hv
  simp at hv
theorem gt_k{l:List Mb}{k:Nat}{y:Mb}(h:l[k]? =some y):Cr.gt l (k:Int)=some y:=by rw[Cr.gt_nat];exact h
theorem RI.step{sc:Sh.Sc}{n:Nat}{s:Lm}{gs:Gu.Gs}(hs:Sh.schk sc=0)(i:Inv sc n s)(v:VI s)(h:RI s gs):∃gs',RI (stepF s) gs':=by
 by_cases hv:verd s=0
 ·have hp:=pk_of hv
  unfold stepF
  rw[if_neg (by omega)]
  by_cases ht:nth s.p 0=-1
  ·rw[if_pos ht]
   exact h.compact hp _
  ·rw[if_neg ht]
   obtain⟨k,y,hw,hk,hy⟩:=who_ok hv (plan_nn hs i hv ht)
   have hc:=i.b.cl
   have hn:=i.n200 hs
   have h1:RI {s with p:=s.p.tail} gs:=h.eqv rfl rfl rfl rfl rfl rfl
   rw[hw]
   exact h1.do_ (v.plan _) hp (gt_k hk) hy _ (op_chk hs i _) (by show s.cr.length<512;omega)
 ·rw[step_end hv]
  exact⟨gs,h⟩
theorem RI.steps{sc:Sh.Sc}(hs:Sh.schk sc=0):∀n,∃gs,RI (stepsF n (newS sc)) gs
 |0=>⟨_,RI.new sc⟩
 |n+1=>by
  obtain⟨gs,h⟩:=RI.steps hs n
  obtain⟨k,-,i,-⟩:=Inv.steps hs n
  rw[steps_succ]
  exact h.step hs i (VI.steps hs n)
end Lo
end Go.Proofs.YtogkjaekfhjelaaGreat
namespace Go.Proofs.YtogkjaekfhjelaaGreat
namespace Lo
open Ba
def nw(l:List Ev):Nat:=l.countP fun e=>decide (e.k≠7)
theorem nw_app(l:List Ev)(e:Ev):nw (l++[e])=nw l+if e.k=7 then 0 else 1:=by
 unfold nw
 by_cases h:e.k=7<;>simp[List.countP_append,h]
theorem nw_tell(s:Lm)(e:Ev):nw (tellS s e).tr≤nw s.tr+1:=by
 unfold tellS
 simp only[nw_app]
 split<;>omega
theorem nw_go(s:Lm)(e:Ev):nw (goS s e).tr≤nw s.tr+1:=nw_tell _ _
theorem nw_waits(s:Lm)(e:Ev):nw (waitsS s e).tr≤nw s.tr+1:=nw_tell _ _
theorem nw_wakes(s:Lm)(e:Ev)(h:e.k=7):nw (wakesS s e).tr=nw s.tr:=by
 show nw (s.tr++[e])=_
 rw[nw_app,if_pos h]
 rfl
theorem nw_try(s:Lm)(g a:Int)(c:Ca):nw (tryF s g a c).s.tr≤nw s.tr+1:=by
 unfold tryF
 split
 ·exact Nat.le_succ _
 ·split
  ·rw[nw_wakes _ _ rfl]
   exact nw_go _ _
  ·exact nw_go _ _
theorem nw_alone(s:Lm)(g:Int)(c:Ca):nw (aloneF s g c).s.tr≤nw s.tr+2:=by
 have h:=nw_try s g (-1) c
 unfold aloneF
 split
 ·exact Nat.le_succ_of_le h
 ·exact Nat.le_trans (nw_waits _ _) (Nat.succ_le_succ h)
theorem nw_choose(s:Lm)(g:Int)(o:OpD):nw (chooseF s g o).s.tr≤nw s.tr+1:=by
 unfold chooseF
 split
 ·exact nw_try {s with d:=Pk.dr s.d (Fk.rdyL (cas o) s.sts).length} _ _ _
 ·split
  ·exact nw_go _ _
  ·exact nw_waits _ _
theorem nw_all(g c:Int):∀(l:List Wt) (s:Lm),nw (wakeAll g c s l).tr=nw s.tr
 |[],_=>rfl
 |x::l,s=>by
  show nw (wakeAll g c (if parked s x.g then _ else s) l).tr=nw s.tr
  rw[nw_all g c l]
  split
  ·exact nw_wakes _ _ rfl
  ·rfl
theorem nw_closes(s:Lm)(g n:Int):nw (closesF s g n).s.tr≤nw s.tr+1:=by
 unfold closesF
 split
 ·exact Nat.le_succ _
 ·split
  ·exact Nat.le_succ _
  ·show nw (wakeAll _ _ _ _).tr≤_
   rw[nw_all]
   exact nw_go _ _
theorem nw_panic(s:Lm)(g:Int):nw (panicS s g).tr≤nw s.tr+1:=nw_tell _ _
theorem nw_do(s:Lm)(g:Int)(o:OpD):nw (doF s g o).tr≤nw s.tr+3:=by
 have a1:=fun c=>nw_alone s g c
 have a2:=nw_choose s g o
 have a3:=nw_closes s g o.a
 have a4:=fun s' w=>nw_panic s' w
 unfold doF
 split
 ·exact Nat.le_trans (nw_go _ _) (by show nw s.tr+1≤_;omega)
 ·split
  ·exact Nat.le_trans (nw_go _ _) (by show nw s.tr+1≤_;omega)
  ·split
   ·exact Nat.le_trans (nw_go _ _) (by omega)
   ·split
    ·exact Nat.le_trans (nw_go _ _) (by omega)
    ·split
     ·exact Nat.le_trans (nw_tell _ _) (by show nw s.tr+1≤_;omega)
     ·split
      ·split
       ·exact Nat.le_trans (a1 _) (by omega)
       ·exact Nat.le_trans (a4 _ _) (by have:=a1 ⟨true,o.a,o.b⟩;omega)
      ·split
       ·exact Nat.le_trans (a1 _) (by omega)
       ·split
        ·split
         ·omega
         ·exact Nat.le_trans (a4 _ _) (by omega)
        ·split
         ·split
          ·omega
          ·exact Nat.le_trans (a4 _ _) (by omega)
         ·omega
theorem nw_step(s:Lm):nw (stepF s).tr≤nw s.tr+3:=by
 unfold stepF
 split
 ·omega
 ·split
  ·exact Nat.le_trans (nw_tell _ _) (by show nw s.tr+1≤_;omega)
  ·exact nw_do {s with p:=s.p.tail} _ _
theorem nw_steps(sc:Sh.Sc):∀n,nw (stepsF n (newS sc)).tr≤3*n
 |0=>Nat.le_refl _
 |n+1=>by
  rw[steps_succ]
  have h1:=nw_step (stepsF n (newS sc))
  have h2:=nw_steps sc n
  omega
def ones(l:List Int):Nat:=l.countP fun x=>decide (x=1)
theorem ones_set(l:List Int)(k:Nat)(v:Int)(hv:v≠1):ones (l.set k v)+(if l.getD k 0=1 then 1 else 0)=ones l:=by
 by_cases h:k<l.length
 ·have:=countP_set (fun x:Int=>decide (x=1)) l k l[k] v (List.getElem?_eq_getElem h)
  unfold ones
  simp only[decide_eq_true_eq,hv,if_false] at this
  rw[List.getD_eq_getElem?_getD,List.getElem?_eq_getElem h]
  simpa using this
 ·rw[List.set_eq_of_length_le (by omega),List.getD_eq_getElem?_getD,List.getElem?_eq_none (by omega)]
  simp
theorem ones_le(l:List Int)(k:Nat)(v:Int):ones (l.set k v)≤ones l+1:=by
 by_cases h:k<l.length
 ·have:=countP_set (fun x:Int=>decide (x=1)) l k l[k] v (List.getElem?_eq_getElem h)
  unfold ones
  split at this<;>split at this<;>omega
 ·rw[List.set_eq_of_length_le (by omega)]
  omega
theorem r2_ones{st st':List Int}{pn pn':Bool}{e:Ev}(h:Gu.r2 st pn e=some (st',pn')):(if e.k=7 then 1 else 0)+ones st'≤ones st+(if e.k=6 then 1 else 0):=by
 unfold Gu.r2 at h
 split at h
 ·cases h
 ·split at h
  ·rename_i q
   cases h
   rw[if_neg (by omega),if_neg (by omega)]
   omega
  ·split at h
   ·cases h
   ·split at h
    ·cases h
    ·rename_i hm
     split at h
     ·rename_i q
      split at h
      ·cases h
      ·cases h
       rw[if_neg (by omega),if_neg (by omega)]
       unfold ones
       simp[List.countP_append]
     ·split at h
      ·rename_i q
       cases h
       rw[if_neg (by omega),if_pos q]
       have:=ones_le st e.g.toNat 1
       omega
      ·split at h
       ·rename_i q
        cases h
        rw[if_pos q,if_neg (by omega)]
        have:=ones_set st e.g.toNat 0 (by decide)
        have ht:st.getD e.g.toNat 0=1:=by
         unfold Gu.may at hm
         rw[if_pos q] at hm
         simpa using hm
        rw[if_pos ht] at this
        omega
       ·split at h
        ·rename_i q
         cases h
         rw[if_neg (by omega),if_neg (by omega)]
         have:=ones_set st e.g.toNat 2 (by decide)
         omega
        ·split at h
         ·rename_i q
          cases h
          rw[if_neg (by omega),if_neg (by omega)]
          omega
         ·rename_i q7 _ _
          cases h
          split<;>omega
def c6(l:List Ev):Nat:=l.countP fun e=>decide (e.k=6)
def c7(l:List Ev):Nat:=l.countP fun e=>decide (e.k=7)
theorem stepH_r2{gs g1:Gu.Gs}{e:Ev}{nx:Option Ev}(h:Gu.stepH gs e nx=some g1):Gu.r2 gs.st gs.pn e=some (g1.st,g1.pn):=by
 unfold Gu.stepH at h
 split at h
 ·cases h
 ·rename_i e2
  rw[e2]
  split at h
  ·cases h
  ·split at h
   ·cases h
   ·split at h
    ·cases h
    ·split at h
     ·cases h
     ·cases h
      rfl
theorem acc_ones:∀{es:List Ev} {gs g':Gu.Gs},Gu.AccH gs es g'→c7 es+ones g'.st≤c6 es+ones gs.st
 |[],gs,g',h=>by
  have:g'=gs:=h
  subst this
  simp[c7,c6]
 |e::es,gs,g',h=>by
  obtain⟨g1,h1,-,h3⟩:=h
  have q:=r2_ones (stepH_r2 (h1 es.head? (fun _=>rfl)))
  have k:=acc_ones h3
  have e7:c7 (e::es)=c7 es+if e.k=7 then 1 else 0:=by unfold c7;rw[List.countP_cons];simp
  have e6:c6 (e::es)=c6 es+if e.k=6 then 1 else 0:=by unfold c6;rw[List.countP_cons];simp
  rw[e7,e6]
  omega
theorem count_len:∀l:List Ev,l.length=c7 l+nw l∧c6 l≤nw l
 |[]=>⟨rfl,Nat.le_refl _⟩
 |e::l=>by
  obtain⟨h1,h2⟩:=count_len l
  have e7:c7 (e::l)=c7 l+if e.k=7 then 1 else 0:=by unfold c7;rw[List.countP_cons];simp
  have e6:c6 (e::l)=c6 l+if e.k=6 then 1 else 0:=by unfold c6;rw[List.countP_cons];simp
  have en:nw (e::l)=nw l+if e.k=7 then 0 else 1:=by
   unfold nw
   rw[List.countP_cons]
   by_cases h:e.k=7<;>simp[h]
  rw[e7,e6,en,List.length_cons]
  by_cases h:e.k=7
  ·rw[if_pos h,if_pos h,if_neg (by omega)]
   omega
  ·rw[if_neg h,if_neg h]
   split<;>omega
theorem run_acc{sc:Sh.Sc}(hs:Sh.schk sc=0)(n:Nat)(hn:n≤201):(stepsF n (newS sc)).tr.length≤1300∧∃g,Gu.Acc Gu.gs0 0 (stepsF n (newS sc)).tr g:=by
 obtain⟨gs,h⟩:=RI.steps hs n
 have h1:=acc_ones h.acc
 have h2:=count_len (stepsF n (newS sc)).tr
 have h3:=nw_steps sc n
 have h4:ones Gu.gs0.st=0:=by decide
 have hl:(stepsF n (newS sc)).tr.length≤1300:=by omega
 exact⟨hl,gs,h.acc.acc (EI.steps hs n).1.tr (by omega)⟩
end Lo
open Go.ChangeShapes Go.WideShapes Go.ChangeAt Go.RowKit
namespace Gu
open En
theorem Acc.ig:∀{es:List Ev} {gs g':Gs} {i:Nat},Acc gs i es g'→∀(l:List Ev),IG l i gs→l.drop i=es→IG l (i+es.length) g'
 |[],gs,g',i,h,l,I,_=>by
  have:g'=gs:=h
  subst this
  exact I
 |e::es,gs,g',i,h,l,I,hd=>by
  obtain⟨g1,h1,-,h3⟩:=h
  have he:l[i]? =some e:=by
   have:=congrArg List.head? hd
   simpa using this
  have hr:l.drop (i+1)=es:=by
   have:=congrArg List.tail hd
   simpa using this
  have hn:l[i+1]? =es.head?:=by rw[←hr];simp
  have hg:=h1 es.head? (fun _=>rfl)
  rw[←hn] at hg
  rcases stepG_is I he with⟨n,_,_,q⟩|⟨_,s',q,I'⟩
  ·rw[hg] at q;cases q
  ·rw[hg] at q
   cases q
   have:=h3.ig l I' hr
   have e2:i+1+es.length=i+(e::es).length:=by simp;omega
   rw[e2] at this
   exact this
def TrOK(l:List Ev):Prop:=l.length≤1300∧(∃g,Acc gs0 0 l g)∧l.getLast?.any serves=false
theorem TrOK.nil:TrOK []:=⟨Nat.zero_le _,⟨gs0,rfl⟩,rfl⟩
theorem TrOK.pre{l:List Ev}(h:TrOK l)(n:Nat):Chk (l.take n) (if (l.take n).getLast?.any serves=true then 4 else 0) (if (l.take n).getLast?.any serves=true then ((l.take n).length:Int) else 0):=by
 obtain⟨_,⟨g,hg⟩,_⟩:=h
 exact hg.chk n
theorem TrOK.all{l:List Ev}(h:TrOK l):Chk l 0 0:=by
 have:=h.pre l.length
 rw[List.take_length,h.2.2] at this
 simpa using this
end Gu
namespace Lo
open Ba
theorem run_ok{sc:Sh.Sc}(hs:Sh.schk sc=0):Gu.TrOK (runF sc).tr:=by
 have h200:sc.pl.length≤200:=(schk_ok hs).2.2.1
 obtain⟨gs,h⟩:=RI.steps hs sc.pl.length
 have h1:=(run_acc hs sc.pl.length (by omega)).1
 have ha:=h.acc.acc (i:=0) (EI.steps hs sc.pl.length).1.tr (by omega)
 refine⟨h1,⟨gs,ha⟩,?_⟩
 have ig:=ha.ig (stepsF sc.pl.length (newS sc)).tr (Gu.IG.nil _) (by simp)
 rw[Nat.zero_add] at ig
 exact ig.owed.symm.trans h.gi.ow
end Lo
namespace Ck
def nth(l:List Int)(k:Nat):Int:=l.getD k 0
theorem nth_out(l:List Int)(k:Nat)(h:l.length≤k):nth l k=0:=by simp[nth,h]
theorem nth_lt(l:List Int)(k:Nat)(h:k<l.length):nth l k=l[k]:=by simp[nth,h]
def gt(l:List Int)(t:Int):Int:=if t<0 then 0 else nth l t.toNat
theorem gt_neg(l:List Int)(t:Int)(h:t<0):gt l t=0:=by simp[gt,h]
theorem gt_nat(l:List Int)(k:Nat):gt l (k:Int)=nth l k:=by
 have:¬((k:Int)<0):=by omega
 simp[gt,this]
def At(w:World)(oa:Option Addr)(l:List Int):Prop:=
 ∀k,k<l.length→∃b off,oa=some ⟨b,off,none⟩∧w.cell? ⟨b,off+k,none⟩=some (.int .i64 (nth l k))
theorem At.ways{w:World}{oa:Option Addr}{l:List Int}(h:At w oa l):
 l=[]∨∃b off,oa=some ⟨b,off,none⟩∧∀k,k<l.length→w.cell? ⟨b,off+k,none⟩=some (.int .i64 (nth l k)):=by
 by_cases h0:l.length=0
 ·left;exact List.eq_nil_of_length_eq_zero h0
 ·right
  obtain⟨b,off,rfl,_⟩:=h 0 (by omega)
  refine⟨b,off,rfl,fun k hk=>?_⟩
  obtain⟨b',off',he,hc⟩:=h k hk
  simp at he
  obtain⟨rfl,rfl⟩:=he
  exact hc
def CK(w:World)(b:Nat)(l:List Int):Prop:=
 ∃oa c s,w.cell? ⟨b,0,none⟩=some (.slice oa l.length c)∧w.cell? ⟨b,1,none⟩=some (.bool s)∧At w oa l∧l.length≤256
theorem At.below{w w':World}{oa:Option Addr}{l:List Int}(h:At w oa l)(hb:Below w.heap.size w w'):At w' oa l:=by
 intro k hk
 obtain⟨b,off,he,hc⟩:=h k hk
 exact⟨b,off,he,(hb.cell (World.block_lt_of_cell? w _ hc)).trans hc⟩
theorem CK.below{w w':World}{b:Nat}{l:List Int}(h:CK w b l)(hb:Below w.heap.size w w'):CK w' b l:=by
 obtain⟨oa,c,s,h0,h1,h2,h3⟩:=h
 exact⟨oa,c,s,(hb.cell (World.block_lt_of_cell? w _ h0)).trans h0,(hb.cell (World.block_lt_of_cell? w _ h1)).trans h1,h2.below hb,h3⟩
theorem CK.lt{w:World}{b:Nat}{l:List Int}(h:CK w b l):b<w.heap.size:=by
 obtain⟨oa,c,s,h0,_⟩:=h
 exact World.block_lt_of_cell? w _ h0
theorem get_nil(t:Int)(w:World):
 Calls Tryz.prog 84 #[.pointer none,.int .i64 t] w fun r w'=>r=.returned (.int .i64 0)∧w'=w:=by
 go_enter Tryz.func84,Tryz.ntmps84
 go_wp2
 go_ret
 exact⟨rfl,rfl⟩
theorem get_any(b:Nat)(l:List Int)(t:Int)(w:World)(h:CK w b l):
 Calls Tryz.prog 84 #[.pointer (some ⟨b,0,none⟩),.int .i64 t] w fun r w'=>r=.returned (.int .i64 (gt l t))∧w'=w:=by
 obtain⟨oa,c,s,h0,_,h2,h3⟩:=h
 by_cases ht:t<0
 ·rw[gt_neg l t ht]
  go_enter Tryz.func84,Tryz.ntmps84
  go_wp2
  go_ret
  exact⟨rfl,rfl⟩
 obtain⟨k,rfl⟩:=Int.eq_ofNat_of_zero_le (by omega:0≤t)
 rw[gt_nat]
 clear ht
 by_cases hk:k<l.length
 ·obtain⟨b',off,rfl,hc⟩:=h2 k hk
  have hk':(k:Int)<(l.length:Int):=by omega
  go_enter Tryz.func84,Tryz.ntmps84
  go_wp2
  go_ret
  exact⟨rfl,rfl⟩
 ·rw[nth_out l k (by omega)]
  have hk':(l.length:Int)≤(k:Int):=by omega
  go_enter Tryz.func84,Tryz.ntmps84
  go_wp2
  go_ret
  exact⟨rfl,rfl⟩
def within(l m:List Int):Bool:=decide (∀k,k<l.length→nth l k≤nth m k)
theorem within_no(l m:List Int)(k:Nat)(hk:k<l.length)(h:nth m k<nth l k):within l m=false:=by
 simp only[within,decide_eq_false_iff_not]
 intro hh
 have:=hh k hk
 omega
theorem within_yes(l m:List Int)(h:∀k,k<l.length→nth l k≤nth m k):within l m=true:=by simpa [within] using h
theorem ret_bool{a b:Bool}(h:a=b):Ending.returned (.bool a)=.returned (.bool b):=by rw[h]
end Ck
namespace Ck
def tlen:List Int→Nat
 |[]=>0
 |x::r=>if tlen r=0∧x=0 then 0 else tlen r+1
def IsT(l:List Int)(k:Nat):Prop:=k≤l.length∧(∀j,k≤j→nth l j=0)∧(k=0∨nth l (k - 1)≠0)
theorem nth_cons_succ(x:Int)(r:List Int)(k:Nat):nth (x::r) (k+1)=nth r k:=by simp[nth]
theorem nth_cons_zero(x:Int)(r:List Int):nth (x::r) 0=x:=by simp[nth]
theorem tlen_is(l:List Int):IsT l (tlen l):=by
 induction l with
 |nil=>exact⟨Nat.le_refl _,fun j _=>by simp[nth],.inl rfl⟩
 |cons x r ih=>
  obtain⟨h1,h2,h3⟩:=ih
  by_cases h:tlen r=0∧x=0
  ·have e:tlen (x::r)=0:=by simp[tlen,h]
   rw[e]
   refine⟨Nat.zero_le _,fun j _=>?_,.inl rfl⟩
   cases j with
   |zero=>rw[nth_cons_zero];exact h.2
   |succ j=>rw[nth_cons_succ];exact h2 j (by omega)
  ·have e:tlen (x::r)=tlen r+1:=by simp only[tlen,if_neg h]
   rw[e]
   refine⟨by simpa using h1,fun j hj=>?_,.inr ?_⟩
   ·cases j with
    |zero=>omega
    |succ j=>rw[nth_cons_succ];exact h2 j (by omega)
   ·by_cases h0:tlen r=0
    ·rw[h0,Nat.zero_add,Nat.sub_self,nth_cons_zero];exact fun hx=>h ⟨h0,hx⟩
    ·rcases h3 with h3|h3
     ·exact absurd h3 h0
     ·have:tlen r+1 - 1=(tlen r - 1)+1:=by omega
      rw[this,nth_cons_succ];exact h3
theorem IsT.uniq{l:List Int}{k:Nat}(h:IsT l k):k=tlen l:=by
 obtain⟨_,h2,h3⟩:=h
 obtain⟨_,g2,g3⟩:=tlen_is l
 by_cases a:k<tlen l
 ·rcases g3 with g3|g3
  ·omega
  ·exact absurd (h2 (tlen l - 1) (by omega)) g3
 by_cases b:tlen l<k
 ·rcases h3 with h3|h3
  ·omega
  ·exact absurd (g2 (k - 1) (by omega)) h3
 omega
theorem tlen_le(l:List Int):tlen l≤l.length:=(tlen_is l).1
def trm(l:List Int):List Int:=l.take (tlen l)
theorem trm_length(l:List Int):(trm l).length=tlen l:=by simp[trm,tlen_le]
theorem nth_take(l:List Int)(n k:Nat)(h:k<n):nth (l.take n) k=nth l k:=by simp[nth,h]
theorem nth_trm(l:List Int)(k:Nat):nth (trm l) k=nth l k:=by
 by_cases h:k<tlen l
 ·exact nth_take l _ k h
 ·rw[nth_out _ _ (by rw[trm_length];omega),(tlen_is l).2.1 k (by omega)]
theorem ret_slice{a b:Option Addr}{n m c:Nat}(h:a=b)(h2:n=m):Ending.returned (.slice a n c)=.returned (.slice b m c):=by rw[h,h2]
theorem trim_any(oa:Option Addr)(l:List Int)(c:Nat)(w:World)(hA:At w oa l)(hl:l.length≤c)(hc:c≤maxLen):
 Calls Tryz.prog 156 #[.slice oa l.length c] w fun r w'=>r=.returned (.slice oa (tlen l) c)∧w'=w:=by
 unfold maxLen at hc
 go_enter Tryz.func156,Tryz.ntmps156
 go_wp2_with fail
 go_loop [3] (fun i=>∃k:Nat,k≤l.length∧i=.int .i64 k∧∀j,k≤j→nth l j=0) (fun i=>(intOf i).toNat)
 case atStart=>exact⟨l.length,Nat.le_refl _,rfl,fun j hj=>nth_out l j hj⟩
 case round=>
  obtain⟨k,hk,rfl,hall⟩:=hrel
  have HA:Hid (∀j,k≤j→nth l j=0):=hall
  clear hall
  by_cases h0:k=0
  ·subst h0
   have e:Hid (tlen l=0):=(IsT.uniq ⟨Nat.zero_le _,HA.out,.inl rfl⟩).symm
   clear HA hA
   go_wp2
   go_ret
   exact⟨ret_slice rfl e.out.symm,rfl⟩
  ·obtain⟨j,rfl⟩:∃j,k=j+1:=⟨k - 1,by omega⟩
   obtain⟨b,off,rfl,hcell⟩:=hA j (by omega)
   clear hA h0
   by_cases hz:nth l j=0
   ·have hz':(nth l j==0)=true:=by simpa using hz
    have HZ:Hid (nth l j=0):=hz
    clear hz
    go_wp2
    go_round
    case rel=>exact⟨j,by omega,by go_num,fun i hi=>by
     by_cases e:i=j
     ·subst e;exact HZ.out
     ·exact HA.out i (by omega)⟩
    case measure=>simp[intOf]
   ·have hz':(nth l j==0)=false:=by simpa using hz
    have e:Hid (tlen l=j+1):=(IsT.uniq ⟨by omega,HA.out,.inr (by simpa using hz)⟩).symm
    clear hz HA
    go_wp2
    go_ret
    exact⟨ret_slice rfl e.out.symm,rfl⟩
theorem info_int:(Tryz.prog.info? 3).map (fun i=>(i.zero,i.size,i.bytes))=some (some (.int .i64 0),1,8):=by kernel_rfl
def row(l:List Int):Array Value:=(l.map (Value.int .i64)).toArray
theorem row_size(l:List Int):(row l).size=l.length:=by simp[row]
theorem row_at(l:List Int)(k:Nat)(h:k<l.length):(row l)[k]? =some (.int .i64 (nth l k)):=by simp[row,nth,h]
theorem setRow_new(w:World)(cur data:Array Value)(t:TypeId):(w.alloc (.cells cur t)).setRow w.heap.size data=w.alloc (.cells data t):=by
 unfold World.setRow World.alloc
 congr 1
 apply Array.ext
 ·simp
 ·intro i h1 h2
  simp[Array.getElem_modify,Array.getElem_push]
  split
  ·simp_all
  ·have:i<w.heap.size:=by simp at h1;omega
   simp[this]
theorem heap_new(w:World)(o:Obj):(w.alloc o).heap[w.heap.size]? =some o:=by
 show (w.heap.push o)[w.heap.size]? =some o
 simp
theorem cell_of{w:World}{b:Nat}{cur:Array Value}{t:TypeId}{fr:Nat × Nat}(h:w.heap[b]? =some (.cells cur t fr))(k:Nat):w.cell? ⟨b,k,none⟩=cur[k]?:=by
 simp[World.cell?,h]
theorem At.new(w:World)(l:List Int)(t:TypeId):At (w.alloc (.cells (row l) t)) (some ⟨w.heap.size,0,none⟩) l:=by
 intro k hk
 refine⟨w.heap.size,0,rfl,?_⟩
 rw[Nat.zero_add,←row_at l k hk]
 exact cell_of (heap_new _ _) k
theorem run_mk(w:World)(n:Nat)(hn:n≤256):(Instr.makeSlice 23 (.int .i64 (n:Int)) (.int .i64 (n:Int))).run Tryz.prog w=.ok (.slice (some ⟨w.heap.size,0,none⟩) n n) (w.alloc (.cells (madeCells #[.int .i64 0] n) 3)):=by
 obtain⟨i0,hi,hz0,hz1,hz2⟩:=info_parts info_int
 have:=run_make (P:=Tryz.prog) w 23 3 i0 (.int .i64 0) Tryz.underlying23 hi hz0 .i64 .i64 n n (by omega) (Int.le_refl _) (by rw[hz2];omega) (by omega)
 rw[hz1] at this
 simpa [Value.cells] using this
theorem mk0:madeCells #[Value.int .i64 0] 0=#[]:=Array.eq_empty_of_size_eq_zero (size_madeCells _ _)
theorem run_cp(w:World)(oa:Option Addr)(l:List Int)(c:Nat)(ty:TypeId)(hA:At w oa l):
 (Builtin.copy_ #[23,23] ty #[.slice (some ⟨w.heap.size,0,none⟩) l.length l.length,.slice oa l.length c]).run Tryz.prog (w.alloc (.cells (madeCells #[.int .i64 0] l.length) 3))=.ok (goInt l.length) (w.alloc (.cells (row l) 3)):=by
 obtain⟨i0,hi,hz0,hz1,hz2⟩:=info_parts info_int
 have hsz:(Tryz.prog.info? 3).map (·.size)=some 1:=by simp[hi,hz1]
 by_cases h0:l.length=0
 ·have e:l=[]:=List.eq_nil_of_length_eq_zero h0
  subst e
  have:=run_copy_none (P:=Tryz.prog) (w.alloc (.cells (madeCells #[.int .i64 0] 0) 3)) 23 23 ty 3 (some ⟨w.heap.size,0,none⟩) oa 0 0 0 c Tryz.underlying23 hsz rfl
  rw[mk0] at this
  rw[List.length_nil,mk0]
  exact this
 ·obtain⟨b,off,rfl,_⟩:=hA 0 (by omega)
  have hA':=hA.below ((Below.refl w.heap.size w).alloc (Nat.le_refl _) (.cells (madeCells #[.int .i64 0] l.length) 3))
  have:=run_copy_row (P:=Tryz.prog) (w.alloc (.cells (madeCells #[.int .i64 0] l.length) 3)) 23 23 ty 3 w.heap.size 0 l.length l.length ⟨b,off,none⟩ l.length c (madeCells #[.int .i64 0] l.length) 3 (l.map (Value.int .i64))
   Tryz.underlying23 hsz (heap_new _ _) (by simp) (by
    intro j v hj
    have hjl:j<l.length:=by
     have:=(List.getElem?_eq_some_iff.1 hj).1
     simpa using this
    obtain⟨b',off',he,hcell⟩:=hA' j hjl
    simp at he
    obtain⟨rfl,rfl⟩:=he
    have hv:v=.int .i64 (nth l j):=by
     rw[nth_lt l j hjl]
     simp[hjl] at hj
     exact hj.symm
    rw[hv,←hcell,Addr.add_lit]) (by simp[size_madeCells]) (by
    intro v hv
    simp at hv
    obtain⟨n,_,rfl⟩:=hv
    rfl)
  rw[this,setRow_new]
  have hd:(madeCells #[Value.int .i64 0] l.length).toList.drop l.length=[]:=by
   apply List.drop_eq_nil_of_le
   simp[size_madeCells]
  simp[row,hd]
theorem dup_any(oa:Option Addr)(l:List Int)(c:Nat)(w:World)(hA:At w oa l)(hl:l.length≤256):
 Calls Tryz.prog 163 #[.slice oa l.length c] w fun r w'=>r=.returned (.slice (some ⟨w.heap.size,0,none⟩) l.length l.length)∧w'=w.alloc (.cells (row l) 3):=by
 have hm:=run_mk w l.length hl
 have hcp:=run_cp w oa l c 3 hA
 clear hA
 go_enter Tryz.func163,Tryz.ntmps163
 go_wp2
 go_ret
 exact⟨rfl,rfl⟩
theorem isNumber_any(n:Int)(w:World):
 Calls Tryz.prog 112 #[.int .i64 n] w fun r w'=>r=.returned (.bool (decide (0≤n)&&decide (n≤1048576)))∧w'=w:=by
 by_cases h1:0≤n<;>by_cases h2:n≤1048576
 all_goals
  go_enter Tryz.func112,Tryz.ntmps112
  go_wp2
  go_ret
  simp[h1,h2]
def okN(n:Int):Bool:=decide (0≤n)&&decide (n≤1048576)
theorem okN_iff(n:Int):okN n=true↔0≤n∧n≤1048576:=by simp[okN]
theorem isNumber_is(n:Int)(x:Bool)(h:okN n=x)(w:World):
 Calls Tryz.prog 112 #[.int .i64 n] w fun r w'=>r=.returned (.bool x)∧w'=w:=by
 have:=isNumber_any n w
 unfold okN at h
 rw[h] at this
 exact this
def Valid(l:List Int):Prop:=∀k,k<l.length→okN (nth l k)=true
end Ck
namespace Ck
theorem list_nil(w:World):
 Calls Tryz.prog 120 #[.pointer none] w fun r w'=>r=.returned (.slice none 0 0)∧w'=w:=by
 go_enter Tryz.func120,Tryz.ntmps120
 go_wp2
 go_ret
 exact⟨rfl,rfl⟩
theorem list_any(b:Nat)(l:List Int)(w:World)(h:CK w b l):
 Calls Tryz.prog 120 #[.pointer (some ⟨b,0,none⟩)] w fun r w'=>r=.returned (.slice (some ⟨w.heap.size,0,none⟩) l.length l.length)∧w'=w.alloc (.cells (row l) 3):=by
 obtain⟨oa,c,s,h0,_,hA,hL⟩:=h
 have HA:Hid (At w oa l):=hA
 clear hA
 go_enter Tryz.func120,Tryz.ntmps120
 go_wp2_with (go_at_call 163;refine (dup_any _ l _ _ HA.out hL).mono ?_;rintro r w' ⟨rfl,rfl⟩)
 go_ret
 exact⟨rfl,rfl⟩
theorem eq_of_nth{l m:List Int}(hl:l.length=m.length)(h:∀j,j<l.length→nth l j=nth m j):l=m:=by
 apply List.ext_getElem hl
 intro i h1 h2
 have:=h i h1
 rwa [nth_lt l i h1,nth_lt m i h2] at this
theorem ints_any(oa ob:Option Addr)(l m:List Int)(c d:Nat)(w:World)(hA:At w oa l)(hB:At w ob m)(hl:l.length≤256)(hm:m.length≤256):
 Calls Tryz.prog 14 #[.slice oa l.length c,.slice ob m.length d] w fun r w'=>r=.returned (.bool (decide (l=m)))∧∃q,w'=w.drewN q:=by
 have HA:Hid (At w oa l):=hA
 have HB:Hid (At w ob m):=hB
 clear hA hB
 go_enter Tryz.func14,Tryz.ntmps14
 go_wp2_with fail
 go_loopw [8] (fun i wr=>∃k:Nat,k≤l.length∧i=.int .i64 k∧(k≤m.length∧∀j,j<k→nth l j=nth m j)∧∃q,wr=w.drewN q) (fun i _=>l.length - (intOf i).toNat)
 case atStart=>exact⟨0,Nat.zero_le _,rfl,⟨Nat.zero_le _,fun j hj=>absurd hj (Nat.not_lt_zero _)⟩,0,rfl⟩
 case round=>
  obtain⟨k,hk,rfl,⟨hkm,hall⟩,q,rfl⟩:=hrel
  have HE:Hid (∀j,j<k→nth l j=nth m j):=hall
  clear hall
  by_cases hlt:k<l.length
  ·obtain⟨b1,o1,rfl,hc1⟩:=HA.out k hlt
   have hlt':(k:Int)<(l.length:Int):=by omega
   by_cases hlm:k<m.length
   ·obtain⟨b2,o2,rfl,hc2⟩:=HB.out k hlm
    have hlm':(k:Int)<(m.length:Int):=by omega
    have hg:decide ((m.length:Int)≤(k:Int))=false:=by simp;omega
    by_cases he:nth l k=nth m k
    ·have he':(nth l k !=nth m k)=false:=by simpa using he
     have HX:Hid (nth l k=nth m k):=he
     clear he
     go_wp2_with fail
     go_quiet (fail)
     go_wp2
     go_roundw
     case rel=>exact⟨k+1,by omega,by go_num,⟨by omega,fun j hj=>by
      by_cases e:j=k
      ·subst e;exact HX.out
      ·exact HE.out j (by omega)⟩,_,rfl⟩
     case measure=>simp[intOf];omega
    ·have he':(nth l k !=nth m k)=true:=by simpa using he
     have HX:Hid (l≠m):=fun e=>he (by rw[e])
     clear he
     go_wp2_with fail
     go_quiet (fail)
     go_wp2
     go_ret
     exact⟨ret_bool (by simpa using HX.out),by first|exact⟨_,rfl⟩|(rw[World.drewN_drewN];exact⟨_,rfl⟩)⟩
   ·have HX:Hid (l≠m):=fun e=>by subst e;exact hlm hlt
    have hg:decide ((m.length:Int)≤(k:Int))=true:=by simp;omega
    go_wp2_with fail
    go_quiet (fail)
    go_wp2
    go_ret
    exact⟨ret_bool (by simpa using HX.out),by first|exact⟨_,rfl⟩|(rw[World.drewN_drewN];exact⟨_,rfl⟩)⟩
  ·by_cases he:l.length=m.length
   ·have he':((l.length:Int)==(m.length:Int))=true:=by simp;omega
    have HX:Hid (l=m):=eq_of_nth he fun j hj=>HE.out j (by omega)
    clear he
    go_wp2
    go_ret
    exact⟨ret_bool (by simpa using HX.out),by first|exact⟨_,rfl⟩|(rw[World.drewN_drewN];exact⟨_,rfl⟩)⟩
   ·have he':((l.length:Int)==(m.length:Int))=false:=by simp;omega
    have HX:Hid (l≠m):=fun e=>he (by rw[e])
    clear he
    go_wp2
    go_ret
    exact⟨ret_bool (by simpa using HX.out),by first|exact⟨_,rfl⟩|(rw[World.drewN_drewN];exact⟨_,rfl⟩)⟩
end Ck
namespace Ck
structure Fr(X:Nat→Prop)(w w':World):Prop where
 os:w'.os=w.os
 tape:w'.tape=w.tape
 output:w'.output=w.output
 size:w.heap.size≤w'.heap.size
 block:∀k,k<w.heap.size→¬X k→w'.heap[k]? =w.heap[k]?
theorem Fr.refl(X:Nat→Prop)(w:World):Fr X w w:=⟨rfl,rfl,rfl,Nat.le_refl _,fun _ _ _=>rfl⟩
theorem Fr.trans{X Y:Nat→Prop}{a b c:World}(h:Fr X a b)(k:Fr Y b c)(hY:∀j,j<a.heap.size→Y j→X j):Fr X a c:=
 ⟨k.os.trans h.os,k.tape.trans h.tape,k.output.trans h.output,Nat.le_trans h.size k.size,fun j hj hx=>(k.block j (Nat.lt_of_lt_of_le hj h.size) (fun y=>hx (hY j hj y))).trans (h.block j hj hx)⟩
theorem Fr.alloc{X:Nat→Prop}{a w:World}(h:Fr X a w)(o:Obj):Fr X a (w.alloc o):=
 ⟨h.os,h.tape,h.output,Nat.le_trans h.size (by simp),fun k hk hx=>(Below.heap_alloc w o k (Nat.lt_of_lt_of_le hk h.size)).trans (h.block k hk hx)⟩
theorem Fr.drew{X:Nat→Prop}{a w:World}(h:Fr X a w):Fr X a w.drew:=⟨h.os,h.tape,h.output,h.size,h.block⟩
theorem Fr.setCell{X:Nat→Prop}{a w:World}(h:Fr X a w){p:Addr}(hp:X p.block∨a.heap.size≤p.block)(u:Value):Fr X a (w.setCell p u):=by
 have hb:Below 0 w (w.setCell p u):=(Below.refl 0 w).setCell (Nat.zero_le _) u
 refine⟨hb.os.trans h.os,hb.tape.trans h.tape,hb.output.trans h.output,Nat.le_trans h.size hb.size,fun k hk hx=>?_⟩
 rw[Below.heap_setCell w p u k (fun e=>by subst e;rcases hp with hp|hp;exact hx hp;omega)]
 exact h.block k hk hx
theorem Fr.setRow{X:Nat→Prop}{a w:World}(h:Fr X a w){g:Nat}(hp:X g)(cs:Array Value):Fr X a (w.setRow g cs):=
 ⟨h.os,h.tape,h.output,by simpa using h.size,fun k hk hx=>(setRow_other w g k cs (fun e=>hx (e ▸ hp))).trans (h.block k hk hx)⟩
structure Rep(w:World)(b:Nat)(l:List Int)(s:Bool)(g:Option Nat)(cap:Nat):Prop where
 head:w.heap[b]? =some (.cells #[.slice (g.map fun g=>⟨g,0,none⟩) l.length cap,.bool s] 135 (0,0))
 len:l.length≤256
 le:l.length≤cap
 mx:cap≤maxLen
 sh:s=true→cap=l.length
 nil:g=none→cap=0
 data:∀x,g=some x→x≠b∧∃cur,w.heap[x]? =some (.cells cur 3 (0,0))∧cap≤cur.size∧∀k,k<l.length→cur[k]? =some (.int .i64 (nth l k))
theorem frozen_of{w:World}{b:Nat}{cur:Array Value}{t:TypeId}(h:w.heap[b]? =some (.cells cur t (0,0)))(k:Nat):w.frozen? ⟨b,k,none⟩=false:=by
 simp[World.frozen?,h]
theorem Rep.at_{w:World}{b:Nat}{l:List Int}{s:Bool}{g:Option Nat}{cap:Nat}(h:Rep w b l s g cap):At w (g.map fun g=>⟨g,0,none⟩) l:=by
 intro k hk
 cases hg:g with
 |none=>have:=h.nil hg;have:=h.le;omega
 |some x=>
  obtain⟨_,cur,hc,_,hd⟩:=h.data x hg
  refine⟨x,0,rfl,?_⟩
  rw[Nat.zero_add,cell_of hc k]
  exact hd k hk
theorem Rep.ck{w:World}{b:Nat}{l:List Int}{s:Bool}{g:Option Nat}{cap:Nat}(h:Rep w b l s g cap):CK w b l:=
 ⟨_,cap,s,cell_of h.head 0,cell_of h.head 1,h.at_,h.len⟩
theorem Rep.lt{w:World}{b:Nat}{l:List Int}{s:Bool}{g:Option Nat}{cap:Nat}(h:Rep w b l s g cap):b<w.heap.size:=(Array.getElem?_eq_some_iff.1 h.head).1
theorem Rep.glt{w:World}{b:Nat}{l:List Int}{s:Bool}{g:Option Nat}{cap:Nat}(h:Rep w b l s g cap){x:Nat}(hx:g=some x):x<w.heap.size:=by
 obtain⟨_,cur,hc,_⟩:=h.data x hx
 exact (Array.getElem?_eq_some_iff.1 hc).1
theorem Rep.keep{w w':World}{b:Nat}{l:List Int}{s:Bool}{g:Option Nat}{cap:Nat}(h:Rep w b l s g cap)(h1:w'.heap[b]? =w.heap[b]?)(h2:∀x,g=some x→w'.heap[x]? =w.heap[x]?):Rep w' b l s g cap:=
 ⟨h1.trans h.head,h.len,h.le,h.mx,h.sh,h.nil,fun x hx=>by
   obtain⟨hne,cur,hc,rest⟩:=h.data x hx
   exact⟨hne,cur,(h2 x hx).trans hc,rest⟩⟩
def pad(l:List Int)(n:Nat):List Int:=l++List.replicate (n - l.length) 0
theorem pad_length(l:List Int)(n:Nat):(pad l n).length=max l.length n:=by simp[pad];omega
theorem nth_pad(l:List Int)(n k:Nat):nth (pad l n) k=nth l k:=by
 by_cases h:k<l.length
 ·simp[nth,pad,List.getElem?_append_left h]
 ·rw[nth_out l k (by omega)]
  by_cases h2:k<max l.length n
  ·rw[nth_lt _ _ (by rw[pad_length];exact h2)]
   simp only[pad]
   rw[List.getElem_append_right (by omega)]
   simp
  ·exact nth_out _ _ (by rw[pad_length];omega)
theorem pad_same(l:List Int)(n:Nat)(h:n≤l.length):pad l n=l:=by
 have:n - l.length=0:=by omega
 simp[pad,this]
def Mine(b:Nat)(s:Bool)(g:Option Nat):Nat→Prop:=fun k=>k=b∨(s=false∧g=some k)
def Nx(w:World)(s:Bool)(g:Option Nat)(s':Bool)(g':Option Nat):Prop:=(s'=s∧g'=g)∨(s'=false∧∃x,g'=some x∧w.heap.size≤x)
theorem heap_setCell_same{w:World}{b i:Nat}{cur:Array Value}{t:TypeId}{fr:Nat × Nat}(h:w.heap[b]? =some (.cells cur t fr))(v:Value):(w.setCell ⟨b,i,none⟩ v).heap[b]? =some (.cells (cur.setIfInBounds i v) t fr):=by
 rw[setCell_eq_setRow w b i cur t fr v h]
 exact setRow_heap w b cur _ t fr h
end Ck
namespace Ck
theorem hide{p:Prop}(h:p):Hid p:=h
def zer(k:Nat):List Value:=List.replicate k (.int .i64 0)
theorem zer_at(k i:Nat)(h:i<k):(zer k)[i]? =some (.int .i64 0):=by simp[zer,h]
theorem zeroCells_is(k:Nat):Builtin.zeroCells #[Value.int .i64 0] k=(zer k).toArray:=by
 apply Array.ext'
 simp only[Builtin.zeroCells,zer]
 apply List.ext_getElem
 ·simp
 ·intro i h1 h2
  simp[Nat.mod_one]
set_option maxRecDepth 100000 in
theorem run_grow(w:World)(oa:Option Addr)(l:List Int)(cap k:Nat)(ty:TypeId)(hA:At w oa l)(hk:0<k)(hg:cap<l.length+k)(hm:l.length+k≤256):
 ∃cap',l.length+k≤cap'∧cap'≤maxLen∧(Builtin.append_ #[23,3] ty #[.slice oa l.length cap,.int .i64 (k:Int)]).run Tryz.prog w=.ok (.slice (some ⟨w.heap.size,0,none⟩) (l.length+k) cap') (w.drew.alloc (.cells (row l++(zer (cap' - l.length)).toArray) 3)):=by
 obtain⟨i0,hi,hz0,hz1,hz2⟩:=info_parts info_int
 refine⟨grownCap w (l.length+k) cap 3,grownCap_ge _ _ _ _,grownCap_le_maxLen _ _ _ _ (by unfold maxLen;omega),?_⟩
 have hold:(Builtin.firstCells i0.size l.length (.slice oa l.length cap)).run Tryz.prog w.drew=.ok (row l) w.drew:=by
  rcases hA.ways with h0|⟨b,off,rfl,hc⟩
  ·subst h0
   cases oa with
   |none=>rfl
   |some a=>
    have:=run_loadCells_list (P:=Tryz.prog) w.drew a [] (by simp)
    simpa [Builtin.firstCells,row] using this
  ·have:=run_loadCells_list (P:=Tryz.prog) w.drew ⟨b,off,none⟩ (l.map (Value.int .i64)) (by
    intro j v hj
    have hjl:j<l.length:=by
     have:=(List.getElem?_eq_some_iff.1 hj).1
     simpa using this
    have hv:v=.int .i64 (nth l j):=by
     rw[nth_lt l j hjl]
     simp[hjl] at hj
     exact hj.symm
    rw[hv,←hc j hjl,Addr.add_lit]
    rfl)
   simpa [Builtin.firstCells,hz1,row] using this
 have hncap:Builtin.nextslicecap (l.length+k) cap≤1024:=by
  unfold Builtin.nextslicecap
  split
  ·omega
  ·split
   ·omega
   ·omega
 have:=Lib.run_append_grow_zeros (P:=Tryz.prog) w 23 3 ty 3 i0 (.int .i64 0) .i64 .i64 Tryz.underlying23 Tryz.underlying3 hi hz0 oa l.length cap (l.map (Value.int .i64)) hold k hk (by omega) hg (by omega) (by rw[hz2];omega) (by rw[hz2];omega)
 rw[this]
 have hge:=grownCap_ge w (l.length+k) cap 3
 have e1:(Value.int .i64 0).cells=#[Value.int .i64 0]:=rfl
 rw[e1,zeroCells_is,zeroCells_is]
 congr 3
 apply Array.ext'
 simp[row,zer]
 omega
theorem run_room(w:World)(g n cap k:Nat)(cur:Array Value)(ty:TypeId)(hc:w.heap[g]? =some (.cells cur 3 (0,0)))(hk:0<k)(hr:n+k≤cap)(hs:cap≤cur.size)(hm:k≤256):
 (Builtin.append_ #[23,3] ty #[.slice (some ⟨g,0,none⟩) n cap,.int .i64 (k:Int)]).run Tryz.prog w=.ok (.slice (some ⟨g,0,none⟩) (n+k) cap) (w.setRow g (cur.toList.take n++zer k++cur.toList.drop (n+k)).toArray):=by
 obtain⟨i0,hi,hz0,hz1,hz2⟩:=info_parts info_int
 have hk':k≠0:=by omega
 have hw:IntKind.i64.wrap (k:Int)=k:=by rw[IntKind.wrap_i64];omega
 have hneg:¬((k:Int)<0):=by omega
 have h48:¬(281474976710656<(k:Int)*8):=by omega
 have hst:=run_storeCells_at Tryz.prog g n 3 (zer k) 0 cur w hc (by simp[zer];omega) (by intro v hv;simp[zer] at hv;rw[hv.2];rfl)
 have e1:(Value.int .i64 0).cells=#[Value.int .i64 0]:=rfl
 simp[Builtin.append_,run_underlying Tryz.underlying23,run_underlying Tryz.underlying3,sizeOf,typeInfo,zeroValue,hi,hz0,hz1,hz2,asInt,asIntOf,hw,hneg,hk',h48,hr,e1,zeroCells_is,Addr.add_lit]
 simp at hst
 rw[hst]
 simp[Result.andThen,zer]
theorem own_keep(b:Nat)(l:List Int)(g:Option Nat)(cap n:Nat)(w:World)(h:Rep w b l false g cap)(hn:n≤l.length):
 Calls Tryz.prog 155 #[.pointer (some ⟨b,0,none⟩),.int .i64 (n:Int)] w fun r w'=>r=.returned (.tuple #[])∧w'=w.setCell ⟨b,1,none⟩ (.bool false):=by
 have c0:=cell_of h.head 0
 have c1:=cell_of h.head 1
 have f1:=frozen_of h.head 1
 have hl:=h.len
 simp at c0 c1
 clear h
 go_enter Tryz.func155,Tryz.ntmps155
 go_wp2
 go_end0
 exact⟨rfl,rfl⟩
theorem own_dup(b:Nat)(l:List Int)(g:Option Nat)(cap n:Nat)(w:World)(h:Rep w b l true g cap)(hn:n≤l.length):
 Calls Tryz.prog 155 #[.pointer (some ⟨b,0,none⟩),.int .i64 (n:Int)] w fun r w'=>r=.returned (.tuple #[])∧w'=((w.setCell ⟨b,0,none⟩ (.slice (some ⟨w.heap.size,0,none⟩) l.length l.length)).setCell ⟨b,1,none⟩ (.bool false)).alloc (.cells (row l) 3):=by
 have c0:=cell_of h.head 0
 have c1:=cell_of h.head 1
 have f0:=frozen_of h.head 0
 have f1:=frozen_of h.head 1
 have hb:=h.lt
 have hl:=h.len
 have HA:Hid (At w (g.map fun g=>⟨g,0,none⟩) l):=h.at_
 simp at c0 c1
 clear h
 go_enter Tryz.func155,Tryz.ntmps155
 go_wp2_with (go_at_call 163;refine (dup_any _ l _ _ HA.out hl).mono ?_;rintro r w' ⟨rfl,rfl⟩)
 go_end0
 exact⟨rfl,rfl⟩
theorem own_room(b:Nat)(l:List Int)(g cap n:Nat)(w W:World)(h:Rep w b l false (some g) cap)(hn:l.length<n)(hm:n≤256)
 (hrun:(Builtin.append_ #[23,3] 23 #[.slice (some ⟨g,0,none⟩) l.length cap,.int .i64 ((n:Int) - (l.length:Int))]).run Tryz.prog w=.ok (.slice (some ⟨g,0,none⟩) n cap) W)
 (hh:W.heap[b]? =w.heap[b]?):
 Calls Tryz.prog 155 #[.pointer (some ⟨b,0,none⟩),.int .i64 (n:Int)] w fun r w'=>r=.returned (.tuple #[])∧w'=(W.setCell ⟨b,0,none⟩ (.slice (some ⟨g,0,none⟩) n cap)).setCell ⟨b,1,none⟩ (.bool false):=by
 have c0:=cell_of h.head 0
 have hh2:=hh.trans h.head
 have d0:=cell_of hh2 0
 have d1:=cell_of hh2 1
 have f0:=frozen_of hh2 0
 have f1:=frozen_of hh2 1
 have hl:=h.len
 simp at c0 d0 d1
 have HR:=hide hrun
 clear h hh hh2 hrun
 go_enter Tryz.func155,Tryz.ntmps155
 go_wp2_with (at_builtin;refine Lib.wpList_append_run _ rfl _ _ 23 3 rfl _ _ rfl rfl _ _ HR.out ?_)
 go_end0
 exact⟨rfl,rfl⟩
theorem own_grow(b:Nat)(l:List Int)(s:Bool)(g:Option Nat)(cap cap' n:Nat)(w:World)(O:Array Value)(h:Rep w b l s g cap)(hn:l.length<n)(hm:n≤256)
 (hrun:(Builtin.append_ #[23,3] 23 #[.slice (g.map fun g=>⟨g,0,none⟩) l.length cap,.int .i64 ((n:Int) - (l.length:Int))]).run Tryz.prog w=.ok (.slice (some ⟨w.heap.size,0,none⟩) n cap') (w.drew.alloc (.cells O 3))):
 Calls Tryz.prog 155 #[.pointer (some ⟨b,0,none⟩),.int .i64 (n:Int)] w fun r w'=>r=.returned (.tuple #[])∧w'=(((w.setCell ⟨b,0,none⟩ (.slice (some ⟨w.heap.size,0,none⟩) n cap')).setCell ⟨b,1,none⟩ (.bool false)).alloc (.cells O 3)).drew:=by
 have c0:=cell_of h.head 0
 have c1:=cell_of h.head 1
 have f0:=frozen_of h.head 0
 have f1:=frozen_of h.head 1
 have hb:=h.lt
 have hl:=h.len
 simp at c0 c1
 have HR:=hide hrun
 clear h hrun
 go_enter Tryz.func155,Tryz.ntmps155
 go_wp2_with (at_builtin;refine Lib.wpList_append_run _ rfl _ _ 23 3 rfl _ _ rfl rfl _ _ HR.out ?_)
 go_end0
 exact⟨rfl,rfl⟩
theorem head2{W:World}{b:Nat}{v0 u0:Value}{t:TypeId}(h:W.heap[b]? =some (.cells #[v0,u0] t (0,0)))(v u:Value):
 ((W.setCell ⟨b,0,none⟩ v).setCell ⟨b,1,none⟩ u).heap[b]? =some (.cells #[v,u] t (0,0)):=
 heap_setCell_same (heap_setCell_same h v) u
theorem other2(W:World)(b:Nat)(v u:Value)(x:Nat)(h:x≠b):((W.setCell ⟨b,0,none⟩ v).setCell ⟨b,1,none⟩ u).heap[x]? =W.heap[x]?:=
 (Below.heap_setCell _ _ _ _ h).trans (Below.heap_setCell _ _ _ _ h)
theorem size2(W:World)(b:Nat)(v u:Value):((W.setCell ⟨b,0,none⟩ v).setCell ⟨b,1,none⟩ u).heap.size=W.heap.size:=by simp[World.setCell]
def Owned(w:World)(b:Nat)(l:List Int)(s:Bool)(g:Option Nat)(n:Nat)(w':World):Prop:=
 ∃g' cap',Rep w' b (pad l n) false g' cap'∧((s=false∧g'=g)∨∃x,g'=some x∧w.heap.size≤x)∧Fr (Mine b s g) w w'
theorem owned_keep{b:Nat}{l:List Int}{g:Option Nat}{cap n:Nat}{w:World}(h:Rep w b l false g cap)(hn:n≤l.length):
 Owned w b l false g n (w.setCell ⟨b,1,none⟩ (.bool false)):=by
 refine⟨g,cap,?_,.inl ⟨rfl,rfl⟩,(Fr.refl _ _).setCell (.inl (.inl rfl)) _⟩
 rw[pad_same l n hn]
 refine h.keep ?_ ?_
 ·rw[heap_setCell_same h.head,h.head]
  rfl
 ·intro x hx
  exact Below.heap_setCell _ _ _ _ (h.data x hx).1
theorem owned_new{b:Nat}{l:List Int}{s:Bool}{g:Option Nat}{cap cap' n m:Nat}{w:World}{O:Array Value}(h:Rep w b l s g cap)(hm:m≤256)(hml:(pad l n).length=m)(hc:m≤cap')(hx:cap'≤maxLen)(hs:cap'≤O.size)(hd:∀k,k<m→O[k]? =some (.int .i64 (nth l k))){W:World}
 (hW:W.heap=(((w.setCell ⟨b,0,none⟩ (.slice (some ⟨w.heap.size,0,none⟩) m cap')).setCell ⟨b,1,none⟩ (.bool false)).alloc (.cells O 3)).heap) (hF:Fr (Mine b s g) w W):
 Owned w b l s g n W:=by
 have hb:=h.lt
 have hsz:=size2 w b (.slice (some ⟨w.heap.size,0,none⟩) m cap') (.bool false)
 refine⟨some w.heap.size,cap',⟨?_,by omega,by omega,hx,fun e=>by simp at e,fun e=>by simp at e,?_⟩,.inr ⟨_,rfl,Nat.le_refl _⟩,hF⟩
 ·rw[hW,Below.heap_alloc _ _ _ (by omega),head2 h.head,hml]
  rfl
 ·intro x hx
  simp at hx
  subst hx
  refine⟨by omega,O,?_,hs,fun k hk=>?_⟩
  ·rw[hW]
   have:=heap_new ((w.setCell ⟨b,0,none⟩ (.slice (some ⟨w.heap.size,0,none⟩) m cap')).setCell ⟨b,1,none⟩ (.bool false)) (.cells O 3)
   rw[hsz] at this
   exact this
  ·rw[nth_pad]
   exact hd k (by omega)
theorem own_any(b:Nat)(l:List Int)(s:Bool)(g:Option Nat)(cap n:Nat)(w:World)(h:Rep w b l s g cap)(hn:n≤256):
 Calls Tryz.prog 155 #[.pointer (some ⟨b,0,none⟩),.int .i64 (n:Int)] w fun r w'=>r=.returned (.tuple #[])∧Owned w b l s g n w':=by
 by_cases hl:n≤l.length
 ·cases s
  ·refine (own_keep b l g cap n w h hl).mono ?_
   rintro r w' ⟨rfl,rfl⟩
   exact⟨rfl,owned_keep h hl⟩
  ·refine (own_dup b l g cap n w h hl).mono ?_
   rintro r w' ⟨rfl,rfl⟩
   refine⟨rfl,owned_new h h.len (by rw[pad_same l n hl]) (Nat.le_refl _) (Nat.le_trans h.le h.mx) (Nat.le_of_eq (row_size l).symm) (fun k hk=>row_at l k hk) rfl ?_⟩
   exact (((Fr.refl _ _).setCell (.inl (.inl rfl)) _).setCell (.inl (.inl rfl)) _).alloc _
 ·obtain⟨k,rfl⟩:∃k,n=l.length+k:=⟨n - l.length,by omega⟩
  have hk:0<k:=by omega
  have e:((l.length+k:Nat):Int) - (l.length:Int)=(k:Int):=by omega
  by_cases hr:l.length+k≤cap
  ·have hs:s=false:=by
    cases s
    ·rfl
    ·have:=h.sh rfl;omega
   subst hs
   cases g with
   |none=>have:=h.nil rfl;omega
   |some x=>
    obtain⟨hne,cur,hc,hcs,hcd⟩:=h.data x rfl
    have hrun:=run_room w x l.length cap k cur 23 hc hk hr hcs (by omega)
    rw[←e] at hrun
    have hW:(w.setRow x (cur.toList.take l.length++zer k++cur.toList.drop (l.length+k)).toArray).heap[b]? =w.heap[b]?:=setRow_other _ _ _ _ (fun q=>hne q.symm)
    refine (own_room b l x cap (l.length+k) w _ h (by omega) hn hrun hW).mono ?_
    rintro r w' ⟨rfl,rfl⟩
    refine⟨rfl,some x,cap,⟨?_,by rw[pad_length];omega,by rw[pad_length];omega,h.mx,fun q=>by simp at q,fun q=>by simp at q,?_⟩,.inl ⟨rfl,rfl⟩,?_⟩
    ·rw[head2 (hW.trans h.head),pad_length]
     have:max l.length (l.length+k)=l.length+k:=by omega
     rw[this]
     rfl
    ·intro y hy
     simp at hy
     subst hy
     refine⟨hne,_,(other2 _ _ _ _ _ hne).trans (setRow_heap _ _ _ _ _ _ hc),?_,fun j hj=>?_⟩
     ·simp[zer];omega
     ·rw[pad_length] at hj
      rw[nth_pad]
      by_cases hjl:j<l.length
      ·have:=hcd j hjl
       rw[←this]
       have hj2:j<cur.size:=by omega
       simp[List.getElem?_append,hjl,hj2]
       omega
      ·rw[nth_out l j (by omega)]
       have h1:(cur.toList.take l.length).length=l.length:=by simp;omega
       have h2:j - l.length<(zer k).length:=by simp[zer];omega
       simp only[List.getElem?_toArray]
       rw[List.append_assoc,List.getElem?_append_right (by omega),h1,List.getElem?_append_left h2]
       exact zer_at k _ (by omega)
    ·exact (((Fr.refl _ _).setRow (.inr ⟨rfl,rfl⟩) _).setCell (.inl (.inl rfl)) _).setCell (.inl (.inl rfl)) _
  ·obtain⟨cap',h1,h2,hrun⟩:=run_grow w _ l cap k 23 h.at_ hk (by omega) hn
   rw[←e] at hrun
   refine (own_grow b l s g cap cap' (l.length+k) w _ h (by omega) hn hrun).mono ?_
   rintro r w' ⟨rfl,rfl⟩
   refine⟨rfl,owned_new h hn (by rw[pad_length];omega) h1 h2 (by simp[row_size,zer];omega) (fun j hj=>?_) rfl ?_⟩
   ·by_cases hjl:j<l.length
    ·rw[Array.getElem?_append_left (by rw[row_size];exact hjl)]
     exact row_at l j hjl
    ·rw[nth_out l j (by omega),Array.getElem?_append_right (by rw[row_size];omega),row_size,List.getElem?_toArray]
     exact zer_at _ _ (by omega)
   ·exact ((((Fr.refl _ _).setCell (.inl (.inl rfl)) _).setCell (.inl (.inl rfl)) _).alloc _).drew
end Ck
namespace Ck
def Apart(b:Nat)(s:Bool)(g:Option Nat)(b2:Nat)(g2:Option Nat):Prop:=
 b2≠b∧g2≠some b∧(s=false→∀x,g=some x→x≠b2∧g2≠some x)
theorem Apart.next{w:World}{b b2:Nat}{s s':Bool}{g g' g2:Option Nat}(h:Apart b s g b2 g2)(hn:Nx w s g s' g')(h1:b2<w.heap.size)(h2:∀x,g2=some x→x<w.heap.size):Apart b s' g' b2 g2:=by
 refine⟨h.1,h.2.1,fun hs x hx=>?_⟩
 rcases hn with⟨rfl,rfl⟩|⟨_,y,hy,hle⟩
 ·exact h.2.2 hs x hx
 ·rw[hx] at hy
  simp at hy
  subst hy
  exact⟨by omega,fun e=>by have:=h2 x e;omega⟩
theorem Rep.fr{w w':World}{b b2:Nat}{s s2:Bool}{g g2:Option Nat}{m:List Int}{c2:Nat}(h:Rep w b2 m s2 g2 c2)(hF:Fr (Mine b s g) w w')(ha:Apart b s g b2 g2):Rep w' b2 m s2 g2 c2:=by
 refine h.keep (hF.block b2 h.lt ?_) fun x hx=>hF.block x (h.glt hx) ?_
 ·rintro (e|⟨hs,hg⟩)
  ·exact ha.1 e
  ·exact (ha.2.2 hs b2 hg).1 rfl
 ·rintro (e|⟨hs,hg⟩)
  ·subst e;exact ha.2.1 hx
  ·exact (ha.2.2 hs x hg).2 hx
theorem Nx.refl(w:World)(s:Bool)(g:Option Nat):Nx w s g s g:=.inl ⟨rfl,rfl⟩
theorem Nx.trans{w w1:World}{s s1 s2:Bool}{g g1 g2:Option Nat}(h:Nx w s g s1 g1)(k:Nx w1 s1 g1 s2 g2)(hs:w.heap.size≤w1.heap.size):Nx w s g s2 g2:=by
 rcases k with⟨rfl,rfl⟩|⟨e,x,hx,hle⟩
 ·exact h
 ·exact .inr ⟨e,x,hx,Nat.le_trans hs hle⟩
theorem Fr.next{w w1 w2:World}{b:Nat}{s s1:Bool}{g g1:Option Nat}(h:Fr (Mine b s g) w w1)(hn:Nx w s g s1 g1)(k:Fr (Mine b s1 g1) w1 w2):Fr (Mine b s g) w w2:=by
 refine h.trans k fun j hj hm=>?_
 rcases hm with e|⟨hs,hg⟩
 ·exact .inl e
 ·rcases hn with⟨rfl,rfl⟩|⟨_,x,hx,hle⟩
  ·exact .inr ⟨hs,hg⟩
  ·rw[hx] at hg
   simp at hg
   omega
theorem nth_set(l:List Int)(k j:Nat)(v:Int)(hk:k<l.length):nth (l.set k v) j=if j=k then v else nth l j:=by
 by_cases h:j=k
 ·subst h;simp[nth,hk]
 ·simp[nth,h,Ne.symm h]
theorem Rep.setNum{w:World}{b g cap k:Nat}{l:List Int}(h:Rep w b l false (some g) cap)(hk:k<l.length)(v:Int):Rep (w.setCell ⟨g,k,none⟩ (.int .i64 v)) b (l.set k v) false (some g) cap:=by
 obtain⟨hne,cur,hc,hcs,hcd⟩:=h.data g rfl
 refine⟨?_,by simpa using h.len,by simpa using h.le,h.mx,fun q=>by simp at q,fun q=>by simp at q,fun x hx=>?_⟩
 ·rw[Below.heap_setCell _ _ _ _ (Ne.symm hne),h.head]
  simp
 ·simp at hx
  subst hx
  have hle:=h.le
  refine⟨hne,_,heap_setCell_same hc _,by simpa using hcs,fun j hj=>?_⟩
  rw[nth_set l k j v hk]
  simp at hj
  by_cases e:j=k
  ·subst e
   have:j<cur.size:=by omega
   simp[this]
  ·rw[if_neg e,Array.getElem?_setIfInBounds_ne (Ne.symm e)]
   exact hcd j hj
theorem Owned.nx{w:World}{s:Bool}{g g':Option Nat}(h:(s=false∧g'=g)∨∃x,g'=some x∧w.heap.size≤x):Nx w s g false g':=by
 rcases h with⟨rfl,rfl⟩|⟨x,hx,hle⟩
 ·exact .inl ⟨rfl,rfl⟩
 ·exact .inr ⟨rfl,x,hx,hle⟩
def jn(l m:List Int):List Int:=(List.range (max l.length m.length)).map fun k=>max (nth l k) (nth m k)
theorem jn_length(l m:List Int):(jn l m).length=max l.length m.length:=by simp[jn]
theorem nth_jn(l m:List Int)(k:Nat):nth (jn l m) k=max (nth l k) (nth m k):=by
 by_cases h:k<max l.length m.length
 ·rw[nth_lt _ _ (by rw[jn_length];exact h)];simp[jn]
 ·rw[nth_out _ _ (by rw[jn_length];omega),nth_out l k (by omega),nth_out m k (by omega)];rfl
def Jr(w:World)(b:Nat)(l:List Int)(s:Bool)(g:Option Nat)(b2:Nat)(m:List Int)(s2:Bool)(g2:Option Nat)(c2 k:Nat)(x:Bool)(wr:World):Prop:=
 ∃l' s' g' cap',Rep wr b l' s' g' cap'∧Rep wr b2 m s2 g2 c2∧(∀j,nth l' j=if j<k then max (nth l j) (nth m j) else nth l j)∧
  ((x=true∧l'.length=max l.length m.length∧∃j,nth l j<nth m j)∨(x=false∧l'=l∧∀j,j<k→nth m j≤nth l j))∧Nx w s g s' g'∧Fr (Mine b s g) w wr
theorem Jr.start{w:World}{b:Nat}{l:List Int}{s:Bool}{g:Option Nat}{cap b2:Nat}{m:List Int}{s2:Bool}{g2:Option Nat}{c2:Nat}(h:Rep w b l s g cap)(h2:Rep w b2 m s2 g2 c2):Jr w b l s g b2 m s2 g2 c2 0 false w:=
 ⟨l,s,g,cap,h,h2,fun j=>by simp,.inr ⟨rfl,rfl,fun j hj=>absurd hj (Nat.not_lt_zero _)⟩,Nx.refl _ _ _,Fr.refl _ _⟩
theorem Jr.skip{w wr:World}{b:Nat}{l:List Int}{s:Bool}{g:Option Nat}{b2:Nat}{m:List Int}{s2:Bool}{g2:Option Nat}{c2 k:Nat}{x:Bool}(h:Jr w b l s g b2 m s2 g2 c2 k x wr)(hk:nth m k≤nth l k):Jr w b l s g b2 m s2 g2 c2 (k+1) x wr:=by
 obtain⟨l',s',g',cap',r1,r2,hn,hx,h3⟩:=h
 refine⟨l',s',g',cap',r1,r2,fun j=>?_,?_,h3⟩
 ·rw[hn j]
  by_cases e:j=k
  ·subst e
   rw[if_neg (Nat.lt_irrefl _),if_pos (Nat.lt_succ_self _)]
   omega
  ·by_cases hj:j<k
   ·rw[if_pos hj,if_pos (by omega)]
   ·rw[if_neg hj,if_neg (by omega)]
 ·rcases hx with hx|⟨e1,e2,e3⟩
  ·exact .inl hx
  ·refine .inr ⟨e1,e2,fun j hj=>?_⟩
   by_cases e:j=k
   ·subst e;exact hk
   ·exact e3 j (by omega)
theorem Jr.take{w wr w1:World}{b:Nat}{l:List Int}{s:Bool}{g:Option Nat}{b2:Nat}{m:List Int}{s2:Bool}{g2:Option Nat}{c2 k:Nat}{x:Bool}
 {l':List Int} {s':Bool} {g':Option Nat} {y cap'':Nat} (ha:Apart b s g b2 g2)
 (r2:Rep wr b2 m s2 g2 c2) (hn:∀j,nth l' j=if j<k then max (nth l j) (nth m j) else nth l j)
 (hx:(x=true∧l'.length=max l.length m.length∧∃j,nth l j<nth m j)∨(x=false∧l'=l∧∀j,j<k→nth m j≤nth l j))
 (nx:Nx w s g s' g') (fr:Fr (Mine b s g) w wr) (h2:b2<w.heap.size) (h3:∀z,g2=some z→z<w.heap.size)
 (o1:Rep w1 b (pad l' m.length) false (some y) cap'') (o2:(s'=false∧some y=g')∨∃z,some y=some z∧wr.heap.size≤z) (o3:Fr (Mine b s' g') wr w1)
 (hkm:k<m.length) (hk:nth l k<nth m k):
 Jr w b l s g b2 m s2 g2 c2 (k+1) true (w1.setCell ⟨y,k,none⟩ (.int .i64 (nth m k))):=by
 have hpl:k<(pad l' m.length).length:=by rw[pad_length];omega
 have nx1:Nx wr s' g' false (some y):=Owned.nx o2
 have nx2:Nx w s g false (some y):=nx.trans nx1 fr.size
 have fr1:Fr (Mine b s g) w w1:=fr.next nx o3
 have r2':Rep w1 b2 m s2 g2 c2:=r2.fr o3 (ha.next nx h2 h3)
 have fr2:Fr (Mine b false (some y)) w1 (w1.setCell ⟨y,k,none⟩ (.int .i64 (nth m k))):=(Fr.refl _ _).setCell (.inl (.inr ⟨rfl,rfl⟩)) _
 refine⟨(pad l' m.length).set k (nth m k),false,some y,cap'',o1.setNum hpl _,r2'.fr fr2 (ha.next nx2 h2 h3),fun j=>?_,.inl ⟨rfl,?_,k,hk⟩,nx2,fr1.next nx2 fr2⟩
 ·rw[nth_set _ _ _ _ hpl,nth_pad,hn j]
  by_cases e:j=k
  ·subst e
   rw[if_pos rfl,if_pos (Nat.lt_succ_self _)]
   omega
  ·rw[if_neg e]
   by_cases hj:j<k
   ·rw[if_pos hj,if_pos (by omega)]
   ·rw[if_neg hj,if_neg (by omega)]
 ·rw[List.length_set,pad_length]
  rcases hx with⟨_,e,_⟩|⟨_,e,_⟩
  ·rw[e];omega
  ·rw[e]
theorem join_of_nil(a:Addr)(w:World):
 Calls Tryz.prog 161 #[.pointer (some a),.pointer none] w fun r w'=>r=.returned (.bool false)∧w'=w:=by
 go_enter Tryz.func161,Tryz.ntmps161
 go_wp2
 go_ret
 exact⟨rfl,rfl⟩
theorem join_any(b b2:Nat)(l m:List Int)(s s2:Bool)(g g2:Option Nat)(cap c2:Nat)(w:World)(h:Rep w b l s g cap)(h2:Rep w b2 m s2 g2 c2)(ha:Apart b s g b2 g2):
 Calls Tryz.prog 161 #[.pointer (some ⟨b,0,none⟩),.pointer (some ⟨b2,0,none⟩)] w fun r w'=>∃x,r=.returned (.bool x)∧Jr w b l s g b2 m s2 g2 c2 m.length x w':=by
 have H:=hide h
 have H2:=hide h2
 have HA:=hide ha
 have c0:=cell_of h2.head 0
 simp at c0
 have hm:=h2.len
 clear h h2 ha
 go_enter Tryz.func161,Tryz.ntmps161
 go_wp2_with fail
 go_loopw [5,19] (fun ch i wr=>∃k:Nat,k≤m.length∧i=.int .i64 k∧∃x,ch=.bool x∧Jr w b l s g b2 m s2 g2 c2 k x wr) (fun _ i _=>m.length - (intOf i).toNat)
 case atStart=>exact⟨0,Nat.zero_le _,rfl,false,rfl,Jr.start H.out H2.out⟩
 case round=>
  obtain⟨k,hk,rfl,x,rfl,hj⟩:=hrel
  have HJ:=hide hj
  clear hj c0
  by_cases hlt:k<m.length
  ·obtain⟨l',s',g',cap',r1,r2,hn,hx,nx,fr⟩:=HJ.out
   obtain⟨y2,o2,e2,hc2⟩:=r2.at_ k hlt
   rw[e2]
   have d0:=cell_of r2.head 0
   simp at d0
   rw[e2] at d0
   have G:Hid (gt l' (k:Int)=nth l k):=by
    show _=_
    rw[gt_nat,hn k,if_neg (Nat.lt_irrefl _)]
   have R1:=hide r1
   have R2:=hide r2
   have HN:=hide hn
   have HX:=hide hx
   have NX:=hide nx
   have FR:=hide fr
   have E2:=hide e2
   clear r1 r2 hn hx nx fr e2
   by_cases hlt2:nth l k<nth m k
   ·go_wp2_with (first|(go_at_call 84;refine (get_any b l' _ _ R1.out.ck).mono ?_;rw[G.out];rintro r w' ⟨rfl,rfl⟩)|(go_at_call 155;refine (own_any b l' s' g' cap' m.length _ R1.out hm).mono ?_))
    rintro r w1 ⟨rfl,g1,cap1,o1,o2,o3⟩
    obtain⟨y,rfl⟩:∃y,g1=some y:=by
     cases g1 with
     |none=>have e1:=o1.nil rfl;have e2:=o1.le;rw[pad_length] at e2;omega
     |some y=>exact⟨y,rfl⟩
    obtain⟨hne,cur,hcur,hcs,hcd⟩:=o1.data y rfl
    have hpl:k<(pad l' m.length).length:=by rw[pad_length];omega
    have hpl':(k:Int)<((pad l' m.length).length:Int):=by omega
    have hpm:=o1.len
    have q0:=cell_of o1.head 0
    simp at q0
    have q1:=(cell_of hcur k).trans (hcd k hpl)
    have q2:=frozen_of hcur k
    have O1:=hide o1
    have O2:=hide o2
    have O3:=hide o3
    clear o1 o2 o3 hcur hcs hcd hc2 d0
    go_wp2
    go_roundw
    case rel=>exact⟨k+1,by omega,by go_num,true,rfl,Jr.take HA.out R2.out HN.out HX.out NX.out FR.out H2.out.lt (fun z hz=>H2.out.glt hz) O1.out O2.out O3.out hlt hlt2⟩
    case measure=>simp[intOf];omega
   ·go_wp2_with (first|(go_at_call 84;refine (get_any b l' _ _ R1.out.ck).mono ?_;rw[G.out];rintro r w' ⟨rfl,rfl⟩))
    go_roundw
    case rel=>exact⟨k+1,by omega,by go_num,x,rfl,HJ.out.skip (by omega)⟩
    case measure=>simp[intOf];omega
  ·have e:k=m.length:=by omega
   subst e
   go_wp2
   go_ret
   exact⟨x,rfl,HJ.out⟩
end Ck
namespace Ck
def Canon(l:List Int):Prop:=tlen l=l.length
theorem canon_trm(l:List Int):Canon (trm l):=by
 have h:IsT (trm l) (trm l).length:=by
  refine⟨Nat.le_refl _,fun j hj=>nth_out _ _ hj,?_⟩
  rw[trm_length,nth_trm]
  exact (tlen_is l).2.2
 exact h.uniq.symm
theorem canon_eq{l m:List Int}(hl:Canon l)(hm:Canon m)(h:∀j,nth l j=nth m j):l=m:=by
 have e:IsT l (tlen m):=by
  obtain⟨a,b,c⟩:=tlen_is m
  refine⟨?_,fun j hj=>(h j).trans (b j hj),?_⟩
  ·by_cases q:tlen m≤l.length
   ·exact q
   ·rcases c with c|c
    ·omega
    ·rw[←h,nth_out l _ (by omega)] at c
     exact absurd rfl c
  ·rcases c with c|c
   ·exact .inl c
   ·right;rw[h];exact c
 have e2:=e.uniq
 unfold Canon at hl hm
 exact eq_of_nth (by omega) fun j _=>h j
theorem Rep.trim{w:World}{b y cap:Nat}{l:List Int}(h:Rep w b l false (some y) cap):Rep (w.setCell ⟨b,0,none⟩ (.slice (some ⟨y,0,none⟩) (tlen l) cap)) b (trm l) false (some y) cap:=by
 have ht:=tlen_le l
 have h1:=h.len
 have h2:=h.le
 refine⟨?_,by rw[trm_length];omega,by rw[trm_length];omega,h.mx,fun q=>by simp at q,fun q=>by simp at q,fun x hx=>?_⟩
 ·rw[heap_setCell_same h.head,trm_length]
  rfl
 ·obtain⟨hne,cur,hc,hcs,hcd⟩:=h.data x hx
  refine⟨hne,cur,(Below.heap_setCell _ _ _ _ hne).trans hc,hcs,fun k hk=>?_⟩
  rw[trm_length] at hk
  rw[nth_trm]
  exact hcd k (by omega)
def Putted(w:World)(b:Nat)(l:List Int)(s:Bool)(g:Option Nat)(t:Nat)(n:Int)(w':World):Prop:=
 ∃l' s' g' cap',Rep w' b l' s' g' cap'∧Canon l'∧(∀j,nth l' j=if j=t then n else nth l j)∧Nx w s g s' g'∧Fr (Mine b s g) w w'
theorem putted_same{w:World}{b:Nat}{l:List Int}{s:Bool}{g:Option Nat}{cap t:Nat}{n:Int}(h:Rep w b l s g cap)(hc:Canon l)(hn:nth l t=n):Putted w b l s g t n w:=
 ⟨l,s,g,cap,h,hc,fun j=>by
   split
   ·subst j;exact hn
   ·rfl,Nx.refl _ _ _,Fr.refl _ _⟩
theorem putted_new{w w1:World}{b:Nat}{l:List Int}{s:Bool}{g:Option Nat}{t y cap1:Nat}{n:Int}
 (o1:Rep w1 b (pad l (t+1)) false (some y) cap1) (o2:(s=false∧some y=g)∨∃z,some y=some z∧w.heap.size≤z) (o3:Fr (Mine b s g) w w1):
 Putted w b l s g t n ((w1.setCell ⟨y,t,none⟩ (.int .i64 n)).setCell ⟨b,0,none⟩ (.slice (some ⟨y,0,none⟩) (tlen ((pad l (t+1)).set t n)) cap1)):=by
 have hp:t<(pad l (t+1)).length:=by rw[pad_length];omega
 have nx:=Owned.nx o2
 refine⟨_,false,some y,cap1,(o1.setNum hp n).trim,canon_trm _,fun j=>?_,nx,?_⟩
 ·rw[nth_trm,nth_set _ _ _ _ hp,nth_pad]
 ·exact o3.next nx (((Fr.refl _ _).setCell (.inl (.inr ⟨rfl,rfl⟩)) _).setCell (.inl (.inl rfl)) _)
theorem trim_n(oa:Option Addr)(l:List Int)(n c:Nat)(hn:l.length=n)(w:World)(hA:At w oa l)(hl:n≤c)(hc:c≤maxLen):
 Calls Tryz.prog 156 #[.slice oa n c] w fun r w'=>r=.returned (.slice oa (tlen l) c)∧w'=w:=by
 subst hn
 exact trim_any oa l c w hA hl hc
theorem put_any(b:Nat)(l:List Int)(s:Bool)(g:Option Nat)(cap t:Nat)(n:Int)(w:World)(h:Rep w b l s g cap)(hc:Canon l)(ht:t<256):
 Calls Tryz.prog 113 #[.pointer (some ⟨b,0,none⟩),.int .i64 (t:Int),.int .i64 n] w fun r w'=>r=.returned (.tuple #[])∧Putted w b l s g t n w':=by
 have H:=hide h
 have HC:=hide hc
 have G:Hid (gt l (t:Int)=nth l t):=gt_nat l t
 clear h hc
 by_cases he:nth l t=n
 ·have he':(nth l t==n)=true:=by simpa using he
  have HE:=hide he
  clear he
  go_enter Tryz.func113,Tryz.ntmps113
  go_wp2_with (go_at_call 84;refine (get_any b l _ _ H.out.ck).mono ?_;rw[G.out];rintro r w' ⟨rfl,rfl⟩)
  refine bodyPost_ret (results_none rfl _ _ _) rfl ?_
  exact⟨rfl,putted_same H.out HC.out HE.out⟩
 ·have he':(nth l t==n)=false:=by simpa using he
  clear he
  go_enter Tryz.func113,Tryz.ntmps113
  go_wp2_with (go_at_call 84;refine (get_any b l _ _ H.out.ck).mono ?_;rw[G.out];rintro r w' ⟨rfl,rfl⟩)
  rw[show ((t:Int)+1)=((t+1:Nat):Int) from by omega]
  refine (own_any b l s g cap (t+1) _ H.out (by omega)).mono ?_
  rintro r w1 ⟨rfl,g1,cap1,o1,o2,o3⟩
  obtain⟨y,rfl⟩:∃y,g1=some y:=by
   cases g1 with
   |none=>have e1:=o1.nil rfl;have e2:=o1.le;rw[pad_length] at e2;omega
   |some y=>exact⟨y,rfl⟩
  obtain⟨hne,cur,hcur,hcs,hcd⟩:=o1.data y rfl
  have hpl:t<(pad l (t+1)).length:=by rw[pad_length];omega
  have hpl':(t:Int)<((pad l (t+1)).length:Int):=by omega
  have hpm:=o1.len
  have q0:=cell_of o1.head 0
  have q4:=frozen_of o1.head 0
  simp at q0
  have q1:=(cell_of hcur t).trans (hcd t hpl)
  have q2:=frozen_of hcur t
  have O1:=hide o1
  have O2:=hide o2
  have O3:=hide o3
  have AT:=hide (o1.setNum hpl n).at_
  have LE:=hide o1.le
  have MX:=hide o1.mx
  clear o1 o2 o3 hcur hcs hcd
  go_wp2_with (go_at_call 156;refine (trim_n _ ((pad l (t+1)).set t n) _ _ (by simp) _ AT.out LE.out MX.out).mono ?_;rintro r w' ⟨rfl,rfl⟩)
  go_end0
  exact⟨rfl,putted_new O1.out O2.out O3.out⟩
theorem isTid_any(n:Int)(w:World):
 Calls Tryz.prog 111 #[.int .i64 n] w fun r w'=>r=.returned (.bool (decide (0≤n)&&decide (n<256)))∧w'=w:=by
 by_cases h1:0≤n<;>by_cases h2:n<256
 all_goals
  go_enter Tryz.func111,Tryz.ntmps111
  go_wp2
  go_ret
  simp[h1,h2]
def okT(n:Int):Bool:=decide (0≤n)&&decide (n<256)
theorem okT_iff(n:Int):okT n=true↔0≤n∧n<256:=by simp[okT]
theorem isTid_is(n:Int)(x:Bool)(h:okT n=x)(w:World):
 Calls Tryz.prog 111 #[.int .i64 n] w fun r w'=>r=.returned (.bool x)∧w'=w:=by
 have:=isTid_any n w
 unfold okT at h
 rw[h] at this
 exact this
theorem set_ok(b:Nat)(l:List Int)(s:Bool)(g:Option Nat)(cap t:Nat)(n:Int)(w:World)(h:Rep w b l s g cap)(hc:Canon l)(ht:t<256)(h2:okN n=true):
 Calls Tryz.prog 74 #[.pointer (some ⟨b,0,none⟩),.int .i64 (t:Int),.int .i64 n] w fun r w'=>r=.returned (.int .i64 0)∧Putted w b l s g t n w':=by
 have H:=hide h
 have HC:=hide hc
 have H1:Hid (okT (t:Int)=true):=by show _=_;rw[okT_iff];omega
 have H2:=hide h2
 clear h hc h2
 go_enter Tryz.func74,Tryz.ntmps74
 go_wp2_with (first|(go_at_call 111;refine (isTid_is _ true H1.out _).mono ?_;rintro r w' ⟨rfl,rfl⟩)|(go_at_call 112;refine (isNumber_is _ true H2.out _).mono ?_;rintro r w' ⟨rfl,rfl⟩)|(go_at_call 113;refine (put_any b l s g cap t n _ H.out HC.out ht).mono ?_))
 rintro r w1 ⟨rfl,hp⟩
 have HP:=hide hp
 clear hp
 go_wp2
 go_ret
 exact⟨rfl,HP.out⟩
def okM(n:Int):Bool:=decide (1≤n)&&decide (n≤1048576)
theorem okM_iff(n:Int):okM n=true↔1≤n∧n≤1048576:=by simp[okM]
theorem okM_okN(n:Int)(h:okM n=true):okN n=true:=by rw[okM_iff] at h;rw[okN_iff];omega
set_option maxRecDepth 100000 in
theorem tick_full(b:Nat)(l:List Int)(t:Nat)(n:Int)(w:World)(h:CK w b l)(ht:t<256)(h2:okM n=true)(hf:n≤nth l t):
 Calls Tryz.prog 164 #[.pointer (some ⟨b,0,none⟩),.int .i64 (t:Int),.int .i64 n] w fun r w'=>r=.returned (.int .i64 5)∧w'=w:=by
 have H:=hide h
 have H1:Hid (okT (t:Int)=true):=by show _=_;rw[okT_iff];omega
 have H2:=hide (okM_okN n h2)
 have h3:1≤n:=by rw[okM_iff] at h2;omega
 have G:Hid (gt l (t:Int)=nth l t):=gt_nat l t
 clear h h2
 go_enter Tryz.func164,Tryz.ntmps164
 go_wp2_with (first|(go_at_call 111;refine (isTid_is _ true H1.out _).mono ?_;rintro r w' ⟨rfl,rfl⟩)|(go_at_call 112;refine (isNumber_is _ true H2.out _).mono ?_;rintro r w' ⟨rfl,rfl⟩)|(go_at_call 84;refine (get_any b l _ _ H.out).mono ?_;rw[G.out];rintro r w' ⟨rfl,rfl⟩))
 go_ret
 exact⟨rfl,rfl⟩
set_option maxRecDepth 100000 in
theorem tick_ok(b:Nat)(l:List Int)(s:Bool)(g:Option Nat)(cap t:Nat)(n:Int)(w:World)(h:Rep w b l s g cap)(hc:Canon l)(ht:t<256)(h2:okM n=true)(h0:0≤nth l t)(hf:nth l t<n):
 Calls Tryz.prog 164 #[.pointer (some ⟨b,0,none⟩),.int .i64 (t:Int),.int .i64 n] w fun r w'=>r=.returned (.int .i64 0)∧Putted w b l s g t (nth l t+1) w':=by
 have H:=hide h
 have HC:=hide hc
 have H1:Hid (okT (t:Int)=true):=by show _=_;rw[okT_iff];omega
 have H2:=hide (okM_okN n h2)
 have h3:1≤n:=by rw[okM_iff] at h2;omega
 have h4:n≤1048576:=by rw[okM_iff] at h2;omega
 have G:Hid (gt l (t:Int)=nth l t):=gt_nat l t
 clear h h2 hc
 go_enter Tryz.func164,Tryz.ntmps164
 go_wp2_with (first|(go_at_call 111;refine (isTid_is _ true H1.out _).mono ?_;rintro r w' ⟨rfl,rfl⟩)|(go_at_call 112;refine (isNumber_is _ true H2.out _).mono ?_;rintro r w' ⟨rfl,rfl⟩)|(go_at_call 84;refine (get_any b l _ _ H.out.ck).mono ?_;rw[G.out];rintro r w' ⟨rfl,rfl⟩)|(go_at_call 113;refine (put_any b l s g cap t (nth l t+1) _ H.out HC.out ht).mono ?_))
 rintro r w1 ⟨rfl,hp⟩
 have HP:=hide hp
 clear hp
 go_wp2
 go_ret
 exact⟨rfl,HP.out⟩
theorem new_any(w:World):
 Calls Tryz.prog 39 #[] w fun r w'=>r=.returned (.pointer (some ⟨w.heap.size,0,none⟩))∧w'=w.alloc (.cells #[.slice none 0 0,.bool false] 135):=by
 go_enter Tryz.func39,Tryz.ntmps39
 go_wp2
 go_ret
 exact⟨rfl,rfl⟩
theorem new_rep(w:World):Rep (w.alloc (.cells #[.slice none 0 0,.bool false] 135)) w.heap.size [] false none 0:=
 ⟨heap_new _ _,by simp,Nat.le_refl _,Nat.zero_le _,fun q=>by simp at q,fun _=>rfl,fun x hx=>by simp at hx⟩
theorem copy_nil(w:World):
 Calls Tryz.prog 122 #[.pointer none] w fun r w'=>r=.returned (.pointer (some ⟨w.heap.size,0,none⟩))∧w'=w.alloc (.cells #[.slice none 0 0,.bool false] 135):=by
 go_enter Tryz.func122,Tryz.ntmps122
 go_wp2_with (go_at_call 39;refine (new_any _).mono ?_;rintro r w' ⟨rfl,rfl⟩)
 go_ret
 exact⟨rfl,rfl⟩
theorem copy_any(b:Nat)(l:List Int)(s:Bool)(g:Option Nat)(cap:Nat)(w:World)(h:Rep w b l s g cap):
 Calls Tryz.prog 122 #[.pointer (some ⟨b,0,none⟩)] w fun r w'=>r=.returned (.pointer (some ⟨w.heap.size,0,none⟩))∧
  w'=((w.setCell ⟨b,0,none⟩ (.slice (g.map fun g=>⟨g,0,none⟩) l.length l.length)).setCell ⟨b,1,none⟩ (.bool true)).alloc (.cells #[.slice (g.map fun g=>⟨g,0,none⟩) l.length l.length,.bool true] 135):=by
 have c0:=cell_of h.head 0
 have c1:=cell_of h.head 1
 have f0:=frozen_of h.head 0
 have f1:=frozen_of h.head 1
 have hb:=h.lt
 have hl:=h.len
 have hle:=h.le
 have hmx:=h.mx
 unfold maxLen at hmx
 simp at c0 c1
 clear h
 cases g with
 |none=>
  simp only[Option.map_none] at c0 ⊢
  go_enter Tryz.func122,Tryz.ntmps122
  go_wp2
  go_ret
  exact⟨rfl,rfl⟩
 |some x=>
  simp only[Option.map_some] at c0 ⊢
  go_enter Tryz.func122,Tryz.ntmps122
  go_wp2
  go_ret
  exact⟨rfl,rfl⟩
theorem copy_reps{b:Nat}{l:List Int}{s:Bool}{g:Option Nat}{cap:Nat}{w:World}(h:Rep w b l s g cap){W:World}
 (hW:W=((w.setCell ⟨b,0,none⟩ (.slice (g.map fun g=>⟨g,0,none⟩) l.length l.length)).setCell ⟨b,1,none⟩ (.bool true)).alloc (.cells #[.slice (g.map fun g=>⟨g,0,none⟩) l.length l.length,.bool true] 135)):
 Rep W b l true g l.length∧Rep W w.heap.size l true g l.length∧Fr (fun k=>k=b) w W∧W.heap.size=w.heap.size+1:=by
 subst hW
 have hb:=h.lt
 have hsz:=size2 w b (.slice (g.map fun g=>⟨g,0,none⟩) l.length l.length) (.bool true)
 have hle:=h.le
 have hmx:=h.mx
 have hold:∀x,g=some x→x≠b∧∃cur,(((w.setCell ⟨b,0,none⟩ (.slice (g.map fun g=>⟨g,0,none⟩) l.length l.length)).setCell ⟨b,1,none⟩ (.bool true)).alloc (.cells #[.slice (g.map fun g=>⟨g,0,none⟩) l.length l.length,.bool true] 135)).heap[x]? =some (.cells cur 3 (0,0))∧l.length≤cur.size∧∀k,k<l.length→cur[k]? =some (.int .i64 (nth l k)):=by
  intro x hx
  obtain⟨hne,cur,hc,hcs,hcd⟩:=h.data x hx
  have hxl:=h.glt hx
  exact⟨hne,cur,(Below.heap_alloc _ _ _ (by omega)).trans ((other2 _ _ _ _ _ hne).trans hc),by omega,hcd⟩
 refine⟨⟨?_,h.len,Nat.le_refl _,by omega,fun _=>rfl,fun q=>?_,hold⟩,⟨?_,h.len,Nat.le_refl _,by omega,fun _=>rfl,fun q=>?_,fun x hx=>⟨?_,(hold x hx).2⟩⟩,?_,?_⟩
 ·rw[Below.heap_alloc _ _ _ (by omega),head2 h.head]
 ·have:=h.nil q;omega
 ·have:=heap_new ((w.setCell ⟨b,0,none⟩ (.slice (g.map fun g=>⟨g,0,none⟩) l.length l.length)).setCell ⟨b,1,none⟩ (.bool true)) (.cells #[.slice (g.map fun g=>⟨g,0,none⟩) l.length l.length,.bool true] 135)
  rw[hsz] at this
  exact this
 ·have:=h.nil q;omega
 ·have:=h.glt hx;omega
 ·have f0:Fr (fun k=>k=b) w w:=Fr.refl _ _
  have f1:=f0.setCell (p:=⟨b,0,none⟩) (.inl rfl) (.slice (g.map fun g=>⟨g,0,none⟩) l.length l.length)
  have f2:=f1.setCell (p:=⟨b,1,none⟩) (.inl rfl) (.bool true)
  exact f2.alloc _
 ·simp[hsz]
end Ck
namespace Ck
theorem Rep.below{w w':World}{b:Nat}{l:List Int}{s:Bool}{g:Option Nat}{cap:Nat}(h:Rep w b l s g cap)(hb:Below w.heap.size w w'):Rep w' b l s g cap:=
 h.keep (hb.block b h.lt) fun x hx=>hb.block x (h.glt hx)
theorem btr{a b c:World}(h:Below a.heap.size a b)(k:Below b.heap.size b c):Below a.heap.size a c:=h.trans (k.mono h.size)
theorem below_alloc(w:World)(o:Obj):Below w.heap.size w (w.alloc o):=(Below.refl _ _).alloc (Nat.le_refl _) _
theorem bdrew(w:World)(q:Nat):Below w.heap.size w (w.drewN q):=⟨rfl,rfl,rfl,Nat.le_refl _,fun _ _=>rfl⟩
theorem At.lit(w:World)(l:List Int)(t:TypeId)(c:Array Value)(h:c=row l):At (w.alloc (.cells c t)) (some ⟨w.heap.size,0,none⟩) l:=by
 subst h
 exact At.new w l t
theorem ints_is(oa ob:Option Addr)(l m:List Int)(n k c d:Nat)(x:Bool)(hx:decide (l=m)=x)(hn:l.length=n)(hk:m.length=k)(w:World)(hA:At w oa l)(hB:At w ob m)(hl:n≤256)(hm:k≤256):
 Calls Tryz.prog 14 #[.slice oa n c,.slice ob k d] w fun r w'=>r=.returned (.bool x)∧∃q,w'=w.drewN q:=by
 subst hn hk hx
 exact ints_any oa ob l m c d w hA hB hl hm
end Ck
end Go.Proofs.YtogkjaekfhjelaaGreat
