import Derived.Test.YtogkjaekfhjelaaGreatZjSg11
import Derived.Test.YtogkjaekfhjelaaGreatZjSg16
import Derived.Test.YtogkjaekfhjelaaGreatZjSg17
import Derived.Maps.AppendAt
import Derived.Deep.RegionLaw
set_option maxHeartbeats 12800000
namespace Go.Proofs.YtogkjaekfhjelaaGreat
open Go.ChangeShapes Go.WideShapes Go.ChangeAt Go.RowKit
namespace Sp
open Ck Wa
open En (Ev)
section
variable {w:World}{S B:Nat}{st:Wst}{h:Nat→Option (List Int)}{es:List Ev}{cs:List Chn}{wm:Wm}{du:Option Nat}{p:Pl}{T:Nat→Prop}{H:List Int→Prop}{k i P z t b:Nat}{l:List Int}
set_option maxRecDepth 100000 in
theorem send_ok(s:SQ w S B st h es cs wm du p T H k)(e:Ev)(hg:(Lit.int .i64 e.g).wf=true)(hm:(Lit.int .i64 e.m).wf=true)(hf:st.f e.g=some (t,b))(hb:h b=some l)(hM:∀m,H m→max (nth l t) (nth m t)<(st.M:Int))(hc:e.c=(i:Int))(hi:ChAt cs i P z)(hk:k≤9000):
 Calls Tryz.prog 46 #[.pointer (some ⟨S,0,none⟩),En.evv e] w fun r w'=>∃R L m lb h' cs' wm' du' p',EvP w w' S B st h es T H k cs.length t b l true true r R L m lb h' cs' wm' du' p':=by
 have B2:=hide (s.bx e)
 have S2:=hide (s.two e)
 have HF:=hide (And.intro hg (And.intro hf (And.intro hb (And.intro hM (And.intro hi hk)))))
 have il:i<cs.length:=by obtain⟨x,hx,-⟩:=hi;exact (List.getElem?_eq_some_iff.1 hx).1
 have v1:((w.alloc (.cells #[.int .i64 e.k,.int .i64 e.g,.int .i64 e.c,.int .i64 e.a,.int .i64 e.v,.int .i64 e.m,.bool e.s,.bool e.o] 40)).alloc (.cells #[.int .u64 0,.slice none 0 0] 38)).cell? ⟨w.heap.size,2,none⟩=some (.int .i64 (i:Int)):=by rw[←hc];exact cell_of B2.out.e0 2
 have v5:((w.alloc (.cells #[.int .i64 e.k,.int .i64 e.g,.int .i64 e.c,.int .i64 e.a,.int .i64 e.v,.int .i64 e.m,.bool e.s,.bool e.o] 40)).alloc (.cells #[.int .u64 0,.slice none 0 0] 38)).cell? ⟨w.heap.size,5,none⟩=some (.int .i64 e.m):=cell_of B2.out.e0 5
 obtain⟨cb,-,y2,y0,yp⟩:=S2.out.chan hi
 obtain⟨y3,-⟩:=S2.out.look hm
 obtain⟨-,lk⟩:=(S2.out.below (Ba.bdrew1 _)).look hm
 have lk1:=fun o=>(((S2.out.box o).below (Ba.bdrew1 _)).look hm).2
 have l1:=World.block_lt_of_cell? _ _ v1
 have lS:=World.block_lt_of_cell? _ _ y2
 have lC:=World.block_lt_of_cell? _ _ y0
 obtain⟨pm,hpm⟩:=clv_ptr (wm e.m)
 rw[hpm] at lk lk1
 have HP:=hide hpm
 have FM:=hide (fun c (q:wm e.m=some c)=>S2.out.kp c (.inr (.inl ⟨_,q⟩)))
 have i0:(0:Int)≤(i:Int):=by omega
 have i1:(i:Int)<(cs.length:Int):=by omega
 unfold En.evv En.evc
 clear s hg hm hf hb hM hi hc hpm hk
 go_enter Tryz.func46,Tryz.ntmps46
 go_upto_region 1 with fail
 generalize (w.alloc (.cells #[.int .i64 e.k,.int .i64 e.g,.int .i64 e.c,.int .i64 e.a,.int .i64 e.v,.int .i64 e.m,.bool e.s,.bool e.o] 40)).alloc (.cells #[.int .u64 0,.slice none 0 0] 38)=w1 at*
 go_region
 have b3:=btr (below_alloc w1 (.cells #[.int .i64 (z:Int),.pointer (some ⟨P,0,none⟩)] 150)) (Ba.bdrew1 _)
 have S3:=hide ((S2.out.box (.cells #[.int .i64 (z:Int),.pointer (some ⟨P,0,none⟩)] 150)).below (Ba.bdrew1 _))
 have B3:=hide (B2.out.below b3)
 have C3:=hide (Ba.heap_below (heap_new w1 (.cells #[.int .i64 (z:Int),.pointer (some ⟨P,0,none⟩)] 150)) (Ba.bdrew1 _))
 have PK:=hide (S3.out.peek HF.out.2.2.2.2.1 true)
 have c1:(w1.alloc (.cells #[.int .i64 (z:Int),.pointer (some ⟨P,0,none⟩)] 150)).drew.cell? ⟨w1.heap.size,1,none⟩=some (.pointer (some ⟨P,0,none⟩)):=cell_of C3.out 1
 have K3:=hide (Kp.of (X:=T2 w T) b3 fun k q=>S2.out.ss.tlt q)
 clear b3 lk lk1 l1 lS lC v1 v5 y2 y0 yp y3
 go_wp2_with fail
 generalize (w1.alloc (.cells #[.int .i64 (z:Int),.pointer (some ⟨P,0,none⟩)] 150)).drew=w3 at*
 generalize w1.heap.size=C at*
 refine PK.out.mono ?_
 rintro r w4 ⟨q,E,h4,cs4,rfl,op⟩
 obtain⟨pq,hpq⟩:=clv_ptr q
 have HQ:=hide hpq
 have OP:=hide op
 rw[hpq]
 have B4:=hide (B3.out.step op.kp fun _ q=>.inl (.inl q))
 have C4:=hide (kp_heap op.kp C3.out (.inl (.inr rfl)))
 have d0:w4.cell? ⟨C,0,none⟩=some (.int .i64 (z:Int)):=cell_of C4.out 0
 clear op hpq PK
 obtain⟨zb,hzb⟩:∃zb,decide ((z:Int)=0)=zb:=⟨_,rfl⟩
 have hzb2:((z:Int)==0)=zb:=hzb
 obtain⟨sv,hsv⟩:∃sv,(e.m !=-1)=sv:=⟨_,rfl⟩
 have LE:=hide (OP.out.sq.learn e.g HF.out.1 t b l HF.out.2.1 (OP.out.ext _ _ HF.out.2.2.1) (q:=cond zb (wm e.m) q) (by cases zb;exact OP.out.fv;exact fun c q=>(FM.out c q).nx (fun c l _ e=>OP.out.ext c l e) fun _ q=>q))
 rw[show Sl.clv (cond zb (wm e.m) q)=.pointer (cond zb pm pq) from by cases zb;exact HQ.out;exact HP.out] at LE
 have v1:w4.cell? ⟨w.heap.size,1,none⟩=some (.int .i64 e.g):=cell_of B4.out.e0 1
 have d1:w4.cell? ⟨C,1,none⟩=some (.pointer (some ⟨P,0,none⟩)):=cell_of C4.out 1
 clear c1
 cases zb
 all_goals as_aux_lemma=>
  simp only[cond_true,cond_false] at LE
  go_wp2_with fail
  refine LE.out.mono ?_
  rintro r w5 ⟨R,L,m,h5,rfl,le⟩
  obtain⟨ev,hev⟩:∃z,epk (t:Int) (nth L t)=z:=⟨_,rfl⟩
  obtain⟨n,hn⟩:∃n,L.length=n:=⟨_,rfl⟩
  rw[hev,hn]
  have HE:=hide (And.intro hev hn)
  have LP:=hide le
  have b6:=below_alloc w5 (.cells #[.int .u64 ev,.slice (some ⟨R,0,none⟩) n n] 38)
  have S6:=hide (le.sq.box (.cells #[.int .u64 ev,.slice (some ⟨R,0,none⟩) n n] 38))
  have E6:=hide (heap_new w5 (.cells #[.int .u64 ev,.slice (some ⟨R,0,none⟩) n n] 38))
  have B6:=hide ((B4.out.step le.kp fun _ q=>.inl (.inl q)).below b6)
  have C6:=hide (Ba.heap_below (kp_heap le.kp C4.out (.inl (.inr rfl))) b6)
  have A6:=hide (le.at_.below b6)
  have v6:(w5.alloc (.cells #[.int .u64 ev,.slice (some ⟨R,0,none⟩) n n] 38)).cell? ⟨w.heap.size,1,none⟩=some (.int .i64 e.g):=cell_of B6.out.e0 1
  have c6:(w5.alloc (.cells #[.int .u64 ev,.slice (some ⟨R,0,none⟩) n n] 38)).cell? ⟨C,1,none⟩=some (.pointer (some ⟨P,0,none⟩)):=cell_of C6.out 1
  have TE:=hide (fun u (q:Below (w5.alloc (.cells #[.int .u64 ev,.slice (some ⟨R,0,none⟩) n n] 38)).heap.size (w5.alloc (.cells #[.int .u64 ev,.slice (some ⟨R,0,none⟩) n n] 38)) u)=>(S6.out.below q).tell e.g HF.out.1 t b L HF.out.2.1 LP.out.hb (by rw[LP.out.mx];exact HF.out.2.2.2.1 m LP.out.hm))
  have LT:=hide (show w.heap.size+1<R by have:=LP.out.new;have:=B4.out.lt2;omega)
  have AT:=hide OP.out.at_
  have HK:=hide (show k+1≤10000 by have:=HF.out.2.2.2.2.2;omega)
  clear le LE b6 hev hn v1
  go_upto_region 6 with fail
  generalize w5.alloc (.cells #[.int .u64 ev,.slice (some ⟨R,0,none⟩) n n] 38)=w6 at*
  generalize w5.heap.size=Q at*
  go_region_held3 (fun w'=>w'.cell? ⟨C,1,none⟩=some (.pointer (some ⟨P,0,none⟩))∧w'.cell? ⟨w.heap.size,1,none⟩=some (.int .i64 e.g))
   (first|(go_keep;done)|exact⟨c6,v6⟩|exact⟨q1,q2⟩|exact⟨z1,z2⟩)
   (first
     |(go_at_call 87;refine (TE.out _ (Ba.bdrew1 _)).mono ?_;rintro r w7 ⟨A,l',h7,rfl,te⟩;have q1:=cell_blk (w:=w6) c6 (te.kp.block C (.inl (.inl (.inl (.inr rfl)))));have q2:=cell_blk (w:=w6) v6 (te.kp.block w.heap.size (.inl (.inl (.inl (.inl (.inl (.inr rfl)))))));have TP:=hide te;clear te;have SD:=hide (TP.out.sq.send AT.out (c:=some A) (fun a q=>Option.some.inj q ▸ TP.out.fv) HK.out);rw[clv_some] at SD)
     |(go_at_call 90;refine SD.out.mono ?_;rintro r w8 ⟨q8,E8,h8,cs8,rfl,o8⟩;have z1:=cell_blk q1 (o8.kp.block C (.inl (.inl (.inl (.inr rfl)))));have z2:=cell_blk q2 (o8.kp.block w.heap.size (.inl (.inl (.inl (.inl (.inl (.inr rfl)))))))))
  rename_i hh
  have B8:=hide (((B6.out.below (Ba.bdrew1 w6)).step TP.out.kp fun _ q=>.inl (.inl (.inl (.inl q)))).step o8.kp fun _ q=>.inl (.inl (.inl (.inl q))))
  have e8:=hide (kp_heap o8.kp (kp_heap TP.out.kp E6.out (.inl (.inr rfl))) (.inl (.inr rfl)))
  have A8:=hide (atK (atK (A6.out.below (Ba.bdrew1 w6)) TP.out.kp (.inl (.inl (.inr rfl)))) o8.kp (.inl (.inl (.inr rfl))))
  have O8:=hide o8
  have v5:w8.cell? ⟨w.heap.size,5,none⟩=some (.int .i64 e.m):=cell_of B8.out.e0 5
  clear hh q1 q2 z2 c6 v6 o8 TE SD
  have f0:w8.frozen? ⟨w.heap.size+1,0,none⟩=false:=frozen_of B8.out.z0 0
  have f1:w8.frozen? ⟨w.heap.size+1,1,none⟩=false:=frozen_of B8.out.z0 1
  have d0:w8.cell? ⟨w.heap.size+1,0,none⟩=some (.int .u64 0):=cell_of B8.out.z0 0
  have d1:w8.cell? ⟨w.heap.size+1,1,none⟩=some (.slice none 0 0):=cell_of B8.out.z0 1
  have g0:w8.cell? ⟨Q,0,none⟩=some (.int .u64 ev):=cell_of e8.out 0
  have g1:w8.cell? ⟨Q,1,none⟩=some (.slice (some ⟨R,0,none⟩) n n):=cell_of e8.out 1
  cases sv
  ·as_aux_lemma=>
   go_wp2_with fail
   have lt:=LT.out
   exact bodyPost_ret (En.results_row1 Tryz.results46 _ _ _ _ rfl (loadVar_stp (two_set _ _ B8.out.z0 rfl) rfl)) rfl ⟨R,L,m,l',h8,cs8,wm,du,p,by rw[HE.out.1,HE.out.2],st2A A8.out (by omega) _ _,by omega,(O8.out.sq.fill _ _ (.inl (.inl (.inl (.inr rfl)))) fun j q=>by rcases q with q|q;exact .inl (.inl (.inl (.inl (.inl q))));exact .inl (.inr q)).up (by omega),B8.out.fill _ _,LP.out.hm,LP.out.mx,(fun q=>nomatch q),O8.out.ext _ _ TP.out.hb,TP.out.set,(One.ext OP.out.ext).trans (LP.out.one.trans (TP.out.one.trans (One.ext O8.out.ext))),O8.out.len.trans OP.out.len,LP.out.cn⟩
  ·as_aux_lemma=>
   have RC:=hide (O8.out.sq.recv O8.out.at_ (c:=wm e.m) (fun c q=>(FM.out c q).nx (fun c l n e=>O8.out.ext c l ((TP.out.one.nx ⟨_,_,HF.out.2.1⟩) c l n ((LP.out.one.nx ⟨_,_,HF.out.2.1⟩) c l n (OP.out.ext c l e)))) fun _ q=>.inl q) (by have:=HF.out.2.2.2.2.2;omega))
   rw[HP.out] at RC
   go_wp2_with fail
   refine RC.out.mono ?_
   rintro r w9 ⟨q9,E9,h9,cs9,rfl,o9⟩
   obtain⟨p9,hp9⟩:=clv_ptr q9
   obtain⟨s10,k10,f4⟩:=o9.sq.due (du':=q9) o9.fv
   obtain⟨pd,hpd⟩:=clv_ptr du
   have y4:=o9.sq.ss.cellS.2
   have O9:=hide o9
   have S10:=hide s10
   rw[hp9] at S10 k10 ⊢
   rw[hpd] at y4
   have B9:=hide ((B8.out.step o9.kp fun _ q=>.inl (.inl (.inl (.inl q)))).step k10 fun _ q=>.inl (.inl (.inl q)))
   have e9:=kp_heap k10 (kp_heap o9.kp e8.out (.inl (.inr rfl))) (.inr rfl)
   have A9:=hide (atK (atK A8.out o9.kp (.inl (.inl (.inr rfl)))) k10 (.inl (.inr rfl)))
   have f0:(w9.setCell ⟨S,4,none⟩ (.pointer p9)).frozen? ⟨w.heap.size+1,0,none⟩=false:=frozen_of B9.out.z0 0
   have f1:(w9.setCell ⟨S,4,none⟩ (.pointer p9)).frozen? ⟨w.heap.size+1,1,none⟩=false:=frozen_of B9.out.z0 1
   have d0:(w9.setCell ⟨S,4,none⟩ (.pointer p9)).cell? ⟨w.heap.size+1,0,none⟩=some (.int .u64 0):=cell_of B9.out.z0 0
   have d1:(w9.setCell ⟨S,4,none⟩ (.pointer p9)).cell? ⟨w.heap.size+1,1,none⟩=some (.slice none 0 0):=cell_of B9.out.z0 1
   have g0:(w9.setCell ⟨S,4,none⟩ (.pointer p9)).cell? ⟨Q,0,none⟩=some (.int .u64 ev):=cell_of e9 0
   have g1:(w9.setCell ⟨S,4,none⟩ (.pointer p9)).cell? ⟨Q,1,none⟩=some (.slice (some ⟨R,0,none⟩) n n):=cell_of e9 1
   clear o9 s10 k10 RC hp9 e9
   go_wp2_with fail
   have lt:=LT.out
   exact bodyPost_ret (En.results_row1 Tryz.results46 _ _ _ _ rfl (loadVar_stp (two_set _ _ B9.out.z0 rfl) rfl)) rfl ⟨R,L,m,l',h9,cs9,wm,q9,p,by rw[HE.out.1,HE.out.2],st2A A9.out (by omega) _ _,by omega,(S10.out.fill _ _ (.inl (.inl (.inl (.inr rfl)))) fun j q=>by rcases q with q|q;exact .inl (.inl (.inl (.inl (.inl q))));exact .inl (.inr q)).up (by omega),B9.out.fill _ _,LP.out.hm,LP.out.mx,(fun q=>nomatch q),O9.out.ext _ _ (O8.out.ext _ _ TP.out.hb),TP.out.set,(One.ext OP.out.ext).trans (LP.out.one.trans (TP.out.one.trans ((One.ext O8.out.ext).trans (One.ext O9.out.ext)))),O9.out.len.trans (O8.out.len.trans OP.out.len),LP.out.cn⟩
end
end Sp
namespace Sp
open Ck Wa
open En (Ev)
section
variable {w:World}{S B:Nat}{st:Wst}{h:Nat→Option (List Int)}{es:List Ev}{cs:List Chn}{wm:Wm}{du:Option Nat}{p:Pl}{T:Nat→Prop}{H:List Int→Prop}{k i P z t b:Nat}{l:List Int}
set_option maxRecDepth 100000 in
theorem rcv_ok(s:SQ w S B st h es cs wm du p T H k)(e:Ev)(hg:(Lit.int .i64 e.g).wf=true)(hm:(Lit.int .i64 e.m).wf=true)(hf:st.f e.g=some (t,b))(hb:h b=some l)(hM:∀m,H m→max (nth l t) (nth m t)<(st.M:Int))(hc:e.c=(i:Int))(hi:ChAt cs i P z)(hk:k≤9000):
 Calls Tryz.prog 47 #[.pointer (some ⟨S,0,none⟩),En.evv e] w fun r w'=>∃R L m lb h' cs' wm' du' p',EvP w w' S B st h es T H k cs.length t b l true true r R L m lb h' cs' wm' du' p':=by
 have B2:=hide (s.bx e)
 have S2:=hide (s.two e)
 have HF:=hide (And.intro hg (And.intro hf (And.intro hb (And.intro hM (And.intro hi hk)))))
 have il:i<cs.length:=by obtain⟨x,hx,-⟩:=hi;exact (List.getElem?_eq_some_iff.1 hx).1
 have v0:((w.alloc (.cells #[.int .i64 e.k,.int .i64 e.g,.int .i64 e.c,.int .i64 e.a,.int .i64 e.v,.int .i64 e.m,.bool e.s,.bool e.o] 40)).alloc (.cells #[.int .u64 0,.slice none 0 0] 38)).cell? ⟨w.heap.size,0,none⟩=some (.int .i64 e.k):=cell_of B2.out.e0 0
 have v1:((w.alloc (.cells #[.int .i64 e.k,.int .i64 e.g,.int .i64 e.c,.int .i64 e.a,.int .i64 e.v,.int .i64 e.m,.bool e.s,.bool e.o] 40)).alloc (.cells #[.int .u64 0,.slice none 0 0] 38)).cell? ⟨w.heap.size,1,none⟩=some (.int .i64 e.g):=cell_of B2.out.e0 1
 have v2:((w.alloc (.cells #[.int .i64 e.k,.int .i64 e.g,.int .i64 e.c,.int .i64 e.a,.int .i64 e.v,.int .i64 e.m,.bool e.s,.bool e.o] 40)).alloc (.cells #[.int .u64 0,.slice none 0 0] 38)).cell? ⟨w.heap.size,2,none⟩=some (.int .i64 e.c):=cell_of B2.out.e0 2
 have v3:((w.alloc (.cells #[.int .i64 e.k,.int .i64 e.g,.int .i64 e.c,.int .i64 e.a,.int .i64 e.v,.int .i64 e.m,.bool e.s,.bool e.o] 40)).alloc (.cells #[.int .u64 0,.slice none 0 0] 38)).cell? ⟨w.heap.size,3,none⟩=some (.int .i64 e.a):=cell_of B2.out.e0 3
 have v4:((w.alloc (.cells #[.int .i64 e.k,.int .i64 e.g,.int .i64 e.c,.int .i64 e.a,.int .i64 e.v,.int .i64 e.m,.bool e.s,.bool e.o] 40)).alloc (.cells #[.int .u64 0,.slice none 0 0] 38)).cell? ⟨w.heap.size,4,none⟩=some (.int .i64 e.v):=cell_of B2.out.e0 4
 have v5:((w.alloc (.cells #[.int .i64 e.k,.int .i64 e.g,.int .i64 e.c,.int .i64 e.a,.int .i64 e.v,.int .i64 e.m,.bool e.s,.bool e.o] 40)).alloc (.cells #[.int .u64 0,.slice none 0 0] 38)).cell? ⟨w.heap.size,5,none⟩=some (.int .i64 e.m):=cell_of B2.out.e0 5
 have v6:((w.alloc (.cells #[.int .i64 e.k,.int .i64 e.g,.int .i64 e.c,.int .i64 e.a,.int .i64 e.v,.int .i64 e.m,.bool e.s,.bool e.o] 40)).alloc (.cells #[.int .u64 0,.slice none 0 0] 38)).cell? ⟨w.heap.size,6,none⟩=some (.bool e.s):=cell_of B2.out.e0 6
 obtain⟨o,ho⟩:∃o,e.o=o:=⟨_,rfl⟩
 have HO:=hide ho
 have v7:((w.alloc (.cells #[.int .i64 e.k,.int .i64 e.g,.int .i64 e.c,.int .i64 e.a,.int .i64 e.v,.int .i64 e.m,.bool e.s,.bool e.o] 40)).alloc (.cells #[.int .u64 0,.slice none 0 0] 38)).cell? ⟨w.heap.size,7,none⟩=some (.bool o):=by rw[←ho];exact cell_of B2.out.e0 7
 have HE:=hide (hear_ok S2.out e hg hf hb hM hc hi)
 obtain⟨cb,-,y2,y0,yp⟩:=S2.out.chan hi
 obtain⟨y3,-⟩:=S2.out.look hm
 obtain⟨-,lk⟩:=(S2.out.below (Ba.bdrew1 _)).look hm
 have lk1:=fun o=>(((S2.out.box o).below (Ba.bdrew1 _)).look hm).2
 have l1:=World.block_lt_of_cell? _ _ v1
 have lS:=World.block_lt_of_cell? _ _ y2
 have lC:=World.block_lt_of_cell? _ _ y0
 obtain⟨pm,hpm⟩:=clv_ptr (wm e.m)
 rw[hpm] at lk lk1
 have HP:=hide hpm
 have HC:=hide hc
 have FM:=hide (fun c (q:wm e.m=some c)=>S2.out.kp c (.inr (.inl ⟨_,q⟩)))
 have i0:(0:Int)≤(i:Int):=by omega
 have i1:(i:Int)<(cs.length:Int):=by omega
 unfold En.evv En.evc
 unfold En.evv En.evc at HE
 clear s hg hm hf hb hM hi hc hpm hk ho
 go_enter Tryz.func47,Tryz.ntmps47
 go_upto_region 1 with fail
 generalize (w.alloc (.cells #[.int .i64 e.k,.int .i64 e.g,.int .i64 e.c,.int .i64 e.a,.int .i64 e.v,.int .i64 e.m,.bool e.s,.bool e.o] 40)).alloc (.cells #[.int .u64 0,.slice none 0 0] 38)=w1 at*
 rw[HO.out] at HE
 cases o
 ·clear y2 y0 yp y3 lk lk1 l1 lS lC
  go_wp2_with fail
  refine HE.out.mono ?_
  rintro r w2 ⟨R,L,m,lb,h2,cs2,wm2,du2,p2,ev⟩
  obtain rfl:=ev.res
  obtain⟨ep,hep⟩:∃z,epk (t:Int) (nth L t)=z:=⟨_,rfl⟩
  obtain⟨n,hn⟩:∃n,L.length=n:=⟨_,rfl⟩
  rw[hep,hn]
  have EV:=hide (And.intro hep (And.intro hn ev))
  have B3:=hide (B2.out.step ev.kp fun _ q=>q)
  have f0:w2.frozen? ⟨w.heap.size+1,0,none⟩=false:=frozen_of B3.out.z0 0
  have f1:w2.frozen? ⟨w.heap.size+1,1,none⟩=false:=frozen_of B3.out.z0 1
  have d0:w2.cell? ⟨w.heap.size+1,0,none⟩=some (.int .u64 0):=cell_of B3.out.z0 0
  have d1:w2.cell? ⟨w.heap.size+1,1,none⟩=some (.slice none 0 0):=cell_of B3.out.z0 1
  clear hep hn ev HE
  go_wp2_with fail
  obtain⟨hep,hn,ev⟩:=EV.out
  have LT:=B2.out.lt2
  have LN:=ev.new
  exact bodyPost_ret (En.results_row1 Tryz.results47 _ _ _ _ rfl (loadVar_stp (two_set _ _ B3.out.z0 rfl) rfl)) rfl ⟨R,L,m,lb,h2,cs2,wm2,du2,p2,by rw[hep,hn],st2A ev.at_ (by omega) _ _,by omega,(ev.sq.fill _ _ (.inl (.inr rfl)) fun j q=>by rcases q with q|q;exact .inl (.inl (.inl q));exact .inr q).up (by omega),B3.out.fill _ _,ev.hm,ev.mx,(fun q=>nomatch q),ev.hb,ev.set,ev.one,ev.len,ev.cn⟩
 ·obtain⟨sv,hsv⟩:∃sv,(e.m !=-1)=sv:=⟨_,rfl⟩
  obtain⟨zb,hzb⟩:∃zb,decide ((z:Int)=0)=zb:=⟨_,rfl⟩
  have hzb2:((z:Int)==0)=zb:=hzb
  rw[HC.out] at v2
  clear HE
  go_upto_region 3 with fail
  go_region
  have b3:=btr (below_alloc w1 (.cells #[.int .i64 (z:Int),.pointer (some ⟨P,0,none⟩)] 150)) (Ba.bdrew1 _)
  have S3:=hide ((S2.out.box (.cells #[.int .i64 (z:Int),.pointer (some ⟨P,0,none⟩)] 150)).below (Ba.bdrew1 _))
  have B3:=hide (B2.out.below b3)
  have C3:=hide (Ba.heap_below (heap_new w1 (.cells #[.int .i64 (z:Int),.pointer (some ⟨P,0,none⟩)] 150)) (Ba.bdrew1 _))
  have c0:(w1.alloc (.cells #[.int .i64 (z:Int),.pointer (some ⟨P,0,none⟩)] 150)).drew.cell? ⟨w1.heap.size,0,none⟩=some (.int .i64 (z:Int)):=cell_of C3.out 0
  have v5:(w1.alloc (.cells #[.int .i64 (z:Int),.pointer (some ⟨P,0,none⟩)] 150)).drew.cell? ⟨w.heap.size,5,none⟩=some (.int .i64 e.m):=cell_of B3.out.e0 5
  have FM3:=hide (fun c (q:wm e.m=some c)=>S3.out.kp c (.inr (.inl ⟨_,q⟩)))
  clear b3 lk lk1 l1 lS lC v0 v1 v2 v3 v4 v6 y2 y0 yp y3
  generalize (w1.alloc (.cells #[.int .i64 (z:Int),.pointer (some ⟨P,0,none⟩)] 150)).drew=w3 at*
  generalize w1.heap.size=C at*
  have SD:=hide (S3.out.send HF.out.2.2.2.2.1 (c:=wm e.m) FM3.out (by have:=HF.out.2.2.2.2.2;omega))
  rw[HP.out] at SD
  have c1:w3.cell? ⟨C,1,none⟩=some (.pointer (some ⟨P,0,none⟩)):=cell_of C3.out 1
  cases sv
  case' true=>cases zb
  all_goals as_aux_lemma=>
   go_wp2_with fail
   first
    |(refine SD.out.mono ?_
      rintro r w4 ⟨q4,E4,h4,cs4,rfl,o4⟩
      obtain⟨p4,hp4⟩:=clv_ptr q4
      rw[hp4]
      have s4:=o4.sq
      have a4:=o4.at_
      have b4:=B3.out.step o4.kp fun _ q=>.inl (.inl q)
      have c4:=kp_heap o4.kp C3.out (.inl (.inr rfl))
      have x4:=o4.ext
      have l4:=o4.len
      clear o4 hp4 c1 v5 c0 SD
      have c1:w4.cell? ⟨C,1,none⟩=some (.pointer (some ⟨P,0,none⟩)):=cell_of c4 1
      go_wp2_with fail)
    |(obtain⟨h4,cs4,s4,a4,b4,c4,x4,l4⟩:∃h4 cs4,SQ w3 S B st h4 es cs4 wm du p (Y1 (T2 w T) C) H (k+1)∧ChAt cs4 i P z∧Bx w w3 T e∧w3.heap[C]? =some (.cells #[.int .i64 (z:Int),.pointer (some ⟨P,0,none⟩)] 150)∧Sl.Ext h h4∧cs4.length=cs.length:=⟨h,cs,S3.out.up (Nat.le_succ _),HF.out.2.2.2.2.1,B3.out,C3.out,Sl.Ext.refl h,rfl⟩
      clear SD S3 B3 C3 c1 v5 c0
      generalize w3=w4 at*)
   have X4:=hide (And.intro a4 (And.intro x4 l4))
   have B4:=hide b4
   have C4:=hide c4
   have S4:=hide s4
   have PK:=hide (s4.peek a4 false)
   clear s4 a4 b4 c4 x4 l4
   refine PK.out.mono ?_
   rintro r w5 ⟨q5,E5,h5,cs5,rfl,o5⟩
   obtain⟨p5,hp5⟩:=clv_ptr q5
   have O5:=hide o5
   have B5:=hide (B4.out.step o5.kp fun _ q=>.inl (.inl q))
   have C5:=hide (kp_heap o5.kp C4.out (.inl (.inr rfl)))
   have LE:=hide (o5.sq.learn e.g HF.out.1 t b l HF.out.2.1 (o5.ext _ _ (X4.out.2.1 _ _ HF.out.2.2.1)) (q:=q5) o5.fv)
   have v1:w5.cell? ⟨w.heap.size,1,none⟩=some (.int .i64 e.g):=cell_of B5.out.e0 1
   rw[hp5] at LE ⊢
   clear o5 hp5 PK
   go_wp2_with fail
   refine LE.out.mono ?_
   rintro r w6 ⟨R,L,m,h6,rfl,le⟩
   obtain⟨ev,hev⟩:∃z,epk (t:Int) (nth L t)=z:=⟨_,rfl⟩
   obtain⟨n,hn⟩:∃n,L.length=n:=⟨_,rfl⟩
   rw[hev,hn]
   have HE:=hide (And.intro hev hn)
   have LP:=hide le
   have b7:=below_alloc w6 (.cells #[.int .u64 ev,.slice (some ⟨R,0,none⟩) n n] 38)
   have S7:=hide (le.sq.box (.cells #[.int .u64 ev,.slice (some ⟨R,0,none⟩) n n] 38))
   have E7:=hide (heap_new w6 (.cells #[.int .u64 ev,.slice (some ⟨R,0,none⟩) n n] 38))
   have B7:=hide ((B5.out.step le.kp fun _ q=>.inl (.inl q)).below b7)
   have C7:=hide (Ba.heap_below (kp_heap le.kp C5.out (.inl (.inr rfl))) b7)
   have A7:=hide (le.at_.below b7)
   have v7:(w6.alloc (.cells #[.int .u64 ev,.slice (some ⟨R,0,none⟩) n n] 38)).cell? ⟨w.heap.size,1,none⟩=some (.int .i64 e.g):=cell_of B7.out.e0 1
   have TE:=hide (S7.out.tell e.g HF.out.1 t b L HF.out.2.1 le.hb (by rw[le.mx];exact HF.out.2.2.2.1 m le.hm))
   have LT:=hide (show w.heap.size+1<R by have:=le.new;have:=B5.out.lt2;omega)
   clear le LE b7 hev hn v1
   go_upto_region 9 with fail
   generalize w6.alloc (.cells #[.int .u64 ev,.slice (some ⟨R,0,none⟩) n n] 38)=w7 at*
   generalize w6.heap.size=Q at*
   go_wp2_with fail
   refine TE.out.mono ?_
   rintro r w8 ⟨A,l',h8,rfl,te⟩
   have B8:=hide (B7.out.step te.kp fun _ q=>.inl (.inl (.inl (.inl q))))
   have C8:=hide (kp_heap te.kp C7.out (.inl (.inl (.inl (.inr rfl)))))
   have e8:=hide (kp_heap te.kp E7.out (.inl (.inr rfl)))
   have A8:=hide (atK A7.out te.kp (.inl (.inl (.inr rfl))))
   have TP:=hide te
   have RC:=hide (te.sq.recv O5.out.at_ (c:=some A) (fun a q=>Option.some.inj q ▸ te.fv) (by have:=HF.out.2.2.2.2.2;omega))
   rw[clv_some] at RC
   have c8:w8.cell? ⟨C,1,none⟩=some (.pointer (some ⟨P,0,none⟩)):=cell_of C8.out 1
   clear te TE v7
   go_wp2_with fail
   refine RC.out.mono ?_
   rintro r w9 ⟨q9,E9,h9,cs9,rfl,o9⟩
   obtain⟨p9,hp9⟩:=clv_ptr q9
   have O9:=hide o9
   have B9:=hide (B8.out.step o9.kp fun _ q=>.inl (.inl (.inl (.inl q))))
   have C9:=hide (kp_heap o9.kp C8.out (.inl (.inl (.inl (.inr rfl)))))
   have e9:=hide (kp_heap o9.kp e8.out (.inl (.inr rfl)))
   have A9:=hide (atK A8.out o9.kp (.inl (.inl (.inr rfl))))
   have c0:w9.cell? ⟨C,0,none⟩=some (.int .i64 (z:Int)):=cell_of C9.out 0
   have c1:w9.cell? ⟨C,1,none⟩=some (.pointer (some ⟨P,0,none⟩)):=cell_of C9.out 1
   rw[hp9]
   clear o9 hp9 RC c8
   obtain⟨pd,hpd⟩:=clv_ptr du
   have y4:=O9.out.sq.ss.cellS.2
   rw[hpd] at y4
   obtain⟨s10,k10,f4⟩:=O9.out.sq.due (du':=some A) fun c q=>by
    cases q
    exact TP.out.fv.nx (fun c l _ e=>O9.out.ext c l e) fun _ q=>q
   rw[clv_some] at s10 k10
   have lt:=LT.out
   first
    |(have _n:(e.m !=-1)=false:=hsv
      clear s10 k10 f4 y4
      have f0:w9.frozen? ⟨w.heap.size+1,0,none⟩=false:=frozen_of B9.out.z0 0
      have f1:w9.frozen? ⟨w.heap.size+1,1,none⟩=false:=frozen_of B9.out.z0 1
      have d0:w9.cell? ⟨w.heap.size+1,0,none⟩=some (.int .u64 0):=cell_of B9.out.z0 0
      have d1:w9.cell? ⟨w.heap.size+1,1,none⟩=some (.slice none 0 0):=cell_of B9.out.z0 1
      have g0:w9.cell? ⟨Q,0,none⟩=some (.int .u64 ev):=cell_of e9.out 0
      have g1:w9.cell? ⟨Q,1,none⟩=some (.slice (some ⟨R,0,none⟩) n n):=cell_of e9.out 1
      go_wp2_with fail
      exact bodyPost_ret (En.results_row1 Tryz.results47 _ _ _ _ rfl (loadVar_stp (two_set _ _ B9.out.z0 rfl) rfl)) rfl ⟨R,L,m,l',h9,cs9,wm,du,p,by rw[HE.out.1,HE.out.2],st2A A9.out (by omega) _ _,by omega,(O9.out.sq.fill _ _ (.inl (.inl (.inl (.inr rfl)))) fun j q=>by rcases q with q|q;exact .inl (.inl (.inl (.inl (.inl q))));exact .inl (.inr q)).up (by omega),B9.out.fill _ _,LP.out.hm,LP.out.mx,(fun q=>nomatch q),O9.out.ext _ _ TP.out.hb,TP.out.set,(One.ext X4.out.2.1).trans ((One.ext O5.out.ext).trans (LP.out.one.trans (TP.out.one.trans (One.ext O9.out.ext)))),O9.out.len.trans (O5.out.len.trans X4.out.2.2),LP.out.cn⟩)
    |(have _n:decide ((z:Int)=0)=true:=hzb
      have B10:=hide (B9.out.step k10 fun _ q=>.inl (.inl (.inl q)))
      have e10:=kp_heap k10 e9.out (.inr rfl)
      have f0:(w9.setCell ⟨S,4,none⟩ (.pointer (some ⟨A,0,none⟩))).frozen? ⟨w.heap.size+1,0,none⟩=false:=frozen_of B10.out.z0 0
      have f1:(w9.setCell ⟨S,4,none⟩ (.pointer (some ⟨A,0,none⟩))).frozen? ⟨w.heap.size+1,1,none⟩=false:=frozen_of B10.out.z0 1
      have d0:(w9.setCell ⟨S,4,none⟩ (.pointer (some ⟨A,0,none⟩))).cell? ⟨w.heap.size+1,0,none⟩=some (.int .u64 0):=cell_of B10.out.z0 0
      have d1:(w9.setCell ⟨S,4,none⟩ (.pointer (some ⟨A,0,none⟩))).cell? ⟨w.heap.size+1,1,none⟩=some (.slice none 0 0):=cell_of B10.out.z0 1
      have g0:(w9.setCell ⟨S,4,none⟩ (.pointer (some ⟨A,0,none⟩))).cell? ⟨Q,0,none⟩=some (.int .u64 ev):=cell_of e10 0
      have g1:(w9.setCell ⟨S,4,none⟩ (.pointer (some ⟨A,0,none⟩))).cell? ⟨Q,1,none⟩=some (.slice (some ⟨R,0,none⟩) n n):=cell_of e10 1
      have S10:=hide (And.intro s10 k10)
      clear s10 k10 e10
      go_wp2_with fail
      exact bodyPost_ret (En.results_row1 Tryz.results47 _ _ _ _ rfl (loadVar_stp (two_set _ _ B10.out.z0 rfl) rfl)) rfl ⟨R,L,m,l',h9,cs9,wm,some A,p,by rw[HE.out.1,HE.out.2],st2A (atK A9.out S10.out.2 (.inl (.inr rfl))) (by omega) _ _,by omega,(S10.out.1.fill _ _ (.inl (.inl (.inl (.inr rfl)))) fun j q=>by rcases q with q|q;exact .inl (.inl (.inl (.inl (.inl q))));exact .inl (.inr q)).up (by omega),B10.out.fill _ _,LP.out.hm,LP.out.mx,(fun q=>nomatch q),O9.out.ext _ _ TP.out.hb,TP.out.set,(One.ext X4.out.2.1).trans ((One.ext O5.out.ext).trans (LP.out.one.trans (TP.out.one.trans (One.ext O9.out.ext)))),O9.out.len.trans (O5.out.len.trans X4.out.2.2),LP.out.cn⟩)
    |(clear s10 k10 f4 y4
      have SE:=hide (O9.out.sq.send O9.out.at_ (c:=wm e.m) (fun c q=>(FM.out c q).nx (fun c l n e=>O9.out.ext c l ((TP.out.one.nx ⟨_,_,HF.out.2.1⟩) c l n ((LP.out.one.nx ⟨_,_,HF.out.2.1⟩) c l n (O5.out.ext c l (X4.out.2.1 c l e))))) fun _ q=>.inl q) (by have:=HF.out.2.2.2.2.2;omega))
      rw[HP.out] at SE
      go_wp2_with fail
      refine SE.out.mono ?_
      rintro r w10 ⟨q10,E10,h10,cs10,rfl,o10⟩
      obtain⟨p10,hp10⟩:=clv_ptr q10
      obtain⟨s11,k11,f4⟩:=o10.sq.due (du':=q10) o10.fv
      have y4:=o10.sq.ss.cellS.2
      rw[hp10] at s11 k11 ⊢
      rw[hpd] at y4
      have B11:=hide ((B9.out.step o10.kp fun _ q=>.inl (.inl (.inl (.inl q)))).step k11 fun _ q=>.inl (.inl (.inl q)))
      have e11:=kp_heap k11 (kp_heap o10.kp e9.out (.inl (.inr rfl))) (.inr rfl)
      have A11:=hide (atK (atK A9.out o10.kp (.inl (.inl (.inr rfl)))) k11 (.inl (.inr rfl)))
      have f0:(w10.setCell ⟨S,4,none⟩ (.pointer p10)).frozen? ⟨w.heap.size+1,0,none⟩=false:=frozen_of B11.out.z0 0
      have f1:(w10.setCell ⟨S,4,none⟩ (.pointer p10)).frozen? ⟨w.heap.size+1,1,none⟩=false:=frozen_of B11.out.z0 1
      have d0:(w10.setCell ⟨S,4,none⟩ (.pointer p10)).cell? ⟨w.heap.size+1,0,none⟩=some (.int .u64 0):=cell_of B11.out.z0 0
      have d1:(w10.setCell ⟨S,4,none⟩ (.pointer p10)).cell? ⟨w.heap.size+1,1,none⟩=some (.slice none 0 0):=cell_of B11.out.z0 1
      have g0:(w10.setCell ⟨S,4,none⟩ (.pointer p10)).cell? ⟨Q,0,none⟩=some (.int .u64 ev):=cell_of e11 0
      have g1:(w10.setCell ⟨S,4,none⟩ (.pointer p10)).cell? ⟨Q,1,none⟩=some (.slice (some ⟨R,0,none⟩) n n):=cell_of e11 1
      have O10:=hide o10
      have S11:=hide s11
      clear s11 k11 o10 e11 SE hp10
      go_wp2_with fail
      exact bodyPost_ret (En.results_row1 Tryz.results47 _ _ _ _ rfl (loadVar_stp (two_set _ _ B11.out.z0 rfl) rfl)) rfl ⟨R,L,m,l',h10,cs10,wm,q10,p,by rw[HE.out.1,HE.out.2],st2A A11.out (by omega) _ _,by omega,(S11.out.fill _ _ (.inl (.inl (.inl (.inr rfl)))) fun j q=>by rcases q with q|q;exact .inl (.inl (.inl (.inl (.inl q))));exact .inl (.inr q)).up (by omega),B11.out.fill _ _,LP.out.hm,LP.out.mx,(fun q=>nomatch q),O10.out.ext _ _ (O9.out.ext _ _ TP.out.hb),TP.out.set,(One.ext X4.out.2.1).trans ((One.ext O5.out.ext).trans (LP.out.one.trans (TP.out.one.trans ((One.ext O9.out.ext).trans (One.ext O10.out.ext))))),O10.out.len.trans (O9.out.len.trans (O5.out.len.trans X4.out.2.2)),LP.out.cn⟩)
end
end Sp
namespace Sp
open Ck Wa
open En (Ev)
theorem info_ch:(Tryz.prog.info? 150).map (fun i=>(i.zero,i.size,i.bytes))=some (some (.agg #[.int .i64 0,.pointer none]),2,16):=by kernel_rfl
def nwC(A z:Nat):Chn:=⟨A,⟨z,0,0,[],[],none⟩,.slice none 0 0,.slice none 0 0⟩
section
variable {w u w':World}{S B:Nat}{st:Wst}{h:Nat→Option (List Int)}{es:List Ev}{cs:List Chn}{wm:Wm}{du:Option Nat}{p:Pl}{T:Nat→Prop}{H:List Int→Prop}{k z A:Nat}
theorem chc_app(l m:List Chn):chc (l++m)=chc l++chc m:=by simp[chc]
theorem SM.made{col:Nat→Nat}{mb:Nat}{D DW:DataW Unit}{ea co':Option Addr}{c cc':Nat}(m:SM col u S B mb st D h ea c es p.co p.cc cs p.MW DW wm du)(sx:Sl.SX (X0 col) A u ⟨z,0,0,[],[],none⟩ h (.slice none 0 0) (.slice none 0 0))(hn:cs.length<900)
 (o:w'.ownsRow 0 150 2 (.slice co' (cs.length+1) cc') (cs.length+1) (chc (cs++[nwC A z]))) (g:u.grownBy w' (Value.slice p.co cs.length p.cc).ownBlock)
 (hat:(Value.slice co' (cs.length+1) cc').ownBlock=(Value.slice p.co cs.length p.cc).ownBlock∨(Value.slice co' (cs.length+1) cc').ownBlock=some u.heap.size):
 ∃col',SM col' (w'.setCell ⟨S,2,none⟩ (.slice co' (cs.length+1) cc')) S B mb st D h ea c es co' cc' (cs++[nwC A z]) p.MW DW wm du∧∀k,1000≤col k→1000≤col' k:=by
 classical
 obtain⟨v,hv⟩:∃v,Value.slice co' (cs.length+1) cc'=v:=⟨_,rfl⟩
 have hl:(cs++[nwC A z]).length=cs.length+1:=by simp
 have cS:=(m.sa.c2 S).2 rfl
 have lt:∀j,col j≠0→j<u.heap.size:=m.cx.base
 have c0:∀j,u.heap.size≤j→col j=0:=fun j hj=>by
  cases e:col j with
  |zero=>rfl
  |succ n=>have:=lt j (by omega);omega
 have cA:col A=0:=by
  cases e:col A with
  |zero=>rfl
  |succ n=>exact absurd (show X0 col A by show col A≠0;omega) sx.ys
 have hr:∀j,v.ownBlock=some j→(col j=4∨col j=0)∧j≠A:=fun j q=>by
  rw[hv] at hat
  rcases hat with e|e
  ·have:=(m.sa.c4 j).2 (e.symm.trans q)
   exact⟨.inl this,fun e=>by rw[e,cA] at this;omega⟩
  ·rw[e] at q
   cases q
   have:=Ba.heap_lt sx.hp
   exact⟨.inr (c0 _ (Nat.le_refl _)),by omega⟩
 obtain⟨col',hc'⟩:∃c2:Nat→Nat,∀j,c2 j=if j=A then 6+cs.length else if v.ownBlock=some j then 4 else if col j=4∨col j=6+cs.length then 0 else col j:=⟨_,fun _=>rfl⟩
 have hq:∀d,d≠0→d≠4→d≠6+cs.length→∀j,col' j=d↔col j=d:=fun d h1 h2 h3 j=>by
  rw[hc']
  by_cases a:j=A
  ·rw[if_pos a,a,cA];omega
  ·rw[if_neg a]
   by_cases b:v.ownBlock=some j
   ·rw[if_pos b]
    have:=(hr j b).1
    omega
   ·rw[if_neg b]
    split<;>omega
 have bl:∀j,j<u.heap.size→j≠S→col j≠4→(w'.setCell ⟨S,2,none⟩ v).heap[j]? =u.heap[j]?:=fun j h1 h2 h3=>by
  rw[Below.heap_setCell _ _ _ _ h2]
  exact g.block j h1 fun q=>h3 ((m.sa.c4 j).2 q.symm)
 have sz:(w'.setCell ⟨S,2,none⟩ v).heap.size=w'.heap.size:=by simp[World.setCell]
 have kp:Kp (fun j=>col j≠0∧col j≠2∧col j≠4) u (w'.setCell ⟨S,2,none⟩ v):=⟨g.os,g.tape,g.output,by rw[sz];exact g.size,fun j q=>bl j (lt j q.1) (fun e=>q.2.1 (by rw[e,cS])) q.2.2⟩
 have bd:∀d j,d≠0→d≠2→d≠4→col j=d→(w'.setCell ⟨S,2,none⟩ v).heap[j]? =u.heap[j]?:=fun d j h0 h2 h4 e=>kp.block j ⟨by omega,by omega,by omega⟩
 have hS:w'.heap[S]? =u.heap[S]?:=g.block S (lt S (by omega)) fun q=>by
  have:=(m.sa.c4 S).2 q.symm
  omega
 have sc:(w'.setCell ⟨S,2,none⟩ v).heap[S]? =some (.cells #[.pointer (some ⟨B,0,none⟩),.slice ea es.length c,v,.map (some p.MW),Sl.clv du] 65 (0,0)):=by
  rw[Ba.heap_setCell_same (hS.trans m.sa.hp)]
  rfl
 have o':(w'.setCell ⟨S,2,none⟩ v).ownsRow 0 150 2 v (cs.length+1) (chc (cs++[nwC A z])):=by
  rw[hv] at o
  exact own_keep o fun j q=>Below.heap_setCell _ _ _ _ fun e=>by
   have:=(hr j q).1
   rw[show j=S from e] at this
   omega
 obtain⟨es',clock,hb,r⟩:=m.sa.mw
 rw[hv]
 refine⟨col',⟨⟨(bd 1 B (by omega) (by omega) (by omega) ((m.wt.own B).2 (.inl rfl))).trans m.wt.hp,Wa.own_kp m.wt.ow kp (by have:=(m.wt.own mb).2 (.inr rfl);exact⟨by omega,by omega,by omega⟩),m.wt.mi,m.wt.sz,m.wt.ne,fun j=>(hq 1 (by omega) (by omega) (by omega) j).trans (m.wt.own j),m.wt.inj,m.wt.tid,m.wt.bd⟩,
  ⟨?_,fun j=>(hq 2 (by omega) (by omega) (by omega) j).trans (m.sa.c2 j),own_keep m.sa.ev fun j e=>bd 3 j (by omega) (by omega) (by omega) ((m.sa.c3 j).2 e),fun j=>(hq 3 (by omega) (by omega) (by omega) j).trans (m.sa.c3 j),?_,fun j=>?_,⟨es',clock,(bd 5 _ (by omega) (by omega) (by omega) ((m.sa.c5 _).2 rfl)).trans hb,r⟩,fun j=>(hq 5 (by omega) (by omega) (by omega) j).trans (m.sa.c5 j),m.sa.wi⟩,fun i x hi=>?_,?_,m.wd,fun i x hi=>?_,m.md,m.dd⟩,fun j hj=>?_⟩
 ·rw[hl,hv];exact sc
 ·rw[hl,hv];exact o'
 ·rw[hl,hv,hc']
  by_cases a:j=A
  ·rw[if_pos a]
   exact⟨fun q=>by omega,fun q=>absurd a (hr j q).2⟩
  ·rw[if_neg a]
   by_cases b:v.ownBlock=some j
   ·rw[if_pos b];exact⟨fun _=>b,fun _=>rfl⟩
   ·rw[if_neg b]
    exact⟨fun q=>by split at q<;>omega,fun q=>absurd q b⟩
 ·by_cases il:i<cs.length
  ·rw[List.getElem?_append_left il] at hi
   have a:=m.ch i x hi
   have ho:∀j,x.own j→(w'.setCell ⟨S,2,none⟩ v).heap[j]? =u.heap[j]?:=fun j q=>bd (6+i) j (by omega) (by omega) (by omega) ((a.ow j).2 q)
   exact⟨(ho _ (.inl rfl)).trans a.hp,own_keep a.gv fun j e=>ho j (.inr (.inl e)),own_keep a.bk fun j e=>ho j (.inr (.inr e)),a.ap,a.sg,a.sb,fun j=>(hq (6+i) (by omega) (by omega) (by omega) j).trans (a.ow j)⟩
  ·rw[List.getElem?_append_right (by omega)] at hi
   obtain rfl:i=cs.length:=by have:=(List.getElem?_eq_some_iff.1 hi).1;simp at this;omega
   simp at hi
   subst hi
   refine⟨(bl A (Ba.heap_lt sx.hp) (fun e=>by rw[←e,cA] at cS;omega) (by omega)).trans sx.hp,World.ownsRow_nil _ _ _ _,World.ownsRow_nil _ _ _ _,(fun _ e=>nomatch e),(fun e=>nomatch e),(fun e=>nomatch e),fun j=>?_⟩
   have:(nwC A z).own j↔j=A:=⟨fun q=>q.elim id (fun q=>q.elim (fun q=>nomatch q) (fun q=>nomatch q)),fun q=>.inl q⟩
   rw[this,hc']
   by_cases a:j=A
   ·rw[if_pos a];exact⟨fun _=>a,fun _=>rfl⟩
   ·rw[if_neg a]
    refine⟨fun q=>?_,fun q=>absurd q a⟩
    split at q
    ·omega
    ·split at q<;>omega
 ·refine Sl.cx_ext sx.cx (fun j hj hn=>bl j hj (fun e=>hn (.inl (show col j≠0 by rw[e,cS];omega))) fun e=>hn (.inl (show col j≠0 by omega))) (fun j q=>?_) fun j q=>?_
  ·have q:col' j≠0:=q
   rw[hc'] at q
   by_cases a:j=A
   ·exact .inl (.inr (.inl a))
   ·rw[if_neg a] at q
    by_cases b:v.ownBlock=some j
    ·rcases (hr j b).1 with e|e
     ·exact .inl (.inl (show col j≠0 by omega))
     ·rw[hv] at hat
      rcases hat with f|f
      ·have:=(m.sa.c4 j).2 (f.symm.trans b);omega
      ·rw[f] at b;cases b;exact .inr (Nat.le_refl _)
    ·rw[if_neg b] at q
     split at q
     ·exact absurd rfl q
     ·exact .inl (.inl q)
  ·have q:col' j≠0:=q
   rw[sz]
   rw[hc'] at q
   by_cases a:j=A
   ·rw[a];exact Nat.lt_of_lt_of_le (Ba.heap_lt sx.hp) g.size
   ·rw[if_neg a] at q
    by_cases b:v.ownBlock=some j
    ·rw[←sz];exact own_lt o' b
    ·rw[if_neg b] at q
     split at q
     ·exact absurd rfl q
     ·exact Nat.lt_of_lt_of_le (lt j q) g.size
 ·by_cases il:i<cs.length
  ·rw[List.getElem?_append_left il] at hi
   exact m.cd i x hi
  ·rw[List.getElem?_append_right (by omega)] at hi
   have e:=(List.getElem?_eq_some_iff.1 hi).1
   simp at e
   rw[show i - cs.length=0 by omega] at hi
   simp at hi
   subst hi
   exact sx.dom
 ·rw[hc']
  rw[if_neg (fun e=>by rw[e,cA] at hj;omega),if_neg (fun e=>by have:=(hr j e).1;omega),if_neg (by omega)]
  exact hj
theorem SQ.made(s:SQ w S B st h es cs wm du p T H k)(hz:z≤4)(hn:cs.length<900):Calls Tryz.prog 88 #[.int .i64 (z:Int)] w fun r w1=>∃A,r=.returned (.tuple #[.pointer (some ⟨A,0,none⟩),.int .i64 0])∧Below w.heap.size w w1∧
 ∀u,Below w1.heap.size w1 u→∀a:Addr,(∀(j:Nat) x,[Value.int .i64 (z:Int),.pointer (some ⟨A,0,none⟩)][j]? =some x→u.cell? (a.add j)=some x)→∃co cc w2,(Builtin.append_ #[62,62] 62 #[.slice p.co cs.length p.cc,.slice (some a) 1 1]).run Tryz.prog u=.ok (.slice co (cs.length+1) cc) w2∧
  w2.cell? ⟨S,2,none⟩=some (.slice p.co cs.length p.cc)∧w2.frozen? ⟨S,2,none⟩=false∧SQ (w2.setCell ⟨S,2,none⟩ (.slice co (cs.length+1) cc)) S B st h es (cs++[nwC A z]) wm du ⟨co,cc,p.MW⟩ T H k∧Kp T u (w2.setCell ⟨S,2,none⟩ (.slice co (cs.length+1) cc)):=by
 have ss:=s.ss
 obtain⟨n,col,mb,D,ea,c,DW,m,q⟩:=s.ss
 refine (Sl.new_any z (X0 col) h w hz m.cx).mono ?_
 rintro r w1 ⟨A,rfl,sx,b1⟩
 refine⟨A,rfl,b1,fun u b2 a ha=>?_⟩
 have m2:=m.below (btr b1 b2)
 have sx2:Sl.SX (X0 col) A u ⟨z,0,0,[],[],none⟩ h (.slice none 0 0) (.slice none 0 0):=sx.below b2
 obtain⟨i0,hi,hz0,hs,hb⟩:∃i0,Tryz.prog.info? 150=some i0∧i0.zero=some (.agg #[.int .i64 0,.pointer none])∧i0.size=2∧i0.bytes=16:=by
  cases hi:Tryz.prog.info? 150 with
  |none=>have:=info_ch;rw[hi] at this;cases this
  |some i0=>
   have hx:=info_ch
   rw[hi] at hx
   simp at hx
   exact⟨i0,rfl,hx⟩
 obtain⟨v',w2,hr,ho,hg,-,hat⟩:=run_append_own_at (P:=Tryz.prog) u 0 62 62 150 i0 _ 2 16 Tryz.underlying62 hi hz0 hs hb rfl (by decide) _ _ _ m2.sa.cr a 1 1 [.int .i64 (z:Int),.pointer (some ⟨A,0,none⟩)] rfl ha (by intro x hx;simp at hx;rcases hx with rfl|rfl<;>rfl) (by unfold maxLen;omega) (by omega) (Nat.zero_le _)
 obtain⟨co,cc,rfl⟩:∃co cc,v'=.slice co (cs.length+1) cc:=by
  rcases ho.2 with⟨e,h0⟩|⟨g,cap,cur,e,-⟩
  ·omega
  ·exact⟨_,_,e⟩
 have e1:chc cs++[.int .i64 (z:Int),.pointer (some ⟨A,0,none⟩)]=chc (cs++[nwC A z]):=by rw[chc_app];rfl
 rw[e1] at ho
 obtain⟨col',m3,q3⟩:=m2.made sx2 hn ho hg hat
 have c4S:(Value.slice p.co cs.length p.cc).ownBlock≠some S:=fun e=>by
  have h1:=(m2.sa.c4 S).2 e
  have h2:=(m2.sa.c2 S).2 rfl
  omega
 have hS:w2.heap[S]? =some (.cells #[.pointer (some ⟨B,0,none⟩),.slice ea es.length c,.slice p.co cs.length p.cc,.map (some p.MW),Sl.clv du] 65 (0,0)):=(hg.block S (m2.cx.base S (show col S≠0 by rw[(m2.sa.c2 S).2 rfl];omega)) (fun e=>c4S e.symm)).trans m2.sa.hp
 refine⟨co,cc,w2,hr,cell_of hS 2,frozen_of hS 2,⟨⟨by simp;omega,col',mb,D,ea,c,DW,m3,fun j hj=>q3 j (q j hj)⟩,fun b hb=>s.kp b ?_,fun i x hi=>?_,s.z,s.wn⟩,⟨hg.os,hg.tape,hg.output,by simp[World.setCell];exact hg.size,fun j hj=>?_⟩⟩
 ·rcases hb with⟨i,x,hi,hb⟩|hb
  ·by_cases il:i<cs.length
   ·rw[List.getElem?_append_left il] at hi
    exact .inl ⟨i,x,hi,hb⟩
   ·rw[List.getElem?_append_right (by omega)] at hi
    have e:=(List.getElem?_eq_some_iff.1 hi).1
    simp at e
    rw[show i - cs.length=0 by omega] at hi
    simp at hi
    subst hi
    rcases hb with hb|hb|hb
    ·cases hb
    ·cases hb
    ·cases hb
  ·exact .inr hb
 ·by_cases il:i<cs.length
  ·rw[List.getElem?_append_left il] at hi
   exact s.cn i x hi
  ·rw[List.getElem?_append_right (by omega)] at hi
   have e:=(List.getElem?_eq_some_iff.1 hi).1
   simp at e
   rw[show i - cs.length=0 by omega] at hi
   simp at hi
   subst hi
   exact⟨rfl,Nat.zero_le _,Nat.zero_le _⟩
 ·have c1:=q j hj
  rw[Below.heap_setCell _ _ _ _ (fun e=>by rw[show j=S from e,(m2.sa.c2 S).2 rfl] at c1;omega)]
  exact hg.block j (m2.cx.base j (show col j≠0 by omega)) fun e=>by
   have:=(m2.sa.c4 j).2 e.symm
   omega
end
end Sp
namespace Sp
open Ck Wa
open En (Ev)
section
variable {w:World}{S B:Nat}{st:Wst}{h:Nat→Option (List Int)}{es:List Ev}{cs:List Chn}{wm:Wm}{du:Option Nat}{p:Pl}{T:Nat→Prop}{H:List Int→Prop}{k i P z t b:Nat}{l:List Int}
theorem srcC(w:World)(z A:Nat):∀(j:Nat) x,[Value.int .i64 (z:Int),.pointer (some ⟨A,0,none⟩)][j]? =some x→((w.alloc (.cells #[.int .i64 (z:Int),.pointer (some ⟨A,0,none⟩)] 150)).drew).cell? ((⟨w.heap.size,0,none⟩:Addr).add j)=some x:=by
 intro j x hj
 have hn:=heap_new w (.cells #[.int .i64 (z:Int),.pointer (some ⟨A,0,none⟩)] 150)
 rw[Addr.add_lit,Nat.zero_add,cell_of (Ba.heap_below hn (Ba.bdrew1 _)),←hj]
 simp
set_option maxRecDepth 100000 in
theorem build_ok(s:SQ w S B st h es cs wm du p T H k)(e:Ev)(hg:(Lit.int .i64 e.g).wf=true)(hf:st.f e.g=some (t,b))(hb:h b=some l)(hv:e.v=(z:Int))(hz:z≤4)(hn:cs.length<900):
 Calls Tryz.prog 45 #[.pointer (some ⟨S,0,none⟩),En.evv e] w fun r w'=>∃R L m lb h' A p',EvP w w' S B st h es T H k (cs.length+1) t b l false false r R L m lb h' (cs++[nwC A z]) wm du p':=by
 have B2:=hide (s.bx e)
 have S2:=hide (s.two e)
 have HF:=hide (And.intro hg (And.intro hf (And.intro hb hn)))
 have v4:((w.alloc (.cells #[.int .i64 e.k,.int .i64 e.g,.int .i64 e.c,.int .i64 e.a,.int .i64 e.v,.int .i64 e.m,.bool e.s,.bool e.o] 40)).alloc (.cells #[.int .u64 0,.slice none 0 0] 38)).cell? ⟨w.heap.size,4,none⟩=some (.int .i64 (z:Int)):=by rw[←hv];exact cell_of B2.out.e0 4
 have NW:=hide (S2.out.made hz hn)
 unfold En.evv En.evc
 clear s hg hf hb hv hz hn
 go_enter Tryz.func45,Tryz.ntmps45
 go_wp2_with fail
 generalize (w.alloc (.cells #[.int .i64 e.k,.int .i64 e.g,.int .i64 e.c,.int .i64 e.a,.int .i64 e.v,.int .i64 e.m,.bool e.s,.bool e.o] 40)).alloc (.cells #[.int .u64 0,.slice none 0 0] 38)=w1 at*
 refine NW.out.mono ?_
 rintro r w2 ⟨A,rfl,b2,mk⟩
 have B3:=hide (B2.out.below b2)
 have b3:=btr (below_alloc w2 (.cells #[.int .i64 (z:Int),.pointer (some ⟨A,0,none⟩)] 150)) (Ba.bdrew1 _)
 obtain⟨co,cc,w4,hr,y4,f4,s4,k4⟩:=mk _ b3 ⟨w2.heap.size,0,none⟩ (srcC w2 z A)
 have HR:=hide hr
 have S4:=hide s4
 have B4:=hide ((B3.out.below b3).step k4 fun _ q=>q)
 have y2:w2.cell? ⟨S,2,none⟩=some (.slice p.co cs.length p.cc):=by
  obtain⟨n,col,mb,D,ea,c,DW,m,q⟩:=(S2.out.below b2).ss
  exact cell_of m.sa.hp 2
 have v4:w2.cell? ⟨w.heap.size,4,none⟩=some (.int .i64 (z:Int)):=by rw[b2.cell (World.block_lt_of_cell? _ _ v4)];exact v4
 have v1:(w4.setCell ⟨S,2,none⟩ (.slice co (cs.length+1) cc)).cell? ⟨w.heap.size,1,none⟩=some (.int .i64 e.g):=cell_of B4.out.e0 1
 have lS:=World.block_lt_of_cell? _ _ y2
 have lE:=World.block_lt_of_cell? _ _ v4
 have LE:=hide (s4.learn e.g HF.out.1 t b l HF.out.2.1 HF.out.2.2.1 (q:=none) fun _ q=>nomatch q)
 unfold Sl.clv at LE
 clear mk hr s4 k4 b2 b3 NW
 go_wp2_with fail
 go_region_law (refine Gu.step_append_run _ (by rfl) _ _ _ _ (by rfl) _ _ (by rfl) (by rfl) _ _ HR.out ?_)
 all_goals
  go_wp2_with fail
  generalize w4.setCell ⟨S,2,none⟩ (.slice co (cs.length+1) cc)=w5 at*
  refine LE.out.mono ?_
  rintro r w6 ⟨R,L,m,h6,rfl,le⟩
  have B6:=hide (B4.out.step le.kp fun _ q=>.inl q)
  have f0:w6.frozen? ⟨w.heap.size+1,0,none⟩=false:=frozen_of B6.out.z0 0
  have f1:w6.frozen? ⟨w.heap.size+1,1,none⟩=false:=frozen_of B6.out.z0 1
  have d0:w6.cell? ⟨w.heap.size+1,0,none⟩=some (.int .u64 0):=cell_of B6.out.z0 0
  have d1:w6.cell? ⟨w.heap.size+1,1,none⟩=some (.slice none 0 0):=cell_of B6.out.z0 1
  have LT:=hide (show w.heap.size+1<R by have:=le.new;have:=B4.out.lt2;omega)
  have LP:=hide le
  clear le v1 LE
  go_wp2_with fail
  have lt:=LT.out
  exact bodyPost_ret (En.results_row1 Tryz.results45 _ _ _ _ rfl (loadVar_stp (two_set _ _ B6.out.z0 rfl) rfl)) rfl ⟨R,L,m,L,h6,A,_,rfl,st2A LP.out.at_ (by omega) _ _,by omega,(LP.out.sq.fill _ _ (.inl (.inr rfl)) fun j q=>by rcases q with q|q;exact .inl (.inl (.inl q));exact .inr q).up (by omega),B6.out.fill _ _,LP.out.hm,LP.out.mx,fun _=>LP.out.no rfl,LP.out.hb,rfl,LP.out.one,by simp,LP.out.cn⟩
end
end Sp
end Go.Proofs.YtogkjaekfhjelaaGreat
namespace Go.Proofs.YtogkjaekfhjelaaGreat
namespace Sg
open En (Ev)
def tlk(k:Int):Bool:=k==1||k==3||k==4||k==5||k==6
def ftk(k:Int):Bool:=k==3||k==4||k==7
structure St where
 n:Nat
 K:Nat→Nat→Int
 H:(Nat→Int)→Prop
def St.init:St:=⟨1,fun _ t=>if t=0 then 1 else 0,fun y=>∀t,y t=0⟩
structure Own(e:Ev)(s s':St)(g:Nat)(x:Nat→Int):Prop where
 eg:e.g=(g:Int)
 gn:g<s.n
 fe:∃m:Nat→Int,((∀t,m t=0)∨s.H m)∧(∀t,x t=max (s.K g t) (m t))∧(ftk e.k=false→∀t,m t=0)
 own:∀t,s'.K g t=x t+if t=g∧tlk e.k=true then 1 else 0
 oth:∀y,y<s.n→y≠g→∀t,s'.K y t=s.K y t
 n':s'.n=s.n+if e.k=1 then 1 else 0
 new:e.k=1→∀t,s'.K s.n t=if t=s.n then 1 else x t
 kept:∀y,s'.H y→s.H y∨(tlk e.k=true∧∀t,y t=x t)
def Step(e:Ev)(s s':St)(x:Nat→Int):Prop:=if e.k=13 then s'=s∧∀t,x t=0 else ∃g,Own e s s' g x
structure Inv(s:St):Prop where
 pos:∀t,t<s.n→1≤s.K t t
 oth:∀g t,g<s.n→t<s.n→g≠t→s.K g t<s.K t t
 hk:∀x t,s.H x→t<s.n→x t<s.K t t
 z:∀g t,g<s.n→s.n≤t→s.K g t=0
 hz:∀x t,s.H x→s.n≤t→x t=0
 p0:∀g t,g<s.n→0≤s.K g t
 h0:∀x t,s.H x→0≤x t
theorem inv_init:Inv St.init:=by
 refine⟨fun t h=>?_,fun g t h1 h2 h3=>?_,fun x t h h1=>?_,fun g t h1 h2=>?_,fun x t h _=>h t,fun g t _=>?_,fun x t h=>by rw[h t];decide⟩
 ·have:t=0:=by simp[St.init] at h;omega
  simp[St.init,this]
 ·simp[St.init] at h1 h2;omega
 ·have:t=0:=by simp[St.init] at h1;omega
  rw[h t]
  simp[St.init,this]
 ·simp[St.init] at h1 h2 ⊢;omega
 ·simp only[St.init];split<;>omega
section
variable {e:Ev}{s s':St}{g:Nat}{x:Nat→Int}
theorem Own.knows(o:Own e s s' g x)(v:Inv s):x g=s.K g g∧(∀t,t<s.n→t≠g→x t<s.K t t)∧(∀t,s.n≤t→x t=0)∧(∀t,0≤x t)∧∀t,s.K g t≤x t:=by
 obtain⟨m,hm,hx,-⟩:=o.fe
 have pp:=v.pos g o.gn
 refine⟨?_,fun t h1 h2=>?_,fun t h1=>?_,fun t=>?_,fun t=>?_⟩
 ·rw[hx]
  rcases hm with q|q
  ·rw[q];omega
  ·have:=v.hk m g q o.gn;omega
 ·rw[hx]
  have a:=v.oth g t o.gn h1 (Ne.symm h2)
  have b:=v.pos t h1
  rcases hm with q|q
  ·rw[q];omega
  ·have:=v.hk m t q h1;omega
 ·rw[hx,v.z g t o.gn h1]
  rcases hm with q|q
  ·rw[q];omega
  ·rw[v.hz m t q h1];omega
 ·rw[hx]
  have:=v.p0 g t o.gn
  omega
 ·rw[hx]
  omega
theorem Own.inv(o:Own e s s' g x)(v:Inv s):Inv s':=by
 obtain⟨h1,h2,h3,h4,h5⟩:=o.knows v
 have N:=o.n'
 have gn:=o.gn
 have kg:∀t,t≠g→s'.K g t=x t:=fun t ht=>by rw[o.own,if_neg (fun q=>ht q.1)];omega
 have kg0:x g≤s'.K g g:=by rw[o.own];split<;>omega
 have cs:∀y,y<s'.n→y=g∨(y<s.n∧y≠g)∨(y=s.n∧e.k=1):=fun y hy=>by
  rw[N] at hy
  split at hy<;>omega
 have own0:∀t,t<s.n→s.K t t≤s'.K t t:=fun t ht=>by
  by_cases q:t=g
  ·subst q;omega
  ·rw[o.oth t ht q];omega
 refine⟨fun t ht=>?_,fun y t hy ht hne=>?_,fun y t hy ht=>?_,fun y t hy ht=>?_,fun y t hy ht=>?_,fun y t hy=>?_,fun y t hy=>?_⟩
 ·rcases cs t ht with q|⟨q,q2⟩|⟨q,q2⟩
  ·have:=v.pos t (by omega);have:=own0 t (by omega);omega
  ·have:=v.pos t q;have:=own0 t q;omega
  ·rw[q,o.new q2,if_pos rfl];omega
 ·
  have top:∀z:Int,(∀h:t<s.n,z<s.K t t)→(s.n≤t→z=0)→z<s'.K t t:=fun z a b=>by
   by_cases q:t<s.n
   ·have:=a q;have:=own0 t q;omega
   ·have z0:=b (by omega)
    rcases cs t ht with r|⟨r,r2⟩|⟨r,r2⟩
    ·omega
    ·omega
    ·rw[z0,r,o.new r2,if_pos rfl];omega
  rcases cs y hy with q|⟨q,q2⟩|⟨q,q2⟩
  ·subst q
   rw[kg t (Ne.symm hne)]
   exact top _ (fun h=>h2 t h (Ne.symm hne)) (h3 t)
  ·rw[o.oth y q q2]
   exact top _ (fun h=>v.oth y t q h hne) (v.z y t q)
  ·rw[q,o.new q2,if_neg (by omega)]
   by_cases r:t=g
   ·subst r
    have:=o.own t
    have tt:tlk e.k=true:=by rw[q2];decide
    rw[if_pos ⟨rfl,tt⟩] at this
    omega
   ·exact top _ (fun h=>h2 t h r) (h3 t)
 ·rcases o.kept y hy with q|⟨q,q2⟩
  ·by_cases r:t<s.n
   ·have:=v.hk y t q r;have:=own0 t r;omega
   ·have z0:=v.hz y t q (by omega)
    rcases cs t ht with w|⟨w,w2⟩|⟨w,w2⟩
    ·omega
    ·omega
    ·rw[z0,w,o.new w2,if_pos rfl];omega
  ·rw[q2]
   by_cases r:t=g
   ·subst r
    have:=o.own t
    rw[if_pos ⟨rfl,q⟩] at this
    omega
   ·by_cases w:t<s.n
    ·have:=h2 t w r;have:=own0 t w;omega
    ·have z0:=h3 t (by omega)
     rcases cs t ht with u|⟨u,u2⟩|⟨u,u2⟩
     ·omega
     ·omega
     ·rw[z0,u,o.new u2,if_pos rfl];omega
 ·have st:s.n≤t:=by rw[N] at ht;split at ht<;>omega
  rcases cs y hy with q|⟨q,q2⟩|⟨q,q2⟩
  ·subst q
   rw[kg t (by omega)]
   exact h3 t st
  ·rw[o.oth y q q2]
   exact v.z y t q st
  ·rw[q,o.new q2,if_neg (by rw[N,if_pos q2] at ht;omega)]
   exact h3 t st
 ·have st:s.n≤t:=by rw[N] at ht;split at ht<;>omega
  rcases o.kept y hy with q|⟨q,q2⟩
  ·exact v.hz y t q st
  ·rw[q2];exact h3 t st
 ·rcases cs y hy with q|⟨q,q2⟩|⟨q,q2⟩
  ·subst q
   rw[o.own]
   have:=h4 t
   split<;>omega
  ·rw[o.oth y q q2];exact v.p0 y t q
  ·rw[q,o.new q2]
   have:=h4 t
   split<;>omega
 ·rcases o.kept y hy with q|⟨q,q2⟩
  ·exact v.h0 y t q
  ·rw[q2];exact h4 t
theorem Own.grow(o:Own e s s' g x)(v:Inv s){y:Nat}(hy:y<s.n)(t:Nat):s.K y t≤s'.K y t:=by
 by_cases q:y=g
 ·subst q
  have:=(o.knows v).2.2.2.2 t
  rw[o.own]
  split<;>omega
 ·rw[o.oth y hy q]
  omega
end
structure Run(l:List Ev)(S:Nat→St)(X:Nat→Nat→Int):Prop where
 i0:S 0=St.init
 st:∀(i:Nat) e,l[i]? =some e→Step e (S i) (S (i+1)) (X i)
section
variable {l:List Ev}{S:Nat→St}{X:Nat→Nat→Int}
theorem Run.get(r:Run l S X){i:Nat}{e:Ev}(he:l[i]? =some e)(hk:e.k≠13):∃g,Own e (S i) (S (i+1)) g (X i):=by
 have q:=r.st i e he
 unfold Step at q
 rw[if_neg hk] at q
 exact q
theorem Run.inv(r:Run l S X):∀i,i≤l.length→Inv (S i)
 |0,_=>by rw[r.i0];exact inv_init
 |i+1,h=>by
  obtain⟨e,he⟩:∃e,l[i]? =some e:=⟨_,List.getElem?_eq_getElem (by omega)⟩
  have q:=r.st i e he
  have v:=r.inv i (by omega)
  unfold Step at q
  split at q
  ·rw[q.1];exact v
  ·obtain⟨g,o⟩:=q
   exact o.inv v
theorem Run.mono(r:Run l S X)(i:Nat):∀d,i+d≤l.length→(S i).n≤(S (i+d)).n∧∀y,y<(S i).n→∀t,(S i).K y t≤(S (i+d)).K y t
 |0,_=>⟨Nat.le_refl _,fun _ _ _=>Int.le_refl _⟩
 |d+1,h=>by
  obtain⟨a,b⟩:=r.mono i d (by omega)
  obtain⟨e,he⟩:∃e,l[i+d]? =some e:=⟨_,List.getElem?_eq_getElem (by omega)⟩
  have q:=r.st (i+d) e he
  have v:=r.inv (i+d) (by omega)
  unfold Step at q
  rw[←Nat.add_assoc]
  split at q
  ·rw[q.1];exact⟨a,b⟩
  ·obtain⟨g,o⟩:=q
   refine⟨?_,fun y hy t=>Int.le_trans (b y hy t) (o.grow v (by omega) t)⟩
   rw[o.n']
   split<;>omega
theorem Run.bd(r:Run l S X):∀i,i≤l.length→∀g,g<(S i).n→(S i).K g g≤(i:Int)+1
 |0,_,g,hg=>by
  rw[r.i0] at hg ⊢
  have:g=0:=by simp[St.init] at hg;omega
  simp[St.init,this]
 |i+1,h,y,hy=>by
  obtain⟨e,he⟩:∃e,l[i]? =some e:=⟨_,List.getElem?_eq_getElem (by omega)⟩
  have q:=r.st i e he
  have v:=r.inv i (by omega)
  have b:=r.bd i (by omega)
  unfold Step at q
  split at q
  ·rw[q.1] at hy ⊢
   have:=b y hy
   omega
  ·obtain⟨g,o⟩:=q
   have k:=(o.knows v).1
   have bg:=b g o.gn
   rw[o.n'] at hy
   by_cases q:y=g
   ·subst q
    rw[o.own]
    split<;>omega
   ·by_cases q2:y<(S i).n
    ·rw[o.oth y q2 q]
     have:=b y q2
     omega
    ·have e1:e.k=1:=by split at hy<;>omega
     rw[if_pos e1] at hy
     have:y=(S i).n:=by omega
     rw[this,o.new e1,if_pos rfl]
     omega
theorem Run.there(r:Run l S X):∀i,i≤l.length→(S i).n=Gu.there (l.take i)
 |0,_=>by rw[r.i0];rfl
 |i+1,h=>by
  obtain⟨e,he⟩:∃e,l[i]? =some e:=⟨_,List.getElem?_eq_getElem (by omega)⟩
  have q:=r.st i e he
  have b:=r.there i (by omega)
  rw[List.take_add_one,he,Option.toList_some,Gu.there_app]
  unfold Step at q
  split at q
  ·rw[q.1,if_neg (by omega)];exact b
  ·obtain⟨g,o⟩:=q
   rw[o.n',b]
theorem Run.nil:Run [] (fun _=>St.init) (fun _ _=>0):=⟨rfl,fun i e h=>by cases h⟩
theorem Run.snoc(r:Run l S X){e:Ev}{s':St}{x:Nat→Int}(h:Step e (S l.length) s' x):∃S' X',Run (l++[e]) S' X'∧S' (l.length+1)=s'∧(∀j,j<l.length→X' j=X j)∧X' l.length=x:=by
 refine⟨fun j=>if j=l.length+1 then s' else S j,fun j=>if j=l.length then x else X j,⟨?_,fun i f hi=>?_⟩,if_pos rfl,fun j hj=>if_neg (by omega),if_pos rfl⟩
 ·show (if 0=l.length+1 then s' else S 0)=_
  rw[if_neg (by omega)]
  exact r.i0
 ·show Step f (if i=l.length+1 then s' else S i) (if i+1=l.length+1 then s' else S (i+1)) (if i=l.length then x else X i)
  by_cases q:i<l.length
  ·rw[List.getElem?_append_left q] at hi
   rw[if_neg (by omega),if_neg (by omega),if_neg (by omega)]
   exact r.st i f hi
  ·have:=(List.getElem?_eq_some_iff.1 hi).1
   simp at this
   obtain rfl:i=l.length:=by omega
   simp at hi
   subst hi
   rw[if_neg (by omega),if_pos rfl,if_pos rfl]
   exact h
theorem Run.grows(r:Run l S X){k i:Nat}{e f:Ev}{g y:Nat}(hk:l[k]? =some f)(hi:l[i]? =some e)(hlt:k<i)(he:e.k≠13)(hf:f.k≠13)(eg:e.g=(g:Int))(fg:f.g=(y:Int)):
 (y=g→∀t,X k t≤X i t)∧(y≠g→X k g<X i g):=by
 obtain⟨g',o⟩:=r.get hi he
 obtain⟨y',p⟩:=r.get hk hf
 obtain rfl:g=g':=by have:=o.eg;omega
 obtain rfl:y=y':=by have:=p.eg;omega
 have li:=(List.getElem?_eq_some_iff.1 hi).1
 have vi:=r.inv i (by omega)
 have vk:=r.inv k (by omega)
 obtain⟨n1,m1⟩:=r.mono (k+1) (i - (k+1)) (by omega)
 rw[show k+1+(i - (k+1))=i by omega] at n1 m1
 have nk:(S k).n≤(S (k+1)).n:=by rw[p.n'];split<;>omega
 refine⟨fun q t=>?_,fun q=>?_⟩
 ·subst q
  have a:=m1 y (by have:=p.gn;omega) t
  have b:=(o.knows vi).2.2.2.2 t
  have c:=p.own t
  split at c<;>omega
 ·have a:=(o.knows vi).1
  have c:=p.own g
  rw[if_neg (fun z=>q z.1.symm)] at c
  have v1:=r.inv (k+1) (by omega)
  by_cases w:g<(S (k+1)).n
  ·have b:=v1.oth y g (by have:=p.gn;omega) w q
   have d:=m1 g w g
   omega
  ·have b:=v1.z y g (by have:=p.gn;omega) (by omega)
   have d:=vi.pos g o.gn
   omega
theorem Run.same(r:Run l S X){k i:Nat}{e f:Ev}{g:Nat}(hk:l[k]? =some f)(hi:l[i]? =some e)(hlt:k<i)(he:e.k≠13)(hf:f.k≠13)(eg:e.g=(g:Int))(fg:f.g=(g:Int))(hn:ftk e.k=false)
 (hno:∀j x,k<j→j<i→l[j]? =some x→x.k=13∨x.g≠(g:Int)) (t:Nat) (ht:t≠g):X i t=X k t:=by
 obtain⟨g',o⟩:=r.get hi he
 obtain⟨y',p⟩:=r.get hk hf
 obtain rfl:g=g':=by have:=o.eg;omega
 obtain rfl:g=y':=by have:=p.eg;omega
 have li:=(List.getElem?_eq_some_iff.1 hi).1
 have vi:=r.inv i (by omega)
 have key:∀d,k+1+d≤i→(S (k+1+d)).K g t=(S (k+1)).K g t∧g<(S (k+1+d)).n:=by
  intro d
  induction d with
  |zero=>
   intro _
   refine⟨rfl,?_⟩
   have:=p.n'
   have:=p.gn
   show g<(S (k+1)).n
   split at*<;>omega
  |succ d ih=>
   intro hd
   obtain⟨a,b⟩:=ih (by omega)
   obtain⟨x,hx⟩:∃x,l[k+1+d]? =some x:=⟨_,List.getElem?_eq_getElem (by omega)⟩
   have q:=r.st _ x hx
   unfold Step at q
   rw[←Nat.add_assoc]
   split at q
   ·rw[q.1];exact⟨a,b⟩
   ·rename_i hx13
    obtain⟨z,oz⟩:=q
    have zg:g≠z:=fun c=>by
     rcases hno _ x (by omega) (by omega) hx with w|w
     ·exact hx13 w
     ·exact w (by rw[oz.eg,c])
    refine⟨(oz.oth g b zg t).trans a,?_⟩
    have:=oz.n'
    split at this<;>omega
 obtain⟨a,-⟩:=key (i - (k+1)) (by omega)
 rw[show k+1+(i - (k+1))=i by omega] at a
 obtain⟨m,-,hx,hm⟩:=o.fe
 have c:=p.own t
 rw[if_neg (fun z=>ht z.1)] at c
 have p1:=vi.p0 g t o.gn
 rw[hx,hm hn,a]
 rw[a] at p1
 omega
end
end Sg
open Go.ChangeShapes Go.WideShapes Go.ChangeAt Go.RowKit
namespace Sp
open Ck Wa
open En (Ev)
open Sg (tlk ftk)
def NwG(st st':Wst)(h h':Nat→Option (List Int))(e:Ev)(L:List Int):Prop:=
 if e.k=1 then ∃Ac lc,st'={st with n:=st.n+1,f:=upf st.f e.m (some (st.n,Ac))}∧h Ac=none∧h' Ac=some lc∧∀j,nth lc j=if j=st.n then 1 else nth L j else st'=st
structure EvQ(w w':World)(S B:Nat)(st:Wst)(h:Nat→Option (List Int))(es:List Ev)(T:Nat→Prop)(H:List Int→Prop)(k nc t b:Nat)(l:List Int)(e:Ev)(R:Nat)(L m:List Int)(st':Wst)(h':Nat→Option (List Int))(cs':List Chn)(wm':Wm)(du':Option Nat)(p':Pl):Prop where
 at_:Ck.At w' (some ⟨R,0,none⟩) L
 new:w.heap.size≤R
 sq:SQ w' S B st' h' es cs' wm' du' p' (Y1 T R) (if tlk e.k then HL H L else H) (k+6)
 kp:Kp T w w'
 hm:H m
 mx:∀j,nth L j=max (nth l j) (nth m j)
 no:ftk e.k=false→m=[]
 own:∃lb,h' b=some lb∧∀j,nth lb j=nth L j+if j=t∧tlk e.k=true then 1 else 0
 one:One b h h'
 len:cs'.length=nc+if e.k=2 then 1 else 0
 nw:NwG st st' h h' e L
 cn:Canon L
section
variable {w w':World}{S B:Nat}{st:Wst}{h h':Nat→Option (List Int)}{es:List Ev}{cs cs':List Chn}{wm wm':Wm}{du du':Option Nat}{p p':Pl}{T:Nat→Prop}{H:List Int→Prop}{k i P z t b nc:Nat}{l L m lb:List Int}
theorem SQ.mx0(s:SQ w S B st h es cs wm du p T H k)(hb:h b=some l)(j:Nat):nth l j=max (nth l j) (nth [] j):=by
 have v:=s.val hb
 by_cases q:j<l.length
 ·have:=v j q
  unfold okN at this
  simp at this
  rw[nth_out [] j (by simp)]
  omega
 ·rw[nth_out l j (by omega),nth_out [] j (by simp)];rfl
theorem SQ.wat(s:SQ w S B st h es cs wm du p T H k):∃Y:Nat→Prop,WW Y B w st h∧Y S∧w.cell? ⟨S,0,none⟩=some (.pointer (some ⟨B,0,none⟩))∧(∀k,T k→Y k)∧∀(w':World) (st':Wst) (h':Nat→Option (List Int)) (R:Nat) (H':List Int→Prop),WW (Y1 Y R) B w' st' h'→w.heap.size≤R→Kp Y w w'→(∀b l,h b=some l→∃l',h' b=some l')→(∀c,Kept cs wm du c→FV st' h' H' c)→H' []→SQ w' S B st' h' es cs wm du p (Y1 T R) H' k:=by
 obtain⟨Y,W,yS,hT,go⟩:=s.ss.wat
 refine⟨Y,W,yS,s.ss.cellS.1,fun k q=>hT k (.inl q),fun w' st' h' R H' x hR kp hd hk hz=>⟨go w' st' h' (fun k=>k=R) x (fun k e=>by rw[e];exact hR) kp hd,hk,s.cn,hz,s.wn⟩⟩
theorem stay_q(s:SQ w S B st h es cs wm du p T H k)(e:Ev)(hg:(Lit.int .i64 e.g).wf=true)(hf:st.f e.g=some (t,b))(hb:h b=some l):
 Calls Tryz.prog 51 #[.pointer (some ⟨S,0,none⟩),En.evv e] w fun r w'=>∃R h',r=.returned (.agg #[.int .u64 (epk (t:Int) (nth l t)),.slice (some ⟨R,0,none⟩) l.length l.length])∧Ck.At w' (some ⟨R,0,none⟩) l∧w.heap.size≤R∧SQ w' S B st h' es cs wm du p (Y1 T R) H k∧Kp T w w'∧Sl.Ext h h':=by
 obtain⟨Y,W,yS,hS,hT,go⟩:=s.wat
 refine (stay_some W hS yS e hg t b _ l hf hb rfl).mono ?_
 rintro r w' ⟨R,A,hA,rfl,at_,hR,x,kp⟩
 have ex:Sl.Ext h (upd h A l):=Sl.Ext.upd hA
 exact⟨R,_,rfl,at_,hR,go w' st _ R H x hR kp (fun b l q=>⟨l,ex b l q⟩) (fun c q=>(s.kp c q).nx (fun c l _ q=>ex c l q) fun _ q=>q) s.z,Wa.Kp.mono kp hT,ex⟩
theorem stay_n(s:SQ w S B st h es cs wm du p T H k)(e:Ev)(hg:(Lit.int .i64 e.g).wf=true)(hf:st.f e.g=none):
 Calls Tryz.prog 51 #[.pointer (some ⟨S,0,none⟩),En.evv e] w fun r w'=>r=.returned (.agg #[.int .u64 0,.slice none 0 0])∧SQ w' S B st h es cs wm du p T H k∧Kp T w w':=by
 obtain⟨Y,W,yS,hS,hT,go⟩:=s.wat
 refine (stay_none W hS yS e hg hf).mono ?_
 rintro r w' ⟨rfl,-,b⟩
 exact⟨rfl,s.below b,Kp.of b fun k q=>s.ss.tlt q⟩
theorem spawn_q(s:SQ w S B st h es cs wm du p T H k)(e:Ev)(hg:(Lit.int .i64 e.g).wf=true)(hm:(Lit.int .i64 e.m).wf=true)(hm0:0≤e.m)(hf:st.f e.g=some (t,b))(hfc:st.f e.m=none)(hb:h b=some l)(hM:∀m,H m→max (nth l t) (nth m t)<(st.M:Int))(hT:st.n<st.T)(hU:∀t,Used st.f t↔t<st.n)(hk:e.k=1):
 Calls Tryz.prog 44 #[.pointer (some ⟨S,0,none⟩),En.evv e] w fun r w'=>∃R st' h',r=.returned (.agg #[.int .u64 (epk (t:Int) (nth l t)),.slice (some ⟨R,0,none⟩) l.length l.length])∧EvQ w w' S B st h es T H k cs.length t b l e R l [] st' h' cs wm du p:=by
 obtain⟨Y,W,yS,hS,hTY,go⟩:=s.wat
 have n256:st.n<256:=by
  obtain⟨mb,D,x⟩:=W
  have:=x.bd.1
  omega
 have ob:ON st b:=⟨_,_,hf⟩
 have h1:=hM [] s.z
 refine (spawn_ok W hS yS e hg hm hm0 t b st.n _ l hf hfc hb rfl (by omega) hT n256 (fun q=>Nat.lt_irrefl _ ((hU _).1 q)) (fun t q=>(hU t).2 q)).mono ?_
 rintro r w' ⟨R,Ac,lb,lc,h',q⟩
 have bA:b≠Ac:=fun e=>by have:=q.fr;rw[←e,hb] at this;cases this
 have on':∀c,c≠Ac→¬ON st c→¬ON {st with n:=st.n+1,f:=upf st.f e.m (some (st.n,Ac))} c:=fun c n1 n2 o=>by
  obtain⟨g,t,o⟩:=o
  have o:upf st.f e.m (some (st.n,Ac)) g=some (t,c):=o
  unfold upf at o
  split at o
  ·cases o;exact n1 rfl
  ·exact n2 ⟨g,t,o⟩
 have tk:tlk e.k=true:=by rw[hk];decide
 refine⟨R,{st with n:=st.n+1,f:=upf st.f e.m (some (st.n,Ac))},h',q.res,q.at_,q.new,?_,Wa.Kp.mono q.kp hTY,s.z,s.mx0 hb,fun _=>rfl,⟨lb,q.hb,fun j=>?_⟩,fun c l n e=>q.oth c l n e,by rw[if_neg (by omega)];rfl,?_,s.can hb⟩
 ·rw[tk]
  refine (go w' _ h' R (HL H l) q.ww q.new q.kp (fun b' l' e'=>?_) (fun c hc=>?_) (.inl s.z)).up (by omega)
  ·by_cases z:b'=b
   ·exact⟨lb,by rw[z];exact q.hb⟩
   ·exact⟨l',q.oth b' l' z e'⟩
  ·obtain⟨n1,m,e1,e2⟩:=s.kp c hc
   refine⟨on' c (fun e=>by have:=q.fr;rw[←e,e1] at this;cases this) n1,m,q.oth c m (fun e=>n1 (e ▸ ob)) e1,.inl e2⟩
 ·rw[q.isb.2.2 j]
  by_cases e:j=t
  ·rw[if_pos e,if_pos ⟨e,tk⟩,e]
  ·rw[if_neg e,if_neg (fun q=>e q.1)];omega
 ·unfold NwG
  rw[if_pos hk]
  exact⟨Ac,lc,rfl,q.fr,q.hc,fun j=>q.isc.2.2 j⟩
theorem EvQ.of{e:Ev}{ft tl:Bool}{r:Ending}{R:Nat}(q:EvP w w' S B st h es T H k nc t b l ft tl r R L m lb h' cs' wm' du' p')(hf:ftk e.k=ft)(ht:tlk e.k=tl)(h1:e.k≠1)(n:Nat)(hn:nc=n+if e.k=2 then 1 else 0):EvQ w w' S B st h es T H k n t b l e R L m st h' cs' wm' du' p':=by
 subst hf ht
 refine⟨q.at_,q.new,q.sq.up (by omega),q.kp,q.hm,q.mx,q.no,⟨lb,q.hb,fun j=>?_⟩,q.one,q.len.trans hn,?_,q.cn⟩
 ·have s:=q.set
  cases ht:tlk e.k
  ·rw[ht] at s
   have s:lb=L:=s
   rw[s,if_neg (fun q=>by cases q.2)]
   omega
  ·rw[ht] at s
   have s:IsSet L lb t (nth L t+1):=s
   rw[s.2.2 j]
   by_cases e:j=t
   ·rw[if_pos e,if_pos ⟨e,rfl⟩,e]
   ·rw[if_neg e,if_neg (fun q=>e q.1)];omega
 ·unfold NwG
  rw[if_neg h1]
structure EvF(st:Wst)(cs:List Chn)(e:Ev):Prop where
 g:(Lit.int .i64 e.g).wf=true
 m:(Lit.int .i64 e.m).wf=true
 ch:e.k=3∨e.k=4∨e.k=5∨e.k=7∧e.o=false→∃i P z,e.c=((i:Nat):Int)∧ChAt cs i P z
 bd:e.k=2→∃z:Nat,e.v=(z:Int)∧z≤4∧cs.length<900
 sp:e.k=1→0≤e.m∧st.f e.m=none∧st.n<st.T∧∀t,Used st.f t↔t<st.n
theorem do_q(s:SQ w S B st h es cs wm du p T H k)(e:Ev)(F:EvF st cs e)(hf:st.f e.g=some (t,b))(hb:h b=some l)(hM:∀m,H m→max (nth l t) (nth m t)<(st.M:Int))(hk:k≤9000):
 Calls Tryz.prog (dgF e.k) #[.pointer (some ⟨S,0,none⟩),En.evv e] w fun r w'=>∃R L m st' h' cs' wm' du' p',r=.returned (.agg #[.int .u64 (epk (t:Int) (nth L t)),.slice (some ⟨R,0,none⟩) L.length L.length])∧EvQ w w' S B st h es T H k cs.length t b l e R L m st' h' cs' wm' du' p':=by
 have of:∀{ft tl:Bool} {r w'} (nc:Nat),(nc=cs.length+if e.k=2 then 1 else 0)→ftk e.k=ft→tlk e.k=tl→e.k≠1→(∃R L m lb h' cs' wm' du' p',EvP w w' S B st h es T H k nc t b l ft tl r R L m lb h' cs' wm' du' p')→∃R L m st' h' cs' wm' du' p',r=.returned (.agg #[.int .u64 (epk (t:Int) (nth L t)),.slice (some ⟨R,0,none⟩) L.length L.length])∧EvQ w w' S B st h es T H k cs.length t b l e R L m st' h' cs' wm' du' p':=by
  rintro ft tl r w' nc hn h1 h2 h3 ⟨R,L,m,lb,h',cs',wm',du',p',q⟩
  exact⟨R,L,m,st,h',cs',wm',du',p',q.res,EvQ.of q h1 h2 h3 _ hn⟩
 by_cases k1:e.k=1
 ·rw[show dgF e.k=44 from by rw[k1];rfl]
  obtain⟨a1,a2,a3,a4⟩:=F.sp k1
  refine (spawn_q s e F.g F.m a1 hf a2 hb hM a3 a4 k1).mono ?_
  rintro r w' ⟨R,st',h',rfl,q⟩
  exact⟨R,l,[],st',h',cs,wm,du,p,rfl,q⟩
 by_cases k2:e.k=2
 ·rw[show dgF e.k=45 from by rw[k2];rfl]
  obtain⟨z,a1,a2,a3⟩:=F.bd k2
  refine (build_ok s e F.g hf hb a1 a2 a3).mono ?_
  rintro r w' ⟨R,L,m,lb,h',A,p',q⟩
  exact of _ (by rw[if_pos k2]) (by rw[k2];decide) (by rw[k2];decide) k1 ⟨R,L,m,lb,h',_,_,_,p',q⟩
 have n2:cs.length=cs.length+if e.k=2 then 1 else 0:=by rw[if_neg k2];rfl
 by_cases k3:e.k=3
 ·rw[show dgF e.k=46 from by rw[k3];rfl]
  obtain⟨i,P,z,a1,a2⟩:=F.ch (.inl k3)
  exact (send_ok s e F.g F.m hf hb hM a1 a2 hk).mono fun r w'=>of _ n2 (by rw[k3];decide) (by rw[k3];decide) k1
 by_cases k4:e.k=4
 ·rw[show dgF e.k=47 from by rw[k4];rfl]
  obtain⟨i,P,z,a1,a2⟩:=F.ch (.inr (.inl k4))
  exact (rcv_ok s e F.g F.m hf hb hM a1 a2 hk).mono fun r w'=>of _ n2 (by rw[k4];decide) (by rw[k4];decide) k1
 by_cases k5:e.k=5
 ·rw[show dgF e.k=48 from by rw[k5];rfl]
  obtain⟨i,P,z,a1,a2⟩:=F.ch (.inr (.inr (.inl k5)))
  exact (shut_ok s e F.g hf hb hM a1 a2).mono fun r w'=>of _ n2 (by rw[k5];decide) (by rw[k5];decide) k1
 by_cases k6:e.k=6
 ·rw[show dgF e.k=49 from by rw[k6];rfl]
  exact (park_ok s e F.g hf hb hM hk).mono fun r w'=>of _ n2 (by rw[k6];decide) (by rw[k6];decide) k1
 by_cases k7:e.k=7
 ·rw[show dgF e.k=50 from by rw[k7];rfl]
  exact (wake_ok s e F.g hf hb fun o=>F.ch (.inr (.inr (.inr ⟨k7,o⟩)))).mono fun r w'=>of _ n2 (by rw[k7];decide) (by rw[k7];decide) k1
 ·have b1:∀x:Int,e.k≠x→(e.k==x)=false:=fun x q=>by simpa using q
  rw[show dgF e.k=51 from by unfold dgF;rw[b1 1 k1,b1 2 k2,b1 3 k3,b1 4 k4,b1 5 k5,b1 6 k6,b1 7 k7];rfl]
  have tk:tlk e.k=false:=by unfold tlk;rw[b1 1 k1,b1 3 k3,b1 4 k4,b1 5 k5,b1 6 k6];rfl
  refine (stay_q s e F.g hf hb).mono ?_
  rintro r w' ⟨R,h',rfl,a,n,q,kp,ex⟩
  refine⟨R,l,[],st,h',cs,wm,du,p,rfl,a,n,by rw[tk];exact q.up (by omega),kp,s.z,s.mx0 hb,fun _=>rfl,⟨l,ex _ _ hb,fun j=>by rw[if_neg (fun q=>by rw[tk] at q;cases q.2)];omega⟩,One.ext ex,n2,?_,s.can hb⟩
  unfold NwG
  rw[if_neg k1]
end
end Sp
namespace Sp
open Ck Wa
open En (Ev)
section
variable {Y Y':Nat→Prop}{S B:Nat}{w w':World}{st:Wst}{h:Nat→Option (List Int)}{ea:Option Addr}{c:Nat}{es:List Ev}{cv mv dv:Value}
theorem NX.below(x:NX Y S B w st h ea c es cv mv dv)(b:Below w.heap.size w w'):NX Y S B w' st h ea c es cv mv dv:=
 ⟨(b.block S x.lt).trans x.hp,x.ww.below b,x.ys,own_keep x.ev fun g q=>b.block g (own_lt x.ev q),x.ye⟩
theorem NX.box(x:NX Y S B w st h ea c es cv mv dv)(o:Obj):NX (Y1 Y w.heap.size) S B (w.alloc o) st h ea c es cv mv dv:=
 ⟨((below_alloc w o).block S x.lt).trans x.hp,boxW x.ww o,.inl x.ys,own_keep x.ev fun g q=>(below_alloc w o).block g (own_lt x.ev q),fun g q=>⟨.inl (x.ye g q).1,(x.ye g q).2⟩⟩
theorem NX.grown(x:NX Y S B w st h ea c es cv mv dv)(g:w.grownBy w' (Value.slice ea es.length c).ownBlock)(o:w'.ownsRow 0 40 8 (.slice ea es.length c) es.length (ec es)):NX Y S B w' st h ea c es cv mv dv:=
 ⟨(g.block S x.lt (fun q=>(x.ye S q.symm).2 rfl)).trans x.hp,fgnW x.ww g.size (fun k hk hn=>g.block k hk (fun q=>hn (x.ye k q.symm).1)) (fun _ q=>.inl q) (fun k q=>Nat.lt_of_lt_of_le (x.ww.ylt k q) g.size),x.ys,o,x.ye⟩
def YB(Y:Nat→Prop)(v:Value):Nat→Prop:=fun k=>Y k∨v.ownBlock=some k
theorem NX.noted(x:NX Y S B w st h ea c es cv mv dv){u:World}(b:Below w.heap.size w u){ea':Option Addr}{c' n:Nat}{e:Ev}(hn:n=es.length)(g:u.grownBy w' (Value.slice ea n c).ownBlock)(o:w'.ownsRow 0 40 8 (.slice ea' (n+1) c') (n+1) (ec (es++[e])))
 (hat:(Value.slice ea' (n+1) c').ownBlock=(Value.slice ea n c).ownBlock∨(Value.slice ea' (n+1) c').ownBlock=some u.heap.size):NX (YB Y (.slice ea' (n+1) c')) S B (w'.setCell ⟨S,1,none⟩ (.slice ea' (n+1) c')) st h ea' c' (es++[e]) cv mv dv:=by
 subst hn
 have hl:(es++[e]).length=es.length+1:=by simp
 have hS:w'.heap[S]? =some (.cells #[.pointer (some ⟨B,0,none⟩),.slice ea es.length c,cv,mv,dv] 65 (0,0)):=(g.block S (Nat.lt_of_lt_of_le x.lt b.size) (fun q=>(x.ye S q.symm).2 rfl)).trans ((b.block S x.lt).trans x.hp)
 have gs:∀k,(Value.slice ea' (es.length+1) c').ownBlock=some k→k≠S:=fun k q=>by
  rcases hat with z|z
  ·exact (x.ye k (z.symm.trans q)).2
  ·rw[z] at q
   cases q
   have:=x.lt
   have:=b.size
   omega
 have sz:(w'.setCell ⟨S,1,none⟩ (.slice ea' (es.length+1) c')).heap.size=w'.heap.size:=by simp[World.setCell]
 refine⟨?_,?_,.inl x.ys,?_,fun k q=>⟨.inr (by rw[hl] at q;exact q),gs k (by rw[hl] at q;exact q)⟩⟩
 ·rw[Ba.heap_setCell_same hS,hl]
  rfl
 ·refine fgnW x.ww (by rw[sz];exact Nat.le_trans b.size g.size) (fun k hk hn=>?_) (fun k q=>?_) (fun k q=>?_)
  ·rw[Below.heap_setCell _ _ _ _ (fun q=>hn (by rw[show k=S from q];exact x.ys))]
   exact (g.block k (Nat.lt_of_lt_of_le hk b.size) (fun q=>hn (x.ye k q.symm).1)).trans (b.block k hk)
  ·rcases q with q|q
   ·exact .inl q
   ·rcases hat with z|z
    ·exact .inl (x.ye k (z.symm.trans q)).1
    ·rw[z] at q
     cases q
     exact .inr b.size
  ·rw[sz]
   rcases q with q|q
   ·exact Nat.lt_of_lt_of_le (x.ww.ylt k q) (Nat.le_trans b.size g.size)
   ·exact own_lt o q
 ·rw[hl]
  exact own_keep o fun k q=>Below.heap_setCell _ _ _ _ (gs k q)
end
theorem dg_call(k:Int):∀(args:Array Value) (w:World),(callFunc (dgF k) args).run Tryz.prog w=.ok (.enter (dgF k) args) w:=by
 unfold dgF
 intro args w
 cases k==1
 ·cases k==2
  ·cases k==3
   ·cases k==4
    ·cases k==5
     ·cases k==6
      ·cases k==7
       ·exact Tryz.call51 args w
       ·exact Tryz.call50 args w
      ·exact Tryz.call49 args w
     ·exact Tryz.call48 args w
    ·exact Tryz.call47 args w
   ·exact Tryz.call46 args w
  ·exact Tryz.call45 args w
 ·exact Tryz.call44 args w
def DoQ(S B:Nat)(st:Wst)(h:Nat→Option (List Int))(e:Ev)(F:Int→Nat→List Int→Wst→(Nat→Option (List Int))→Prop):Prop:=
 ∀(Y:Nat→Prop) (u:World),WW Y B u st h→Y S→u.cell? ⟨S,0,none⟩=some (.pointer (some ⟨B,0,none⟩))→Calls Tryz.prog (dgF e.k) #[.pointer (some ⟨S,0,none⟩),En.evv e] u fun r w'=>∃ev R n l st' h',r=.returned (.agg #[.int .u64 ev,.slice (some ⟨R,0,none⟩) n n])∧Ck.At w' (some ⟨R,0,none⟩) l∧u.heap.size≤R∧WW (Y1 Y R) B w' st' h'∧Kp Y u w'∧F ev n l st' h'
structure NoQ(Y0:Nat→Prop)(S B:Nat)(w:World)(es:List Ev)(cv mv dv:Value)(F:Int→Nat→List Int→Wst→(Nat→Option (List Int))→Prop)(e:Ev)(r:Ending)(w':World)(ev:Int)(R n:Nat)(l:List Int)(st':Wst)(h':Nat→Option (List Int))(Y':Nat→Prop)(ea':Option Addr)(c':Nat):Prop where
 res:r=.returned (.tuple #[.agg #[.int .u64 ev,.slice (some ⟨R,0,none⟩) n n],.int .i64 0])
 at_:Ck.At w' (some ⟨R,0,none⟩) l
 nx:NX Y' S B w' st' h' ea' c' (es++[e]) cv mv dv
 yr:Y' R
 ar:R≠S∧(Value.slice ea' (es++[e]).length c').ownBlock≠some R
 y0:∀k,Y0 k→Y' k∧k≠S∧(Value.slice ea' (es++[e]).length c').ownBlock≠some k
 new:¬Y0 R
 kp:Kp Y0 w w'
 f:F ev n l st' h'
structure NP(Y0:Nat→Prop)(S B:Nat)(w:World)(st:Wst)(h:Nat→Option (List Int))(es:List Ev)(cv mv dv:Value)(e:Ev)(Ya:Nat→Prop)(ea':Option Addr)(c' T:Nat)(u:World):Prop where
 x:NX Ya S B u st h ea' c' (es++[e]) cv mv dv
 q:∀k,Y0 k→Ya k∧k≠S∧(Value.slice ea' (es++[e]).length c').ownBlock≠some k∧k≠T
 t:Ya T∧T≠S∧(Value.slice ea' (es++[e]).length c').ownBlock≠some T
 kp:Kp Y0 w u
set_option maxRecDepth 100000 in
theorem note_raw{Y Y0:Nat→Prop}{S B:Nat}{w:World}{st:Wst}{h:Nat→Option (List Int)}{ea:Option Addr}{c:Nat}{es:List Ev}{cv mv dv:Value}(x:NX Y S B w st h ea c es cv mv dv)(hy:∀k,Y0 k→Y k∧k≠S∧(Value.slice ea es.length c).ownBlock≠some k)(e:Ev)(hl:es.length<2000)(hfo:∀b,FlP es e b→b=true)
 (hca:tlB e.k=true→(Lit.int .i64 e.g).wf=true∧∃t b l,st.f e.g=some (t,b)∧h b=some l∧((!(e.k==1)||decide (st.n<st.T))&&decide (nth l t<(st.M:Int)))=true) (D:(Nat→Prop)→Option Addr→Nat→Nat→World→Int→Option Addr→Nat→World→Prop)
 (DO:∀Ya ea' c' T u,NP Y0 S B w st h es cv mv dv e Ya ea' c' T u→Calls Tryz.prog (dgF e.k) #[.pointer (some ⟨S,0,none⟩),En.evv e] u fun r w'=>∃ev R n,r=.returned (.agg #[.int .u64 ev,.slice R n n])∧Kp (fun k=>k=T) u w'∧D Ya ea' c' T u ev R n w'):
 Calls Tryz.prog 13 #[.pointer (some ⟨S,0,none⟩),En.evv e] w fun r w'=>∃ev R n Ya ea' c' T u w8,r=.returned (.tuple #[.agg #[.int .u64 ev,.slice R n n],.int .i64 0])∧NP Y0 S B w st h es cv mv dv e Ya ea' c' T u∧D Ya ea' c' T u ev R n w8∧w'=(w8.setCell ⟨T,0,none⟩ (.int .u64 ev)).setCell ⟨T,1,none⟩ (.slice R n n):=by
 obtain⟨n,hn⟩:∃n,n=es.length:=⟨_,rfl⟩
 have x2:=(x.box (.cells #[.int .i64 e.k,.int .i64 e.g,.int .i64 e.c,.int .i64 e.a,.int .i64 e.v,.int .i64 e.m,.bool e.s,.bool e.o] 40)).box (.cells #[.int .u64 0,.slice none 0 0] 38)
 rw[World.size_alloc] at x2
 have FO:=hide (follows_any x2 e hl)
 have X2:=hide x2
 have E0:=hide (Ba.heap_below (heap_new w (.cells #[.int .i64 e.k,.int .i64 e.g,.int .i64 e.c,.int .i64 e.a,.int .i64 e.v,.int .i64 e.m,.bool e.s,.bool e.o] 40)) (below_alloc _ (.cells #[.int .u64 0,.slice none 0 0] 38)))
 have E1:=hide (heap_new (w.alloc (.cells #[.int .i64 e.k,.int .i64 e.g,.int .i64 e.c,.int .i64 e.a,.int .i64 e.v,.int .i64 e.m,.bool e.s,.bool e.o] 40)) (.cells #[.int .u64 0,.slice none 0 0] 38))
 rw[World.size_alloc] at E1
 have B2:=hide (btr (below_alloc w (.cells #[.int .i64 e.k,.int .i64 e.g,.int .i64 e.c,.int .i64 e.a,.int .i64 e.v,.int .i64 e.m,.bool e.s,.bool e.o] 40)) (below_alloc (w.alloc (.cells #[.int .i64 e.k,.int .i64 e.g,.int .i64 e.c,.int .i64 e.a,.int .i64 e.v,.int .i64 e.m,.bool e.s,.bool e.o] 40)) (.cells #[.int .u64 0,.slice none 0 0] 38)))
 have hlt:=x.lt
 have LT2:Hid (w.heap.size+1<((w.alloc (.cells #[.int .i64 e.k,.int .i64 e.g,.int .i64 e.c,.int .i64 e.a,.int .i64 e.v,.int .i64 e.m,.bool e.s,.bool e.o] 40)).alloc (.cells #[.int .u64 0,.slice none 0 0] 38)).heap.size):=by show _<_;rw[World.size_alloc,World.size_alloc];omega
 clear x2
 have P0:=hide (And.intro x (And.intro hy (And.intro hfo (And.intro hca DO))))
 clear x hy hfo hca DO
 have EU:Hid (En.evv e=.agg #[.int .i64 e.k,.int .i64 e.g,.int .i64 e.c,.int .i64 e.a,.int .i64 e.v,.int .i64 e.m,.bool e.s,.bool e.o]):=rfl
 rw[EU.out] at FO ⊢
 have e0:((w.alloc (.cells #[.int .i64 e.k,.int .i64 e.g,.int .i64 e.c,.int .i64 e.a,.int .i64 e.v,.int .i64 e.m,.bool e.s,.bool e.o] 40)).alloc (.cells #[.int .u64 0,.slice none 0 0] 38)).cell? ⟨w.heap.size,0,none⟩=some (.int .i64 e.k):=cell_of E0.out 0
 have e1:((w.alloc (.cells #[.int .i64 e.k,.int .i64 e.g,.int .i64 e.c,.int .i64 e.a,.int .i64 e.v,.int .i64 e.m,.bool e.s,.bool e.o] 40)).alloc (.cells #[.int .u64 0,.slice none 0 0] 38)).cell? ⟨w.heap.size,1,none⟩=some (.int .i64 e.g):=cell_of E0.out 1
 have e2:((w.alloc (.cells #[.int .i64 e.k,.int .i64 e.g,.int .i64 e.c,.int .i64 e.a,.int .i64 e.v,.int .i64 e.m,.bool e.s,.bool e.o] 40)).alloc (.cells #[.int .u64 0,.slice none 0 0] 38)).cell? ⟨w.heap.size,2,none⟩=some (.int .i64 e.c):=cell_of E0.out 2
 have e3:((w.alloc (.cells #[.int .i64 e.k,.int .i64 e.g,.int .i64 e.c,.int .i64 e.a,.int .i64 e.v,.int .i64 e.m,.bool e.s,.bool e.o] 40)).alloc (.cells #[.int .u64 0,.slice none 0 0] 38)).cell? ⟨w.heap.size,3,none⟩=some (.int .i64 e.a):=cell_of E0.out 3
 have e4:((w.alloc (.cells #[.int .i64 e.k,.int .i64 e.g,.int .i64 e.c,.int .i64 e.a,.int .i64 e.v,.int .i64 e.m,.bool e.s,.bool e.o] 40)).alloc (.cells #[.int .u64 0,.slice none 0 0] 38)).cell? ⟨w.heap.size,4,none⟩=some (.int .i64 e.v):=cell_of E0.out 4
 have e5:((w.alloc (.cells #[.int .i64 e.k,.int .i64 e.g,.int .i64 e.c,.int .i64 e.a,.int .i64 e.v,.int .i64 e.m,.bool e.s,.bool e.o] 40)).alloc (.cells #[.int .u64 0,.slice none 0 0] 38)).cell? ⟨w.heap.size,5,none⟩=some (.int .i64 e.m):=cell_of E0.out 5
 have e6:((w.alloc (.cells #[.int .i64 e.k,.int .i64 e.g,.int .i64 e.c,.int .i64 e.a,.int .i64 e.v,.int .i64 e.m,.bool e.s,.bool e.o] 40)).alloc (.cells #[.int .u64 0,.slice none 0 0] 38)).cell? ⟨w.heap.size,6,none⟩=some (.bool e.s):=cell_of E0.out 6
 have e7:((w.alloc (.cells #[.int .i64 e.k,.int .i64 e.g,.int .i64 e.c,.int .i64 e.a,.int .i64 e.v,.int .i64 e.m,.bool e.s,.bool e.o] 40)).alloc (.cells #[.int .u64 0,.slice none 0 0] 38)).cell? ⟨w.heap.size,7,none⟩=some (.bool e.o):=cell_of E0.out 7
 go_enter Tryz.func13,Tryz.ntmps13
 go_wp2_with fail
 refine FO.out.mono ?_
 rintro r w3 ⟨bf,rfl,hf3,o3,g3⟩
 obtain rfl:bf=true:=P0.out.2.2.1 bf hf3
 have X3:=hide (X2.out.grown g3 o3)
 have G3:=hide g3
 have E03:=(g3.block w.heap.size (by have:=LT2.out;omega) (fun q=>by
  have h1:=own_lt P0.out.1.ev q.symm
  omega)).trans E0.out
 have E13:=hide ((g3.block (w.heap.size+1) LT2.out (fun q=>by
  have h1:=own_lt P0.out.1.ev q.symm
  omega)).trans E1.out)
 have v0:w3.cell? ⟨w.heap.size,0,none⟩=some (.int .i64 e.k):=cell_of E03 0
 have v1:w3.cell? ⟨w.heap.size,1,none⟩=some (.int .i64 e.g):=cell_of E03 1
 have EE:=hide E03
 clear hf3 o3 g3 E03 e0 e1 e2 e3 e4 e5 e6 e7 FO
 go_wp2_with fail
 refine (tells_any e.k w3).mono ?_
 rintro r w4 ⟨rfl,e4⟩
 obtain rfl:=e4.symm
 clear e4
 cases htl:tlB e.k
 case' true=>
  obtain⟨hg,t,b,l,hft,hbl,hcn⟩:=P0.out.2.2.2.1 htl
  have CA:=hide (can_yes X3.out.ww (cell_of X3.out.hp 0) X3.out.ys e.g hg t b l hft hbl (e.k==1))
  rw[hcn] at CA
  clear hg hft hbl hcn
  go_wp2_with fail
  refine CA.out.mono ?_
  rintro r w4 ⟨rfl,b4⟩
  have X4:=hide (X3.out.below b4)
  have G4:=hide (show ((w.alloc (.cells #[.int .i64 e.k,.int .i64 e.g,.int .i64 e.c,.int .i64 e.a,.int .i64 e.v,.int .i64 e.m,.bool e.s,.bool e.o] 40)).alloc (.cells #[.int .u64 0,.slice none 0 0] 38)).grownBy w4 (Value.slice ea es.length c).ownBlock from⟨b4.os.trans G3.out.os,b4.tape.trans G3.out.tape,b4.output.trans G3.out.output,Nat.le_trans G3.out.size b4.size,fun k hk hne=>(b4.block k (Nat.lt_of_lt_of_le hk G3.out.size)).trans (G3.out.block k hk hne)⟩)
  have E14:=hide (Ba.heap_below E13.out b4)
  have EE4:=hide (Ba.heap_below EE.out b4)
  clear X3 G3 E13 EE b4 v0 v1 CA
 case' false=>
  have X4:=X3
  have G4:=G3
  have E14:=E13
  have EE4:=EE
  clear X3 G3 E13 EE v0 v1
  generalize w3=w4 at*
 all_goals
  have b5:=btr (below_alloc w4 (.cells #[.int .i64 e.k,.int .i64 e.g,.int .i64 e.c,.int .i64 e.a,.int .i64 e.v,.int .i64 e.m,.bool e.s,.bool e.o] 40)) (Ba.bdrew1 _)
  have o5:((w4.alloc (.cells #[.int .i64 e.k,.int .i64 e.g,.int .i64 e.c,.int .i64 e.a,.int .i64 e.v,.int .i64 e.m,.bool e.s,.bool e.o] 40)).drew).ownsRow 0 40 8 (.slice ea es.length c) es.length (ec es):=own_keep X4.out.ev fun g q=>b5.block g (own_lt X4.out.ev q)
  obtain⟨ea',c',w6,hr,ho,-,hg,hat⟩:=app_keep _ ea es.length c es e rfl o5 ⟨w4.heap.size,0,none⟩ (src8 w4 e 40) (by omega)
  have X6:=hide (X4.out.noted b5 rfl hg ho hat)
  have s6:w6.heap[S]? =some (.cells #[.pointer (some ⟨B,0,none⟩),.slice ea es.length c,cv,mv,dv] 65 (0,0)):=(hg.block S (Nat.lt_of_lt_of_le X4.out.lt b5.size) (fun q=>(P0.out.1.ye S q.symm).2 rfl)).trans ((b5.block S X4.out.lt).trans X4.out.hp)
  have y1:w4.cell? ⟨S,1,none⟩=some (.slice ea es.length c):=cell_of X4.out.hp 1
  have y6:w6.cell? ⟨S,1,none⟩=some (.slice ea es.length c):=cell_of s6 1
  have f6:w6.frozen? ⟨S,1,none⟩=false:=frozen_of s6 1
  have v0:w4.cell? ⟨w.heap.size,0,none⟩=some (.int .i64 e.k):=cell_of EE4.out 0
  have v1:w4.cell? ⟨w.heap.size,1,none⟩=some (.int .i64 e.g):=cell_of EE4.out 1
  have v2:w4.cell? ⟨w.heap.size,2,none⟩=some (.int .i64 e.c):=cell_of EE4.out 2
  have v3:w4.cell? ⟨w.heap.size,3,none⟩=some (.int .i64 e.a):=cell_of EE4.out 3
  have v4:w4.cell? ⟨w.heap.size,4,none⟩=some (.int .i64 e.v):=cell_of EE4.out 4
  have v5:w4.cell? ⟨w.heap.size,5,none⟩=some (.int .i64 e.m):=cell_of EE4.out 5
  have v6:w4.cell? ⟨w.heap.size,6,none⟩=some (.bool e.s):=cell_of EE4.out 6
  have v7:w4.cell? ⟨w.heap.size,7,none⟩=some (.bool e.o):=cell_of EE4.out 7
  have E07:=hide (show (w6.setCell ⟨S,1,none⟩ (.slice ea' (es.length+1) c')).heap[w.heap.size]? =some (.cells #[.int .i64 e.k,.int .i64 e.g,.int .i64 e.c,.int .i64 e.a,.int .i64 e.v,.int .i64 e.m,.bool e.s,.bool e.o] 40 (0,0)) from by
   rw[Below.heap_setCell _ _ _ _ (show w.heap.size≠S by omega)]
   exact (hg.block _ (Nat.lt_of_lt_of_le (Ba.heap_lt EE4.out) b5.size) (fun q=>by have h1:=own_lt P0.out.1.ev q.symm;omega)).trans ((b5.block _ (Ba.heap_lt EE4.out)).trans EE4.out))
  have E17:=hide (show (w6.setCell ⟨S,1,none⟩ (.slice ea' (es.length+1) c')).heap[w.heap.size+1]? =some (.cells #[.int .u64 0,.slice none 0 0] 38 (0,0)) from by
   rw[Below.heap_setCell _ _ _ _ (show w.heap.size+1≠S by omega)]
   exact (hg.block _ (Nat.lt_of_lt_of_le (Ba.heap_lt E14.out) b5.size) (fun q=>by have h1:=own_lt P0.out.1.ev q.symm;omega)).trans ((b5.block _ (Ba.heap_lt E14.out)).trans E14.out))
  have u0:(w6.setCell ⟨S,1,none⟩ (.slice ea' (es.length+1) c')).cell? ⟨w.heap.size,0,none⟩=some (.int .i64 e.k):=cell_of E07.out 0
  have u1:(w6.setCell ⟨S,1,none⟩ (.slice ea' (es.length+1) c')).cell? ⟨w.heap.size,1,none⟩=some (.int .i64 e.g):=cell_of E07.out 1
  have u2:(w6.setCell ⟨S,1,none⟩ (.slice ea' (es.length+1) c')).cell? ⟨w.heap.size,2,none⟩=some (.int .i64 e.c):=cell_of E07.out 2
  have u3:(w6.setCell ⟨S,1,none⟩ (.slice ea' (es.length+1) c')).cell? ⟨w.heap.size,3,none⟩=some (.int .i64 e.a):=cell_of E07.out 3
  have u4:(w6.setCell ⟨S,1,none⟩ (.slice ea' (es.length+1) c')).cell? ⟨w.heap.size,4,none⟩=some (.int .i64 e.v):=cell_of E07.out 4
  have u5:(w6.setCell ⟨S,1,none⟩ (.slice ea' (es.length+1) c')).cell? ⟨w.heap.size,5,none⟩=some (.int .i64 e.m):=cell_of E07.out 5
  have u6:(w6.setCell ⟨S,1,none⟩ (.slice ea' (es.length+1) c')).cell? ⟨w.heap.size,6,none⟩=some (.bool e.s):=cell_of E07.out 6
  have u7:(w6.setCell ⟨S,1,none⟩ (.slice ea' (es.length+1) c')).cell? ⟨w.heap.size,7,none⟩=some (.bool e.o):=cell_of E07.out 7
  have DG:=hide (fun u=>doing_any e.k u)
  have OB:Hid (∀k,k≤w.heap.size+1→(Value.slice ea es.length c).ownBlock≠some k→(Value.slice ea' (es.length+1) c').ownBlock≠some k):=fun k hk h1 q=>by
   rcases hat with z|z
   ·exact h1 (z.symm.trans q)
   ·rw[z] at q
    cases q
    have h2:=Ba.heap_lt E14.out
    have h3:=b5.size
    omega
  have K7:Hid (Kp Y0 w (w6.setCell ⟨S,1,none⟩ (.slice ea' (es.length+1) c'))):=by
   have sz:(w6.setCell ⟨S,1,none⟩ (.slice ea' (es.length+1) c')).heap.size=w6.heap.size:=by simp[World.setCell]
   refine⟨hg.os.trans (b5.os.trans (G4.out.os.trans B2.out.os)),hg.tape.trans (b5.tape.trans (G4.out.tape.trans B2.out.tape)),hg.output.trans (b5.output.trans (G4.out.output.trans B2.out.output)),by rw[sz];exact Nat.le_trans B2.out.size (Nat.le_trans G4.out.size (Nat.le_trans b5.size hg.size)),fun k y=>?_⟩
   obtain⟨y1,y2,y3⟩:=P0.out.2.1 k y
   have l1:=P0.out.1.ww.ylt k y1
   have l2:=Nat.lt_of_lt_of_le l1 B2.out.size
   have l4:=Nat.lt_of_lt_of_le l2 G4.out.size
   rw[Below.heap_setCell _ _ _ _ y2]
   exact (hg.block k (Nat.lt_of_lt_of_le l4 b5.size) (fun z=>y3 z.symm)).trans ((b5.block k l4).trans ((G4.out.block k l2 (fun z=>y3 z.symm)).trans (B2.out.block k l1)))
  have NPF:Hid (NP Y0 S B w st h es cv mv dv e _ ea' c' (w.heap.size+1) (w6.setCell ⟨S,1,none⟩ (.slice ea' (es.length+1) c')).drew):=⟨X6.out.below (Ba.bdrew1 _),fun k y=>⟨.inl (.inl (.inl (P0.out.2.1 k y).1)),(P0.out.2.1 k y).2.1,(by rw[show (es++[e]).length=es.length+1 by simp];exact OB.out k (by have:=P0.out.1.ww.ylt k (P0.out.2.1 k y).1;omega) (P0.out.2.1 k y).2.2),(by have:=P0.out.1.ww.ylt k (P0.out.2.1 k y).1;omega)⟩,⟨.inl (.inr rfl),(by omega),(by rw[show (es++[e]).length=es.length+1 by simp];exact OB.out _ (Nat.le_refl _) (fun q=>by have h1:=own_lt P0.out.1.ev q;omega))⟩,⟨K7.out.os,K7.out.tape,K7.out.output,K7.out.size,K7.out.block⟩⟩
  have DD:=hide (P0.out.2.2.2.2 _ _ _ _ _ NPF.out)
  rw[EU.out] at DD
  have hcf:=dg_call e.k
  generalize dgF e.k=fk at*
  have hS4:=X4.out.lt
  have hw4:=Ba.heap_lt EE4.out
  have HR:=hide hr
  have G6:=hide hg
  have B5:=hide b5
  have HAT:=hide hat
  clear hr ho hg hat b5 o5 s6
  rw[←hn] at*
  go_wp2_with fail
  go_region_law (refine Gu.step_append_run _ (by rfl) _ _ _ _ (by rfl) _ _ (by rfl) (by rfl) _ _ HR.out ?_)
  all_goals
   go_wp2_with fail
   generalize w6.setCell ⟨S,1,none⟩ (.slice ea' (n+1) c')=w7 at*
   go_region_with (first|(go_at_call 24;refine (DG.out _).mono ?_;rintro r w8 ⟨rfl,e8⟩;obtain rfl:=e8.symm)|(refine DD.out.mono ?_;rintro r w8 ⟨ev,R,nl,rfl,k8,f8⟩;have r8:=kp_heap (w:=w7.drew) k8 E17.out rfl;have f0:w8.frozen? ⟨w.heap.size+1,0,none⟩=false:=frozen_of r8 0;have f1:w8.frozen? ⟨w.heap.size+1,1,none⟩=false:=frozen_of r8 1;have d0:w8.cell? ⟨w.heap.size+1,0,none⟩=some (.int .u64 0):=cell_of r8 0;have d1:w8.cell? ⟨w.heap.size+1,1,none⟩=some (.slice none 0 0):=cell_of r8 1;have P8:=hide (And.intro f8 r8);clear k8 f8 r8))
   all_goals
    go_wp2_with fail
    obtain⟨f8,r8⟩:=P8.out
    exact bodyPost_ret (Ba.results_row2 Tryz.results13 _ _ _ _ _ rfl rfl (loadVar_stp (two_set _ _ r8 rfl) rfl)) rfl ⟨ev,R,nl,_,ea',c',_,_,w8,rfl,NPF.out,f8,rfl⟩
theorem fin_go{Y0 Ya:Nat→Prop}{S B T R n:Nat}{w u w8:World}{st st':Wst}{h h':Nat→Option (List Int)}{ea':Option Addr}{c':Nat}{es:List Ev}{cv mv dv:Value}{e:Ev}{F:Int→Nat→List Int→Wst→(Nat→Option (List Int))→Prop}{ev:Int}{l:List Int}
 (p:NP Y0 S B w st h es cv mv dv e Ya ea' c' T u) (at8:Ck.At w8 (some ⟨R,0,none⟩) l) (hR8:u.heap.size≤R) (s8:WW (Y1 Ya R) B w8 st' h') (k8:Kp Ya u w8) (f8:F ev n l st' h'):
 NoQ Y0 S B w es cv mv dv F e (.returned (.tuple #[.agg #[.int .u64 ev,.slice (some ⟨R,0,none⟩) n n],.int .i64 0])) ((w8.setCell ⟨T,0,none⟩ (.int .u64 ev)).setCell ⟨T,1,none⟩ (.slice (some ⟨R,0,none⟩) n n)) ev R n l st' h' (Y1 Ya R) ea' c':=by
 obtain⟨x,q,hT,k7⟩:=p
 have tl:=x.ww.ylt T hT.1
 refine⟨rfl,st2A at8 (by omega) _ _,⟨?_,st2W s8 (.inl hT.1) _ _ (fun _ q=>q),.inl x.ys,?_,fun g y=>⟨.inl (x.ye g y).1,(x.ye g y).2⟩⟩,.inr rfl,⟨fun q=>?_,fun q=>?_⟩,fun k y=>⟨.inl (q k y).1,(q k y).2.1,(q k y).2.2.1⟩,fun y=>?_,?_,f8⟩
 ·rw[two_oth _ _ _ _ _ (Ne.symm hT.2.1)]
  exact (k8.block S x.ys).trans x.hp
 ·refine own_keep x.ev fun g y=>?_
  rw[two_oth _ _ _ _ _ (fun z=>hT.2.2 (by rw[←z];exact y))]
  exact k8.block g (x.ye g y).1
 ·have:=x.lt
  omega
 ·have:=own_lt x.ev q
  omega
 ·have:=x.ww.ylt R (q R y).1
  omega
 ·refine st2K (k7.trans ⟨k8.os,k8.tape,k8.output,k8.size,fun j y=>k8.block j (q j y).1⟩) (fun y=>(q T y).2.2.2 rfl) _ _
theorem note_go{Y Y0:Nat→Prop}{S B:Nat}{w:World}{st:Wst}{h:Nat→Option (List Int)}{ea:Option Addr}{c:Nat}{es:List Ev}{cv mv dv:Value}(x:NX Y S B w st h ea c es cv mv dv)(hy:∀k,Y0 k→Y k∧k≠S∧(Value.slice ea es.length c).ownBlock≠some k)(e:Ev)(hl:es.length<2000)(hfo:∀b,FlP es e b→b=true)
 (hca:tlB e.k=true→(Lit.int .i64 e.g).wf=true∧∃t b l,st.f e.g=some (t,b)∧h b=some l∧((!(e.k==1)||decide (st.n<st.T))&&decide (nth l t<(st.M:Int)))=true) (F:Int→Nat→List Int→Wst→(Nat→Option (List Int))→Prop) (DO:DoQ S B st h e F):
 Calls Tryz.prog 13 #[.pointer (some ⟨S,0,none⟩),En.evv e] w fun r w'=>∃ev R n l st' h' Y' ea' c',NoQ Y0 S B w es cv mv dv F e r w' ev R n l st' h' Y' ea' c':=
 (note_raw x hy e hl hfo hca (fun Ya ea' c' T u ev ra n w'=>∃R l st' h',ra=some ⟨R,0,none⟩∧Ck.At w' (some ⟨R,0,none⟩) l∧u.heap.size≤R∧WW (Y1 Ya R) B w' st' h'∧Kp Ya u w'∧F ev n l st' h') fun Ya ea' c' T u p=>(DO Ya u p.x.ww p.x.ys (cell_of p.x.hp 0)).mono (by
   rintro r w' ⟨ev,R,n,l,st',h',rfl,a,b,c,d,f⟩
   exact⟨ev,_,n,rfl,Wa.Kp.mono d fun k e=>e ▸ p.t.1,R,l,st',h',rfl,a,b,c,d,f⟩)).mono (by
 rintro r w' ⟨ev,ra,n,Ya,ea',c',T,u,w8,rfl,p,⟨R,l,st',h',rfl,a,b,c,d,f⟩,rfl⟩
 exact⟨ev,R,n,l,st',h',_,ea',c',fin_go p a b c d f⟩)
end Sp
namespace Sp
open Ck Wa
open En (Ev)
open Sg (tlk ftk)
section
variable {w u:World}{S B:Nat}{st:Wst}{h:Nat→Option (List Int)}{es:List Ev}{cs:List Chn}{wm:Wm}{du:Option Nat}{p:Pl}{T:Nat→Prop}{H:List Int→Prop}{k i t b:Nat}{l:List Int}
def Y00(col:Nat→Nat)(S:Nat):Nat→Prop:=fun k=>Xc col 1 k∧k≠S∧col k≠3
theorem SM.noted{col:Nat→Nat}{mb:Nat}{D DW:DataW Unit}{ea ea':Option Addr}{c c' X:Nat}{Ya:Nat→Prop}{e:Ev}(n:cs.length≤900)(m:SM col w S B mb st D h ea c es p.co p.cc cs p.MW DW wm du)
 (q:NP (Y00 col S) S B w st h es (.slice p.co cs.length p.cc) (.map (some p.MW)) (Sl.clv du) e Ya ea' c' X u):∃col' mb' D',SM col' u S B mb' st D' h ea' c' (es++[e]) p.co p.cc cs p.MW DW wm du∧∀k,1000≤col k∨k=X→1000≤col' k:=by
 classical
 obtain⟨v,hv⟩:∃v,Value.slice ea' (es++[e]).length c'=v:=⟨_,rfl⟩
 obtain⟨x,y,t,kp⟩:=q
 have cS:=(m.sa.c2 S).2 rfl
 have XS:∀k,v.ownBlock=some k→Ya k∧k≠S:=fun k q=>x.ye k (by rw[hv];exact q)
 have XX:v.ownBlock≠some X:=fun q=>t.2.2 (by rw[hv];exact q)
 have YY:∀k,Y00 col S k→Ya k∧k≠S∧v.ownBlock≠some k∧k≠X:=fun k q=>by
  have:=y k q
  rw[hv] at this
  exact this
 obtain⟨c1,hc⟩:∃c1:Nat→Nat,∀k,c1 k=if k=S then 2 else if v.ownBlock=some k then 3 else if k=X then 1000 else if Y00 col S k then col k else 0:=⟨_,fun _=>rfl⟩
 have hS:c1 S=2:=by rw[hc,if_pos rfl]
 have hR:∀k,v.ownBlock=some k→c1 k=3:=fun k q=>by rw[hc,if_neg (XS k q).2,if_pos q]
 have hX:c1 X=1000:=by rw[hc,if_neg t.2.1,if_neg XX,if_pos rfl]
 have hO:∀k,Y00 col S k→c1 k=col k:=fun k q=>by
  obtain⟨-,q1,q2,q3⟩:=YY k q
  rw[hc,if_neg q1,if_neg q2,if_neg q3,if_pos q]
 have hall:∀k,c1 k≠0→k=S∨v.ownBlock=some k∨k=X∨(Y00 col S k∧c1 k=col k):=fun k q=>by
  by_cases a:k=S
  ·exact .inl a
  ·by_cases b:v.ownBlock=some k
   ·exact .inr (.inl b)
   ·by_cases d:k=X
    ·exact .inr (.inr (.inl d))
    ·by_cases f:Y00 col S k
     ·exact .inr (.inr (.inr ⟨f,hO k f⟩))
     ·rw[hc,if_neg a,if_neg b,if_neg d,if_neg f] at q
      exact absurd rfl q
 have hq:∀d,4≤d→d<1000→∀k,c1 k=d↔col k=d:=fun d h1 h2 k=>by
  refine⟨fun q=>?_,fun q=>?_⟩
  ·rcases hall k (by omega) with z|z|z|z
   ·rw[z,hS] at q;omega
   ·rw[hR k z] at q;omega
   ·rw[z,hX] at q;omega
   ·rw[←z.2];exact q
  ·rw[hO k ⟨⟨by omega,by omega⟩,fun z=>by rw[z,cS] at q;omega,by omega⟩];exact q
 have yd:∀d k,4≤d→col k=d→Y00 col S k:=fun d k h1 q=>⟨⟨by omega,by omega⟩,fun z=>by rw[z,cS] at q;omega,by omega⟩
 obtain⟨mb',D',a,cx,wd,hB⟩:=WtA.of (Y:=Xc c1 1) (fun _=>Iff.rfl) (lessW x.ww fun k q=>by
  rcases hall k q.1 with z|z|z|z
  ·rw[z];exact x.ys
  ·exact (XS k z).1
  ·rw[z];exact t.1
  ·exact (YY k z.1).1)
 have ho:∀d,d≠1→d≠0→∀k,rcl c1 1 (fun k=>k=B∨k=mb') k=d↔c1 k=d:=fun d h1 h2 k=>rcl_oth h1 h2 hB k
 have h5:∀d,4≤d→d<1000→∀k,rcl c1 1 (fun k=>k=B∨k=mb') k=d↔col k=d:=fun d h1 h2 k=>(ho d (by omega) (by omega) k).trans (hq d h1 h2 k)
 obtain⟨es',clock,hb,r⟩:=m.sa.mw
 refine⟨_,mb',D',⟨a,⟨x.hp,fun k=>(ho 2 (by omega) (by omega) k).trans ⟨fun q=>?_,fun q=>by rw[q];exact hS⟩,x.ev,fun k=>(ho 3 (by omega) (by omega) k).trans ⟨fun q=>?_,fun q=>hR k (by rw[←hv];exact q)⟩,own_keep m.sa.cr fun g q=>kp.block g (yd 4 g (by omega) ((m.sa.c4 g).2 q)),fun k=>(h5 4 (by omega) (by omega) k).trans (m.sa.c4 k),⟨es',clock,(kp.block _ (yd 5 _ (by omega) ((m.sa.c5 _).2 rfl))).trans hb,r⟩,fun k=>(h5 5 (by omega) (by omega) k).trans (m.sa.c5 k),m.sa.wi⟩,fun i y hi=>?_,cx,wd,m.cd,m.md,m.dd⟩,fun k hk=>?_⟩
 ·rcases hall k (by omega) with z|z|z|z
  ·exact z
  ·rw[hR k z] at q;omega
  ·rw[z,hX] at q;omega
  ·exact (m.sa.c2 k).1 (by omega)
 ·rcases hall k (by omega) with z|z|z|z
  ·rw[z,hS] at q;omega
  ·rw[hv];exact z
  ·rw[z,hX] at q;omega
  ·exact absurd (z.2.symm.trans q) z.1.2.2
 ·have il:=(List.getElem?_eq_some_iff.1 hi).1
  have a:=m.ch i y hi
  have ho2:∀j,y.own j→u.heap[j]? =w.heap[j]?:=fun j q=>kp.block j (yd (6+i) j (by omega) ((a.ow j).2 q))
  exact⟨(ho2 _ (.inl rfl)).trans a.hp,own_keep a.gv fun j e=>ho2 j (.inr (.inl e)),own_keep a.bk fun j e=>ho2 j (.inr (.inr e)),a.ap,a.sg,a.sb,fun j=>(h5 (6+i) (by omega) (by omega) j).trans (a.ow j)⟩
 ·have:1000≤c1 k:=by
   rcases hk with z|z
   ·rw[hO k (yd _ k (by omega) rfl)];exact z
   ·rw[z,hX];omega
  have:=(ho (c1 k) (by omega) (by omega) k).2 rfl
  omega
theorem note_g(s:SQ w S B st h es cs wm du p T H k)(e:Ev)(hl:es.length<2000)(hfo:∀b,FlP es e b→b=true)(hca:tlB e.k=true→(Lit.int .i64 e.g).wf=true∧∃t b l,st.f e.g=some (t,b)∧h b=some l∧((!(e.k==1)||decide (st.n<st.T))&&decide (nth l t<(st.M:Int)))=true)(G:Nat→World→Int→Option Addr→Nat→World→Prop)
 (DO:∀u X,SQ u S B st h (es++[e]) cs wm du p (Y1 T X) H k→Calls Tryz.prog (dgF e.k) #[.pointer (some ⟨S,0,none⟩),En.evv e] u fun r w'=>∃ev ra n,r=.returned (.agg #[.int .u64 ev,.slice ra n n])∧Kp (Y1 T X) u w'∧G X u ev ra n w'):
 Calls Tryz.prog 13 #[.pointer (some ⟨S,0,none⟩),En.evv e] w fun r w'=>∃ev ra n X u w8,r=.returned (.tuple #[.agg #[.int .u64 ev,.slice ra n n],.int .i64 0])∧Kp T w u∧¬T X∧X<u.heap.size∧Kp (Y1 T X) u w8∧G X u ev ra n w8∧w'=(w8.setCell ⟨X,0,none⟩ (.int .u64 ev)).setCell ⟨X,1,none⟩ (.slice ra n n):=by
 obtain⟨n,col,mb,D,ea,c,DW,m,q⟩:=s.ss
 have cS:=(m.sa.c2 S).2 rfl
 have nx:NX (Xc col 1) S B w st h ea c es (.slice p.co cs.length p.cc) (.map (some p.MW)) (Sl.clv du):=⟨m.sa.hp,m.ww,⟨by omega,by omega⟩,m.sa.ev,fun g e=>by
  have:=(m.sa.c3 g).2 e
  exact⟨⟨by omega,by omega⟩,fun z=>by rw[z] at this;omega⟩⟩
 have tY:∀k,T k→Y00 col S k:=fun k hk=>by
  have:=q k hk
  exact⟨⟨by omega,by omega⟩,fun z=>by rw[z] at this;omega,by omega⟩
 refine (note_raw nx (Y0:=Y00 col S) (fun k q=>⟨q.1,q.2.1,fun e=>q.2.2 ((m.sa.c3 k).2 e)⟩) e hl hfo hca (fun _ _ _ X u ev ra n w'=>Kp (Y1 T X) u w'∧G X u ev ra n w') fun Ya ea' c' X u np=>?_).mono ?_
 ·obtain⟨col',mb',D',m',q'⟩:=SM.noted n m np
  refine (DO u X ⟨⟨n,col',mb',D',ea',c',DW,m',fun k hk=>q' k (hk.imp (q k) id)⟩,s.kp,s.cn,s.z,s.wn⟩).mono ?_
  rintro r w' ⟨ev,ra,n,rfl,kp,g⟩
  exact⟨ev,ra,n,rfl,Wa.Kp.mono kp fun k e=>.inr e,kp,g⟩
 ·rintro r w' ⟨ev,ra,n,Ya,ea',c',X,u,w8,rfl,np,⟨kp,g⟩,rfl⟩
  exact⟨ev,ra,n,X,u,w8,rfl,Wa.Kp.mono np.kp tY,fun z=>(np.q X (tY X z)).2.2.2 rfl,np.x.ww.ylt X np.t.1,kp,g,rfl⟩
set_option maxRecDepth 10000 in
theorem note_q(s:SQ w S B st h es cs wm du p T H k)(e:Ev)(hl:es.length<2000)(hfo:∀b,FlP es e b→b=true)(F:EvF st cs e)(hf:st.f e.g=some (t,b))(hb:h b=some l)(hM:∀m,H m→max (nth l t) (nth m t)<(st.M:Int))(hk:k≤9000):
 Calls Tryz.prog 13 #[.pointer (some ⟨S,0,none⟩),En.evv e] w fun r w'=>∃R L m st' h' cs' wm' du' p',r=.returned (.tuple #[.agg #[.int .u64 (epk (t:Int) (nth L t)),.slice (some ⟨R,0,none⟩) L.length L.length],.int .i64 0])∧EvQ w w' S B st h (es++[e]) T H k cs.length t b l e R L m st' h' cs' wm' du' p':=by
 have h1:=hM [] s.z
 refine (note_g s e hl hfo (fun _=>⟨F.g,t,b,l,hf,hb,?_⟩) (fun X u ev ra n w'=>∃R L m st' h' cs' wm' du' p',ev=epk (t:Int) (nth L t)∧ra=some ⟨R,0,none⟩∧n=L.length∧EvQ u w' S B st h (es++[e]) (Y1 T X) H k cs.length t b l e R L m st' h' cs' wm' du' p') fun u X su=>(do_q su e F hf hb hM hk).mono ?_).mono ?_
 ·rw[decide_eq_true (show nth l t<(st.M:Int) by omega),Bool.and_true]
  by_cases k1:e.k=1
  ·rw[decide_eq_true (F.sp k1).2.2.1,Bool.or_true]
  ·rw[show (e.k==1)=false by simpa using k1];rfl
 ·rintro r w' ⟨R,L,m,st',h',cs',wm',du',p',rfl,q⟩
  exact⟨_,_,_,rfl,q.kp,R,L,m,st',h',cs',wm',du',p',rfl,rfl,rfl,q⟩
 ·rintro r w' ⟨ev,ra,n,X,u,w8,rfl,k1,nT,lX,k8,⟨R,L,m,st',h',cs',wm',du',p',rfl,rfl,rfl,q⟩,rfl⟩
  have hR:=q.new
  have hs:=k1.size
  exact⟨R,L,m,st',h',cs',wm',du',p',rfl,st2A q.at_ (by omega) _ _,by omega,((q.sq.set (.inl (.inr rfl)) 0 _).set (.inl (.inr rfl)) 1 _).less fun k q=>q.imp .inl id,st2K (k1.trans (Wa.Kp.mono k8 fun k q=>.inl q)) nT _ _,q.hm,q.mx,q.no,q.own,q.one,q.len,q.nw,q.cn⟩
theorem note_n(s:SQ w S B st h es cs wm du p T H k)(e:Ev)(hl:es.length<2000)(hfo:∀b,FlP es e b→b=true)(hg:(Lit.int .i64 e.g).wf=true)(hk:e.k=13)(hf:st.f e.g=none):
 Calls Tryz.prog 13 #[.pointer (some ⟨S,0,none⟩),En.evv e] w fun r w'=>r=.returned (.tuple #[.agg #[.int .u64 0,.slice none 0 0],.int .i64 0])∧SQ w' S B st h (es++[e]) cs wm du p T H k∧Kp T w w':=by
 refine (note_g s e hl hfo (fun q=>absurd q (by rw[hk];decide)) (fun X u ev ra n w'=>ev=0∧ra=none∧n=0∧SQ w' S B st h (es++[e]) cs wm du p (Y1 T X) H k) fun u X su=>?_).mono ?_
 ·rw[show dgF e.k=51 from by rw[hk];rfl]
  refine (stay_n su e hg hf).mono ?_
  rintro r w' ⟨rfl,s',kp⟩
  exact⟨_,_,_,rfl,kp,rfl,rfl,rfl,s'⟩
 ·rintro r w' ⟨ev,ra,n,X,u,w8,rfl,k1,nT,lX,k8,⟨rfl,rfl,rfl,q⟩,rfl⟩
  exact⟨rfl,((q.set (.inr rfl) 0 _).set (.inr rfl) 1 _).less fun k q=>.inl q,st2K (k1.trans (Wa.Kp.mono k8 fun k q=>.inl q)) nT _ _⟩
end
end Sp
namespace Sp
open Ck Wa
open En (Ev)
theorem map0{w:World}{M:Nat}(h:w.heap[M]? =some (.map #[] 0)):w.ownsMap Tryz.prog 3 wE M NB (.map []):=by
 obtain⟨es,clock,hb,r⟩:=(World.ownsMap_made w Tryz.prog 3 wE).mono (Nat.zero_le NB)
 rw[heap_new] at hb
 cases hb
 exact⟨#[],0,h,r⟩
def wm0:Wm:=⟨fun _=>none,0⟩
theorem new_q(w:World):Calls Tryz.prog 12 #[.int .i64 256,.int .i64 1048576] w fun r w'=>∃S B c h p,r=.returned (.tuple #[.pointer (some ⟨S,0,none⟩),.int .i64 0])∧SQ w' S B ⟨256,1048576,1,upf (fun _=>none) 0 (some (0,c))⟩ h [] [] wm0 none p (Lw w) (fun y=>∀t,nth y t=0) 0∧h c=some [1]∧Kp (Lw w) w w':=by
 refine (new_any 256 1048576 w (by decide) (by decide)).mono ?_
 rintro r w1 ⟨S,M,B,c,h,rfl,hS,hM,hlt,eS,ww,hc,kp⟩
 obtain⟨c1,h1⟩:∃c1:Nat→Nat,∀k,c1 k=if k=S then 2 else if k=M then 5 else if k<w.heap.size then 1000 else 0:=⟨_,fun _=>rfl⟩
 obtain⟨mb,D,a,cx,wd,hB⟩:=WtA.of (Y:=Xc c1 1) (fun _=>Iff.rfl) (lessW ww fun k q=>by
  have q:=q.1
  rw[h1] at q
  by_cases a:k=S
  ·exact .inr a
  ·by_cases b:k=M
   ·exact .inl (.inr b)
   ·rw[if_neg a,if_neg b] at q
    by_cases d:k<w.heap.size
    ·exact .inl (.inl d)
    ·rw[if_neg d] at q;exact absurd rfl q)
 have ho:∀d,d≠1→d≠0→∀k,rcl c1 1 (fun k=>k=B∨k=mb) k=d↔c1 k=d:=fun d h1 h2 k=>rcl_oth h1 h2 hB k
 have no:∀k:Nat,(Value.slice none 0 0).ownBlock≠some k:=fun k e=>nomatch e
 refine⟨S,B,c,h,⟨none,0,M⟩,rfl,⟨⟨Nat.zero_le _,_,mb,D,none,0,.map [],⟨a,⟨hS,fun k=>(ho 2 (by omega) (by omega) k).trans ?_,World.ownsRow_nil _ _ _ _,fun k=>(ho 3 (by omega) (by omega) k).trans ?_,World.ownsRow_nil _ _ _ _,fun k=>(ho 4 (by omega) (by omega) k).trans ?_,map0 hM,fun k=>(ho 5 (by omega) (by omega) k).trans ?_,⟨Maps.tidy_empty,fun g=>rfl,fun g b z e=>(by cases e),Nat.le_refl _⟩⟩,fun i x q=>(by cases q),cx,wd,fun i x q=>(by cases q),fun g b q=>(by cases q),fun b q=>(by cases q)⟩,fun k q=>?_⟩,fun c q=>?_,fun i x q=>(by cases q),fun t=>nth_out [] t (by simp),Nat.le_refl _⟩,hc,kp⟩
 ·rw[h1]
  split
  ·rename_i e;exact⟨fun _=>e,fun _=>rfl⟩
  ·rename_i e
   exact⟨fun q=>by split at q<;>(try split at q)<;>omega,fun q=>absurd q e⟩
 ·rw[h1]
  exact⟨fun q=>by split at q<;>(try split at q)<;>(try split at q)<;>omega,fun q=>absurd q (no k)⟩
 ·rw[h1]
  exact⟨fun q=>by split at q<;>(try split at q)<;>(try split at q)<;>omega,fun q=>absurd q (no k)⟩
 ·rw[h1]
  show _↔k=M
  by_cases e:k=M
  ·rw[if_neg (by omega),if_pos e];exact⟨fun _=>e,fun _=>rfl⟩
  ·rw[if_neg e]
   exact⟨fun q=>by split at q<;>(try split at q)<;>omega,fun q=>absurd q e⟩
 ·have q:k<w.heap.size:=q
  have:c1 k=1000:=by rw[h1,if_neg (by omega),if_neg (by omega),if_pos q]
  rw[(ho 1000 (by omega) (by omega) k).2 this]
  omega
 ·rcases q with⟨i,x,q,-⟩|⟨g,q⟩|q
  ·cases q
  ·cases q
  ·cases q
end Sp
end Go.Proofs.YtogkjaekfhjelaaGreat
