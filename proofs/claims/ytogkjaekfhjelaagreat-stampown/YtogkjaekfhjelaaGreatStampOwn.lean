/- StampOwn, over this seat's program: behind an event that neither receives nor wakes nor sends its goroutine knows of others what it knew ahead of it. -/
import Derived.Test.YtogkjaekfhjelaaGreatZjSg5
import Derived.Test.YtogkjaekfhjelaaGreatZjSg10
import Derived.Test.YtogkjaekfhjelaaGreatZjSg19
import Derived.ShutString
import Derived.ChangeOld
import Derived.Below
namespace Go.Proofs.YtogkjaekfhjelaaGreat.stampOwn
open Go.ChangeShapes Go.WideShapes Go.ChangeAt Go.RowKit
open Go.ChangeMaps (open_string shut_string)
open Lo Ba
theorem own:ownKnob Tryz.prog.godebug=none:=by kernel_rfl
theorem laidOut:laidOutB Tryz.prog=true:=by kernel_rfl
set_option maxRecDepth 100000 in
set_option maxHeartbeats 6400000 in
theorem core{w:World}(T M:Int)(ps:List (List De.OpD))(pl dr:List Int)(pa la da:Option Addr)(pc lc dc:Nat)(hS:Sh.SAt w ⟨T,M,ps,pl,dr⟩ pa la da)(_hH:Sh.Held ps):
 Calls Tryz.prog 4 #[.agg #[.int .i64 T,.int .i64 M,.slice pa ps.length pc,.slice la pl.length lc,.slice da dr.length dc]] w fun r w'=>r=.returned (.bool true)∧Below w.heap.size w w':=by
 have LG:=hide (large17 T M ps pl dr pa la da pc lc dc (w.alloc (.cells #[.int .i64 T,.int .i64 M,.slice pa ps.length pc,.slice la pl.length lc,.slice da dr.length dc] 25)) (hS.below (below_alloc _ _)))
 have HS:=hide hS
 have E0:=hide (heap_new w (.cells #[.int .i64 T,.int .i64 M,.slice pa ps.length pc,.slice la pl.length lc,.slice da dr.length dc] 25))
 have B0:=hide (below_alloc w (.cells #[.int .i64 T,.int .i64 M,.slice pa ps.length pc,.slice la pl.length lc,.slice da dr.length dc] 25))
 clear hS
 go_enter Tryz.func4,Tryz.ntmps4
 go_wp2_with fail
 refine LG.out.mono ?_
 rintro r w1 ⟨⟨b,rfl⟩,b1⟩
 have E1:=hide (heap_below E0.out b1)
 have B1:=hide (btr B0.out b1)
 clear b1 LG E0 B0
 cases b
 case true=>as_aux_lemma=>
  go_wp2_with fail
  refine (Sp.spawns_any _).mono ?_
  rintro r w2 ⟨rfl,b2⟩
  have B2:=hide (btr B1.out b2)
  clear b2
  go_wp2_with fail
  go_ret
  exact⟨rfl,B2.out⟩
 case false=>as_aux_lemma=>
  obtain⟨x0,x1,x2,x3,x4⟩:=Sh.sc_cells E1.out
  have RX:=hide (run_q T M ps pl dr pa la da pc lc dc w1 (HS.out.below B1.out))
  go_wp2_with fail
  refine RX.out.mono ?_
  rintro r w2 ⟨ob,l,d,v,rfl,es2,hd,t7,b2⟩
  have B2:=hide (btr B1.out b2)
  have ES2:=hide es2
  have hl:=t7.len
  have AQ:=hide (Sp.all_q l ob d w2 es2 t7.len t7.rul t7.fol t7.few)
  have T7:=hide t7
  clear es2 t7 b2 RX x0 x1 x2 x3 x4 E1 B1
  go_wp2_with fail
  refine AQ.out.mono ?_
  rintro r w3 ⟨oa,c,F,X,xs,rfl,run,hlen,sat,str,hc,kp⟩
  have TX:=hide (Sp.tx_of run hlen str T7.out)
  have SA:=hide sat
  have ES3:=hide (Sp.es_kp ES2.out kp)
  have B3:=hide (Sp.kp_lo B2.out kp)
  clear run hlen sat str kp AQ ES2 B2
  have q1:((l.length:Int) !=(l.length:Int))=false:=by simp
  go_wp2_with fail
  go_loopw [37] (fun i wr=>∃k:Nat,k≤l.length∧i=.int .i64 k∧Below w3.heap.size w3 wr) (fun i _=>l.length - (intOf i).toNat)
  case atStart=>exact⟨0,Nat.zero_le _,rfl,Below.refl _ _⟩
  case round=>as_aux_lemma=>
   obtain⟨k,hk,rfl,bw⟩:=hrel
   have BW:=hide bw
   by_cases hlt:k<l.length
   ·have hlt':(k:Int)<(l.length:Int):=by omega
    obtain⟨e,he⟩:∃e,l[k]? =some e:=⟨_,List.getElem?_eq_getElem hlt⟩
    obtain⟨y,hy⟩:∃y,xs[k]? =some y:=⟨_,List.getElem?_eq_getElem (by rw[TX.out.len];exact hlt)⟩
    have HE:=hide he
    have HY:=hide hy
    obtain⟨b1,o1,rfl,-⟩:=ES3.out k e he
    obtain⟨b2,rfl,-⟩:=SA.out k y hy
    have ES:=hide (ES3.out.below bw)
    have SS:=hide (Sp.stat_below SA.out bw)
    obtain⟨p0,p1,p2,p3,p4,p5,p6,p7⟩:=ES.out.read he
    obtain⟨b2',e2,s0,s1,at_⟩:=SS.out k y hy
    cases e2
    have lp:=World.block_lt_of_cell? _ _ p0
    have ls:=World.block_lt_of_cell? _ _ s0
    clear bw he hy
    by_cases hf:e.k=13∨e.k=3∨e.k=4∨e.k=7
    ·rcases hf with hf|hf|hf|hf
     all_goals
      rw[hf] at p0
      clear hf s0 s1 at_ HE HY
      go_wp2_with fail
      go_roundw
      case rel=>exact⟨k+1,by omega,by go_num,btr BW.out (below_alloc _ _)⟩
      case measure=>(simp[intOf]<;>omega)
    ·have h13:e.k≠13:=fun q=>hf (.inl q)
     have d13:decide (e.k=13)=false:=decide_eq_false h13
     have d3:decide (e.k=3)=false:=decide_eq_false fun q=>hf (.inr (.inl q))
     have d4:decide (e.k=4)=false:=decide_eq_false fun q=>hf (.inr (.inr (.inl q)))
     have d7:decide (e.k=7)=false:=decide_eq_false fun q=>hf (.inr (.inr (.inr q)))
     have f13:(e.k==13)=false:=d13
     have f3:(e.k==3)=false:=d3
     have f4:(e.k==4)=false:=d4
     have f7:(e.k==7)=false:=d7
     have NF:Hid (Sg.ftk e.k=false):=by show _=_;unfold Sg.ftk;rw[f3,f4,f7];rfl
     have H13:=hide h13
     obtain⟨g,eg,td,-,ev0,ev1,-⟩:=TX.out.ev k e y HE.out HY.out h13
     have TD:=hide (fun u=>Ep.tid_any y.ev ev0 ev1 u)
     rw[td] at TD
     have EG:=hide eg
     have SH:=hide (TX.out.sh k y HY.out)
     obtain⟨ev,hev⟩:∃ev,y.ev=ev:=⟨_,rfl⟩
     rw[hev] at s0 TD
     clear hf h13 eg td ev0 ev1 hev s1 at_
     go_wp2_with fail
     refine (TD.out _).mono ?_
     rintro r w5 ⟨rfl,e5⟩
     have B5:Hid (Below wr.heap.size wr w5):=by show Below _ _ _;rw[e5];exact below_alloc _ _
     have E5:Hid (w5.heap[wr.heap.size]? =some (.cells #[.int .i64 e.k,.int .i64 e.g,.int .i64 e.c,.int .i64 e.a,.int .i64 e.v,.int .i64 e.m,.bool e.s,.bool e.o] 40)):=by show _=_;rw[e5];exact heap_new _ _
     have ES5:=hide (ES.out.below B5.out)
     have SS5:=hide (Sp.stat_below SS.out B5.out)
     have wk:IntKind.i64.wrap ((k:Int) - 1)=(k:Int) - 1:=by rw[IntKind.wrap_i64];omega
     clear e5 s0 p0 p1 p2 p3 p4 p5 p6 p7 lp ls ES SS TD d13 d3 d4 d7 f13 f3 f4 f7
     go_wp2_with fail
     generalize wr=wo at*
     go_loopw [10] (fun i wr=>∃j:Int,-1≤j∧j<(k:Int)∧i=.int .i64 j∧Below w5.heap.size w5 wr∧∀(m:Nat) x,j<(m:Int)→m<k→l[m]? =some x→x.k=13∨x.g≠(g:Int)) (fun i _=>(intOf i+1).toNat)
     case atStart=>exact⟨(k:Int) - 1,by omega,by omega,rfl,Below.refl _ _,fun m x h1 h2=>by omega⟩
     case round=>as_aux_lemma=>
      obtain⟨j0,h1,h2,rfl,bq,no⟩:=hrel
      have BQ:=hide bq
      have NO:=hide no
      clear no
      by_cases hj0:0≤j0
      ·obtain⟨j,rfl⟩:∃j:Nat,j0=(j:Int):=⟨j0.toNat,by omega⟩
       have hjk:j<k:=by omega
       have hjl:j<l.length:=by omega
       have hjl':(j:Int)<(l.length:Int):=by omega
       have wj:IntKind.i64.wrap ((j:Int) - 1)=(j:Int) - 1:=by rw[IntKind.wrap_i64];omega
       obtain⟨f,hf⟩:∃f,l[j]? =some f:=⟨_,List.getElem?_eq_getElem hjl⟩
       have HF:=hide hf
       obtain⟨q0,q1,-⟩:=(ES5.out.below bq).read hf
       have xg:wr.cell? ⟨wo.heap.size,1,none⟩=some (.int .i64 e.g):=cell_of (heap_below E5.out bq) 1
       clear hf bq
       by_cases f13:f.k=13
       ·rw[f13] at q0
        have n':∀(m:Nat) x,(j:Int) - 1<(m:Int)→m<k→l[m]? =some x→x.k=13∨x.g≠(g:Int):=fun m x a b c=>by
         by_cases q:m=j
         ·subst q;rw[HF.out] at c;cases c;exact .inl f13
         ·exact NO.out m x (by omega) b c
        have NN:=hide n'
        clear n' f13
        go_wp2_with fail
        go_quiet (fail)
        go_wp2_with fail
        go_roundw
        case rel=>exact⟨(j:Int) - 1,by omega,by omega,rfl,btr BQ.out (bdrew _ _),NN.out⟩
        case measure=>(simp[intOf]<;>omega)
       ·have d13:decide (f.k=13)=false:=decide_eq_false f13
        have d13':(f.k==13)=false:=d13
        have F13:=hide f13
        by_cases hg:f.g=e.g
        ·obtain⟨z,hz⟩:∃z,xs[j]? =some z:=⟨_,List.getElem?_eq_getElem (by rw[TX.out.len];exact hjl)⟩
         have OW:=hide (TX.out.ow j k f e z y g hjk HF.out HE.out hz HY.out f13 H13.out (hg.trans EG.out) EG.out NF.out fun m x a b c=>NO.out m x (by omega) b c)
         have HZ:=hide hz
         rw[hg] at q1
         have e1:(e.g !=e.g)=false:=by simp
         obtain⟨b2',e2,-,s1,aty⟩:=Sp.stat_below SS5.out BQ.out k y HY.out
         cases e2
         obtain⟨n,hn⟩:∃n,y.L.length=n:=⟨_,rfl⟩
         obtain⟨ry,hry⟩:∃ry,y.ra=ry:=⟨_,rfl⟩
         rw[hry,hn] at s1
         rw[hry] at aty
         have AY:=hide aty
         have NY:=hide (And.intro hn SH.out)
         have hn2:n≤256:=by rw[←hn];exact SH.out
         clear aty hn hry hz hg f13
         go_wp2_with fail
         go_quiet (fail)
         go_wp2_with fail
         have SW:=hide (Sp.stat_below SS5.out BQ.out)
         clear q0 q1 xg s1
         generalize wr=wp at*
         go_loopw [94] (fun i wr=>∃t:Nat,t≤n∧i=.int .i64 t∧Below wp.heap.size wp wr) (fun i _=>n - (intOf i).toNat)
         case atStart=>exact⟨0,Nat.zero_le _,rfl,bdrew _ _⟩
         case round=>as_aux_lemma=>
          obtain⟨t,ht,rfl,bx⟩:=hrel
          have BX:=hide bx
          by_cases htn:t<n
          ·have htn':(t:Int)<(n:Int):=by omega
           obtain⟨b3,o3,rfl,ct⟩:=(AY.out.below bx) t (by rw[NY.out.1];exact htn)
           have ow:=OW.out t
           obtain⟨x,hx⟩:∃x,Ck.nth y.L t=x:=⟨_,rfl⟩
           rw[hx] at ct ow
           by_cases htg:t=g
           ·subst htg
            clear bx ow
            go_wp2_with fail
            go_roundw
            case rel=>exact⟨t+1,by omega,by go_num,BX.out⟩
            case measure=>(simp[intOf]<;>omega)
           ·have g1:decide ((t:Int)=(g:Int))=false:=decide_eq_false (by omega)
            have g2:((t:Int) !=(g:Int))=true:=by simp;omega
            have g3:decide (t=g)=false:=decide_eq_false htg
            by_cases hp:0<x
            ·have p1:decide (0<x)=true:=decide_eq_true hp
             have oz:=ow htg
             have htm:t<z.L.length:=Classical.byContradiction fun q=>by rw[Ck.nth_out z.L t (by omega)] at oz;omega
             obtain⟨b2',e2,-,t1,atz⟩:=Sp.stat_below SW.out bx j z HZ.out
             cases e2
             obtain⟨b4,o4,hrz,cz⟩:=atz t htm
             obtain⟨m,hm⟩:∃m,z.L.length=m:=⟨_,rfl⟩
             rw[hrz,hm] at t1
             rw[←oz] at cz
             rw[hm] at htm
             have m1:decide ((m:Int)≤(t:Int))=false:=decide_eq_false (by omega)
             have m2:decide (m≤t)=false:=decide_eq_false (by omega)
             have m3:(t:Int)<(m:Int):=by omega
             clear bx ow oz atz hrz hm
             go_wp2_with fail
             go_roundw
             case rel=>exact⟨t+1,by omega,by go_num,BX.out⟩
             case measure=>(simp[intOf]<;>omega)
            ·have p1:decide (0<x)=false:=decide_eq_false hp
             clear bx ow
             go_wp2_with fail
             go_roundw
             case rel=>exact⟨t+1,by omega,by go_num,BX.out⟩
             case measure=>(simp[intOf]<;>omega)
          ·have htn':¬((t:Int)<(n:Int)):=by omega
           clear bx
           go_wp2_with fail
           go_roundw
           case rel=>exact⟨k+1,by omega,by go_num,btr BW.out (btr B5.out (btr BQ.out BX.out))⟩
           case measure=>(simp[intOf]<;>omega)
        ·have e1:decide (f.g=e.g)=false:=decide_eq_false hg
         have e2:(f.g !=e.g)=true:=by simp[hg]
         have n':∀(m:Nat) x,(j:Int) - 1<(m:Int)→m<k→l[m]? =some x→x.k=13∨x.g≠(g:Int):=fun m x a b c=>by
          by_cases q:m=j
          ·subst q;rw[HF.out] at c;cases c;exact .inr (by rw[←EG.out];exact hg)
          ·exact NO.out m x (by omega) b c
         have NN:=hide n'
         clear n' f13 hg
         go_wp2_with fail
         go_quiet (fail)
         go_wp2_with fail
         go_roundw
         case rel=>exact⟨(j:Int) - 1,by omega,by omega,rfl,btr BQ.out (bdrew _ _),NN.out⟩
         case measure=>(simp[intOf]<;>omega)
      ·have hj0':decide (0≤j0)=false:=decide_eq_false hj0
       clear bq
       go_wp2_with fail
       go_roundw
       case rel=>exact⟨k+1,by omega,by go_num,btr BW.out (btr B5.out BQ.out)⟩
       case measure=>(simp[intOf]<;>omega)
   ·have hlt':¬((k:Int)<(l.length:Int)):=by omega
    clear bw
    go_wp2_with fail
    refine (Sp.spawns_any _).mono ?_
    rintro r w4 ⟨rfl,b4⟩
    have B4:=hide (btr B3.out (btr BW.out b4))
    clear b4
    go_wp2_with fail
    go_ret
    exact⟨rfl,B4.out⟩
set_option maxRecDepth 100000 in
theorem lifted(os:Os)(started:os.Started)(H:Type)(enc:TypeId × Value→H):
 ReturnsInHanded {} Tryz.checked os 4 .any (Rows.stampOwnSpec.pre6 enc Tryz.prog Tryz.f4 Rows.stampOwnRow.domain false) (Rows.stampOwnSpec.post enc Tryz.prog Tryz.f4 false true false false):=by
 refine returnsInHanded_of_change_sized (C:=Tryz.checked) own started (by kernel_rfl) Tryz.func4
  (ChangeSpec.witness6 (enc:=enc) (C:=Tryz.checked) false ⟨#[],#[.agg #[.int .i64 0,.int .i64 0,.slice none 0 0,.slice none 0 0,.slice none 0 0]],[]⟩ 8 (by kernel_rfl) (by kernel_rfl) (by kernel_rfl) (by kernel_rfl)) ?_
 intro W base args ds gs before hval0 hW hcnd hsz0 _
 have hval:∀(j:Nat) t v,Tryz.f4.params[j]? =some t→args[j]? =some v→Value.okWide Tryz.prog W .any base t v:=hval0
 have hW':=hW
 obtain⟨p,q,hA0,hV,rfl,hfz,hnd⟩:=hW
 have hA:DataW.TrodAll enc Tryz.prog W 0 (fun _=>true) true Tryz.f4.params.toList args.toList ds p:=hA0
 rw[Tryz.params4] at hA hval
 have hsz:(DataW.weightsEach Tryz.prog (Tryz.f4.params.toList++Rows.stampOwnSpec.plain.varTypes Tryz.prog) (ds++gs)).all (·≤reachBytes)=true:=hsz0
 clear hsz0
 rw[Tryz.params4] at hsz
 obtain⟨v0,vs0,d0,ds0,p0,q0,hargs,rfl,rfl,h0,r0⟩:=trodAll_cons hA
 obtain⟨rfl,rfl,rfl⟩:=trodAll_nil r0
 obtain rfl:args=#[v0]:=by cases args;simp_all
 obtain⟨rfl,rfl⟩:=trodVars_none hV
 have k0:=h0
 have lt0:∀x∈p0,x.block<W.heap.size:=by obtain⟨m,hm⟩:=k0;exact DataW.trod_lt m _ _ _ hm
 have z0:Sh.WL 25 d0:=fun m hm=>by
  have:=List.all_eq_true.1 hsz _ (DataW.weights_mem_each (j:=0) (t:=25) (d:=d0) rfl rfl m hm)
  simpa using this
 obtain⟨T0,M0,ps0,pl0,dr0,pa0,la0,da0,pc0,lc0,dc0,rfl,S0,H0⟩:=h0.elim fun _ hf=>Sh.script_open hf z0
 clear hA0 hval0
 refine (core (w:=W) T0 M0 ps0 pl0 dr0 pa0 la0 da0 pc0 lc0 dc0 S0 H0).mono fun e W' ⟨he,bel⟩=>?_
 subst he
 exact⟨_,rfl,_,_,_,[],_,[],hW',trodAll_mk1 (shut_bool Tryz.underlying4 _),(trodAll_cons_mk (Below.trod laidOut (by kernel_rfl) (of_decide_eq_true (by kernel_rfl)) k0 bel lt0) trodAll_mk0),rfl,bel.frame _,fun h=>by cases h⟩
theorem over:Rows.stampOwnRow.holds Tryz.pinned (OpenSpec.ofChange Rows.stampOwnSpec):=
 OpenClaim.holds_of_wide 4 Tryz.f4 rfl rfl rfl rfl rfl rfl rfl ⟨rfl,rfl,rfl,rfl,rfl⟩ rfl rfl rfl rfl rfl (by kernel_rfl) Tryz.func4 (by kernel_rfl)
  (of_decide_eq_true (by kernel_rfl)) (by unfold Func.isWrapper;first|(rw[if_pos (by decide+kernel)];kernel_rfl)|(rw[if_neg (by decide+kernel)];exact⟨rfl,rfl⟩))
  (fun os started H enc _=>lifted os started H enc)
theorem proved:Rows.StampOwnSaid:=over
#print axioms proved
end Go.Proofs.YtogkjaekfhjelaaGreat.stampOwn
