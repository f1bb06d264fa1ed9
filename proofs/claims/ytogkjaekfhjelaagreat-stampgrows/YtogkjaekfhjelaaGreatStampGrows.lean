/- StampGrows, over this seat's program: of each goroutine the stamps of a run's trace grow; an event's own epoch is in its stamp, and in none of another goroutine's ahead of it. -/
import Derived.Test.YtogkjaekfhjelaaGreatZjSg19
import Derived.ShutString
import Derived.ChangeOld
import Derived.Below
namespace Go.Proofs.YtogkjaekfhjelaaGreat.stampGrows
open Go.ChangeShapes Go.WideShapes Go.ChangeAt Go.RowKit
open Go.ChangeMaps (open_string shut_string)
open Lo Ba
theorem own:ownKnob Tryz.prog.godebug=none:=by kernel_rfl
theorem laidOut:laidOutB Tryz.prog=true:=by kernel_rfl
set_option maxRecDepth 100000 in
set_option maxHeartbeats 6400000 in
theorem core{w:World}(T M:Int)(ps:List (List De.OpD))(pl dr:List Int)(pa la da:Option Addr)(pc lc dc:Nat)(hS:Sh.SAt w ⟨T,M,ps,pl,dr⟩ pa la da)(_hH:Sh.Held ps):
 Calls Tryz.prog 3 #[.agg #[.int .i64 T,.int .i64 M,.slice pa ps.length pc,.slice la pl.length lc,.slice da dr.length dc]] w fun r w'=>r=.returned (.bool true)∧Below w.heap.size w w':=by
 have LG:=hide (large17 T M ps pl dr pa la da pc lc dc (w.alloc (.cells #[.int .i64 T,.int .i64 M,.slice pa ps.length pc,.slice la pl.length lc,.slice da dr.length dc] 25)) (hS.below (below_alloc _ _)))
 have HS:=hide hS
 have E0:=hide (heap_new w (.cells #[.int .i64 T,.int .i64 M,.slice pa ps.length pc,.slice la pl.length lc,.slice da dr.length dc] 25))
 have B0:=hide (below_alloc w (.cells #[.int .i64 T,.int .i64 M,.slice pa ps.length pc,.slice la pl.length lc,.slice da dr.length dc] 25))
 clear hS
 go_enter Tryz.func3,Tryz.ntmps3
 go_wp2_with fail
 refine LG.out.mono ?_
 rintro r w1 ⟨⟨b,rfl⟩,b1⟩
 have E1:=hide (heap_below E0.out b1)
 have B1:=hide (btr B0.out b1)
 clear b1 LG E0 B0
 cases b
 case true=>as_aux_lemma=>
  go_wp2_with fail
  refine (Sp.spawns_any _).mono ?_
  rintro r w2 ⟨rfl,b2⟩
  have B2:=hide (btr B1.out b2)
  clear b2
  go_wp2_with fail
  go_ret
  exact⟨rfl,B2.out⟩
 case false=>as_aux_lemma=>
  obtain⟨x0,x1,x2,x3,x4⟩:=Sh.sc_cells E1.out
  have RX:=hide (run_q T M ps pl dr pa la da pc lc dc w1 (HS.out.below B1.out))
  go_wp2_with fail
  refine RX.out.mono ?_
  rintro r w2 ⟨ob,l,d,v,rfl,es2,hd,t7,b2⟩
  have B2:=hide (btr B1.out b2)
  have ES2:=hide es2
  have hl:=t7.len
  have AQ:=hide (Sp.all_q l ob d w2 es2 t7.len t7.rul t7.fol t7.few)
  have T7:=hide t7
  clear es2 t7 b2 RX x0 x1 x2 x3 x4 E1 B1
  go_wp2_with fail
  refine AQ.out.mono ?_
  rintro r w3 ⟨oa,c,F,X,xs,rfl,run,hlen,sat,str,hc,kp⟩
  have TX:=hide (Sp.tx_of run hlen str T7.out)
  have SA:=hide sat
  have ES3:=hide (Sp.es_kp ES2.out kp)
  have B3:=hide (Sp.kp_lo B2.out kp)
  clear run hlen sat str kp AQ ES2 B2
  have q1:((l.length:Int) !=(l.length:Int))=false:=by simp
  go_wp2_with fail
  go_loopw [36] (fun i wr=>∃k:Nat,k≤l.length∧i=.int .i64 k∧Below w3.heap.size w3 wr) (fun i _=>l.length - (intOf i).toNat)
  case atStart=>exact⟨0,Nat.zero_le _,rfl,Below.refl _ _⟩
  case round=>as_aux_lemma=>
   obtain⟨k,hk,rfl,bw⟩:=hrel
   have BW:=hide bw
   by_cases hlt:k<l.length
   ·have hlt':(k:Int)<(l.length:Int):=by omega
    have hkc:k≤c:=by omega
    have hkc':(k:Int)≤(c:Int):=by omega
    obtain⟨e,he⟩:∃e,l[k]? =some e:=⟨_,List.getElem?_eq_getElem hlt⟩
    obtain⟨y,hy⟩:∃y,xs[k]? =some y:=⟨_,List.getElem?_eq_getElem (by rw[TX.out.len];exact hlt)⟩
    have HE:=hide he
    have HY:=hide hy
    obtain⟨b1,o1,rfl,-⟩:=ES3.out k e he
    obtain⟨b2,rfl,-⟩:=SA.out k y hy
    have ES:=hide (ES3.out.below bw)
    have SS:=hide (Sp.stat_below SA.out bw)
    obtain⟨p0,-⟩:=ES.out.read he
    obtain⟨b2',e2,s0,s1,at_⟩:=SS.out k y hy
    cases e2
    have lp:=World.block_lt_of_cell? _ _ p0
    have ls:=World.block_lt_of_cell? _ _ s0
    clear bw he hy
    by_cases h13:e.k=13
    ·obtain⟨z1,z2⟩:=TX.out.no k e y HE.out HY.out h13
     have s0':wr.cell? ⟨b2,k*2,none⟩=some (.int .u64 0):=by rw[s0,z1]
     have s1':wr.cell? ⟨b2,k*2+1,none⟩=some (.slice y.ra 0 0):=by rw[s1,z2];rfl
     have p0':wr.cell? ⟨b1,o1+k*8,none⟩=some (.int .i64 13):=by rw[p0,h13]
     clear s0 s1 p0 z1 z2 h13
     go_wp2_with fail
     go_roundw
     case rel=>exact⟨k+1,by omega,by go_num,btr BW.out (below_alloc _ _)⟩
     case measure=>simp[intOf];omega
    ·have d13:decide (e.k=13)=false:=decide_eq_false h13
     have d13':(e.k==13)=false:=by simpa using h13
     have H13:=hide h13
     obtain⟨g,eg,td,ck,ev0,ev1,gl⟩:=TX.out.ev k e y HE.out HY.out h13
     have TD:=hide (fun u=>Ep.tid_any y.ev ev0 ev1 u)
     have CK:=hide (fun u=>Ep.clk_any y.ev ev0 ev1 u)
     rw[td] at TD
     rw[ck] at CK
     have EG:=hide eg
     obtain⟨b3,o3,hra,cg⟩:=at_ g gl
     have AT:=hide at_
     have GL:=hide gl
     obtain⟨ev,hev⟩:∃ev,y.ev=ev:=⟨_,rfl⟩
     obtain⟨n,hn⟩:∃n,y.L.length=n:=⟨_,rfl⟩
     obtain⟨cy,hcy⟩:∃cy,Ck.nth y.L g=cy:=⟨_,rfl⟩
     rw[hra,hn] at s1
     rw[hev] at s0 TD CK
     rw[hn] at gl
     rw[hcy] at CK cg
     have NM:=hide (And.intro hev (And.intro hn (And.intro hcy hra)))
     have gl':(g:Int)<(n:Int):=by omega
     have g0:decide ((g:Int)<0)=false:=decide_eq_false (by omega)
     have g1:decide ((n:Int)≤(g:Int))=false:=decide_eq_false (by omega)
     have g1':decide (n≤g)=false:=decide_eq_false (by omega)
     clear h13 eg td ck ev0 ev1 at_ hev hn hcy hra
     go_wp2_with fail
     refine (TD.out _).mono ?_
     rintro r w5 ⟨rfl,e5⟩
     have B5:Hid (Below wr.heap.size wr w5):=by show Below _ _ _;rw[e5];exact below_alloc _ _
     have E5:Hid (w5.heap[wr.heap.size]? =some (.cells #[.int .u64 ev,.slice (some ⟨b3,o3,none⟩) n n] 38)):=by show _=_;rw[e5];exact heap_new _ _
     have c0:w5.cell? ⟨wr.heap.size,0,none⟩=some (.int .u64 ev):=cell_of E5.out 0
     have c1:w5.cell? ⟨wr.heap.size,1,none⟩=some (.slice (some ⟨b3,o3,none⟩) n n):=cell_of E5.out 1
     have cg5:w5.cell? ⟨b3,o3+g,none⟩=some (.int .i64 cy):=(B5.out.cell (World.block_lt_of_cell? _ _ cg)).trans cg
     clear e5 s0 s1 p0 lp ls cg
     go_upto_region 14 with fail
     go_quiet ((go_at_call 10;exact Calls.quiet_of_same (CK.out _)))
     have ES5:=hide (ES.out.below B5.out)
     have SS5:=hide (Sp.stat_below SS.out B5.out)
     have AT5:=hide (AT.out.below B5.out)
     clear c0 c1 cg5 ES SS AT TD
     go_wp2_with fail
     generalize wr=wo at*
     go_loopw [83] (fun i wr=>∃j:Nat,j≤k∧i=.int .i64 j∧Below w5.heap.size w5 wr) (fun i _=>k - (intOf i).toNat)
     case atStart=>exact⟨0,Nat.zero_le _,rfl,bdrew _ _⟩
     case round=>as_aux_lemma=>
      obtain⟨j,hj,rfl,bq⟩:=hrel
      have BQ:=hide bq
      by_cases hjk:j<k
      ·have hjk':(j:Int)<(k:Int):=by omega
       have hjl:j<l.length:=by omega
       have hjl':(j:Int)<(l.length:Int):=by omega
       obtain⟨f,hf⟩:∃f,l[j]? =some f:=⟨_,List.getElem?_eq_getElem hjl⟩
       obtain⟨z,hz⟩:∃z,xs[j]? =some z:=⟨_,List.getElem?_eq_getElem (by rw[TX.out.len];exact hjl)⟩
       have HFZ:=hide (And.intro hf hz)
       obtain⟨q0,q1,-⟩:=(ES5.out.below bq).read hf
       obtain⟨-,r1,-⟩:=(ES5.out.below bq).read HE.out
       obtain⟨b2',e2,t0,t1,atz⟩:=Sp.stat_below SS5.out bq j z hz
       cases e2
       have xc0:wr.cell? ⟨wo.heap.size,0,none⟩=some (.int .u64 ev):=cell_of (heap_below E5.out bq) 0
       have xc1:wr.cell? ⟨wo.heap.size,1,none⟩=some (.slice (some ⟨b3,o3,none⟩) n n):=cell_of (heap_below E5.out bq) 1
       have lq:=World.block_lt_of_cell? _ _ q0
       have lt:=World.block_lt_of_cell? _ _ t0
       have lx:=World.block_lt_of_cell? _ _ xc0
       clear hf hz bq
       by_cases f13:f.k=13
       ·have q0':wr.cell? ⟨b1,o1+j*8,none⟩=some (.int .i64 13):=by rw[q0,f13]
        clear q0 f13
        go_wp2_with fail
        go_roundw
        case rel=>exact⟨j+1,by omega,by go_num,btr BQ.out (below_alloc _ _)⟩
        case measure=>simp[intOf];omega
       ·have d13:decide (f.k=13)=false:=decide_eq_false f13
        have d13':(f.k==13)=false:=by simpa using f13
        have F13:=hide f13
        obtain⟨h,fg,td,-,ev0,ev1,-⟩:=TX.out.ev j f z HFZ.out.1 HFZ.out.2 f13
        obtain⟨gr1,gr2⟩:=TX.out.gr j k f e z y h g hjk HFZ.out.1 HE.out HFZ.out.2 HY.out f13 H13.out fg EG.out
        have TD:=hide (fun u=>Ep.tid_any z.ev ev0 ev1 u)
        rw[td] at TD
        rw[fg] at q1
        rw[EG.out] at r1
        obtain⟨ez,hez⟩:∃ez,z.ev=ez:=⟨_,rfl⟩
        obtain⟨m,hm⟩:∃m,z.L.length=m:=⟨_,rfl⟩
        obtain⟨rz,hrz⟩:∃rz,z.ra=rz:=⟨_,rfl⟩
        rw[hrz,hm] at t1
        rw[hez] at t0 TD
        rw[hrz] at atz
        have AZ:=hide atz
        have NZ:=hide (And.intro hm (And.intro (TX.out.sh j z HFZ.out.2) (And.intro gr1 gr2)))
        clear f13 td ev0 ev1 hez hm hrz atz fg gr1 gr2
        go_wp2_with fail
        refine (TD.out _).mono ?_
        rintro r w6 ⟨rfl,e6⟩
        have B6:Hid (Below wr.heap.size wr w6):=by show Below _ _ _;rw[e6];exact below_alloc _ _
        have E6:Hid (w6.heap[wr.heap.size]? =some (.cells #[.int .u64 ez,.slice rz m m] 38)):=by show _=_;rw[e6];exact heap_new _ _
        have c0:w6.cell? ⟨wo.heap.size,0,none⟩=some (.int .u64 ev):=(B6.out.cell lx).trans xc0
        have c1:w6.cell? ⟨wo.heap.size,1,none⟩=some (.slice (some ⟨b3,o3,none⟩) n n):=(B6.out.cell lx).trans xc1
        have z1:w6.cell? ⟨wr.heap.size,1,none⟩=some (.slice rz m m):=cell_of E6.out 1
        have k1:w6.cell? ⟨b1,o1+j*8+1,none⟩=some (.int .i64 (h:Int)):=(B6.out.cell lq).trans q1
        have k2:w6.cell? ⟨b1,o1+k*8+1,none⟩=some (.int .i64 (g:Int)):=(B6.out.cell lq).trans r1
        have A6:=hide (AZ.out.below B6.out)
        have Y6:=hide ((AT5.out.below BQ.out).below B6.out)
        clear e6 q0 q1 r1 t0 t1 xc0 xc1 TD lq lt lx
        by_cases hcg:h=g
        ·subst hcg
         have WI:=hide (fun nd=>Sp.within_any rz y.ra z.L y.L (w6.drewN nd) (A6.out.below (bdrew _ _)) (Y6.out.below (bdrew _ _)) NZ.out.2.1 (NZ.out.2.2.1 rfl))
         rw[NZ.out.1,NM.out.2.1,NM.out.2.2.2] at WI
         go_wp2_with fail
         go_quiet ((go_at_call 11;exact Calls.quiet_of_same (WI.out _)))
         go_wp2_with fail
         go_roundw
         case rel=>exact⟨j+1,by omega,by go_num,btr BQ.out (btr B6.out (bdrew _ _))⟩
         case measure=>simp[intOf];omega
        ·have e1:decide ((h:Int)=(g:Int))=false:=decide_eq_false (by omega)
         have e2:((h:Int)==(g:Int))=false:=by simp;omega
         have e3:decide (h=g)=false:=decide_eq_false hcg
         by_cases hgz:g<m
         ·have z2:decide ((g:Int)<(m:Int))=true:=decide_eq_true (by omega)
          have z3:(g:Int)<(m:Int):=by omega
          have z4:decide (g<m)=true:=decide_eq_true hgz
          obtain⟨b4,o4,rfl,cz⟩:=A6.out g (by rw[NZ.out.1];exact hgz)
          obtain⟨vz,hvz⟩:∃vz,Ck.nth z.L g=vz:=⟨_,rfl⟩
          have lz:=NZ.out.2.2.2 hcg
          rw[NM.out.2.2.1,hvz] at lz
          rw[hvz] at cz
          have z5:decide (cy≤vz)=false:=decide_eq_false (by omega)
          clear hvz lz
          go_wp2_with fail
          go_quiet ((go_at_call 10;exact Calls.quiet_of_same (CK.out _)))
          go_wp2_with fail
          go_roundw
          case rel=>exact⟨j+1,by omega,by go_num,btr BQ.out (btr B6.out (bdrew _ _))⟩
          case measure=>simp[intOf];omega
         ·have z2:decide ((g:Int)<(m:Int))=false:=decide_eq_false (by omega)
          have z4:decide (g<m)=false:=decide_eq_false hgz
          go_wp2_with fail
          go_quiet ((go_at_call 10;exact Calls.quiet_of_same (CK.out _)))
          go_wp2_with fail
          go_roundw
          case rel=>exact⟨j+1,by omega,by go_num,btr BQ.out (btr B6.out (bdrew _ _))⟩
          case measure=>simp[intOf];omega
      ·have hjk':¬((j:Int)<(k:Int)):=by omega
       clear bq
       go_wp2_with fail
       go_roundw
       case rel=>exact⟨k+1,by omega,by go_num,btr BW.out (btr B5.out BQ.out)⟩
       case measure=>simp[intOf];omega
   ·have hlt':¬((k:Int)<(l.length:Int)):=by omega
    clear bw
    go_wp2_with fail
    refine (Sp.spawns_any _).mono ?_
    rintro r w4 ⟨rfl,b4⟩
    have B4:=hide (btr B3.out (btr BW.out b4))
    clear b4
    go_wp2_with fail
    go_ret
    exact⟨rfl,B4.out⟩
set_option maxRecDepth 100000 in
theorem lifted(os:Os)(started:os.Started)(H:Type)(enc:TypeId × Value→H):
 ReturnsInHanded {} Tryz.checked os 3 .any (Rows.stampGrowsSpec.pre6 enc Tryz.prog Tryz.f3 Rows.stampGrowsRow.domain false) (Rows.stampGrowsSpec.post enc Tryz.prog Tryz.f3 false true false false):=by
 refine returnsInHanded_of_change_sized (C:=Tryz.checked) own started (by kernel_rfl) Tryz.func3
  (ChangeSpec.witness6 (enc:=enc) (C:=Tryz.checked) false ⟨#[],#[.agg #[.int .i64 0,.int .i64 0,.slice none 0 0,.slice none 0 0,.slice none 0 0]],[]⟩ 8 (by kernel_rfl) (by kernel_rfl) (by kernel_rfl) (by kernel_rfl)) ?_
 intro W base args ds gs before hval0 hW hcnd hsz0 _
 have hval:∀(j:Nat) t v,Tryz.f3.params[j]? =some t→args[j]? =some v→Value.okWide Tryz.prog W .any base t v:=hval0
 have hW':=hW
 obtain⟨p,q,hA0,hV,rfl,hfz,hnd⟩:=hW
 have hA:DataW.TrodAll enc Tryz.prog W 0 (fun _=>true) true Tryz.f3.params.toList args.toList ds p:=hA0
 rw[Tryz.params3] at hA hval
 have hsz:(DataW.weightsEach Tryz.prog (Tryz.f3.params.toList++Rows.stampGrowsSpec.plain.varTypes Tryz.prog) (ds++gs)).all (·≤reachBytes)=true:=hsz0
 clear hsz0
 rw[Tryz.params3] at hsz
 obtain⟨v0,vs0,d0,ds0,p0,q0,hargs,rfl,rfl,h0,r0⟩:=trodAll_cons hA
 obtain⟨rfl,rfl,rfl⟩:=trodAll_nil r0
 obtain rfl:args=#[v0]:=by cases args;simp_all
 obtain⟨rfl,rfl⟩:=trodVars_none hV
 have k0:=h0
 have lt0:∀x∈p0,x.block<W.heap.size:=by obtain⟨m,hm⟩:=k0;exact DataW.trod_lt m _ _ _ hm
 have z0:Sh.WL 25 d0:=fun m hm=>by
  have:=List.all_eq_true.1 hsz _ (DataW.weights_mem_each (j:=0) (t:=25) (d:=d0) rfl rfl m hm)
  simpa using this
 obtain⟨T0,M0,ps0,pl0,dr0,pa0,la0,da0,pc0,lc0,dc0,rfl,S0,H0⟩:=h0.elim fun _ hf=>Sh.script_open hf z0
 clear hA0 hval0
 refine (core (w:=W) T0 M0 ps0 pl0 dr0 pa0 la0 da0 pc0 lc0 dc0 S0 H0).mono fun e W' ⟨he,bel⟩=>?_
 subst he
 exact⟨_,rfl,_,_,_,[],_,[],hW',trodAll_mk1 (shut_bool Tryz.underlying4 _),(trodAll_cons_mk (Below.trod laidOut (by kernel_rfl) (of_decide_eq_true (by kernel_rfl)) k0 bel lt0) trodAll_mk0),rfl,bel.frame _,fun h=>by cases h⟩
theorem over:Rows.stampGrowsRow.holds Tryz.pinned (OpenSpec.ofChange Rows.stampGrowsSpec):=
 OpenClaim.holds_of_wide 3 Tryz.f3 rfl rfl rfl rfl rfl rfl rfl ⟨rfl,rfl,rfl,rfl,rfl⟩ rfl rfl rfl rfl rfl (by kernel_rfl) Tryz.func3 (by kernel_rfl)
  (of_decide_eq_true (by kernel_rfl)) (by unfold Func.isWrapper;first|(rw[if_pos (by decide+kernel)];kernel_rfl)|(rw[if_neg (by decide+kernel)];exact⟨rfl,rfl⟩))
  (fun os started H enc _=>lifted os started H enc)
theorem proved:Rows.StampGrowsSaid:=over
#print axioms proved
end Go.Proofs.YtogkjaekfhjelaaGreat.stampGrows
