import Derived.Test.YtogkjaekfhjelaaGreatZjSg1
import Derived.LoopN
import Derived.Deep.RegionHeld3
import Derived.Deep.AppendLies
import Derived.Deep.Slices
import Derived.ShutString
import Derived.ChangeOld
set_option maxHeartbeats 12800000
namespace Go.Proofs.YtogkjaekfhjelaaGreat
open Go.ChangeShapes Go.WideShapes Go.ChangeAt Go.RowKit
namespace De
open Ba Re
theorem all_no{l:List Cs}{j:Nat}{x:Cs}(hx:l[j]? =some x)(h:okC x=false):l.all okC=false:=by
 rw[List.all_eq_false]
 exact⟨x,List.mem_of_getElem? hx,by simp[h]⟩
theorem all_yes{l:List Cs}(h:∀(q:Nat) (x:Cs),l[q]? =some x→okC x=true):l.all okC=true:=by
 rw[List.all_eq_true]
 intro x hx
 obtain⟨q,hq⟩:=List.getElem?_of_mem hx
 exact h q x hq
theorem okP_iff(p:Int):okP p=true↔1≤p∧p≤8:=by simp[okP]
theorem check_long(o:OpD)(oa:Option Addr)(c:Nat)(p:Int)(w:World)(hp:okP p=true)(h1:1≤o.kind)(h2:o.kind≤9)(hl:4<o.cases.length)(hm:o.cases.length≤maxLen):
 Calls Tryz.prog 95 #[.agg #[.int .i64 o.kind,.int .i64 o.a,.int .i64 o.b,.slice oa o.cases.length c,.bool o.def_],.int .i64 p] w fun r w'=>r=.returned (.int .i64 2)∧Below w.heap.size w w':=by
 obtain⟨k,a,b,cs,d⟩:=o
 unfold maxLen at hm
 simp only at h1 h2 hl hm ⊢
 have HP:=hide hp
 have d1:decide (k<1)=false:=by simp;omega
 have d2:decide (9<k)=false:=by simp;omega
 have d3:decide ((4:Int)<(cs.length:Int))=true:=by simp;omega
 clear hp
 go_enter Tryz.func95,Tryz.ntmps95
 go_wp2_with fail
 refine (isCount_any _ _).mono ?_
 rw[HP.out]
 rintro r w1 ⟨rfl,rfl⟩
 go_wp2_with fail
 go_ret
 exact⟨rfl,below_alloc _ _⟩
theorem check_main(o:OpD)(oa:Option Addr)(c:Nat)(p:Int)(w:World)(hp:okP p=true)(h1:1≤o.kind)(h2:o.kind≤9)(hl:o.cases.length≤4)(hA:CAt w oa o.cases)(x1 x2 x3 x4:Bool)(hx1:upB o.a (mA o.kind p)=x1)(hx2:upB o.b (mB o.kind)=x2)(hx3:(o.kind==6)=x3)(hx4:(o.def_||decide (0<o.cases.length))=x4):
 Calls Tryz.prog 95 #[.agg #[.int .i64 o.kind,.int .i64 o.a,.int .i64 o.b,.slice oa o.cases.length c,.bool o.def_],.int .i64 p] w fun r w'=>r=.returned (.int .i64 (bif x1&&x2&&(x3||!x4)&&o.cases.all okC then 0 else 4))∧Below w.heap.size w w':=by
 obtain⟨k,a,b,cs,d⟩:=o
 simp only at h1 h2 hl hA hx1 hx2 hx3 hx4 ⊢
 have HP:=hide hp
 have HP2:=hide ((okP_iff p).1 hp)
 have HA:=hide hA
 have X1:=hide hx1
 have X2:=hide hx2
 have d1:decide (k<1)=false:=by simp;omega
 have d2:decide (9<k)=false:=by simp;omega
 have d3:decide ((4:Int)<(cs.length:Int))=false:=by simp;omega
 have d4:(k !=6)=!x3:=by rw[←hx3];rfl
 clear hp hA hx1 hx2
 cases x1
 ·clear hx3 hx4 d4
  go_enter Tryz.func95,Tryz.ntmps95
  go_wp2_with fail
  refine (isCount_any _ _).mono ?_
  rw[HP.out]
  rintro r w1 ⟨rfl,rfl⟩
  go_wp2_with fail
  refine (reach_any k p h1 h2 HP2.out.1 HP2.out.2 _).mono ?_
  rintro r w1 ⟨rfl,rfl⟩
  go_wp2_with fail
  refine (upTo_any _ _ _).mono ?_
  rw[X1.out]
  rintro r w1 ⟨rfl,rfl⟩
  go_wp2_with fail
  go_ret
  exact⟨rfl,below_alloc _ _⟩
 cases x2
 ·clear hx3 hx4 d4
  go_enter Tryz.func95,Tryz.ntmps95
  go_wp2_with fail
  refine (isCount_any _ _).mono ?_
  rw[HP.out]
  rintro r w1 ⟨rfl,rfl⟩
  go_wp2_with fail
  refine (reach_any k p h1 h2 HP2.out.1 HP2.out.2 _).mono ?_
  rintro r w1 ⟨rfl,rfl⟩
  go_wp2_with fail
  refine (upTo_any _ _ _).mono ?_
  rw[X1.out]
  rintro r w1 ⟨rfl,rfl⟩
  go_wp2_with fail
  refine (upTo_any _ _ _).mono ?_
  rw[X2.out]
  rintro r w1 ⟨rfl,rfl⟩
  go_wp2_with fail
  go_ret
  exact⟨rfl,below_alloc _ _⟩
 go_enter Tryz.func95,Tryz.ntmps95
 go_wp2_with fail
 refine (isCount_any _ _).mono ?_
 rw[HP.out]
 rintro r w1 ⟨rfl,rfl⟩
 go_wp2_with fail
 refine (reach_any k p h1 h2 HP2.out.1 HP2.out.2 _).mono ?_
 rintro r w1 ⟨rfl,rfl⟩
 go_wp2_with fail
 refine (upTo_any _ _ _).mono ?_
 rw[X1.out]
 rintro r w1 ⟨rfl,rfl⟩
 go_wp2_with fail
 refine (upTo_any _ _ _).mono ?_
 rw[X2.out]
 rintro r w1 ⟨rfl,rfl⟩
 cases x3
 ·cases x4
  ·have hd:d=false:=by
    cases d
    ·rfl
    ·simp at hx4
   have hc0:cs=[]:=by
    rw[hd] at hx4
    simpa using hx4
   subst hd hc0
   clear hx4 hx3
   go_wp2_with fail
   refine wp_loop_rounds 1 ?_
   rw[rounds_succ]
   go_wp2
   go_ret
   exact⟨rfl,below_alloc _ _⟩
  ·clear hx3
   cases d
   ·obtain⟨x,t,rfl⟩:∃x t,cs=x::t:=by
     cases cs with
     |nil=>simp at hx4
     |cons x t=>exact⟨x,t,rfl⟩
    clear hx4
    go_wp2_with fail
    go_ret
    exact⟨rfl,below_alloc _ _⟩
   ·clear hx4
    go_wp2_with fail
    go_ret
    exact⟨rfl,below_alloc _ _⟩
 ·clear hx4 hx3
  have B0:=hide (below_alloc w (.cells #[.int .i64 k,.int .i64 a,.int .i64 b,.slice oa cs.length c,.bool d] 46))
  go_wp2_with fail
  generalize w.alloc (.cells #[.int .i64 k,.int .i64 a,.int .i64 b,.slice oa cs.length c,.bool d] 46)=W at B0 ⊢
  go_loopw [61] (fun i wr=>∃j:Nat,j≤cs.length∧i=.int .i64 (j:Int)∧(∀q x,q<j→cs[q]? =some x→okC x=true)∧Below w.heap.size w wr) (fun i _=>cs.length - (intOf i).toNat)
  case atStart=>exact⟨0,Nat.zero_le _,rfl,fun q x hq=>absurd hq (Nat.not_lt_zero _),B0.out⟩
  case round=>
   clear B0
   obtain⟨j,hj,rfl,hall,hb⟩:=hrel
   have HK:=hide hall
   have HB:=hide hb
   clear hall hb
   by_cases hlt:j<cs.length
   ·have hlt':decide ((j:Int)<(cs.length:Int))=true:=by simp;omega
    obtain⟨x,hx⟩:∃x,cs[j]? =some x:=⟨cs[j],by simp[hlt]⟩
    obtain⟨b',off,rfl,q1,q2,q3⟩:=(HA.out.below HB.out) j x hx
    have HX:=hide hx
    clear hx
    cases hok:okC x
    ·have HO:=hide hok
     clear hok
     go_wp2_with fail
     refine (isCase_any x _).mono ?_
     rw[HO.out]
     rintro r w2 ⟨rfl,b2⟩
     have B2:=hide (btr (btr HB.out (below_alloc _ _)) b2)
     clear b2
     go_wp2_with fail
     go_ret
     exact⟨by rw[all_no HX.out HO.out];simp,B2.out⟩
    ·have HO:=hide hok
     clear hok
     go_wp2_with fail
     refine (isCase_any x _).mono ?_
     rw[HO.out]
     rintro r w2 ⟨rfl,b2⟩
     have B2:=hide (btr (btr HB.out (below_alloc _ _)) b2)
     clear b2
     go_wp2_with fail
     go_roundw
     case rel=>exact⟨j+1,by omega,by go_num,fun q y hq hy=>by
      by_cases e:q=j
      ·subst e
       have:=HX.out
       rw[hy] at this
       simp at this
       subst this
       exact HO.out
      ·exact HK.out q y (by omega) hy,B2.out⟩
     case measure=>simp[intOf];omega
   ·have hlt':decide ((j:Int)<(cs.length:Int))=false:=by simp;omega
    go_wp2_with fail
    go_ret
    exact⟨by rw[all_yes (fun q x hq=>HK.out q x (by have:=(List.getElem?_eq_some_iff.1 hq).1;omega) hq)];rfl,HB.out⟩
theorem check_any(o:OpD)(oa:Option Addr)(c:Nat)(p:Int)(w:World)(hA:CAt w oa o.cases)(hm:o.cases.length≤maxLen):
 Calls Tryz.prog 95 #[.agg #[.int .i64 o.kind,.int .i64 o.a,.int .i64 o.b,.slice oa o.cases.length c,.bool o.def_],.int .i64 p] w fun r w'=>r=.returned (.int .i64 (chk o p))∧Below w.heap.size w w':=by
 unfold chk
 by_cases h1:(okP p&&(decide (1≤o.kind)&&decide (o.kind≤9)))=false
 ·rw[if_pos h1]
  exact check_arg o oa c p w h1
 ·rw[if_neg h1]
  have h1':okP p=true∧1≤o.kind∧o.kind≤9:=by simpa using h1
  obtain⟨hp,hk1,hk2⟩:=h1'
  by_cases h2:4<o.cases.length
  ·rw[if_pos h2]
   exact check_long o oa c p w hp hk1 hk2 h2 hm
  ·rw[if_neg h2]
   refine (check_main o oa c p w hp hk1 hk2 (by omega) hA _ _ _ _ rfl rfl rfl rfl).mono ?_
   rintro r w' ⟨rfl,hb⟩
   refine⟨?_,hb⟩
   cases x1:upB o.a (mA o.kind p)&&upB o.b (mB o.kind)
   ·simp
   ·rw[if_neg (by simp)]
    by_cases h6:o.kind=6
    ·rw[if_neg (fun q=>q.1 h6)]
     have:(o.kind==6)=true:=by simpa using h6
     rw[this]
     cases o.cases.all okC<;>simp
    ·have:(o.kind==6)=false:=by simpa using h6
     rw[this]
     cases h4:(o.def_||decide (0<o.cases.length))
     ·rw[if_neg (fun q=>by simp at q)]
      cases o.cases.all okC<;>simp
     ·rw[if_pos ⟨h6,rfl⟩]
      simp
end De
namespace De
open Ba Re
theorem heap_lt{w:World}{b:Nat}{o:Obj}(h:w.heap[b]? =some o):b<w.heap.size:=by
 rcases Nat.lt_or_ge b w.heap.size with q|q
 ·exact q
 ·rw[Array.getElem?_eq_none q] at h;cases h
end De
namespace De
open Ba Re
end De
namespace De
open Ba Re
structure KB(R:Nat)(w w':World):Prop where
 os:w'.os=w.os
 tape:w'.tape=w.tape
 output:w'.output=w.output
 size:w.heap.size≤w'.heap.size
 block:∀k,k<w.heap.size→k≠R→w'.heap[k]? =w.heap[k]?
theorem KB.refl(R:Nat)(w:World):KB R w w:=⟨rfl,rfl,rfl,Nat.le_refl _,fun _ _ _=>rfl⟩
theorem KB.trans{R:Nat}{a b c:World}(h:KB R a b)(k:KB R b c):KB R a c:=
 ⟨k.os.trans h.os,k.tape.trans h.tape,k.output.trans h.output,Nat.le_trans h.size k.size,fun x hx hr=>(k.block x (Nat.lt_of_lt_of_le hx h.size) hr).trans (h.block x hx hr)⟩
theorem KB.of{R:Nat}{a b:World}(h:Below a.heap.size a b):KB R a b:=⟨h.os,h.tape,h.output,h.size,fun x hx _=>h.block x hx⟩
theorem KB.setCell{R:Nat}{a b:World}(h:KB R a b)(i:Nat)(v:Value):KB R a (b.setCell ⟨R,i,none⟩ v):=
 ⟨h.os,h.tape,h.output,by show _≤(b.setCell _ _).heap.size;simp[World.setCell];exact h.size,fun x hx hr=>(Below.heap_setCell _ _ _ _ hr).trans (h.block x hx hr)⟩
theorem KB.below{R:Nat}{w a b:World}(h:Below w.heap.size w a)(k:KB R a b)(hR:w.heap.size≤R):Below w.heap.size w b:=
 ⟨k.os.trans h.os,k.tape.trans h.tape,k.output.trans h.output,Nat.le_trans h.size k.size,fun x hx=>(k.block x (Nat.lt_of_lt_of_le hx h.size) (by omega)).trans (h.block x hx)⟩
theorem KB.heap{R b:Nat}{w w':World}{o:Obj}(k:KB R w w')(h:w.heap[b]? =some o)(hb:b≠R):w'.heap[b]? =some o:=
 (k.block b (heap_lt h) hb).trans h
end De
namespace De
open Ba Re
theorem results_row1{fn:Func}{p:Tmp}{ty:TypeId}(h:fn.results=#[.cell p ty])(tmps:Array Value)(w:World)(g:Nat)(cs:Array Value)
 (hp:tmps.getD p undef=.pointer (some ⟨g,0,none⟩)) (hl:(loadVar ty ⟨g,0,none⟩).run Tryz.prog w=.ok (.agg cs) w):
 (results fn tmps).run Tryz.prog w=.ok (.agg cs) w:=by
 have hp':tmps[p]?.getD undef=.pointer (some ⟨g,0,none⟩):=by simpa using hp
 simp[results,h,hp',asAddr,hl]
theorem five_set{w:World}{b:Nat}{x0 x1 x2 x3 x4:Value}{t:TypeId}(h:w.heap[b]? =some (.cells #[x0,x1,x2,x3,x4] t (0,0)))(u0 u1 u2 u3 u4:Value):(((((w.setCell ⟨b,0,none⟩ u0).setCell ⟨b,1,none⟩ u1).setCell ⟨b,2,none⟩ u2).setCell ⟨b,3,none⟩ u3).setCell ⟨b,4,none⟩ u4).heap[b]? =some (.cells #[u0,u1,u2,u3,u4] t (0,0)):=by
 rw[Ba.heap_setCell_same (Ba.heap_setCell_same (Ba.heap_setCell_same (Ba.heap_setCell_same (Ba.heap_setCell_same h u0) u1) u2) u3) u4]
 rfl
theorem kb_cell{R b i:Nat}{w w':World}{v:Value}(k:KB R w w')(h:w.cell? ⟨b,i,none⟩=some v)(hb:b≠R):w'.cell? ⟨b,i,none⟩=some v:=by
 have:=World.block_lt_of_cell? w _ h
 rw[World.cell?] at h ⊢
 rw[k.block b this hb]
 exact h
def cc(x:Cs):List Value:=[.bool x.send,.int .i64 x.ch,.int .i64 x.val]
theorem info_case:(Tryz.prog.info? 108).map (fun i=>(i.zero,i.size,i.bytes))=some (some (.agg #[.bool false,.int .i64 0,.int .i64 0]),3,24):=by kernel_rfl
end De
namespace De
open Ba Re
end De
namespace De
open Ba Re
end De
namespace De
open Ba Re
end De
namespace De
open Ba Re
theorem cells_case:Tryz.prog.cellsOf 108=3:=by kernel_rfl
theorem cells_op:Tryz.prog.cellsOf 46=5:=by kernel_rfl
theorem cells_int:Tryz.prog.cellsOf 3=1:=by kernel_rfl
theorem cells_bool:Tryz.prog.cellsOf 4=1:=by kernel_rfl
theorem cells_cases:Tryz.prog.cellsOf 44=1:=by kernel_rfl
theorem fields3:∃fs:Array Field,Tryz.prog.underlying 108=some (.struct fs)∧fs.size=3∧(∃f,fs[0]? =some f∧f.offset=0∧f.type=4)∧(∃f,fs[1]? =some f∧f.offset=1∧f.type=3)∧(∃f,fs[2]? =some f∧f.offset=2∧f.type=3):=
 ⟨_,Tryz.underlying108,rfl,⟨_,rfl,rfl,rfl⟩,⟨_,rfl,rfl,rfl⟩,⟨_,rfl,rfl,rfl⟩⟩
theorem fields5:∃fs:Array Field,Tryz.prog.underlying 46=some (.struct fs)∧fs.size=5∧(∃f,fs[0]? =some f∧f.offset=0∧f.type=3)∧(∃f,fs[1]? =some f∧f.offset=1∧f.type=3)∧(∃f,fs[2]? =some f∧f.offset=2∧f.type=3)∧(∃f,fs[3]? =some f∧f.offset=3∧f.type=44)∧(∃f,fs[4]? =some f∧f.offset=4∧f.type=4):=
 ⟨_,Tryz.underlying46,rfl,⟨_,rfl,rfl,rfl⟩,⟨_,rfl,rfl,rfl⟩,⟨_,rfl,rfl,rfl⟩,⟨_,rfl,rfl,rfl⟩,⟨_,rfl,rfl,rfl⟩⟩
theorem one_of{cs:List Value}{j:Nat}{v:Value}(h:(cs.drop j).take 1=[v]):cs[j]? =some v:=by
 have:((cs.drop j).take 1)[0]? =some v:=by rw[h];rfl
 simpa using this
section
variable {H:Type}{enc:TypeId × Value→H}{w:World}
theorem case_open{n:Nat}{cs:List Value}{x:DataW H × List MemPlace}(h:DataW.trod enc Tryz.prog w 0 (fun _=>true) true n 108 cs=some x):∃c:Cs,cs[0]? =some (.bool c.send)∧cs[1]? =some (.int .i64 c.ch)∧cs[2]? =some (.int .i64 c.val):=by
 obtain⟨fs,hu,hsz,field3_0,field3_1,field3_2⟩:=fields3
 obtain⟨xs,k,_,_,_,hxl,hff⟩:=DataW.trod_struct hu h
 rw[hsz] at hxl
 obtain⟨f0,g0,o0,t0⟩:=field3_0
 have h0:=hff 0 f0 g0
 rw[o0,t0,cells_bool] at h0
 obtain⟨f1,g1,o1,t1⟩:=field3_1
 have h1:=hff 1 f1 g1
 rw[o1,t1,cells_int] at h1
 obtain⟨f2,g2,o2,t2⟩:=field3_2
 have h2:=hff 2 f2 g2
 rw[o2,t2,cells_int] at h2
 rw[List.getElem?_eq_getElem (by omega)] at h0 h1 h2
 obtain⟨b,hb,_⟩:=DataW.trod_bool Tryz.underlying4 h0
 obtain⟨c,hc,_⟩:=DataW.trod_int Tryz.underlying3 h1
 obtain⟨v,hv,_⟩:=DataW.trod_int Tryz.underlying3 h2
 exact⟨⟨b,c,v⟩,one_of hb,one_of hc,one_of hv⟩
theorem cases_open{n:Nat}{v:Value}{x:DataW H × List MemPlace}(h:DataW.trod enc Tryz.prog w 0 (fun _=>true) true n 44 [v]=some x):∃(l:List Cs) (oa:Option Addr) (c:Nat),v=.slice oa l.length c∧CAt w oa l∧l.length≤maxLen:=by
 rcases Go.Deep.open_slice Tryz.underlying44 h with⟨hcs,_⟩|⟨a,len,cap,m,n',D,Pl,hcs,_,hl,hm,hmm,_,hel⟩
 ·simp at hcs
  subst hcs
  exact⟨[],none,0,rfl,CAt.nil _ _,Nat.zero_le _⟩
 ·simp at hcs
  subst hcs
  have hmc:m=cap:=by simpa using hmm
  subst hmc
  have key:∀i,i<len→∃c:Cs,w.cell? ((a.add (i*3)).add 0)=some (.bool c.send)∧w.cell? ((a.add (i*3)).add 1)=some (.int .i64 c.ch)∧w.cell? ((a.add (i*3)).add 2)=some (.int .i64 c.val):=by
   intro i hi
   obtain⟨cs',h1,h2⟩:=hel i (by omega)
   rw[cells_case] at h1
   obtain⟨_,_,hcell⟩:=World.cells?_some h1
   obtain⟨c,q0,q1,q2⟩:=case_open h2
   exact⟨c,(hcell 0 (by decide)).trans q0,(hcell 1 (by decide)).trans q1,(hcell 2 (by decide)).trans q2⟩
  have fam:∃f:Nat→Cs,∀i,i<len→w.cell? ((a.add (i*3)).add 0)=some (.bool (f i).send)∧w.cell? ((a.add (i*3)).add 1)=some (.int .i64 (f i).ch)∧w.cell? ((a.add (i*3)).add 2)=some (.int .i64 (f i).val):=by
   refine⟨fun i=>if hi:i<len then Classical.choose (key i hi) else⟨false,0,0⟩,fun i hi=>?_⟩
   simp only[dif_pos hi]
   exact Classical.choose_spec (key i hi)
  obtain⟨f,hf⟩:=fam
  have hlen:((List.range len).map f).length=len:=by simp
  refine⟨(List.range len).map f,some a,m,by rw[hlen],?_,by rw[hlen];omega⟩
  intro k c hk
  have hk2:k<len:=by
   have:=(List.getElem?_eq_some_iff.1 hk).1
   simpa using this
  have hc:c=f k:=by
   simp[hk2] at hk
   exact hk.symm
  subst hc
  have hspot:a.spot=none:=by
   have:=World.cell?_spot (hf 0 (by omega)).1
   simpa [Addr.add] using this
  obtain⟨b,off,spot⟩:=a
  simp at hspot
  subst hspot
  obtain⟨q0,q1,q2⟩:=hf k hk2
  rw[Addr.add_lit,Addr.add_lit] at q0 q1 q2
  exact⟨b,off,rfl,q0,q1,q2⟩
end
end De
namespace De
open Ba Re
end De
namespace De
open Ba Re
end De
namespace Re
open Ba
end Re
namespace Re
open Ba
end Re
namespace Re
open Ba
end Re
namespace Re
open Ba
theorem heap_lt{w:World}{b:Nat}{o:Obj}(h:w.heap[b]? =some o):b<w.heap.size:=by
 rcases Nat.lt_or_ge b w.heap.size with q|q
 ·exact q
 ·rw[Array.getElem?_eq_none q] at h;cases h
end Re
namespace Re
open Ba
end Re
namespace Sh
open De Ba Re
def OAt(w:World)(oa:Option Addr)(l:List OpD):Prop:=
 ∀k o,l[k]? =some o→∃b off ca cc,oa=some ⟨b,off,none⟩∧(w.cell? ⟨b,off+k*5,none⟩=some (.int .i64 o.kind)∧w.cell? ⟨b,off+k*5+1,none⟩=some (.int .i64 o.a)∧w.cell? ⟨b,off+k*5+2,none⟩=some (.int .i64 o.b)∧w.cell? ⟨b,off+k*5+3,none⟩=some (.slice ca o.cases.length cc)∧w.cell? ⟨b,off+k*5+4,none⟩=some (.bool o.def_))∧CAt w ca o.cases∧o.cases.length≤maxLen
theorem cellB{w w':World}{a:Addr}{v:Value}(h:w.cell? a=some v)(hb:Below w.heap.size w w'):w'.cell? a=some v:=(hb.cell (World.block_lt_of_cell? w _ h)).trans h
theorem OAt.below{w w':World}{oa:Option Addr}{l:List OpD}(h:OAt w oa l)(hb:Below w.heap.size w w'):OAt w' oa l:=by
 intro k o hk
 obtain⟨b,off,ca,cc,he,⟨h0,h1,h2,h3,h4⟩,hc,hm⟩:=h k o hk
 exact⟨b,off,ca,cc,he,⟨cellB h0 hb,cellB h1 hb,cellB h2 hb,cellB h3 hb,cellB h4 hb⟩,hc.below hb,hm⟩
theorem OAt.nil(w:World)(oa:Option Addr):OAt w oa []:=fun _ _ hk=>by simp at hk
def PAt(w:World)(oa:Option Addr)(l:List (List OpD)):Prop:=
 ∀k p,l[k]? =some p→∃b off pa pc,oa=some ⟨b,off,none⟩∧w.cell? ⟨b,off+k,none⟩=some (.slice pa p.length pc)∧OAt w pa p∧p.length≤maxLen
theorem PAt.below{w w':World}{oa:Option Addr}{l:List (List OpD)}(h:PAt w oa l)(hb:Below w.heap.size w w'):PAt w' oa l:=by
 intro k p hk
 obtain⟨b,off,pa,pc,he,h0,h1,h2⟩:=h k p hk
 exact⟨b,off,pa,pc,he,cellB h0 hb,h1.below hb,h2⟩
theorem PAt.nil(w:World)(oa:Option Addr):PAt w oa []:=fun _ _ hk=>by simp at hk
theorem between_any(n lo hi:Int)(w:World):
 Calls Tryz.prog 52 #[.int .i64 n,.int .i64 lo,.int .i64 hi] w fun r w'=>r=.returned (.bool (decide (lo≤n)&&decide (n≤hi)))∧w'=w:=by
 cases h:decide (lo≤n)
 ·go_enter Tryz.func52,Tryz.ntmps52
  go_wp2_with fail
  go_ret
  exact⟨rfl,rfl⟩
 ·go_enter Tryz.func52,Tryz.ntmps52
  go_wp2_with fail
  go_ret
  exact⟨rfl,rfl⟩
def ab(lo hi:Int)(l:List Int):Bool:=l.all fun x=>decide (lo≤x)&&decide (x≤hi)
theorem ab_iff(lo hi:Int)(l:List Int):ab lo hi l=true↔∀x∈l,lo≤x∧x≤hi:=by
 simp[ab]
theorem ab_nth{lo hi:Int}{l:List Int}:ab lo hi l=true↔∀k,k<l.length→lo≤nth l k∧nth l k≤hi:=by
 rw[ab_iff]
 constructor
 ·intro h k hk
  rw[nth_lt l k hk]
  exact h _ (List.getElem_mem hk)
 ·intro h x hx
  obtain⟨k,hk,rfl⟩:=List.mem_iff_getElem.1 hx
  rw[←nth_lt l k hk]
  exact h k hk
theorem all_any(oa:Option Addr)(l:List Int)(c:Nat)(lo hi:Int)(w:World)(hA:At w oa l)(hl:l.length≤maxLen):
 Calls Tryz.prog 55 #[.slice oa l.length c,.int .i64 lo,.int .i64 hi] w fun r w'=>r=.returned (.bool (ab lo hi l))∧w'=w:=by
 have HA:=hide hA
 clear hA
 unfold maxLen at hl
 go_enter Tryz.func55,Tryz.ntmps55
 go_wp2_with fail
 go_loop [11] (fun i=>∃k:Nat,k≤l.length∧i=.int .i64 k∧∀j,j<k→lo≤nth l j∧nth l j≤hi) (fun i=>l.length - (intOf i).toNat)
 case atStart=>exact⟨0,Nat.zero_le _,rfl,fun j hj=>absurd hj (Nat.not_lt_zero _)⟩
 case round=>
  obtain⟨k,hk,rfl,hall⟩:=hrel
  have HE:=hide hall
  clear hall
  by_cases hlt:k<l.length
  ·obtain⟨b1,o1,rfl,hc1⟩:=HA.out k hlt
   have hlt':(k:Int)<(l.length:Int):=by omega
   cases h1:(decide (lo≤nth l k)&&decide (nth l k≤hi))
   ·have HX:Hid (ab lo hi l=false):=by
     show _=_
     simp at h1
     rw[←Bool.not_eq_true]
     intro e
     have:=ab_nth.1 e k hlt
     omega
    go_wp2_with fail
    refine (between_any _ _ _ _).mono ?_
    rw[h1]
    rintro r w1 ⟨rfl,rfl⟩
    go_wp2_with fail
    go_ret
    exact⟨ret_bool HX.out.symm,rfl⟩
   ·have HX:Hid (lo≤nth l k∧nth l k≤hi):=by show _∧_;simpa using h1
    go_wp2_with fail
    refine (between_any _ _ _ _).mono ?_
    rw[h1]
    rintro r w1 ⟨rfl,rfl⟩
    go_wp2_with fail
    go_round
    case rel=>exact⟨k+1,by omega,by go_num,fun j hj=>by
     by_cases e:j=k
     ·subst e;exact HX.out
     ·exact HE.out j (by omega)⟩
    case measure=>simp[intOf];omega
  ·have HX:Hid (ab lo hi l=true):=ab_nth.2 fun j hj=>HE.out j (by omega)
   go_wp2_with fail
   go_ret
   exact⟨ret_bool HX.out.symm,rfl⟩
theorem sc_cells{w:World}{B:Nat}{v0 v1 v2 v3 v4:Value}{t:TypeId}(h:w.heap[B]? =some (.cells #[v0,v1,v2,v3,v4] t (0,0))):w.cell? ⟨B,0,none⟩=some v0∧w.cell? ⟨B,1,none⟩=some v1∧w.cell? ⟨B,2,none⟩=some v2∧w.cell? ⟨B,3,none⟩=some v3∧w.cell? ⟨B,4,none⟩=some v4:=
 ⟨cell_of h 0,cell_of h 1,cell_of h 2,cell_of h 3,cell_of h 4⟩
def isl(ps:List (List OpD))(p d:Nat):Bool:=ps.any (fun p=>decide (32<p.length))||(decide (8<ps.length)||decide (200<p)||decide (64<d))
theorem isl_long{ps:List (List OpD)}{p d k:Nat}{q:List OpD}(hk:ps[k]? =some q)(h:32<q.length):isl ps p d=true:=by
 have:ps.any (fun p=>decide (32<p.length))=true:=by
  rw[List.any_eq_true]
  exact⟨q,List.mem_of_getElem? hk,by simpa using h⟩
 simp[isl,this]
theorem isl_short{ps:List (List OpD)}{p d:Nat}(h:∀(k:Nat) (q:List OpD),ps[k]? =some q→q.length≤32):isl ps p d=(decide (8<ps.length)||decide (200<p)||decide (64<d)):=by
 have:ps.any (fun p=>decide (32<p.length))=false:=by
  rw[List.any_eq_false]
  intro q hq
  obtain⟨k,hk⟩:=List.mem_iff_getElem?.1 hq
  have:=h k q hk
  simp
  omega
 simp[isl,this]
theorem isLong_any(T M:Int)(ps:List (List OpD))(pl dr:List Int)(pa la da:Option Addr)(pc lc dc:Nat)(w:World)(hP:PAt w pa ps)(h1:ps.length≤maxLen)(h2:pl.length≤maxLen)(h3:dr.length≤maxLen):
 Calls Tryz.prog 53 #[.agg #[.int .i64 T,.int .i64 M,.slice pa ps.length pc,.slice la pl.length lc,.slice da dr.length dc]] w fun r w'=>r=.returned (.bool (isl ps pl.length dr.length))∧Below w.heap.size w w':=by
 have HP:=hide (hP.below (below_alloc w (.cells #[.int .i64 T,.int .i64 M,.slice pa ps.length pc,.slice la pl.length lc,.slice da dr.length dc] 25)))
 have BW:=hide (below_alloc w (.cells #[.int .i64 T,.int .i64 M,.slice pa ps.length pc,.slice la pl.length lc,.slice da dr.length dc] 25))
 have HB:=hide (heap_new w (.cells #[.int .i64 T,.int .i64 M,.slice pa ps.length pc,.slice la pl.length lc,.slice da dr.length dc] 25))
 unfold maxLen at h1 h2 h3
 clear hP
 go_enter Tryz.func53,Tryz.ntmps53
 go_wp2_with fail
 generalize w.alloc (.cells #[.int .i64 T,.int .i64 M,.slice pa ps.length pc,.slice la pl.length lc,.slice da dr.length dc] 25)=W at HP HB BW ⊢
 obtain⟨x0,x1,x2,x3,x4⟩:=sc_cells HB.out
 go_loop [8] (fun i=>∃k:Nat,k≤ps.length∧i=.int .i64 k∧∀(j:Nat) (q:List OpD),j<k→ps[j]? =some q→q.length≤32) (fun i=>ps.length - (intOf i).toNat)
 case atStart=>exact⟨0,Nat.zero_le _,rfl,fun j q hj=>absurd hj (Nat.not_lt_zero _)⟩
 case round=>
  obtain⟨k,hk,rfl,hall⟩:=hrel
  have HE:=hide hall
  clear hall
  by_cases hlt:k<ps.length
  ·have hlt':(k:Int)<(ps.length:Int):=by omega
   obtain⟨q,hq⟩:∃q,ps[k]? =some q:=⟨ps[k],by simp[hlt]⟩
   obtain⟨b,off,qa,qc,rfl,hc,_,hm⟩:=HP.out k q hq
   have HQ:=hide hq
   unfold maxLen at hm
   clear hq
   by_cases hl:32<q.length
   ·have hl':decide (32<(q.length:Int))=true:=by simp;omega
    go_wp2_with fail
    go_ret
    exact⟨ret_bool (isl_long HQ.out hl).symm,BW.out⟩
   ·have hl':decide (32<(q.length:Int))=false:=by simp;omega
    go_wp2_with fail
    go_round
    case rel=>exact⟨k+1,by omega,by go_num,fun j r hj hr=>by
     by_cases e:j=k
     ·subst e;rw[HQ.out] at hr;cases hr;omega
     ·exact HE.out j r (by omega) hr⟩
    case measure=>simp[intOf];omega
  ·have hlt':¬((k:Int)<(ps.length:Int)):=by omega
   have HI:Hid (isl ps pl.length dr.length=(decide (8<ps.length)||decide (200<pl.length)||decide (64<dr.length))):=isl_short fun j q hj=>HE.out j q (by have:=(List.getElem?_eq_some_iff.1 hj).1;omega) hj
   have d1:decide (8<(ps.length:Int))=decide (8<ps.length):=by rw[decide_eq_decide];omega
   have d2:decide (200<(pl.length:Int))=decide (200<pl.length):=by rw[decide_eq_decide];omega
   have d3:decide (64<(dr.length:Int))=decide (64<dr.length):=by rw[decide_eq_decide];omega
   clear HE
   cases e1:decide (8<ps.length)<;>cases e2:decide (200<pl.length)<;>cases e3:decide (64<dr.length)<;>rw[e1] at d1<;>rw[e2] at d2<;>rw[e3] at d3<;>rw[e1,e2,e3] at HI
   all_goals
    clear e1 e2 e3
    go_wp2_with fail
    go_ret
    exact⟨ret_bool (by rw[HI.out];rfl),BW.out⟩
def ari(n:Int)(ps:List (List OpD)):Bool:=ps.all fun p=>p.all fun o=>chk o n==0
theorem ari_no{n:Int}{ps:List (List OpD)}{k j:Nat}{q:List OpD}{o:OpD}(hk:ps[k]? =some q)(hj:q[j]? =some o)(h:(chk o n==0)=false):ari n ps=false:=by
 rw[←Bool.not_eq_true]
 intro e
 rw[ari,List.all_eq_true] at e
 have:=e q (List.mem_of_getElem? hk)
 rw[List.all_eq_true] at this
 have:=this o (List.mem_of_getElem? hj)
 rw[h] at this
 cases this
theorem ari_yes{n:Int}{ps:List (List OpD)}(h:∀(k:Nat) (q:List OpD),ps[k]? =some q→∀(j:Nat) (o:OpD),q[j]? =some o→chk o n=0):ari n ps=true:=by
 rw[ari,List.all_eq_true]
 intro q hq
 rw[List.all_eq_true]
 intro o ho
 obtain⟨k,hk⟩:=List.mem_iff_getElem?.1 hq
 obtain⟨j,hj⟩:=List.mem_iff_getElem?.1 ho
 simp[h k q hk j o hj]
theorem ari_of{n:Int}{ps:List (List OpD)}(h:ari n ps=true){k j:Nat}{q:List OpD}{o:OpD}(hk:ps[k]? =some q)(hj:q[j]? =some o):chk o n=0:=by
 cases e:chk o n==0
 ·rw[ari_no hk hj e] at h;cases h
 ·simpa using e
set_option maxRecDepth 100000 in
theorem areRight_any(ps:List (List OpD))(pa:Option Addr)(pc:Nat)(w:World)(hP:PAt w pa ps)(h1:ps.length≤maxLen):
 Calls Tryz.prog 54 #[.slice pa ps.length pc] w fun r w'=>r=.returned (.bool (ari ps.length ps))∧Below w.heap.size w w':=by
 have HP:=hide hP
 unfold maxLen at h1
 clear hP
 go_enter Tryz.func54,Tryz.ntmps54
 go_wp2_with fail
 go_loopw [9] (fun i wr=>∃k:Nat,k≤ps.length∧i=.int .i64 k∧(∀(j:Nat) (q:List OpD),j<k→ps[j]? =some q→∀(i:Nat) (o:OpD),q[i]? =some o→chk o ps.length=0)∧Below w.heap.size w wr) (fun i _=>ps.length - (intOf i).toNat)
 case atStart=>exact⟨0,Nat.zero_le _,rfl,fun j q hj=>absurd hj (Nat.not_lt_zero _),Below.refl _ _⟩
 case round=>
  rename World=>w0
  obtain⟨k,hk,rfl,hall,bw⟩:=hrel
  have HE:=hide hall
  have BW:=hide bw
  clear hall bw
  by_cases hlt:k<ps.length
  ·have hlt':(k:Int)<(ps.length:Int):=by omega
   obtain⟨q,hq⟩:∃q,ps[k]? =some q:=⟨ps[k],by simp[hlt]⟩
   obtain⟨b,off,qa,qc,rfl,hc,hO,hm⟩:=(HP.out.below BW.out) k q hq
   have HQ:=hide hq
   have HO:=hide hO
   unfold maxLen at hm
   clear hq hO
   go_wp2_with fail
   go_loopw [15] (fun i wr=>∃j:Nat,j≤q.length∧i=.int .i64 j∧(∀(t:Nat) (o:OpD),t<j→q[t]? =some o→chk o ps.length=0)∧Below w0.heap.size w0 wr) (fun i _=>q.length - (intOf i).toNat)
   case atStart=>exact⟨0,Nat.zero_le _,rfl,fun j q hj=>absurd hj (Nat.not_lt_zero _),Below.refl _ _⟩
   case round=>
    obtain⟨j,hj,rfl,hall,bw2⟩:=hrel
    have HF:=hide hall
    have B2:=hide bw2
    clear hall bw2
    by_cases hjl:j<q.length
    ·have hjl':(j:Int)<(q.length:Int):=by omega
     obtain⟨o,ho⟩:∃o,q[j]? =some o:=⟨q[j],by simp[hjl]⟩
     obtain⟨b',off',ca,cc,rfl,⟨y0,y1,y2,y3,y4⟩,hC,hM⟩:=(HO.out.below B2.out) j o ho
     have HX:=hide ho
     have HC:=hide hC
     have HM:=hide hM
     clear ho hC hM
     have B3:=hide (btr B2.out (below_alloc wr (.cells #[.int .i64 o.kind,.int .i64 o.a,.int .i64 o.b,.slice ca o.cases.length cc,.bool o.def_] 46)))
     have C3:=hide (HC.out.below (below_alloc wr (.cells #[.int .i64 o.kind,.int .i64 o.a,.int .i64 o.b,.slice ca o.cases.length cc,.bool o.def_] 46)))
     cases hz:chk o ps.length==0
     ·have hz':(chk o ps.length !=0)=true:=by simp[bne,hz]
      have HZ:=hide hz
      clear hz
      go_wp2_with fail
      refine (check_any o ca cc _ _ C3.out HM.out).mono ?_
      rintro r w4 ⟨rfl,b4⟩
      have B4:=hide (btr B3.out b4)
      clear b4
      go_wp2_with fail
      go_ret
      exact⟨ret_bool (ari_no HQ.out HX.out HZ.out).symm,btr BW.out B4.out⟩
     ·have hz':(chk o ps.length !=0)=false:=by simp[bne,hz]
      have HZ:Hid (chk o ps.length=0):=by show _=_;simpa using hz
      clear hz
      go_wp2_with fail
      refine (check_any o ca cc _ _ C3.out HM.out).mono ?_
      rintro r w4 ⟨rfl,b4⟩
      have B4:=hide (btr B3.out b4)
      clear b4
      go_wp2_with fail
      go_roundw
      case rel=>exact⟨j+1,by omega,by go_num,fun t x ht hx=>by
       by_cases e:t=j
       ·subst e;rw[HX.out] at hx;cases hx;exact HZ.out
       ·exact HF.out t x (by omega) hx,B4.out⟩
      case measure=>simp[intOf];omega
    ·have hjl':¬((j:Int)<(q.length:Int)):=by omega
     go_wp2_with fail
     go_roundw
     case rel=>
      exact⟨k+1,by omega,by go_num,fun t r ht hr i o ho=>by
       by_cases e:t=k
       ·subst e;rw[HQ.out] at hr;cases hr
        exact HF.out i o (by have:=(List.getElem?_eq_some_iff.1 ho).1;omega) ho
       ·exact HE.out t r (by omega) hr i o ho,btr BW.out B2.out⟩
     case measure=>simp[intOf];omega
  ·have hlt':¬((k:Int)<(ps.length:Int)):=by omega
   go_wp2_with fail
   go_ret
   exact⟨ret_bool (ari_yes fun t q hq j o ho=>HE.out t q (by have:=(List.getElem?_eq_some_iff.1 hq).1;omega) hq j o ho).symm,BW.out⟩
end Sh
namespace Sh
open De Ba Re
structure Sc where
 T:Int
 M:Int
 ps:List (List OpD)
 pl:List Int
 dr:List Int
def schk(s:Sc):Int:=
 bif !((decide (1≤s.T)&&decide (s.T≤256))&&(decide (1≤s.M)&&decide (s.M≤1048576))) then 1
 else bif isl s.ps s.pl.length s.dr.length then 2
 else bif !(!decide (s.ps.length=0)&&ari s.ps.length s.ps) then 4
 else bif !(ab (-1) 1000 s.pl&&ab 0 1000 s.dr) then 4 else 0
structure SAt(w:World)(s:Sc)(pa la da:Option Addr):Prop where
 ps:PAt w pa s.ps
 pl:At w la s.pl
 dr:At w da s.dr
 h1:s.ps.length≤maxLen
 h2:s.pl.length≤maxLen
 h3:s.dr.length≤maxLen
theorem SAt.below{w w':World}{s:Sc}{pa la da:Option Addr}(h:SAt w s pa la da)(hb:Below w.heap.size w w'):SAt w' s pa la da:=
 ⟨h.ps.below hb,h.pl.below hb,h.dr.below hb,h.h1,h.h2,h.h3⟩
set_option maxRecDepth 100000 in
theorem scheck_any(T M:Int)(ps:List (List OpD))(pl dr:List Int)(pa la da:Option Addr)(pc lc dc:Nat)(w:World)(hS:SAt w ⟨T,M,ps,pl,dr⟩ pa la da):
 Calls Tryz.prog 25 #[.agg #[.int .i64 T,.int .i64 M,.slice pa ps.length pc,.slice la pl.length lc,.slice da dr.length dc]] w fun r w'=>r=.returned (.int .i64 (schk ⟨T,M,ps,pl,dr⟩))∧Below w.heap.size w w':=by
 have S0:=hide (hS.below (below_alloc w (.cells #[.int .i64 T,.int .i64 M,.slice pa ps.length pc,.slice la pl.length lc,.slice da dr.length dc] 25)))
 have B0:=hide (below_alloc w (.cells #[.int .i64 T,.int .i64 M,.slice pa ps.length pc,.slice la pl.length lc,.slice da dr.length dc] 25))
 have H0:=hide (heap_new w (.cells #[.int .i64 T,.int .i64 M,.slice pa ps.length pc,.slice la pl.length lc,.slice da dr.length dc] 25))
 have h1:=hS.h1
 unfold maxLen at h1
 simp only at h1
 clear hS
 unfold schk
 simp only
 cases e1:decide (1≤T)&&decide (T≤256)
 ·simp only[Bool.false_and,Bool.not_false,cond_true]
  go_enter Tryz.func25,Tryz.ntmps25
  go_wp2_with fail
  refine (between_any _ _ _ _).mono ?_
  rw[e1]
  rintro r w1 ⟨rfl,rfl⟩
  go_wp2_with fail
  go_ret
  exact⟨rfl,B0.out⟩
 cases e2:decide (1≤M)&&decide (M≤1048576)
 ·simp only[Bool.and_false,Bool.not_false,cond_true]
  go_enter Tryz.func25,Tryz.ntmps25
  go_wp2_with fail
  refine (between_any _ _ _ _).mono ?_
  rw[e1]
  rintro r w1 ⟨rfl,rfl⟩
  go_wp2_with fail
  refine (between_any _ _ _ _).mono ?_
  rw[e2]
  rintro r w1 ⟨rfl,rfl⟩
  go_wp2_with fail
  go_ret
  exact⟨rfl,B0.out⟩
 simp only[Bool.and_self,Bool.not_true,cond_false]
 cases e3:isl ps pl.length dr.length
 rotate_left
 ·simp only[cond_true]
  go_enter Tryz.func25,Tryz.ntmps25
  go_wp2_with fail
  refine (between_any _ _ _ _).mono ?_
  rw[e1]
  rintro r w1 ⟨rfl,rfl⟩
  go_wp2_with fail
  refine (between_any _ _ _ _).mono ?_
  rw[e2]
  rintro r w1 ⟨rfl,rfl⟩
  go_wp2_with fail
  refine (isLong_any T M ps pl dr pa la da pc lc dc _ S0.out.ps S0.out.h1 S0.out.h2 S0.out.h3).mono ?_
  rw[e3]
  rintro r w3 ⟨rfl,b3⟩
  have B3:=hide (btr B0.out b3)
  clear b3
  go_wp2_with fail
  go_ret
  exact⟨rfl,B3.out⟩
 simp only[cond_false]
 by_cases h0:ps.length=0
 ·have e4:((ps.length:Int)==0)=true:=by rw[h0];rfl
  have h0d:decide (ps.length=0)=true:=by simpa using h0
  simp only[h0d,Bool.not_true,Bool.false_and,Bool.not_false,cond_true]
  clear h0 h0d
  go_enter Tryz.func25,Tryz.ntmps25
  go_wp2_with fail
  refine (between_any _ _ _ _).mono ?_
  rw[e1]
  rintro r w1 ⟨rfl,rfl⟩
  go_wp2_with fail
  refine (between_any _ _ _ _).mono ?_
  rw[e2]
  rintro r w1 ⟨rfl,rfl⟩
  go_wp2_with fail
  refine (isLong_any T M ps pl dr pa la da pc lc dc _ S0.out.ps S0.out.h1 S0.out.h2 S0.out.h3).mono ?_
  rw[e3]
  rintro r w3 ⟨rfl,b3⟩
  have B3:=hide (btr B0.out b3)
  have H3:=hide (heap_below H0.out b3)
  obtain⟨x0,x1,x2,x3,x4⟩:=sc_cells H3.out
  clear b3
  go_wp2_with fail
  go_ret
  exact⟨rfl,B3.out⟩
 have e4:((ps.length:Int)==0)=false:=by rw[beq_eq_false_iff_ne];omega
 have h0d:decide (ps.length=0)=false:=by simpa using h0
 simp only[h0d,Bool.not_false,Bool.true_and]
 clear h0 h0d
 cases e5:ari ps.length ps
 ·simp only[Bool.not_false,cond_true]
  go_enter Tryz.func25,Tryz.ntmps25
  go_wp2_with fail
  refine (between_any _ _ _ _).mono ?_
  rw[e1]
  rintro r w1 ⟨rfl,rfl⟩
  go_wp2_with fail
  refine (between_any _ _ _ _).mono ?_
  rw[e2]
  rintro r w1 ⟨rfl,rfl⟩
  go_wp2_with fail
  refine (isLong_any T M ps pl dr pa la da pc lc dc _ S0.out.ps S0.out.h1 S0.out.h2 S0.out.h3).mono ?_
  rw[e3]
  rintro r w3 ⟨rfl,b3⟩
  have B3:=hide (btr B0.out b3)
  have H3:=hide (heap_below H0.out b3)
  have S3:=hide (S0.out.below b3)
  obtain⟨x0,x1,x2,x3,x4⟩:=sc_cells H3.out
  clear b3
  go_wp2_with fail
  refine (areRight_any ps pa pc _ S3.out.ps S3.out.h1).mono ?_
  rw[e5]
  rintro r w4 ⟨rfl,b4⟩
  have B4:=hide (btr B3.out b4)
  clear b4
  go_wp2_with fail
  go_ret
  exact⟨rfl,B4.out⟩
 simp only[Bool.not_true,cond_false]
 cases e6:ab (-1) 1000 pl
 ·simp only[Bool.false_and,Bool.not_false,cond_true]
  go_enter Tryz.func25,Tryz.ntmps25
  go_wp2_with fail
  refine (between_any _ _ _ _).mono ?_
  rw[e1]
  rintro r w1 ⟨rfl,rfl⟩
  go_wp2_with fail
  refine (between_any _ _ _ _).mono ?_
  rw[e2]
  rintro r w1 ⟨rfl,rfl⟩
  go_wp2_with fail
  refine (isLong_any T M ps pl dr pa la da pc lc dc _ S0.out.ps S0.out.h1 S0.out.h2 S0.out.h3).mono ?_
  rw[e3]
  rintro r w3 ⟨rfl,b3⟩
  have B3:=hide (btr B0.out b3)
  have H3:=hide (heap_below H0.out b3)
  have S3:=hide (S0.out.below b3)
  obtain⟨x0,x1,x2,x3,x4⟩:=sc_cells H3.out
  clear b3
  go_wp2_with fail
  refine (areRight_any ps pa pc _ S3.out.ps S3.out.h1).mono ?_
  rw[e5]
  rintro r w4 ⟨rfl,b4⟩
  have B4:=hide (btr B3.out b4)
  have H4:=hide (heap_below H3.out b4)
  have S4:=hide (S3.out.below b4)
  obtain⟨y0,y1,y2,y3,y4⟩:=sc_cells H4.out
  clear b4
  go_wp2_with fail
  refine (all_any la pl lc _ _ _ S4.out.pl S4.out.h2).mono ?_
  rw[e6]
  rintro r w5 ⟨rfl,rfl⟩
  go_wp2_with fail
  go_ret
  exact⟨rfl,B4.out⟩
 simp only[Bool.true_and]
 cases e7:ab 0 1000 dr
 all_goals
  first|simp only[Bool.not_false,cond_true]|simp only[Bool.not_true,cond_false]
  go_enter Tryz.func25,Tryz.ntmps25
  go_wp2_with fail
  refine (between_any _ _ _ _).mono ?_
  rw[e1]
  rintro r w1 ⟨rfl,rfl⟩
  go_wp2_with fail
  refine (between_any _ _ _ _).mono ?_
  rw[e2]
  rintro r w1 ⟨rfl,rfl⟩
  go_wp2_with fail
  refine (isLong_any T M ps pl dr pa la da pc lc dc _ S0.out.ps S0.out.h1 S0.out.h2 S0.out.h3).mono ?_
  rw[e3]
  rintro r w3 ⟨rfl,b3⟩
  have B3:=hide (btr B0.out b3)
  have H3:=hide (heap_below H0.out b3)
  have S3:=hide (S0.out.below b3)
  obtain⟨x0,x1,x2,x3,x4⟩:=sc_cells H3.out
  clear b3
  go_wp2_with fail
  refine (areRight_any ps pa pc _ S3.out.ps S3.out.h1).mono ?_
  rw[e5]
  rintro r w4 ⟨rfl,b4⟩
  have B4:=hide (btr B3.out b4)
  have H4:=hide (heap_below H3.out b4)
  have S4:=hide (S3.out.below b4)
  obtain⟨y0,y1,y2,y3,y4⟩:=sc_cells H4.out
  clear b4
  go_wp2_with fail
  refine (all_any la pl lc _ _ _ S4.out.pl S4.out.h2).mono ?_
  rw[e6]
  rintro r w5 ⟨rfl,rfl⟩
  go_wp2_with fail
  refine (all_any da dr dc _ _ _ S4.out.dr S4.out.h3).mono ?_
  rw[e7]
  rintro r w5 ⟨rfl,rfl⟩
  go_wp2_with fail
  go_ret
  exact⟨rfl,B4.out⟩
end Sh
namespace Pe
open Ba
structure Wt where
 g:Int
 c:Int
 v:Int
def pt(o:Option Nat):Value:=.pointer (o.map fun b=>⟨b,0,none⟩)
def Sc(w:World)(b:Nat)(x:Wt)(nx:Option Nat):Prop:=
 w.heap[b]? =some (.cells #[.int .i64 x.g,.int .i64 x.c,.int .i64 x.v,pt nx] 247 (0,0))
def Ch(w:World):Option Nat→List (Nat × Wt)→Option Nat→Prop
 |o,[],e=>o=e
 |o,n::t,e=>o=some n.1∧∃nx,Sc w n.1 n.2 nx∧Ch w nx t e
def Hd(w:World)(P:Nat)(f l:Option Nat)(n:Nat):Prop:=
 w.heap[P]? =some (.cells #[pt f,pt l,.int .i64 (n:Int)] 243 (0,0))
def lst(l:List (Nat × Wt)):Option Nat:=l.getLast?.map (·.1)
def Pn(w:World)(P:Nat)(l:List (Nat × Wt)):Prop:=
 ∃f,Hd w P f (lst l) l.length∧Ch w f l none∧(l.map (·.1)).Nodup∧(∀n∈l,P<n.1)∧l.length≤1024
def Pw(w:World)(P:Nat)(ws:List Wt):Prop:=∃l:List (Nat × Wt),l.map (·.2)=ws∧Pn w P l
theorem Sc.set{w:World}{b:Nat}{x:Wt}{nx:Option Nat}(h:Sc w b x nx)(e:Option Nat):Sc (w.setCell ⟨b,3,none⟩ (pt e)) b x e:=(Ba.heap_setCell_same h _).trans rfl
theorem Sc.other{w:World}{b q i:Nat}{x:Wt}{nx:Option Nat}(h:Sc w b x nx)(v:Value)(hq:b≠q):Sc (w.setCell ⟨q,i,none⟩ v) b x nx:=(Below.heap_setCell _ _ _ _ hq).trans h
theorem Hd.setF{w:World}{P:Nat}{f l:Option Nat}{n:Nat}(h:Hd w P f l n)(e:Option Nat):Hd (w.setCell ⟨P,0,none⟩ (pt e)) P e l n:=(Ba.heap_setCell_same h _).trans rfl
theorem Hd.setL{w:World}{P:Nat}{f l:Option Nat}{n:Nat}(h:Hd w P f l n)(e:Option Nat):Hd (w.setCell ⟨P,1,none⟩ (pt e)) P f e n:=(Ba.heap_setCell_same h _).trans rfl
theorem Hd.setN{w:World}{P:Nat}{f l:Option Nat}{n:Nat}(h:Hd w P f l n)(m:Nat)(x:Int)(hx:x=(m:Int)):Hd (w.setCell ⟨P,2,none⟩ (.int .i64 x)) P f l m:=by
 subst hx
 exact (Ba.heap_setCell_same h _).trans rfl
theorem Hd.other{w:World}{P q i:Nat}{f l:Option Nat}{n:Nat}(h:Hd w P f l n)(v:Value)(hq:P≠q):Hd (w.setCell ⟨q,i,none⟩ v) P f l n:=(Below.heap_setCell _ _ _ _ hq).trans h
theorem Ch.mono{w w':World}:∀{l:List (Nat × Wt)} {o e:Option Nat},Ch w o l e→(∀n∈l,∀c t fr,w.heap[n.1]? =some (.cells c t fr)→t=247→w'.heap[n.1]? =some (.cells c t fr))→Ch w' o l e
 |[],_,_,h,_=>h
 |n::_,_,_,⟨h1,nx,h2,h3⟩,hf=>⟨h1,nx,hf n (List.mem_cons_self ..) _ _ _ h2 rfl,Ch.mono h3 fun m hm=>hf m (List.mem_cons_of_mem _ hm)⟩
theorem Ch.set{w:World}{l:List (Nat × Wt)}{o e:Option Nat}{q i:Nat}(h:Ch w o l e)(v:Value)(hq:∀n∈l,n.1≠q):Ch (w.setCell ⟨q,i,none⟩ v) o l e:=
 h.mono fun n hn _ _ _ hc _=>(Below.heap_setCell _ _ _ _ (hq n hn)).trans hc
theorem Ch.below{w w':World}{l:List (Nat × Wt)}{o e:Option Nat}(h:Ch w o l e)(hb:Below w.heap.size w w'):Ch w' o l e:=
 h.mono fun _ _ _ _ _ hc _=>heap_below hc hb
theorem Ch.app{w:World}:∀{l m:List (Nat × Wt)} {o e:Option Nat},Ch w o (l++m) e↔∃mid,Ch w o l mid∧Ch w mid m e
 |[],m,o,e=>⟨fun h=>⟨o,rfl,h⟩,fun ⟨mid,h1,h2⟩=>by cases h1;exact h2⟩
 |n::t,m,o,e=>by
  constructor
  ·rintro⟨h1,nx,h2,h3⟩
   obtain⟨mid,h4,h5⟩:=Ch.app.1 h3
   exact⟨mid,⟨h1,nx,h2,h4⟩,h5⟩
  ·rintro⟨mid,⟨h1,nx,h2,h4⟩,h5⟩
   exact⟨h1,nx,h2,Ch.app.2 ⟨mid,h4,h5⟩⟩
theorem Ch.relast{w:World}{l:List (Nat × Wt)}{n:Nat × Wt}{o e:Option Nat}(h:Ch w o (l++[n]) e)(hn:∀m∈l,m.1≠n.1)(e':Option Nat):Ch (w.setCell ⟨n.1,3,none⟩ (pt e')) o (l++[n]) e':=by
 obtain⟨mid,h1,h2,nx,h3,h4⟩:=Ch.app.1 h
 exact Ch.app.2 ⟨mid,h1.set _ hn,h2,e',h3.set e',rfl⟩
theorem Ch.sc{w:World}{l:List (Nat × Wt)}{n:Nat × Wt}{o e:Option Nat}(h:Ch w o (l++[n]) e):Sc w n.1 n.2 e:=by
 obtain⟨mid,h1,h2,nx,h3,h4⟩:=Ch.app.1 h
 cases h4
 exact h3
theorem lst_app(l:List (Nat × Wt))(n:Nat × Wt):lst (l++[n])=some n.1:=by simp[lst]
theorem Pn.below{w w':World}{P:Nat}{l:List (Nat × Wt)}(h:Pn w P l)(hb:Below w.heap.size w w'):Pn w' P l:=by
 obtain⟨f,h1,h2,h3⟩:=h
 exact⟨f,heap_below h1 hb,h2.below hb,h3⟩
theorem Pw.below{w w':World}{P:Nat}{l:List Wt}(h:Pw w P l)(hb:Below w.heap.size w w'):Pw w' P l:=by
 obtain⟨m,e,h⟩:=h
 exact⟨m,e,h.below hb⟩
theorem Pw.lt{w:World}{P:Nat}{l:List Wt}(h:Pw w P l):P<w.heap.size:=by
 obtain⟨m,em,f,g1,g2,g3⟩:=h
 exact heap_lt g1
theorem Pw.le{w:World}{P:Nat}{l:List Wt}(h:Pw w P l):l.length≤1024:=by
 obtain⟨m,em,f,g1,g2,g3,g4,g5⟩:=h
 rw[←em,List.length_map]
 exact g5
def PF(w:World)(P:Nat)(F:Nat→Prop)(ws:List Wt):Prop:=∃l:List (Nat × Wt),l.map (·.2)=ws∧Pn w P l∧(∀n∈l,F n.1)∧F P∧Bd F w
theorem PF.pw{w:World}{P:Nat}{F:Nat→Prop}{ws:List Wt}(h:PF w P F ws):Pw w P ws:=by
 obtain⟨l,e,h1,_⟩:=h
 exact⟨l,e,h1⟩
theorem PF.bd{w:World}{P:Nat}{F:Nat→Prop}{ws:List Wt}(h:PF w P F ws):Bd F w:=by
 obtain⟨l,e,h1,h2,h3,h4⟩:=h
 exact h4
theorem PF.sm{w w':World}{P:Nat}{F:Nat→Prop}{ws:List Wt}(h:PF w P F ws)(s:Sm F w w'):PF w' P F ws:=by
 obtain⟨l,e,⟨f,h1,h2,h3⟩,g1,g2,g3⟩:=h
 exact⟨l,e,⟨f,s.heap g2 h1,h2.mono fun n hn c t fr hc _=>s.heap (g1 n hn) hc,h3⟩,g1,g2,g3.sm s⟩
theorem PF.below{w w':World}{P:Nat}{F:Nat→Prop}{ws:List Wt}(h:PF w P F ws)(hb:Below w.heap.size w w'):PF w' P F ws:=h.sm (Sm.below hb h.bd)
theorem PF.kf{w w':World}{P:Nat}{F G:Nat→Prop}{ws:List Wt}(h:PF w P F ws)(k:KF G w w')(hd:∀x,F x→¬G x):PF w' P F ws:=h.sm (Sm.kf k h.bd hd)
theorem PF.lt{w:World}{P:Nat}{F:Nat→Prop}{ws:List Wt}(h:PF w P F ws):P<w.heap.size:=h.pw.lt
theorem PF.le{w:World}{P:Nat}{F:Nat→Prop}{ws:List Wt}(h:PF w P F ws):ws.length≤1024:=h.pw.le
theorem Pn.added{w:World}{P b:Nat}{f:Option Nat}{l:List (Nat × Wt)}{x:Wt}(h1:Hd w P f (some b) (l.length+1))(h2:Ch w f l (some b))(h3:Sc w b x none)(h4:(l.map (·.1)).Nodup)(h5:∀n∈l,P<n.1)(h6:l.length<1024)(h7:∀n∈l,n.1≠b)(h8:P<b):Pn w P (l++[(b,x)]):=by
 refine⟨f,?_,Ch.app.2 ⟨some b,h2,rfl,none,h3,rfl⟩,?_,?_,?_⟩
 ·rw[lst_app,List.length_append]
  exact h1
 ·rw[List.map_append,List.nodup_append]
  refine⟨h4,by simp,?_⟩
  intro a ha c hc
  simp at hc
  subst hc
  obtain⟨n,hn,rfl⟩:=List.mem_map.1 ha
  exact h7 n hn
 ·intro n hn
  rcases List.mem_append.1 hn with q|q
  ·exact h5 n q
  ·simp at q
   subst q
   exact h8
 ·rw[List.length_append]
  simp
  omega
end Pe
end Go.Proofs.YtogkjaekfhjelaaGreat
