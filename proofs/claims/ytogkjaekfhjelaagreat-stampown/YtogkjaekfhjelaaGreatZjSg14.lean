import Derived.Test.YtogkjaekfhjelaaGreatZjSg1
import Derived.Test.YtogkjaekfhjelaaGreatZjSg11
import Derived.Test.YtogkjaekfhjelaaGreatZjSg13
import Derived.Maps.AppendAt
import Derived.Deep.RegionHeld3
import Derived.Maps.RangeWalk
import Derived.Maps.Views
import Derived.Deep.WholeRow
set_option maxHeartbeats 12800000
namespace Go.Proofs.YtogkjaekfhjelaaGreat
open Go.ChangeShapes Go.WideShapes Go.ChangeAt Go.RowKit
namespace Wa
open Ck
open Go.Maps (Keyed int_keyed keyOf_int_mk)
def tb(F:Nat→Bool):Array Value:=((List.range 256).map fun k=>Value.bool (F k)).toArray
theorem tb_at(F:Nat→Bool)(k:Nat)(h:k<256):(tb F)[k]? =some (.bool (F k)):=by simp[tb,h]
theorem tb_set(F:Nat→Bool)(k:Nat)(v:Bool):(tb F).setIfInBounds k (.bool v)=tb fun j=>if j=k then v else F j:=by
 apply Array.ext'
 rw[Array.toList_setIfInBounds]
 apply List.ext_getElem?
 intro j
 simp only[tb,List.getElem?_set,List.getElem?_map]
 by_cases e:k=j
 ·subst e
  by_cases hk:k<256<;>simp[hk]
 ·by_cases hj:j<256<;>simp[e,hj,Ne.symm e]
theorem info_tb:(Tryz.prog.info? 236).map (fun i=>(i.zero,i.size))=some (some (.agg (tb fun _=>false)),256):=by kernel_rfl
theorem zero_tb(w:World):(zeroValue 236).run Tryz.prog w=.ok (.agg (tb fun _=>false)) w:=(zero_of_info info_tb).1 w
def Used(f:Int→Option (Nat × Nat))(t:Nat):Prop:=∃g b,f g=some (t,b)
theorem mV_inv{v:Value}{y:DataW Unit × List MemPlace}(h:mE v=some y):∃c:Int × Option Addr,v=.agg #[.int .i64 c.1,.pointer c.2]:=by
 rcases mE_inv h with⟨rfl,-⟩|⟨t,b,rfl,-⟩
 ·exact⟨(0,none),rfl⟩
 ·exact⟨(t,some ⟨b,0,none⟩),rfl⟩
theorem key_inv(key:Value)(k:Lit)(h:keyOf Tryz.prog 3 key=some k):∃x:Int,key=.int .i64 x:=by
 obtain⟨x,rfl,-⟩:=Maps.keyOf_int_inv Tryz.underlying3 h
 exact⟨x,rfl⟩
theorem step_is{D:DataW Unit}{f:Int→Option (Nat × Nat)}(mi:MI D f){x:Int}{k:Lit}{c:Int × Option Addr}{y:DataW Unit × List MemPlace}(hk:keyOf Tryz.prog 3 (.int .i64 x)=some k)(hy:mE (.agg #[.int .i64 c.1,.pointer c.2])=some y)(hat:∀zd,D.atKey k zd=y.1):
 k=kl x∧∃t b:Nat,f x=some (t,b)∧c=((t:Int),some ⟨b,0,none⟩):=by
 obtain⟨x',e,rfl,-⟩:=Maps.keyOf_int_inv Tryz.underlying3 hk
 cases e
 refine⟨rfl,?_⟩
 have hh:Maps.has D (kl x)=true:=Maps.has_true_of_atKey hat
 rw[mi.has] at hh
 cases hf:f x with
 |none=>rw[hf] at hh;cases hh
 |some p=>
  obtain⟨t,b⟩:=p
  refine⟨t,b,rfl,?_⟩
  have:=hat .nil
  rw[show Lit.int .i64 x=kl x from rfl,mi.at_ x t b .nil hf] at this
  rcases mE_inv hy with⟨-,rfl⟩|⟨t',b',e,rfl⟩
  ·cases this
  ·obtain⟨rfl,rfl⟩:=mD_inj this
   obtain⟨c1,c2⟩:=c
   simp[mV] at e
   obtain⟨rfl,rfl⟩:=e
   rfl
theorem sk(a b:Int):(kl a).sameKey (kl b)=decide (a=b):=by
 by_cases h:a=b
 ·subst h;simp[kl,Lit.sameKey]
 ·rw[Maps.sameKey_ne (fun e=>h (kl_inj e))];simp[h]
set_option maxRecDepth 100000 in
theorem free_any{Y:Nat→Prop}{B:Nat}{w:World}{st:Wst}{h:Nat→Option (List Int)}{mb:Nat}{D:DataW Unit}(s:WX Y B w st h mb D)(t0:Nat)(ht0:t0<256)(hno:¬Used st.f t0)(hall:∀t,t<t0→Used st.f t):
 Calls Tryz.prog 121 #[.pointer (some ⟨B,0,none⟩)] w fun r w'=>r=.returned (.int .i64 (t0:Int))∧Below w.heap.size w w':=by
 have y2:w.cell? ⟨B,2,none⟩=some (.map (some mb)):=cell_of s.hp 2
 have hlt:=s.lt
 have OW:=hide (s.ow.alloc (.cells (tb fun _=>false) 236))
 have MI0:=hide s.mi
 have TD:=hide s.tid
 have HN:=hide hno
 have HA:=hide hall
 have hz:=zero_tb
 have HML:=hide s.ow.lt
 clear s hno hall
 go_enter Tryz.func121,Tryz.ntmps121
 go_wp2_with (at_range;refine wpList_range_own _ rfl _ 93 rfl 3 133 law Tryz.underlying93 mE mb NB D rfl OW.out ?_;intro w0 hrg0 hg0 hs0)
 have hml:mb<w.heap.size:=HML.out
 have R0:Hid (w0.ranges Tryz.prog 3 mE mb (w.heap.size+1) NB D (Maps.has D) (Maps.size D)):=by
  rw[World.size_alloc] at hrg0
  exact hrg0
 have E0:Hid (w0.heap[w.heap.size]? =some (.cells (tb fun _=>false) 236 (0,0))):=(hg0.block w.heap.size (by rw[World.size_alloc];omega) (by simp)).trans (heap_new w _)
 have B0:Hid (Below w.heap.size w w0):=btr (below_alloc w _) ⟨hg0.os,hg0.tape,hg0.output,hg0.size,fun k hk=>hg0.block k hk (by simp)⟩
 have hs0':w0.heap.size=w.heap.size+1+1:=by rw[hs0,World.size_alloc]
 clear hrg0 hg0 hs0 OW hz
 go_frame
 simp only[World.size_alloc]
 go_loopw [5] (fun _ wr=>∃left cnt F,wr.ranges Tryz.prog 3 mE mb (w.heap.size+1) NB D left cnt∧wr.heap[w.heap.size]? =some (.cells (tb F) 236 (0,0))∧(∀t,F t=true↔∃g b,st.f g=some (t,b)∧left (kl g)=false)∧Below w.heap.size w wr) (fun _ wr=>wr.rangeLeft mb (w.heap.size+1))
 case atStart=>exact⟨_,_,_,R0.out,E0.out,fun t=>⟨fun e=>(by cases e),fun ⟨g,b,e,q⟩=>(by rw[MI0.out.has,e] at q;cases q)⟩,B0.out⟩
 case round=>
  clear R0 E0 B0 hs0'
  obtain⟨left,cnt,F,rg,hh,hF,hb⟩:=hrel
  have RG:=hide rg
  have HH:=hide hh
  have HF:=hide hF
  have HB:=hide hb
  have hTl:w.heap.size<wr.heap.size:=(Array.getElem?_eq_some_iff.1 hh).1
  clear rg hh hF hb
  go_wp2_with (at_next;refine wpList_next_ranges _ rfl _ rfl 3 law mE (Value.int .i64) (fun c:Int × Option Addr=>.agg #[.int .i64 c.1,.pointer c.2]) key_inv (fun v y hv=>mV_inv hv) mb (w.heap.size+1) NB D left cnt rfl RG.out ?_ ?_)
  ·intro _ hl0
   have HU:Hid (∀t,F t=true↔Used st.f t):=fun t=>(HF.out t).trans ⟨fun ⟨g,b,e,_⟩=>⟨g,b,e⟩,fun ⟨g,b,e⟩=>⟨g,b,e,hl0 _⟩⟩
   clear hl0 HF RG
   go_wp2_with fail
   go_loopw [6] (fun i wz=>∃k:Nat,k≤t0∧i=.int .i64 (k:Int)∧wz=wr) (fun i _=>t0 - (intOf i).toNat)
   case atStart=>exact⟨0,Nat.zero_le _,rfl,rfl⟩
   case round=>
    obtain⟨k,hk,rfl,rfl⟩:=hrel
    have hk256:(k:Int)<256:=by omega
    have hk256n:k<256:=by omega
    have c0:=cell_of HH.out k
    rw[tb_at F k hk256n] at c0
    by_cases hkt:k<t0
    ·have hFk:F k=true:=(HU.out k).2 (HA.out k hkt)
     rw[hFk] at c0
     go_wp2_with fail
     go_roundw
     case rel=>exact⟨k+1,by omega,by go_num,by first|rfl|trivial⟩
     case measure=>simp[intOf];omega
    ·have hke:k=t0:=by omega
     subst hke
     have hFk:F k=false:=by
      cases q:F k with
      |false=>rfl
      |true=>exact absurd ((HU.out k).1 q) HN.out
     rw[hFk] at c0
     go_wp2_with fail
     go_ret
     exact⟨rfl,HB.out⟩
  ·intro x c1 c2 k y1 y2' w1 cnt1 hkey hlk hv hat hrg1 hlt1 hg1 hs1 hen
   obtain⟨rfl,t,b,hfx,hc12⟩:=step_is (c:=(c1,c2)) (y:=(y1,y2')) MI0.out hkey hv hat
   cases hc12
   have ht:=TD.out x t b hfx
   have ht':(t:Int)<256:=by omega
   have HH1:=hide ((hg1.block w.heap.size hTl (by simp)).trans HH.out)
   have c0:w1.cell? ⟨w.heap.size,t,none⟩=some (.bool (F t)):=by rw[cell_of HH1.out];exact tb_at F t ht
   have f0:w1.frozen? ⟨w.heap.size,t,none⟩=false:=frozen_of HH1.out t
   have hTl1:w.heap.size<w1.heap.size:=by omega
   have RG1:=hide hrg1
   have HB1:Hid (Below w.heap.size w w1):=⟨hg1.os.trans HB.out.os,hg1.tape.trans HB.out.tape,hg1.output.trans HB.out.output,Nat.le_trans HB.out.size hg1.size,fun j hj=>(hg1.block j (by omega) (by simp;omega)).trans (HB.out.block j hj)⟩
   have HLT:=hide hlt1
   have HFX:=hide hfx
   clear hkey hv hat hrg1 hlt1 hg1 hlk hfx
   go_wp2_with fail
   have GR:w1.grownBy (w1.setCell ⟨w.heap.size,t,none⟩ (.bool true)) (some w.heap.size):=
    ⟨rfl,rfl,rfl,by simp[World.setCell],fun j hj hne=>by
      have hne':w.heap.size≠j:=fun e=>hne (by rw[e])
      simp[World.setCell,Array.getElem?_modify,hne']⟩
   have RG2:=hide ((RG1.out.kept GR (by simp;omega) (by simp)).alloc (.cells #[.int .i64 (t:Int),.pointer (some ⟨b,0,none⟩)] 133))
   go_roundw
   case rel=>
    refine⟨_,cnt1,fun j=>if j=t then true else F j,RG2.out,?_,fun t'=>?_,?_⟩
    ·rw[←tb_set]
     exact Ba.heap_below (Ba.heap_setCell_same HH1.out _) (below_alloc _ _)
    ·change (if t'=t then true else F t')=true↔∃g b,st.f g=some (t',b)∧(left (kl g)&&!(kl g).sameKey (kl x))=false
     by_cases q:t'=t
     ·subst q
      rw[if_pos rfl]
      exact⟨fun _=>⟨x,b,HFX.out,by rw[sk];simp⟩,fun _=>rfl⟩
     ·rw[if_neg q]
      refine (HF.out t').trans ⟨fun ⟨g,b',e,z⟩=>⟨g,b',e,by rw[z];rfl⟩,fun ⟨g,b',e,z⟩=>⟨g,b',e,?_⟩⟩
      by_cases qg:g=x
      ·subst qg
       rw[HFX.out] at e
       cases e
       exact absurd rfl q
      ·rw[sk] at z
       simpa [qg] using z
    ·exact btr (HB1.out.setCell (Nat.le_refl _) _) (below_alloc _ _)
   case measure=>rw[RG2.out.left_eq,RG.out.left_eq];exact HLT.out
theorem upd_twice{α:Type}(h:Nat→Option α)(A:Nat)(l l':α):upd (upd h A l) A l'=upd h A l':=by
 funext j
 unfold upd
 by_cases e:j=A<;>simp[e]
set_option maxRecDepth 100000 in
theorem spawn_ok{Y:Nat→Prop}{B:Nat}{w:World}{st:Wst}{h:Nat→Option (List Int)}(s:WW Y B w st h)(p c:Int)(hp:(Lit.int .i64 p).wf=true)(hc:(Lit.int .i64 c).wf=true)(hc0:0≤c)(tp bp t0:Nat)(l:List Int)(hfp:st.f p=some (tp,bp))(hfc:st.f c=none)(hl:h bp=some l)(hn:st.n<st.T)
 (ht0:t0<256) (hno:¬Used st.f t0) (hall:∀t,t<t0→Used st.f t):
 Calls Tryz.prog 86 #[.pointer (some ⟨B,0,none⟩),.int .i64 p,.int .i64 c] w fun r w'=>r=.returned (.tuple #[.int .i64 (t0:Int),.int .i64 0])∧∃A l',h A=none∧IsSet l l' t0 1∧WW Y B w' {st with n:=st.n+1,f:=upf st.f c (some (t0,A))} (upd h A l')∧Kp Y w w':=by
 obtain⟨mb,D,s⟩:=s
 have F1:=hide (find_some s p hp tp bp hfp)
 have F2:=hide (fun u (q:Below w.heap.size w u)=>find_none (s.below q) c hc hfc)
 have RM:=hide (fun u (q:Below w.heap.size w u)=>room_any (s.below q))
 have hd:decide (st.n<st.T)=true:=decide_eq_true hn
 rw[hd] at RM
 have FR:=hide (fun u (q:Below w.heap.size w u)=>free_any (s.below q) t0 ht0 hno hall)
 unfold mV at F1
 unfold mZ at F2
 have HS:=hide s
 have HL:=hide hl
 have d0:decide (c<0)=false:=decide_eq_false (by omega)
 have HFC:=hide (And.intro hc hfc)
 have hn1:st.n<10000:=by have:=s.bd;omega
 clear s hp hl hd hno hall hc hfc hn
 go_enter Tryz.func86,Tryz.ntmps86
 go_wp2_with fail
 refine F1.out.mono ?_
 rintro r w1 ⟨rfl,b1⟩
 have e1:=heap_new w1 (.cells #[.int .i64 (tp:Int),.pointer (some ⟨bp,0,none⟩)] 133)
 have B1:=hide (btr b1 (below_alloc w1 (.cells #[.int .i64 (tp:Int),.pointer (some ⟨bp,0,none⟩)] 133)))
 have E1:=hide e1
 have F2':=hide (F2.out _ B1.out)
 clear b1 e1 F1 F2
 go_wp2_with fail
 refine F2'.out.mono ?_
 rintro r w2 ⟨rfl,b2⟩
 have B2:=hide (btr (btr B1.out b2) (below_alloc w2 (.cells #[.int .i64 0,.pointer none] 133)))
 have E2:=hide (Ba.heap_below (Ba.heap_below E1.out b2) (below_alloc w2 (.cells #[.int .i64 0,.pointer none] 133)))
 have RM':=hide (RM.out _ B2.out)
 clear b2 F2' RM E1
 go_wp2_with fail
 refine RM'.out.mono ?_
 rintro r w3 ⟨rfl,b3⟩
 have B3:=hide (btr B2.out b3)
 have E3:=hide (Ba.heap_below E2.out b3)
 have FR':=hide (FR.out _ B3.out)
 clear b3 RM' FR E2
 go_wp2_with fail
 refine FR'.out.mono ?_
 rintro r w4 ⟨rfl,b4⟩
 have B4:=hide (btr B3.out b4)
 have E4:=hide (Ba.heap_below E3.out b4)
 have z1:w4.cell? ⟨w1.heap.size,1,none⟩=some (.pointer (some ⟨bp,0,none⟩)):=cell_of E4.out 1
 have CP:=hide (copy_wx (HS.out.below B4.out) HL.out)
 clear b4 FR' E3
 go_wp2_with fail
 refine CP.out.mono ?_
 rintro r w5 ⟨A,rfl,hA,s5,k5⟩
 have HA:=hide hA
 have K5:=hide ((Kp.of B4.out HS.out.ylt).trans (Kp.mono (Y:=Y) k5 fun k q=>.inl q))
 have BG:=hide (begin_any s5 c HFC.out.1 t0 A l ht0 (upd_same _ _ _) HFC.out.2 (fun g' t' e=>by
  obtain⟨lx,q⟩:=HS.out.dom g' t' A e
  rw[hA] at q
  cases q) hn1)
 clear s5 k5 hA CP
 go_wp2_with fail
 refine BG.out.mono ?_
 rintro r w6 ⟨rfl,l',hl',s6,k6⟩
 rw[upd_twice] at s6
 have S6:=hide s6
 have L6:=hide hl'
 have K6:=hide (K5.out.trans k6)
 clear s6 hl' k6 BG
 go_wp2_with fail
 go_ret2
 exact⟨rfl,A,l',HA.out,L6.out,S6.out,K6.out⟩
end Wa
namespace Wa
open Ck
open Go.Maps (Keyed int_keyed keyOf_int_mk)
def Y2(Y:Nat→Prop)(a b:Nat):Nat→Prop:=fun k=>Y k∨k=a∨k=b
end Wa
namespace Wa
open Ck
theorem set_eq{l l' m:List Int}{t:Nat}{n:Int}(h:IsSet l l' t n)(hc:Canon m)(hm:∀j,nth m j=if j=t then n else nth l j):l'=m:=canon_eq h.1 hc fun j=>by rw[h.2.2 j,hm j]
theorem WW.below{Y:Nat→Prop}{B:Nat}{w w':World}{st:Wst}{h:Nat→Option (List Int)}(s:WW Y B w st h)(b:Below w.heap.size w w'):WW Y B w' st h:=by
 obtain⟨mb,D,s⟩:=s
 exact⟨mb,D,s.below b⟩
theorem WW.ylt{Y:Nat→Prop}{B:Nat}{w:World}{st:Wst}{h:Nat→Option (List Int)}(s:WW Y B w st h):∀k,Y k→k<w.heap.size:=by
 obtain⟨mb,D,s⟩:=s
 exact s.ylt
theorem WW.get{Y:Nat→Prop}{B:Nat}{w:World}{st:Wst}{h:Nat→Option (List Int)}(s:WW Y B w st h){b:Nat}{l:List Int}(e:h b=some l):CK w b l∧Canon l∧Valid l:=by
 obtain⟨mb,D,s⟩:=s
 exact s.cx.get (hx_at e)
theorem ints_b(oa ob:Option Addr)(l m:List Int)(n k c d:Nat)(x:Bool)(hx:decide (l=m)=x)(hn:l.length=n)(hk:m.length=k)(w:World)(hA:Ck.At w oa l)(hB:Ck.At w ob m)(hl:n≤256)(hm:k≤256):
 Calls Tryz.prog 14 #[.slice oa n c,.slice ob k d] w fun r w'=>r=.returned (.bool x)∧Below w.heap.size w w':=by
 refine (ints_is oa ob l m n k c d x hx hn hk w hA hB hl hm).mono ?_
 rintro r w' ⟨rfl,q,rfl⟩
 exact⟨rfl,bdrew _ _⟩
def f0:Int→Option (Nat × Nat):=fun _=>none
theorem used1(c:Nat)(t:Nat):Used (upf f0 0 (some (0,c))) t↔t=0:=by
 constructor
 ·rintro⟨g,b,e⟩
  by_cases q:g=0
  ·subst q;rw[upf_same] at e;cases e;rfl
  ·rw[upf_other _ _ _ _ q] at e;cases e
 ·rintro rfl
  exact⟨0,c,upf_same _ _ _⟩
end Wa
namespace Wa
open Ck
section
variable {Y:Nat→Prop}{B:Nat}{w:World}{st:Wst}{h:Nat→Option (List Int)}
theorem know_none(s:WW Y B w st h)(g:Int)(hg:(Lit.int .i64 g).wf=true)(hf:st.f g=none)(v:Value):Calls Tryz.prog 117 #[.pointer (some ⟨B,0,none⟩),.int .i64 g,v] w fun r w'=>r=.returned (.int .i64 6)∧Below w.heap.size w w':=by
 obtain⟨mb,D,s⟩:=s
 have FN:=hide (find_none s g hg hf)
 unfold mZ at FN
 clear s hg hf
 go_enter Tryz.func117,Tryz.ntmps117
 go_wp2_with fail
 refine FN.out.mono ?_
 rintro r w1 ⟨rfl,b1⟩
 have B1:=hide (btr b1 (below_alloc w1 (.cells #[.int .i64 0,.pointer none] 133)))
 clear b1
 go_wp2_with fail
 go_ret
 exact⟨rfl,B1.out⟩
theorem clock_none(s:WW Y B w st h)(g:Int)(hg:(Lit.int .i64 g).wf=true)(hf:st.f g=none):Calls Tryz.prog 118 #[.pointer (some ⟨B,0,none⟩),.int .i64 g] w fun r w'=>r=.returned (.tuple #[.pointer none,.bool false])∧Below w.heap.size w w':=by
 obtain⟨mb,D,s⟩:=s
 have FN:=hide (find_none s g hg hf)
 unfold mZ at FN
 clear s hg hf
 go_enter Tryz.func118,Tryz.ntmps118
 go_wp2_with fail
 refine FN.out.mono ?_
 rintro r w1 ⟨rfl,b1⟩
 have B1:=hide (btr b1 (below_alloc w1 (.cells #[.int .i64 0,.pointer none] 133)))
 clear b1
 go_wp2_with fail
 go_ret2
 exact⟨rfl,B1.out⟩
theorem tid_some(s:WW Y B w st h)(g:Int)(hg:(Lit.int .i64 g).wf=true)(t b:Nat)(hf:st.f g=some (t,b)):Calls Tryz.prog 41 #[.pointer (some ⟨B,0,none⟩),.int .i64 g] w fun r w'=>r=.returned (.tuple #[.int .i64 (t:Int),.bool true])∧Below w.heap.size w w':=by
 obtain⟨mb,D,s⟩:=s
 have FN:=hide (find_some s g hg t b hf)
 unfold mV at FN
 clear s hg hf
 go_enter Tryz.func41,Tryz.ntmps41
 go_wp2_with fail
 refine FN.out.mono ?_
 rintro r w1 ⟨rfl,b1⟩
 have B1:=hide (btr b1 (below_alloc w1 (.cells #[.int .i64 (t:Int),.pointer (some ⟨b,0,none⟩)] 133)))
 clear b1
 go_wp2_with fail
 go_ret2
 exact⟨rfl,B1.out⟩
end
end Wa
namespace Wa
open Ck
def epk(t c:Int):Int:=if 0≤t∧t<256∧1≤c∧c≤1048576 then (t+1)*4294967296+c else 0
theorem pack_fst(t c:Int)(w:World):Calls Tryz.prog 181 #[.int .i64 t,.int .i64 c] w fun r w'=>(∃e,r=.returned (.tuple #[.int .u64 (epk t c),.int .i64 e]))∧w'=w:=by
 unfold epk
 by_cases h:0≤t∧t<256∧1≤c∧c≤1048576
 ·rw[if_pos h]
  refine (Ep.pack_ok t c h.1 h.2.1 h.2.2.1 h.2.2.2 w).mono ?_
  rintro r w' ⟨rfl,rfl⟩
  exact⟨⟨_,rfl⟩,rfl⟩
 ·rw[if_neg h]
  refine (Ep.pack_no t c (by omega) w).mono ?_
  rintro r w' ⟨rfl,rfl⟩
  exact⟨⟨_,rfl⟩,rfl⟩
theorem cepoch_some(b:Nat)(l:List Int)(t:Nat)(w:World)(hc:CK w b l):Calls Tryz.prog 162 #[.pointer (some ⟨b,0,none⟩),.int .i64 (t:Int)] w fun r w'=>r=.returned (.int .u64 (epk (t:Int) (nth l t)))∧w'=w:=by
 have GN:=hide (get_any b l (t:Int) w hc)
 rw[gt_nat] at GN
 have PN:=hide (fun u=>pack_fst (t:Int) (nth l t) u)
 generalize epk (t:Int) (nth l t)=ev at*
 generalize nth l t=v at*
 generalize (t:Int)=ti at*
 go_enter Tryz.func162,Tryz.ntmps162
 go_wp2_with fail
 refine GN.out.mono ?_
 rintro r w1 ⟨rfl,e1⟩
 obtain rfl:=e1.symm
 go_wp2_with fail
 refine (PN.out _).mono ?_
 rintro r w1 ⟨⟨e,rfl⟩,e1⟩
 obtain rfl:=e1.symm
 go_wp2_with fail
 go_ret
 exact⟨rfl,rfl⟩
section
variable {Y:Nat→Prop}{B:Nat}{w:World}{st:Wst}{h:Nat→Option (List Int)}
theorem epoch_none(s:WW Y B w st h)(g:Int)(hg:(Lit.int .i64 g).wf=true)(hf:st.f g=none):Calls Tryz.prog 119 #[.pointer (some ⟨B,0,none⟩),.int .i64 g] w fun r w'=>r=.returned (.int .u64 0)∧Below w.heap.size w w':=by
 obtain⟨mb,D,s⟩:=s
 have FN:=hide (find_none s g hg hf)
 unfold mZ at FN
 clear s hg hf
 go_enter Tryz.func119,Tryz.ntmps119
 go_wp2_with fail
 refine FN.out.mono ?_
 rintro r w1 ⟨rfl,b1⟩
 have B1:=hide b1
 clear b1
 go_wp2_with fail
 refine (cepoch_nil _).mono ?_
 rintro r w2 ⟨rfl,rfl⟩
 go_wp2_with fail
 go_ret
 exact⟨rfl,btr B1.out (below_alloc _ _)⟩
theorem epoch_some(s:WW Y B w st h)(g:Int)(hg:(Lit.int .i64 g).wf=true)(t b:Nat)(l:List Int)(hf:st.f g=some (t,b))(hb:h b=some l):Calls Tryz.prog 119 #[.pointer (some ⟨B,0,none⟩),.int .i64 g] w fun r w'=>r=.returned (.int .u64 (epk (t:Int) (nth l t)))∧Below w.heap.size w w':=by
 obtain⟨mb,D,s⟩:=s
 have FN:=hide (find_some s g hg t b hf)
 unfold mV at FN
 have CK0:=hide (s.cx.get (hx_at hb)).1
 have GE:=hide (fun u (q:Below w.heap.size w u)=>cepoch_some b l t u (CK0.out.below q))
 clear s hg hf hb CK0
 generalize epk (t:Int) (nth l t)=ev at*
 go_enter Tryz.func119,Tryz.ntmps119
 go_wp2_with fail
 refine FN.out.mono ?_
 rintro r w1 ⟨rfl,b1⟩
 have B1:=hide b1
 clear b1
 go_wp2_with fail
 refine (GE.out _ (btr B1.out (below_alloc _ _))).mono ?_
 rintro r w2 ⟨rfl,rfl⟩
 go_wp2_with fail
 go_ret
 exact⟨rfl,btr B1.out (below_alloc _ _)⟩
end
end Wa
namespace Sp
open Ck Wa
section
variable {Y Y':Nat→Prop}{B:Nat}{w w':World}{st:Wst}{h h1:Nat→Option (List Int)}{mb:Nat}{D:DataW Unit}
theorem fgn(s:WX Y B w st h mb D)(sz:w.heap.size≤w'.heap.size)(hb:∀k,k<w.heap.size→¬Y k→w'.heap[k]? =w.heap[k]?)(hi:∀k,Y' k→Y k∨w.heap.size≤k)(hd:∀k,Y' k→k<w'.heap.size):WX Y' B w' st h mb D:=by
 have hlt:=s.lt
 have hml:=s.ow.lt
 refine⟨(hb B hlt s.yb).trans s.hp,?_,s.mi,s.sz,s.ne,fun q=>?_,fun q=>?_,cx_ext s.cx (fun k hk hn=>hb k hk (fun q=>hn (.inl q))) ?_ ?_,s.dom,s.inj,s.tid,s.bd⟩
 ·obtain⟨es,clock,hb0,r⟩:=s.ow
  exact⟨es,clock,(hb mb hml s.ym).trans hb0,r⟩
 ·rcases hi _ q with z|z
  ·exact s.yb z
  ·omega
 ·rcases hi _ q with z|z
  ·exact s.ym z
  ·omega
 ·rintro k (q|q)
  ·rcases hi k q with z|z
   ·exact .inl (.inl z)
   ·exact .inr z
  ·exact .inl (.inr q)
 ·rintro k (q|q)
  ·exact hd k q
  ·exact Nat.lt_of_lt_of_le (s.cx.base k (.inr q)) sz
theorem fgnW(s:WW Y B w st h)(sz:w.heap.size≤w'.heap.size)(hb:∀k,k<w.heap.size→¬Y k→w'.heap[k]? =w.heap[k]?)(hi:∀k,Y' k→Y k∨w.heap.size≤k)(hd:∀k,Y' k→k<w'.heap.size):WW Y' B w' st h:=by
 obtain⟨mb,D,s⟩:=s
 exact⟨mb,D,fgn s sz hb hi hd⟩
theorem lessW(s:WW Y B w st h)(hi:∀k,Y' k→Y k):WW Y' B w st h:=by
 obtain⟨mb,D,s⟩:=s
 exact⟨mb,D,s.less hi⟩
theorem moreW{w1:World}(s:WW Y B w st h)(b:Below w.heap.size w w1)(hi:∀k,Y' k→Y k∨w.heap.size≤k)(hd:∀k,Y' k→k<w1.heap.size):WW Y' B w1 st h:=by
 obtain⟨mb,D,s⟩:=s
 exact⟨mb,D,s.more b hi hd⟩
theorem boxW(s:WW Y B w st h)(o:Obj):WW (Y1 Y w.heap.size) B (w.alloc o) st h:=
 moreW s (below_alloc w o) (fun k q=>by rcases q with q|q;exact .inl q;exact .inr (by omega)) (fun k q=>by
  rw[World.size_alloc]
  rcases q with q|q
  ·have:=s.ylt k q;omega
  ·omega)
theorem know_of_nil(s:WW Y B w st h)(g:Int)(hg:(Lit.int .i64 g).wf=true)(t b:Nat)(hf:st.f g=some (t,b)):
 Calls Tryz.prog 117 #[.pointer (some ⟨B,0,none⟩),.int .i64 g,.pointer none] w fun r w'=>r=.returned (.int .i64 0)∧Below w.heap.size w w':=by
 obtain⟨mb,D,s⟩:=s
 have FN:=hide (find_some s g hg t b hf)
 unfold mV at FN
 clear s hg hf
 go_enter Tryz.func117,Tryz.ntmps117
 go_wp2_with fail
 refine FN.out.mono ?_
 rintro r w1 ⟨rfl,b1⟩
 have B1:=hide (btr b1 (below_alloc w1 (.cells #[.int .i64 (t:Int),.pointer (some ⟨b,0,none⟩)] 133)))
 clear b1 FN
 go_wp2_with fail
 refine (join_of_nil _ _).mono ?_
 rintro r w3 ⟨rfl,rfl⟩
 go_wp2_with fail
 go_ret
 exact⟨rfl,B1.out⟩
def Kn(B:Nat)(st:Wst)(h:Nat→Option (List Int))(g:Int)(v:Value)(h1:Nat→Option (List Int)):Prop:=
 ∀(Y:Nat→Prop) (u:World),WW Y B u st h→Calls Tryz.prog 117 #[.pointer (some ⟨B,0,none⟩),.int .i64 g,v] u fun r w'=>(∃e,r=.returned (.int .i64 e))∧WW Y B w' st h1∧Kp Y u w'
theorem kn_nil(g:Int)(hg:(Lit.int .i64 g).wf=true)(t b:Nat)(hf:st.f g=some (t,b)):Kn B st h g (.pointer none) h:=fun _ _ s=>(know_of_nil s g hg t b hf).mono fun _ _ q=>⟨⟨0,q.1⟩,s.below q.2,Kp.of q.2 s.ylt⟩
theorem kn_some(g:Int)(hg:(Lit.int .i64 g).wf=true)(t b c:Nat)(l m:List Int)(hf:st.f g=some (t,b))(hb:h b=some l)(hc:h c=some m):Kn B st h g (.pointer (some ⟨c,0,none⟩)) (upd h b (jn l m)):=fun _ _ s=>(know_any s g hg t b c l m hf hb hc).mono fun _ _ q=>⟨⟨0,q.1⟩,q.2.1,q.2.2⟩
end
theorem info_stp:(Tryz.prog.info? 38).map (fun i=>(i.zero,i.size))=some (some (.agg #[.int .u64 0,.slice none 0 0]),2):=by kernel_rfl
theorem loadVar_stp{w:World}{b:Nat}{c:Array Value}{t:TypeId}(h:w.heap[b]? =some (.cells c t (0,0)))(hc:c.size=2):(loadVar 38 ⟨b,0,none⟩).run Tryz.prog w=.ok (.agg c) w:=
 run_loadVar_row w b t _ _ _ _ h Tryz.underlying38 rfl (by rw[(zero_of_info info_stp).2,hc])
theorem two_set{w:World}{R:Nat}{c:Array Value}{t:TypeId}(x y:Value)(h:w.heap[R]? =some (.cells c t (0,0)))(hc:c.size=2):((w.setCell ⟨R,0,none⟩ x).setCell ⟨R,1,none⟩ y).heap[R]? =some (.cells #[x,y] t (0,0)):=by
 rw[Ba.heap_setCell_same (Ba.heap_setCell_same h x) y]
 congr 2
 apply Array.ext'
 rcases c with⟨l⟩
 match l,hc with
 |[a,b],_=>rfl
theorem two_oth(w:World)(R k:Nat)(x y:Value)(h:k≠R):((w.setCell ⟨R,0,none⟩ x).setCell ⟨R,1,none⟩ y).heap[k]? =w.heap[k]?:=by
 rw[Below.heap_setCell _ _ _ _ h,Below.heap_setCell _ _ _ _ h]
theorem two_siz(w:World)(R:Nat)(x y:Value):((w.setCell ⟨R,0,none⟩ x).setCell ⟨R,1,none⟩ y).heap.size=w.heap.size:=by simp[World.setCell]
set_option maxRecDepth 100000 in
theorem learn_some{Y:Nat→Prop}{S B:Nat}{w:World}{st:Wst}{h h1:Nat→Option (List Int)}(s:WW Y B w st h)(hS:w.cell? ⟨S,0,none⟩=some (.pointer (some ⟨B,0,none⟩)))(hY:Y S)(g:Int)(v:Value)(hg:(Lit.int .i64 g).wf=true)(t b n:Nat)(l:List Int)(hv:∃oa,v=.pointer oa)(kn:Kn B st h g v h1)(hf:st.f g=some (t,b))(hb:h1 b=some l)(hn:l.length=n):
 Calls Tryz.prog 85 #[.pointer (some ⟨S,0,none⟩),.int .i64 g,v] w fun r w'=>∃R A,h1 A=none∧r=.returned (.agg #[.int .u64 (epk (t:Int) (nth l t)),.slice (some ⟨R,0,none⟩) n n])∧Ck.At w' (some ⟨R,0,none⟩) l∧w.heap.size≤R∧WW (Y1 Y R) B w' st (upd h1 A l)∧Kp Y w w':=by
 obtain⟨oa,rfl⟩:=hv
 have S0:=hide (boxW s (.cells #[.int .u64 0,.slice none 0 0] 38))
 have K0:=hide (Kp.of (X:=Y) (below_alloc w (.cells #[.int .u64 0,.slice none 0 0] 38)) s.ylt)
 have E0:=hide (heap_new w (.cells #[.int .u64 0,.slice none 0 0] 38))
 have hs1:∀u,Kp (Y1 Y w.heap.size) (w.alloc (.cells #[.int .u64 0,.slice none 0 0] 38)) u→u.cell? ⟨S,0,none⟩=some (.pointer (some ⟨B,0,none⟩)):=fun u k=>by
  have hlt:=s.ylt S hY
  have e1:u.heap[S]? =w.heap[S]?:=(k.block S (.inl hY)).trans ((below_alloc w (.cells #[.int .u64 0,.slice none 0 0] 38)).block S hlt)
  rw[←hS]
  unfold World.cell?
  rw[e1]
 have HS:=hide hs1
 have EP:=hide (fun (Y:Nat→Prop) (w:World) (h':Nat→Option (List Int)) (s:WW Y B w st h') (hb:h' b=some l)=>epoch_some s g hg t b l hf hb)
 have HF:=hide (And.intro hg (And.intro hf hb))
 have HN:=hide hn
 have KN:=hide (kn _ _ S0.out)
 have z0:=hs1 _ (Kp.refl _ _)
 generalize epk (t:Int) (nth l t)=ev at*
 have hlt:=s.ylt S hY
 have YL:=hide s.ylt
 have SZ:=hide (World.size_alloc w (.cells #[.int .u64 0,.slice none 0 0] 38))
 clear s hS hY hg hf hb hs1 hn kn
 go_enter Tryz.func85,Tryz.ntmps85
 go_wp2_with fail
 refine KN.out.mono ?_
 rintro r w1 ⟨⟨e1,rfl⟩,s1,k1⟩
 have CL:=hide (clock_any s1 g HF.out.1 t b l HF.out.2.1 HF.out.2.2)
 have z1:=HS.out _ k1
 have K1:=hide k1
 clear s1 k1 KN S0 z0
 go_wp2_with fail
 refine CL.out.mono ?_
 rintro r w2 ⟨A,rfl,hA,s2,k2⟩
 have z2:=HS.out _ (K1.out.trans k2)
 have K2:=hide (K1.out.trans k2)
 have S2:=hide s2
 have HA:=hide hA
 have EP2:=hide (EP.out _ _ _ s2 (by rw[upd_other _ _ _ _ (fun q=>by rw[q,hA] at HF;cases HF.out.2.2)];exact HF.out.2.2))
 clear s2 k2 hA CL z1 K1 EP
 go_wp2_with fail
 refine EP2.out.mono ?_
 rintro r w3 ⟨rfl,b3⟩
 have LI:=hide (list_any A l w3 ((S2.out.below b3).get (upd_same _ _ _)).1)
 rw[HN.out] at LI
 have R3:=hide (Ba.heap_below (kp_heap K2.out E0.out (.inr rfl)) b3)
 have S3:=hide (S2.out.below b3)
 have K3:=hide ((K0.out.trans (Kp.mono K2.out fun k q=>.inl q)).trans (Kp.of b3 (fun k q=>S2.out.ylt k (.inl q))))
 have sz3:=hide (Nat.le_trans (Nat.le_trans (Nat.le_of_eq SZ.out.symm) K2.out.size) b3.size)
 clear b3 EP2 S2 K2 K0 E0 HS
 go_wp2_with fail
 refine LI.out.mono ?_
 rintro r w4 ⟨rfl,e4⟩
 have b4:Below w3.heap.size w3 w4:=by rw[e4];exact below_alloc _ _
 have R4:=Ba.heap_below R3.out b4
 have AT:=hide (show Ck.At w4 (some ⟨w3.heap.size,0,none⟩) l from by rw[e4];exact At.new _ _ _)
 have sz4:w4.heap.size=w3.heap.size+1:=by rw[e4,World.size_alloc]
 have c0:w4.cell? ⟨w.heap.size,0,none⟩=some (.int .u64 0):=cell_of R4 0
 have c1:w4.cell? ⟨w.heap.size,1,none⟩=some (.slice none 0 0):=cell_of R4 1
 have f0:w4.frozen? ⟨w.heap.size,0,none⟩=false:=frozen_of R4 0
 have f1:w4.frozen? ⟨w.heap.size,1,none⟩=false:=frozen_of R4 1
 have B4:=hide b4
 have RR:=hide R4
 have SZ4:=hide sz4
 clear b4 R4 sz4 LI e4
 go_wp2_with fail
 have n3:w3.heap.size≠w.heap.size:=by have:=sz3.out;omega
 refine bodyPost_ret (En.results_row1 Tryz.results85 _ _ _ _ rfl (loadVar_stp (two_set _ _ RR.out rfl) rfl)) rfl ⟨w3.heap.size,A,HA.out,rfl,?_,by have:=sz3.out;omega,?_,?_⟩
 ·intro k hk
  obtain⟨b1,o1,e1,hc⟩:=AT.out k hk
  refine⟨b1,o1,e1,?_⟩
  cases e1
  rw[←hc]
  unfold World.cell?
  rw[two_oth _ _ _ _ _ n3]
 ·refine fgnW S3.out (by rw[two_siz,SZ4.out];omega) (fun k hk hn=>?_) (fun k q=>?_) (fun k q=>?_)
  ·rw[two_oth _ _ _ _ _ (fun e=>hn (.inr e))]
   exact B4.out.block k hk
  ·rcases q with q|q
   ·exact .inl (.inl q)
   ·exact .inr (by omega)
  ·rw[two_siz,SZ4.out]
   rcases q with q|q
   ·have:=S3.out.ylt k (.inl q);omega
   ·omega
 ·refine K3.out.trans ⟨B4.out.os,B4.out.tape,B4.out.output,by rw[two_siz,SZ4.out];omega,fun k q=>?_⟩
  have:=YL.out k q
  rw[two_oth _ _ _ _ _ (by omega)]
  exact B4.out.block k (S3.out.ylt k (.inl q))
set_option maxRecDepth 100000 in
theorem learn_none{Y:Nat→Prop}{S B:Nat}{w:World}{st:Wst}{h:Nat→Option (List Int)}(s:WW Y B w st h)(hS:w.cell? ⟨S,0,none⟩=some (.pointer (some ⟨B,0,none⟩)))(hY:Y S)(g:Int)(oa:Option Addr)(hg:(Lit.int .i64 g).wf=true)(hf:st.f g=none):
 Calls Tryz.prog 85 #[.pointer (some ⟨S,0,none⟩),.int .i64 g,.pointer oa] w fun r w'=>r=.returned (.agg #[.int .u64 0,.slice none 0 0])∧WW Y B w' st h∧Below w.heap.size w w':=by
 have C1:=hide (fun u (q:Below w.heap.size w u)=>know_none (s.below q) g hg hf (.pointer oa))
 have C2:=hide (fun u (q:Below w.heap.size w u)=>clock_none (s.below q) g hg hf)
 have C3:=hide (fun u (q:Below w.heap.size w u)=>epoch_none (s.below q) g hg hf)
 have HS:=hide (fun u (q:Below w.heap.size w u)=>(show u.cell? ⟨S,0,none⟩=some (.pointer (some ⟨B,0,none⟩)) from by
  rw[←hS]
  unfold World.cell?
  rw[q.block S (s.ylt S hY)]))
 have S0:=hide s
 have hlt:=s.ylt S hY
 have B0:=hide (below_alloc w (.cells #[.int .u64 0,.slice none 0 0] 38))
 have z0:=HS.out _ B0.out
 have E0:=hide (heap_new w (.cells #[.int .u64 0,.slice none 0 0] 38))
 clear s hS hg hf hY
 go_enter Tryz.func85,Tryz.ntmps85
 go_wp2_with fail
 refine (C1.out _ B0.out).mono ?_
 rintro r w1 ⟨rfl,b1⟩
 have B1:=hide (btr B0.out b1)
 have z1:=HS.out _ B1.out
 have E1:=hide (Ba.heap_below E0.out b1)
 clear b1 C1 z0 B0 E0
 go_wp2_with fail
 refine (C2.out _ B1.out).mono ?_
 rintro r w2 ⟨rfl,b2⟩
 have B2:=hide (btr B1.out b2)
 have z2:=HS.out _ B2.out
 have E2:=hide (Ba.heap_below E1.out b2)
 clear b2 C2 z1 B1 E1
 go_wp2_with fail
 refine (C3.out _ B2.out).mono ?_
 rintro r w3 ⟨rfl,b3⟩
 have B3:=hide (btr B2.out b3)
 have E3:=hide (Ba.heap_below E2.out b3)
 clear b3 C3 z2 B2 E2 HS
 have c0:w3.cell? ⟨w.heap.size,0,none⟩=some (.int .u64 0):=cell_of E3.out 0
 have c1:w3.cell? ⟨w.heap.size,1,none⟩=some (.slice none 0 0):=cell_of E3.out 1
 have f0:w3.frozen? ⟨w.heap.size,0,none⟩=false:=frozen_of E3.out 0
 have f1:w3.frozen? ⟨w.heap.size,1,none⟩=false:=frozen_of E3.out 1
 go_wp2_with fail
 refine (list_nil _).mono ?_
 rintro r w4 ⟨rfl,e4⟩
 obtain rfl:=e4.symm
 go_wp2_with fail
 have bb:Below w.heap.size w ((w3.setCell ⟨w.heap.size,0,none⟩ (.int .u64 0)).setCell ⟨w.heap.size,1,none⟩ (.slice none 0 0)):=Ba.KB.below B3.out (((Ba.KB.refl _ w3).setCell 0 _).setCell 1 _) (Nat.le_refl _)
 exact bodyPost_ret (En.results_row1 Tryz.results85 _ _ _ _ rfl (loadVar_stp (two_set _ _ E3.out rfl) rfl)) rfl ⟨rfl,S0.out.below bb,bb⟩
theorem cell_blk{w u:World}{b i:Nat}{v:Value}(h:w.cell? ⟨b,i,none⟩=some v)(e:u.heap[b]? =w.heap[b]?):u.cell? ⟨b,i,none⟩=some v:=by
 rw[←h]
 unfold World.cell?
 rw[e]
theorem tell_ok{Y:Nat→Prop}{S B:Nat}{w:World}{st:Wst}{h:Nat→Option (List Int)}(s:WW Y B w st h)(hS:w.cell? ⟨S,0,none⟩=some (.pointer (some ⟨B,0,none⟩)))(g:Int)(hg:(Lit.int .i64 g).wf=true)(t b:Nat)(l:List Int)(hf:st.f g=some (t,b))(hb:h b=some l)(hM:nth l t<(st.M:Int)):
 Calls Tryz.prog 87 #[.pointer (some ⟨S,0,none⟩),.int .i64 g] w fun r w'=>∃A l',r=.returned (.pointer (some ⟨A,0,none⟩))∧h A=none∧IsSet l l' t (nth l t+1)∧WW Y B w' st (upd (upd h A l) b l')∧Kp Y w w':=by
 have TE:=hide (Wa.tell_ok s g hg t b l hf hb hM)
 clear s hg hf hb hM
 go_enter Tryz.func87,Tryz.ntmps87
 go_wp2_with fail
 refine TE.out.mono ?_
 rintro r w1 ⟨A,l',rfl,hA,i1,s1,k1⟩
 have P1:=hide (And.intro hA (And.intro i1 (And.intro s1 k1)))
 clear hA i1 s1 k1 TE
 go_wp2_with fail
 go_ret
 exact⟨A,l',rfl,P1.out⟩
end Sp
namespace Sp
open Ck Wa
section
variable {Y Y':Nat→Prop}{B R:Nat}{w w':World}{st:Wst}{h:Nat→Option (List Int)}
theorem st2W(s:WW Y B w st h)(hR:Y R)(x y:Value)(hi:∀k,Y' k→Y k):WW Y' B ((w.setCell ⟨R,0,none⟩ x).setCell ⟨R,1,none⟩ y) st h:=
 fgnW s (by rw[two_siz];exact Nat.le_refl _) (fun k _ hn=>two_oth _ _ _ _ _ (fun e=>hn (by rw[e];exact hR))) (fun k q=>.inl (hi k q)) (fun k q=>by rw[two_siz];exact s.ylt k (hi k q))
theorem st2K(k:Kp Y w w')(hR:¬Y R)(x y:Value):Kp Y w ((w'.setCell ⟨R,0,none⟩ x).setCell ⟨R,1,none⟩ y):=
 k.trans ⟨rfl,rfl,rfl,by rw[two_siz];exact Nat.le_refl _,fun j q=>two_oth _ _ _ _ _ (fun e=>hR (by rw[←e];exact q))⟩
theorem st2A{A:Nat}{l:List Int}(h:Ck.At w (some ⟨A,0,none⟩) l)(hA:A≠R)(x y:Value):Ck.At ((w.setCell ⟨R,0,none⟩ x).setCell ⟨R,1,none⟩ y) (some ⟨A,0,none⟩) l:=by
 intro k hk
 obtain⟨b1,o1,e1,hc⟩:=h k hk
 refine⟨b1,o1,e1,?_⟩
 cases e1
 rw[←hc]
 unfold World.cell?
 rw[two_oth _ _ _ _ _ hA]
theorem atK{A:Nat}{l:List Int}(h:Ck.At w (some ⟨A,0,none⟩) l)(k:Kp Y w w')(hA:Y A):Ck.At w' (some ⟨A,0,none⟩) l:=by
 intro j hj
 obtain⟨b1,o1,e1,hc⟩:=h j hj
 refine⟨b1,o1,e1,?_⟩
 cases e1
 rw[←hc]
 unfold World.cell?
 rw[k.block A hA]
end
set_option maxRecDepth 100000 in
theorem stay_some{Y:Nat→Prop}{S B:Nat}{w:World}{st:Wst}{h:Nat→Option (List Int)}(s:WW Y B w st h)(hS:w.cell? ⟨S,0,none⟩=some (.pointer (some ⟨B,0,none⟩)))(hY:Y S)(e:En.Ev)(hg:(Lit.int .i64 e.g).wf=true)(t b n:Nat)(l:List Int)(hf:st.f e.g=some (t,b))(hb:h b=some l)(hn:l.length=n):
 Calls Tryz.prog 51 #[.pointer (some ⟨S,0,none⟩),En.evv e] w fun r w'=>∃R A,h A=none∧r=.returned (.agg #[.int .u64 (epk (t:Int) (nth l t)),.slice (some ⟨R,0,none⟩) n n])∧Ck.At w' (some ⟨R,0,none⟩) l∧w.heap.size≤R∧WW (Y1 Y R) B w' st (upd h A l)∧Kp Y w w':=by
 have s1:=boxW (boxW s (.cells #[.int .i64 e.k,.int .i64 e.g,.int .i64 e.c,.int .i64 e.a,.int .i64 e.v,.int .i64 e.m,.bool e.s,.bool e.o] 40)) (.cells #[.int .u64 0,.slice none 0 0] 38)
 have b1:=btr (below_alloc w (.cells #[.int .i64 e.k,.int .i64 e.g,.int .i64 e.c,.int .i64 e.a,.int .i64 e.v,.int .i64 e.m,.bool e.s,.bool e.o] 40)) (below_alloc (w.alloc (.cells #[.int .i64 e.k,.int .i64 e.g,.int .i64 e.c,.int .i64 e.a,.int .i64 e.v,.int .i64 e.m,.bool e.s,.bool e.o] 40)) (.cells #[.int .u64 0,.slice none 0 0] 38))
 have z1:=cell_blk hS (b1.block S (s.ylt S hY))
 have LE:=hide (learn_some s1 z1 (.inl (.inl hY)) e.g (.pointer none) hg t b n l ⟨_,rfl⟩ (kn_nil e.g hg t b hf) hf hb hn)
 have E1:=hide (heap_new (w.alloc (.cells #[.int .i64 e.k,.int .i64 e.g,.int .i64 e.c,.int .i64 e.a,.int .i64 e.v,.int .i64 e.m,.bool e.s,.bool e.o] 40)) (.cells #[.int .u64 0,.slice none 0 0] 38))
 have E0:=hide (Ba.heap_below (heap_new w (.cells #[.int .i64 e.k,.int .i64 e.g,.int .i64 e.c,.int .i64 e.a,.int .i64 e.v,.int .i64 e.m,.bool e.s,.bool e.o] 40)) (below_alloc _ (.cells #[.int .u64 0,.slice none 0 0] 38)))
 have K1:=hide (Kp.of (X:=Y) b1 s.ylt)
 have YL:=hide s.ylt
 have SZ:=hide (show ((w.alloc (.cells #[.int .i64 e.k,.int .i64 e.g,.int .i64 e.c,.int .i64 e.a,.int .i64 e.v,.int .i64 e.m,.bool e.s,.bool e.o] 40)).alloc (.cells #[.int .u64 0,.slice none 0 0] 38)).heap.size=w.heap.size+1+1 by rw[World.size_alloc,World.size_alloc])
 rw[World.size_alloc] at E1
 clear s1 b1 z1 hS
 have c1:((w.alloc (.cells #[.int .i64 e.k,.int .i64 e.g,.int .i64 e.c,.int .i64 e.a,.int .i64 e.v,.int .i64 e.m,.bool e.s,.bool e.o] 40)).alloc (.cells #[.int .u64 0,.slice none 0 0] 38)).cell? ⟨w.heap.size,1,none⟩=some (.int .i64 e.g):=cell_of E0.out 1
 unfold En.evv En.evc
 generalize epk (t:Int) (nth l t)=ev at*
 clear hf hb hn s hg
 go_enter Tryz.func51,Tryz.ntmps51
 go_wp2_with fail
 refine LE.out.mono ?_
 rintro r w2 ⟨R,A,hA,rfl,at2,hR,s2,k2⟩
 have R2:=kp_heap k2 E1.out (.inr (by rw[World.size_alloc]))
 have f0:w2.frozen? ⟨w.heap.size+1,0,none⟩=false:=frozen_of R2 0
 have f1:w2.frozen? ⟨w.heap.size+1,1,none⟩=false:=frozen_of R2 1
 have c0:w2.cell? ⟨w.heap.size+1,0,none⟩=some (.int .u64 0):=cell_of R2 0
 have c1:w2.cell? ⟨w.heap.size+1,1,none⟩=some (.slice none 0 0):=cell_of R2 1
 have P2:=hide (And.intro hA (And.intro at2 (And.intro hR (And.intro s2 (And.intro k2 R2)))))
 clear hA at2 hR s2 k2 R2 LE
 go_wp2_with fail
 obtain⟨hA,at2,hR,s2,k2,R2⟩:=P2.out
 rw[SZ.out] at hR
 refine bodyPost_ret (En.results_row1 Tryz.results51 _ _ _ _ rfl (loadVar_stp (two_set _ _ R2 rfl) rfl)) rfl ⟨R,A,hA,rfl,st2A at2 (by omega) _ _,by omega,st2W s2 (.inl (.inr (by rw[World.size_alloc]))) _ _ (fun k q=>?_),st2K (K1.out.trans (Kp.mono k2 fun k q=>.inl (.inl q))) (fun q=>?_) _ _⟩
 ·rcases q with q|q
  ·exact .inl (.inl (.inl q))
  ·exact .inr q
 ·have:=YL.out _ q;omega
set_option maxRecDepth 100000 in
theorem stay_none{Y:Nat→Prop}{S B:Nat}{w:World}{st:Wst}{h:Nat→Option (List Int)}(s:WW Y B w st h)(hS:w.cell? ⟨S,0,none⟩=some (.pointer (some ⟨B,0,none⟩)))(hY:Y S)(e:En.Ev)(hg:(Lit.int .i64 e.g).wf=true)(hf:st.f e.g=none):
 Calls Tryz.prog 51 #[.pointer (some ⟨S,0,none⟩),En.evv e] w fun r w'=>r=.returned (.agg #[.int .u64 0,.slice none 0 0])∧WW Y B w' st h∧Below w.heap.size w w':=by
 have s1:=boxW (boxW s (.cells #[.int .i64 e.k,.int .i64 e.g,.int .i64 e.c,.int .i64 e.a,.int .i64 e.v,.int .i64 e.m,.bool e.s,.bool e.o] 40)) (.cells #[.int .u64 0,.slice none 0 0] 38)
 have b1:=btr (below_alloc w (.cells #[.int .i64 e.k,.int .i64 e.g,.int .i64 e.c,.int .i64 e.a,.int .i64 e.v,.int .i64 e.m,.bool e.s,.bool e.o] 40)) (below_alloc (w.alloc (.cells #[.int .i64 e.k,.int .i64 e.g,.int .i64 e.c,.int .i64 e.a,.int .i64 e.v,.int .i64 e.m,.bool e.s,.bool e.o] 40)) (.cells #[.int .u64 0,.slice none 0 0] 38))
 have z1:=cell_blk hS (b1.block S (s.ylt S hY))
 have LE:=hide (learn_none s1 z1 (.inl (.inl hY)) e.g none hg hf)
 have E1:=hide (heap_new (w.alloc (.cells #[.int .i64 e.k,.int .i64 e.g,.int .i64 e.c,.int .i64 e.a,.int .i64 e.v,.int .i64 e.m,.bool e.s,.bool e.o] 40)) (.cells #[.int .u64 0,.slice none 0 0] 38))
 have E0:=hide (Ba.heap_below (heap_new w (.cells #[.int .i64 e.k,.int .i64 e.g,.int .i64 e.c,.int .i64 e.a,.int .i64 e.v,.int .i64 e.m,.bool e.s,.bool e.o] 40)) (below_alloc _ (.cells #[.int .u64 0,.slice none 0 0] 38)))
 have B1:=hide b1
 have S0:=hide s
 rw[World.size_alloc] at E1
 clear s1 b1 z1 hS
 have c1:((w.alloc (.cells #[.int .i64 e.k,.int .i64 e.g,.int .i64 e.c,.int .i64 e.a,.int .i64 e.v,.int .i64 e.m,.bool e.s,.bool e.o] 40)).alloc (.cells #[.int .u64 0,.slice none 0 0] 38)).cell? ⟨w.heap.size,1,none⟩=some (.int .i64 e.g):=cell_of E0.out 1
 unfold En.evv En.evc
 clear hf s hg
 go_enter Tryz.func51,Tryz.ntmps51
 go_wp2_with fail
 refine LE.out.mono ?_
 rintro r w2 ⟨rfl,-,b2⟩
 have R2:=Ba.heap_below E1.out b2
 have f0:w2.frozen? ⟨w.heap.size+1,0,none⟩=false:=frozen_of R2 0
 have f1:w2.frozen? ⟨w.heap.size+1,1,none⟩=false:=frozen_of R2 1
 have c0:w2.cell? ⟨w.heap.size+1,0,none⟩=some (.int .u64 0):=cell_of R2 0
 have c1:w2.cell? ⟨w.heap.size+1,1,none⟩=some (.slice none 0 0):=cell_of R2 1
 have P2:=hide (And.intro b2 R2)
 clear b2 R2 LE
 go_wp2_with fail
 have bb:Below w.heap.size w ((w2.setCell ⟨w.heap.size+1,0,none⟩ (.int .u64 0)).setCell ⟨w.heap.size+1,1,none⟩ (.slice none 0 0)):=Ba.KB.below (btr B1.out P2.out.1) (((Ba.KB.refl _ w2).setCell 0 _).setCell 1 _) (by omega)
 exact bodyPost_ret (En.results_row1 Tryz.results51 _ _ _ _ rfl (loadVar_stp (two_set _ _ P2.out.2 rfl) rfl)) rfl ⟨rfl,S0.out.below bb,bb⟩
def tlB(k:Int):Bool:=k==1||k==3||k==4||k==5||k==6
theorem tells_any(k:Int)(w:World):Calls Tryz.prog 22 #[.int .i64 k] w fun r w'=>r=.returned (.bool (tlB k))∧w'=w:=by
 unfold tlB
 cases h1:k==1<;>cases h3:k==3<;>cases h4:k==4<;>cases h5:k==5<;>cases h6:k==6<;>(
  go_enter Tryz.func22,Tryz.ntmps22
  go_wp2_with fail
  go_ret
  exact⟨rfl,rfl⟩)
def dgF(k:Int):Nat:=if k==1 then 44 else if k==2 then 45 else if k==3 then 46 else if k==4 then 47 else if k==5 then 48 else if k==6 then 49 else if k==7 then 50 else 51
theorem doing_any(k:Int)(w:World):Calls Tryz.prog 24 #[.int .i64 k] w fun r w'=>r=.returned (.func (.func (dgF k)) #[] #[])∧w'=w:=by
 unfold dgF
 cases h1:k==1
 ·cases h2:k==2
  ·cases h3:k==3
   ·cases h4:k==4
    ·cases h5:k==5
     ·cases h6:k==6
      ·cases h7:k==7
       all_goals
        go_enter Tryz.func24,Tryz.ntmps24
        go_wp2_with fail
        go_ret
        exact⟨rfl,rfl⟩
      ·go_enter Tryz.func24,Tryz.ntmps24
       go_wp2_with fail
       go_ret
       exact⟨rfl,rfl⟩
     ·go_enter Tryz.func24,Tryz.ntmps24
      go_wp2_with fail
      go_ret
      exact⟨rfl,rfl⟩
    ·go_enter Tryz.func24,Tryz.ntmps24
     go_wp2_with fail
     go_ret
     exact⟨rfl,rfl⟩
   ·go_enter Tryz.func24,Tryz.ntmps24
    go_wp2_with fail
    go_ret
    exact⟨rfl,rfl⟩
  ·go_enter Tryz.func24,Tryz.ntmps24
   go_wp2_with fail
   go_ret
   exact⟨rfl,rfl⟩
 ·go_enter Tryz.func24,Tryz.ntmps24
  go_wp2_with fail
  go_ret
  exact⟨rfl,rfl⟩
theorem can_yes{Y:Nat→Prop}{S B:Nat}{w:World}{st:Wst}{h:Nat→Option (List Int)}(s:WW Y B w st h)(hS:w.cell? ⟨S,0,none⟩=some (.pointer (some ⟨B,0,none⟩)))(hY:Y S)(g:Int)(hg:(Lit.int .i64 g).wf=true)(t b:Nat)(l:List Int)(hf:st.f g=some (t,b))(hb:h b=some l)(x:Bool):
 Calls Tryz.prog 23 #[.pointer (some ⟨S,0,none⟩),.int .i64 g,.bool x,.bool true] w fun r w'=>r=.returned (.bool ((!x||decide (st.n<st.T))&&decide (nth l t<(st.M:Int))))∧Below w.heap.size w w':=by
 have s0:=s
 obtain⟨mb,D,s⟩:=s
 have C1:=hide (tid_some s0 g hg t b hf)
 have C2:=hide (fun u (q:Below w.heap.size w u)=>room_any (s.below q))
 have C3:=hide (fun u (q:Below w.heap.size w u)=>Wa.can_any (s0.below q) g hg t b l hf hb)
 have HS:=hide (fun u (q:Below w.heap.size w u)=>cell_blk hS (q.block S (s0.ylt S hY)))
 generalize decide (nth l t<(st.M:Int))=c3 at*
 generalize decide (st.n<st.T)=c2 at*
 have hlt:=s0.ylt S hY
 clear s s0 hY hg hf hb
 cases x<;>cases c2<;>cases c3<;>(
  go_enter Tryz.func23,Tryz.ntmps23
  go_wp2_with fail
  refine C1.out.mono ?_
  rintro r w1 ⟨rfl,b1⟩
  have B1:=hide b1
  have z1:=HS.out _ b1
  clear b1
  go_wp2_with (first
   |(go_at_call 42;refine (C2.out _ B1.out).mono ?_;rintro r w2 ⟨rfl,b2⟩;have B2:=hide (btr B1.out b2);have z2:=HS.out _ B2.out;clear b2)
   |(go_at_call 43;refine (C3.out _ (by first|exact B2.out|exact B1.out)).mono ?_;rintro r w3 ⟨rfl,b3⟩;have B3:=hide (btr (by first|exact B2.out|exact B1.out) b3);clear b3))
  go_ret
  exact⟨rfl,by first|exact B3.out|exact B2.out|exact B1.out⟩)
end Sp
namespace Sp
open Ck Wa
structure SpP(Y:Nat→Prop)(B:Nat)(w:World)(st:Wst)(h:Nat→Option (List Int))(c:Int)(t b t0 n:Nat)(l:List Int)(r:Ending)(w':World)(R Ac:Nat)(lb lc:List Int)(h':Nat→Option (List Int)):Prop where
 res:r=.returned (.agg #[.int .u64 (epk (t:Int) (nth l t)),.slice (some ⟨R,0,none⟩) n n])
 at_:Ck.At w' (some ⟨R,0,none⟩) l
 new:w.heap.size≤R
 isb:IsSet l lb t (nth l t+1)
 isc:IsSet l lc t0 1
 hb:h' b=some lb
 hc:h' Ac=some lc
 oth:∀x lx,x≠b→h x=some lx→h' x=some lx
 fr:h Ac=none
 ww:WW (Y1 Y R) B w' {st with n:=st.n+1,f:=upf st.f c (some (t0,Ac))} h'
 kp:Kp Y w w'
set_option maxRecDepth 100000 in
theorem spawn_ok{Y:Nat→Prop}{S B:Nat}{w:World}{st:Wst}{h:Nat→Option (List Int)}(s:WW Y B w st h)(hS:w.cell? ⟨S,0,none⟩=some (.pointer (some ⟨B,0,none⟩)))(hY:Y S)(e:En.Ev)(hg:(Lit.int .i64 e.g).wf=true)(hc:(Lit.int .i64 e.m).wf=true)(hc0:0≤e.m)(t b t0 n:Nat)(l:List Int)(hf:st.f e.g=some (t,b))(hfc:st.f e.m=none)(hb:h b=some l)(hn:l.length=n)(hM:nth l t<(st.M:Int))(hT:st.n<st.T)
 (ht0:t0<256) (hno:¬Used st.f t0) (hall:∀t,t<t0→Used st.f t):
 Calls Tryz.prog 44 #[.pointer (some ⟨S,0,none⟩),En.evv e] w fun r w'=>∃R Ac lb lc h',SpP Y B w st h e.m t b t0 n l r w' R Ac lb lc h':=by
 have s1:=boxW (boxW s (.cells #[.int .i64 e.k,.int .i64 e.g,.int .i64 e.c,.int .i64 e.a,.int .i64 e.v,.int .i64 e.m,.bool e.s,.bool e.o] 40)) (.cells #[.int .u64 0,.slice none 0 0] 38)
 have b1:=btr (below_alloc w (.cells #[.int .i64 e.k,.int .i64 e.g,.int .i64 e.c,.int .i64 e.a,.int .i64 e.v,.int .i64 e.m,.bool e.s,.bool e.o] 40)) (below_alloc (w.alloc (.cells #[.int .i64 e.k,.int .i64 e.g,.int .i64 e.c,.int .i64 e.a,.int .i64 e.v,.int .i64 e.m,.bool e.s,.bool e.o] 40)) (.cells #[.int .u64 0,.slice none 0 0] 38))
 have z1:=cell_blk hS (b1.block S (s.ylt S hY))
 have LE:=hide (learn_some s1 z1 (.inl (.inl hY)) e.g (.pointer none) hg t b n l ⟨_,rfl⟩ (kn_nil e.g hg t b hf) hf hb hn)
 have E1:=hide (heap_new (w.alloc (.cells #[.int .i64 e.k,.int .i64 e.g,.int .i64 e.c,.int .i64 e.a,.int .i64 e.v,.int .i64 e.m,.bool e.s,.bool e.o] 40)) (.cells #[.int .u64 0,.slice none 0 0] 38))
 have E0:=hide (Ba.heap_below (heap_new w (.cells #[.int .i64 e.k,.int .i64 e.g,.int .i64 e.c,.int .i64 e.a,.int .i64 e.v,.int .i64 e.m,.bool e.s,.bool e.o] 40)) (below_alloc _ (.cells #[.int .u64 0,.slice none 0 0] 38)))
 have K1:=hide (Kp.of (X:=Y) b1 s.ylt)
 have YL:=hide s.ylt
 have SZ:=hide (show ((w.alloc (.cells #[.int .i64 e.k,.int .i64 e.g,.int .i64 e.c,.int .i64 e.a,.int .i64 e.v,.int .i64 e.m,.bool e.s,.bool e.o] 40)).alloc (.cells #[.int .u64 0,.slice none 0 0] 38)).heap.size=w.heap.size+1+1 by rw[World.size_alloc,World.size_alloc])
 rw[World.size_alloc] at E1
 have Z1:=hide z1
 clear s1 b1 z1 hS
 have c1:((w.alloc (.cells #[.int .i64 e.k,.int .i64 e.g,.int .i64 e.c,.int .i64 e.a,.int .i64 e.v,.int .i64 e.m,.bool e.s,.bool e.o] 40)).alloc (.cells #[.int .u64 0,.slice none 0 0] 38)).cell? ⟨w.heap.size,1,none⟩=some (.int .i64 e.g):=cell_of E0.out 1
 have HF:=hide (And.intro hg (And.intro hc (And.intro hf (And.intro hfc (And.intro hb (And.intro hM (And.intro hT (And.intro hno hall))))))))
 have HY:=hide hY
 unfold En.evv En.evc
 clear hg hc hf hfc hb hM hT hno hall s hn hY
 go_enter Tryz.func44,Tryz.ntmps44
 go_wp2_with fail
 refine LE.out.mono ?_
 rintro r w2 ⟨R,A,hA,rfl,at2,hR,s2,k2⟩
 rw[SZ.out] at hR
 have EV2:Hid (∃ev,ev=epk (t:Int) (nth l t)):=⟨_,rfl⟩
 have R2:=kp_heap k2 E1.out (.inr (by rw[World.size_alloc]))
 have e2:=kp_heap k2 E0.out (.inl (.inr rfl))
 have z2:=cell_blk Z1.out (k2.block S (.inl (.inl HY.out)))
 have s3:=boxW s2 (.cells #[.int .u64 (epk (t:Int) (nth l t)),.slice (some ⟨R,0,none⟩) n n] 38)
 have b3:=below_alloc w2 (.cells #[.int .u64 (epk (t:Int) (nth l t)),.slice (some ⟨R,0,none⟩) n n] 38)
 have E3:=hide (heap_new w2 (.cells #[.int .u64 (epk (t:Int) (nth l t)),.slice (some ⟨R,0,none⟩) n n] 38))
 have e3:=Ba.heap_below e2 b3
 have R3:=hide (Ba.heap_below R2 b3)
 have z3:=cell_blk z2 (b3.block S (s2.ylt S (.inl (.inl (.inl HY.out)))))
 have v1:(w2.alloc (.cells #[.int .u64 (epk (t:Int) (nth l t)),.slice (some ⟨R,0,none⟩) n n] 38)).cell? ⟨w.heap.size,1,none⟩=some (.int .i64 e.g):=cell_of e3 1
 have v5:(w2.alloc (.cells #[.int .u64 (epk (t:Int) (nth l t)),.slice (some ⟨R,0,none⟩) n n] 38)).cell? ⟨w.heap.size,5,none⟩=some (.int .i64 e.m):=cell_of e3 5
 have hbA:b≠A:=fun q=>by rw[q,hA] at HF;cases HF.out.2.2.2.2.1
 have hb2:upd h A l b=some l:=by rw[upd_other _ _ _ _ hbA];exact HF.out.2.2.2.2.1
 have SP:=hide (fun u (q:Below (w2.alloc (.cells #[.int .u64 (epk (t:Int) (nth l t)),.slice (some ⟨R,0,none⟩) n n] 38)).heap.size (w2.alloc (.cells #[.int .u64 (epk (t:Int) (nth l t)),.slice (some ⟨R,0,none⟩) n n] 38)) u)=>Wa.spawn_ok (s3.below q) e.g e.m HF.out.1 HF.out.2.1 hc0 t b t0 l HF.out.2.2.1 HF.out.2.2.2.1 hb2 HF.out.2.2.2.2.2.2.1 ht0 HF.out.2.2.2.2.2.2.2.1 HF.out.2.2.2.2.2.2.2.2)
 have P2:=hide (And.intro hA (And.intro at2 (And.intro hR (And.intro s2 k2))))
 clear hA at2 hR s2 k2 R2 LE e2 z2 s3 b3 e3
 go_wp2_with fail
 have B3:=hide (below_alloc w2 (.cells #[.int .u64 (epk (t:Int) (nth l t)),.slice (some ⟨R,0,none⟩) n n] 38))
 generalize w2.alloc (.cells #[.int .u64 (epk (t:Int) (nth l t)),.slice (some ⟨R,0,none⟩) n n] 38)=w3 at*
 have L2:=hide (And.intro (P2.out.2.2.2.1.ylt R (.inr rfl)) (P2.out.2.2.2.1.ylt S (.inl (.inl (.inl HY.out)))))
 have AT3:=hide (P2.out.2.1.below B3.out)
 have K3:=hide ((K1.out.trans (Kp.mono P2.out.2.2.2.2 fun k q=>.inl (.inl q))).trans (Kp.of B3.out (fun k q=>P2.out.2.2.2.1.ylt k (.inl (.inl (.inl q))))))
 generalize w2.heap.size=T5 at*
 have HB2:=hide hb2
 clear hb2
 go_region_held3 (fun w'=>w'.cell? ⟨S,0,none⟩=some (.pointer (some ⟨B,0,none⟩))∧w'.cell? ⟨w.heap.size,1,none⟩=some (.int .i64 e.g)∧w'.cell? ⟨w.heap.size,5,none⟩=some (.int .i64 e.m))
  (first|(go_keep;done)|exact⟨q0,q1,q5⟩)
  (first|(go_at_call 86;refine (SP.out _ (Ba.bdrew1 _)).mono ?_;rintro r w4 ⟨rfl,Ac,lc,hAc,ic,s4,k4⟩;have q0:=cell_blk (w:=w3) z3 (k4.block S (.inl (.inl (.inl (.inl HY.out)))));have q1:=cell_blk (w:=w3) v1 (k4.block w.heap.size (.inl (.inl (.inl (.inr rfl)))));have q5:=cell_blk (w:=w3) v5 (k4.block w.heap.size (.inl (.inl (.inl (.inr rfl)))))))
 have hcg:e.g≠e.m:=fun q=>by have h1:=HF.out.2.2.1;rw[q,HF.out.2.2.2.1] at h1;cases h1
 have hbc:b≠Ac:=fun q=>by have h1:=HB2.out;rw[q,hAc] at h1;cases h1
 have TE:=hide (tell_ok s4 q0 e.g HF.out.1 t b l (by show upf st.f e.m (some (t0,Ac)) e.g=_;rw[upf_other _ _ _ _ hcg];exact HF.out.2.2.1) (by rw[upd_other _ _ _ _ hbc];exact HB2.out) HF.out.2.2.2.2.2.1)
 have P4:=hide (And.intro hAc (And.intro ic (And.intro k4 hbc)))
 clear SP hAc ic s4 k4 z3 v1 v5 hcg hbc
 go_wp2_with fail
 refine TE.out.mono ?_
 rintro r w5 ⟨A2,lb,rfl,hA2,ib,s5,k5⟩
 have e5:=kp_heap k5 (kp_heap P4.out.2.2.1 E3.out (.inr rfl)) (.inr rfl)
 have r5:=kp_heap k5 (kp_heap P4.out.2.2.1 R3.out (.inl (.inl (.inr (by rw[World.size_alloc]))))) (.inl (.inl (.inr (by rw[World.size_alloc]))))
 have f0:w5.frozen? ⟨w.heap.size+1,0,none⟩=false:=frozen_of r5 0
 have f1:w5.frozen? ⟨w.heap.size+1,1,none⟩=false:=frozen_of r5 1
 have d0:w5.cell? ⟨w.heap.size+1,0,none⟩=some (.int .u64 0):=cell_of r5 0
 have d1:w5.cell? ⟨w.heap.size+1,1,none⟩=some (.slice none 0 0):=cell_of r5 1
 have g0:w5.cell? ⟨T5,0,none⟩=some (.int .u64 (epk (t:Int) (nth l t))):=cell_of e5 0
 have g1:w5.cell? ⟨T5,1,none⟩=some (.slice (some ⟨R,0,none⟩) n n):=cell_of e5 1
 have P5:=hide (And.intro hA2 (And.intro ib (And.intro s5 (And.intro k5 r5))))
 clear hA2 ib s5 k5 e5 r5 TE q0 q1 q5
 go_wp2_with fail
 obtain⟨hA2,ib,s5,k5,r5⟩:=P5.out
 obtain⟨hAc,ic,k4,hbc⟩:=P4.out
 obtain⟨hA,at2,hR,s2,k2⟩:=P2.out
 have hR1:R≠w.heap.size+1:=by omega
 have n1:h Ac=none∧Ac≠A:=by
  by_cases q:Ac=A
  ·rw[q,upd_same] at hAc;cases hAc
  ·rw[upd_other _ _ _ _ q] at hAc;exact⟨hAc,q⟩
 have n2:h A2=none∧A2≠A∧A2≠Ac:=by
  by_cases q:A2=Ac
  ·rw[q,upd_same] at hA2;cases hA2
  ·rw[upd_other _ _ _ _ q] at hA2
   by_cases q2:A2=A
   ·rw[q2,upd_same] at hA2;cases hA2
   ·rw[upd_other _ _ _ _ q2] at hA2;exact⟨hA2,q2,q⟩
 refine bodyPost_ret (En.results_row1 Tryz.results44 _ _ _ _ rfl (loadVar_stp (two_set _ _ r5 rfl) rfl)) rfl ⟨R,Ac,lb,lc,upd (upd (upd (upd h A l) Ac lc) A2 l) b lb,rfl,?_,by omega,ib,ic,upd_same _ _ _,?_,?_,n1.1,?_,?_⟩
 ·exact st2A (atK (atK (AT3.out.below (Ba.bdrew1 w3)) k4 (.inl (.inr rfl))) k5 (.inl (.inr rfl))) hR1 _ _
 ·rw[upd_other _ _ _ _ (Ne.symm hbc),upd_other _ _ _ _ (Ne.symm n2.2.2),upd_same]
 ·intro x lx hx e
  have a1:x≠A:=fun q=>by rw[q,hA] at e;cases e
  have a2:x≠Ac:=fun q=>by rw[q,n1.1] at e;cases e
  have a3:x≠A2:=fun q=>by rw[q,n2.1] at e;cases e
  rw[upd_other _ _ _ _ hx,upd_other _ _ _ _ a3,upd_other _ _ _ _ a2,upd_other _ _ _ _ a1]
  exact e
 ·refine st2W s5 (.inl (.inl (.inr (by rw[World.size_alloc])))) _ _ (fun k q=>?_)
  rcases q with q|q
  ·exact .inl (.inl (.inl (.inl q)))
  ·exact .inl (.inr q)
 ·refine st2K ((K3.out.trans (Kp.mono (w:=w3) (w':=w4) ⟨k4.os,k4.tape,k4.output,k4.size,k4.block⟩ fun k q=>.inl (.inl (.inl (.inl q))))).trans (Kp.mono k5 fun k q=>.inl (.inl (.inl (.inl q))))) (fun q=>?_) _ _
  have:=YL.out _ q
  omega
set_option maxRecDepth 100000 in
theorem new_any(t m:Nat)(w:World)(ht:1≤t∧t≤256)(hm:1≤m∧m≤1048576):
 Calls Tryz.prog 12 #[.int .i64 (t:Int),.int .i64 (m:Int)] w fun r w'=>∃S M B c h,r=.returned (.tuple #[.pointer (some ⟨S,0,none⟩),.int .i64 0])∧w'.heap[S]? =some (.cells #[.pointer (some ⟨B,0,none⟩),.slice none 0 0,.slice none 0 0,.map (some M),.pointer none] 65 (0,0))∧w'.heap[M]? =some (.map #[] 0)∧w.heap.size≤M∧S=M+1∧
  WW (Y1 (Y1 (Lw w) M) S) B w' ⟨t,m,1,upf (fun _=>none) 0 (some (0,c))⟩ h∧h c=some [1]∧Kp (Lw w) w w':=by
 have NW:=hide (Wa.new_any t m w ht hm)
 have hmm:=@run_makeMap Tryz.prog
 generalize (t:Int)=ti at*
 generalize (m:Int)=mi at*
 clear ht hm
 go_enter Tryz.func12,Tryz.ntmps12
 go_wp2_with fail
 refine NW.out.mono ?_
 rintro r w1 ⟨B,c,h,rfl,s1,e1,k1⟩
 have P1:=hide (And.intro s1 (And.intro e1 k1))
 clear s1 e1 k1 NW
 go_wp2_with fail
 go_ret2
 obtain⟨s1,e1,k1⟩:=P1.out
 have s2:=boxW (boxW s1 (.map #[] 0)) (.cells #[.pointer (some ⟨B,0,none⟩),.slice none 0 0,.slice none 0 0,.map (some w1.heap.size),.pointer none] 65)
 have h2:=heap_new (w1.alloc (.map #[] 0)) (.cells #[.pointer (some ⟨B,0,none⟩),.slice none 0 0,.slice none 0 0,.map (some w1.heap.size),.pointer none] 65)
 rw[World.size_alloc] at h2 s2
 exact⟨w1.heap.size+1,w1.heap.size,B,c,h,rfl,h2,Ba.heap_below (heap_new w1 (.map #[] 0)) (below_alloc _ _),k1.size,rfl,s2,e1,k1.trans (Kp.of (btr (below_alloc _ _) (below_alloc _ _)) s1.ylt)⟩
end Sp
namespace Gu
open En Ba
open Go.Maps (Keyed int_keyed keyOf_int_mk)
structure Sv where
 nil:Bool
 b:Nat
 o:Nat
 n:Nat
 c:Nat
 cap:Int
 cl:Bool
def svs(x:Sv):Value:=if x.nil=true then .slice none 0 0 else .slice (some ⟨x.b,x.o,none⟩) x.n x.c
def chV(x:Sv):Value:=.agg #[.int .i64 x.cap,svs x,.bool x.cl]
def chD(x:Sv):DataW Unit:=.agg [.lit (.int .i64 x.cap),.lit (.bool x.nil),.lit (.int .i64 (x.b:Int)),.lit (.int .i64 (x.o:Int)),.lit (.int .i64 (x.n:Int)),.lit (.int .i64 (x.c:Int)),.lit (.bool x.cl)]
def sv0:Sv:=⟨true,0,0,0,0,0,false⟩
def mE:Value→Option (DataW Unit × List MemPlace)
 |.agg a=>match a.toList with
  |[.int .i64 cap,.slice none 0 0,.bool cl]=>some (chD ⟨true,0,0,0,0,cap,cl⟩,[])
  |[.int .i64 cap,.slice (some ⟨b,o,none⟩) n c,.bool cl]=>some (chD ⟨false,b,o,n,c,cap,cl⟩,[])
  |_=>none
 |_=>none
def Sn(x:Sv):Prop:=x.nil=true→x.b=0∧x.o=0∧x.n=0∧x.c=0
theorem mE_v{x:Sv}(h:Sn x):mE (chV x)=some (chD x,[]):=by
 obtain⟨nl,b,o,n,c,cap,cl⟩:=x
 cases nl
 ·rfl
 ·obtain⟨rfl,rfl,rfl,rfl⟩:=h rfl
  rfl
theorem chD_inj{x y:Sv}(h:chD x=chD y):x=y:=by
 obtain⟨nl,b,o,n,c,cap,cl⟩:=x
 obtain⟨nl',b',o',n',c',cap',cl'⟩:=y
 unfold chD at h
 simp at h
 obtain⟨h1,h2,h3,h4,h5,h6,h7⟩:=h
 simp only[Sv.mk.injEq]
 exact⟨h2,by omega,by omega,by omega,by omega,h1,h7⟩
theorem mE_inv{v:Value}{x:Sv}{ps:List MemPlace}(h:mE v=some (chD x,ps)):v=chV x∧Sn x:=by
 unfold mE at h
 split at h
 ·rename_i a
  split at h
  ·rename_i cap cl he
   simp only[Option.some.injEq,Prod.mk.injEq] at h
   have:=chD_inj h.1
   subst this
   refine⟨?_,fun _=>⟨rfl,rfl,rfl,rfl⟩⟩
   unfold chV svs
   congr 1
   exact Array.ext' (by rw[he];rfl)
  ·rename_i cap b o n c cl he
   simp only[Option.some.injEq,Prod.mk.injEq] at h
   have:=chD_inj h.1
   subst this
   refine⟨?_,fun h=>by cases h⟩
   unfold chV svs
   congr 1
   exact Array.ext' (by rw[he];rfl)
  ·cases h
 ·cases h
theorem law:Keyed Tryz.prog 3:=int_keyed Tryz.underlying3
theorem info_ch:(Tryz.prog.info? 184).map (fun i=>(i.zero,i.size))=some (some (chV sv0),3):=by kernel_rfl
theorem zero_ch(w:World):(zeroValue 184).run Tryz.prog w=.ok (chV sv0) w:=(zero_of_info info_ch).1 w
theorem mE_z:mE (chV sv0)=some (chD sv0,[]):=rfl
def kl(g:Int):Lit:=.int .i64 g
theorem kl_inj{a b:Int}(h:kl a=kl b):a=b:=by cases h;rfl
theorem key_kl{g:Int}(h:-1≤g∧g≤100000):keyOf Tryz.prog 3 (.int .i64 g)=some (kl g):=keyOf_int_mk Tryz.underlying3 (by simp[Lit.wf,IntKind.min,IntKind.max,IntKind.signed,IntKind.bits];omega)
theorem lit_key{g:Int}(h:-1≤g∧g≤100000):WideAt.IsKeyLit (kl g):=law.key (key_kl h)
structure MI(D:DataW Unit)(cs:List Sv):Prop where
 tidy:Maps.Tidy D
 has:∀g,Maps.has D (kl g)=decide (0≤g∧g<cs.length)
 at_:∀(i:Nat) x z,cs[i]? =some x→D.atKey (kl (i:Int)) z=chD x
 sz:Maps.size D=cs.length
theorem MI.no{D:DataW Unit}{cs:List Sv}(h:MI D cs){g:Int}(e:¬(0≤g∧g<cs.length))(z:DataW Unit):D.atKey (kl g) z=z:=Maps.atKey_of_not_has (by rw[h.has];exact decide_eq_false e) z
theorem MI.nil:MI (.map []) []:=⟨Maps.tidy_empty,fun g=>by
 rw[decide_eq_false (by simp)];rfl,fun i x z h=>by simp at h,rfl⟩
theorem MI.put{D:DataW Unit}{cs:List Sv}(h:MI D cs){i:Nat}(hi:i≤cs.length)(hb:i≤100000)(x:Sv):MI (D.put (kl (i:Int)) (chD x)) (if i<cs.length then cs.set i x else cs++[x]):=by
 have hk:-1≤(i:Int)∧(i:Int)≤100000:=by omega
 have hl:(if i<cs.length then cs.set i x else cs++[x]).length=if i<cs.length then cs.length else cs.length+1:=by split<;>simp
 refine⟨h.tidy.put (lit_key hk) _,fun g=>?_,fun j y z e=>?_,?_⟩
 ·rw[hl]
  by_cases q:g=(i:Int)
  ·subst q
   rw[Maps.has_put_same h.tidy.isMap (lit_key hk)]
   symm;apply decide_eq_true
   split<;>omega
  ·rw[Maps.has_put_other (fun e=>q (kl_inj e)),h.has,decide_eq_decide]
   split<;>omega
 ·by_cases q:j=i
  ·subst q
   rw[Maps.atKey_put_same h.tidy.isMap (lit_key hk)]
   congr 1
   split at e
   ·rw[List.getElem?_set_self (by assumption)] at e;cases e;rfl
   ·have:j=cs.length:=by omega
    subst this
    simp at e;exact e
  ·rw[Maps.atKey_put_other (fun e=>q (by have:=kl_inj e;omega))]
   refine h.at_ j y z ?_
   split at e
   ·rwa [List.getElem?_set_ne (Ne.symm q)] at e
   ·rwa [List.getElem?_append_left (by have:=(List.getElem?_eq_some_iff.1 e).1;simp at this;omega)] at e
 ·rw[hl,Maps.size_put h.tidy,h.has,h.sz]
  by_cases q:i<cs.length
  ·rw[decide_eq_true (by omega),if_pos q];rfl
  ·rw[decide_eq_false (by omega),if_neg q];rfl
structure VR(w:World)(N:Nat)(x:Sv)(L:List Int):Prop where
 sn:Sn x
 len:x.n=L.length
 row:x.nil=false→N≤x.b∧∃cur,w.heap[x.b]? =some (.cells cur 3 (0,0))∧x.o+x.c≤cur.size∧x.n≤x.c∧x.c≤maxLen∧∀i v,L[i]? =some v→cur[x.o+i]? =some (.int .i64 v)
theorem VR.keep{w w':World}{N:Nat}{x:Sv}{L:List Int}(h:VR w N x L)(hk:x.nil=false→w'.heap[x.b]? =w.heap[x.b]?):VR w' N x L:=by
 refine⟨h.sn,h.len,fun hn=>?_⟩
 obtain⟨h1,cur,h2,h3⟩:=h.row hn
 exact⟨h1,cur,(hk hn).trans h2,h3⟩
theorem VR.zero(w:World)(N:Nat)(cap:Int)(cl:Bool):VR w N ⟨true,0,0,0,0,cap,cl⟩ []:=⟨fun _=>⟨rfl,rfl,rfl,rfl⟩,rfl,fun h=>by cases h⟩
theorem VR.nil_of{w:World}{N:Nat}{x:Sv}{L:List Int}(h:VR w N x L)(hn:x.nil=true):L=[]:=by
 have:=h.sn hn
 have hl:=h.len
 rw[this.2.2.1] at hl
 exact List.length_eq_zero_iff.1 hl.symm
def tl(x:Sv):Sv:=⟨x.nil,x.b,if x.c=1 then x.o else x.o+1,x.n - 1,x.c - 1,x.cap,x.cl⟩
theorem VR.tail{w:World}{N:Nat}{x:Sv}{y:Int}{r:List Int}(h:VR w N x (y::r)):x.nil=false∧VR w N (tl x) r:=by
 have hn:x.nil=false:=by
  cases hq:x.nil
  ·rfl
  ·have:=h.nil_of hq;cases this
 refine⟨hn,⟨(fun q=>by unfold tl at q;simp only at q;rw[hn] at q;cases q),(by have:=h.len;unfold tl;simp at this ⊢;omega),fun _=>?_⟩⟩
 obtain⟨h1,cur,h2,h3,h4,h5,h6⟩:=h.row hn
 have hl:=h.len
 simp at hl
 unfold tl
 refine⟨h1,cur,h2,?_,by simp only;omega,by simp only;omega,fun i v hv=>?_⟩
 ·simp only
  split<;>omega
 ·have hil:i<r.length:=(List.getElem?_eq_some_iff.1 hv).1
  have:=h6 (i+1) v (by simpa using hv)
  simp only
  rw[if_neg (by omega),Nat.add_assoc,Nat.add_comm 1 i]
  exact this
theorem run_room{w:World}{g o n c:Nat}{cur:Array Value}(hg:w.heap[g]? =some (.cells cur 3 (0,0)))(hn:n+1≤c)(hs:o+c≤cur.size)(ad:Addr)(m:Nat)(y:Int)(hy:w.cell? (ad.add 0)=some (.int .i64 y)):
 (Builtin.append_ #[23,23] 23 #[.slice (some ⟨g,o,none⟩) n c,.slice (some ad) 1 m]).run Tryz.prog w=.ok (.slice (some ⟨g,o,none⟩) (n+1) c) (w.setCell ⟨g,o+n,none⟩ (.int .i64 y)):=by
 obtain⟨i0,hi,hz0,hz1,hz2⟩:=info_parts info_int
 have hc:∃v,w.cell? ⟨g,o+n,none⟩=some v:=⟨_,(cell_of hg (o+n)).trans (Array.getElem?_eq_getElem (by omega))⟩
 obtain⟨v,hc⟩:=hc
 have hf:=frozen_of hg (o+n)
 have hst:(store ⟨g,o+n,none⟩ (.int .i64 y)).run Tryz.prog w=.ok () (w.setCell ⟨g,o+n,none⟩ (.int .i64 y)):=by rw[run_store _ _ _ _ _ rfl,hc,hf];rfl
 simp[Builtin.append_,run_underlying Tryz.underlying23,sizeOf,typeInfo,hi,hz1,Builtin.lenOf,Builtin.firstCells,loadCells,loadCellsFrom,storeCells,hy,hn,Addr.add_lit,hst]
end Gu
namespace Gu
open En Ba
theorem VR.app{w:World}{N:Nat}{x:Sv}{L:List Int}(h:VR w N x L)(hl:L.length≤4000)(hN:N≤w.heap.size)(y:Int):
 ∃(x':Sv) (w':World),(Builtin.append_ #[23,23] 23 #[svs x,.slice (some ⟨w.heap.size,0,none⟩) 1 1]).run Tryz.prog (w.alloc (.cells #[.int .i64 y] 3))=.ok (svs x') w'∧VR w' N x' (L++[y])∧x'.nil=false∧x'.cap=x.cap∧x'.cl=x.cl∧(w.alloc (.cells #[.int .i64 y] 3)).grownBy w' (if x.nil=true then none else some x.b)∧((x.nil=false∧x'.b=x.b)∨x'.b=w.heap.size+1)∧VR w' N x L:=by
 obtain⟨i0,hi,hz0,hz1,hz2⟩:=info_parts info_int
 obtain⟨nl,b,o,n,c,cap,cl⟩:=x
 have src:=cell_one_new w (.int .i64 y) 3
 have hN1:N≤(w.alloc (.cells #[.int .i64 y] 3)).heap.size:=by rw[World.size_alloc];omega
 cases nl
 ·obtain⟨h1,cur,h2,h3,h4,h5,h6⟩:=h.row rfl
  have hn:=h.len
  simp only at h1 h2 h3 h4 h5 h6 hn
  have h2':=heap_below h2 (below_alloc w (.cells #[.int .i64 y] 3))
  show ∃(x':Sv) (w':World),(Builtin.append_ #[23,23] 23 #[.slice (some ⟨b,o,none⟩) n c,.slice (some ⟨w.heap.size,0,none⟩) 1 1]).run Tryz.prog (w.alloc (.cells #[.int .i64 y] 3))=_∧_
  by_cases hroom:n+1≤c
  ·have hr:=run_room h2' hroom h3 ⟨w.heap.size,0,none⟩ 1 y (src 0 _ rfl)
   refine⟨⟨false,b,o,n+1,c,cap,cl⟩,_,hr,⟨(fun q=>by cases q),(by simp[hn]),fun _=>⟨h1,_,Ba.heap_setCell_same h2' _,by simpa using h3,hroom,h5,fun i v hv=>?_⟩⟩,rfl,rfl,rfl,?_,.inl ⟨rfl,rfl⟩,⟨(fun q=>by cases q),hn,fun _=>⟨h1,_,Ba.heap_setCell_same h2' _,by simpa using h3,h4,h5,fun i v hv=>by
    show (cur.setIfInBounds (o+n) _)[o+i]? =_
    rw[Array.getElem?_setIfInBounds_ne (by have:=(List.getElem?_eq_some_iff.1 hv).1;omega)]
    exact h6 i v hv⟩⟩⟩
   ·show (cur.setIfInBounds (o+n) _)[o+i]? =_
    by_cases hi':i<L.length
    ·rw[List.getElem?_append_left hi'] at hv
     have:=h6 i v hv
     rw[Array.getElem?_setIfInBounds_ne (by omega)]
     exact this
    ·have:i=L.length:=by
      have:=(List.getElem?_eq_some_iff.1 hv).1
      simp at this;omega
     subst this
     rw[List.getElem?_append_right (Nat.le_refl _),Nat.sub_self] at hv
     simp at hv
     subst hv
     rw[hn,Array.getElem?_setIfInBounds_self_of_lt (by omega)]
   ·refine⟨rfl,rfl,rfl,by simp[World.setCell],fun k _ hk=>?_⟩
    exact Below.heap_setCell _ _ _ _ (by show k≠b;intro e;exact hk (by rw[e];rfl))
  ·have hcn:c=n:=by omega
   have holds:∀j u,(ic L)[j]? =some u→(w.alloc (.cells #[.int .i64 y] 3)).cell? ((⟨b,o,none⟩:Addr).add j)=some u:=by
    intro j u hj
    rw[Addr.add_lit,cell_of h2']
    unfold ic at hj
    rw[List.getElem?_map] at hj
    cases hq:L[j]? with
    |none=>rw[hq] at hj;cases hj
    |some v=>rw[hq] at hj;cases hj;exact h6 j v hq
   have hr:=run_append_grow (P:=Tryz.prog) (w.alloc (.cells #[.int .i64 y] 3)) 23 23 3 i0 (.int .i64 0) Tryz.underlying23 hi hz0 ⟨b,o,none⟩ n c (ic L) (by rw[ic_len,hz1,hn,Nat.mul_one]) holds ⟨w.heap.size,0,none⟩ 1 1 [.int .i64 y] (by rw[hz1];rfl) src (by omega) (by omega) (growslice_fits (by omega) (by rw[hz2];omega))
   have hge:=grownCap_ge (w.alloc (.cells #[.int .i64 y] 3)) (n+1) c 3
   have hcm:=grownCap_le_maxLen (w.alloc (.cells #[.int .i64 y] 3)) (n+1) c 3 (by unfold maxLen;omega)
   refine⟨⟨false,w.heap.size+1,0,n+1,grownCap (w.alloc (.cells #[.int .i64 y] 3)) (n+1) c 3,cap,cl⟩,(w.alloc (.cells #[.int .i64 y] 3)).drew.alloc (.cells ((ic L).toArray++[Value.int .i64 y].toArray++Builtin.zeroCells (Value.int .i64 0).cells (grownCap (w.alloc (.cells #[.int .i64 y] 3)) (n+1) c 3 - (n+1))) 3),hr.trans ?_,⟨(fun q=>by cases q),(by simp[hn]),fun _=>⟨(by simp only;omega),(ic L).toArray++[Value.int .i64 y].toArray++Builtin.zeroCells (Value.int .i64 0).cells (grownCap (w.alloc (.cells #[.int .i64 y] 3)) (n+1) c 3 - (n+1)),?_,?_,hge,hcm,fun i v hv=>?_⟩⟩,rfl,rfl,rfl,?_,.inr rfl,h.keep fun _=>(heap_below h2' (btr (bdrew1 _) (below_alloc _ _))).trans h2.symm⟩
   ·simp only[World.size_alloc];rfl
   ·have:=heap_alloc_new (w.alloc (.cells #[.int .i64 y] 3)).drew (.cells ((ic L).toArray++[Value.int .i64 y].toArray++Builtin.zeroCells (Value.int .i64 0).cells (grownCap (w.alloc (.cells #[.int .i64 y] 3)) (n+1) c 3 - (n+1))) 3)
    rw[show (w.alloc (.cells #[.int .i64 y] 3)).drew.heap.size=w.heap.size+1 from World.size_alloc _ _] at this
    exact this
   ·simp only[Array.size_append,List.size_toArray,size_zeroCells,ic_len,List.length_singleton]
    show 0+_≤_+1+_*1
    omega
   ·have e1:(ic L).toArray++[Value.int .i64 y].toArray=(ic (L++[y])).toArray:=by simp[ic]
    have hil:i<(L++[y]).length:=(List.getElem?_eq_some_iff.1 hv).1
    simp only[Nat.zero_add]
    rw[e1,Array.getElem?_append_left (by simp[ic];simpa using hil)]
    simp only[List.getElem?_toArray]
    unfold ic
    rw[List.getElem?_map,hv]
    rfl
   ·exact⟨rfl,rfl,rfl,by simp,fun k hk _=>(below_alloc (w.alloc (.cells #[.int .i64 y] 3)).drew _).block k hk⟩
 ·obtain⟨hb,ho,hn,hc⟩:=h.sn rfl
  simp only at hb ho hn hc
  subst hb ho hn hc
  have hL:L=[]:=h.nil_of rfl
  subst hL
  obtain⟨v',w',hr,ho,hg1,-,hat⟩:=run_append_own_at (P:=Tryz.prog) (w.alloc (.cells #[.int .i64 y] 3)) N 23 23 3 i0 (.int .i64 0) 1 8 Tryz.underlying23 hi hz0 hz1 hz2 rfl (by decide) (.slice none 0 0) 0 [] (World.ownsRow_nil _ _ _ _) ⟨w.heap.size,0,none⟩ 1 1 [.int .i64 y] rfl src (ic_one [y]) (by unfold maxLen;omega) (by omega) hN1
  rw[Nat.zero_add,List.nil_append] at ho
  rcases ho.2 with⟨-,h⟩|⟨g,cp,cur,rfl,q1,q2,q3,q4,q5,q6⟩
  ·cases h
  ·refine⟨⟨false,g,0,1,cp,cap,cl⟩,w',hr,⟨(fun q=>by cases q),rfl,fun _=>⟨q1,cur,q2,by simp only;omega,q3,q4,fun i v hv=>?_⟩⟩,rfl,rfl,rfl,hg1,.inr ?_,h.keep fun q=>by cases q⟩
   ·have hi0:i=0:=by have:=(List.getElem?_eq_some_iff.1 hv).1;simp at this;exact this
    subst hi0
    simp at hv
    subst hv
    have e1:([Value.int .i64 y])[0]? =some (.int .i64 y):=rfl
    rw[←q6,List.getElem?_take,if_pos (by omega)] at e1
    simpa using e1
   ·rcases hat with q|q
    ·cases q
    ·simp only[Value.ownBlock,Option.some.injEq,World.size_alloc] at q
     exact q
structure GR(w:World)(N R mb:Nat)(ev vs:Value)(D:DataW Unit)(cs:List Sv)(s:Gs):Prop where
 hN:N≤R∧N≤mb
 hR:w.heap[R]? =some (.cells #[ev,vs,.map (some mb),.bool s.pn,.int .i64 s.la.k,.int .i64 s.la.g,.int .i64 s.la.c,.int .i64 s.la.a,.int .i64 s.la.v,.int .i64 s.la.m,.bool s.la.s,.bool s.la.o] 138 (0,0))
 st:w.ownsRow N 3 1 vs s.st.length (ic s.st)
 mp:w.ownsMap Tryz.prog 3 mE mb 100000 D
 mi:MI D cs
 len:cs.length=s.ch.length
 ch:∀(i:Nat) x c,cs[i]? =some x→s.ch[i]? =some c→VR w N x c.vs∧x.cap=c.cap∧x.cl=c.cl
 dj:∀(i j:Nat) x y,cs[i]? =some x→cs[j]? =some y→i≠j→x.nil=false→y.nil=false→x.b≠y.b
 dv:∀(i:Nat) x,cs[i]? =some x→x.nil=false→vs.ownBlock≠some x.b
def GW(w:World)(N R:Nat)(ev:Value)(s:Gs):Prop:=∃mb vs D cs,GR w N R mb ev vs D cs s
theorem mayDo_any(t k:Int)(w:World):
 Calls Tryz.prog 115 #[.int .i64 t,.int .i64 k] w fun r w'=>r=.returned (.bool (may t k))∧w'=w:=by
 unfold may
 by_cases h7:k=7
 ·have d7:(k==7)=true:=by simp[h7]
  rw[if_pos h7]
  clear h7
  go_enter Tryz.func115,Tryz.ntmps115
  go_wp2_with fail
  go_ret
  exact⟨ret_bool (by rw[Bool.eq_iff_iff];simp),rfl⟩
 ·have d7:(k==7)=false:=by simp[h7]
  rw[if_neg h7]
  by_cases h12:k=12
  ·have d12:(k==12)=true:=by simp[h12]
   rw[if_pos h12]
   clear h7 h12
   go_enter Tryz.func115,Tryz.ntmps115
   go_wp2_with fail
   go_ret
   exact⟨ret_bool (by rw[Bool.eq_iff_iff];simp),rfl⟩
  ·have d12:(k==12)=false:=by simp[h12]
   rw[if_neg h12]
   clear h7 h12
   go_enter Tryz.func115,Tryz.ntmps115
   go_wp2_with fail
   go_ret
   exact⟨ret_bool (by rw[Bool.eq_iff_iff];simp),rfl⟩
theorem owed_any{w:World}{N R:Nat}{ev:Value}{s:Gs}(h:GW w N R ev s):
 Calls Tryz.prog 82 #[.pointer (some ⟨R,0,none⟩)] w fun r w'=>r=.returned (.bool (owed s.la))∧w'=w:=by
 obtain⟨mb,vs,D,cs,h⟩:=h
 have c4:w.cell? ⟨R,4,none⟩=some (.int .i64 s.la.k):=cell_of h.hR 4
 have c9:w.cell? ⟨R,9,none⟩=some (.int .i64 s.la.m):=cell_of h.hR 9
 clear h
 unfold owed
 generalize s.la.k=k at*
 generalize s.la.m=m at*
 have e3:decide (k=3)=(k==3):=by rw[Bool.eq_iff_iff];simp
 have e4:decide (k=4)=(k==4):=by rw[Bool.eq_iff_iff];simp
 have em:decide (m≠-1)=(m !=-1):=by rw[Bool.eq_iff_iff];simp
 rw[e3,e4,em]
 clear e3 e4 em
 cases h3:(k==3)
 ·cases h4:(k==4)
  ·go_enter Tryz.func82,Tryz.ntmps82
   go_wp2_with fail
   go_ret
   exact⟨rfl,rfl⟩
  ·go_enter Tryz.func82,Tryz.ntmps82
   go_wp2_with fail
   go_ret
   exact⟨rfl,rfl⟩
 ·go_enter Tryz.func82,Tryz.ntmps82
  go_wp2_with fail
  go_ret
  exact⟨rfl,rfl⟩
theorem pserves_any(s e:Ev)(w:World):
 Calls Tryz.prog 116 #[evv s,evv e] w fun r w'=>r=.returned (.bool (servP s e))∧Below w.heap.size w w':=by
 have B2:=hide (btr (below_alloc w (.cells (evc s) 40)) (below_alloc _ (.cells (evc e) 40)))
 unfold evv evc at*
 unfold servP
 obtain⟨k,g,c,a,v,m,z,o⟩:=s
 obtain⟨k',g',c',a',v',m',z',o'⟩:=e
 simp only at B2 ⊢
 have key:∀b1 b2 b3 b4:Bool,(k' !=7)=b1→(g' !=m)=b2→(m' !=g)=b3→(c' !=c)=b4→Calls Tryz.prog 116 #[.agg #[.int .i64 k,.int .i64 g,.int .i64 c,.int .i64 a,.int .i64 v,.int .i64 m,.bool z,.bool o],.agg #[.int .i64 k',.int .i64 g',.int .i64 c',.int .i64 a',.int .i64 v',.int .i64 m',.bool z',.bool o']] w fun r w'=>r=.returned (.bool (if (b1||b2||b3||b4||!o')=true then false else if k=4 then z' else !z'&&decide (v'=v)))∧Below w.heap.size w w':=by
  intro b1 b2 b3 b4 h1 h2 h3 h4
  cases b1
  ·cases b2
   ·cases b3
    ·cases b4
     ·cases o'
      ·go_enter Tryz.func116,Tryz.ntmps116
       go_wp2_with fail
       go_ret
       exact⟨rfl,B2.out⟩
      ·by_cases hk:k=4
       ·have d4:(k==4)=true:=by simp[hk]
        have hR:(if (false||false||false||false||!true)=true then false else if k=4 then z' else !z'&&decide (v'=v))=z':=by simp[hk]
        rw[hR]
        clear hk hR
        go_enter Tryz.func116,Tryz.ntmps116
        go_wp2_with fail
        go_ret
        exact⟨rfl,B2.out⟩
       ·have d4:(k==4)=false:=by simp[hk]
        have hR:(if (false||false||false||false||!true)=true then false else if k=4 then z' else !z'&&decide (v'=v))=(!z'&&(v'==v)):=by
         rw[if_neg (by simp),if_neg hk]
         congr 1
        rw[hR]
        clear hk hR
        cases z'
        ·go_enter Tryz.func116,Tryz.ntmps116
         go_wp2_with fail
         go_ret
         exact⟨rfl,B2.out⟩
        ·go_enter Tryz.func116,Tryz.ntmps116
         go_wp2_with fail
         go_ret
         exact⟨rfl,B2.out⟩
     ·go_enter Tryz.func116,Tryz.ntmps116
      go_wp2_with fail
      go_ret
      exact⟨rfl,B2.out⟩
    ·go_enter Tryz.func116,Tryz.ntmps116
     go_wp2_with fail
     go_ret
     exact⟨rfl,B2.out⟩
   ·go_enter Tryz.func116,Tryz.ntmps116
    go_wp2_with fail
    go_ret
    exact⟨rfl,B2.out⟩
  ·go_enter Tryz.func116,Tryz.ntmps116
   go_wp2_with fail
   go_ret
   exact⟨rfl,B2.out⟩
 have hK:=key _ _ _ _ rfl rfl rfl rfl
 refine hK.mono ?_
 rintro r w' ⟨rfl,b⟩
 refine⟨ret_bool ?_,b⟩
 congr 1
 apply propext
 simp[or_assoc]
theorem right_any{w:World}{N R c:Nat}{oa:Option Addr}{l:List Ev}{s:Gs}(h:GW w N R (.slice oa l.length c) s)(hA:EsAt w oa l){i:Nat}{e:Ev}(hi:l[i]? =some e):
 Calls Tryz.prog 76 #[.pointer (some ⟨R,0,none⟩),.int .i64 (i:Int)] w fun r w'=>r=.returned (.bool (!(decide (2000≤i)||decide (chk e≠0))))∧Below w.heap.size w w':=by
 obtain⟨mb,vs,D,cs,h⟩:=h
 have hil:i<l.length:=(List.getElem?_eq_some_iff.1 hi).1
 obtain⟨b1,o1,rfl,-⟩:=hA i e hi
 obtain⟨p0,p1,p2,p3,p4,p5,p6,p7⟩:=hA.read hi
 have c0:w.cell? ⟨R,0,none⟩=some (.slice (some ⟨b1,o1,none⟩) l.length c):=cell_of h.hR 0
 have CK:=hide (check_any e w)
 unfold evv evc at CK
 have hiM:(i:Int)<(l.length:Int):=by omega
 obtain⟨q,hq⟩:∃q,chk e=q:=⟨_,rfl⟩
 rw[hq] at CK ⊢
 clear h hA hi hq
 generalize l.length=M at*
 by_cases h2:i<2000
 ·have d1:decide ((i:Int)<2000)=true:=by simp;omega
  have d2:decide (i<2000)=true:=by simp;omega
  have hR:(!(decide (2000≤i)||decide (q≠0)))=(q==0):=by
   rw[show decide (2000≤i)=false from by simp;omega]
   rw[Bool.eq_iff_iff];simp
  rw[hR]
  clear hR h2
  go_enter Tryz.func76,Tryz.ntmps76
  go_wp2_with fail
  refine CK.out.mono ?_
  rintro r w1 ⟨rfl,b1⟩
  have B1:=hide b1
  clear b1
  go_wp2_with fail
  go_ret
  exact⟨rfl,B1.out⟩
 ·have d1:decide ((i:Int)<2000)=false:=by simp;omega
  have d2:decide (i<2000)=false:=by simp;omega
  have hR:(!(decide (2000≤i)||decide (q≠0)))=false:=by
   rw[show decide (2000≤i)=true from by simp;omega];rfl
  rw[hR]
  clear hR h2
  go_enter Tryz.func76,Tryz.ntmps76
  go_wp2_with fail
  go_ret
  exact⟨rfl,Below.refl _ _⟩
end Gu
end Go.Proofs.YtogkjaekfhjelaaGreat
