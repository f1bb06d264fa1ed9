import Derived.Test.YtogkjaekfhjelaaGreatZjSg1
import Derived.Test.YtogkjaekfhjelaaGreatZjSg12
import Derived.Deep.MidRow
import Derived.Deep.WholeRow
import Derived.Maps.RangeWalk
import Derived.Maps.Views
import Derived.Deep.RegionHeld3
import Derived.WalkKit
import Derived.ProofKit
import Derived.OpenShut
import Derived.WalkLawsBesides
import Derived.WalkSpells
set_option maxHeartbeats 12800000
namespace Go.Proofs.YtogkjaekfhjelaaGreat
open Go.ChangeShapes Go.WideShapes Go.ChangeAt Go.RowKit
namespace Ck
structure C where
 b:Nat
 l:List Int
 s:Bool
 g:Option Nat
structure St(B:Nat)(w:World)(f:Nat→Option C):Prop where
 rep:∀i c,f i=some c→∃cap,Rep w c.b c.l c.s c.g cap
 ok:∀i c,f i=some c→Canon c.l∧Valid c.l∧B≤c.b∧∀x,c.g=some x→B≤x
 apart:∀i j c d,i≠j→f i=some c→f j=some d→Apart c.b c.s c.g d.b d.g
 base:B≤w.heap.size
def upd{α:Type}(f:Nat→Option α)(i:Nat)(c:α):Nat→Option α:=fun j=>if j=i then some c else f j
theorem upd_same{α:Type}(f:Nat→Option α)(i:Nat)(c:α):upd f i c i=some c:=by simp[upd]
theorem upd_other{α:Type}(f:Nat→Option α)(i j:Nat)(c:α)(h:j≠i):upd f i c j=f j:=by simp[upd,h]
def Cs(B:Nat)(w:World)(h:Nat→Option (Nat × List Int)):Prop:=∃f,St B w f∧∀i,h i=(f i).map fun c=>(c.b,c.l)
theorem within_refl(l:List Int):within l l=true:=within_yes l l fun _ _=>Int.le_refl _
theorem nth_nonneg{m:List Int}(hm:Valid m)(k:Nat):0≤nth m k:=by
 by_cases hk2:k<m.length
 ·have:=(okN_iff _).1 (hm k hk2)
  omega
 ·rw[nth_out m k (by omega)];exact Int.le_refl _
theorem within_all{l m:List Int}(hm:Valid m)(h:within l m=true):∀k,nth l k≤nth m k:=by
 intro k
 by_cases hk:k<l.length
 ·exact of_decide_eq_true h k hk
 ·rw[nth_out l k (by omega)]
  exact nth_nonneg hm k
theorem canon_last{l:List Int}(hc:Canon l)(h0:0<l.length):nth l (l.length - 1)≠0:=by
 have:=(tlen_is l).2.2
 unfold Canon at hc
 rw[hc] at this
 rcases this with h|h
 ·omega
 ·exact h
theorem valid_jn{l m:List Int}(hl:Valid l)(hm:Valid m):Valid (jn l m):=by
 intro k hk
 rw[nth_jn,okN_iff]
 have h1:=nth_nonneg hl k
 have h2:=nth_nonneg hm k
 have h3:nth l k≤1048576:=by
  by_cases q:k<l.length
  ·exact ((okN_iff _).1 (hl k q)).2
  ·rw[nth_out l k (by omega)];decide
 have h4:nth m k≤1048576:=by
  by_cases q:k<m.length
  ·exact ((okN_iff _).1 (hm k q)).2
  ·rw[nth_out m k (by omega)];decide
 omega
theorem canon_jn{l m:List Int}(hl:Valid l)(hm:Valid m)(cl:Canon l)(cm:Canon m):Canon (jn l m):=by
 have h:IsT (jn l m) (jn l m).length:=by
  refine⟨Nat.le_refl _,fun j hj=>nth_out _ _ hj,?_⟩
  rw[jn_length,nth_jn]
  by_cases h0:max l.length m.length=0
  ·exact .inl h0
  ·right
   have h1:=nth_nonneg hl (max l.length m.length - 1)
   have h2:=nth_nonneg hm (max l.length m.length - 1)
   by_cases q:l.length≤m.length
   ·have e:max l.length m.length=m.length:=by omega
    rw[e] at h1 h2 ⊢
    have:=canon_last cm (by omega)
    omega
   ·have e:max l.length m.length=l.length:=by omega
    rw[e] at h1 h2 ⊢
    have:=canon_last cl (by omega)
    omega
 exact h.uniq.symm
theorem jn_within{l m:List Int}(hl:Valid l)(hm:Valid m)(cl:Canon l)(cm:Canon m)(h:within m l=true):jn l m=l:=
 canon_eq (canon_jn hl hm cl cm) cl fun j=>by
  rw[nth_jn]
  have:=within_all hl h j
  omega
theorem Jr.done{w w':World}{b:Nat}{l:List Int}{s:Bool}{g:Option Nat}{b2:Nat}{m:List Int}{s2:Bool}{g2:Option Nat}{c2:Nat}{x:Bool}(h:Jr w b l s g b2 m s2 g2 c2 m.length x w')
 (hl:Valid l) (hm:Valid m) (cl:Canon l) (cm:Canon m):x=!within m l∧∃s' g' cap',Rep w' b (jn l m) s' g' cap'∧Nx w s g s' g'∧Fr (Mine b s g) w w':=by
 obtain⟨l',s',g',cap',r1,r2,hn,hx,nx,fr⟩:=h
 rcases hx with⟨rfl,hlen,j,hj⟩|⟨rfl,rfl,hall⟩
 ·have e:l'=jn l m:=by
   refine eq_of_nth (by rw[hlen,jn_length]) fun k _=>?_
   rw[hn k,nth_jn]
   by_cases q:k<m.length
   ·rw[if_pos q]
   ·rw[if_neg q,nth_out m k (by omega)]
    have:=nth_nonneg hl k
    omega
  subst e
  refine⟨?_,s',g',cap',r1,nx,fr⟩
  have:within m l=false:=by
   refine within_no m l j ?_ hj
   by_cases q:j<m.length
   ·exact q
   ·rw[nth_out m j (by omega)] at hj
    have:=nth_nonneg hl j
    omega
  rw[this];rfl
 ·have hw:within m l'=true:=within_yes m l' hall
  refine⟨by rw[hw];rfl,s',g',cap',?_,nx,fr⟩
  rw[jn_within hl hm cl cm hw]
  exact r1
theorem join_self(b:Nat)(l:List Int)(w:World)(h:CK w b l):
 Calls Tryz.prog 161 #[.pointer (some ⟨b,0,none⟩),.pointer (some ⟨b,0,none⟩)] w fun r w'=>r=.returned (.bool false)∧w'=w:=by
 have H:=hide h
 obtain⟨oa,c,s,h0,_,hA,hL⟩:=h
 go_enter Tryz.func161,Tryz.ntmps161
 go_wp2_with fail
 go_loop [5,19] (fun ch i=>ch=.bool false∧∃k:Nat,k≤l.length∧i=.int .i64 k) (fun _ i=>l.length - (intOf i).toNat)
 case atStart=>exact⟨rfl,0,Nat.zero_le _,rfl⟩
 case round=>
  obtain⟨rfl,k,hk,rfl⟩:=hrel
  by_cases hlt:k<l.length
  ·obtain⟨b',off,rfl,hc⟩:=hA k hlt
   have G:Hid (gt l (k:Int)=nth l k):=gt_nat l k
   clear hA
   go_wp2_with (go_at_call 84;refine (get_any b l _ _ H.out).mono ?_;rw[G.out];rintro r w' ⟨rfl,rfl⟩)
   go_round
   case rel=>exact⟨rfl,k+1,by omega,by go_num⟩
   case measure=>simp[intOf];omega
  ·go_wp2
   go_ret
   exact⟨rfl,rfl⟩
theorem upd_id{h:Nat→Option (Nat × List Int)}{i:Nat}{c:Nat × List Int}(hi:h i=some c):upd h i c=h:=by
 funext j
 by_cases e:j=i
 ·subst e;rw[upd_same,hi]
 ·rw[upd_other _ _ _ _ e]
end Ck
namespace Ck
def RA(w:World)(b off:Nat)(F:Nat→Int):Prop:=∀k,k<256→w.cell? ⟨b,off+k,none⟩=some (.int .i64 (F k))∧w.frozen? ⟨b,off+k,none⟩=false
def rg(F:Nat→Int)(t:Int):Int:=if 0≤t∧t<256 then F t.toNat else 0
end Ck
namespace Ck
def ra(F:Nat→Int):Array Value:=((List.range 256).map fun k=>Value.int .i64 (F k)).toArray
end Ck
namespace Ck
end Ck
namespace Ck
def nf:Nat→Int:=fun _=>0
end Ck
namespace Ck
structure Kp(X:Nat→Prop)(w w':World):Prop where
 os:w'.os=w.os
 tape:w'.tape=w.tape
 output:w'.output=w.output
 size:w.heap.size≤w'.heap.size
 block:∀k,X k→w'.heap[k]? =w.heap[k]?
theorem Kp.refl(X:Nat→Prop)(w:World):Kp X w w:=⟨rfl,rfl,rfl,Nat.le_refl _,fun _ _=>rfl⟩
theorem Kp.trans{X:Nat→Prop}{a b c:World}(h:Kp X a b)(k:Kp X b c):Kp X a c:=
 ⟨k.os.trans h.os,k.tape.trans h.tape,k.output.trans h.output,Nat.le_trans h.size k.size,fun j hj=>(k.block j hj).trans (h.block j hj)⟩
theorem Fr.kp{Y X:Nat→Prop}{w w':World}(h:Fr Y w w')(hX:∀k,X k→k<w.heap.size)(hY:∀k,Y k→¬X k):Kp X w w':=
 ⟨h.os,h.tape,h.output,h.size,fun k hk=>h.block k (hX k hk) (fun y=>hY k y hk)⟩
structure Sx(X:Nat→Prop)(w:World)(f:Nat→Option C):Prop where
 rep:∀i c,f i=some c→∃cap,Rep w c.b c.l c.s c.g cap
 ok:∀i c,f i=some c→Canon c.l∧Valid c.l∧¬X c.b∧∀x,c.g=some x→¬X x
 apart:∀i j c d,i≠j→f i=some c→f j=some d→Apart c.b c.s c.g d.b d.g
 base:∀k,X k→k<w.heap.size
theorem Sx.below{X:Nat→Prop}{w w':World}{f:Nat→Option C}(h:Sx X w f)(hb:Below w.heap.size w w'):Sx X w' f:=
 ⟨fun i c hc=>by obtain⟨cap,r⟩:=h.rep i c hc;exact⟨cap,r.below hb⟩,h.ok,h.apart,fun k hk=>Nat.lt_of_lt_of_le (h.base k hk) hb.size⟩
theorem Sx.change{X:Nat→Prop}{w w':World}{f:Nat→Option C}(h:Sx X w f){i:Nat}{c:C}(hi:f i=some c){l':List Int}{s':Bool}{g':Option Nat}{cap':Nat}
 (r:Rep w' c.b l' s' g' cap') (hc:Canon l') (hv:Valid l') (nx:Nx w c.s c.g s' g') (fr:Fr (Mine c.b c.s c.g) w w'):Sx X w' (upd f i ⟨c.b,l',s',g'⟩)∧Kp X w w':=by
 have hok:=h.ok i c hi
 have hbl:Kp X w w':=fr.kp h.base (fun k hk hx=>by
  rcases hk with rfl|⟨_,hk⟩
  ·exact hok.2.2.1 hx
  ·exact hok.2.2.2 k hk hx)
 refine⟨⟨fun j d hd=>?_,fun j d hd=>?_,fun j k d e hjk hd he=>?_,fun k hk=>Nat.lt_of_lt_of_le (h.base k hk) fr.size⟩,hbl⟩
 ·by_cases e:j=i
  ·subst e;rw[upd_same] at hd;simp at hd;subst hd;exact⟨cap',r⟩
  ·rw[upd_other _ _ _ _ e] at hd
   obtain⟨cap,rd⟩:=h.rep j d hd
   exact⟨cap,rd.fr fr (h.apart i j c d (Ne.symm e) hi hd)⟩
 ·by_cases e:j=i
  ·subst e;rw[upd_same] at hd;simp at hd;subst hd
   refine⟨hc,hv,hok.2.2.1,fun x hx=>?_⟩
   rcases nx with⟨_,e⟩|⟨_,y,hy,hle⟩
   ·exact hok.2.2.2 x (e ▸ hx)
   ·have hx':g'=some x:=hx
    rw[hy] at hx';simp at hx';intro q;have:=h.base x q;omega
  ·rw[upd_other _ _ _ _ e] at hd
   exact h.ok j d hd
 ·by_cases ej:j=i
  ·subst ej
   rw[upd_same] at hd;simp at hd;subst hd
   rw[upd_other _ _ _ _ (Ne.symm hjk)] at he
   obtain⟨cap,re⟩:=h.rep k e he
   exact (h.apart j k c e hjk hi he).next nx re.lt (fun x hx=>re.glt hx)
  ·rw[upd_other _ _ _ _ ej] at hd
   by_cases ek:k=i
   ·subst ek
    rw[upd_same] at he;simp at he;subst he
    have ap:=h.apart j k d c hjk hd hi
    obtain⟨cap,rd⟩:=h.rep j d hd
    refine⟨ap.1,fun q=>?_,fun hs x hx=>⟨(ap.2.2 hs x hx).1,fun q=>?_⟩⟩
    ·rcases nx with⟨_,e⟩|⟨_,y,hy,hle⟩
     ·exact ap.2.1 (e ▸ q)
     ·have q':g'=some d.b:=q
      rw[hy] at q';simp at q';have:=rd.lt;omega
    ·rcases nx with⟨_,e⟩|⟨_,y,hy,hle⟩
     ·exact (ap.2.2 hs x hx).2 (e ▸ q)
     ·have q':g'=some x:=q
      rw[hy] at q';simp at q';have:=rd.glt hx;omega
   ·rw[upd_other _ _ _ _ ek] at he
    exact h.apart j k d e hjk hd he
def Cx(X:Nat→Prop)(w:World)(h:Nat→Option (Nat × List Int)):Prop:=∃f,Sx X w f∧∀i,h i=(f i).map fun c=>(c.b,c.l)
theorem Cx.empty(X:Nat→Prop)(w:World)(hB:∀k,X k→k<w.heap.size):Cx X w (fun _=>none):=
 ⟨fun _=>none,⟨fun _ _ q=>by simp at q,fun _ _ q=>by simp at q,fun _ _ _ _ _ q=>by simp at q,hB⟩,fun _=>rfl⟩
theorem Cx.below{X:Nat→Prop}{w w':World}{h:Nat→Option (Nat × List Int)}(hs:Cx X w h)(hb:Below w.heap.size w w'):Cx X w' h:=by
 obtain⟨f,st,hf⟩:=hs
 exact⟨f,st.below hb,hf⟩
theorem Cx.get{X:Nat→Prop}{w:World}{h:Nat→Option (Nat × List Int)}(hs:Cx X w h){i b:Nat}{l:List Int}(hi:h i=some (b,l)):CK w b l∧Canon l∧Valid l:=by
 obtain⟨f,st,hf⟩:=hs
 rw[hf i] at hi
 cases hc:f i with
 |none=>rw[hc] at hi;simp at hi
 |some c=>
  rw[hc] at hi;simp at hi
  obtain⟨rfl,rfl⟩:=hi
  obtain⟨cap,r⟩:=st.rep i c hc
  exact⟨r.ck,(st.ok i c hc).1,(st.ok i c hc).2.1⟩
theorem Cx.base{X:Nat→Prop}{w:World}{h:Nat→Option (Nat × List Int)}(hs:Cx X w h):∀k,X k→k<w.heap.size:=by
 obtain⟨f,st,hf⟩:=hs
 exact st.base
theorem map_updx(f:Nat→Option C)(h:Nat→Option (Nat × List Int))(hf:∀i,h i=(f i).map fun c=>(c.b,c.l))(i:Nat)(c:C):∀j,upd h i (c.b,c.l) j=(upd f i c j).map fun c=>(c.b,c.l):=by
 intro j
 by_cases e:j=i
 ·subst e;rw[upd_same,upd_same];rfl
 ·rw[upd_other _ _ _ _ e,upd_other _ _ _ _ e];exact hf j
theorem Cx.fresh{X:Nat→Prop}{w w':World}{h:Nat→Option (Nat × List Int)}(hs:Cx X w h){l:List Int}{A:Nat}{g:Option Nat}{cap:Nat}(r:Rep w' A l false g cap)(hA:w.heap.size≤A)(hg:∀x,g=some x→w.heap.size≤x)(hb:Below w.heap.size w w')(hc:Canon l)(hv:Valid l)(i:Nat):Cx X w' (upd h i (A,l)):=by
 obtain⟨f,st,hf⟩:=hs
 have st':=st.below hb
 have hbase:=st.base
 refine⟨upd f i ⟨A,l,false,g⟩,⟨fun j d hd=>?_,fun j d hd=>?_,fun j k d e hjk hd he=>?_,st'.base⟩,map_updx f h hf i ⟨A,l,false,g⟩⟩
 ·by_cases e:j=i
  ·subst e;rw[upd_same] at hd;simp at hd;subst hd;exact⟨cap,r⟩
  ·rw[upd_other _ _ _ _ e] at hd;exact st'.rep j d hd
 ·by_cases e:j=i
  ·subst e;rw[upd_same] at hd;simp at hd;subst hd;exact⟨hc,hv,fun q=>by have:=hbase A q;omega,fun x hx q=>by have:=hg x hx;have:=hbase x q;omega⟩
  ·rw[upd_other _ _ _ _ e] at hd;exact st.ok j d hd
 ·by_cases ej:j=i
  ·subst ej
   rw[upd_same] at hd;simp at hd;subst hd
   rw[upd_other _ _ _ _ (Ne.symm hjk)] at he
   obtain⟨c1,re⟩:=st.rep k e he
   have:=re.lt
   refine⟨by show e.b≠A;omega,fun q=>?_,fun _ x hx=>⟨by have:=hg x hx;omega,fun q=>?_⟩⟩
   ·have:=re.glt q;have:A<w.heap.size:=this;omega
   ·have:=re.glt q;have:=hg x hx;omega
  ·rw[upd_other _ _ _ _ ej] at hd
   by_cases ek:k=i
   ·subst ek
    rw[upd_same] at he;simp at he;subst he
    obtain⟨c1,rd⟩:=st.rep j d hd
    have:=rd.lt
    refine⟨by show A≠d.b;omega,fun q=>by have:=hg _ q;omega,fun _ x hx=>⟨by have:=rd.glt hx;show x≠A;omega,fun q=>by have:=rd.glt hx;have:=hg _ q;omega⟩⟩
   ·rw[upd_other _ _ _ _ ek] at he
    exact st.apart j k d e hjk hd he
theorem cx_join{X:Nat→Prop}{w:World}{h:Nat→Option (Nat × List Int)}(hs:Cx X w h){i j b b2:Nat}{l m:List Int}(hi:h i=some (b,l))(hj:h j=some (b2,m)):
 Calls Tryz.prog 161 #[.pointer (some ⟨b,0,none⟩),.pointer (some ⟨b2,0,none⟩)] w fun r w'=>r=.returned (.bool (!within m l))∧Cx X w' (upd h i (b,jn l m))∧Kp X w w':=by
 have ki:=hs.get hi
 have kj:=hs.get hj
 by_cases e:i=j
 ·subst e
  rw[hi] at hj
  simp at hj
  obtain⟨rfl,rfl⟩:=hj
  rw[within_refl,jn_within ki.2.2 ki.2.2 ki.2.1 ki.2.1 (within_refl l),upd_id hi]
  refine (join_self b l w ki.1).mono ?_
  rintro r w' ⟨rfl,rfl⟩
  exact⟨rfl,hs,Kp.refl _ _⟩
 ·obtain⟨f,st,hf⟩:=hs
  rw[hf i] at hi
  rw[hf j] at hj
  cases hc:f i with
  |none=>rw[hc] at hi;simp at hi
  |some c=>
   cases hd:f j with
   |none=>rw[hd] at hj;simp at hj
   |some d=>
    rw[hc] at hi;simp at hi
    rw[hd] at hj;simp at hj
    obtain⟨rfl,rfl⟩:=hi
    obtain⟨rfl,rfl⟩:=hj
    obtain⟨cap,r1⟩:=st.rep i c hc
    obtain⟨cap2,r2⟩:=st.rep j d hd
    refine (join_any c.b d.b c.l d.l c.s d.s c.g d.g cap cap2 w r1 r2 (st.apart i j c d e hc hd)).mono ?_
    rintro r w' ⟨x,rfl,hjr⟩
    obtain⟨rfl,s',g',cap',r',nx,fr⟩:=hjr.done ki.2.2 kj.2.2 ki.2.1 kj.2.1
    obtain⟨st',hb⟩:=st.change hc r' (canon_jn ki.2.2 kj.2.2 ki.2.1 kj.2.1) (valid_jn ki.2.2 kj.2.2) nx fr
    exact⟨rfl,⟨_,st',map_updx f h hf i ⟨c.b,jn c.l d.l,s',g'⟩⟩,hb⟩
theorem cx_putted{X:Nat→Prop}{w w':World}{f:Nat→Option C}{h:Nat→Option (Nat × List Int)}(st:Sx X w f)(hf:∀i,h i=(f i).map fun c=>(c.b,c.l)){i:Nat}{c:C}(hc:f i=some c){t:Nat}{n:Int}(hn:okN n=true)
 (hp:Putted w c.b c.l c.s c.g t n w'):∃l',Canon l'∧Valid l'∧(∀j,nth l' j=if j=t then n else nth c.l j)∧Cx X w' (upd h i (c.b,l'))∧Kp X w w':=by
 obtain⟨l',s',g',cap',r',hcn,hnth,nx,fr⟩:=hp
 have hv:Valid l':=by
  intro k hk
  rw[hnth k]
  split
  ·exact hn
  ·by_cases q:k<c.l.length
   ·exact (st.ok i c hc).2.1 k q
   ·rw[nth_out _ _ (by omega)];decide
 obtain⟨st',hb⟩:=st.change hc r' hcn hv nx fr
 exact⟨l',hcn,hv,hnth,⟨_,st',map_updx f h hf i ⟨c.b,l',s',g'⟩⟩,hb⟩
theorem cx_set{X:Nat→Prop}{w:World}{h:Nat→Option (Nat × List Int)}(hs:Cx X w h){i b:Nat}{l:List Int}(hi:h i=some (b,l))(t:Nat)(n:Int)(ht:t<256)(hn:okN n=true):
 Calls Tryz.prog 74 #[.pointer (some ⟨b,0,none⟩),.int .i64 (t:Int),.int .i64 n] w fun r w'=>r=.returned (.int .i64 0)∧∃l',Canon l'∧Valid l'∧(∀j,nth l' j=if j=t then n else nth l j)∧Cx X w' (upd h i (b,l'))∧Kp X w w':=by
 have ki:=hs.get hi
 obtain⟨f,st,hf⟩:=hs
 rw[hf i] at hi
 cases hc:f i with
 |none=>rw[hc] at hi;simp at hi
 |some c=>
  rw[hc] at hi;simp at hi
  obtain⟨rfl,rfl⟩:=hi
  obtain⟨cap,r1⟩:=st.rep i c hc
  refine (set_ok c.b c.l c.s c.g cap t n w r1 ki.2.1 ht hn).mono ?_
  rintro r w' ⟨rfl,hp⟩
  exact⟨rfl,cx_putted st hf hc hn hp⟩
theorem cx_tick{X:Nat→Prop}{w:World}{h:Nat→Option (Nat × List Int)}(hs:Cx X w h){i b:Nat}{l:List Int}(hi:h i=some (b,l))(t:Nat)(n:Int)(ht:t<256)(hn:okM n=true)(hlt:nth l t<n):
 Calls Tryz.prog 164 #[.pointer (some ⟨b,0,none⟩),.int .i64 (t:Int),.int .i64 n] w fun r w'=>r=.returned (.int .i64 0)∧∃l',Canon l'∧Valid l'∧(∀j,nth l' j=if j=t then nth l t+1 else nth l j)∧Cx X w' (upd h i (b,l'))∧Kp X w w':=by
 have ki:=hs.get hi
 obtain⟨f,st,hf⟩:=hs
 rw[hf i] at hi
 cases hc:f i with
 |none=>rw[hc] at hi;simp at hi
 |some c=>
  rw[hc] at hi;simp at hi
  obtain⟨rfl,rfl⟩:=hi
  obtain⟨cap,r1⟩:=st.rep i c hc
  have h0:=nth_nonneg ki.2.2 t
  refine (tick_ok c.b c.l c.s c.g cap t n w r1 ki.2.1 ht hn h0 hlt).mono ?_
  rintro r w' ⟨rfl,hp⟩
  exact⟨rfl,cx_putted st hf hc (by rw[okM_iff] at hn;rw[okN_iff];omega) hp⟩
theorem cx_copy{X:Nat→Prop}{w:World}{h:Nat→Option (Nat × List Int)}(hs:Cx X w h){k b:Nat}{l:List Int}(hk:h k=some (b,l)):
 Calls Tryz.prog 122 #[.pointer (some ⟨b,0,none⟩)] w fun r w'=>∃A,r=.returned (.pointer (some ⟨A,0,none⟩))∧(∀i,Cx X w' (upd h i (A,l)))∧Kp X w w':=by
 obtain⟨f,st,hf⟩:=hs
 rw[hf k] at hk
 cases hc:f k with
 |none=>rw[hc] at hk;simp at hk
 |some c=>
  rw[hc] at hk;simp at hk
  obtain⟨rfl,rfl⟩:=hk
  obtain⟨cap,r1⟩:=st.rep k c hc
  have hok:=st.ok k c hc
  refine (copy_any c.b c.l c.s c.g cap w r1).mono ?_
  rintro r w' ⟨rfl,hw'⟩
  obtain⟨r2,r3,fr,hsz⟩:=copy_reps r1 hw'
  clear hw'
  have fr':Fr (Mine c.b c.s c.g) w w':=fr.trans (Fr.refl (fun _=>False) _) (fun _ _ q=>q.elim)|>fun q=>⟨q.os,q.tape,q.output,q.size,fun j hj hx=>q.block j hj (fun e=>hx (.inl e))⟩
  have hbl:Kp X w w':=fr.kp st.base (fun j e hx=>by subst e;exact hok.2.2.1 hx)
  have st1:Sx X w' (upd f k ⟨c.b,c.l,true,c.g⟩):=by
   refine⟨fun j d hd=>?_,fun j d hd=>?_,fun j m d e hjm hd he=>?_,fun k hk=>Nat.lt_of_lt_of_le (st.base k hk) fr.size⟩
   ·by_cases e:j=k
    ·subst e;rw[upd_same] at hd;simp at hd;subst hd;exact⟨_,r2⟩
    ·rw[upd_other _ _ _ _ e] at hd
     obtain⟨cd,rd⟩:=st.rep j d hd
     exact⟨cd,rd.fr fr' (st.apart k j c d (Ne.symm e) hc hd)⟩
   ·by_cases e:j=k
    ·subst e;rw[upd_same] at hd;simp at hd;subst hd;exact hok
    ·rw[upd_other _ _ _ _ e] at hd;exact st.ok j d hd
   ·by_cases ej:j=k
    ·subst ej
     rw[upd_same] at hd;simp at hd;subst hd
     rw[upd_other _ _ _ _ (Ne.symm hjm)] at he
     have ap:=st.apart j m c e hjm hc he
     exact⟨ap.1,ap.2.1,fun q=>by simp at q⟩
    ·rw[upd_other _ _ _ _ ej] at hd
     by_cases ek:m=k
     ·subst ek
      rw[upd_same] at he;simp at he;subst he
      have ap:=st.apart j m d c hjm hd hc
      exact⟨ap.1,ap.2.1,ap.2.2⟩
     ·rw[upd_other _ _ _ _ ek] at he
      exact st.apart j m d e hjm hd he
  refine⟨_,rfl,fun i=>?_,hbl⟩
  refine⟨upd (upd f k ⟨c.b,c.l,true,c.g⟩) i ⟨w.heap.size,c.l,true,c.g⟩,⟨fun j d hd=>?_,fun j d hd=>?_,fun j m d e hjm hd he=>?_,st1.base⟩,fun j=>?_⟩
  ·by_cases e:j=i
   ·subst e;rw[upd_same] at hd;simp at hd;subst hd;exact⟨_,r3⟩
   ·rw[upd_other _ _ _ _ e] at hd;exact st1.rep j d hd
  ·by_cases e:j=i
   ·subst e;rw[upd_same] at hd;simp at hd;subst hd;exact⟨hok.1,hok.2.1,fun q=>Nat.lt_irrefl _ (st.base _ q),hok.2.2.2⟩
   ·rw[upd_other _ _ _ _ e] at hd;exact st1.ok j d hd
  ·
   have lts:∀j d,j≠i→upd f k ⟨c.b,c.l,true,c.g⟩ j=some d→d.b<w.heap.size∧(∀x,d.g=some x→x<w.heap.size):=by
    intro j d _ hd
    by_cases e:j=k
    ·subst e;rw[upd_same] at hd;simp at hd;subst hd;exact⟨r1.lt,fun x hx=>r1.glt hx⟩
    ·rw[upd_other _ _ _ _ e] at hd
     obtain⟨cd,rd⟩:=st.rep j d hd
     exact⟨rd.lt,fun x hx=>rd.glt hx⟩
   by_cases ej:j=i
   ·subst ej
    rw[upd_same] at hd;simp at hd;subst hd
    rw[upd_other _ _ _ _ (Ne.symm hjm)] at he
    obtain⟨l1,l2⟩:=lts m e (Ne.symm hjm) he
    exact⟨by show e.b≠w.heap.size;omega,fun q=>by have:=l2 _ q;have:w.heap.size<w.heap.size:=this;omega,fun q=>by simp at q⟩
   ·rw[upd_other _ _ _ _ ej] at hd
    by_cases ek:m=i
    ·subst ek
     rw[upd_same] at he;simp at he;subst he
     obtain⟨l1,l2⟩:=lts j d ej hd
     have hself:d.s=false→∀x,d.g=some x→c.g≠some x:=by
      intro hs x hx
      by_cases e:j=k
      ·subst e;rw[upd_same] at hd;simp at hd;subst hd;simp at hs
      ·rw[upd_other _ _ _ _ e] at hd
       exact ((st.apart j k d c e hd hc).2.2 hs x hx).2
     have hb2:c.g≠some d.b:=by
      by_cases e:j=k
      ·subst e;rw[upd_same] at hd;simp at hd;subst hd
       intro q
       exact (r1.data _ q).1 rfl
      ·rw[upd_other _ _ _ _ e] at hd
       exact (st.apart j k d c e hd hc).2.1
     exact⟨by show w.heap.size≠d.b;omega,hb2,fun hs x hx=>⟨by have:=l2 x hx;show x≠w.heap.size;omega,hself hs x hx⟩⟩
    ·rw[upd_other _ _ _ _ ek] at he
     exact st1.apart j m d e hjm hd he
  ·by_cases e:j=i
   ·subst e;rw[upd_same,upd_same];rfl
   ·rw[upd_other _ _ _ _ e,upd_other _ _ _ _ e]
    by_cases e2:j=k
    ·subst e2;rw[upd_same,hf j,hc];rfl
    ·rw[upd_other _ _ _ _ e2];exact hf j
theorem Cx.other{X:Nat→Prop}{w w':World}{h:Nat→Option (Nat × List Int)}(hs:Cx X w h)(hsz:w.heap.size≤w'.heap.size)(hb:∀k,k<w.heap.size→¬X k→w'.heap[k]? =w.heap[k]?):Cx X w' h:=by
 obtain⟨f,st,hf⟩:=hs
 refine⟨f,⟨fun i c hc=>?_,st.ok,st.apart,fun k hk=>Nat.lt_of_lt_of_le (st.base k hk) hsz⟩,hf⟩
 obtain⟨cap,r⟩:=st.rep i c hc
 have ok:=st.ok i c hc
 exact⟨cap,r.keep (hb _ r.lt ok.2.2.1) (fun x hx=>hb _ (r.glt hx) (ok.2.2.2 x hx))⟩
def XX(w0:World)(S R:Nat):Nat→Prop:=fun k=>k<w0.heap.size∨k=S∨k=R
def hh(P:Nat→Nat)(L:Nat→List Int):Nat→Option (Nat × List Int):=fun i=>if i<3 then some (P i,L i) else none
def up{α:Type}(f:Nat→α)(i:Nat)(v:α):Nat→α:=fun j=>if j=i then v else f j
def ptrs(P:Nat→Nat):Array Value:=#[.pointer (some ⟨P 0,0,none⟩),.pointer (some ⟨P 1,0,none⟩),.pointer (some ⟨P 2,0,none⟩)]
structure HS(w0:World)(S R:Nat)(P:Nat→Nat)(L:Nat→List Int)(F:Nat→Nat→Int)(wr:World):Prop where
 cx:Cx (XX w0 S R) wr (hh P L)
 sl:wr.heap[S]? =some (.cells (ptrs P) 63 (0,0))
 ra:∀i,i<3→RA wr R (i*256) (F i)
 bl:Below w0.heap.size w0 wr
 hS:w0.heap.size≤S
 hR:w0.heap.size≤R
 ne:S≠R
end Ck
namespace Wa
open Ck
open Go.Maps (Keyed int_keyed keyOf_int_mk)
def mV(t:Int)(b:Nat):Value:=.agg #[.int .i64 t,.pointer (some ⟨b,0,none⟩)]
def mZ:Value:=.agg #[.int .i64 0,.pointer none]
def mD(t:Int)(b:Nat):DataW Unit:=.agg [.lit (.int .i64 t),.lit (.int .i64 (b:Int))]
def mE:Value→Option (DataW Unit × List MemPlace)
 |.agg a=>match a.toList with
  |[.int .i64 t,.pointer none]=>if t=0 then some (.nil,[]) else none
  |[.int .i64 t,.pointer (some ⟨b,0,none⟩)]=>some (mD t b,[])
  |_=>none
 |_=>none
theorem mE_z:mE mZ=some (.nil,[]):=rfl
theorem mE_v(t:Int)(b:Nat):mE (mV t b)=some (mD t b,[]):=rfl
theorem mE_inv{v:Value}{y:DataW Unit × List MemPlace}(h:mE v=some y):(v=mZ∧y=(.nil,[]))∨∃t b,v=mV t b∧y=(mD t b,[]):=by
 unfold mE at h
 split at h
 ·rename_i a
  split at h
  ·rename_i t he
   split at h
   ·cases h
    rename_i ht
    subst ht
    left
    refine⟨?_,rfl⟩
    unfold mZ
    congr 1
    exact Array.ext' (by rw[he])
   ·cases h
  ·rename_i t b he
   cases h
   right
   refine⟨t,b,?_,rfl⟩
   unfold mV
   congr 1
   exact Array.ext' (by rw[he])
  ·cases h
 ·cases h
theorem mD_inj{t t':Int}{b b':Nat}(h:mD t b=mD t' b'):t=t'∧b=b':=by
 unfold mD at h
 simp at h
 omega
theorem law:Keyed Tryz.prog 3:=int_keyed Tryz.underlying3
theorem info_tm:(Tryz.prog.info? 133).map (fun i=>(i.zero,i.size))=some (some mZ,2):=by kernel_rfl
theorem zero_tm(w:World):(zeroValue 133).run Tryz.prog w=.ok mZ w:=(zero_of_info info_tm).1 w
def kl(g:Int):Lit:=.int .i64 g
theorem kl_inj{a b:Int}(h:kl a=kl b):a=b:=by cases h;rfl
theorem key_kl(g:Int)(h:(Lit.int .i64 g).wf=true):keyOf Tryz.prog 3 (.int .i64 g)=some (kl g):=keyOf_int_mk Tryz.underlying3 h
structure MI(D:DataW Unit)(f:Int→Option (Nat × Nat)):Prop where
 tidy:Maps.Tidy D
 has:∀g,Maps.has D (kl g)=(f g).isSome
 at_:∀g t b z,f g=some (t,b)→D.atKey (kl g) z=mD (t:Int) b
theorem MI.no{D:DataW Unit}{f:Int→Option (Nat × Nat)}(h:MI D f){g:Int}(e:f g=none)(z:DataW Unit):D.atKey (kl g) z=z:=Maps.atKey_of_not_has (by rw[h.has,e];rfl) z
theorem lit_key(g:Int)(h:(Lit.int .i64 g).wf=true):WideAt.IsKeyLit (kl g):=law.key (key_kl g h)
def upf(f:Int→Option (Nat × Nat))(g:Int)(v:Option (Nat × Nat)):Int→Option (Nat × Nat):=fun x=>if x=g then v else f x
theorem upf_same(f:Int→Option (Nat × Nat))(g:Int)(v:Option (Nat × Nat)):upf f g v g=v:=if_pos rfl
theorem upf_other(f:Int→Option (Nat × Nat))(g x:Int)(v:Option (Nat × Nat))(h:x≠g):upf f g v x=f x:=if_neg h
theorem MI.put{D:DataW Unit}{f:Int→Option (Nat × Nat)}(h:MI D f){g:Int}(hg:(Lit.int .i64 g).wf=true)(t b:Nat):MI (D.put (kl g) (mD (t:Int) b)) (upf f g (some (t,b))):=by
 refine⟨h.tidy.put (lit_key g hg) _,fun x=>?_,fun x t' b' z e=>?_⟩
 ·by_cases q:x=g
  ·subst q
   rw[Maps.has_put_same h.tidy.isMap (lit_key x hg),upf_same];rfl
  ·rw[Maps.has_put_other (fun e=>q (kl_inj e)),h.has,upf_other _ _ _ _ q]
 ·by_cases q:x=g
  ·subst q
   rw[upf_same] at e
   cases e
   exact Maps.atKey_put_same h.tidy.isMap (lit_key x hg) _ _
  ·rw[upf_other _ _ _ _ q] at e
   rw[Maps.atKey_put_other (fun e=>q (kl_inj e))]
   exact h.at_ x t' b' z e
def hx(h:Nat→Option (List Int)):Nat→Option (Nat × List Int):=fun b=>(h b).map fun l=>(b,l)
theorem hx_at{h:Nat→Option (List Int)}{b:Nat}{l:List Int}(e:h b=some l):hx h b=some (b,l):=by simp[hx,e]
theorem hx_upd(h:Nat→Option (List Int))(b:Nat)(l:List Int):upd (hx h) b (b,l)=hx (upd h b l):=by
 funext j
 unfold upd hx
 by_cases e:j=b<;>simp[e]
def Ext(h h':Nat→Option (List Int)):Prop:=∀b l,h b=some l→h' b=some l
theorem Ext.upd{h:Nat→Option (List Int)}{A:Nat}{l:List Int}(e:h A=none):Ext h (upd h A l):=by
 intro b l' hb
 have:b≠A:=fun q=>by rw[q,e] at hb;cases hb
 rw[upd_other _ _ _ _ this]
 exact hb
theorem Kp.mono{X Y:Nat→Prop}{w w':World}(h:Kp X w w')(i:∀k,Y k→X k):Kp Y w w':=⟨h.os,h.tape,h.output,h.size,fun k hk=>h.block k (i k hk)⟩
theorem Kp.of{X:Nat→Prop}{w w':World}(h:Below w.heap.size w w')(hX:∀k,X k→k<w.heap.size):Kp X w w':=⟨h.os,h.tape,h.output,h.size,fun k hk=>h.block k (hX k hk)⟩
theorem cx_ext{X X':Nat→Prop}{w w':World}{h:Nat→Option (Nat × List Int)}(hs:Cx X w h)(hb:∀k,k<w.heap.size→¬X k→w'.heap[k]? =w.heap[k]?)
 (hi:∀k,X' k→X k∨w.heap.size≤k) (hd:∀k,X' k→k<w'.heap.size):Cx X' w' h:=by
 obtain⟨f,st,hf⟩:=hs
 have key:∀i c,f i=some c→c.b<w.heap.size∧∀x,c.g=some x→x<w.heap.size:=fun i c hc=>by
  obtain⟨cap,r⟩:=st.rep i c hc
  exact⟨r.lt,fun x hx=>r.glt hx⟩
 refine⟨f,⟨fun i c hc=>?_,fun i c hc=>?_,st.apart,hd⟩,hf⟩
 ·obtain⟨cap,r⟩:=st.rep i c hc
  have ok:=st.ok i c hc
  exact⟨cap,r.keep (hb _ r.lt ok.2.2.1) (fun x hx=>hb _ (r.glt hx) (ok.2.2.2 x hx))⟩
 ·have ok:=st.ok i c hc
  have kk:=key i c hc
  refine⟨ok.1,ok.2.1,fun q=>?_,fun x hx q=>?_⟩
  ·rcases hi _ q with q|q
   ·exact ok.2.2.1 q
   ·omega
  ·rcases hi _ q with q|q
   ·exact ok.2.2.2 x hx q
   ·have:=kk.2 x hx;omega
theorem cx_new{X:Nat→Prop}{w w':World}{h:Nat→Option (List Int)}{A:Nat}{l:List Int}(hs:Cx X w (hx h))(hn:∀i,Cx X w' (upd (hx h) i (A,l))):h A=none:=by
 cases hA:h A with
 |none=>rfl
 |some l0=>
  exfalso
  have h1:=(hs.get (hx_at hA)).1.lt
  have h2:h w.heap.size=none:=by
   cases e:h w.heap.size with
   |none=>rfl
   |some l1=>exact absurd (hs.get (hx_at e)).1.lt (Nat.lt_irrefl _)
  obtain⟨f,st,hf⟩:=hn w.heap.size
  have e1:=hf w.heap.size
  rw[upd_same] at e1
  have e2:=hf A
  rw[upd_other _ _ _ _ (by omega),hx_at hA] at e2
  cases q1:f w.heap.size with
  |none=>rw[q1] at e1;simp at e1
  |some c=>
   cases q2:f A with
   |none=>rw[q2] at e2;simp at e2
   |some d=>
    rw[q1] at e1
    rw[q2] at e2
    simp at e1 e2
    have ap:=st.apart w.heap.size A c d (by omega) q1 q2
    exact ap.1 (by rw[←e1.1,←e2.1])
def NB:Nat:=100000
theorem own_tight{w:World}{mb n m:Nat}{D:DataW Unit}(h:w.ownsMap Tryz.prog 3 mE mb n D)(hm:Maps.size D≤m):w.ownsMap Tryz.prog 3 mE mb m D:=by
 obtain⟨es,clock,hb,F,hs,rfl⟩:=h
 refine⟨es,clock,hb,F,?_,rfl⟩
 rw[Maps.size_eq,length_read] at hm
 exact hm
structure Wst where
 T:Nat
 M:Nat
 n:Nat
 f:Int→Option (Nat × Nat)
def Xw(Y:Nat→Prop)(B mb:Nat):Nat→Prop:=fun k=>Y k∨k=B∨k=mb
structure WX(Y:Nat→Prop)(B:Nat)(w:World)(st:Wst)(h:Nat→Option (List Int))(mb:Nat)(D:DataW Unit):Prop where
 hp:w.heap[B]? =some (.cells #[.int .i64 (st.T:Int),.int .i64 (st.M:Int),.map (some mb)] 95 (0,0))
 ow:w.ownsMap Tryz.prog 3 mE mb NB D
 mi:MI D st.f
 sz:Maps.size D=st.n
 ne:B≠mb
 yb:¬Y B
 ym:¬Y mb
 cx:Cx (Xw Y B mb) w (hx h)
 dom:∀g t b,st.f g=some (t,b)→∃l,h b=some l
 inj:∀g g' t t' b,st.f g=some (t,b)→st.f g'=some (t',b)→g=g'
 tid:∀g t b,st.f g=some (t,b)→t<256
 bd:st.T≤256∧1≤st.M∧st.M≤1048576∧st.n≤10000
def WW(Y:Nat→Prop)(B:Nat)(w:World)(st:Wst)(h:Nat→Option (List Int)):Prop:=∃mb D,WX Y B w st h mb D
theorem WX.lt{Y:Nat→Prop}{B:Nat}{w:World}{st:Wst}{h:Nat→Option (List Int)}{mb:Nat}{D:DataW Unit}(s:WX Y B w st h mb D):B<w.heap.size:=(Array.getElem?_eq_some_iff.1 s.hp).1
theorem WX.ylt{Y:Nat→Prop}{B:Nat}{w:World}{st:Wst}{h:Nat→Option (List Int)}{mb:Nat}{D:DataW Unit}(s:WX Y B w st h mb D):∀k,Y k→k<w.heap.size:=fun k hk=>s.cx.base k (.inl hk)
theorem own_kp{X:Nat→Prop}{w w':World}{mb n:Nat}{D:DataW Unit}(h:w.ownsMap Tryz.prog 3 mE mb n D)(k:Kp X w w')(hX:X mb):w'.ownsMap Tryz.prog 3 mE mb n D:=by
 obtain⟨es,clock,hb,r⟩:=h
 exact⟨es,clock,(k.block mb hX).trans hb,r⟩
theorem WX.clk{Y:Nat→Prop}{B:Nat}{w w':World}{st:Wst}{h h':Nat→Option (List Int)}{mb:Nat}{D:DataW Unit}(s:WX Y B w st h mb D)(c:Cx (Xw Y B mb) w' (hx h'))(k:Kp (Xw Y B mb) w w')(hd:∀b l,h b=some l→∃l',h' b=some l'):WX Y B w' st h' mb D:=
 ⟨(k.block B (.inr (.inl rfl))).trans s.hp,own_kp s.ow k (.inr (.inr rfl)),s.mi,s.sz,s.ne,s.yb,s.ym,c,fun g t b e=>by
   obtain⟨l,q⟩:=s.dom g t b e
   exact hd b l q,s.inj,s.tid,s.bd⟩
theorem WX.below{Y:Nat→Prop}{B:Nat}{w w':World}{st:Wst}{h:Nat→Option (List Int)}{mb:Nat}{D:DataW Unit}(s:WX Y B w st h mb D)(b:Below w.heap.size w w'):WX Y B w' st h mb D:=
 s.clk (s.cx.below b) (Kp.of b s.cx.base) fun _ l e=>⟨l,e⟩
theorem copy_wx{Y:Nat→Prop}{B:Nat}{w:World}{st:Wst}{h:Nat→Option (List Int)}{mb:Nat}{D:DataW Unit}(s:WX Y B w st h mb D){b:Nat}{l:List Int}(e:h b=some l):
 Calls Tryz.prog 122 #[.pointer (some ⟨b,0,none⟩)] w fun r w'=>∃A,r=.returned (.pointer (some ⟨A,0,none⟩))∧h A=none∧WX Y B w' st (upd h A l) mb D∧Kp (Xw Y B mb) w w':=by
 refine (cx_copy s.cx (hx_at e)).mono ?_
 rintro r w' ⟨A,rfl,hc,kp⟩
 have hA:=cx_new s.cx hc
 exact⟨A,rfl,hA,s.clk (by rw[←hx_upd];exact hc A) kp fun b' l' e'=>⟨l',Ext.upd hA b' l' e'⟩,kp⟩
def fv:Option (Nat × Nat)→Value
 |none=>mZ
 |some (t,b)=>mV (t:Int) b
theorem loadVar_tm{w:World}{b:Nat}{c:Array Value}{t:TypeId}(h:w.heap[b]? =some (.cells c t (0,0)))(hc:c.size=2):(loadVar 133 ⟨b,0,none⟩).run Tryz.prog w=.ok (.agg c) w:=
 run_loadVar_row w b t _ _ _ _ h Tryz.underlying133 rfl (by rw[(zero_of_info info_tm).2,hc])
end Wa
namespace Wa
open Ck
open Go.Maps (Keyed int_keyed keyOf_int_mk)
theorem look_shape{D:DataW Unit}{f:Int→Option (Nat × Nat)}(h:MI D f){g:Int}{v:Value}{ps:List MemPlace}(e:mE v=some (D.atKey (kl g) .nil,ps)):v=fv (f g):=by
 cases hf:f g with
 |none=>
  rw[h.no hf] at e
  rcases mE_inv e with⟨rfl,-⟩|⟨t,b,rfl,q⟩
  ·rfl
  ·cases q
 |some p=>
  obtain⟨t,b⟩:=p
  rw[h.at_ g t b .nil hf] at e
  rcases mE_inv e with⟨rfl,q⟩|⟨t',b',rfl,q⟩
  ·cases q
  ·obtain⟨rfl,rfl⟩:=mD_inj (congrArg Prod.fst q)
   rfl
set_option maxRecDepth 100000 in
theorem find_some{Y:Nat→Prop}{B:Nat}{w:World}{st:Wst}{h:Nat→Option (List Int)}{mb:Nat}{D:DataW Unit}(s:WX Y B w st h mb D)(g:Int)(hg:(Lit.int .i64 g).wf=true)(t b:Nat)(hf:st.f g=some (t,b)):
 Calls Tryz.prog 83 #[.pointer (some ⟨B,0,none⟩),.int .i64 g] w fun r w'=>r=.returned (.tuple #[mV (t:Int) b,.bool true])∧Below w.heap.size w w':=by
 have y2:w.cell? ⟨B,2,none⟩=some (.map (some mb)):=cell_of s.hp 2
 have hlt:=s.lt
 have OW:=hide (s.ow.alloc (.cells #[.int .i64 0,.pointer none] 133))
 have HK:=hide (key_kl g hg)
 have LS:=hide (fun v ps (e:mE v=some (D.atKey (kl g) .nil,ps))=>look_shape s.mi e)
 rw[hf] at LS
 have hh:Maps.has D (kl g)=true:=by rw[s.mi.has,hf];rfl
 unfold fv mV at LS
 unfold mV
 clear s hg
 go_enter Tryz.func83,Tryz.ntmps83
 go_wp2_with (at_lookup;refine wpList_lookup_own_ok _ rfl _ _ 93 rfl 3 133 law Tryz.underlying93 mE (zero_tm _) .nil [] mE_z mb NB D rfl OW.out _ _ rfl HK.out ?_;intro v ps hv;obtain rfl:=LS.out v ps hv;clear hv)
 exact bodyPost_ret (Ba.results_row2 Tryz.results83 _ _ _ _ _ rfl rfl (loadVar_tm (Ba.heap_below (heap_new w _) (below_alloc _ _)) rfl)) rfl ⟨rfl,btr (below_alloc _ _) (below_alloc _ _)⟩
set_option maxRecDepth 100000 in
theorem find_none{Y:Nat→Prop}{B:Nat}{w:World}{st:Wst}{h:Nat→Option (List Int)}{mb:Nat}{D:DataW Unit}(s:WX Y B w st h mb D)(g:Int)(hg:(Lit.int .i64 g).wf=true)(hf:st.f g=none):
 Calls Tryz.prog 83 #[.pointer (some ⟨B,0,none⟩),.int .i64 g] w fun r w'=>r=.returned (.tuple #[mZ,.bool false])∧Below w.heap.size w w':=by
 have y2:w.cell? ⟨B,2,none⟩=some (.map (some mb)):=cell_of s.hp 2
 have hlt:=s.lt
 have OW:=hide (s.ow.alloc (.cells #[.int .i64 0,.pointer none] 133))
 have HK:=hide (key_kl g hg)
 have LS:=hide (fun v ps (e:mE v=some (D.atKey (kl g) .nil,ps))=>look_shape s.mi e)
 rw[hf] at LS
 have hh:Maps.has D (kl g)=false:=by rw[s.mi.has,hf];rfl
 unfold fv mZ at LS
 unfold mZ
 clear s hg
 go_enter Tryz.func83,Tryz.ntmps83
 go_wp2_with (at_lookup;refine wpList_lookup_own_ok _ rfl _ _ 93 rfl 3 133 law Tryz.underlying93 mE (zero_tm _) .nil [] mE_z mb NB D rfl OW.out _ _ rfl HK.out ?_;intro v ps hv;obtain rfl:=LS.out v ps hv;clear hv)
 exact bodyPost_ret (Ba.results_row2 Tryz.results83 _ _ _ _ _ rfl rfl (loadVar_tm (Ba.heap_below (heap_new w _) (below_alloc _ _)) rfl)) rfl ⟨rfl,btr (below_alloc _ _) (below_alloc _ _)⟩
theorem room_any{Y:Nat→Prop}{B:Nat}{w:World}{st:Wst}{h:Nat→Option (List Int)}{mb:Nat}{D:DataW Unit}(s:WX Y B w st h mb D):
 Calls Tryz.prog 42 #[.pointer (some ⟨B,0,none⟩)] w fun r w'=>r=.returned (.bool (decide (st.n<st.T)))∧Below w.heap.size w w':=by
 have y0:w.cell? ⟨B,0,none⟩=some (.int .i64 (st.T:Int)):=cell_of s.hp 0
 have y2:w.cell? ⟨B,2,none⟩=some (.map (some mb)):=cell_of s.hp 2
 have hl:∀ty,(Builtin.len_ #[93] ty #[.map (some mb)]).run Tryz.prog w.drew=.ok (.int .i64 (st.n:Int)) w.drew:=fun ty=>by rw[←s.sz];exact s.ow.drew.len Tryz.underlying93 ty
 have e:decide (st.n<st.T)=decide ((st.n:Int)<(st.T:Int)):=by simp
 rw[e]
 clear s e
 generalize (st.n:Int)=a at*
 generalize (st.T:Int)=c at*
 go_enter Tryz.func42,Tryz.ntmps42
 go_wp2_with fail
 go_region
 all_goals
  go_wp2_with fail
  go_ret
  exact⟨rfl,Ba.bdrew1 _⟩
def IsSet(l l':List Int)(t:Nat)(n:Int):Prop:=Canon l'∧Valid l'∧∀j,nth l' j=if j=t then n else nth l j
set_option maxRecDepth 100000 in
theorem begin_any{Y:Nat→Prop}{B:Nat}{w:World}{st:Wst}{h:Nat→Option (List Int)}{mb:Nat}{D:DataW Unit}(s:WX Y B w st h mb D)(g:Int)(hg:(Lit.int .i64 g).wf=true)(t c:Nat)(l:List Int)(ht:t<256)(hc:h c=some l)(hf:st.f g=none)(hfr:∀g' t',st.f g'≠some (t',c))(hn:st.n<10000):
 Calls Tryz.prog 38 #[.pointer (some ⟨B,0,none⟩),.int .i64 g,.int .i64 (t:Int),.pointer (some ⟨c,0,none⟩)] w fun r w'=>r=.returned (.tuple #[])∧∃l',IsSet l l' t 1∧WW Y B w' {st with n:=st.n+1,f:=upf st.f g (some (t,c))} (upd h c l')∧Kp Y w w':=by
 have CS:=hide (cx_set s.cx (hx_at hc) t 1 ht (by decide))
 have HS:=hide s
 have HK:=hide (key_kl g hg)
 have hlt:=s.lt
 clear s hc
 go_enter Tryz.func38,Tryz.ntmps38
 go_wp2_with fail
 refine CS.out.mono ?_
 rintro r w1 ⟨rfl,l',c1,v1,n1,cx1,kp1⟩
 have S1:Hid (WX Y B w1 st (upd h c l') mb D):=HS.out.clk (by rw[←hx_upd];exact cx1) kp1 (fun b' l2 e=>by
  by_cases q:b'=c
  ·exact⟨l',by rw[q];exact upd_same _ _ _⟩
  ·exact⟨l2,by rw[upd_other _ _ _ _ q];exact e⟩)
 have L1:Hid (IsSet l l' t 1):=⟨c1,v1,n1⟩
 have K1:=hide (Kp.mono (Y:=Y) kp1 fun k q=>.inl q)
 have y2:w1.cell? ⟨B,2,none⟩=some (.map (some mb)):=cell_of S1.out.hp 2
 have OT:=hide (own_tight S1.out.ow (m:=st.n) (by rw[S1.out.sz];exact Nat.le_refl _))
 clear c1 v1 n1 cx1 kp1
 go_wp2_with (at_mapUpdate;refine wpList_mapUpdate_own _ rfl _ _ _ 93 rfl 3 133 law Tryz.underlying93 mE mb st.n D rfl OT.out (by unfold maxLen;omega) _ _ _ rfl rfl HK.out (mD (t:Int) c) [] (mE_v _ _) ?_;intro w2 hown2 hgrow2)
 have K2:Hid (Kp Y w1 w2):=⟨hgrow2.os,hgrow2.tape,hgrow2.output,hgrow2.size,fun k hk=>hgrow2.block k (S1.out.ylt k hk) (fun e=>S1.out.ym (by cases e;exact hk))⟩
 have S2:Hid (WX Y B w2 {st with n:=st.n+1,f:=upf st.f g (some (t,c))} (upd h c l') mb (D.put (kl g) (mD (t:Int) c))):=by
  have s1:=S1.out
  have hsz:Maps.size (D.put (kl g) (mD (t:Int) c))=st.n+1:=by
   rw[Maps.size_put s1.mi.tidy,s1.mi.has,hf,s1.sz]
   rfl
  refine⟨(hgrow2.block B s1.lt (fun e=>s1.ne (by cases e;rfl))).trans s1.hp,own_tight hown2 (by rw[hsz];show st.n+1≤100000;omega),s1.mi.put hg t c,hsz,s1.ne,s1.yb,s1.ym,Cx.other s1.cx hgrow2.size (fun k hk hn=>hgrow2.block k hk (fun e=>hn (.inr (.inr (by cases e;rfl))))),?_,?_,?_,?_⟩
  ·intro g' t' b' e
   change upf st.f g (some (t,c)) g'=some (t',b') at e
   by_cases q:g'=g
   ·subst q
    rw[upf_same] at e
    cases e
    exact⟨l',upd_same _ _ _⟩
   ·rw[upf_other _ _ _ _ q] at e
    exact s1.dom g' t' b' e
  ·intro g1 g2 t1 t2 b' e1 e2
   change upf st.f g (some (t,c)) g1=some (t1,b') at e1
   change upf st.f g (some (t,c)) g2=some (t2,b') at e2
   by_cases q1:g1=g
   ·by_cases q2:g2=g
    ·rw[q1,q2]
    ·subst q1
     rw[upf_same] at e1
     cases e1
     rw[upf_other _ _ _ _ q2] at e2
     exact absurd e2 (hfr g2 t2)
   ·rw[upf_other _ _ _ _ q1] at e1
    by_cases q2:g2=g
    ·subst q2
     rw[upf_same] at e2
     cases e2
     exact absurd e1 (hfr g1 t1)
    ·rw[upf_other _ _ _ _ q2] at e2
     exact s1.inj g1 g2 t1 t2 b' e1 e2
  ·intro g' t' b' e
   change upf st.f g (some (t,c)) g'=some (t',b') at e
   by_cases q:g'=g
   ·subst q
    rw[upf_same] at e
    cases e
    exact ht
   ·rw[upf_other _ _ _ _ q] at e
    exact s1.tid g' t' b' e
  ·have:=s1.bd
   exact⟨this.1,this.2.1,this.2.2.1,by show st.n+1≤10000;omega⟩
 clear hown2 hgrow2
 go_wp2_with fail
 go_end0
 exact⟨rfl,l',L1.out,⟨_,_,S2.out⟩,K1.out.trans K2.out⟩
def h0:Nat→Option (List Int):=fun _=>none
def Lw(w:World):Nat→Prop:=fun k=>k<w.heap.size
theorem Kp.lw{w w':World}(h:Kp (Lw w) w w'):Below w.heap.size w w':=⟨h.os,h.tape,h.output,h.size,h.block⟩
theorem cx0(w:World):Cx (Lw w) w (hx h0):=Cx.empty _ w fun _ h=>h
theorem kp_b{Y:Nat→Prop}{w0 w w':World}(k:Kp Y w0 w)(b:Below w.heap.size w w')(hY:∀x,Y x→x<w.heap.size):Kp Y w0 w':=k.trans (Kp.of b hY)
set_option maxRecDepth 100000 in
theorem new_any(t m:Nat)(w:World)(ht:1≤t∧t≤256)(hm:1≤m∧m≤1048576):
 Calls Tryz.prog 20 #[.int .i64 (t:Int),.int .i64 (m:Int)] w fun r w'=>∃B c h,r=.returned (.tuple #[.pointer (some ⟨B,0,none⟩),.int .i64 0])∧WW (Lw w) B w' ⟨t,m,1,upf (fun _=>none) 0 (some (0,c))⟩ h∧h c=some [1]∧Kp (Lw w) w w':=by
 have d1:decide ((t:Int)<1)=false:=decide_eq_false (by omega)
 have d2:decide (256<(t:Int))=false:=decide_eq_false (by omega)
 have d3:decide ((m:Int)<1)=false:=decide_eq_false (by omega)
 have d4:decide (1048576<(m:Int))=false:=decide_eq_false (by omega)
 have hmm:=@run_makeMap Tryz.prog
 go_enter Tryz.func20,Tryz.ntmps20
 go_wp2_with fail
 have b1:=btr (below_alloc w (.map #[] 0)) (below_alloc _ (.cells #[.int .i64 (t:Int),.int .i64 (m:Int),.map (some w.heap.size)] 95))
 have S1:Hid (WX (Lw w) (w.heap.size+1) ((w.alloc (.map #[] 0)).alloc (.cells #[.int .i64 (t:Int),.int .i64 (m:Int),.map (some w.heap.size)] 95)) ⟨t,m,0,fun _=>none⟩ h0 w.heap.size (.map [])):=by
  refine⟨?_,((World.ownsMap_made w Tryz.prog 3 mE).alloc _).mono (Nat.zero_le _),⟨Maps.tidy_empty,fun g=>rfl,fun g t b z e=>(by cases e)⟩,rfl,(by omega),fun q=>?_,fun q=>?_,?_,fun g t b e=>(by cases e),fun g g' t t' b e=>(by cases e),fun g t b e=>(by cases e),⟨ht.2,hm.1,hm.2,Nat.zero_le _⟩⟩
  ·have:=heap_new (w.alloc (.map #[] 0)) (.cells #[.int .i64 (t:Int),.int .i64 (m:Int),.map (some w.heap.size)] 95)
   rw[World.size_alloc] at this
   exact this
  ·unfold Lw at q;omega
  ·unfold Lw at q;omega
  ·refine cx_ext (cx0 w) (fun k hk _=>b1.block k hk) ?_ ?_
   ·rintro k (q|q|q)
    ·exact .inl q
    ·exact .inr (by omega)
    ·exact .inr (by omega)
   ·rintro k (q|q|q)
    ·exact Nat.lt_of_lt_of_le q b1.size
    ·rw[q,World.size_alloc,World.size_alloc];omega
    ·rw[q,World.size_alloc,World.size_alloc];omega
 have K1:Hid (Kp (Lw w) w ((w.alloc (.map #[] 0)).alloc (.cells #[.int .i64 (t:Int),.int .i64 (m:Int),.map (some w.heap.size)] 95))):=Kp.of b1 fun _ q=>q
 clear b1 hmm
 generalize (w.alloc (.map #[] 0)).alloc (.cells #[.int .i64 (t:Int),.int .i64 (m:Int),.map (some w.heap.size)] 95)=w1 at*
 refine (Ck.new_any w1).mono ?_
 rintro r w2 ⟨rfl,e2⟩
 have r2:=new_rep w1
 have b2:Below w1.heap.size w1 w2:=by rw[e2];exact below_alloc _ _
 rw[←e2] at r2
 have hz:h0 w1.heap.size=none:=rfl
 have S2:Hid (WX (Lw w) (w.heap.size+1) w2 ⟨t,m,0,fun _=>none⟩ (upd h0 w1.heap.size []) w.heap.size (.map [])):=S1.out.clk (by
  rw[←hx_upd]
  exact S1.out.cx.fresh r2 (Nat.le_refl _) (fun x e=>by cases e) b2 (by unfold Canon;decide) (fun k hk=>absurd hk (Nat.not_lt_zero _)) w1.heap.size) (Kp.of b2 S1.out.cx.base) fun b l e=>by cases e
 have K2:=hide (kp_b K1.out b2 S1.out.ylt)
 clear e2 r2 b2 S1 K1
 generalize w1.heap.size=c at*
 go_wp2_with fail
 refine (begin_any S2.out 0 (by decide) 0 c [] (by decide) (upd_same _ _ _) rfl (fun g' t' e=>by cases e) (show 0<10000 by decide)).mono ?_
 rintro r w3 ⟨rfl,l',hl',s3,k3⟩
 have el:l'=[1]:=canon_eq hl'.1 (by unfold Canon;decide) fun j=>by
  rw[hl'.2.2 j]
  match j with
  |0=>rfl
  |j+1=>simp[nth]
 subst el
 have S3:=hide s3
 have K3:=hide (K2.out.trans k3)
 clear s3 k3 hl'
 go_wp2_with fail
 go_ret2
 exact⟨_,c,_,rfl,S3.out,upd_same _ _ _,K3.out⟩
end Wa
namespace Wa
open Ck
theorem know_any{Y:Nat→Prop}{B:Nat}{w:World}{st:Wst}{h:Nat→Option (List Int)}(s:WW Y B w st h)(g:Int)(hg:(Lit.int .i64 g).wf=true)(t b c:Nat)(l m:List Int)(hf:st.f g=some (t,b))(hb:h b=some l)(hc:h c=some m):
 Calls Tryz.prog 117 #[.pointer (some ⟨B,0,none⟩),.int .i64 g,.pointer (some ⟨c,0,none⟩)] w fun r w'=>r=.returned (.int .i64 0)∧WW Y B w' st (upd h b (jn l m))∧Kp Y w w':=by
 obtain⟨mb,D,s⟩:=s
 have FN:=hide (find_some s g hg t b hf)
 unfold mV at FN
 have HS:=hide s
 have HB:=hide hb
 have HC:=hide hc
 clear s hb hc hg
 go_enter Tryz.func117,Tryz.ntmps117
 go_wp2_with fail
 refine FN.out.mono ?_
 rintro r w1 ⟨rfl,b1⟩
 have S2:=hide (HS.out.below (btr b1 (below_alloc w1 (.cells #[.int .i64 (t:Int),.pointer (some ⟨b,0,none⟩)] 133))))
 have K2:=hide (Kp.of (X:=Y) (btr b1 (below_alloc w1 (.cells #[.int .i64 (t:Int),.pointer (some ⟨b,0,none⟩)] 133))) HS.out.ylt)
 have CJ:=hide (cx_join S2.out.cx (hx_at HB.out) (hx_at HC.out))
 clear b1 FN
 go_wp2_with fail
 refine CJ.out.mono ?_
 rintro r w3 ⟨rfl,c3,k3⟩
 have S3:Hid (WX Y B w3 st (upd h b (jn l m)) mb D):=S2.out.clk (by rw[←hx_upd];exact c3) k3 (fun b' l2 e=>by
  by_cases q:b'=b
  ·exact⟨_,by rw[q];exact upd_same _ _ _⟩
  ·exact⟨l2,by rw[upd_other _ _ _ _ q];exact e⟩)
 have K3:=hide (K2.out.trans (Kp.mono k3 fun k q=>.inl q))
 clear c3 k3 CJ
 go_wp2_with fail
 go_ret
 exact⟨rfl,⟨_,_,S3.out⟩,K3.out⟩
theorem clock_any{Y:Nat→Prop}{B:Nat}{w:World}{st:Wst}{h:Nat→Option (List Int)}(s:WW Y B w st h)(g:Int)(hg:(Lit.int .i64 g).wf=true)(t b:Nat)(l:List Int)(hf:st.f g=some (t,b))(hb:h b=some l):
 Calls Tryz.prog 118 #[.pointer (some ⟨B,0,none⟩),.int .i64 g] w fun r w'=>∃A,r=.returned (.tuple #[.pointer (some ⟨A,0,none⟩),.bool true])∧h A=none∧WW Y B w' st (upd h A l)∧Kp Y w w':=by
 obtain⟨mb,D,s⟩:=s
 have FN:=hide (find_some s g hg t b hf)
 unfold mV at FN
 have HS:=hide s
 have HB:=hide hb
 clear s hb hg
 go_enter Tryz.func118,Tryz.ntmps118
 go_wp2_with fail
 refine FN.out.mono ?_
 rintro r w1 ⟨rfl,b1⟩
 have S2:=hide (HS.out.below (btr b1 (below_alloc w1 (.cells #[.int .i64 (t:Int),.pointer (some ⟨b,0,none⟩)] 133))))
 have K2:=hide (Kp.of (X:=Y) (btr b1 (below_alloc w1 (.cells #[.int .i64 (t:Int),.pointer (some ⟨b,0,none⟩)] 133))) HS.out.ylt)
 have CP:=hide (copy_wx S2.out HB.out)
 clear b1 FN
 go_wp2_with fail
 refine CP.out.mono ?_
 rintro r w3 ⟨A,rfl,hA,s3,k3⟩
 have S3:=hide s3
 have HA:=hide hA
 have K3:=hide (K2.out.trans (Kp.mono k3 fun k q=>.inl q))
 clear s3 hA k3
 go_wp2_with fail
 go_ret2
 exact⟨A,rfl,HA.out,⟨_,_,S3.out⟩,K3.out⟩
end Wa
namespace Ep
theorem lo_bits(e:Int)(h0:0≤e)(h1:e<18446744073709551616):bits .and .u64 e 4294967295=e % 4294967296:=by
 rw[u64_and e 4294967295 h0 h1 (by decide) (by decide)]
 have h:e.toNat&&& (4294967295:Int).toNat=e.toNat % 4294967296:=Nat.and_two_pow_sub_one_eq_mod e.toNat 32
 rw[h];omega
theorem or_bits(t c:Int)(h0:0≤t)(h1:t≤256)(h2:0≤c)(h3:c≤1048576):bits .or .u64 (t*4294967296) c=t*4294967296+c:=by
 rw[u64_or _ c (by omega) (by omega) h2 (by omega)]
 have h:(t*4294967296).toNat|||c.toNat=(t*4294967296).toNat+c.toNat:=nat_join 32 _ _ (by omega) (by omega)
 rw[h];omega
theorem pack_ok(t c:Int)(h0:0≤t)(h1:t<256)(h2:1≤c)(h3:c≤1048576)(w:World):
 Calls Tryz.prog 181 #[.int .i64 t,.int .i64 c] w fun r w'=>r=.returned (.tuple #[.int .u64 ((t+1)*4294967296+c),.int .i64 0])∧w'=w:=by
 have hb:=or_bits (t+1) c (by omega) (by omega) (by omega) h3
 go_enter Tryz.func181,Tryz.ntmps181
 go_wp2
 go_ret2
 exact⟨rfl,rfl⟩
theorem pack_no(t c:Int)(h:t<0∨256≤t∨c<1∨1048576<c)(w:World):
 Calls Tryz.prog 181 #[.int .i64 t,.int .i64 c] w fun r w'=>r=.returned (.tuple #[.int .u64 0,.int .i64 1])∧w'=w:=by
 by_cases a:t<0
 ·go_enter Tryz.func181,Tryz.ntmps181
  go_wp2
  go_ret2
  exact⟨rfl,rfl⟩
 by_cases b:256≤t
 ·go_enter Tryz.func181,Tryz.ntmps181
  go_wp2
  go_ret2
  exact⟨rfl,rfl⟩
 by_cases hc:c<1
 ·clear h
  go_enter Tryz.func181,Tryz.ntmps181
  go_wp2
  go_ret2
  exact⟨rfl,rfl⟩
 have d:decide (c≤1048576)=false:=by simp;omega
 clear h
 go_enter Tryz.func181,Tryz.ntmps181
 go_wp2
 go_ret2
 exact⟨rfl,rfl⟩
theorem parts_ok(e:Int)(h0:1≤e / 4294967296)(h1:e / 4294967296≤256)(h2:1≤e % 4294967296)(h3:e % 4294967296≤1048576)(w:World):
 Calls Tryz.prog 19 #[.int .u64 e] w fun r w'=>r=.returned (.tuple #[.int .i64 (e / 4294967296 - 1),.int .i64 (e % 4294967296)])∧w'=w:=by
 have hb:=lo_bits e (by omega) (by omega)
 have a0:0≤e:=by omega
 have a1:e≤18446744073709551615:=by omega
 go_enter Tryz.func19,Tryz.ntmps19
 go_wp2
 go_ret2
 exact⟨rfl,rfl⟩
theorem parts_no(e:Int)(a0:0≤e)(a1:e≤18446744073709551615)(h:e / 4294967296<1∨256<e / 4294967296∨e % 4294967296<1∨1048576<e % 4294967296)(w:World):
 Calls Tryz.prog 19 #[.int .u64 e] w fun r w'=>r=.returned (.tuple #[.int .i64 (-1),.int .i64 0])∧w'=w:=by
 have hb:=lo_bits e (by omega) (by omega)
 by_cases a:e / 4294967296<1
 ·go_enter Tryz.func19,Tryz.ntmps19
  go_wp2
  go_ret2
  exact⟨rfl,rfl⟩
 by_cases b:256<e / 4294967296
 ·go_enter Tryz.func19,Tryz.ntmps19
  go_wp2
  go_ret2
  exact⟨rfl,rfl⟩
 by_cases c:e % 4294967296<1
 ·clear h
  go_enter Tryz.func19,Tryz.ntmps19
  go_wp2
  go_ret2
  exact⟨rfl,rfl⟩
 have d:1048576<e % 4294967296:=by omega
 clear h
 go_enter Tryz.func19,Tryz.ntmps19
 go_wp2
 go_ret2
 exact⟨rfl,rfl⟩
def ownB(e:Int):Bool:=decide (1≤e / 4294967296∧e / 4294967296≤256∧1≤e % 4294967296∧e % 4294967296≤1048576)
def tidOf(e:Int):Int:=bif ownB e then e / 4294967296 - 1 else -1
def clkOf(e:Int):Int:=bif ownB e then e % 4294967296 else 0
theorem tid_own(e:Int)(h:ownB e=true):tidOf e=e / 4294967296 - 1:=by simp[tidOf,h]
theorem clk_own(e:Int)(h:ownB e=true):clkOf e=e % 4294967296:=by simp[clkOf,h]
theorem tid_not(e:Int)(h:ownB e=false):tidOf e=-1:=by simp[tidOf,h]
theorem clk_not(e:Int)(h:ownB e=false):clkOf e=0:=by simp[clkOf,h]
theorem own_bd(e:Int)(h:ownB e=true):1≤e / 4294967296∧e / 4294967296≤256∧1≤e % 4294967296∧e % 4294967296≤1048576:=by simpa [ownB] using h
theorem not_bd(e:Int)(h:ownB e=false):e / 4294967296<1∨256<e / 4294967296∨e % 4294967296<1∨1048576<e % 4294967296:=by
 have:=of_decide_eq_false h;omega
theorem parts_any(e:Int)(a0:0≤e)(a1:e≤18446744073709551615)(w:World):
 Calls Tryz.prog 19 #[.int .u64 e] w fun r w'=>r=.returned (.tuple #[.int .i64 (tidOf e),.int .i64 (clkOf e)])∧w'=w:=by
 cases h:ownB e
 ·rw[tid_not e h,clk_not e h];exact parts_no e a0 a1 (not_bd e h) w
 ·rw[tid_own e h,clk_own e h];obtain⟨h0,h1,h2,h3⟩:=own_bd e h;exact parts_ok e h0 h1 h2 h3 w
theorem tid_any(e:Int)(a0:0≤e)(a1:e≤18446744073709551615)(w:World):
 Calls Tryz.prog 9 #[.int .u64 e] w fun r w'=>r=.returned (.int .i64 (tidOf e))∧w'=w:=by
 go_enter Tryz.func9,Tryz.ntmps9
 go_wp2_with (go_at_call 19;refine (parts_any e a0 a1 _).mono ?_;rintro r w' ⟨rfl,rfl⟩)
 go_ret
 exact⟨rfl,rfl⟩
theorem clk_any(e:Int)(a0:0≤e)(a1:e≤18446744073709551615)(w:World):
 Calls Tryz.prog 10 #[.int .u64 e] w fun r w'=>r=.returned (.int .i64 (clkOf e))∧w'=w:=by
 go_enter Tryz.func10,Tryz.ntmps10
 go_wp2_with (go_at_call 19;refine (parts_any e a0 a1 _).mono ?_;rintro r w' ⟨rfl,rfl⟩)
 go_ret
 exact⟨rfl,rfl⟩
end Ep
namespace Wa
open Ck
theorem WX.more{Y Y':Nat→Prop}{B:Nat}{w w1:World}{st:Wst}{h:Nat→Option (List Int)}{mb:Nat}{D:DataW Unit}(s:WX Y B w st h mb D)(b:Below w.heap.size w w1)(hi:∀k,Y' k→Y k∨w.heap.size≤k)(hd:∀k,Y' k→k<w1.heap.size):WX Y' B w1 st h mb D:=by
 have s1:=s.below b
 have hlt:=s.lt
 have hml:=s.ow.lt
 refine⟨s1.hp,s1.ow,s.mi,s.sz,s.ne,fun q=>?_,fun q=>?_,cx_ext s.cx (fun k hk _=>b.block k hk) ?_ ?_,s.dom,s.inj,s.tid,s.bd⟩
 ·rcases hi _ q with z|z
  ·exact s.yb z
  ·omega
 ·rcases hi _ q with z|z
  ·exact s.ym z
  ·omega
 ·rintro k (q|q)
  ·rcases hi k q with z|z
   ·exact .inl (.inl z)
   ·exact .inr z
  ·exact .inl (.inr q)
 ·rintro k (q|q)
  ·exact hd k q
  ·exact Nat.lt_of_lt_of_le (s.cx.base k (.inr q)) b.size
theorem WX.less{Y Y':Nat→Prop}{B:Nat}{w:World}{st:Wst}{h:Nat→Option (List Int)}{mb:Nat}{D:DataW Unit}(s:WX Y B w st h mb D)(hi:∀k,Y' k→Y k):WX Y' B w st h mb D:=
 ⟨s.hp,s.ow,s.mi,s.sz,s.ne,fun q=>s.yb (hi _ q),fun q=>s.ym (hi _ q),by
   obtain⟨f,t,hf⟩:=s.cx
   exact⟨f,⟨t.rep,fun i c hc=>⟨(t.ok i c hc).1,(t.ok i c hc).2.1,fun q=>(t.ok i c hc).2.2.1 (by rcases q with q|q;exact .inl (hi _ q);exact .inr q),fun x hx q=>(t.ok i c hc).2.2.2 x hx (by rcases q with q|q;exact .inl (hi _ q);exact .inr q)⟩,t.apart,fun k q=>t.base k (by rcases q with q|q;exact .inl (hi _ q);exact .inr q)⟩,hf⟩,s.dom,s.inj,s.tid,s.bd⟩
def Y1(Y:Nat→Prop)(R:Nat):Nat→Prop:=fun k=>Y k∨k=R
theorem kp_heap{X:Nat→Prop}{w w':World}{b:Nat}{o:Obj}(k:Kp X w w')(h:w.heap[b]? =some o)(hX:X b):w'.heap[b]? =some o:=(k.block b hX).trans h
set_option maxRecDepth 100000 in
theorem tell_ok{Y:Nat→Prop}{B:Nat}{w:World}{st:Wst}{h:Nat→Option (List Int)}(s:WW Y B w st h)(g:Int)(hg:(Lit.int .i64 g).wf=true)(t b:Nat)(l:List Int)(hf:st.f g=some (t,b))(hb:h b=some l)(hM:nth l t<(st.M:Int)):
 Calls Tryz.prog 123 #[.pointer (some ⟨B,0,none⟩),.int .i64 g] w fun r w'=>∃A l',r=.returned (.tuple #[.pointer (some ⟨A,0,none⟩),.int .i64 0])∧h A=none∧IsSet l l' t (nth l t+1)∧WW Y B w' st (upd (upd h A l) b l')∧Kp Y w w':=by
 obtain⟨mb,D,s⟩:=s
 have FN:=hide (find_some s g hg t b hf)
 unfold mV at FN
 have HS:=hide s
 have HB:=hide hb
 have bd:=s.bd
 have ht:=s.tid g t b hf
 have OM:Hid (okM (st.M:Int)=true):=by show _=_;rw[okM_iff];omega
 have HM:=hide hM
 clear s hb hg hM bd
 go_enter Tryz.func123,Tryz.ntmps123
 go_wp2_with fail
 refine FN.out.mono ?_
 rintro r w1 ⟨rfl,b1⟩
 have e1:=heap_new w1 (.cells #[.int .i64 (t:Int),.pointer (some ⟨b,0,none⟩)] 133)
 have bb:=btr b1 (below_alloc w1 (.cells #[.int .i64 (t:Int),.pointer (some ⟨b,0,none⟩)] 133))
 have S2:Hid (WX (Y1 Y w1.heap.size) B (w1.alloc (.cells #[.int .i64 (t:Int),.pointer (some ⟨b,0,none⟩)] 133)) st h mb D):=HS.out.more bb (fun k q=>by rcases q with q|q;exact .inl q;exact .inr (by have:=b1.size;omega)) (fun k q=>by
  rcases q with q|q
  ·exact Nat.lt_of_lt_of_le (HS.out.ylt k q) bb.size
  ·rw[q,World.size_alloc];omega)
 have K2:=hide (Kp.of (X:=Y) bb HS.out.ylt)
 have CP:=hide (copy_wx S2.out HB.out)
 have E1:=hide e1
 clear b1 FN bb e1
 go_wp2_with fail
 refine CP.out.mono ?_
 rintro r w3 ⟨A,rfl,hA,s3,k3⟩
 have E3:=hide (kp_heap k3 E1.out (.inl (.inr rfl)))
 have K3:=hide (K2.out.trans (Kp.mono k3 fun k q=>.inl (.inl q)))
 have HA:=hide hA
 have hbA:b≠A:=fun q=>by rw[q,hA] at HB;cases HB.out
 have s4:=s3.below (Ba.bdrew1 w3)
 have TK:=hide (cx_tick s4.cx (hx_at (b:=b) (l:=l) (by rw[upd_other _ _ _ _ hbA];exact HB.out)) t (st.M:Int) ht OM.out HM.out)
 have S4:=hide s4
 have z0:w3.cell? ⟨w1.heap.size,0,none⟩=some (.int .i64 (t:Int)):=cell_of E3.out 0
 have z1:w3.cell? ⟨w1.heap.size,1,none⟩=some (.pointer (some ⟨b,0,none⟩)):=cell_of E3.out 1
 have zb:w3.cell? ⟨B,1,none⟩=some (.int .i64 (st.M:Int)):=cell_of s3.hp 1
 clear s3 k3 hA CP s4 OM
 go_wp2_with fail
 go_region_held3 (fun w'=>w'.cell? ⟨w1.heap.size,0,none⟩=some (.int .i64 (t:Int))∧w'.cell? ⟨w1.heap.size,1,none⟩=some (.pointer (some ⟨b,0,none⟩))∧w'.cell? ⟨B,1,none⟩=some (.int .i64 (st.M:Int)))
  (first|(go_keep;done)|exact⟨q0,q1,qb⟩)
  (first|(go_at_call 164;refine TK.out.mono ?_;rintro r w5 ⟨rfl,l',c5,v5,n5,cx5,k5⟩;have s5:=S4.out.clk (h':=upd (upd h A l) b l') (by rw[←hx_upd];exact cx5) k5 (fun b' l2 e=>by (by_cases q:b'=b;exact⟨_,by rw[q];exact upd_same _ _ _⟩;exact⟨l2,by rw[upd_other _ _ _ _ q];exact e⟩));have E5:=kp_heap k5 E3.out (.inl (.inr rfl));have q0:w5.cell? ⟨w1.heap.size,0,none⟩=some (.int .i64 (t:Int)):=cell_of E5 0;have q1:w5.cell? ⟨w1.heap.size,1,none⟩=some (.pointer (some ⟨b,0,none⟩)):=cell_of E5 1;have qb:w5.cell? ⟨B,1,none⟩=some (.int .i64 (st.M:Int)):=cell_of s5.hp 1))
 have S5:=hide (s5.less (Y':=Y) fun k q=>.inl q)
 have L5:Hid (IsSet l l' t (nth l t+1)):=⟨c5,v5,n5⟩
 have K5:=hide ((kp_b K3.out (Ba.bdrew1 w3) (fun x q=>Nat.lt_of_lt_of_le (HS.out.ylt x q) K3.out.size)).trans (Kp.mono k5 fun k q=>.inl (.inl q)))
 clear s5 c5 v5 n5 cx5 k5 E5 q0 q1 qb TK S4
 go_wp2_with fail
 go_ret2
 exact⟨A,l',rfl,HA.out,L5.out,⟨_,_,S5.out⟩,K5.out⟩
set_option maxRecDepth 100000 in
theorem can_any{Y:Nat→Prop}{B:Nat}{w:World}{st:Wst}{h:Nat→Option (List Int)}(s:WW Y B w st h)(g:Int)(hg:(Lit.int .i64 g).wf=true)(t b:Nat)(l:List Int)(hf:st.f g=some (t,b))(hb:h b=some l):
 Calls Tryz.prog 43 #[.pointer (some ⟨B,0,none⟩),.int .i64 g] w fun r w'=>r=.returned (.bool (decide (nth l t<(st.M:Int))))∧Below w.heap.size w w':=by
 obtain⟨mb,D,s⟩:=s
 have FN:=hide (find_some s g hg t b hf)
 unfold mV at FN
 have HS:=hide s
 have CK0:=hide (s.cx.get (hx_at hb)).1
 clear s hb hg
 go_enter Tryz.func43,Tryz.ntmps43
 go_wp2_with fail
 refine FN.out.mono ?_
 rintro r w1 ⟨rfl,b1⟩
 have b2:=btr b1 (below_alloc w1 (.cells #[.int .i64 (t:Int),.pointer (some ⟨b,0,none⟩)] 133))
 have e1:=heap_new w1 (.cells #[.int .i64 (t:Int),.pointer (some ⟨b,0,none⟩)] 133)
 have B2:=hide b2
 have z0:(w1.alloc (.cells #[.int .i64 (t:Int),.pointer (some ⟨b,0,none⟩)] 133)).cell? ⟨w1.heap.size,0,none⟩=some (.int .i64 (t:Int)):=cell_of e1 0
 have z1:(w1.alloc (.cells #[.int .i64 (t:Int),.pointer (some ⟨b,0,none⟩)] 133)).cell? ⟨w1.heap.size,1,none⟩=some (.pointer (some ⟨b,0,none⟩)):=cell_of e1 1
 have zb:(w1.alloc (.cells #[.int .i64 (t:Int),.pointer (some ⟨b,0,none⟩)] 133)).cell? ⟨B,1,none⟩=some (.int .i64 (st.M:Int)):=cell_of (HS.out.below b2).hp 1
 have GE:=hide (fun u (q:Below w.heap.size w u)=>get_any b l (t:Int) u (CK0.out.below q))
 rw[gt_nat] at GE
 generalize hv:nth l t=v at*
 generalize hmm:(st.M:Int)=mm at*
 go_wp2_with fail
 generalize w1.alloc (.cells #[.int .i64 (t:Int),.pointer (some ⟨b,0,none⟩)] 133)=w2 at*
 clear b1 b2 e1
 go_region_held3 (fun w'=>w'.cell? ⟨w1.heap.size,0,none⟩=some (.int .i64 (t:Int))∧w'.cell? ⟨w1.heap.size,1,none⟩=some (.pointer (some ⟨b,0,none⟩))∧w'.cell? ⟨B,1,none⟩=some (.int .i64 mm))
  (first|(go_keep;done)|exact⟨z0,z1,zb⟩)
  (first|(go_at_call 84;refine (GE.out _ (btr B2.out (Ba.bdrew1 _))).mono ?_;rintro r w5 ⟨rfl,rfl⟩))
 all_goals
  go_wp2_with fail
  go_ret
  exact⟨by (rw[hv,hmm])<;>rfl,btr B2.out (Ba.bdrew1 _)⟩
theorem cepoch_nil(w:World):Calls Tryz.prog 162 #[.pointer none,.int .i64 0] w fun r w'=>r=.returned (.int .u64 0)∧w'=w:=by
 have GN:=hide (get_nil 0 w)
 have PN:=hide (fun u=>Ep.pack_no 0 0 (by omega) u)
 go_enter Tryz.func162,Tryz.ntmps162
 go_wp2_with fail
 refine GN.out.mono ?_
 rintro r w1 ⟨rfl,e1⟩
 obtain rfl:=e1.symm
 go_wp2_with fail
 refine (PN.out _).mono ?_
 rintro r w1 ⟨rfl,e1⟩
 obtain rfl:=e1.symm
 go_wp2_with fail
 go_ret
 exact⟨rfl,rfl⟩
end Wa
end Go.Proofs.YtogkjaekfhjelaaGreat
