import Derived.Test.YtogkjaekfhjelaaGreatZjSg1
import Derived.Test.YtogkjaekfhjelaaGreatZjSg4
import Derived.Test.YtogkjaekfhjelaaGreatZjSg5
import Derived.Deep.RegionLaw
import Derived.Deep.RegionWith
import Derived.Maps.AppendAt
import Derived.Deep.RegionHeld3
set_option maxHeartbeats 12800000
namespace Go.Proofs.YtogkjaekfhjelaaGreat
open Go.ChangeShapes Go.WideShapes Go.ChangeAt Go.RowKit
namespace Lo
open Ba
structure Ch(K:Nat→Prop)(col col':Nat→Nat)(w w':World):Prop where
 os:w'.os=w.os
 tape:w'.tape=w.tape
 output:w'.output=w.output
 size:w.heap.size≤w'.heap.size
 block:∀x,x<w.heap.size→¬K (col x)→w'.heap[x]? =w.heap[x]?
 old:∀x,x<w.heap.size→col' x=col x
structure Tr(col col':Nat→Nat)(w w':World):Prop where
 os:w'.os=w.os
 tape:w'.tape=w.tape
 output:w'.output=w.output
 size:w.heap.size≤w'.heap.size
 block:∀x,x<w.heap.size→6≤col x→w'.heap[x]? =w.heap[x]?
 old:∀x,x<w.heap.size→col' x=col x
theorem Ch.tr{K:Nat→Prop}{col col':Nat→Nat}{w w':World}(h:Ch K col col' w w')(hk:∀c,K c→c<6):Tr col col' w w':=
 ⟨h.os,h.tape,h.output,h.size,fun x hx hc=>h.block x hx (fun e=>by have:=hk _ e;omega),h.old⟩
theorem Tr.refl(col:Nat→Nat)(w:World):Tr col col w w:=⟨rfl,rfl,rfl,Nat.le_refl _,fun _ _ _=>rfl,fun _ _=>rfl⟩
theorem Tr.trans{c1 c2 c3:Nat→Nat}{a b c:World}(h:Tr c1 c2 a b)(k:Tr c2 c3 b c):Tr c1 c3 a c:=
 ⟨k.os.trans h.os,k.tape.trans h.tape,k.output.trans h.output,Nat.le_trans h.size k.size,
   fun x hx hc=>(k.block x (Nat.lt_of_lt_of_le hx h.size) (by rw[h.old x hx];exact hc)).trans (h.block x hx hc),
   fun x hx=>(k.old x (Nat.lt_of_lt_of_le hx h.size)).trans (h.old x hx)⟩
theorem ext_ex(w:World)(col:Nat→Nat)(F:Nat→Prop)(k:Nat):∃col':Nat→Nat,(∀x,x<w.heap.size→col' x=col x)∧(∀x,w.heap.size≤x→F x→col' x=k)∧(∀x,w.heap.size≤x→¬F x→col' x=7):=by
 classical
 refine⟨fun x=>if x<w.heap.size then col x else if F x then k else 7,fun x hx=>by simp[hx],fun x hx hf=>?_,fun x hx hf=>?_⟩
 ·simp[Nat.not_lt.2 hx,hf]
 ·simp[Nat.not_lt.2 hx,hf]
def ec(l:List Ev):List Value:=l.flatMap fun e=>(En.evc e).toList
theorem ec_app(l m:List Ev):ec (l++m)=ec l++ec m:=by simp[ec]
theorem ec_one(l:List Ev):∀u∈ec l,u.oneCell'=true:=by
 intro u hu
 simp only[ec,List.mem_flatMap] at hu
 obtain⟨e,_,hu⟩:=hu
 simp[En.evc] at hu
 rcases hu with rfl|rfl|rfl|rfl|rfl|rfl|rfl|rfl<;>rfl
theorem ec_len(l:List Ev):(ec l).length=l.length*8:=by
 induction l with
 |nil=>rfl
 |cons e l ih=>simp[ec,En.evc] at ih ⊢;omega
def lcs(pa:Option Addr)(n pc C B X:Nat)(nm:List Int)(md:Int)(ta:Option Addr)(tn tc:Nat)(pk:Bool):Array Value:=
 #[.slice pa n pc,.pointer (some ⟨C,0,none⟩),.pointer (some ⟨B,0,none⟩),.slice (some ⟨X,0,none⟩) 8 8,.int .i64 (nth nm 0),.int .i64 (nth nm 1),.int .i64 (nth nm 2),.int .i64 (nth nm 3),.int .i64 (nth nm 4),.int .i64 (nth nm 5),.int .i64 (nth nm 6),.int .i64 (nth nm 7),.int .i64 md,.slice ta tn tc,.bool pk]
structure LX(w:World)(col:Nat→Nat)(L N C B X:Nat)(FB:Nat→Prop)(pa:Option Addr)(pc:Nat)(bs:List (Option Nat))(Fs:Nat→Nat→Prop)(ta:Option Addr)(tc:Nat)(s:Lm):Prop where
 hp:w.heap[L]? =some (.cells (lcs pa s.ps.length pc C B X s.nm s.md ta s.tr.length tc s.pk) 79 (0,0))
 nml:s.nm.length=8
 ps:∀w',(∀x,x<w.heap.size→col x=6→w'.heap[x]? =w.heap[x]?)→Sh.PAt w' pa s.ps
 cu:Lk.Cu w N C s.p s.d
 nc:N≤C
 cr:Cr.PC w B FB s.cr
 rw:w.heap[X]? =some (.cells (bs.map Pe.pt).toArray 160 (0,0))
 qs:Fk.Qs _root_.Go.Proofs.YtogkjaekfhjelaaGreat.Pi.Pp w (some ⟨X,0,none⟩) bs Fs s.sts
 bl:bs.length=8
 tr:w.ownsRow 0 40 8 (.slice ta s.tr.length tc) s.tr.length (ec s.tr)
 c0:col L=0
 c1:∀x,N≤x→x≤C→col x=1
 c2:∀x,FB x→col x=2
 c3:col X=3
 c4:∀i x,Fs i x→col x=4
 c5:∀g,(Value.slice ta s.tr.length tc).ownBlock=some g→col g=5
def LW(w:World)(col:Nat→Nat)(L:Nat)(s:Lm):Prop:=∃N C B X FB pa pc bs Fs ta tc,LX w col L N C B X FB pa pc bs Fs ta tc s
section
variable {w w':World}{col col':Nat→Nat}{L N C B X:Nat}{FB:Nat→Prop}{pa:Option Addr}{pc:Nat}{bs:List (Option Nat)}{Fs:Nat→Nat→Prop}{ta:Option Addr}{tc:Nat}{s:Lm}{K:Nat→Prop}
theorem LX.lw(h:LX w col L N C B X FB pa pc bs Fs ta tc s):LW w col L s:=⟨N,C,B,X,FB,pa,pc,bs,Fs,ta,tc,h⟩
theorem LX.lt(h:LX w col L N C B X FB pa pc bs Fs ta tc s):L<w.heap.size:=heap_lt h.hp
theorem LX.keepHp(h:LX w col L N C B X FB pa pc bs Fs ta tc s)(c:Ch K col col' w w')(hk:¬K 0):w'.heap[L]? =some (.cells (lcs pa s.ps.length pc C B X s.nm s.md ta s.tr.length tc s.pk) 79 (0,0)):=
 (c.block L h.lt (by rw[h.c0];exact hk)).trans h.hp
theorem LX.keepPs(h:LX w col L N C B X FB pa pc bs Fs ta tc s)(c:Ch K col col' w w')(hk:¬K 6):∀w2,(∀x,x<w'.heap.size→col' x=6→w2.heap[x]? =w'.heap[x]?)→Sh.PAt w2 pa s.ps:=
 fun w2 h2=>h.ps w2 fun x hx hc=>(h2 x (Nat.lt_of_lt_of_le hx c.size) (by rw[c.old x hx];exact hc)).trans (c.block x hx (by rw[hc];exact hk))
theorem LX.keepCu(h:LX w col L N C B X FB pa pc bs Fs ta tc s)(c:Ch K col col' w w')(hk:¬K 1):Lk.Cu w' N C s.p s.d:=
 h.cu.keep (fun x h1 h2=>c.block x (Nat.lt_of_le_of_lt h2 h.cu.lt) (by rw[h.c1 x h1 h2];exact hk)) h.nc
theorem LX.keepCr(h:LX w col L N C B X FB pa pc bs Fs ta tc s)(c:Ch K col col' w w')(hk:¬K 2):Cr.PC w' B FB s.cr:=by
 obtain⟨oa,cc,hw⟩:=h.cr
 exact⟨oa,cc,hw.sm fun x hx=>c.block x (hw.bd x hx) (by rw[h.c2 x hx];exact hk)⟩
theorem LX.keepRw(h:LX w col L N C B X FB pa pc bs Fs ta tc s)(c:Ch K col col' w w')(hk:¬K 3):w'.heap[X]? =some (.cells (bs.map Pe.pt).toArray 160 (0,0)):=
 (c.block X (heap_lt h.rw) (by rw[h.c3];exact hk)).trans h.rw
theorem LX.keepQs(h:LX w col L N C B X FB pa pc bs Fs ta tc s)(c:Ch K col col' w w')(hk:¬K 4)(h3:¬K 3):Fk.Qs _root_.Go.Proofs.YtogkjaekfhjelaaGreat.Pi.Pp w' (some ⟨X,0,none⟩) bs Fs s.sts:=
 h.qs.keep Fk.frP (fun i x hx=>c.block x (h.qs.bd i x hx) (by rw[h.c4 i x hx];exact hk)) (fun a e hl=>by
  cases e
  exact c.block X hl (by rw[h.c3];exact h3))
theorem LX.keepTr(h:LX w col L N C B X FB pa pc bs Fs ta tc s)(c:Ch K col col' w w')(hk:¬K 5):w'.ownsRow 0 40 8 (.slice ta s.tr.length tc) s.tr.length (ec s.tr):=
 Cr.own_keep h.tr fun g e=>by
  obtain⟨_,cur,hc⟩:=Cr.own_blk h.tr g e
  exact c.block g (heap_lt hc) (by rw[h.c5 g e];exact hk)
theorem LX.k0(h:LX w col L N C B X FB pa pc bs Fs ta tc s)(c:Ch K col col' w w'):col' L=0:=(c.old L h.lt).trans h.c0
theorem LX.k1(h:LX w col L N C B X FB pa pc bs Fs ta tc s)(c:Ch K col col' w w'):∀x,N≤x→x≤C→col' x=1:=fun x h1 h2=>(c.old x (Nat.lt_of_le_of_lt h2 h.cu.lt)).trans (h.c1 x h1 h2)
theorem LX.k2(h:LX w col L N C B X FB pa pc bs Fs ta tc s)(c:Ch K col col' w w'):∀x,FB x→col' x=2:=fun x hx=>(c.old x (h.cr.bd x hx)).trans (h.c2 x hx)
theorem LX.k3(h:LX w col L N C B X FB pa pc bs Fs ta tc s)(c:Ch K col col' w w'):col' X=3:=(c.old X (heap_lt h.rw)).trans h.c3
theorem LX.k4(h:LX w col L N C B X FB pa pc bs Fs ta tc s)(c:Ch K col col' w w'):∀i x,Fs i x→col' x=4:=fun i x hx=>(c.old x (h.qs.bd i x hx)).trans (h.c4 i x hx)
theorem LX.k5(h:LX w col L N C B X FB pa pc bs Fs ta tc s)(c:Ch K col col' w w'):∀g,(Value.slice ta s.tr.length tc).ownBlock=some g→col' g=5:=fun g e=>by
 obtain⟨_,cur,hc⟩:=Cr.own_blk h.tr g e
 exact (c.old g (heap_lt hc)).trans (h.c5 g e)
theorem LX.keep(h:LX w col L N C B X FB pa pc bs Fs ta tc s)(c:Ch (fun c=>c=7) col col' w w'):LX w' col' L N C B X FB pa pc bs Fs ta tc s:=
 ⟨h.keepHp c (by simp),h.nml,h.keepPs c (by simp),h.keepCu c (by simp),h.nc,h.keepCr c (by simp),h.keepRw c (by simp),h.keepQs c (by simp) (by simp),h.bl,h.keepTr c (by simp),h.k0 c,h.k1 c,h.k2 c,h.k3 c,h.k4 c,h.k5 c⟩
theorem ch_below(K:Nat→Prop)(hb:Below w.heap.size w w')(ho:∀x,x<w.heap.size→col' x=col x):Ch K col col' w w':=⟨hb.os,hb.tape,hb.output,hb.size,fun x hx _=>hb.block x hx,ho⟩
theorem LX.below(h:LX w col L N C B X FB pa pc bs Fs ta tc s)(hb:Below w.heap.size w w'):∃col',LX w' col' L N C B X FB pa pc bs Fs ta tc s∧Tr col col' w w'∧∀x,w.heap.size≤x→col' x=7:=by
 obtain⟨col',o,_,n⟩:=ext_ex w col (fun _=>False) 7
 exact⟨col',h.keep (ch_below _ hb o),(ch_below (fun _=>False) hb o).tr (fun _ e=>e.elim),fun x hx=>n x hx (fun h=>h)⟩
theorem LX.crew{l:List Mb}(h:LX w col L N C B X FB pa pc bs Fs ta tc s)(p:Cr.Po 112 118 w w' B FB l):∃FB' col',LX w' col' L N C B X FB' pa pc bs Fs ta tc {s with cr:=l}∧Tr col col' w w':=by
 obtain⟨F',q,kf,nw⟩:=p
 obtain⟨col',o,n,_⟩:=ext_ex w col F' 2
 have c:Ch (fun c=>c=2) col col' w w':=⟨kf.os,kf.tape,kf.output,kf.size,fun x hx hc=>kf.block x hx (fun e=>hc (h.c2 x e)),o⟩
 refine⟨F',col',⟨h.keepHp c (by simp),h.nml,h.keepPs c (by simp),h.keepCu c (by simp),h.nc,q,h.keepRw c (by simp),h.keepQs c (by simp) (by simp),h.bl,h.keepTr c (by simp),h.k0 c,h.k1 c,fun x hx=>?_,h.k3 c,h.k4 c,h.k5 c⟩,c.tr (fun _ (e:_=_)=>by omega)⟩
 rcases Nat.lt_or_ge x w.heap.size with e|e
 ·rcases nw x hx with z|z
  ·exact h.k2 c x z
  ·omega
 ·exact n x e hx
theorem LX.pipes{sts:List (Option St)}(h:LX w col L N C B X FB pa pc bs Fs ta tc s)(p:Fk.Rz _root_.Go.Proofs.YtogkjaekfhjelaaGreat.Pi.Pp w w' (some ⟨X,0,none⟩) bs Fs sts):∃Fs' col',LX w' col' L N C B X FB pa pc bs Fs' ta tc {s with sts:=sts}∧Tr col col' w w':=by
 obtain⟨Fs',nw,q,kf⟩:=p
 obtain⟨col',o,n,_⟩:=ext_ex w col (Fk.All Fs') 4
 have c:Ch (fun c=>c=4) col col' w w':=⟨kf.os,kf.tape,kf.output,kf.size,fun x hx hc=>kf.block x hx (fun e=>by
  obtain⟨i,e⟩:=e
  exact hc (h.c4 i x e)),o⟩
 refine⟨Fs',col',⟨h.keepHp c (by simp),h.nml,h.keepPs c (by simp),h.keepCu c (by simp),h.nc,h.keepCr c (by simp),h.keepRw c (by simp),q,h.bl,h.keepTr c (by simp),h.k0 c,h.k1 c,h.k2 c,h.k3 c,fun i x hx=>?_,h.k5 c⟩,c.tr (fun _ (e:_=_)=>by omega)⟩
 rcases Nat.lt_or_ge x w.heap.size with e|e
 ·rcases nw i x hx with z|z
  ·obtain⟨j,z⟩:=z
   exact h.k4 c j x z
  ·omega
 ·exact n x e ⟨i,hx⟩
theorem LX.cursor{p d:List Int}(h:LX w col L N C B X FB pa pc bs Fs ta tc s)(q:Lk.Cu w' N C p d)(kb:KB C w w'):∃col',LX w' col' L N C B X FB pa pc bs Fs ta tc {s with p:=p,d:=d}∧Tr col col' w w':=by
 obtain⟨col',o,_,_⟩:=ext_ex w col (fun _=>False) 7
 have c:Ch (fun c=>c=1) col col' w w':=⟨kb.os,kb.tape,kb.output,kb.size,fun x hx hc=>kb.block x hx (fun e=>hc (by rw[e];exact h.c1 C h.nc (Nat.le_refl _))),o⟩
 exact⟨col',⟨h.keepHp c (by simp),h.nml,h.keepPs c (by simp),q,h.nc,h.keepCr c (by simp),h.keepRw c (by simp),h.keepQs c (by simp) (by simp),h.bl,h.keepTr c (by simp),h.k0 c,h.k1 c,h.k2 c,h.k3 c,h.k4 c,h.k5 c⟩,c.tr (fun _ (e:_=_)=>by omega)⟩
theorem LX.self{s':Lm}{i:Nat}{v:Value}(h:LX w col L N C B X FB pa pc bs Fs ta tc s)(hs:s'={s with nm:=s'.nm,md:=s'.md,pk:=s'.pk})(hl:s'.nm.length=8)(e:(lcs pa s.ps.length pc C B X s.nm s.md ta s.tr.length tc s.pk).setIfInBounds i v=lcs pa s.ps.length pc C B X s'.nm s'.md ta s.tr.length tc s'.pk):
 LX (w.setCell ⟨L,i,none⟩ v) col L N C B X FB pa pc bs Fs ta tc s'∧Tr col col w (w.setCell ⟨L,i,none⟩ v):=by
 have kb:=(KB.refl L w).setCell i v
 have c:Ch (fun c=>c=0) col col w (w.setCell ⟨L,i,none⟩ v):=⟨kb.os,kb.tape,kb.output,kb.size,fun x hx hc=>kb.block x hx (fun e=>hc (by rw[e];exact h.c0)),fun _ _=>rfl⟩
 refine⟨?_,c.tr (fun _ (e:_=_)=>by omega)⟩
 rw[hs]
 refine⟨?_,hl,h.keepPs c (by simp),h.keepCu c (by simp),h.nc,h.keepCr c (by simp),h.keepRw c (by simp),h.keepQs c (by simp) (by simp),h.bl,h.keepTr c (by simp),h.k0 c,h.k1 c,h.k2 c,h.k3 c,h.k4 c,h.k5 c⟩
 rw[Ba.heap_setCell_same h.hp,e]
theorem LX.pipes2{u:World}{sts:List (Option St)}(h:LX w col L N C B X FB pa pc bs Fs ta tc s)(hb:Below w.heap.size w u)(p:Fk.Rz _root_.Go.Proofs.YtogkjaekfhjelaaGreat.Pi.Pp u w' (some ⟨X,0,none⟩) bs Fs sts):
 ∃Fs' col',LX w' col' L N C B X FB pa pc bs Fs' ta tc {s with sts:=sts}∧Tr col col' w w'∧∀x,w.heap.size≤x→x<u.heap.size→col' x=7∧w'.heap[x]? =u.heap[x]?:=by
 obtain⟨col1,h1,t1,n1⟩:=h.below hb
 obtain⟨Fs',col',h2,t2⟩:=h1.pipes p
 exact⟨Fs',col',h2,t1.trans t2,fun x h1 h2=>⟨(t2.old x h2).trans (n1 x h1),t2.block x h2 (by rw[n1 x h1];omega)⟩⟩
theorem LX.temp{z i:Nat}{v:Value}(h:LX w col L N C B X FB pa pc bs Fs ta tc s)(hz:col z=7):LX (w.setCell ⟨z,i,none⟩ v) col L N C B X FB pa pc bs Fs ta tc s:=by
 have kb:=(KB.refl z w).setCell i v
 exact h.keep ⟨kb.os,kb.tape,kb.output,kb.size,fun x hx hc=>kb.block x hx (fun e=>hc (by rw[e];exact hz)),fun _ _=>rfl⟩
theorem LX.drew(h:LX w col L N C B X FB pa pc bs Fs ta tc s):LX w.drew col L N C B X FB pa pc bs Fs ta tc s:=h.keep (ch_below _ (bdrew1 w) (fun _ _=>rfl))
end
theorem Tr.drew{col col':Nat→Nat}{w w':World}(h:Tr col col' w w'):Tr col col' w w'.drew:=h.trans ((ch_below (fun _=>False) (bdrew1 w') (fun _ _=>rfl)).tr (fun _ e=>e.elim))
theorem Tr.temp{col col':Nat→Nat}{w w':World}(h:Tr col col' w w'){z:Nat}(hz:w.heap.size≤z)(i:Nat)(v:Value):Tr col col' w (w'.setCell ⟨z,i,none⟩ v):=by
 have kb:=(KB.refl z w').setCell i v
 exact⟨kb.os.trans h.os,kb.tape.trans h.tape,kb.output.trans h.output,Nat.le_trans h.size kb.size,fun x hx hc=>(kb.block x (Nat.lt_of_lt_of_le hx h.size) (by omega)).trans (h.block x hx hc),h.old⟩
end Lo
namespace Lo
open Ba
theorem info_ev:(Tryz.prog.info? 40).map (fun i=>(i.zero,i.size,i.bytes))=some (some (.agg #[.int .i64 0,.int .i64 0,.int .i64 0,.int .i64 0,.int .i64 0,.int .i64 0,.bool false,.bool false]),8,56):=by kernel_rfl
section
variable {w u w2:World}{col:Nat→Nat}{L N C B X:Nat}{FB:Nat→Prop}{pa:Option Addr}{pc:Nat}{bs:List (Option Nat)}{Fs:Nat→Nat→Prop}{ta:Option Addr}{tc:Nat}{s:Lm}
theorem LX.told{ta':Option Addr}{n' tc':Nat}{e:Ev}(h:LX w col L N C B X FB pa pc bs Fs ta tc s)(b1:Below w.heap.size w u)(hn:n'=s.tr.length+1)
 (ho:w2.ownsRow 0 40 8 (.slice ta' n' tc') n' (ec (s.tr++[e]))) (hg:u.grownBy w2 (Value.slice ta s.tr.length tc).ownBlock)
 (hat:(Value.slice ta' n' tc').ownBlock=(Value.slice ta s.tr.length tc).ownBlock∨(Value.slice ta' n' tc').ownBlock=some u.heap.size):
 ∃col',LX (w2.setCell ⟨L,13,none⟩ (.slice ta' n' tc')) col' L N C B X FB pa pc bs Fs ta' tc' (tellS s e)∧Tr col col' w (w2.setCell ⟨L,13,none⟩ (.slice ta' n' tc')):=by
 obtain⟨col',o,nn,_⟩:=ext_ex w col (fun x=>(Value.slice ta' n' tc').ownBlock=some x) 5
 have sz:(w2.setCell ⟨L,13,none⟩ (.slice ta' n' tc')).heap.size=w2.heap.size:=by simp[World.setCell]
 have c:Ch (fun c=>c=0∨c=5) col col' w (w2.setCell ⟨L,13,none⟩ (.slice ta' n' tc')):=by
  refine⟨hg.os.trans b1.os,hg.tape.trans b1.tape,hg.output.trans b1.output,by rw[sz];exact Nat.le_trans b1.size hg.size,fun x hx hc=>?_,o⟩
  refine ((KB.refl L w2).setCell 13 _).block x (Nat.lt_of_lt_of_le hx (Nat.le_trans b1.size hg.size)) (fun e=>hc (by rw[e,h.c0];exact .inl rfl))|>.trans ?_
  exact (hg.block x (Nat.lt_of_lt_of_le hx b1.size) (fun e=>hc (.inr (h.c5 x e.symm)))).trans (b1.block x hx)
 have hL:w2.heap[L]? =some (.cells (lcs pa s.ps.length pc C B X s.nm s.md ta s.tr.length tc s.pk) 79 (0,0)):=
  (hg.block L (Nat.lt_of_lt_of_le h.lt b1.size) (fun e=>by have:=h.c5 L e.symm;rw[h.c0] at this;omega)).trans ((b1.block L h.lt).trans h.hp)
 have hl:(tellS s e).tr.length=n':=by rw[hn];simp[tellS]
 have own':(w2.setCell ⟨L,13,none⟩ (.slice ta' n' tc')).ownsRow 0 40 8 (.slice ta' (tellS s e).tr.length tc') (tellS s e).tr.length (ec (tellS s e).tr):=by
  rw[hl]
  refine Cr.own_keep ho fun g e=>((KB.refl L w2).setCell 13 _).block g (by obtain⟨_,cur,hc⟩:=Cr.own_blk ho g e;exact heap_lt hc) (fun e2=>?_)
  obtain⟨_,cur,hc⟩:=Cr.own_blk ho g e
  rw[e2,hL] at hc
  cases hc
 refine⟨col',⟨?_,h.nml,h.keepPs c (by simp),h.keepCu c (by simp),h.nc,h.keepCr c (by simp),h.keepRw c (by simp),h.keepQs c (by simp) (by simp),h.bl,own',h.k0 c,h.k1 c,h.k2 c,h.k3 c,h.k4 c,fun g e=>?_⟩,c.tr (fun c e=>by rcases e with e|e<;>omega)⟩
 ·rw[Ba.heap_setCell_same hL]
  rw[hl]
  rfl
 ·rw[hl] at e
  rcases Nat.lt_or_ge g w.heap.size with q|q
  ·rcases hat with z|z
   ·rw[z] at e
    exact h.k5 c g e
   ·rw[z] at e
    cases e
    have:=b1.size
    omega
  ·exact nn g q e
end
theorem src8(w:World)(e:Ev)(t:TypeId):∀j u,(ec [e])[j]? =some u→((w.alloc (.cells #[.int .i64 e.k,.int .i64 e.g,.int .i64 e.c,.int .i64 e.a,.int .i64 e.v,.int .i64 e.m,.bool e.s,.bool e.o] t)).alloc (.cells #[.int .i64 e.k,.int .i64 e.g,.int .i64 e.c,.int .i64 e.a,.int .i64 e.v,.int .i64 e.m,.bool e.s,.bool e.o] t)).drew.cell? ((⟨w.heap.size+1,0,none⟩:Addr).add j)=some u:=by
 intro j u hj
 have hn:=En.heap_new2 w (.cells #[.int .i64 e.k,.int .i64 e.g,.int .i64 e.c,.int .i64 e.a,.int .i64 e.v,.int .i64 e.m,.bool e.s,.bool e.o] t) (.cells #[.int .i64 e.k,.int .i64 e.g,.int .i64 e.c,.int .i64 e.a,.int .i64 e.v,.int .i64 e.m,.bool e.s,.bool e.o] t)
 rw[Addr.add_lit,Nat.zero_add,cell_of (heap_below hn (bdrew1 _)),←hj]
 simp[ec,En.evc]
theorem own_sl{w:World}{base:Nat}{e:TypeId}{v:Value}{n:Nat}{xs:List Value}(h:w.ownsRow base e 8 v n xs):∃oa c,v=.slice oa n c:=by
 rcases h.2 with⟨rfl,rfl⟩|⟨b,cap,cur,rfl,_⟩
 ·exact⟨none,0,rfl⟩
 ·exact⟨_,_,rfl⟩
set_option maxRecDepth 100000 in
theorem tell_any(L:Nat)(col:Nat→Nat)(s:Lm)(e:Ev)(w:World)(h:LW w col L s)(ht:s.tr.length≤1000000):
 Calls Tryz.prog 34 #[.pointer (some ⟨L,0,none⟩),En.evv e] w fun r w'=>r=.returned (.tuple #[])∧∃col',LW w' col' L (tellS s e)∧Tr col col' w w':=by
 obtain⟨N,C,B,X,FB,pa,pc,bs,Fs,ta,tc,h⟩:=h
 unfold En.evv En.evc
 obtain⟨i0,hi,hz0,hz1,hz2⟩:∃i0,Tryz.prog.info? 40=some i0∧i0.zero=some (.agg #[.int .i64 0,.int .i64 0,.int .i64 0,.int .i64 0,.int .i64 0,.int .i64 0,.bool false,.bool false])∧i0.size=8∧i0.bytes=56:=by
  cases hi:Tryz.prog.info? 40 with
  |none=>have:=info_ev;rw[hi] at this;cases this
  |some i0=>
   have hx:=info_ev
   rw[hi] at hx
   simp at hx
   exact⟨i0,rfl,hx⟩
 have INF:=hide (And.intro hi (And.intro hz0 (And.intro hz1 hz2)))
 have H:=hide h
 have y0:w.cell? ⟨L,13,none⟩=some (.slice ta s.tr.length tc):=cell_of h.hp 13
 have f0:w.frozen? ⟨L,13,none⟩=false:=frozen_of h.hp 13
 have hL:=h.lt
 clear h hi hz0 hz1 hz2
 have BD:=hide (btr (btr (below_alloc w (.cells #[.int .i64 e.k,.int .i64 e.g,.int .i64 e.c,.int .i64 e.a,.int .i64 e.v,.int .i64 e.m,.bool e.s,.bool e.o] 40)) (below_alloc _ (.cells #[.int .i64 e.k,.int .i64 e.g,.int .i64 e.c,.int .i64 e.a,.int .i64 e.v,.int .i64 e.m,.bool e.s,.bool e.o] 40))) (bdrew1 _))
 have ow1:((w.alloc (.cells #[.int .i64 e.k,.int .i64 e.g,.int .i64 e.c,.int .i64 e.a,.int .i64 e.v,.int .i64 e.m,.bool e.s,.bool e.o] 40)).alloc (.cells #[.int .i64 e.k,.int .i64 e.g,.int .i64 e.c,.int .i64 e.a,.int .i64 e.v,.int .i64 e.m,.bool e.s,.bool e.o] 40)).drew.ownsRow 0 40 8 (.slice ta s.tr.length tc) s.tr.length (ec s.tr):=Cr.own_keep H.out.tr fun g e=>by
  obtain⟨_,cur,hc⟩:=Cr.own_blk H.out.tr g e
  exact BD.out.block g (heap_lt hc)
 obtain⟨v',w6,hr,hown,hgrow,_,hat⟩:=run_append_own_at (P:=Tryz.prog) (((w.alloc (.cells #[.int .i64 e.k,.int .i64 e.g,.int .i64 e.c,.int .i64 e.a,.int .i64 e.v,.int .i64 e.m,.bool e.s,.bool e.o] 40)).alloc (.cells #[.int .i64 e.k,.int .i64 e.g,.int .i64 e.c,.int .i64 e.a,.int .i64 e.v,.int .i64 e.m,.bool e.s,.bool e.o] 40)).drew) 0 28 28 40 i0 _ 8 56 Tryz.underlying28 INF.out.1 INF.out.2.1 INF.out.2.2.1 INF.out.2.2.2 rfl (by decide) _ _ _ ow1 ⟨w.heap.size+1,0,none⟩ 1 1 (ec [e]) rfl (src8 w e _) (ec_one _) (by unfold maxLen;omega) (by omega) (Nat.zero_le _)
 rw[←ec_app] at hown
 obtain⟨ta',tc',rfl⟩:=own_sl hown
 have hs2:((w.alloc (.cells #[.int .i64 e.k,.int .i64 e.g,.int .i64 e.c,.int .i64 e.a,.int .i64 e.v,.int .i64 e.m,.bool e.s,.bool e.o] 40)).alloc (.cells #[.int .i64 e.k,.int .i64 e.g,.int .i64 e.c,.int .i64 e.a,.int .i64 e.v,.int .i64 e.m,.bool e.s,.bool e.o] 40)).drew.heap.size=w.heap.size+1+1:=by rw[show ((w.alloc (.cells #[.int .i64 e.k,.int .i64 e.g,.int .i64 e.c,.int .i64 e.a,.int .i64 e.v,.int .i64 e.m,.bool e.s,.bool e.o] 40)).alloc (.cells #[.int .i64 e.k,.int .i64 e.g,.int .i64 e.c,.int .i64 e.a,.int .i64 e.v,.int .i64 e.m,.bool e.s,.bool e.o] 40)).drew.heap.size=((w.alloc (.cells #[.int .i64 e.k,.int .i64 e.g,.int .i64 e.c,.int .i64 e.a,.int .i64 e.v,.int .i64 e.m,.bool e.s,.bool e.o] 40)).alloc (.cells #[.int .i64 e.k,.int .i64 e.g,.int .i64 e.c,.int .i64 e.a,.int .i64 e.v,.int .i64 e.m,.bool e.s,.bool e.o] 40)).heap.size from rfl,World.size_alloc,World.size_alloc]
 obtain⟨col',hx,htr⟩:=H.out.told BD.out rfl hown hgrow hat
 have G6:w6.heap[L]? =some (.cells (lcs pa s.ps.length pc C B X s.nm s.md ta s.tr.length tc s.pk) 79 (0,0)):=by
  refine (hgrow.block L (Nat.lt_of_lt_of_le hL BD.out.size) (fun e=>?_)).trans ((BD.out.block L hL).trans H.out.hp)
  have:=H.out.c5 L e.symm
  rw[H.out.c0] at this
  omega
 have y6:w6.cell? ⟨L,13,none⟩=some (.slice ta s.tr.length tc):=cell_of G6 13
 have f6:w6.frozen? ⟨L,13,none⟩=false:=frozen_of G6 13
 have HX:=hide hx
 have HT:=hide htr
 have HR:=hide hr
 clear hown hgrow hat hr hx htr G6 ow1 BD
 go_enter Tryz.func34,Tryz.ntmps34
 go_wp2_with fail
 go_region_law (refine Rp.step_append_run _ (by rfl) _ _ _ _ (by rfl) _ _ (by rfl) (by rfl) _ _ HR.out ?_)
 all_goals
  go_wp2_with fail
  go_end0
  exact⟨rfl,col',HX.out.lw,HT.out⟩
theorem LW.below{w w':World}{col:Nat→Nat}{L:Nat}{s:Lm}(h:LW w col L s)(hb:Below w.heap.size w w'):∃col',LW w' col' L s∧Tr col col' w w'∧∀x,w.heap.size≤x→col' x=7:=by
 obtain⟨N,C,B,X,FB,pa,pc,bs,Fs,ta,tc,h⟩:=h
 obtain⟨col',hx,ht,hn⟩:=h.below hb
 exact⟨col',hx.lw,ht,hn⟩
theorem LW.lt{w:World}{col:Nat→Nat}{L:Nat}{s:Lm}(h:LW w col L s):L<w.heap.size:=by
 obtain⟨N,C,B,X,FB,pa,pc,bs,Fs,ta,tc,h⟩:=h
 exact h.lt
theorem Tr.heap{col col':Nat→Nat}{w w':World}(h:Tr col col' w w'){x:Nat}{o:Obj}(hx:w.heap[x]? =some o)(hc:col x=7):w'.heap[x]? =some o:=(h.block x (heap_lt hx) (by omega)).trans hx
set_option maxRecDepth 100000 in
theorem goes_any(L:Nat)(col:Nat→Nat)(s:Lm)(K:Nat)(e:Ev)(w:World)(h:LW w col L s)(hn:Cr.Bn K s.cr)(hK:K≤100000)(ht:s.tr.length≤1000000):
 Calls Tryz.prog 68 #[.pointer (some ⟨L,0,none⟩),En.evv e] w fun r w'=>r=.returned (.tuple #[])∧∃col',LW w' col' L (goS s e)∧Tr col col' w w':=by
 obtain⟨N,C,B,X,FB,pa,pc,bs,Fs,ta,tc,h⟩:=h
 obtain⟨col1,h1,t1,n1⟩:=h.below (btr (below_alloc w (.cells #[.int .i64 e.k,.int .i64 e.g,.int .i64 e.c,.int .i64 e.a,.int .i64 e.v,.int .i64 e.m,.bool e.s,.bool e.o] 40)) (bdrew1 _))
 have T1:=hide t1
 have H1:=hide h1
 have E1:=hide (heap_below (heap_new w (.cells #[.int .i64 e.k,.int .i64 e.g,.int .i64 e.c,.int .i64 e.a,.int .i64 e.v,.int .i64 e.m,.bool e.s,.bool e.o] 40)) (bdrew1 _))
 have y2:w.cell? ⟨L,2,none⟩=some (.pointer (some ⟨B,0,none⟩)):=cell_of h.hp 2
 have hL:=h.lt
 have N1:=hide (n1 w.heap.size (Nat.le_refl _))
 have GO:=hide (Cr.go_any B FB s.cr K e.g ((w.alloc (.cells #[.int .i64 e.k,.int .i64 e.g,.int .i64 e.c,.int .i64 e.a,.int .i64 e.v,.int .i64 e.m,.bool e.s,.bool e.o] 40)).drew) h1.cr hn hK)
 have LT:=w.heap.size
 unfold En.evv En.evc
 clear h t1 h1 n1 hn
 go_enter Tryz.func68,Tryz.ntmps68
 go_wp2_with fail
 go_region_with (go_at_call 99;refine GO.out.mono ?_;rintro r w2 ⟨rfl,p2⟩)
 all_goals
  obtain⟨FB2,col2,h2,t2⟩:=H1.out.crew p2
  have T2:=hide (T1.out.trans t2)
  have E2:=hide (t2.heap E1.out N1.out)
  have TE:=hide (tell_any L col2 _ e w2 h2.lw ht)
  unfold En.evv En.evc at TE
  have a0:=cell_of E2.out 0
  have a1:=cell_of E2.out 1
  have a2:=cell_of E2.out 2
  have a3:=cell_of E2.out 3
  have a4:=cell_of E2.out 4
  have a5:=cell_of E2.out 5
  have a6:=cell_of E2.out 6
  have a7:=cell_of E2.out 7
  simp at a0 a1 a2 a3 a4 a5 a6 a7
  clear p2 h2 t2 GO H1 T1 E1 y2
  go_wp2_with fail
  refine TE.out.mono ?_
  rintro r w3 ⟨rfl,col3,h3,t3⟩
  have H3:=hide h3
  have T3:=hide (T2.out.trans t3)
  clear h3 t3
  go_wp2_with fail
  go_end0
  exact⟨rfl,col3,H3.out,T3.out⟩
set_option maxRecDepth 100000 in
theorem waits_any(L:Nat)(col:Nat→Nat)(s:Lm)(K:Nat)(e:Ev)(w:World)(h:LW w col L s)(hn:Cr.Bn K s.cr)(hK:K≤100000)(ht:s.tr.length≤1000000):
 Calls Tryz.prog 104 #[.pointer (some ⟨L,0,none⟩),En.evv e] w fun r w'=>r=.returned (.tuple #[])∧∃col',LW w' col' L (waitsS s e)∧Tr col col' w w':=by
 obtain⟨N,C,B,X,FB,pa,pc,bs,Fs,ta,tc,h⟩:=h
 obtain⟨col1,h1,t1,n1⟩:=h.below (btr (below_alloc w (.cells #[.int .i64 e.k,.int .i64 e.g,.int .i64 e.c,.int .i64 e.a,.int .i64 e.v,.int .i64 e.m,.bool e.s,.bool e.o] 40)) (bdrew1 _))
 have T1:=hide t1
 have H1:=hide h1
 have E1:=hide (heap_below (heap_new w (.cells #[.int .i64 e.k,.int .i64 e.g,.int .i64 e.c,.int .i64 e.a,.int .i64 e.v,.int .i64 e.m,.bool e.s,.bool e.o] 40)) (bdrew1 _))
 have y2:w.cell? ⟨L,2,none⟩=some (.pointer (some ⟨B,0,none⟩)):=cell_of h.hp 2
 have hL:=h.lt
 have N1:=hide (n1 w.heap.size (Nat.le_refl _))
 have GO:=hide (Cr.park_any B FB s.cr K e.g ((w.alloc (.cells #[.int .i64 e.k,.int .i64 e.g,.int .i64 e.c,.int .i64 e.a,.int .i64 e.v,.int .i64 e.m,.bool e.s,.bool e.o] 40)).drew) h1.cr hn hK)
 have LT:=w.heap.size
 unfold En.evv En.evc
 clear h t1 h1 n1 hn
 go_enter Tryz.func104,Tryz.ntmps104
 go_wp2_with fail
 go_region_with (go_at_call 144;refine GO.out.mono ?_;rintro r w2 ⟨rfl,p2⟩)
 all_goals
  obtain⟨FB2,col2,h2,t2⟩:=H1.out.crew p2
  have T2:=hide (T1.out.trans t2)
  have E2:=hide (t2.heap E1.out N1.out)
  have TE:=hide (tell_any L col2 _ e w2 h2.lw ht)
  unfold En.evv En.evc at TE
  have a0:=cell_of E2.out 0
  have a1:=cell_of E2.out 1
  have a2:=cell_of E2.out 2
  have a3:=cell_of E2.out 3
  have a4:=cell_of E2.out 4
  have a5:=cell_of E2.out 5
  have a6:=cell_of E2.out 6
  have a7:=cell_of E2.out 7
  simp at a0 a1 a2 a3 a4 a5 a6 a7
  clear p2 h2 t2 GO H1 T1 E1 y2
  go_wp2_with fail
  refine TE.out.mono ?_
  rintro r w3 ⟨rfl,col3,h3,t3⟩
  have H3:=hide h3
  have T3:=hide (T2.out.trans t3)
  clear h3 t3
  go_wp2_with fail
  go_end0
  exact⟨rfl,col3,H3.out,T3.out⟩
end Lo
namespace Lo
open Ba
section
variable {w:World}{col:Nat→Nat}{L N C B X:Nat}{FB:Nat→Prop}{pa:Option Addr}{pc:Nat}{bs:List (Option Nat)}{Fs:Nat→Nat→Prop}{ta:Option Addr}{tc:Nat}{s:Lm}
theorem LX.cells(h:LX w col L N C B X FB pa pc bs Fs ta tc s):w.cell? ⟨L,0,none⟩=some (.slice pa s.ps.length pc)∧w.cell? ⟨L,1,none⟩=some (.pointer (some ⟨C,0,none⟩))∧w.cell? ⟨L,2,none⟩=some (.pointer (some ⟨B,0,none⟩))∧w.cell? ⟨L,3,none⟩=some (.slice (some ⟨X,0,none⟩) 8 8)∧w.cell? ⟨L,12,none⟩=some (.int .i64 s.md)∧w.cell? ⟨L,13,none⟩=some (.slice ta s.tr.length tc)∧w.cell? ⟨L,14,none⟩=some (.bool s.pk):=
 ⟨cell_of h.hp 0,cell_of h.hp 1,cell_of h.hp 2,cell_of h.hp 3,cell_of h.hp 12,cell_of h.hp 13,cell_of h.hp 14⟩
theorem LX.num(h:LX w col L N C B X FB pa pc bs Fs ta tc s){k:Nat}(hk:k<8):w.cell? ⟨L,4+k,none⟩=some (.int .i64 (nth s.nm k)):=by
 rcases (show k=0∨k=1∨k=2∨k=3∨k=4∨k=5∨k=6∨k=7 by omega) with rfl|rfl|rfl|rfl|rfl|rfl|rfl|rfl
 ·exact cell_of h.hp 4
 ·exact cell_of h.hp 5
 ·exact cell_of h.hp 6
 ·exact cell_of h.hp 7
 ·exact cell_of h.hp 8
 ·exact cell_of h.hp 9
 ·exact cell_of h.hp 10
 ·exact cell_of h.hp 11
theorem LX.at(h:LX w col L N C B X FB pa pc bs Fs ta tc s){k:Nat}(hk:k<8):∃o,bs[k]? =some o∧w.cell? ⟨X,k,none⟩=some (Pe.pt o):=by
 have hl:k<bs.length:=by rw[h.bl];exact hk
 refine⟨bs[k],List.getElem?_eq_getElem hl,?_⟩
 rw[cell_of h.rw]
 simp[List.getElem?_eq_getElem hl]
end
section
variable {w w1:World}{col:Nat→Nat}{L N C B X:Nat}{FB:Nat→Prop}{pa:Option Addr}{pc:Nat}{bs:List (Option Nat)}{Fs:Nat→Nat→Prop}{ta:Option Addr}{tc:Nat}{s:Lm}
theorem pr_row{w:World}{X:Nat}{bs:List (Option Nat)}{t:TypeId}{f:Nat × Nat}(h:w.heap[X]? =some (.cells (bs.map Pe.pt).toArray t f)):Fk.PR w (some ⟨X,0,none⟩) bs:=by
 intro i o hi
 refine⟨X,0,rfl,?_⟩
 rw[Nat.zero_add,cell_of h]
 simp[hi]
theorem LX.opened{k B1:Nat}{F1:Nat→Prop}{st:St}(h:LX w col L N C B X FB pa pc bs Fs ta tc s)(b1:Below w.heap.size w w1)(p1:_root_.Go.Proofs.YtogkjaekfhjelaaGreat.Pi.Pp w1 B1 F1 st)(n1:∀k,F1 k→w.heap.size≤k)(hk:k<8):
 ∃col',LX (w1.setCell ⟨X,k,none⟩ (.pointer (some ⟨B1,0,none⟩))) col' L N C B X FB pa pc (bs.set k (some B1)) (Fk.up Fs k F1) ta tc {s with sts:=s.sts.set k (some st)}∧Tr col col' w (w1.setCell ⟨X,k,none⟩ (.pointer (some ⟨B1,0,none⟩))):=by
 obtain⟨col',o,nn,_⟩:=ext_ex w col F1 4
 have kb:=(KB.refl X w1).setCell k (.pointer (some ⟨B1,0,none⟩))
 have c:Ch (fun c=>c=3) col col' w (w1.setCell ⟨X,k,none⟩ (.pointer (some ⟨B1,0,none⟩))):=
  ⟨kb.os.trans b1.os,kb.tape.trans b1.tape,kb.output.trans b1.output,Nat.le_trans b1.size kb.size,fun x hx hc=>(kb.block x (Nat.lt_of_lt_of_le hx b1.size) (fun e=>hc (by rw[e];exact h.c3))).trans (b1.block x hx),o⟩
 have hX:X<w.heap.size:=heap_lt h.rw
 have hrow:(w1.setCell ⟨X,k,none⟩ (.pointer (some ⟨B1,0,none⟩))).heap[X]? =some (.cells ((bs.set k (some B1)).map Pe.pt).toArray 160 (0,0)):=by
  rw[Ba.heap_setCell_same (heap_below h.rw b1)]
  simp[List.map_set,Pe.pt]
 have sm1:∀i,Sm (Fs i) w (w1.setCell ⟨X,k,none⟩ (.pointer (some ⟨B1,0,none⟩))):=fun i x hx=>c.block x (h.qs.bd i x hx) (by rw[h.c4 i x hx];simp)
 have sm2:Sm F1 w1 (w1.setCell ⟨X,k,none⟩ (.pointer (some ⟨B1,0,none⟩))):=fun x hx=>kb.block x (p1.bd x hx) (fun e=>by have:=n1 x hx;omega)
 have hq:Fk.Qs _root_.Go.Proofs.YtogkjaekfhjelaaGreat.Pi.Pp (w1.setCell ⟨X,k,none⟩ (.pointer (some ⟨B1,0,none⟩))) (some ⟨X,0,none⟩) (bs.set k (some B1)) (Fk.up Fs k F1) (s.sts.set k (some st)):=by
  have hkb:k<bs.length:=by rw[h.bl];exact hk
  have hks:k<s.sts.length:=by rw[←h.qs.len];exact hkb
  refine⟨pr_row hrow,by rw[List.length_set,List.length_set];exact h.qs.len,fun i D hi=>?_,fun i hi=>?_,fun i j hij x hx=>?_,fun a e i=>?_,fun i=>?_⟩
  ·by_cases e:i=k
   ·subst e
    rw[List.getElem?_set_self hkb] at hi
    cases hi
    exact⟨st,List.getElem?_set_self hks,by rw[Fk.up_same];exact p1.sm sm2⟩
   ·rw[List.getElem?_set_ne (Ne.symm e)] at hi
    obtain⟨st1,e1,q1⟩:=h.qs.one i D hi
    exact⟨st1,by rw[List.getElem?_set_ne (Ne.symm e)];exact e1,by rw[Fk.up_other _ _ _ _ e];exact q1.sm (sm1 i)⟩
  ·by_cases e:i=k
   ·subst e
    rw[List.getElem?_set_self hkb] at hi
    cases hi
   ·rw[List.getElem?_set_ne (Ne.symm e)] at hi ⊢
    exact h.qs.non i hi
  ·by_cases e1:i=k
   ·subst e1
    rw[Fk.up_same] at hx
    rw[Fk.up_other _ _ _ _ (Ne.symm hij)]
    intro hf
    have:=n1 x hx
    have:=h.qs.bd j x hf
    omega
   ·rw[Fk.up_other _ _ _ _ e1] at hx
    by_cases e2:j=k
    ·subst e2
     rw[Fk.up_same]
     intro hf
     have:=n1 x hf
     have:=h.qs.bd i x hx
     omega
    ·rw[Fk.up_other _ _ _ _ e2]
     exact h.qs.ap i j hij x hx
  ·cases e
   by_cases e1:i=k
   ·subst e1
    rw[Fk.up_same]
    intro hf
    have:=n1 X hf
    omega
   ·rw[Fk.up_other _ _ _ _ e1]
    exact h.qs.nr _ rfl i
  ·by_cases e1:i=k
   ·subst e1
    rw[Fk.up_same]
    exact p1.bd.sm sm2
   ·rw[Fk.up_other _ _ _ _ e1]
    exact (h.qs.bd i).sm (sm1 i)
 refine⟨col',⟨h.keepHp c (by simp),h.nml,h.keepPs c (by simp),h.keepCu c (by simp),h.nc,h.keepCr c (by simp),hrow,hq,by rw[List.length_set];exact h.bl,h.keepTr c (by simp),h.k0 c,h.k1 c,h.k2 c,h.k3 c,fun i x hx=>?_,h.k5 c⟩,c.tr (fun _ (e:_=_)=>by omega)⟩
 by_cases e1:i=k
 ·subst e1
  rw[Fk.up_same] at hx
  exact nn x (n1 x hx) hx
 ·rw[Fk.up_other _ _ _ _ e1] at hx
  exact h.k4 c i x hx
theorem eight{l:List Int}(h:l.length=8):∃a0 a1 a2 a3 a4 a5 a6 a7,l=[a0,a1,a2,a3,a4,a5,a6,a7]:=by
 match l,h with
 |[a0,a1,a2,a3,a4,a5,a6,a7],_=>exact⟨a0,a1,a2,a3,a4,a5,a6,a7,rfl⟩
theorem lcs_num(pa:Option Addr)(n pc C B X:Nat)(nm:List Int)(md:Int)(ta:Option Addr)(tn tc:Nat)(pk:Bool)(k:Nat)(v:Int)(hl:nm.length=8)(hk:k<8):
 (lcs pa n pc C B X nm md ta tn tc pk).setIfInBounds (4+k) (.int .i64 v)=lcs pa n pc C B X (nm.set k v) md ta tn tc pk:=by
 obtain⟨a0,a1,a2,a3,a4,a5,a6,a7,rfl⟩:=eight hl
 rcases (show k=0∨k=1∨k=2∨k=3∨k=4∨k=5∨k=6∨k=7 by omega) with rfl|rfl|rfl|rfl|rfl|rfl|rfl|rfl<;>rfl
end
theorem isParked_any(L:Nat)(col:Nat→Nat)(s:Lm)(g:Int)(w:World)(h:LW w col L s):
 Calls Tryz.prog 106 #[.pointer (some ⟨L,0,none⟩),.int .i64 g] w fun r w'=>r=.returned (.bool (parked s g))∧w'=w:=by
 obtain⟨N,C,B,X,FB,pa,pc,bs,Fs,ta,tc,h⟩:=h
 obtain⟨-,-,y2,-⟩:=h.cells
 have ST:=hide (Cr.state_any B FB s.cr g w h.cr)
 unfold parked
 clear h
 generalize (Cr.one0 (Cr.gt s.cr g)).s=x at ST ⊢
 go_enter Tryz.func106,Tryz.ntmps106
 go_wp2_with fail
 refine ST.out.mono ?_
 rintro r w1 ⟨rfl,rfl⟩
 go_wp2_with fail
 go_ret
 exact⟨rfl,rfl⟩
theorem heap_new3(w:World)(a b c:Obj):(((w.alloc a).alloc b).alloc c).heap[w.heap.size+1+1]? =some c:=by
 have:=heap_new ((w.alloc a).alloc b) c
 rw[World.size_alloc,World.size_alloc] at this
 exact this
theorem service_any(e:Ev)(t:Gt)(w:World):
 Calls Tryz.prog 136 #[En.evv e,_root_.Go.Proofs.YtogkjaekfhjelaaGreat.Pi.gv t] w fun r w'=>r=.returned (En.evv (servV e t))∧Below w.heap.size w w':=by
 unfold En.evv En.evc _root_.Go.Proofs.YtogkjaekfhjelaaGreat.Pi.gv servV
 cases hs:e.s
 ·go_enter Tryz.func136,Tryz.ntmps136
  go_wp2_with fail
  refine bodyPost_ret (En.results_row1 Tryz.results136 _ _ _ _ rfl (En.loadVar_ev (heap_below (heap_new3 _ _ _ _) (btr (below_alloc _ _) (below_alloc _ _))) rfl)) rfl ⟨rfl,btr (btr (btr (btr (below_alloc _ _) (below_alloc _ _)) (below_alloc _ _)) (below_alloc _ _)) (below_alloc _ _)⟩
 ·go_enter Tryz.func136,Tryz.ntmps136
  go_wp2_with fail
  refine bodyPost_ret (En.results_row1 Tryz.results136 _ _ _ _ rfl (En.loadVar_ev (heap_below (heap_new3 _ _ _ _) (btr (below_alloc _ _) (below_alloc _ _))) rfl)) rfl ⟨rfl,btr (btr (btr (btr (below_alloc _ _) (below_alloc _ _)) (below_alloc _ _)) (below_alloc _ _)) (below_alloc _ _)⟩
end Lo
namespace Lo
open Ba
set_option maxRecDepth 100000 in
theorem wakes_any(L:Nat)(col:Nat→Nat)(s:Lm)(K:Nat)(e:Ev)(w:World)(h:LW w col L s)(hn:Cr.Bn K s.cr)(hK:K≤100000)(ht:s.tr.length≤1000000):
 Calls Tryz.prog 107 #[.pointer (some ⟨L,0,none⟩),En.evv e] w fun r w'=>r=.returned (.tuple #[])∧∃col',LW w' col' L (wakesS s e)∧Tr col col' w w':=by
 obtain⟨N,C,B,X,FB,pa,pc,bs,Fs,ta,tc,h⟩:=h
 obtain⟨col1,h1,t1,n1⟩:=h.below (btr (below_alloc w (.cells #[.int .i64 e.k,.int .i64 e.g,.int .i64 e.c,.int .i64 e.a,.int .i64 e.v,.int .i64 e.m,.bool e.s,.bool e.o] 40)) (bdrew1 _))
 have T1:=hide t1
 have H1:=hide h1
 have E1:=hide (heap_below (heap_new w (.cells #[.int .i64 e.k,.int .i64 e.g,.int .i64 e.c,.int .i64 e.a,.int .i64 e.v,.int .i64 e.m,.bool e.s,.bool e.o] 40)) (bdrew1 _))
 have y3:w.cell? ⟨L,3,none⟩=some (.slice (some ⟨X,0,none⟩) 8 8):=cell_of h.hp 3
 have hL:=h.lt
 have N1:=hide (n1 w.heap.size (Nat.le_refl _))
 have LV:=hide (Fk.leave_any e.g (some ⟨X,0,none⟩) bs 8 Fs s.sts ((w.alloc (.cells #[.int .i64 e.k,.int .i64 e.g,.int .i64 e.c,.int .i64 e.a,.int .i64 e.v,.int .i64 e.m,.bool e.s,.bool e.o] 40)).drew) h1.qs (by rw[h.bl];omega))
 rw[h.bl] at LV
 unfold En.evv En.evc
 clear h t1 h1 n1
 go_enter Tryz.func107,Tryz.ntmps107
 go_wp2_with fail
 go_region_held3 (fun w'=>w'.cell? ⟨w.heap.size,1,none⟩=some (.int .i64 e.g)∧w'.cell? ⟨L,3,none⟩=some (.slice (some ⟨X,0,none⟩) 8 8))
  (go_keep)
  (first|(go_at_call 146;refine LV.out.mono ?_;rintro r w2 ⟨rfl,p2⟩;obtain⟨Fs2,col2,h2,t2⟩:=H1.out.pipes p2;have z1:w2.cell? ⟨w.heap.size,1,none⟩=some (.int .i64 e.g):=cell_of (t2.heap E1.out N1.out) 1;have z3:w2.cell? ⟨L,3,none⟩=some (.slice (some ⟨X,0,none⟩) 8 8):=cell_of h2.hp 3))
 have E2:=hide (t2.heap E1.out N1.out)
 have N2:Hid (col2 w.heap.size=7):=(t2.old _ (heap_lt E1.out)).trans N1.out
 obtain⟨col3,h3,t3,n3⟩:=h2.below (bdrew1 w2)
 have T3:=hide (T1.out.trans (t2.trans t3))
 have H3:=hide h3
 have E3:=hide (t3.heap E2.out N2.out)
 have N3:Hid (col3 w.heap.size=7):=(t3.old _ (heap_lt E2.out)).trans N2.out
 have y2:w2.cell? ⟨L,2,none⟩=some (.pointer (some ⟨B,0,none⟩)):=cell_of h2.hp 2
 have WK:=hide (Cr.wake_any B FB s.cr K e.g w2.drew h3.cr hn hK)
 clear p2 h2 t2 h3 t3 n3 T1 H1 E1 E2 N1 N2 LV y3 z3
 go_wp2_with fail
 go_region_held3 (fun w'=>w'.cell? ⟨w.heap.size,1,none⟩=some (.int .i64 e.g)∧w'.cell? ⟨L,2,none⟩=some (.pointer (some ⟨B,0,none⟩)))
  (go_keep)
  (first|(go_at_call 147;refine WK.out.mono ?_;rintro r w4 ⟨rfl,p4⟩;obtain⟨FB4,col4,h4,t4⟩:=H3.out.crew p4;have z1:w4.cell? ⟨w.heap.size,1,none⟩=some (.int .i64 e.g):=cell_of (t4.heap E3.out N3.out) 1;have z3:w4.cell? ⟨L,2,none⟩=some (.pointer (some ⟨B,0,none⟩)):=cell_of h4.hp 2))
 have T4:=hide (T3.out.trans t4)
 have E4:=hide (t4.heap E3.out N3.out)
 have TE:=hide (tell_any L col4 _ e w4 h4.lw ht)
 unfold En.evv En.evc at TE
 have a0:=cell_of E4.out 0
 have a1:=cell_of E4.out 1
 have a2:=cell_of E4.out 2
 have a3:=cell_of E4.out 3
 have a4:=cell_of E4.out 4
 have a5:=cell_of E4.out 5
 have a6:=cell_of E4.out 6
 have a7:=cell_of E4.out 7
 simp at a0 a1 a2 a3 a4 a5 a6 a7
 clear p4 h4 t4 WK H3 T3 E3 N3 z1 z3
 go_wp2_with fail
 refine TE.out.mono ?_
 rintro r w5 ⟨rfl,col5,h5,t5⟩
 have H5:=hide h5
 have T5:=hide (T4.out.trans t5)
 clear h5 t5
 go_wp2_with fail
 go_end0
 exact⟨rfl,col5,H5.out,T5.out⟩
set_option maxRecDepth 100000 in
theorem opens_any(L:Nat)(col:Nat→Nat)(s:Lm)(k z:Nat)(w:World)(h:LW w col L s)(hk:k<8)(hz:z≤4)(hm:0≤s.md∧s.md≤1000000):
 Calls Tryz.prog 69 #[.pointer (some ⟨L,0,none⟩),.int .i64 (k:Int),.int .i64 (z:Int)] w fun r w'=>r=.returned (.int .i64 s.md)∧∃col',LW w' col' L (opensS s k z)∧Tr col col' w w':=by
 obtain⟨N,C,B,X,FB,pa,pc,bs,Fs,ta,tc,h⟩:=h
 have H:=hide h
 have y3:w.cell? ⟨L,3,none⟩=some (.slice (some ⟨X,0,none⟩) 8 8):=cell_of h.hp 3
 have hL:=h.lt
 have hX:X<w.heap.size:=heap_lt h.rw
 have hXL:X≠L:=fun e=>by have:=h.c3;rw[e,h.c0] at this;omega
 obtain⟨o,-,x0⟩:=h.at hk
 have xf:w.frozen? ⟨X,k,none⟩=false:=frozen_of h.rw k
 have k0:(0:Int)≤(k:Int):=by omega
 have k8:(k:Int)<8:=by omega
 obtain⟨hm0,hm1⟩:=hm
 clear h
 go_enter Tryz.func69,Tryz.ntmps69
 go_wp2_with fail
 go_region_held3 (fun w'=>w'.cell? ⟨L,3,none⟩=some (.slice (some ⟨X,0,none⟩) 8 8))
  (go_keep)
  (first|(go_at_call 100;refine (_root_.Go.Proofs.YtogkjaekfhjelaaGreat.Pi.new_ok z _ hz).mono ?_;rintro r w1 ⟨B1,F1,rfl,p1,n1,b1⟩;have z3:w1.cell? ⟨L,3,none⟩=some (.slice (some ⟨X,0,none⟩) 8 8):=cell_of (heap_below H.out.hp (btr (bdrew1 w) b1)) 3;have x1:w1.cell? ⟨X,k,none⟩=some (Pe.pt o):=(cell_of (heap_below H.out.rw (btr (bdrew1 w) b1)) k).trans ((cell_of H.out.rw k).symm.trans x0);have xf1:w1.frozen? ⟨X,k,none⟩=false:=frozen_of (heap_below H.out.rw (btr (bdrew1 w) b1)) k))
 obtain⟨col2,h2,t2⟩:=H.out.opened (btr (bdrew1 w) b1) p1 n1 hk
 generalize w1.setCell ⟨X,k,none⟩ (.pointer (some ⟨B1,0,none⟩))=w2 at*
 have m0:w2.cell? ⟨L,12,none⟩=some (.int .i64 s.md):=cell_of h2.hp 12
 have u0:w2.cell? ⟨L,4+k,none⟩=some (.int .i64 (nth s.nm k)):=h2.num hk
 have uf:w2.frozen? ⟨L,4+k,none⟩=false:=frozen_of h2.hp (4+k)
 have hL2:=h2.lt
 obtain⟨h3,t3⟩:=LX.self (s':={s with sts:=s.sts.set k (some (_root_.Go.Proofs.YtogkjaekfhjelaaGreat.Pi.st0 z)),nm:=s.nm.set k s.md}) h2 rfl (by rw[List.length_set];exact h2.nml) (lcs_num _ _ _ _ _ _ _ _ _ _ _ _ k s.md h2.nml hk)
 obtain⟨col4,h4,t4,-⟩:=h3.below (bdrew1 _)
 have T4:=hide (t2.trans (t3.trans t4))
 have m2:(w2.setCell ⟨L,4+k,none⟩ (.int .i64 s.md)).drew.cell? ⟨L,12,none⟩=some (.int .i64 s.md):=cell_of h4.hp 12
 have NL:=hide h2.nml
 have H4:=hide h4
 clear h2 t2 h3 t3 h4 t4 p1 n1 b1 z3 x1 xf1 x0 xf y3 H hX hXL hL
 go_wp2_with fail
 go_region_held3 (fun w'=>w'.cell? ⟨L,12,none⟩=some (.int .i64 s.md))
  (first|go_keep|exact m2)
  (fail)
 have h4:=H4.out
 generalize (w2.setCell ⟨L,4+k,none⟩ (.int .i64 s.md)).drew=w4 at*
 have m4:w4.cell? ⟨L,12,none⟩=some (.int .i64 s.md):=cell_of h4.hp 12
 have f4:w4.frozen? ⟨L,12,none⟩=false:=frozen_of h4.hp 12
 have u4:w4.cell? ⟨L,4+k,none⟩=some (.int .i64 s.md):=(h4.num hk).trans (by
  have hl:k<s.nm.length:=by rw[NL.out];exact hk
  have hl2:k<(s.nm.set k s.md).length:=by rw[List.length_set];exact hl
  show some (Value.int .i64 (nth (s.nm.set k s.md) k))=_
  rw[nth_lt _ _ hl2]
  simp)
 obtain⟨h5,t5⟩:=LX.self (s':={s with sts:=s.sts.set k (some (_root_.Go.Proofs.YtogkjaekfhjelaaGreat.Pi.st0 z)),nm:=s.nm.set k s.md,md:=s.md+1}) (i:=12) (v:=.int .i64 (s.md+1)) h4 rfl h4.nml rfl
 have T5:=hide (T4.out.trans t5)
 have H5:=hide h5
 have hne:¬(4+k=12):=by omega
 clear h4 h5 t5 m0 u0 uf H4 T4 m2
 go_wp2_with fail
 go_ret
 exact⟨rfl,col4,(by simpa [opensS] using H5.out.lw),T5.out⟩
end Lo
namespace Lo
open Ba
theorem set7{w:World}{b i z:Nat}{v u0 u1 u2 u3 u4 u5 u6:Value}(h:w.cell? ⟨b,i,none⟩=some v)(hn:b≠z):(((((((w.setCell ⟨z,0,none⟩ u0).setCell ⟨z,1,none⟩ u1).setCell ⟨z,2,none⟩ u2).setCell ⟨z,3,none⟩ u3).setCell ⟨z,4,none⟩ u4).setCell ⟨z,5,none⟩ u5).setCell ⟨z,6,none⟩ u6).cell? ⟨b,i,none⟩=some v:=by
 have K:=(((((((KB.refl z w).setCell 0 u0).setCell 1 u1).setCell 2 u2).setCell 3 u3).setCell 4 u4).setCell 5 u5).setCell 6 u6
 rw[←h]
 have:=K.block b (World.block_lt_of_cell? w _ h) hn
 simp only[World.cell?,this]
theorem kset1{w:World}{b i z:Nat}{v:Value}(h:w.cell? ⟨b,i,none⟩=some v)(hn:b≠z){i1:Nat}{u1:Value}:(w.setCell ⟨z,i1,none⟩ u1).cell? ⟨b,i,none⟩=some v:=by
 have K:=(KB.refl z w).setCell i1 u1
 rw[←h]
 have:=K.block b (World.block_lt_of_cell? w _ h) hn
 simp only[World.cell?,this]
structure Ok(K:Nat)(s:Lm):Prop where
 cb:Cr.Bn K s.cr
 tn:s.tr.length≤K
 sm:Fk.Sml s.sts
 wl:∀(i:Nat) (st:St),s.sts[i]? =some (some st)→∀b,(_root_.Go.Proofs.YtogkjaekfhjelaaGreat.Pi.own st b).length≤1000
 md:0≤s.md∧s.md≤1000
 dd:∀x∈s.d,0≤x
set_option maxRecDepth 100000 in
theorem try_any(L:Nat)(col:Nat→Nat)(s:Lm)(K:Nat)(g at_:Int)(sd:Bool)(k:Nat)(v:Int)(w:World)(h:LW w col L s)(ok:Ok K s)(hK:K≤99000)(hk:k<8):
 Calls Tryz.prog 102 #[.pointer (some ⟨L,0,none⟩),.int .i64 g,.int .i64 at_,.agg #[.bool sd,.int .i64 (k:Int),.int .i64 v]] w fun r w'=>r=.returned (.tuple #[.bool (tryF s g at_ ⟨sd,k,v⟩).done,.bool (tryF s g at_ ⟨sd,k,v⟩).fine])∧∃col',LW w' col' L (tryF s g at_ ⟨sd,k,v⟩).s∧Tr col col' w w':=by
 obtain⟨N,C,B,X,FB,pa,pc,bs,Fs,ta,tc,h⟩:=h
 obtain⟨col1,h1,t1,n1⟩:=h.below (below_alloc w (.cells #[.bool sd,.int .i64 (k:Int),.int .i64 v] 108))
 have T1:=hide t1
 have H1:=hide h1
 have E1:=hide (heap_new w (.cells #[.bool sd,.int .i64 (k:Int),.int .i64 v] 108))
 have N1:=hide (n1 w.heap.size (Nat.le_refl _))
 have y3:w.cell? ⟨L,3,none⟩=some (.slice (some ⟨X,0,none⟩) 8 8):=cell_of h.hp 3
 have hL:=h.lt
 have hb8:=h.bl
 have TY:=hide fun u (hb:Below (w.alloc (.cells #[.bool sd,.int .i64 (k:Int),.int .i64 v] 108)).heap.size (w.alloc (.cells #[.bool sd,.int .i64 (k:Int),.int .i64 v] 108)) u)=>Fk.ftry_any ⟨sd,k,v⟩ (some ⟨X,0,none⟩) bs 8 Fs s.sts u (H1.out.qs.below Fk.frP hb) ok.sm
 rw[hb8] at TY
 have OK:=hide ok
 obtain⟨R,hR⟩:∃R,tryF s g at_ ⟨sd,k,v⟩=R:=⟨_,rfl⟩
 rw[hR]
 unfold tryF at hR
 unfold Fk.cv at TY
 clear h t1 h1 n1 ok hb8
 generalize Fk.tryG s.sts ⟨sd,k,v⟩=t at TY hR
 generalize Fk.tryE s.sts ⟨sd,k,v⟩=er at TY hR
 generalize Fk.tryS s.sts ⟨sd,k,v⟩=sts' at TY hR
 have HR:=hide hR
 clear hR
 unfold _root_.Go.Proofs.YtogkjaekfhjelaaGreat.Pi.gv at TY
 go_enter Tryz.func102,Tryz.ntmps102
 go_wp2_with fail
 go_region_held3 (fun w'=>w'.cell? ⟨w.heap.size,0,none⟩=some (.bool sd)∧w'.cell? ⟨w.heap.size,1,none⟩=some (.int .i64 (k:Int))∧w'.cell? ⟨w.heap.size,2,none⟩=some (.int .i64 v)∧w'.cell? ⟨L,3,none⟩=some (.slice (some ⟨X,0,none⟩) 8 8))
  (first|(go_keep;done)|(exact⟨set7 z0 (by omega),set7 z1 (by omega),set7 z2 (by omega),set7 z3 (by omega)⟩))
  (first
    |(go_at_call 135;refine (TY.out _ (bdrew1 _)).mono ?_;rintro r w2 ⟨rfl,p2⟩;obtain⟨Fs2,col2,h2,t2,m2⟩:=H1.out.pipes2 (bdrew1 _) p2;have E2:=hide (t2.heap E1.out N1.out);have z0:w2.cell? ⟨w.heap.size,0,none⟩=some (.bool sd):=cell_of E2.out 0;have z1:w2.cell? ⟨w.heap.size,1,none⟩=some (.int .i64 (k:Int)):=cell_of E2.out 1;have z2:w2.cell? ⟨w.heap.size,2,none⟩=some (.int .i64 v):=cell_of E2.out 2;have z3:w2.cell? ⟨L,3,none⟩=some (.slice (some ⟨X,0,none⟩) 8 8):=cell_of h2.hp 3;have hL2:=h2.lt;have hE2:w.heap.size<w2.heap.size:=heap_lt E2.out)
    |(go_at_call 135;refine (TY.out _ (btr (below_alloc _ _) (bdrew1 _))).mono ?_;rintro r w2 ⟨rfl,p2⟩;obtain⟨Fs2,col2,h2,t2,m2⟩:=H1.out.pipes2 (btr (below_alloc _ _) (bdrew1 _)) p2;have E2:=hide (t2.heap E1.out N1.out);have z0:w2.cell? ⟨w.heap.size,0,none⟩=some (.bool sd):=cell_of E2.out 0;have z1:w2.cell? ⟨w.heap.size,1,none⟩=some (.int .i64 (k:Int)):=cell_of E2.out 1;have z2:w2.cell? ⟨w.heap.size,2,none⟩=some (.int .i64 v):=cell_of E2.out 2;have z3:w2.cell? ⟨L,3,none⟩=some (.slice (some ⟨X,0,none⟩) 8 8):=cell_of h2.hp 3;have hL2:=h2.lt;have hE2:w.heap.size<w2.heap.size:=heap_lt E2.out;have G2:=hide ((m2 (w.heap.size+1) (by rw[World.size_alloc];omega) (heap_lt (heap_below (En.heap_new2 w (.cells #[.bool sd,.int .i64 (k:Int),.int .i64 v] 108) (.cells #[.bool false,.bool false,.bool false,.int .i64 0,.int .i64 0,.int .i64 0,.int .i64 0] 171)) (bdrew1 _)))).2.trans (heap_below (En.heap_new2 w (.cells #[.bool sd,.int .i64 (k:Int),.int .i64 v] 108) (.cells #[.bool false,.bool false,.bool false,.int .i64 0,.int .i64 0,.int .i64 0,.int .i64 0] 171)) (bdrew1 _)));have g0:=cell_of G2.out 0;have f0:=frozen_of G2.out 0;have g1:=cell_of G2.out 1;have f1:=frozen_of G2.out 1;have g2:=cell_of G2.out 2;have f2:=frozen_of G2.out 2;have g3:=cell_of G2.out 3;have f3:=frozen_of G2.out 3;have g4:=cell_of G2.out 4;have f4:=frozen_of G2.out 4;have g5:=cell_of G2.out 5;have f5:=frozen_of G2.out 5;have g6:=cell_of G2.out 6;have f6:=frozen_of G2.out 6;simp at g0 g1 g2 g3 g4 g5 g6;have hG2:=heap_lt G2.out;have hLG:L≠w.heap.size+1:=by omega))
 all_goals
  have N2:Hid (col2 w.heap.size=7):=(t2.old _ (heap_lt E1.out)).trans N1.out
  have T2:=hide (T1.out.trans t2)
 case' _=>
  obtain⟨col3,h3,t3,n3⟩:=h2.below (below_alloc w2 (.cells #[.bool t.rd,.bool t.ok,.bool t.wk,.int .i64 t.v,.int .i64 t.m.g,.int .i64 t.m.c,.int .i64 t.m.v] 171))
  have G3:=hide (heap_new w2 (.cells #[.bool t.rd,.bool t.ok,.bool t.wk,.int .i64 t.v,.int .i64 t.m.g,.int .i64 t.m.c,.int .i64 t.m.v] 171))
  have C3:=hide (n3 w2.heap.size (Nat.le_refl _))
  have E3:=hide (t3.heap E2.out N2.out)
  have N3:Hid (col3 w.heap.size=7):=(t3.old _ hE2).trans N2.out
  have T3:=hide (T2.out.trans t3)
  have H3:=hide h3
  have hne:w.heap.size<w2.heap.size:=hE2
  clear m2 p2 h2 t2 h3 t3 n3 z0 z1 z2 z3 hL2 hE2 T1 T2 H1 E1 E2 N1 N2 TY
  rename_i hH2
  generalize w2.heap.size=Gb at*
  generalize w2.alloc (.cells #[.bool t.rd,.bool t.ok,.bool t.wk,.int .i64 t.v,.int .i64 t.m.g,.int .i64 t.m.c,.int .i64 t.m.v] 171)=w3 at*
 rotate_left
 case' _=>
  have C:=hide (m2 (w.heap.size+1) (by rw[World.size_alloc];omega) (heap_lt (heap_below (En.heap_new2 w (.cells #[.bool sd,.int .i64 (k:Int),.int .i64 v] 108) (.cells #[.bool false,.bool false,.bool false,.int .i64 0,.int .i64 0,.int .i64 0,.int .i64 0] 171)) (bdrew1 _)))).1
  have H3:=hide (((((((h2.temp (i:=0) (v:=.bool t.rd) C.out).temp (i:=1) (v:=.bool t.ok) C.out).temp (i:=2) (v:=.bool t.wk) C.out).temp (i:=3) (v:=.int .i64 t.v) C.out).temp (i:=4) (v:=.int .i64 t.m.g) C.out).temp (i:=5) (v:=.int .i64 t.m.c) C.out).temp (i:=6) (v:=.int .i64 t.m.v) C.out)
  have hz:w.heap.size≤w.heap.size+1:=by omega
  have T3:=hide (((((((T2.out.temp hz 0 (.bool t.rd)).temp hz 1 (.bool t.ok)).temp hz 2 (.bool t.wk)).temp hz 3 (.int .i64 t.v)).temp hz 4 (.int .i64 t.m.g)).temp hz 5 (.int .i64 t.m.c)).temp hz 6 (.int .i64 t.m.v))
  have K7:=(((((((KB.refl (w.heap.size+1) w2).setCell 0 (.bool t.rd)).setCell 1 (.bool t.ok)).setCell 2 (.bool t.wk)).setCell 3 (.int .i64 t.v)).setCell 4 (.int .i64 t.m.g)).setCell 5 (.int .i64 t.m.c)).setCell 6 (.int .i64 t.m.v)
  have E3:=hide (K7.heap E2.out (by omega))
  have N3:=N2
  have G3:Hid ((((((((w2.setCell ⟨w.heap.size+1,0,none⟩ (.bool t.rd)).setCell ⟨w.heap.size+1,1,none⟩ (.bool t.ok)).setCell ⟨w.heap.size+1,2,none⟩ (.bool t.wk)).setCell ⟨w.heap.size+1,3,none⟩ (.int .i64 t.v)).setCell ⟨w.heap.size+1,4,none⟩ (.int .i64 t.m.g)).setCell ⟨w.heap.size+1,5,none⟩ (.int .i64 t.m.c)).setCell ⟨w.heap.size+1,6,none⟩ (.int .i64 t.m.v)).heap[w.heap.size+1]? =some (.cells #[.bool t.rd,.bool t.ok,.bool t.wk,.int .i64 t.v,.int .i64 t.m.g,.int .i64 t.m.c,.int .i64 t.m.v] 171 (0,0))):=(Ba.heap_setCell_same (Ba.heap_setCell_same (Ba.heap_setCell_same (Ba.heap_setCell_same (Ba.heap_setCell_same (Ba.heap_setCell_same (Ba.heap_setCell_same G2.out _) _) _) _) _) _) _).trans rfl
  have C3:=C
  have hne:w.heap.size<w.heap.size+1:=by omega
  clear K7 C hz m2 p2 h2 t2 z0 z1 z2 z3 hL2 hE2 T1 T2 H1 E1 E2 N1 N2 TY G2 g0 g1 g2 g3 g4 g5 g6 f0 f1 f2 f3 f4 f5 f6 hG2 hLG
  rename_i hH2
  generalize (((((((w2.setCell ⟨w.heap.size+1,0,none⟩ (.bool t.rd)).setCell ⟨w.heap.size+1,1,none⟩ (.bool t.ok)).setCell ⟨w.heap.size+1,2,none⟩ (.bool t.wk)).setCell ⟨w.heap.size+1,3,none⟩ (.int .i64 t.v)).setCell ⟨w.heap.size+1,4,none⟩ (.int .i64 t.m.g)).setCell ⟨w.heap.size+1,5,none⟩ (.int .i64 t.m.c)).setCell ⟨w.heap.size+1,6,none⟩ (.int .i64 t.m.v))=w3 at*
  generalize w.heap.size+1=Gb at*
  generalize col2=col3 at*
 all_goals
  obtain⟨c0,c1,c2,-⟩:=hH2
  have q0:w3.cell? ⟨Gb,0,none⟩=some (.bool t.rd):=cell_of G3.out 0
  have q1:w3.cell? ⟨Gb,1,none⟩=some (.bool t.ok):=cell_of G3.out 1
  have q2:w3.cell? ⟨Gb,2,none⟩=some (.bool t.wk):=cell_of G3.out 2
  have q3:w3.cell? ⟨Gb,3,none⟩=some (.int .i64 t.v):=cell_of G3.out 3
  have q4:w3.cell? ⟨Gb,4,none⟩=some (.int .i64 t.m.g):=cell_of G3.out 4
  have hR:=HR.out
  by_cases h0:er=0
  ·subst h0
   cases hrd:t.rd
   ·rw[if_pos (.inr hrd)] at hR
    subst hR
    rw[hrd] at q0
    clear HR q1 q2 q3 q4 y3
    go_wp2_with fail
    go_ret2
    exact⟨rfl,col3,H3.out.lw,T3.out⟩
   ·rw[if_neg (by simp[hrd])] at hR
    rw[hrd] at q0
    have nu:w3.cell? ⟨L,4+k,none⟩=some (.int .i64 (nth s.nm k)):=H3.out.num hk
    have k0:(0:Int)≤(k:Int):=by omega
    have k8:(k:Int)<8:=by omega
    have ne1:=World.new_ne w3 _ c1
    have ne2:=World.new_ne w3 _ nu
    have ne3:=World.new_ne w3 _ q3
    have ne4:=World.new_ne w3 _ q1
    clear HR y3
    go_wp2_with fail
    go_region_held3 (fun w'=>w'.cell? ⟨w.heap.size,1,none⟩=some (.int .i64 (k:Int))∧w'.cell? ⟨L,4+k,none⟩=some (.int .i64 (nth s.nm k))∧w'.cell? ⟨Gb,3,none⟩=some (.int .i64 t.v)∧w'.cell? ⟨Gb,1,none⟩=some (.bool t.ok))
     (go_keep)
     (fail)
    obtain⟨col4,h4,t4,n4⟩:=H3.out.below (btr (below_alloc w3 (.cells #[.int .i64 4,.int .i64 g,.int .i64 (nth s.nm k),.int .i64 at_,.int .i64 t.v,.int .i64 (-1),.bool false,.bool t.ok] 40)) (bdrew1 _))
    have V4:=hide (heap_below (heap_new w3 (.cells #[.int .i64 4,.int .i64 g,.int .i64 (nth s.nm k),.int .i64 at_,.int .i64 t.v,.int .i64 (-1),.bool false,.bool t.ok] 40)) (bdrew1 _))
    have C4:=hide (n4 w3.heap.size (Nat.le_refl _))
    have G4:=hide (t4.heap G3.out C3.out)
    have D4:Hid (col4 Gb=7):=(t4.old _ (heap_lt G3.out)).trans C3.out
    have E4:=hide (t4.heap E3.out N3.out)
    have T4:=hide (T3.out.trans t4)
    have H4:=hide h4
    have hG3:=heap_lt G3.out
    have hz4:w.heap.size≤w3.heap.size:=by omega
    have hne4:w.heap.size≠w3.heap.size:=by omega
    have hne5:Gb≠w3.heap.size:=by omega
    rename_i hH3
    clear hH3 h4 t4 n4 H3 T3 E3 N3 G3 C3 c0 c1 c2 q0 q1 q2 q3 q4 nu ne1 ne2 ne3 ne4 hG3
    generalize (w3.alloc (.cells #[.int .i64 4,.int .i64 g,.int .i64 (nth s.nm k),.int .i64 at_,.int .i64 t.v,.int .i64 (-1),.bool false,.bool t.ok] 40)).drew=w4 at*
    generalize w3.heap.size=Eb at*
    have c0:w4.cell? ⟨w.heap.size,0,none⟩=some (.bool sd):=cell_of E4.out 0
    have c2:w4.cell? ⟨w.heap.size,2,none⟩=some (.int .i64 v):=cell_of E4.out 2
    have q2:w4.cell? ⟨Gb,2,none⟩=some (.bool t.wk):=cell_of G4.out 2
    have q4:w4.cell? ⟨Gb,4,none⟩=some (.int .i64 t.m.g):=cell_of G4.out 4
    have v0:=cell_of V4.out 0
    have v1:=cell_of V4.out 1
    have v2:=cell_of V4.out 2
    have v3:=cell_of V4.out 3
    have v4:=cell_of V4.out 4
    have v5:=cell_of V4.out 5
    have v6:=cell_of V4.out 6
    have v7:=cell_of V4.out 7
    have e0:=frozen_of V4.out 0
    have e4:=frozen_of V4.out 4
    have e5:=frozen_of V4.out 5
    have e6:=frozen_of V4.out 6
    simp at v0 v1 v2 v3 v4 v5 v6 v7
    cases sd
    ·cases hw:t.wk
     ·have hv:tryV s g at_ ⟨false,k,v⟩ t=(⟨4,g,nth s.nm k,at_,t.v,(-1),false,t.ok⟩:Ev):=by simp[tryV,num,hw]
      rw[hw] at hR q2
      rw[hv] at hR
      have GO:=hide (goes_any L col4 _ K (⟨4,g,nth s.nm k,at_,t.v,(-1),false,t.ok⟩:Ev) _ H4.out.lw OK.out.cb (by omega) (by have:=OK.out.tn;show s.tr.length≤_;omega))
      unfold En.evv En.evc at GO
      go_wp2_with fail
      refine GO.out.mono ?_
      rintro r w7 ⟨rfl,col7,h7,t7⟩
      have H7:=hide h7
      have T7:=hide (T4.out.trans t7)
      have G7:=hide (t7.heap G4.out D4.out)
      have x2:w7.cell? ⟨Gb,2,none⟩=some (.bool t.wk):=cell_of G7.out 2
      rw[hw] at x2
      clear GO h7 t7 v0 v1 v2 v3 v4 v5 v6 v7 e5 q2 q4
      go_wp2_with fail
      simp only[Bool.false_eq_true,if_false] at hR
      subst hR
      go_ret2
      exact⟨rfl,col7,H7.out,T7.out⟩
     ·have hv:tryV s g at_ ⟨false,k,v⟩ t=(⟨4,g,nth s.nm k,at_,t.v,t.m.g,false,t.ok⟩:Ev):=by simp[tryV,num,hw]
      rw[hw] at hR q2
      rw[hv] at hR
      have V6:=hide (Ba.heap_setCell_same V4.out (i:=5) (.int .i64 t.m.g))
      have H6:=hide (H4.out.temp (i:=5) (v:=.int .i64 t.m.g) C4.out)
      have T6:=hide (T4.out.temp hz4 5 (.int .i64 t.m.g))
      have G6:=hide (((KB.refl Eb w4).setCell 5 (.int .i64 t.m.g)).heap G4.out hne5)
      have GO:=hide (goes_any L col4 _ K (⟨4,g,nth s.nm k,at_,t.v,t.m.g,false,t.ok⟩:Ev) _ H6.out.lw OK.out.cb (by omega) (by have:=OK.out.tn;show s.tr.length≤_;omega))
      unfold En.evv En.evc at GO
      go_wp2_with fail
      refine GO.out.mono ?_
      rintro r w7 ⟨rfl,col7,h7,t7⟩
      have H7:=hide h7
      have T7:=hide (T6.out.trans t7)
      have G7:=hide (t7.heap G6.out D4.out)
      have x2:w7.cell? ⟨Gb,2,none⟩=some (.bool t.wk):=cell_of G7.out 2
      rw[hw] at x2
      have V7:=hide (t7.heap V6.out C4.out)
      have x0:=cell_of G7.out 0
      have x1:=cell_of G7.out 1
      have x3:=cell_of G7.out 3
      have x4:=cell_of G7.out 4
      have x5:=cell_of G7.out 5
      have x6:=cell_of G7.out 6
      have y0:=cell_of V7.out 0
      have y1:=cell_of V7.out 1
      have y2:=cell_of V7.out 2
      have y3:=cell_of V7.out 3
      have y4:=cell_of V7.out 4
      have y5:=cell_of V7.out 5
      have y6:=cell_of V7.out 6
      have y7:=cell_of V7.out 7
      simp at x0 x1 x3 x4 x5 x6 y0 y1 y2 y3 y4 y5 y6 y7
      have SV:=hide (service_any (⟨4,g,nth s.nm k,at_,t.v,t.m.g,false,t.ok⟩:Ev) t w7)
      unfold En.evv En.evc _root_.Go.Proofs.YtogkjaekfhjelaaGreat.Pi.gv at SV
      have h0:t.rd=true:=hrd
      rw[hrd,hw] at SV
      clear GO h7 t7 v0 v1 v2 v3 v4 v5 v6 v7 e5 q2 q4
      go_wp2_with fail
      refine SV.out.mono ?_
      rintro r w8 ⟨rfl,b8⟩
      obtain⟨col8,h8,t8,-⟩:=H7.out.below b8
      have T8:=hide (T7.out.trans t8)
      have WK:=hide (wakes_any L col8 _ (K+1) (servV (⟨4,g,nth s.nm k,at_,t.v,t.m.g,false,t.ok⟩:Ev) t) w8 h8 (Cr.Bn.ch OK.out.cb g 0 0 1 (by omega) (by omega)) (by omega) (by have:=OK.out.tn;show (s.tr++_).length≤_;simp;omega))
      unfold En.evv En.evc at WK
      clear h8 t8 b8 SV H7 T7 x0 x1 x2 x3 x4 x5 x6 y0 y1 y2 y3 y4 y5 y6 y7 V7 G7
      go_wp2_with fail
      refine WK.out.mono ?_
      rintro r w9 ⟨rfl,col9,h9,t9⟩
      have H9:=hide h9
      have T9:=hide (T8.out.trans t9)
      clear h9 t9 WK
      go_wp2_with fail
      simp only[if_true] at hR
      subst hR
      go_ret2
      exact⟨rfl,col9,H9.out,T9.out⟩
    ·cases hw:t.wk
     ·have hv:tryV s g at_ ⟨true,k,v⟩ t=(⟨3,g,nth s.nm k,at_,v,(-1),true,t.ok⟩:Ev):=by simp[tryV,num,hw]
      rw[hw] at hR q2
      rw[hv] at hR
      go_wp2_with fail
      go_region
      have V5:=hide (heap_below (Ba.heap_setCell_same (Ba.heap_setCell_same (Ba.heap_setCell_same V4.out (i:=0) (.int .i64 3)) (i:=4) (.int .i64 v)) (i:=6) (.bool true)) (bdrew1 _))
      have H5:=hide ((((H4.out.temp (i:=0) (v:=.int .i64 3) C4.out).temp (i:=4) (v:=.int .i64 v) C4.out).temp (i:=6) (v:=.bool true) C4.out).drew)
      have T5:=hide (((T4.out.temp hz4 0 (.int .i64 3)).temp hz4 4 (.int .i64 v)).temp hz4 6 (.bool true)).drew
      have K5:=(((KB.refl Eb w4).setCell 0 (.int .i64 3)).setCell 4 (.int .i64 v)).setCell 6 (.bool true)
      have G5:=hide (heap_below (K5.heap G4.out hne5) (bdrew1 _))
      clear K5 V4 H4 T4 G4 E4 c0 c2 q2 q4 v0 v1 v2 v3 v4 v5 v6 v7 e0 e4 e5 e6
      generalize ((w4.setCell ⟨Eb,0,none⟩ (.int .i64 3)).setCell ⟨Eb,4,none⟩ (.int .i64 v)).setCell ⟨Eb,6,none⟩ (.bool true)=w5z at*
      generalize w5z.drew=w5 at*
      have v0:=cell_of V5.out 0
      have v1:=cell_of V5.out 1
      have v2:=cell_of V5.out 2
      have v3:=cell_of V5.out 3
      have v4:=cell_of V5.out 4
      have v5:=cell_of V5.out 5
      have v6:=cell_of V5.out 6
      have v7:=cell_of V5.out 7
      have e5:=frozen_of V5.out 5
      have q2:w5.cell? ⟨Gb,2,none⟩=some (.bool t.wk):=cell_of G5.out 2
      have q4:w5.cell? ⟨Gb,4,none⟩=some (.int .i64 t.m.g):=cell_of G5.out 4
      rw[hw] at q2
      simp at v0 v1 v2 v3 v4 v5 v6 v7
      have GO:=hide (goes_any L col4 _ K (⟨3,g,nth s.nm k,at_,v,(-1),true,t.ok⟩:Ev) _ H5.out.lw OK.out.cb (by omega) (by have:=OK.out.tn;show s.tr.length≤_;omega))
      unfold En.evv En.evc at GO
      go_wp2_with fail
      refine GO.out.mono ?_
      rintro r w7 ⟨rfl,col7,h7,t7⟩
      have H7:=hide h7
      have T7:=hide (T5.out.trans t7)
      have G7:=hide (t7.heap G5.out D4.out)
      have x2:w7.cell? ⟨Gb,2,none⟩=some (.bool t.wk):=cell_of G7.out 2
      rw[hw] at x2
      clear GO h7 t7 v0 v1 v2 v3 v4 v5 v6 v7 e5 q2 q4
      go_wp2_with fail
      simp only[Bool.false_eq_true,if_false] at hR
      subst hR
      go_ret2
      exact⟨rfl,col7,H7.out,T7.out⟩
     ·have hv:tryV s g at_ ⟨true,k,v⟩ t=(⟨3,g,nth s.nm k,at_,v,t.m.g,true,t.ok⟩:Ev):=by simp[tryV,num,hw]
      rw[hw] at hR q2
      rw[hv] at hR
      go_wp2_with fail
      go_region
      have V5:=hide (heap_below (Ba.heap_setCell_same (Ba.heap_setCell_same (Ba.heap_setCell_same V4.out (i:=0) (.int .i64 3)) (i:=4) (.int .i64 v)) (i:=6) (.bool true)) (bdrew1 _))
      have H5:=hide ((((H4.out.temp (i:=0) (v:=.int .i64 3) C4.out).temp (i:=4) (v:=.int .i64 v) C4.out).temp (i:=6) (v:=.bool true) C4.out).drew)
      have T5:=hide (((T4.out.temp hz4 0 (.int .i64 3)).temp hz4 4 (.int .i64 v)).temp hz4 6 (.bool true)).drew
      have K5:=(((KB.refl Eb w4).setCell 0 (.int .i64 3)).setCell 4 (.int .i64 v)).setCell 6 (.bool true)
      have G5:=hide (heap_below (K5.heap G4.out hne5) (bdrew1 _))
      clear K5 V4 H4 T4 G4 E4 c0 c2 q2 q4 v0 v1 v2 v3 v4 v5 v6 v7 e0 e4 e5 e6
      generalize ((w4.setCell ⟨Eb,0,none⟩ (.int .i64 3)).setCell ⟨Eb,4,none⟩ (.int .i64 v)).setCell ⟨Eb,6,none⟩ (.bool true)=w5z at*
      generalize w5z.drew=w5 at*
      have v0:=cell_of V5.out 0
      have v1:=cell_of V5.out 1
      have v2:=cell_of V5.out 2
      have v3:=cell_of V5.out 3
      have v4:=cell_of V5.out 4
      have v5:=cell_of V5.out 5
      have v6:=cell_of V5.out 6
      have v7:=cell_of V5.out 7
      have e5:=frozen_of V5.out 5
      have q2:w5.cell? ⟨Gb,2,none⟩=some (.bool t.wk):=cell_of G5.out 2
      have q4:w5.cell? ⟨Gb,4,none⟩=some (.int .i64 t.m.g):=cell_of G5.out 4
      rw[hw] at q2
      simp at v0 v1 v2 v3 v4 v5 v6 v7
      have V6:=hide (Ba.heap_setCell_same V5.out (i:=5) (.int .i64 t.m.g))
      have H6:=hide (H5.out.temp (i:=5) (v:=.int .i64 t.m.g) C4.out)
      have T6:=hide (T5.out.temp hz4 5 (.int .i64 t.m.g))
      have G6:=hide (((KB.refl Eb w5).setCell 5 (.int .i64 t.m.g)).heap G5.out hne5)
      have GO:=hide (goes_any L col4 _ K (⟨3,g,nth s.nm k,at_,v,t.m.g,true,t.ok⟩:Ev) _ H6.out.lw OK.out.cb (by omega) (by have:=OK.out.tn;show s.tr.length≤_;omega))
      unfold En.evv En.evc at GO
      go_wp2_with fail
      refine GO.out.mono ?_
      rintro r w7 ⟨rfl,col7,h7,t7⟩
      have H7:=hide h7
      have T7:=hide (T6.out.trans t7)
      have G7:=hide (t7.heap G6.out D4.out)
      have x2:w7.cell? ⟨Gb,2,none⟩=some (.bool t.wk):=cell_of G7.out 2
      rw[hw] at x2
      have V7:=hide (t7.heap V6.out C4.out)
      have x0:=cell_of G7.out 0
      have x1:=cell_of G7.out 1
      have x3:=cell_of G7.out 3
      have x4:=cell_of G7.out 4
      have x5:=cell_of G7.out 5
      have x6:=cell_of G7.out 6
      have y0:=cell_of V7.out 0
      have y1:=cell_of V7.out 1
      have y2:=cell_of V7.out 2
      have y3:=cell_of V7.out 3
      have y4:=cell_of V7.out 4
      have y5:=cell_of V7.out 5
      have y6:=cell_of V7.out 6
      have y7:=cell_of V7.out 7
      simp at x0 x1 x3 x4 x5 x6 y0 y1 y2 y3 y4 y5 y6 y7
      have SV:=hide (service_any (⟨3,g,nth s.nm k,at_,v,t.m.g,true,t.ok⟩:Ev) t w7)
      unfold En.evv En.evc _root_.Go.Proofs.YtogkjaekfhjelaaGreat.Pi.gv at SV
      have h0:t.rd=true:=hrd
      rw[hrd,hw] at SV
      clear GO h7 t7 v0 v1 v2 v3 v4 v5 v6 v7 e5 q2 q4
      go_wp2_with fail
      refine SV.out.mono ?_
      rintro r w8 ⟨rfl,b8⟩
      obtain⟨col8,h8,t8,-⟩:=H7.out.below b8
      have T8:=hide (T7.out.trans t8)
      have WK:=hide (wakes_any L col8 _ (K+1) (servV (⟨3,g,nth s.nm k,at_,v,t.m.g,true,t.ok⟩:Ev) t) w8 h8 (Cr.Bn.ch OK.out.cb g 0 0 1 (by omega) (by omega)) (by omega) (by have:=OK.out.tn;show (s.tr++_).length≤_;simp;omega))
      unfold En.evv En.evc at WK
      clear h8 t8 b8 SV H7 T7 x0 x1 x2 x3 x4 x5 x6 y0 y1 y2 y3 y4 y5 y6 y7 V7 G7
      go_wp2_with fail
      refine WK.out.mono ?_
      rintro r w9 ⟨rfl,col9,h9,t9⟩
      have H9:=hide h9
      have T9:=hide (T8.out.trans t9)
      clear h9 t9 WK
      go_wp2_with fail
      simp only[if_true] at hR
      subst hR
      go_ret2
      exact⟨rfl,col9,H9.out,T9.out⟩
  ·rw[if_pos (.inl h0)] at hR
   subst hR
   have h0':(er==0)=false:=by simp[h0]
   have h0'':(er !=0)=true:=by simp[h0]
   clear HR q0 q1 q2 q3 q4 y3
   go_wp2_with fail
   go_ret2
   exact⟨by simp,col3,H3.out.lw,T3.out⟩
end Lo
namespace Pi
open Ba Pe
theorem wat_lt{w:World}{oa:Option Addr}{l:List Wt}(h:WAt w oa l):0<l.length→∀a,oa=some a→a.block<w.heap.size:=by
 intro h0 a e
 obtain⟨b,off,e2,hc,_⟩:=h 0 l[0] (List.getElem?_eq_getElem h0)
 rw[e] at e2
 cases e2
 exact World.block_lt_of_cell? w _ hc
set_option maxRecDepth 100000 in
theorem close_apart(B:Nat)(F:Nat→Prop)(st:St)(w:World)(h:Pp w B F st)(hc:st.closed=false):
 Calls Tryz.prog 105 #[.pointer (some ⟨B,0,none⟩)] w fun r w'=>∃oa ca ob cb,r=.returned (.tuple #[.slice oa st.rcv.length ca,.slice ob st.snd.length cb,.int .i64 0])∧(WAt w' oa st.rcv∧WAt w' ob st.snd∧(∀a,oa=some a→w.heap.size≤a.block)∧∀a,ob=some a→w.heap.size≤a.block)∧KF F w w'∧∃F',Nw F' F w∧Pp w' B F' {st with snd:=[],rcv:=[],closed:=true}∧(0<st.rcv.length→∀a,oa=some a→¬F' a.block)∧(0<st.snd.length→∀a,ob=some a→¬F' a.block):=by
 obtain⟨R,S,Q,FS,FQ,h⟩:=h
 have hB:=h.bd B h.fb
 have FB:=hide h.fb
 have BDF:=hide h.bd
 have y5:w.cell? ⟨B,5,none⟩=some (.bool false):=(cell_of h.hp 5).trans (by rw[hc];rfl)
 have y1:w.cell? ⟨B,1,none⟩=some (.pointer (some ⟨S,0,none⟩)):=cell_of h.hp 1
 have y2:w.cell? ⟨B,2,none⟩=some (.pointer (some ⟨Q,0,none⟩)):=cell_of h.hp 2
 have P1:=hide (h.below (bdrew1 w))
 have LQ:=hide (list_new Q _ _ P1.out.pq.pw)
 have LS:=hide fun u hb=>list_new S st.snd u (P1.out.ps.pw.below (w':=u) hb)
 clear h hc
 go_enter Tryz.func105,Tryz.ntmps105
 go_wp2_with fail
 go_region_held3 (fun w'=>w'.cell? ⟨B,1,none⟩=some (.pointer (some ⟨S,0,none⟩))∧w'.cell? ⟨B,2,none⟩=some (.pointer (some ⟨Q,0,none⟩)))
  (first
    |go_keep
    |(go_split_ands
      first
       |(refine⟨?_,?_⟩<;>(refine cellB ?_ k2;assumption))
       |(refine⟨?_,?_⟩<;>(refine cellB ?_ k1;assumption))))
  (first
    |(go_at_call_of 143 (Value.pointer (some ⟨Q,0,none⟩));refine LQ.out.mono ?_;rintro r z1 ⟨oa,ca,rfl,at1,k1,n1⟩)
    |(go_at_call_of 143 (Value.pointer (some ⟨S,0,none⟩));refine (LS.out _ k1).mono ?_;rintro r z2 ⟨ob,cb,rfl,at2,k2,n2⟩))
 have P2:=hide (P1.out.below (btr k1 k2))
 have B2:=hide (btr (bdrew1 w) (btr k1 k2))
 have AQ:=hide (at1.below k2)
 have AS:=hide at2
 have NQ:Hid (∀a,oa=some a→w.heap.size≤a.block):=n1
 have NS:Hid (∀a,ob=some a→w.heap.size≤a.block):=fun a e=>Nat.le_trans (btr (bdrew1 w) k1).size (n2 a e)
 have LQ2:Hid (0<st.rcv.length→∀a,oa=some a→a.block<z2.heap.size):=wat_lt (at1.below k2)
 have LS2:Hid (0<st.snd.length→∀a,ob=some a→a.block<z2.heap.size):=wat_lt at2
 clear k1 k2 at1 at2 n1 n2 y1 y2 y5 P1 LQ LS
 go_wp2_with fail
 refine (new_any _).mono ?_
 rintro r w3 ⟨rfl,p3,b3⟩
 have p3':=hide p3
 have b3':=hide b3
 clear p3 b3
 go_wp2_with fail
 refine (new_any _).mono ?_
 rintro r w4 ⟨rfl,p4,b4⟩
 have P4:=hide (P2.out.below (btr b3'.out b4))
 have QN:=hide (p3'.out.below b4)
 have SN:=hide p4
 have B4:=hide (btr B2.out (btr b3'.out b4))
 have AQ4:=hide (AQ.out.below (btr b3'.out b4))
 have AS4:=hide (AS.out.below (btr b3'.out b4))
 have z3:=p3'.out.lt
 have z4:=B2.out.size
 clear p4 b4 p3' b3' P2 AQ AS B2
 have e1:w4.cell? ⟨B,1,none⟩=some (.pointer (some ⟨S,0,none⟩)):=cell_of P4.out.hp 1
 have e2:w4.cell? ⟨B,2,none⟩=some (.pointer (some ⟨Q,0,none⟩)):=cell_of P4.out.hp 2
 have e5:w4.cell? ⟨B,5,none⟩=some (.bool st.closed):=cell_of P4.out.hp 5
 have f1:=frozen_of P4.out.hp 1
 have f2:=frozen_of P4.out.hp 2
 have f5:=frozen_of P4.out.hp 5
 go_wp2_with fail
 go_ret3
 have NB:∀k,w.heap.size≤k→¬F k:=fun k hk e=>by have:=BDF.out k e;omega
 have PN:=P4.out.anew SN.out QN.out (NB _ (by omega)) (NB _ (by omega)) (by omega)
 have KN:KF F w4 (((w4.setCell ⟨B,2,none⟩ (.pointer (some ⟨z2.heap.size,0,none⟩))).setCell ⟨B,1,none⟩ (.pointer (some ⟨w3.heap.size,0,none⟩))).setCell ⟨B,5,none⟩ (.bool true)):=(((KF.refl F w4).set FB.out 2 _).set FB.out 1 _).set FB.out 5 _
 refine⟨oa,ca,ob,cb,rfl,⟨AQ4.out.kf KN (fun a e=>NB _ (NQ.out a e)),AS4.out.kf KN (fun a e=>NB _ (NS.out a e)),NQ.out,NS.out⟩,(KF.of (F:=F) B4.out).trans KN (Nw.refl _ _),_,?_,PN.pp,fun h0 a e hf=>?_,fun h0 a e hf=>?_⟩
 ·intro k hk
  rcases hk with q|q|q
  ·exact .inl q
  ·exact .inr (by omega)
  ·exact .inr (by omega)
 ·have l1:=LQ2.out h0 a e
  have l2:=NQ.out a e
  rcases hf with q|q|q
  ·exact NB _ l2 q
  ·omega
  ·omega
 ·have l1:=LS2.out h0 a e
  have l2:=NS.out a e
  rcases hf with q|q|q
  ·exact NB _ l2 q
  ·omega
  ·omega
end Pi
namespace Lo
open Ba
theorem tryF_not{s:Lm}{g at_:Int}{c:Ca}(h:(tryF s g at_ c).done=false)(_:(tryF s g at_ c).fine=true):(tryF s g at_ c).s={s with sts:=Fk.tryS s.sts c}:=by
 unfold tryF at h ⊢
 split
 ·rfl
 ·rename_i h1
  rw[if_neg h1] at h
  split at h<;>cases h
theorem nm_at{α:Type}{l:List (Option α)}{k:Nat}{o:Option α}(h:l[k]? =some o):Fk.nmB l (k:Int)=o:=by
 have hl:k<l.length:=(List.getElem?_eq_some_iff.1 h).1
 unfold Fk.nmB
 rw[if_neg (by omega),Int.toNat_natCast,h]
 rfl
section
variable {w:World}{col:Nat→Nat}{L N C B X:Nat}{FB:Nat→Prop}{pa:Option Addr}{pc:Nat}{bs:List (Option Nat)}{Fs:Nat→Nat→Prop}{ta:Option Addr}{tc:Nat}{s:Lm}
theorem wait_at(h:LX w col L N C B X FB pa pc bs Fs ta tc s){k:Nat}{o:Option Nat}(ho:bs[k]? =some o)(sd:Bool)(g v:Int):
 Calls Tryz.prog 103 #[Pe.pt o,.bool sd,.agg #[.int .i64 g,.int .i64 (-1),.int .i64 v]] w fun r w'=>(∃x,r=.returned (.int .i64 x))∧∃Fs' col',LX w' col' L N C B X FB pa pc bs Fs' ta tc {s with sts:=waitN s.sts ⟨sd,k,v⟩ g}∧Tr col col' w w':=by
 cases o with
 |none=>
  have e:=h.qs.non k ho
  have e2:waitN s.sts ⟨sd,k,v⟩ g=s.sts:=by unfold waitN;simp only;rw[nm_at e]
  rw[e2]
  refine (_root_.Go.Proofs.YtogkjaekfhjelaaGreat.Pi.wait_nil sd ⟨g,-1,v⟩ w).mono ?_
  rintro r w1 ⟨rfl,b1⟩
  obtain⟨col1,h1,t1,-⟩:=h.below b1
  exact⟨⟨_,rfl⟩,Fs,col1,h1,t1⟩
 |some B1=>
  obtain⟨st,e,q⟩:=h.qs.one k B1 ho
  have e2:waitN s.sts ⟨sd,k,v⟩ g=s.sts.set k (some (_root_.Go.Proofs.YtogkjaekfhjelaaGreat.Pi.waitS st sd ⟨g,-1,v⟩)):=by unfold waitN;simp only;rw[nm_at e];simp
  rw[e2]
  refine (_root_.Go.Proofs.YtogkjaekfhjelaaGreat.Pi.wait_any B1 (Fs k) st sd ⟨g,-1,v⟩ w q).mono ?_
  rintro r w1 ⟨rfl,kf,F1,nw,p1⟩
  obtain⟨Fs1,col1,h1,t1⟩:=h.pipes (Fk.Rz.step Fk.frP h.qs (Below.refl _ _) ho kf nw p1)
  exact⟨⟨_,rfl⟩,Fs1,col1,h1,t1⟩
end
set_option maxRecDepth 100000 in
theorem alone_any(L:Nat)(col:Nat→Nat)(s:Lm)(K:Nat)(g:Int)(sd:Bool)(k:Nat)(v:Int)(w:World)(h:LW w col L s)(ok:Ok K s)(hK:K≤99000)(hk:k<8):
 Calls Tryz.prog 71 #[.pointer (some ⟨L,0,none⟩),.int .i64 g,.agg #[.bool sd,.int .i64 (k:Int),.int .i64 v]] w fun r w'=>r=.returned (.bool (aloneF s g ⟨sd,k,v⟩).fine)∧∃col',LW w' col' L (aloneF s g ⟨sd,k,v⟩).s∧Tr col col' w w':=by
 obtain⟨col1,h1,t1,n1⟩:=h.below (below_alloc w (.cells #[.bool sd,.int .i64 (k:Int),.int .i64 v] 108))
 have T1:=hide t1
 have E1:=hide (heap_new w (.cells #[.bool sd,.int .i64 (k:Int),.int .i64 v] 108))
 have N1:=hide (n1 w.heap.size (Nat.le_refl _))
 have TY:=hide (try_any L col1 s K g (-1) sd k v (w.alloc (.cells #[.bool sd,.int .i64 (k:Int),.int .i64 v] 108)) h1 ok hK hk)
 have OK:=hide ok
 obtain⟨R,hR⟩:∃R,aloneF s g ⟨sd,k,v⟩=R:=⟨_,rfl⟩
 rw[hR]
 unfold aloneF at hR
 have NT:=hide (@tryF_not s g (-1) ⟨sd,k,v⟩)
 obtain⟨Y,hY⟩:∃Y,tryF s g (-1) ⟨sd,k,v⟩=Y:=⟨_,rfl⟩
 rw[hY] at hR TY NT
 clear h t1 h1 n1 ok hY
 obtain⟨ys,yd,yf⟩:=Y
 simp only at hR TY NT
 have HR:=hide hR
 clear hR
 go_enter Tryz.func71,Tryz.ntmps71
 go_wp2_with fail
 refine TY.out.mono ?_
 rintro r w2 ⟨rfl,col2,h2,t2⟩
 have E2:=hide (t2.heap E1.out N1.out)
 have N2:Hid (col2 w.heap.size=7):=(t2.old _ (heap_lt E1.out)).trans N1.out
 have T2:=hide (T1.out.trans t2)
 have H2:=hide h2
 have hE2:=heap_lt E2.out
 clear h2 t2 T1 E1 N1 TY
 cases yd
 case true=>
  have hR:=HR.out
  simp only[Bool.true_or,if_true] at hR
  subst hR
  go_wp2_with fail
  go_ret
  exact⟨rfl,col2,H2.out,T2.out⟩
 case false=>
  cases yf
  case false=>
   have hR:=HR.out
   simp only[Bool.not_false,Bool.or_true,if_true] at hR
   subst hR
   go_wp2_with fail
   go_ret
   exact⟨rfl,col2,H2.out,T2.out⟩
  case true=>
   have hR:=HR.out
   obtain rfl:ys=_:=NT.out rfl rfl
   simp only[Bool.not_true,Bool.or_false,Bool.false_eq_true,if_false] at hR
   have HR2:=hide hR
   clear hR HR NT
   obtain⟨N,C,B,X,FB,pa,pc,bs,Fs,ta,tc,h2⟩:=H2.out
   generalize hsts:Fk.tryS s.sts ⟨sd,k,v⟩=sts' at*
   have c2:w2.cell? ⟨w.heap.size,2,none⟩=some (.int .i64 v):=cell_of E2.out 2
   go_wp2_with fail
   go_region
   obtain⟨col3,h3,t3,n3⟩:=h2.below (btr (below_alloc w2 (.cells #[.bool false,.bool false,.bool false,.int .i64 0,.int .i64 g,.int .i64 (-1),.int .i64 v] 171)) (bdrew1 _))
   have G3:=hide (heap_below (heap_new w2 (.cells #[.bool false,.bool false,.bool false,.int .i64 0,.int .i64 g,.int .i64 (-1),.int .i64 v] 171)) (bdrew1 _))
   have C3:=hide (n3 w2.heap.size (Nat.le_refl _))
   have E3:=hide (t3.heap E2.out N2.out)
   have N3:Hid (col3 w.heap.size=7):=(t3.old _ hE2).trans N2.out
   have T3:=hide (T2.out.trans t3)
   have H3:=hide h3
   obtain⟨o,ho,x0⟩:=h3.at hk
   have y3:(w2.alloc (.cells #[.bool false,.bool false,.bool false,.int .i64 0,.int .i64 g,.int .i64 (-1),.int .i64 v] 171)).drew.cell? ⟨L,3,none⟩=some (.slice (some ⟨X,0,none⟩) 8 8):=cell_of h3.hp 3
   have WT:=hide (wait_at h3.drew ho sd g v)
   clear h2 h3 t3 n3 H2 T2 E2 N2 c2
   generalize (w2.alloc (.cells #[.bool false,.bool false,.bool false,.int .i64 0,.int .i64 g,.int .i64 (-1),.int .i64 v] 171)).drew=w3 at*
   generalize w2.heap.size=Gb at*
   have c0:w3.cell? ⟨w.heap.size,0,none⟩=some (.bool sd):=cell_of E3.out 0
   have c1:w3.cell? ⟨w.heap.size,1,none⟩=some (.int .i64 (k:Int)):=cell_of E3.out 1
   have q4:w3.cell? ⟨Gb,4,none⟩=some (.int .i64 g):=cell_of G3.out 4
   have q5:w3.cell? ⟨Gb,5,none⟩=some (.int .i64 (-1)):=cell_of G3.out 5
   have q6:w3.cell? ⟨Gb,6,none⟩=some (.int .i64 v):=cell_of G3.out 6
   have k0:(0:Int)≤(k:Int):=by omega
   have k8:(k:Int)<8:=by omega
   have x0':w3.cell? ⟨X,k,none⟩=some (Pe.pt o):=x0
   have ptv:∃a,Pe.pt o=.pointer a:=⟨_,rfl⟩
   obtain⟨pa0,hpa⟩:=ptv
   rw[hpa] at x0' x0 WT
   go_wp2_with fail
   go_region_held3 (fun w'=>w'.cell? ⟨L,3,none⟩=some (.slice (some ⟨X,0,none⟩) 8 8)∧w'.cell? ⟨w.heap.size,1,none⟩=some (.int .i64 (k:Int))∧w'.cell? ⟨X,k,none⟩=some (.pointer pa0)∧w'.cell? ⟨w.heap.size,0,none⟩=some (.bool sd)∧w'.cell? ⟨Gb,4,none⟩=some (.int .i64 g)∧w'.cell? ⟨Gb,5,none⟩=some (.int .i64 (-1))∧w'.cell? ⟨Gb,6,none⟩=some (.int .i64 v))
    (first|(go_keep;done)|exact⟨z3,z1,zx,z0,z4,z5,z6⟩)
    (first|(go_at_call 103;refine WT.out.mono ?_;rintro r w4 ⟨⟨xr,rfl⟩,Fs4,col4,h4,t4⟩;have E4:=hide (t4.heap E3.out N3.out);have G4:=hide (t4.heap G3.out C3.out);have z0:w4.cell? ⟨w.heap.size,0,none⟩=some (.bool sd):=cell_of E4.out 0;have z1:w4.cell? ⟨w.heap.size,1,none⟩=some (.int .i64 (k:Int)):=cell_of E4.out 1;have z3:w4.cell? ⟨L,3,none⟩=some (.slice (some ⟨X,0,none⟩) 8 8):=cell_of h4.hp 3;have z4:w4.cell? ⟨Gb,4,none⟩=some (.int .i64 g):=cell_of G4.out 4;have z5:w4.cell? ⟨Gb,5,none⟩=some (.int .i64 (-1)):=cell_of G4.out 5;have z6:w4.cell? ⟨Gb,6,none⟩=some (.int .i64 v):=cell_of G4.out 6;have zx:w4.cell? ⟨X,k,none⟩=some (.pointer pa0):=(by obtain⟨o2,ho2,x2⟩:=h4.at hk;rw[ho] at ho2;cases ho2;rw[←hpa];exact x2)))
   have T4:=hide (T3.out.trans (Tr.trans (Tr.refl col3 w3).drew t4))
   have H4:=hide h4
   have N4:Hid (col4 w.heap.size=7):=(t4.old _ (heap_lt E3.out)).trans N3.out
   have hE4:=heap_lt E4.out
   clear h4 t4 z0 z1 z3 z4 z5 z6 zx T3 H3 E3 N3 G3 C3 G4 WT c0 c1 q4 q5 q6 x0 x0' y3
   go_wp2_with fail
   refine (En.bare_any 6 g _).mono ?_
   rintro r w5 ⟨rfl,b5⟩
   obtain⟨col6,h6,t6,n6⟩:=H4.out.below (btr b5 (below_alloc w5 (.cells #[.int .i64 6,.int .i64 g,.int .i64 (-1),.int .i64 (-1),.int .i64 (-1),.int .i64 (-1),.bool false,.bool false] 40)))
   have V6:=hide (heap_new w5 (.cells #[.int .i64 6,.int .i64 g,.int .i64 (-1),.int .i64 (-1),.int .i64 (-1),.int .i64 (-1),.bool false,.bool false] 40))
   have s5:=b5.size
   have C6:=hide (n6 w5.heap.size s5)
   have E6:=hide (t6.heap E4.out N4.out)
   have N6:Hid (col6 w.heap.size=7):=(t6.old _ hE4).trans N4.out
   have T6:=hide (T4.out.trans t6)
   have H6:=hide h6
   have hz6:w.heap.size≤w5.heap.size:=by omega
   have hn6:w.heap.size≠w5.heap.size:=by omega
   have hL6:L≠w5.heap.size:=fun e=>by have:=H6.out.c0;rw[e,C6.out] at this;omega
   clear h6 t6 n6 b5 H4 T4 E4 N4
   have u0:(w5.alloc (.cells #[.int .i64 6,.int .i64 g,.int .i64 (-1),.int .i64 (-1),.int .i64 (-1),.int .i64 (-1),.bool false,.bool false] 40)).cell? ⟨L,4+k,none⟩=some (.int .i64 (nth s.nm k)):=H6.out.num hk
   go_wp2_with fail
   generalize w5.alloc (.cells #[.int .i64 6,.int .i64 g,.int .i64 (-1),.int .i64 (-1),.int .i64 (-1),.int .i64 (-1),.bool false,.bool false] 40)=w6 at*
   generalize w5.heap.size=Eb at*
   have c0:w6.cell? ⟨w.heap.size,0,none⟩=some (.bool sd):=cell_of E6.out 0
   have c1:w6.cell? ⟨w.heap.size,1,none⟩=some (.int .i64 (k:Int)):=cell_of E6.out 1
   have c2:w6.cell? ⟨w.heap.size,2,none⟩=some (.int .i64 v):=cell_of E6.out 2
   have v0:=cell_of V6.out 0
   have v1:=cell_of V6.out 1
   have v2:=cell_of V6.out 2
   have v3:=cell_of V6.out 3
   have v4:=cell_of V6.out 4
   have v5:=cell_of V6.out 5
   have v6:=cell_of V6.out 6
   have v7:=cell_of V6.out 7
   have e2:=frozen_of V6.out 2
   have e4:=frozen_of V6.out 4
   have e6:=frozen_of V6.out 6
   simp at v0 v1 v2 v3 v4 v5 v6 v7
   go_region_held3 (fun w'=>w'.cell? ⟨w.heap.size,1,none⟩=some (.int .i64 (k:Int))∧w'.cell? ⟨L,4+k,none⟩=some (.int .i64 (nth s.nm k))∧w'.cell? ⟨w.heap.size,2,none⟩=some (.int .i64 v)∧w'.cell? ⟨w.heap.size,0,none⟩=some (.bool sd))
    (first|(go_keep;done)|(go_split_ands;refine⟨kset1 ?_ hn6,kset1 ?_ hL6,kset1 ?_ hn6,kset1 ?_ hn6⟩<;>assumption))
    (fail)
   have V7:=hide (heap_below (Ba.heap_setCell_same (Ba.heap_setCell_same (Ba.heap_setCell_same V6.out (i:=2) (.int .i64 (nth s.nm k))) (i:=4) (.int .i64 v)) (i:=6) (.bool sd)) (bdrew1 _))
   have H7:=hide ((((H6.out.temp (i:=2) (v:=.int .i64 (nth s.nm k)) C6.out).temp (i:=4) (v:=.int .i64 v) C6.out).temp (i:=6) (v:=.bool sd) C6.out).drew)
   have T7:=hide (((T6.out.temp hz6 2 (.int .i64 (nth s.nm k))).temp hz6 4 (.int .i64 v)).temp hz6 6 (.bool sd)).drew
   clear V6 H6 T6 E6 c0 c1 c2 u0 v0 v1 v2 v3 v4 v5 v6 v7 e2 e4 e6
   generalize ((w6.setCell ⟨Eb,2,none⟩ (.int .i64 (nth s.nm k))).setCell ⟨Eb,4,none⟩ (.int .i64 v)).setCell ⟨Eb,6,none⟩ (.bool sd)=w7z at*
   generalize w7z.drew=w7 at*
   have v0:=cell_of V7.out 0
   have v1:=cell_of V7.out 1
   have v2:=cell_of V7.out 2
   have v3:=cell_of V7.out 3
   have v4:=cell_of V7.out 4
   have v5:=cell_of V7.out 5
   have v6:=cell_of V7.out 6
   have v7:=cell_of V7.out 7
   simp at v0 v1 v2 v3 v4 v5 v6 v7
   have WA:=hide (waits_any L col6 _ K (⟨6,g,nth s.nm k,-1,v,-1,sd,false⟩:Ev) w7 H7.out.lw OK.out.cb (by omega) (by have:=OK.out.tn;show s.tr.length≤_;omega))
   unfold En.evv En.evc at WA
   go_wp2_with fail
   refine WA.out.mono ?_
   rintro r w8 ⟨rfl,col8,h8,t8⟩
   have H8:=hide h8
   have T8:=hide (T7.out.trans t8)
   clear h8 t8 WA v0 v1 v2 v3 v4 v5 v6 v7
   go_wp2_with fail
   have hR:=HR2.out
   simp only[num,Int.toNat_natCast] at hR
   subst hR
   go_ret
   exact⟨rfl,col8,H8.out,T8.out⟩
end Lo
namespace Fk
open Ba Pe _root_.Go.Proofs.YtogkjaekfhjelaaGreat.Pi Rp
theorem park1_any(c:Ca)(q:Option Nat)(w:World):
 Calls Tryz.prog 151 #[cv c,pt q] w fun r w'=>r=.returned (.bool q.isSome)∧Below w.heap.size w w':=by
 unfold cv
 cases q with
 |none=>
  simp only[pt,Option.map_none]
  go_enter Tryz.func151,Tryz.ntmps151
  go_wp2_with fail
  go_ret
  exact⟨ret_bool (by simp),below_alloc _ _⟩
 |some D=>
  simp only[pt,Option.map_some]
  go_enter Tryz.func151,Tryz.ntmps151
  go_wp2_with fail
  go_ret
  exact⟨ret_bool (by simp),below_alloc _ _⟩
theorem CaAt.kf{w w':World}{F:Nat→Prop}{oa:Option Addr}{l:List Ca}(h:CaAt w oa l)(k:KF F w w')(hn:∀a,oa=some a→¬F a.block):CaAt w' oa l:=by
 intro j x hx
 obtain⟨b,off,e,h0,h1,h2⟩:=h j x hx
 exact⟨b,off,e,k.cell h0 (hn _ e),k.cell h1 (hn _ e),k.cell h2 (hn _ e)⟩
set_option maxRecDepth 100000 in
theorem park_bad(g:Int)(oc:Option Addr)(l:List Ca)(cc:Nat)(oa:Option Addr)(n:Nat)(cp:Nat)(w:World)(h:pkBad g l=true):
 Calls Tryz.prog 110 #[.int .i64 g,.slice oc l.length cc,.slice oa n cp] w fun r w'=>r=.returned (.tuple #[.int .i64 0,.int .i64 1])∧Below w.heap.size w w':=by
 unfold pkBad at h
 generalize l.length=m at h ⊢
 by_cases hg:g<0
 ·clear h
  go_enter Tryz.func110,Tryz.ntmps110
  go_wp2_with fail
  go_ret2
  exact⟨rfl,Below.refl _ _⟩
 ·have hm:(4:Int)<(m:Int):=by simp[hg] at h;omega
  clear h
  go_enter Tryz.func110,Tryz.ntmps110
  go_wp2_with fail
  go_ret2
  exact⟨rfl,Below.refl _ _⟩
set_option maxRecDepth 100000 in
theorem park_ready(g:Int)(oc:Option Addr)(l:List Ca)(cc:Nat)(oa:Option Addr)(bs:List (Option Nat))(cp:Nat)(Fs:Nat→Nat→Prop)(sts:List (Option St))(w:World)(hC:CaAt w oc l)(h:Qs Pp w oa bs Fs sts)(hb:pkBad g l=false)(hr:0<(rdyL l sts).length):
 Calls Tryz.prog 110 #[.int .i64 g,.slice oc l.length cc,.slice oa bs.length cp] w fun r w'=>r=.returned (.tuple #[.int .i64 0,.int .i64 7])∧Below w.heap.size w w':=by
 unfold pkBad at hb
 simp only[Bool.or_eq_false_iff,decide_eq_false_iff_not] at hb
 have hg:¬g<0:=hb.1
 have hm':l.length≤4:=by omega
 have RD:=hide (fready_any oc l cc oa bs cp Fs sts w hC h (by omega))
 have hm:¬(4:Int)<(l.length:Int):=by omega
 have hr':(0:Int)<((rdyL l sts).length:Int):=by omega
 clear hb hC h hr
 generalize hR:(rdyL l sts).length=R at RD hr'
 generalize l.length=m at RD hm hm' ⊢
 clear hR
 go_enter Tryz.func110,Tryz.ntmps110
 go_wp2_with fail
 refine RD.out.mono ?_
 rintro r w1 ⟨ob,d,rfl,-,b1⟩
 have B1:=hide b1
 clear b1
 go_wp2_with fail
 go_ret2
 exact⟨rfl,B1.out⟩
set_option maxRecDepth 100000 in
theorem park_ok(g:Int)(oc:Option Addr)(l:List Ca)(cc:Nat)(oa:Option Addr)(bs:List (Option Nat))(cp:Nat)(Fs:Nat→Nat→Prop)(sts:List (Option St))(w:World)(hC:CaAt w oc l)(hCn:0<l.length→∀a,oc=some a→¬All Fs a.block)(h:Qs Pp w oa bs Fs sts)(hb:pkBad g l=false)(hr:rdyL l sts=[])(hle:∀(i:Nat) (st:St),sts[i]? =some (some st)→∀b,(own st b).length≤1000):
 Calls Tryz.prog 110 #[.int .i64 g,.slice oc l.length cc,.slice oa bs.length cp] w fun r w'=>r=.returned (.tuple #[.int .i64 ((ps (hasC sts l) l.length).length:Int),.int .i64 0])∧Rz Pp w w' oa bs Fs (pkS g l sts l.length):=by
 unfold pkBad at hb
 simp only[Bool.or_eq_false_iff,decide_eq_false_iff_not] at hb
 have hg:¬g<0:=hb.1
 have hg0:0≤g:=by omega
 have hm':l.length≤4:=by omega
 have hm:¬(4:Int)<(l.length:Int):=by omega
 have IV0:=hide (Iv.start (g:=g) hr hle)
 have RD:=hide (fready_any oc l cc oa bs cp Fs sts w hC h (by omega))
 rw[hr] at RD
 simp only[List.length_nil] at RD
 have HC:=hide hC
 have HQ:=hide h
 have HN:=hide hCn
 have HLE:=hide hle
 have GA:Hid (∀u,Below w.heap.size w u→Calls Tryz.prog 148 #[.slice oc l.length cc,.slice oa bs.length cp,.func (.func 151) #[] #[]] u fun r w'=>∃ob d,r=.returned (.slice ob (ps (hasC sts l) l.length).length d)∧w'.ownsRow u.heap.size 3 1 (.slice ob (ps (hasC sts l) l.length).length d) (ps (hasC sts l) l.length).length (ic (ps (hasC sts l) l.length))∧Below u.heap.size u w'):=by
  intro u hu
  refine gather_p (hasC sts l) oc l cc oa bs cp u (hC.below hu) (h.row.below hu) (by omega) ?_
  intro i c v hi hv
  have e:hasC sts l i=(nmB bs c.ch).isSome:=by
   unfold hasC
   rw[hi]
   simp only
   rcases h.nm c.ch with⟨q1,q2⟩|⟨B,st,q1,q2,_⟩
   ·rw[q1,q2];rfl
   ·rw[q1,q2];rfl
  rw[e]
  exact park1_any c _ v
 have FIN:=hide (pk_ps g l sts l.length)
 obtain⟨L,hL⟩:∃L,L=ps (hasC sts l) l.length:=⟨_,rfl⟩
 have MB:Hid (∀k,k<L.length→∃(p:Nat) (c:Ca) (st:St),nth L k=(p:Int)∧p<l.length∧l[p]? =some c∧nmB sts c.ch=some st):=by
  intro k hk
  rw[hL] at hk ⊢
  obtain⟨p,e,hp,hh⟩:=ps_mem hk
  unfold hasC at hh
  rw[List.getElem?_eq_getElem hp] at hh
  simp only at hh
  obtain⟨st,hst⟩:=Option.isSome_iff_exists.1 hh
  exact⟨p,_,st,e,hp,List.getElem?_eq_getElem hp,hst⟩
 have hLl:L.length≤4:=by rw[hL];exact Nat.le_trans (ps_len _ _) hm'
 rw[←hL] at GA FIN ⊢
 rw[←FIN.out]
 clear hL FIN hb hC h hr hle hCn
 go_enter Tryz.func110,Tryz.ntmps110
 go_wp2_with fail
 refine RD.out.mono ?_
 rintro r w1 ⟨ob,d,rfl,-,b1⟩
 have B1:=hide b1
 clear b1 RD
 go_wp2_with fail
 refine (GA.out _ B1.out).mono ?_
 rintro r w6 ⟨o6,d6,rfl,ow6,b6⟩
 obtain⟨o6',c6',e6,at6,nb6⟩:=own_at2 ow6
 simp only[Value.slice.injEq] at e6
 obtain⟨rfl,-,rfl⟩:=e6
 have A6:=hide at6
 have B6:=hide (btr B1.out b6)
 have N6:Hid (∀a,o6=some a→¬All Fs a.block):=by
  intro a e hf
  have h1:=nb6 a e
  have h2:=B1.out.size
  obtain⟨i,hi⟩:=hf
  have:=HQ.out.bd i _ hi
  omega
 have Q6:=hide (HQ.out.below frP B6.out)
 have C6:=hide (HC.out.below B6.out)
 have RS:Hid (∀(p:Nat) (c:Ca) (st:St) (u:World),l[p]? =some c→nmB sts c.ch=some st→Below w6.heap.size w6 u→Calls Tryz.prog 152 #[.int .i64 g,cv c,.slice oc l.length cc,.slice oa bs.length cp] u fun r w'=>r=.returned (.int .i64 0)∧Below u.heap.size u w'):=by
  intro p c st u hp hst hu
  have qu:=Q6.out.below frP hu
  rcases qu.nm c.ch with⟨q1,q2⟩|⟨B,st',q1,q2,q3,q4,q5,q6,q7⟩
  ·rw[q2] at hst;cases hst
  ·rw[q2] at hst
   cases hst
   refine rehearse_ok g c oc l cc oa bs cp Fs sts B st u (C6.out.below hu) qu hm' hg0 q1 ?_ (HLE.out _ _ q6 _)
   intro v hv
   exact⟨_,frP.sm q7 (Sm.below hv (qu.bd _))⟩
 clear at6 nb6 ow6 b6 GA HC HQ
 obtain⟨n2,hn2⟩:∃n2,L.length=n2:=⟨_,rfl⟩
 rw[hn2] at MB hLl
 have HN2:=hide hn2
 rw[hn2]
 clear hn2
 go_wp2_with fail
 go_loopw [33] (fun i wz=>∃(j:Nat),j≤n2∧i=.int .i64 j∧Below w6.heap.size w6 wz) (fun i _=>n2 - (intOf i).toNat)
 case atStart=>exact⟨0,Nat.zero_le _,rfl,Below.refl _ _⟩
 case round=>
  obtain⟨j,hj,rfl,b7⟩:=hrel
  have B7:=hide b7
  clear b7
  by_cases hjl:j<n2
  ·have hjl':(j:Int)<(n2:Int):=by omega
   have hjn:j<L.length:=by have:=HN2.out;omega
   obtain⟨p,c,st,ep,hp,hpc,hst⟩:=MB.out j hjl
   obtain⟨b9,off9,e9,q9⟩:=A6.out.below B7.out j hjn
   rw[ep] at q9
   subst e9
   have hp':(p:Int)<(l.length:Int):=by omega
   obtain⟨bc,offc,rfl,c0,c1,c2⟩:=C6.out.below B7.out p c hpc
   have RSU:=hide (RS.out p c st wr hpc hst B7.out)
   unfold cv at RSU
   clear hpc hst
   go_wp2_with fail
   refine RSU.out.mono ?_
   rintro r w9 ⟨rfl,b9'⟩
   have B9:=hide (btr B7.out b9')
   clear b9' c0 c1 c2 q9 RSU
   go_wp2_with fail
   go_roundw
   case rel=>exact⟨j+1,by omega,by go_num,B9.out⟩
   case measure=>simp[intOf];omega
  ·have hjl':¬((j:Int)<(n2:Int)):=by omega
   clear RS
   have R0:=hide (Rz.same frP Q6.out B7.out)
   go_wp2_with fail
   go_loopw [51] (fun i wz=>∃(j:Nat) (s:List (Option St)),j≤n2∧i=.int .i64 j∧s=pkL g l sts (L.take j)∧Iv g l (1000+j) s∧(∀d,nmB s d=none↔nmB sts d=none)∧Rz Pp w6 wz oa bs Fs s) (fun i _=>n2 - (intOf i).toNat)
   case atStart=>exact⟨0,sts,Nat.zero_le _,rfl,rfl,IV0.out,fun _=>Iff.rfl,R0.out⟩
   case round=>
    clear R0 B7
    obtain⟨j,s,hj,rfl,es,iv,hno,rz⟩:=hrel
    have ES:=hide es
    have IV:=hide iv
    have NO:=hide hno
    have RZ:=hide rz
    clear es iv hno rz
    by_cases hjl:j<n2
    ·have hjl':(j:Int)<(n2:Int):=by omega
     have hjn:j<L.length:=by have:=HN2.out;omega
     obtain⟨p,c,st0,ep,hp,hpc,hst⟩:=MB.out j hjl
     obtain⟨Fs',nw,qs,kf⟩:=RZ.out
     obtain⟨b9,off9,e9,q9⟩:=at_kf A6.out kf N6.out j hjn
     rw[ep] at q9
     subst e9
     have hp':(p:Int)<(l.length:Int):=by omega
     obtain⟨bc,offc,rfl,c0,c1,c2⟩:=C6.out.kf kf (HN.out (by omega)) p c hpc
     have TK:Hid (pk1 g p c s=pkL g l sts (L.take (j+1))):=by
      show _=_
      have e2:L[j]=(p:Int):=by rw[←ep,nth_lt _ _ hjn]
      rw[List.take_succ_eq_append_getElem hjn,e2,pkL_app g l sts _ p c hpc,ES.out]
     have IVN:=hide (IV.out.step hg0 (by omega) (List.mem_of_getElem? hpc) p)
     have NON:Hid (∀d,nmB (pk1 g p c s) d=none↔nmB sts d=none):=fun d=>(pk1_none g p c s d).trans (NO.out d)
     rcases qs.nm c.ch with⟨q1,q2⟩|⟨B,st,q1,q2,q3,q4,q5,q6,q7⟩
     ·have:=(NO.out c.ch).1 q2
      rw[hst] at this
      cases this
     have OK:=(IV.out.ok hg0 (by omega) (List.mem_of_getElem? hpc) q2 p).1
     have BX:=below_alloc wr (.cells #[.bool c.sd,.int .i64 c.ch,.int .i64 c.v] 108)
     have XN:=hide (heap_new wr (.cells #[.bool c.sd,.int .i64 c.ch,.int .i64 c.v] 108))
     have szx:(wr.alloc (.cells #[.bool c.sd,.int .i64 c.ch,.int .i64 c.v] 108)).heap.size=wr.heap.size+1:=World.size_alloc _ _
     have NM:Hid (∀u,Below (wr.alloc (.cells #[.bool c.sd,.int .i64 c.ch,.int .i64 c.v] 108)).heap.size (wr.alloc (.cells #[.bool c.sd,.int .i64 c.ch,.int .i64 c.v] 108)) u→Calls Tryz.prog 153 #[.int .i64 c.ch,.slice oa bs.length cp] u fun r w'=>r=.returned (.pointer (some ⟨B,0,none⟩))∧w'=u):=by
      intro u hu
      have:=named_any oa bs c.ch cp u (qs.row.below (btr BX hu))
      rw[q1] at this
      exact this
     have WT:Hid (∀u,Below (wr.alloc (.cells #[.bool c.sd,.int .i64 c.ch,.int .i64 c.v] 108)).heap.size (wr.alloc (.cells #[.bool c.sd,.int .i64 c.ch,.int .i64 c.v] 108)) u→Calls Tryz.prog 103 #[.pointer (some ⟨B,0,none⟩),.bool c.sd,wv ⟨g,p,c.v⟩] u fun r w'=>r=.returned (.int .i64 0)∧Rz Pp w6 w' oa bs Fs (pk1 g p c s)∧(w'.cell? ⟨wr.heap.size,0,none⟩=some (.bool c.sd)∧w'.cell? ⟨wr.heap.size,1,none⟩=some (.int .i64 c.ch)∧w'.cell? ⟨wr.heap.size,2,none⟩=some (.int .i64 c.v))):=by
      intro u hu
      have bu:=btr BX hu
      have pu:Pp u B (Fs' c.ch.toNat) st:=frP.sm q7 (Sm.below bu (qs.bd _))
      refine (wait_any B _ st c.sd ⟨g,p,c.v⟩ u pu).mono ?_
      rintro r w9 ⟨rfl,k9,F9,n9,p9⟩
      have hX:=k9.heap (heap_below XN.out hu) (fun hf=>by have:=qs.bd _ _ hf;omega)
      refine⟨by rw[OK],?_,cell_of hX 0,cell_of hX 1,cell_of hX 2⟩
      have r1:=Rz.trans nw kf (Rz.step frP qs bu q5 k9 n9 p9)
      unfold pk1
      rw[q2]
      exact r1
     unfold wv at WT
     simp only at WT
     clear hpc hst kf nw qs q1 q2 q3 q4 q5 q6 q7 OK BX szx IV NO RZ ES
     go_wp2_with fail
     have e0:(wr.alloc (.cells #[.bool c.sd,.int .i64 c.ch,.int .i64 c.v] 108)).cell? ⟨wr.heap.size,0,none⟩=some (.bool c.sd):=cell_of XN.out 0
     have e1:(wr.alloc (.cells #[.bool c.sd,.int .i64 c.ch,.int .i64 c.v] 108)).cell? ⟨wr.heap.size,1,none⟩=some (.int .i64 c.ch):=cell_of XN.out 1
     have e2:(wr.alloc (.cells #[.bool c.sd,.int .i64 c.ch,.int .i64 c.v] 108)).cell? ⟨wr.heap.size,2,none⟩=some (.int .i64 c.v):=cell_of XN.out 2
     generalize wr.alloc (.cells #[.bool c.sd,.int .i64 c.ch,.int .i64 c.v] 108)=W1 at XN NM WT e0 e1 e2 ⊢
     generalize wr.heap.size=A at XN WT e0 e1 e2 ⊢
     have WA:Hid (∀u,Calls Tryz.prog 154 #[.int .i64 g,.int .i64 (p:Int),.agg #[.bool c.sd,.int .i64 c.ch,.int .i64 c.v]] u fun r w'=>r=.returned (.agg #[.int .i64 g,.int .i64 (p:Int),.int .i64 c.v])∧Below u.heap.size u w'):=fun u=>waiter_any g p c u
     clear c0 c1 c2 q9
     go_region_held3 (fun w'=>w'.cell? ⟨A,0,none⟩=some (.bool c.sd)∧w'.cell? ⟨A,1,none⟩=some (.int .i64 c.ch)∧w'.cell? ⟨A,2,none⟩=some (.int .i64 c.v))
      (first
        |go_keep
        |assumption
        |(go_split_ands
          refine⟨?_,?_,?_⟩<;>(refine cellB ?_ k2;assumption)))
      (first
        |(go_at_call 153;refine (NM.out _ (by first|exact bdrew1 _|exact btr (bdrew1 _) k2)).mono ?_;rintro r z1 ⟨rfl,rfl⟩)
        |(go_at_call 154;refine (WA.out _).mono ?_;rintro r z2 ⟨rfl,k2⟩)
        |(go_at_call 103;refine (WT.out _ (btr (bdrew1 _) k2)).mono ?_;rintro r z3 ⟨rfl,r3,h3⟩))
     all_goals (
      have R3:=hide r3
      clear h3 r3 k2 NM WT WA e0 e1 e2 XN
      go_wp2_with fail
      go_roundw
      case rel=>exact⟨j+1,_,by omega,by go_num,TK.out,IVN.out,NON.out,R3.out⟩
      case measure=>simp[intOf];omega)
    ·have hjl':¬((j:Int)<(n2:Int)):=by omega
     have EE:Hid (s=pkL g l sts L):=by
      show _=_
      rw[ES.out,List.take_of_length_le (by have:=HN2.out;omega)]
     have RF:Hid (Rz Pp w wr oa bs Fs (pkL g l sts L)):=by
      show Rz _ _ _ _ _ _ _
      rw[←EE.out]
      exact Rz.trans (NwA.refl _ _) (KF.of B6.out) RZ.out
     go_wp2_with fail
     go_ret2
     exact⟨by rw[HN2.out];rfl,RF.out⟩
theorem park_any(g:Int)(oc:Option Addr)(l:List Ca)(cc:Nat)(oa:Option Addr)(bs:List (Option Nat))(cp:Nat)(Fs:Nat→Nat→Prop)(sts:List (Option St))(w:World)(hC:CaAt w oc l)(hCn:0<l.length→∀a,oc=some a→¬All Fs a.block)(h:Qs Pp w oa bs Fs sts)(hle:∀(i:Nat) (st:St),sts[i]? =some (some st)→∀b,(own st b).length≤1000):
 Calls Tryz.prog 110 #[.int .i64 g,.slice oc l.length cc,.slice oa bs.length cp] w fun r w'=>r=.returned (.tuple #[.int .i64 (pkN g l sts),.int .i64 (pkE g l sts)])∧Rz Pp w w' oa bs Fs (pkA g l sts):=by
 unfold pkN pkE pkA
 cases hb:pkBad g l
 ·simp only[Bool.false_eq_true,if_false]
  by_cases hr:0<(rdyL l sts).length
  ·simp only[if_pos hr]
   refine (park_ready g oc l cc oa bs cp Fs sts w hC h hb hr).mono ?_
   rintro r w1 ⟨e,b1⟩
   exact⟨e,Rz.same frP h b1⟩
  ·simp only[if_neg hr]
   exact park_ok g oc l cc oa bs cp Fs sts w hC hCn h hb (List.eq_nil_of_length_eq_zero (by omega)) hle
 ·simp only[if_true]
  refine (park_bad g oc l cc oa bs.length cp w hb).mono ?_
  rintro r w1 ⟨e,b1⟩
  exact⟨e,Rz.same frP h b1⟩
end Fk
end Go.Proofs.YtogkjaekfhjelaaGreat
