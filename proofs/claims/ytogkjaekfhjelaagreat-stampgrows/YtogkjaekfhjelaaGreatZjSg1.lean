import Derived.Test.YtogkjaekfhjelaaGreatRows
import Derived.WalkKit
import Derived.ProofKit
import Derived.OpenShut
import Derived.WalkLawsBesides
import Derived.WalkSpells
import Derived.WalkMore
import Derived.ScopeJumps
import Derived.Below
import Derived.Laws.CopyOwn
import Derived.Laws.MakeOwn
import Derived.Deep.QuietTactic
import Derived.BigQuiet
import Derived.Deep.RegionHeld
import Derived.Laws.IdiomStrings
import Derived.Deep.AppendSrc
import Derived.Deep.Slices
import Derived.ShutString
import Derived.ChangeOld
import Derived.Maps.AppendAt
set_option maxHeartbeats 12800000
namespace Go.Proofs.YtogkjaekfhjelaaGreat
open Go.ChangeShapes Go.WideShapes Go.ChangeAt Go.RowKit
namespace Ba
theorem hide{p:Prop}(h:p):Hid p:=h
def nth(l:List Int)(k:Nat):Int:=l.getD k 0
theorem nth_lt(l:List Int)(k:Nat)(h:k<l.length):nth l k=l[k]:=by simp[nth,h]
theorem nth_take(l:List Int)(n k:Nat)(h:k<n):nth (l.take n) k=nth l k:=by simp[nth,h]
def At(w:World)(oa:Option Addr)(l:List Int):Prop:=
 ∀k,k<l.length→∃b off,oa=some ⟨b,off,none⟩∧w.cell? ⟨b,off+k,none⟩=some (.int .i64 (nth l k))
theorem At.below{w w':World}{oa:Option Addr}{l:List Int}(h:At w oa l)(hb:Below w.heap.size w w'):At w' oa l:=by
 intro k hk
 obtain⟨b,off,he,hc⟩:=h k hk
 exact⟨b,off,he,(hb.cell (World.block_lt_of_cell? w _ hc)).trans hc⟩
theorem At.nil(w:World)(oa:Option Addr):At w oa []:=fun _ hk=>absurd hk (Nat.not_lt_zero _)
def row(l:List Int):Array Value:=(l.map (Value.int .i64)).toArray
theorem row_at(l:List Int)(k:Nat)(h:k<l.length):(row l)[k]? =some (.int .i64 (nth l k)):=by simp[row,nth,h]
theorem heap_new(w:World)(o:Obj):(w.alloc o).heap[w.heap.size]? =some o:=by
 show (w.heap.push o)[w.heap.size]? =some o
 simp
theorem setRow_new(w:World)(cur data:Array Value)(t:TypeId):(w.alloc (.cells cur t)).setRow w.heap.size data=w.alloc (.cells data t):=by
 unfold World.setRow World.alloc
 congr 1
 apply Array.ext
 ·simp
 ·intro i h1 h2
  simp[Array.getElem_modify,Array.getElem_push]
  split
  ·simp_all
  ·have:i<w.heap.size:=by simp at h1;omega
   simp[this]
theorem cell_of{w:World}{b:Nat}{cur:Array Value}{t:TypeId}{fr:Nat × Nat}(h:w.heap[b]? =some (.cells cur t fr))(k:Nat):w.cell? ⟨b,k,none⟩=cur[k]?:=by
 simp[World.cell?,h]
theorem frozen_of{w:World}{b:Nat}{cur:Array Value}{t:TypeId}(h:w.heap[b]? =some (.cells cur t (0,0)))(k:Nat):w.frozen? ⟨b,k,none⟩=false:=by
 simp[World.frozen?,h]
theorem heap_setCell_same{w:World}{b i:Nat}{cur:Array Value}{t:TypeId}{fr:Nat × Nat}(h:w.heap[b]? =some (.cells cur t fr))(v:Value):(w.setCell ⟨b,i,none⟩ v).heap[b]? =some (.cells (cur.setIfInBounds i v) t fr):=by
 rw[setCell_eq_setRow w b i cur t fr v h]
 exact setRow_heap w b cur _ t fr h
theorem btr{a b c:World}(h:Below a.heap.size a b)(k:Below b.heap.size b c):Below a.heap.size a c:=h.trans (k.mono h.size)
theorem below_alloc(w:World)(o:Obj):Below w.heap.size w (w.alloc o):=(Below.refl _ _).alloc (Nat.le_refl _) _
theorem bdrew(w:World)(q:Nat):Below w.heap.size w (w.drewN q):=⟨rfl,rfl,rfl,Nat.le_refl _,fun _ _=>rfl⟩
theorem bdrew1(w:World):Below w.heap.size w w.drew:=⟨rfl,rfl,rfl,Nat.le_refl _,fun _ _=>rfl⟩
theorem heap_below{w w':World}{b:Nat}{o:Obj}(h:w.heap[b]? =some o)(hb:Below w.heap.size w w'):w'.heap[b]? =some o:=by
 have hl:b<w.heap.size:=by
  rcases Nat.lt_or_ge b w.heap.size with q|q
  ·exact q
  ·rw[Array.getElem?_eq_none q] at h;cases h
 exact (hb.block b hl).trans h
theorem results_row2{fn:Func}{p u:Tmp}{ty:TypeId}(h:fn.results=#[.cell p ty,.tmp u])(tmps:Array Value)(w:World)(g:Nat)(cs:Array Value)(v:Value)
 (hp:tmps.getD p undef=.pointer (some ⟨g,0,none⟩)) (hv:tmps.getD u undef=v) (hl:(loadVar ty ⟨g,0,none⟩).run Tryz.prog w=.ok (.agg cs) w):
 (results fn tmps).run Tryz.prog w=.ok (.tuple #[.agg cs,v]) w:=by
 subst hv
 have hp':tmps[p]?.getD undef=.pointer (some ⟨g,0,none⟩):=by simpa using hp
 simp[results,h,hp',asAddr,hl]
theorem ret_bool{a b:Bool}(h:a=b):Ending.returned (.bool a)=.returned (.bool b):=by rw[h]
theorem ret_int{a b:Int}(h:a=b):Ending.returned (.int .i64 a)=.returned (.int .i64 b):=by rw[h]
end Ba
namespace Re
open Ba
end Re
namespace Re
open Ba
end Re
namespace Re
open Ba
end Re
namespace Re
open Ba
end Re
namespace Re
open Ba
end Re
namespace Re
open Ba
end Re
namespace Ba
theorem heap_lt{w:World}{b:Nat}{o:Obj}(h:w.heap[b]? =some o):b<w.heap.size:=by
 rcases Nat.lt_or_ge b w.heap.size with q|q
 ·exact q
 ·rw[Array.getElem?_eq_none q] at h;cases h
structure KB(R:Nat)(w w':World):Prop where
 os:w'.os=w.os
 tape:w'.tape=w.tape
 output:w'.output=w.output
 size:w.heap.size≤w'.heap.size
 block:∀k,k<w.heap.size→k≠R→w'.heap[k]? =w.heap[k]?
theorem KB.refl(R:Nat)(w:World):KB R w w:=⟨rfl,rfl,rfl,Nat.le_refl _,fun _ _ _=>rfl⟩
theorem KB.trans{R:Nat}{a b c:World}(h:KB R a b)(k:KB R b c):KB R a c:=
 ⟨k.os.trans h.os,k.tape.trans h.tape,k.output.trans h.output,Nat.le_trans h.size k.size,fun x hx hr=>(k.block x (Nat.lt_of_lt_of_le hx h.size) hr).trans (h.block x hx hr)⟩
theorem KB.of{R:Nat}{a b:World}(h:Below a.heap.size a b):KB R a b:=⟨h.os,h.tape,h.output,h.size,fun x hx _=>h.block x hx⟩
theorem KB.setCell{R:Nat}{a b:World}(h:KB R a b)(i:Nat)(v:Value):KB R a (b.setCell ⟨R,i,none⟩ v):=
 ⟨h.os,h.tape,h.output,by show _≤(b.setCell _ _).heap.size;simp[World.setCell];exact h.size,fun x hx hr=>(Below.heap_setCell _ _ _ _ hr).trans (h.block x hx hr)⟩
theorem KB.below{R:Nat}{w a b:World}(h:Below w.heap.size w a)(k:KB R a b)(hR:w.heap.size≤R):Below w.heap.size w b:=
 ⟨k.os.trans h.os,k.tape.trans h.tape,k.output.trans h.output,Nat.le_trans h.size k.size,fun x hx=>(k.block x (Nat.lt_of_lt_of_le hx h.size) (by omega)).trans (h.block x hx)⟩
theorem KB.heap{R b:Nat}{w w':World}{o:Obj}(k:KB R w w')(h:w.heap[b]? =some o)(hb:b≠R):w'.heap[b]? =some o:=
 (k.block b (heap_lt h) hb).trans h
theorem KB.cell{R b i:Nat}{w w':World}{v:Value}(k:KB R w w')(h:w.cell? ⟨b,i,none⟩=some v)(hb:b≠R):w'.cell? ⟨b,i,none⟩=some v:=by
 have:=k.block b (World.block_lt_of_cell? w _ h) hb
 rw[←h]
 simp only[World.cell?,this]
theorem KB.at{R:Nat}{w w':World}{oa:Option Addr}{l:List Int}(k:KB R w w')(h:At w oa l)(hb:∀a,oa=some a→a.block≠R):At w' oa l:=by
 intro j hj
 obtain⟨b,off,rfl,hc⟩:=h j hj
 exact⟨b,off,rfl,k.cell hc (hb _ rfl)⟩
theorem At.lt{w:World}{oa:Option Addr}{l:List Int}(h:At w oa l)(h0:0<l.length)(a:Addr)(e:oa=some a):a.block<w.heap.size:=by
 obtain⟨b,off,rfl,hc⟩:=h 0 h0
 cases e
 exact World.block_lt_of_cell? w _ hc
theorem At.tail{w:World}{b off:Nat}{x:Int}{l:List Int}(h:At w (some ⟨b,off,none⟩) (x::l)):At w (some ⟨b,off+1,none⟩) l:=by
 intro k hk
 obtain⟨b',off',he,hc⟩:=h (k+1) (by simp;omega)
 simp only[Option.some.injEq,Addr.mk.injEq] at he
 obtain⟨rfl,rfl,_⟩:=he
 refine⟨b,off+1,rfl,?_⟩
 rw[show off+1+k=off+(k+1) by omega,hc]
 rfl
theorem At.head{w:World}{oa:Option Addr}{x:Int}{l:List Int}(h:At w oa (x::l)):∃b off,oa=some ⟨b,off,none⟩∧w.cell? ⟨b,off,none⟩=some (.int .i64 x):=by
 obtain⟨b,off,rfl,hc⟩:=h 0 (by simp)
 exact⟨b,off,rfl,hc⟩
end Ba
namespace Ba
theorem own_below{w w':World}{base:Nat}{e:TypeId}{size:Nat}{v:Value}{n:Nat}{xs:List Value}(h:w.ownsRow base e size v n xs)(hb:Below w.heap.size w w'):w'.ownsRow base e size v n xs:=by
 refine⟨h.1,?_⟩
 rcases h.2 with q|⟨g,cap,cur,q1,q2,q3,q4⟩
 ·exact .inl q
 ·exact .inr ⟨g,cap,cur,q1,q2,heap_below q3 hb,q4⟩
theorem own_ty{w:World}{base size:Nat}{e:TypeId}{v:Value}{n g:Nat}{xs:List Value}{c:Array Value}{t:TypeId}{fr:Nat × Nat}(h:w.ownsRow base e size v n xs)(hg:w.heap[g]? =some (.cells c t fr))(ht:t≠e):some g≠v.ownBlock:=by
 intro q
 rcases h.2 with⟨rfl,_⟩|⟨b,cap,cur,rfl,_,hb,_⟩
 ·simp[Value.ownBlock] at q
 ·simp[Value.ownBlock] at q
  subst q
  rw[hg] at hb
  simp at hb
  exact ht hb.2.1
theorem one_of{cs:List Value}{j:Nat}{v:Value}(h:(cs.drop j).take 1=[v]):cs[j]? =some v:=by
 have:((cs.drop j).take 1)[0]? =some v:=by rw[h];rfl
 simpa using this
theorem cells_int:Tryz.prog.cellsOf 3=1:=by kernel_rfl
section
variable {H:Type}{enc:TypeId × Value→H}{w:World}
end
end Ba
namespace Ba
structure KF(F:Nat→Prop)(w w':World):Prop where
 os:w'.os=w.os
 tape:w'.tape=w.tape
 output:w'.output=w.output
 size:w.heap.size≤w'.heap.size
 block:∀k,k<w.heap.size→¬F k→w'.heap[k]? =w.heap[k]?
def Nw(F' F:Nat→Prop)(w:World):Prop:=∀k,F' k→F k∨w.heap.size≤k
def Sm(F:Nat→Prop)(w w':World):Prop:=∀k,F k→w'.heap[k]? =w.heap[k]?
def Bd(F:Nat→Prop)(w:World):Prop:=∀k,F k→k<w.heap.size
theorem Nw.refl(F:Nat→Prop)(w:World):Nw F F w:=fun _ h=>.inl h
theorem Nw.trans{F G H:Nat→Prop}{a b:World}(h:Nw G F a)(k:Nw H G b)(hs:a.heap.size≤b.heap.size):Nw H F a:=by
 intro x hx
 rcases k x hx with q|q
 ·exact h x q
 ·exact .inr (by omega)
theorem KF.refl(F:Nat→Prop)(w:World):KF F w w:=⟨rfl,rfl,rfl,Nat.le_refl _,fun _ _ _=>rfl⟩
theorem KF.trans{F G:Nat→Prop}{a b c:World}(h:KF F a b)(k:KF G b c)(i:Nw G F a):KF F a c:=
 ⟨k.os.trans h.os,k.tape.trans h.tape,k.output.trans h.output,Nat.le_trans h.size k.size,fun x hx hr=>(k.block x (Nat.lt_of_lt_of_le hx h.size) (fun e=>by
   rcases i x e with q|q
   ·exact hr q
   ·omega)).trans (h.block x hx hr)⟩
theorem KF.of{F:Nat→Prop}{a b:World}(h:Below a.heap.size a b):KF F a b:=⟨h.os,h.tape,h.output,h.size,fun x hx _=>h.block x hx⟩
theorem KF.then{F:Nat→Prop}{a b c:World}(h:KF F a b)(k:Below b.heap.size b c):KF F a c:=h.trans (KF.of (F:=F) k) (Nw.refl _ _)
theorem KF.mono{F G:Nat→Prop}{a b:World}(h:KF F a b)(i:∀k,F k→G k):KF G a b:=⟨h.os,h.tape,h.output,h.size,fun x hx hr=>h.block x hx fun e=>hr (i x e)⟩
theorem KF.kb{F:Nat→Prop}{R:Nat}{a b:World}(h:KB R a b)(hR:F R):KF F a b:=⟨h.os,h.tape,h.output,h.size,fun x hx hr=>h.block x hx fun e=>hr (by rw[e];exact hR)⟩
theorem KF.set{F:Nat→Prop}{a b:World}{q:Nat}(h:KF F a b)(hq:F q)(i:Nat)(v:Value):KF F a (b.setCell ⟨q,i,none⟩ v):=
 ⟨h.os,h.tape,h.output,by show _≤(b.setCell _ _).heap.size;simp[World.setCell];exact h.size,fun x hx hr=>(Below.heap_setCell _ _ _ _ (fun e=>hr (by have e':x=q:=e;rw[e'];exact hq))).trans (h.block x hx hr)⟩
theorem KF.setNew{F:Nat→Prop}{a b:World}{z:Nat}(h:KF F a b)(hz:a.heap.size≤z)(i:Nat)(v:Value):KF F a (b.setCell ⟨z,i,none⟩ v):=
 ⟨h.os,h.tape,h.output,by show _≤(b.setCell _ _).heap.size;simp[World.setCell];exact h.size,fun x hx hr=>(Below.heap_setCell _ _ _ _ (by show x≠z;omega)).trans (h.block x hx hr)⟩
theorem KF.alloc{F:Nat→Prop}{a b:World}(h:KF F a b)(o:Obj):KF F a (b.alloc o):=h.then (below_alloc _ _)
theorem KF.below{F:Nat→Prop}{w a b:World}(h:Below w.heap.size w a)(k:KF F a b)(hF:∀x,F x→w.heap.size≤x):Below w.heap.size w b:=
 ⟨k.os.trans h.os,k.tape.trans h.tape,k.output.trans h.output,Nat.le_trans h.size k.size,fun x hx=>(k.block x (Nat.lt_of_lt_of_le hx h.size) (fun e=>by have:=hF x e;omega)).trans (h.block x hx)⟩
theorem KF.heap{F:Nat→Prop}{b:Nat}{w w':World}{o:Obj}(k:KF F w w')(h:w.heap[b]? =some o)(hb:¬F b):w'.heap[b]? =some o:=
 (k.block b (heap_lt h) hb).trans h
theorem KF.cell{F:Nat→Prop}{b i:Nat}{w w':World}{v:Value}(k:KF F w w')(h:w.cell? ⟨b,i,none⟩=some v)(hb:¬F b):w'.cell? ⟨b,i,none⟩=some v:=by
 have:=k.block b (World.block_lt_of_cell? w _ h) hb
 rw[←h]
 simp only[World.cell?,this]
theorem Sm.kf{F G:Nat→Prop}{a b:World}(k:KF G a b)(hF:Bd F a)(hd:∀x,F x→¬G x):Sm F a b:=fun x hx=>k.block x (hF x hx) (hd x hx)
theorem Sm.below{F:Nat→Prop}{a b:World}(k:Below a.heap.size a b)(hF:Bd F a):Sm F a b:=fun x hx=>k.block x (hF x hx)
theorem Sm.heap{F:Nat→Prop}{a b:World}(h:Sm F a b){x:Nat}{o:Obj}(hx:F x)(ho:a.heap[x]? =some o):b.heap[x]? =some o:=(h x hx).trans ho
theorem Sm.sub{F G:Nat→Prop}{a b:World}(h:Sm F a b)(i:∀x,G x→F x):Sm G a b:=fun x hx=>h x (i x hx)
theorem Bd.sm{F:Nat→Prop}{a b:World}(h:Bd F a)(s:Sm F a b):Bd F b:=by
 intro x hx
 have h1:=h x hx
 have h2:=s x hx
 rw[Array.getElem?_eq_getElem h1] at h2
 exact heap_lt h2
theorem Bd.mono{F:Nat→Prop}{a b:World}(h:Bd F a)(s:a.heap.size≤b.heap.size):Bd F b:=fun x hx=>Nat.lt_of_lt_of_le (h x hx) s
theorem Nw.apart{F' F G:Nat→Prop}{a:World}(h:Nw F' F a)(hG:Bd G a)(hd:∀x,G x→¬F x):∀x,G x→¬F' x:=by
 intro x hx hf
 rcases h x hf with q|q
 ·exact hd x hx q
 ·have:=hG x hx
  omega
end Ba
namespace En
open Ba Re
structure Ev where
 k:Int
 g:Int
 c:Int
 a:Int
 v:Int
 m:Int
 s:Bool
 o:Bool
def evc(e:Ev):Array Value:=#[.int .i64 e.k,.int .i64 e.g,.int .i64 e.c,.int .i64 e.a,.int .i64 e.v,.int .i64 e.m,.bool e.s,.bool e.o]
def evv(e:Ev):Value:=.agg (evc e)
theorem size_ev:(Tryz.prog.info? 40).map (·.size)=some 8:=by kernel_rfl
theorem loadVar_ev{w:World}{b:Nat}{c:Array Value}{t:TypeId}(h:w.heap[b]? =some (.cells c t (0,0)))(hc:c.size=8):(loadVar 40 ⟨b,0,none⟩).run Tryz.prog w=.ok (.agg c) w:=
 run_loadVar_row w b t _ _ _ _ h Tryz.underlying40 rfl (by rw[size_ev,hc])
theorem size_sp:(Tryz.prog.info? 228).map (·.size)=some 2:=by kernel_rfl
theorem loadVar_sp{w:World}{b:Nat}{c:Array Value}{t:TypeId}(h:w.heap[b]? =some (.cells c t (0,0)))(hc:c.size=2):(loadVar 228 ⟨b,0,none⟩).run Tryz.prog w=.ok (.agg c) w:=
 run_loadVar_row w b t _ _ _ _ h Tryz.underlying228 rfl (by rw[size_sp,hc])
theorem results_row1{fn:Func}{p:Tmp}{ty:TypeId}(h:fn.results=#[.cell p ty])(tmps:Array Value)(w:World)(g:Nat)(cs:Array Value)
 (hp:tmps.getD p undef=.pointer (some ⟨g,0,none⟩)) (hl:(loadVar ty ⟨g,0,none⟩).run Tryz.prog w=.ok (.agg cs) w):
 (results fn tmps).run Tryz.prog w=.ok (.agg cs) w:=by
 have hp':tmps[p]?.getD undef=.pointer (some ⟨g,0,none⟩):=by simpa using hp
 simp[results,h,hp',asAddr,hl]
theorem heap_new2(w:World)(a b:Obj):((w.alloc a).alloc b).heap[w.heap.size+1]? =some b:=by
 have:=heap_new (w.alloc a) b
 rw[World.size_alloc] at this
 exact this
theorem bare_any(k g:Int)(w:World):
 Calls Tryz.prog 35 #[.int .i64 k,.int .i64 g] w fun r w'=>r=.returned (.agg #[.int .i64 k,.int .i64 g,.int .i64 (-1),.int .i64 (-1),.int .i64 (-1),.int .i64 (-1),.bool false,.bool false])∧Below w.heap.size w w':=by
 go_enter Tryz.func35,Tryz.ntmps35
 go_wp2_with fail
 exact bodyPost_ret (results_row1 Tryz.results35 _ _ _ _ rfl (loadVar_ev (heap_new _ _) rfl)) rfl ⟨rfl,below_alloc _ _⟩
theorem isSelect_any(e:Ev)(w:World):
 Calls Tryz.prog 178 #[evv e] w fun r w'=>r=.returned (.bool (e.a !=-1))∧Below w.heap.size w w':=by
 unfold evv evc
 go_enter Tryz.func178,Tryz.ntmps178
 go_wp2_with fail
 go_ret
 exact⟨rfl,below_alloc _ _⟩
def vm(e:Ev):Int:=if (e.s||e.o)=true then 99 else 0
def ml(e:Ev):Int:=if e.k=7 then 0 else -1
def mh(e:Ev):Int:=if e.k=7 then 511 else if (e.s||e.o)=true then 511 else -1
theorem values_any(e:Ev)(w:World):
 Calls Tryz.prog 179 #[evv e] w fun r w'=>r=.returned (.agg #[.int .i64 0,.int .i64 (vm e)])∧Below w.heap.size w w':=by
 unfold evv evc vm
 obtain⟨k,g,c,a,v,m,s,o⟩:=e
 simp only
 cases s
 ·cases o
  ·go_enter Tryz.func179,Tryz.ntmps179
   go_wp2_with fail
   exact bodyPost_ret (results_row1 Tryz.results179 _ _ _ _ rfl (loadVar_sp (heap_new2 _ _ _) rfl)) rfl ⟨rfl,btr (below_alloc _ _) (below_alloc _ _)⟩
  ·go_enter Tryz.func179,Tryz.ntmps179
   go_wp2_with fail
   exact bodyPost_ret (results_row1 Tryz.results179 _ _ _ _ rfl (loadVar_sp (heap_new2 _ _ _) rfl)) rfl ⟨rfl,btr (below_alloc _ _) (below_alloc _ _)⟩
 ·go_enter Tryz.func179,Tryz.ntmps179
  go_wp2_with fail
  exact bodyPost_ret (results_row1 Tryz.results179 _ _ _ _ rfl (loadVar_sp (heap_new2 _ _ _) rfl)) rfl ⟨rfl,btr (below_alloc _ _) (below_alloc _ _)⟩
theorem mates_any(e:Ev)(w:World):
 Calls Tryz.prog 180 #[evv e] w fun r w'=>r=.returned (.agg #[.int .i64 (ml e),.int .i64 (mh e)])∧Below w.heap.size w w':=by
 unfold evv evc ml mh
 obtain⟨k,g,c,a,v,m,s,o⟩:=e
 simp only
 by_cases hk:k=7
 ·subst hk
  simp only[if_true]
  go_enter Tryz.func180,Tryz.ntmps180
  go_wp2_with fail
  exact bodyPost_ret (results_row1 Tryz.results180 _ _ _ _ rfl (loadVar_sp (heap_new2 _ _ _) rfl)) rfl ⟨rfl,btr (below_alloc _ _) (below_alloc _ _)⟩
 ·have hk':(k==7)=false:=by simpa using hk
  simp only[if_neg hk]
  clear hk
  cases s
  ·cases o
   ·go_enter Tryz.func180,Tryz.ntmps180
    go_wp2_with fail
    exact bodyPost_ret (results_row1 Tryz.results180 _ _ _ _ rfl (loadVar_sp (heap_new2 _ _ _) rfl)) rfl ⟨rfl,btr (below_alloc _ _) (below_alloc _ _)⟩
   ·go_enter Tryz.func180,Tryz.ntmps180
    go_wp2_with fail
    exact bodyPost_ret (results_row1 Tryz.results180 _ _ _ _ rfl (loadVar_sp (heap_new2 _ _ _) rfl)) rfl ⟨rfl,btr (below_alloc _ _) (below_alloc _ _)⟩
  ·go_enter Tryz.func180,Tryz.ntmps180
   go_wp2_with fail
   exact bodyPost_ret (results_row1 Tryz.results180 _ _ _ _ rfl (loadVar_sp (heap_new2 _ _ _) rfl)) rfl ⟨rfl,btr (below_alloc _ _) (below_alloc _ _)⟩
def inS(n lo hi:Int):Bool:=decide (lo≤n)&&decide (n≤hi)
theorem has_any(lo hi n:Int)(w:World):
 Calls Tryz.prog 160 #[.agg #[.int .i64 lo,.int .i64 hi],.int .i64 n] w fun r w'=>r=.returned (.bool (inS n lo hi))∧Below w.heap.size w w':=by
 unfold inS
 cases h1:decide (lo≤n)
 ·go_enter Tryz.func160,Tryz.ntmps160
  go_wp2_with fail
  go_ret
  exact⟨rfl,below_alloc _ _⟩
 ·go_enter Tryz.func160,Tryz.ntmps160
  go_wp2_with fail
  go_ret
  exact⟨ret_bool (by simp),below_alloc _ _⟩
def ff(e:Ev):Bool:=
 if e.k=3 then e.s&&!e.o else if e.k=4 then !e.s else if e.k=6 then !e.o&&!(e.s&&(e.a !=-1)) else if e.k=7 then e.o||!e.s else !e.s&&!e.o
theorem flagsFit_any(e:Ev)(w:World):
 Calls Tryz.prog 157 #[evv e] w fun r w'=>r=.returned (.bool (ff e))∧Below w.heap.size w w':=by
 have IS:=hide fun u=>isSelect_any e u
 unfold evv evc at IS ⊢
 unfold ff
 obtain⟨k,g,c,a,v,m,s,o⟩:=e
 simp only at IS ⊢
 have Q:=hide (heap_new w (.cells #[.int .i64 k,.int .i64 g,.int .i64 c,.int .i64 a,.int .i64 v,.int .i64 m,.bool s,.bool o] 40))
 have BA:=hide (below_alloc w (.cells #[.int .i64 k,.int .i64 g,.int .i64 c,.int .i64 a,.int .i64 v,.int .i64 m,.bool s,.bool o] 40))
 by_cases h3:k=3
 ·subst h3
  simp only[if_true]
  cases s
  ·go_enter Tryz.func157,Tryz.ntmps157
   go_wp2_with fail
   go_ret
   exact⟨rfl,BA.out⟩
  ·go_enter Tryz.func157,Tryz.ntmps157
   go_wp2_with fail
   go_ret
   exact⟨ret_bool (by simp),BA.out⟩
 simp only[if_neg h3]
 have d3:(k==3)=false:=by simpa using h3
 by_cases h4:k=4
 ·subst h4
  simp only[if_true]
  go_enter Tryz.func157,Tryz.ntmps157
  go_wp2_with fail
  go_ret
  exact⟨rfl,BA.out⟩
 simp only[if_neg h4]
 have d4:(k==4)=false:=by simpa using h4
 by_cases h6:k=6
 ·subst h6
  simp only[if_true]
  cases o
  ·cases s
   ·go_enter Tryz.func157,Tryz.ntmps157
    go_wp2_with fail
    go_ret
    exact⟨rfl,BA.out⟩
   ·go_enter Tryz.func157,Tryz.ntmps157
    go_wp2_with fail
    refine (IS.out _).mono ?_
    rintro r w1 ⟨rfl,b1⟩
    have B1:=hide (btr BA.out b1)
    clear b1
    go_wp2_with fail
    go_ret
    exact⟨ret_bool (by simp),B1.out⟩
  ·go_enter Tryz.func157,Tryz.ntmps157
   go_wp2_with fail
   go_ret
   exact⟨rfl,BA.out⟩
 simp only[if_neg h6]
 have d6:(k==6)=false:=by simpa using h6
 by_cases h7:k=7
 ·subst h7
  simp only[if_true]
  cases o
  ·go_enter Tryz.func157,Tryz.ntmps157
   go_wp2_with fail
   go_ret
   exact⟨ret_bool (by simp),BA.out⟩
  ·go_enter Tryz.func157,Tryz.ntmps157
   go_wp2_with fail
   go_ret
   exact⟨rfl,BA.out⟩
 simp only[if_neg h7]
 have d7:(k==7)=false:=by simpa using h7
 clear h3 h4 h6 h7
 cases s
 ·go_enter Tryz.func157,Tryz.ntmps157
  go_wp2_with fail
  go_ret
  exact⟨ret_bool (by simp),BA.out⟩
 ·go_enter Tryz.func157,Tryz.ntmps157
  go_wp2_with fail
  go_ret
  exact⟨rfl,BA.out⟩
theorem size_a5:(Tryz.prog.info? 232).map (·.size)=some 5:=by kernel_rfl
theorem loadVar_a5{w:World}{b:Nat}{c:Array Value}{t:TypeId}(h:w.heap[b]? =some (.cells c t (0,0)))(hc:c.size=5):(loadVar 232 ⟨b,0,none⟩).run Tryz.prog w=.ok (.agg c) w:=
 run_loadVar_row w b t _ _ _ _ h Tryz.underlying232 rfl (by rw[size_a5,hc])
def EAt(w:World)(B:Nat)(e:Ev):Prop:=w.heap[B]? =some (.cells (evc e) 40 (0,0))
theorem fields_any(B:Nat)(e:Ev)(w:World)(h:EAt w B e):
 Calls Tryz.prog 159 #[.pointer (some ⟨B,0,none⟩)] w fun r w'=>r=.returned (.agg #[.pointer (some ⟨B,1,none⟩),.pointer (some ⟨B,2,none⟩),.pointer (some ⟨B,3,none⟩),.pointer (some ⟨B,4,none⟩),.pointer (some ⟨B,5,none⟩)])∧Below w.heap.size w w':=by
 have y0:w.cell? ⟨B,0,none⟩=some (.int .i64 e.k):=cell_of h 0
 have hB:=Ba.heap_lt h
 clear h
 go_enter Tryz.func159,Tryz.ntmps159
 go_wp2_with fail
 go_region
 all_goals
  go_wp2_with fail
  exact bodyPost_ret (results_row1 Tryz.results159 _ _ _ _ rfl (loadVar_a5 (heap_below (heap_new _ _) (bdrew1 _)) rfl)) rfl ⟨rfl,btr (below_alloc _ _) (bdrew1 _)⟩
end En
namespace Cr
open Ba
structure Mb where
 p:Int
 q:Int
 s:Int
def mc(l:List Mb):List Value:=l.flatMap fun x=>[.int .i64 x.p,.int .i64 x.q,.int .i64 x.s]
theorem mc_nil:mc []=[]:=rfl
theorem mc_cons(x:Mb)(l:List Mb):mc (x::l)=.int .i64 x.p::.int .i64 x.q::.int .i64 x.s::mc l:=rfl
theorem mc_app(l m:List Mb):mc (l++m)=mc l++mc m:=by simp[mc]
theorem mc_at:∀(l:List Mb) (k:Nat) (x:Mb),l[k]? =some x→(mc l)[k*3]? =some (.int .i64 x.p)∧(mc l)[k*3+1]? =some (.int .i64 x.q)∧(mc l)[k*3+2]? =some (.int .i64 x.s)
 |[],_,_,h=>by simp at h
 |y::l,0,x,h=>by simp at h;subst h;exact⟨rfl,rfl,rfl⟩
 |y::l,k+1,x,h=>by
  rw[mc_cons]
  have:=mc_at l k x (by simpa using h)
  rw[show (k+1)*3=k*3+3 by omega]
  exact this
theorem mc_one(l:List Mb):∀u∈mc l,u.oneCell'=true:=by
 induction l with
 |nil=>intro u hu;simp[mc_nil] at hu
 |cons x l ih=>
  intro u hu
  rw[mc_cons] at hu
  simp at hu
  rcases hu with rfl|rfl|rfl|hu
  ·rfl
  ·rfl
  ·rfl
  ·exact ih u hu
theorem mc_set1:∀(l:List Mb) (k:Nat) (x:Mb) (y:Int),l[k]? =some x→(mc l).set (k*3+1) (.int .i64 y)=mc (l.set k ⟨x.p,y,x.s⟩)
 |[],_,_,_,h=>by simp at h
 |z::l,0,x,y,h=>by simp at h;subst h;rfl
 |z::l,k+1,x,y,h=>by
  rw[List.set_cons_succ,mc_cons,mc_cons,←mc_set1 l k x y (by simpa using h),show (k+1)*3+1=k*3+1+1+1+1 by omega]
  simp only[List.set_cons_succ]
theorem mc_set2:∀(l:List Mb) (k:Nat) (x:Mb) (y:Int),l[k]? =some x→(mc l).set (k*3+2) (.int .i64 y)=mc (l.set k ⟨x.p,x.q,y⟩)
 |[],_,_,_,h=>by simp at h
 |z::l,0,x,y,h=>by simp at h;subst h;rfl
 |z::l,k+1,x,y,h=>by
  rw[List.set_cons_succ,mc_cons,mc_cons,←mc_set2 l k x y (by simpa using h),show (k+1)*3+2=k*3+2+1+1+1 by omega]
  simp only[List.set_cons_succ]
def MAt(w:World)(oa:Option Addr)(l:List Mb):Prop:=
 ∀k x,l[k]? =some x→∃b,oa=some ⟨b,0,none⟩∧w.cell? ⟨b,k*3,none⟩=some (.int .i64 x.p)∧w.cell? ⟨b,k*3+1,none⟩=some (.int .i64 x.q)∧w.cell? ⟨b,k*3+2,none⟩=some (.int .i64 x.s)
theorem MAt.nil(w:World)(oa:Option Addr):MAt w oa []:=fun _ _ h=>by simp at h
theorem MAt.below{w w':World}{oa:Option Addr}{l:List Mb}(h:MAt w oa l)(hb:Below w.heap.size w w'):MAt w' oa l:=by
 intro k x hk
 obtain⟨b,e,h0,h1,h2⟩:=h k x hk
 exact⟨b,e,(hb.cell (World.block_lt_of_cell? w _ h0)).trans h0,(hb.cell (World.block_lt_of_cell? w _ h1)).trans h1,(hb.cell (World.block_lt_of_cell? w _ h2)).trans h2⟩
theorem owns_mat{w:World}{base:Nat}{e:TypeId}{v:Value}{l:List Mb}(h:w.ownsRow base e 3 v l.length (mc l)):∃oa c,v=.slice oa l.length c∧MAt w oa l∧l.length≤c:=by
 rcases h.2 with⟨rfl,h0⟩|⟨g,cap,cur,rfl,_,hg,hc,_,hcs,htk⟩
 ·refine⟨none,0,by rw[h0],?_,by omega⟩
  obtain rfl:=List.eq_nil_of_length_eq_zero h0
  exact MAt.nil _ _
 ·refine⟨_,cap,rfl,?_,hc⟩
  intro k x hk
  have hkl:=(List.getElem?_eq_some_iff.1 hk).1
  obtain⟨q0,q1,q2⟩:=mc_at l k x hk
  rw[←htk,List.getElem?_take_of_lt (by omega)] at q0 q1 q2
  refine⟨g,rfl,?_,?_,?_⟩
  ·rw[cell_of hg];simpa using q0
  ·rw[cell_of hg];simpa using q1
  ·rw[cell_of hg];simpa using q2
theorem src3(w:World)(x:Mb)(t:TypeId):∀j u,(mc [x])[j]? =some u→(w.alloc (.cells #[.int .i64 x.p,.int .i64 x.q,.int .i64 x.s] t)).cell? ((⟨w.heap.size,0,none⟩:Addr).add j)=some u:=by
 intro j u hj
 rw[Addr.add_lit,Nat.zero_add,cell_of (heap_new _ _)]
 rw[mc_cons,mc_nil] at hj
 rw[←hj]
 simp
theorem own_keep{w w':World}{base:Nat}{e:TypeId}{size:Nat}{v:Value}{n:Nat}{xs:List Value}(h:w.ownsRow base e size v n xs)(hk:∀g,v.ownBlock=some g→w'.heap[g]? =w.heap[g]?):w'.ownsRow base e size v n xs:=by
 refine⟨h.1,?_⟩
 rcases h.2 with q|⟨g,cap,cur,q1,q2,q3,q4⟩
 ·exact .inl q
 ·exact .inr ⟨g,cap,cur,q1,q2,(hk g (by rw[q1];rfl)).trans q3,q4⟩
theorem own_blk{w:World}{base:Nat}{e:TypeId}{size:Nat}{v:Value}{n:Nat}{xs:List Value}(h:w.ownsRow base e size v n xs)(g:Nat)(hg:v.ownBlock=some g):base≤g∧∃cur,w.heap[g]? =some (.cells cur e (0,0)):=by
 rcases h.2 with⟨rfl,_⟩|⟨g',cap,cur,rfl,q2,q3,q4⟩
 ·simp[Value.ownBlock] at hg
 ·simp[Value.ownBlock] at hg
  subst hg
  exact⟨q2,cur,q3⟩
theorem own_set{w:World}{base:Nat}{e:TypeId}{g n cap j:Nat}{xs:List Value}(h:w.ownsRow base e 3 (.slice (some ⟨g,0,none⟩) n cap) n xs)(u:Value):(w.setCell ⟨g,j,none⟩ u).ownsRow base e 3 (.slice (some ⟨g,0,none⟩) n cap) n (xs.set j u):=by
 refine⟨by rw[List.length_set];exact h.1,?_⟩
 rcases h.2 with⟨q,_⟩|⟨g',cap',cur,q1,q2,q3,q4,q5,q6,q7⟩
 ·cases q
 ·cases q1
  refine .inr ⟨g,cap,_,rfl,q2,Ba.heap_setCell_same q3 u,q4,q5,by simpa using q6,?_⟩
  rw[Array.toList_setIfInBounds,List.take_set,q7]
structure Cw(T E:TypeId)(w:World)(B:Nat)(F:Nat→Prop)(oa:Option Addr)(c:Nat)(l:List Mb):Prop where
 hp:w.heap[B]? =some (.cells #[.slice oa l.length c] T (0,0))
 ow:w.ownsRow 0 E 3 (.slice oa l.length c) l.length (mc l)
 fb:F B
 fr:∀g,(Value.slice oa l.length c).ownBlock=some g→F g
 bd:Bd F w
 le:l.length≤512
def Cq(T E:TypeId)(w:World)(B:Nat)(F:Nat→Prop)(l:List Mb):Prop:=∃oa c,Cw T E w B F oa c l
section
variable {T E:TypeId}{w w':World}{B:Nat}{F K:Nat→Prop}{oa:Option Addr}{c:Nat}{l:List Mb}
theorem Cw.at(h:Cw T E w B F oa c l):MAt w oa l∧l.length≤c:=by
 obtain⟨oa',c',e,h1,h2⟩:=owns_mat h.ow
 cases e
 exact⟨h1,h2⟩
theorem Cw.lt(h:Cw T E w B F oa c l):B<w.heap.size:=heap_lt h.hp
theorem Cq.lt(h:Cq T E w B F l):B<w.heap.size:=by
 obtain⟨oa,c,h⟩:=h
 exact h.lt
theorem Cq.le(h:Cq T E w B F l):l.length≤512:=by
 obtain⟨oa,c,h⟩:=h
 exact h.le
theorem Cq.bd(h:Cq T E w B F l):Bd F w:=by
 obtain⟨oa,c,h⟩:=h
 exact h.bd
theorem Cw.sm(h:Cw T E w B F oa c l)(s:Sm F w w'):Cw T E w' B F oa c l:=
 ⟨s.heap h.fb h.hp,own_keep h.ow fun g e=>s g (h.fr g e),h.fb,h.fr,h.bd.sm s,h.le⟩
theorem Cw.below(h:Cw T E w B F oa c l)(hb:Below w.heap.size w w'):Cw T E w' B F oa c l:=h.sm (Sm.below hb h.bd)
theorem Cq.below(h:Cq T E w B F l)(hb:Below w.heap.size w w'):Cq T E w' B F l:=by
 obtain⟨oa,c,h⟩:=h
 exact⟨oa,c,h.below hb⟩
theorem Cw.set1{g k:Nat}{x:Mb}(h:Cw T E w B F (some ⟨g,0,none⟩) c l)(hT:T≠E)(hk:l[k]? =some x)(y:Int):Cw T E (w.setCell ⟨g,k*3+1,none⟩ (.int .i64 y)) B F (some ⟨g,0,none⟩) c (l.set k ⟨x.p,y,x.s⟩):=by
 have K:=(KB.refl g w).setCell (k*3+1) (.int .i64 y)
 have hg:g≠B:=by
  intro e
  obtain⟨_,cur,q⟩:=own_blk h.ow g rfl
  rw[e,h.hp] at q
  cases q
  exact hT rfl
 refine⟨?_,?_,h.fb,?_,h.bd.mono K.size,by rw[List.length_set];exact h.le⟩
 ·rw[List.length_set];exact K.heap h.hp (Ne.symm hg)
 ·rw[List.length_set,←mc_set1 l k x y hk];exact own_set h.ow _
 ·rw[List.length_set];exact h.fr
theorem Cw.set2{g k:Nat}{x:Mb}(h:Cw T E w B F (some ⟨g,0,none⟩) c l)(hT:T≠E)(hk:l[k]? =some x)(y:Int):Cw T E (w.setCell ⟨g,k*3+2,none⟩ (.int .i64 y)) B F (some ⟨g,0,none⟩) c (l.set k ⟨x.p,x.q,y⟩):=by
 have K:=(KB.refl g w).setCell (k*3+2) (.int .i64 y)
 have hg:g≠B:=by
  intro e
  obtain⟨_,cur,q⟩:=own_blk h.ow g rfl
  rw[e,h.hp] at q
  cases q
  exact hT rfl
 refine⟨?_,?_,h.fb,?_,h.bd.mono K.size,by rw[List.length_set];exact h.le⟩
 ·rw[List.length_set];exact K.heap h.hp (Ne.symm hg)
 ·rw[List.length_set,←mc_set2 l k x y hk];exact own_set h.ow _
 ·rw[List.length_set];exact h.fr
def Fw(F:Nat→Prop)(v:Value):Nat→Prop:=fun k=>F k∨v.ownBlock=some k
theorem Cw.put{v0:Value}{m:List Mb}(hG:w.heap[B]? =some (.cells #[v0] T (0,0)))(ow:w.ownsRow 0 E 3 (.slice oa m.length c) m.length (mc m))(hT:T≠E)(fb:F B)(bd:Bd F w)(le:m.length≤512):Cw T E (w.setCell ⟨B,0,none⟩ (.slice oa m.length c)) B (Fw F (.slice oa m.length c)) oa c m:=by
 have K:=(KB.refl B w).setCell 0 (.slice oa m.length c)
 refine⟨(Ba.heap_setCell_same hG _).trans rfl,own_keep ow fun g e=>?_,.inl fb,fun g e=>.inr e,?_,le⟩
 ·obtain⟨_,cur,q⟩:=own_blk ow g e
  refine K.block g (heap_lt q) fun e2=>?_
  rw[e2,hG] at q
  cases q
  exact hT rfl
 ·intro k hk
  refine Nat.lt_of_lt_of_le ?_ K.size
  rcases hk with q|q
  ·exact bd k q
  ·obtain⟨_,cur,q⟩:=own_blk ow k q
   exact heap_lt q
end
def spE(l:List Mb)(p:Int):Int:=if p<0 then 1 else if 512≤l.length then 5 else 0
def spV(l:List Mb)(p:Int):Int:=if p<0 then 0 else if 512≤l.length then 0 else l.length
def spL(l:List Mb)(p:Int):List Mb:=if p<0 then l else if 512≤l.length then l else l++[⟨p,0,0⟩]
def gt(l:List Mb)(g:Int):Option Mb:=if g<0 then none else l[g.toNat]?
def thr(l:List Mb)(g:Int):Bool:=(gt l g).isSome
def one0(o:Option Mb):Mb:=o.getD ⟨0,0,0⟩
def chE(l:List Mb)(g a:Int):Int:=match gt l g with
 |none=>6
 |some x=>if x.s=a then 0 else 7
def chL(l:List Mb)(g a b d:Int):List Mb:=match gt l g with
 |none=>l
 |some x=>if x.s=a then l.set g.toNat ⟨x.p,x.q+d,b⟩ else l
def ablF:Nat→List Mb→List Int
 |_,[]=>[]
 |k,x::l=>if x.s=0 then (k:Int)::ablF (k+1) l else ablF (k+1) l
def abl(l:List Mb):List Int:=ablF 0 l
def hasS(l:List Mb)(s:Int):Bool:=l.any fun x=>x.s==s
def ovr(l:List Mb):Int:=if hasS l 0 then 0 else if hasS l 1 then 2 else 1
theorem gt_none{l:List Mb}{g:Int}(h:gt l g=none):g<0∨(l.length:Int)≤g:=by
 unfold gt at h
 split at h
 ·exact .inl ‹_›
 ·rw[List.getElem?_eq_none_iff] at h
  omega
theorem gt_some{l:List Mb}{g:Int}{x:Mb}(h:gt l g=some x):∃k:Nat,g=(k:Int)∧k<l.length∧l[k]? =some x:=by
 unfold gt at h
 split at h
 ·cases h
 ·exact⟨g.toNat,by omega,(List.getElem?_eq_some_iff.1 h).1,h⟩
theorem gt_nat(l:List Mb)(k:Nat):gt l (k:Int)=l[k]?:=by
 unfold gt
 rw[if_neg (by omega),Int.toNat_natCast]
def Bn(K:Nat)(l:List Mb):Prop:=∀x∈l,(0≤x.q∧x.q≤K)∧0≤x.s∧x.s≤2
theorem Bn.mono{K M:Nat}{l:List Mb}(h:Bn K l)(hK:K≤M):Bn M l:=fun x hx=>by have:=h x hx;omega
theorem Bn.at{K:Nat}{l:List Mb}(h:Bn K l){k:Nat}{x:Mb}(hx:l[k]? =some x):(0≤x.q∧x.q≤K)∧0≤x.s∧x.s≤2:=h x (List.mem_of_getElem? hx)
theorem Bn.gt{K:Nat}{l:List Mb}(h:Bn K l){g:Int}{x:Mb}(hx:gt l g=some x):(0≤x.q∧x.q≤K)∧0≤x.s∧x.s≤2:=by
 obtain⟨k,_,_,q⟩:=gt_some hx
 exact h.at q
theorem Bn.sp{K:Nat}{l:List Mb}(h:Bn K l)(p:Int):Bn K (spL l p):=by
 unfold spL
 split
 ·exact h
 ·split
  ·exact h
  ·intro x hx
   rcases List.mem_append.1 hx with q|q
   ·exact h x q
   ·simp at q
    subst q
    exact⟨⟨by simp,by simp⟩,by simp,by simp⟩
theorem Bn.ch{K:Nat}{l:List Mb}(h:Bn K l)(g a b d:Int)(hb:0≤b∧b≤2)(hd:0≤d∧d≤1):Bn (K+1) (chL l g a b d):=by
 unfold chL
 cases hg:Cr.gt l g with
 |none=>exact h.mono (Nat.le_succ _)
 |some x=>
  have hx:=h.gt hg
  simp only
  split
  ·intro y hy
   rcases List.mem_or_eq_of_mem_set hy with q|q
   ·exact (h.mono (Nat.le_succ _)) y q
   ·subst q
    simp only
    omega
  ·exact h.mono (Nat.le_succ _)
theorem ablF_app:∀(k:Nat) (l m:List Mb),ablF k (l++m)=ablF k l++ablF (k+l.length) m
 |k,[],m=>by simp[ablF]
 |k,x::l,m=>by
  have h:=ablF_app (k+1) l m
  rw[show k+1+l.length=k+(x::l).length by simp;omega] at h
  simp only[List.cons_append,ablF,h]
  split<;>simp
theorem ablF_len:∀(k:Nat) (l:List Mb),(ablF k l).length≤l.length
 |_,[]=>by simp[ablF]
 |k,x::l=>by
  have h:=ablF_len (k+1) l
  simp only[ablF]
  split<;>simp<;>omega
theorem abl_len(l:List Mb):(abl l).length≤l.length:=ablF_len 0 l
theorem abl_take{l:List Mb}{k:Nat}{x:Mb}(h:l[k]? =some x):abl (l.take (k+1))=abl (l.take k)++if x.s=0 then [(k:Int)] else []:=by
 have hk:=(List.getElem?_eq_some_iff.1 h).1
 unfold abl
 rw[List.take_add_one,h,ablF_app]
 congr 1
 rw[List.length_take,Nat.min_eq_left (by omega),Nat.zero_add]
 simp[ablF]
theorem hasS_take{l:List Mb}{k:Nat}{x:Mb}(h:l[k]? =some x)(s:Int):hasS (l.take (k+1)) s=(hasS (l.take k) s||x.s==s):=by
 unfold hasS
 rw[List.take_add_one,h,List.any_append]
 simp
end Cr
namespace Cr
open Ba
abbrev PC(w:World)(B:Nat)(F:Nat→Prop)(l:List Mb):Prop:=Cq 112 118 w B F l
theorem new_any(w:World):
 Calls Tryz.prog 27 #[] w fun r w'=>r=.returned (.pointer (some ⟨w.heap.size,0,none⟩))∧PC w' w.heap.size (fun k=>k=w.heap.size) []∧Below w.heap.size w w':=by
 go_enter Tryz.func27,Tryz.ntmps27
 go_wp2_with fail
 go_ret
 have hs:=World.size_alloc w (.cells #[.slice none 0 0] 112)
 exact⟨rfl,⟨none,0,heap_new _ _,World.ownsRow_nil _ _ _ _,rfl,fun g e=>by simp[Value.ownBlock] at e,fun k (e:k=_)=>by rw[hs];omega,by simp⟩,below_alloc _ _⟩
theorem all_c(B:Nat)(oa:Option Addr)(n c:Nat)(w:World)(h:w.cell? ⟨B,0,none⟩=some (.slice oa n c)):
 Calls Tryz.prog 62 #[.pointer (some ⟨B,0,none⟩)] w fun r w'=>r=.returned (.slice oa n c)∧w'=w:=by
 go_enter Tryz.func62,Tryz.ntmps62
 go_wp2_with fail
 go_ret
 exact⟨rfl,rfl⟩
theorem find_out(B:Nat)(F:Nat→Prop)(l:List Mb)(g:Int)(w:World)(h:PC w B F l)(hg:gt l g=none):
 Calls Tryz.prog 132 #[.pointer (some ⟨B,0,none⟩),.int .i64 g] w fun r w'=>r=.returned (.pointer none)∧w'=w:=by
 obtain⟨oa,c,h⟩:=h
 have AL:=hide (all_c B oa l.length c w (cell_of h.hp 0))
 have hg':=gt_none hg
 clear h hg
 cases h1:decide (g<0)
 ·have d2:decide ((l.length:Int)≤g)=true:=by simp at h1 ⊢;omega
  clear hg'
  go_enter Tryz.func132,Tryz.ntmps132
  go_wp2_with fail
  refine AL.out.mono ?_
  rintro r w1 ⟨rfl,rfl⟩
  go_wp2_with fail
  go_ret
  exact⟨rfl,rfl⟩
 ·clear hg'
  go_enter Tryz.func132,Tryz.ntmps132
  go_wp2_with fail
  refine AL.out.mono ?_
  rintro r w1 ⟨rfl,rfl⟩
  go_wp2_with fail
  go_ret
  exact⟨rfl,rfl⟩
theorem find_in(B:Nat)(F:Nat→Prop)(b c:Nat)(l:List Mb)(k:Nat)(x:Mb)(w:World)(h:Cw 112 118 w B F (some ⟨b,0,none⟩) c l)(hx:l[k]? =some x):
 Calls Tryz.prog 132 #[.pointer (some ⟨B,0,none⟩),.int .i64 (k:Int)] w fun r w'=>r=.returned (.pointer (some ⟨b,k*3,none⟩))∧w'=w:=by
 have AL:=hide (all_c B (some ⟨b,0,none⟩) l.length c w (cell_of h.hp 0))
 have hk:=(List.getElem?_eq_some_iff.1 hx).1
 have hle:=h.le
 clear h hx
 have d1:decide ((k:Int)<0)=false:=decide_eq_false (by omega)
 have d2:decide ((l.length:Int)≤(k:Int))=false:=decide_eq_false (by omega)
 have d3:(k:Int)<(l.length:Int):=by omega
 go_enter Tryz.func132,Tryz.ntmps132
 go_wp2_with fail
 refine AL.out.mono ?_
 rintro r w1 ⟨rfl,rfl⟩
 go_wp2_with fail
 go_ret
 exact⟨rfl,rfl⟩
theorem Cw.got{w:World}{B:Nat}{F:Nat→Prop}{oa:Option Addr}{c:Nat}{l:List Mb}{k:Nat}{x:Mb}(h:Cw 112 118 w B F oa c l)(hx:l[k]? =Option.some x):∃b,oa=Option.some ⟨b,0,none⟩∧w.cell? ⟨b,k*3,none⟩=Option.some (.int .i64 x.p)∧w.cell? ⟨b,k*3+1,none⟩=Option.some (.int .i64 x.q)∧w.cell? ⟨b,k*3+2,none⟩=Option.some (.int .i64 x.s):=h.at.1 k x hx
theorem state_any(B:Nat)(F:Nat→Prop)(l:List Mb)(g:Int)(w:World)(h:PC w B F l):
 Calls Tryz.prog 145 #[.pointer (some ⟨B,0,none⟩),.int .i64 g] w fun r w'=>r=.returned (.tuple #[.int .i64 (one0 (gt l g)).s,.bool (thr l g)])∧w'=w:=by
 unfold thr
 cases hg:gt l g with
 |none=>
  have FO:=hide (find_out B F l g w h hg)
  clear h hg
  go_enter Tryz.func145,Tryz.ntmps145
  go_wp2_with fail
  refine FO.out.mono ?_
  rintro r w1 ⟨rfl,rfl⟩
  go_wp2_with fail
  go_ret2
  exact⟨rfl,rfl⟩
 |some x=>
  obtain⟨k,rfl,hk,hx⟩:=gt_some hg
  obtain⟨oa,c,h⟩:=h
  obtain⟨b,rfl,q0,q1,q2⟩:=h.got hx
  have FI:=hide (find_in B F b c l k x w h hx)
  clear h hg hx
  go_enter Tryz.func145,Tryz.ntmps145
  go_wp2_with fail
  refine FI.out.mono ?_
  rintro r w1 ⟨rfl,rfl⟩
  go_wp2_with fail
  go_ret2
  exact⟨rfl,rfl⟩
theorem at_any(B:Nat)(F:Nat→Prop)(l:List Mb)(g:Int)(w:World)(h:PC w B F l):
 Calls Tryz.prog 96 #[.pointer (some ⟨B,0,none⟩),.int .i64 g] w fun r w'=>r=.returned (.tuple #[.int .i64 (one0 (gt l g)).p,.int .i64 (one0 (gt l g)).q,.bool (thr l g)])∧Below w.heap.size w w':=by
 unfold thr
 cases hg:gt l g with
 |none=>
  have FO:=hide (find_out B F l g w h hg)
  clear h hg
  go_enter Tryz.func96,Tryz.ntmps96
  go_wp2_with fail
  refine FO.out.mono ?_
  rintro r w1 ⟨rfl,rfl⟩
  go_wp2_with fail
  go_ret3
  exact⟨rfl,Below.refl _ _⟩
 |some x=>
  obtain⟨k,rfl,hk,hx⟩:=gt_some hg
  obtain⟨oa,c,h⟩:=h
  obtain⟨b,rfl,q0,q1,q2⟩:=h.got hx
  have FI:=hide (find_in B F b c l k x w h hx)
  clear h hg hx
  go_enter Tryz.func96,Tryz.ntmps96
  go_wp2_with fail
  refine FI.out.mono ?_
  rintro r w1 ⟨rfl,rfl⟩
  go_wp2_with fail
  go_quiet (fail)
  go_wp2_with fail
  go_ret3
  exact⟨rfl,bdrew _ _⟩
end Cr
namespace Cr
open Ba
def Po(T E:TypeId)(w w':World)(B:Nat)(F:Nat→Prop)(l:List Mb):Prop:=∃F',Cq T E w' B F' l∧KF F w w'∧Nw F' F w
theorem Po.of{T E:TypeId}{w w':World}{B:Nat}{F:Nat→Prop}{l:List Mb}(h:Cq T E w B F l)(b:Below w.heap.size w w'):Po T E w w' B F l:=⟨F,h.below b,KF.of b,Nw.refl _ _⟩
theorem Cw.both{T E:TypeId}{w:World}{B:Nat}{F:Nat→Prop}{c:Nat}{l:List Mb}{m k:Nat}{x:Mb}(h:Cw T E w B F (some ⟨m,0,none⟩) c l)(hT:T≠E)(hx:l[k]? =some x)(y b:Int):Cw T E ((w.setCell ⟨m,k*3+2,none⟩ (.int .i64 b)).setCell ⟨m,k*3+1,none⟩ (.int .i64 y)) B F (some ⟨m,0,none⟩) c (l.set k ⟨x.p,y,b⟩):=by
 have h2:=(h.set2 hT hx b).set1 hT (k:=k) (x:=⟨x.p,x.q,b⟩) (by rw[List.getElem?_set_self (List.getElem?_eq_some_iff.1 hx).1]) y
 rw[List.set_set] at h2
 exact h2
def tv(a b d:Int):Value:=.agg #[.int .i64 a,.int .i64 b,.int .i64 d]
theorem change_any(B:Nat)(F:Nat→Prop)(l:List Mb)(K:Nat)(g a b d:Int)(w:World)(h:PC w B F l)(hn:Bn K l)(hK:K≤100000)(hd:0≤d∧d≤1):
 Calls Tryz.prog 101 #[.pointer (some ⟨B,0,none⟩),.int .i64 g,tv a b d] w fun r w'=>r=.returned (.int .i64 (chE l g a))∧Po 112 118 w w' B F (chL l g a b d):=by
 unfold chE chL
 cases hg:gt l g with
 |none=>
  simp only
  have FO:=hide (find_out B F l g _ (h.below (below_alloc w (.cells #[.int .i64 a,.int .i64 b,.int .i64 d] 165))) hg)
  have H:=hide h
  clear h hg
  unfold tv
  go_enter Tryz.func101,Tryz.ntmps101
  go_wp2_with fail
  refine FO.out.mono ?_
  rintro r w1 ⟨rfl,rfl⟩
  go_wp2_with fail
  go_ret
  exact⟨rfl,Po.of H.out (below_alloc _ _)⟩
 |some x=>
  simp only
  obtain⟨k,rfl,hk,hx⟩:=gt_some hg
  rw[Int.toNat_natCast]
  obtain⟨oa,c,h⟩:=h
  have hb1:=hn.at hx
  have H:=hide h
  have H1:=hide (h.below (below_alloc w (.cells #[.int .i64 a,.int .i64 b,.int .i64 d] 165)))
  obtain⟨m,rfl,q0,q1,q2⟩:=H1.out.got hx
  have FI:=hide (find_in B F m c l k x _ H1.out hx)
  have Q:=hide (heap_new w (.cells #[.int .i64 a,.int .i64 b,.int .i64 d] 165))
  have t0:(w.alloc (.cells #[.int .i64 a,.int .i64 b,.int .i64 d] 165)).cell? ⟨w.heap.size,0,none⟩=some (.int .i64 a):=cell_of Q.out 0
  have t1:(w.alloc (.cells #[.int .i64 a,.int .i64 b,.int .i64 d] 165)).cell? ⟨w.heap.size,1,none⟩=some (.int .i64 b):=cell_of Q.out 1
  have t2:(w.alloc (.cells #[.int .i64 a,.int .i64 b,.int .i64 d] 165)).cell? ⟨w.heap.size,2,none⟩=some (.int .i64 d):=cell_of Q.out 2
  have BA:=hide (below_alloc w (.cells #[.int .i64 a,.int .i64 b,.int .i64 d] 165))
  obtain⟨_,cur,hm⟩:=own_blk h.ow m rfl
  have hm1:=heap_lt hm
  have hmr:=heap_below hm BA.out
  have z1:=frozen_of hmr (k*3+1)
  have z2:=frozen_of hmr (k*3+2)
  have hFm:=hide (h.fr m rfl)
  have HX:=hide hx
  have hne:m≠w.heap.size:=by omega
  clear h hg hx hm hmr hn
  by_cases hs:x.s=a
  ·rw[if_pos hs,if_pos hs]
   have e1:(x.s !=a)=false:=by simp[hs]
   have HS:=hide hs
   clear hs
   unfold tv
   go_enter Tryz.func101,Tryz.ntmps101
   go_wp2_with fail
   generalize w.alloc (.cells #[.int .i64 a,.int .i64 b,.int .i64 d] 165)=W at FI Q t0 t1 t2 BA q0 q1 q2 z1 z2 H1 ⊢
   refine FI.out.mono ?_
   rintro r w1 ⟨rfl,rfl⟩
   go_wp2_with fail
   go_quiet (fail)
   go_wp2_with fail
   go_region
   all_goals
    go_wp2_with fail
    go_ret
    exact⟨rfl,F,⟨some ⟨m,0,none⟩,c,((H1.out.below (bdrew _ _)).both (by decide) HX.out _ _).below (bdrew1 _)⟩,((((KF.of (btr BA.out (bdrew _ _))).set hFm.out _ _).set hFm.out _ _).then (bdrew1 _)),Nw.refl _ _⟩
  ·rw[if_neg hs,if_neg hs]
   have e1:(x.s !=a)=true:=by simp[hs]
   clear hs
   unfold tv
   go_enter Tryz.func101,Tryz.ntmps101
   go_wp2_with fail
   generalize w.alloc (.cells #[.int .i64 a,.int .i64 b,.int .i64 d] 165)=W at FI Q t0 t1 t2 BA q0 q1 q2 z1 z2 H1 ⊢
   refine FI.out.mono ?_
   rintro r w1 ⟨rfl,rfl⟩
   go_wp2_with fail
   go_quiet (fail)
   go_wp2_with fail
   go_ret
   exact⟨rfl,Po.of ⟨_,_,H.out⟩ (btr BA.out (bdrew _ _))⟩
theorem go_any(B:Nat)(F:Nat→Prop)(l:List Mb)(K:Nat)(g:Int)(w:World)(h:PC w B F l)(hn:Bn K l)(hK:K≤100000):
 Calls Tryz.prog 99 #[.pointer (some ⟨B,0,none⟩),.int .i64 g] w fun r w'=>r=.returned (.int .i64 (chE l g 0))∧Po 112 118 w w' B F (chL l g 0 0 1):=by
 have CH:=hide (change_any B F l K g 0 0 1 w h hn hK (by decide))
 clear h hn
 unfold tv at CH
 generalize chE l g 0=e at CH ⊢
 generalize chL l g 0 0 1=l' at CH ⊢
 go_enter Tryz.func99,Tryz.ntmps99
 go_wp2_with fail
 refine CH.out.mono ?_
 rintro r w1 ⟨rfl,p1⟩
 have P1:=hide p1
 clear p1
 go_wp2_with fail
 go_ret
 exact⟨rfl,P1.out⟩
theorem park_any(B:Nat)(F:Nat→Prop)(l:List Mb)(K:Nat)(g:Int)(w:World)(h:PC w B F l)(hn:Bn K l)(hK:K≤100000):
 Calls Tryz.prog 144 #[.pointer (some ⟨B,0,none⟩),.int .i64 g] w fun r w'=>r=.returned (.int .i64 (chE l g 0))∧Po 112 118 w w' B F (chL l g 0 1 0):=by
 have CH:=hide (change_any B F l K g 0 1 0 w h hn hK (by decide))
 clear h hn
 unfold tv at CH
 generalize chE l g 0=e at CH ⊢
 generalize chL l g 0 1 0=l' at CH ⊢
 go_enter Tryz.func144,Tryz.ntmps144
 go_wp2_with fail
 refine CH.out.mono ?_
 rintro r w1 ⟨rfl,p1⟩
 have P1:=hide p1
 clear p1
 go_wp2_with fail
 go_ret
 exact⟨rfl,P1.out⟩
theorem wake_any(B:Nat)(F:Nat→Prop)(l:List Mb)(K:Nat)(g:Int)(w:World)(h:PC w B F l)(hn:Bn K l)(hK:K≤100000):
 Calls Tryz.prog 147 #[.pointer (some ⟨B,0,none⟩),.int .i64 g] w fun r w'=>r=.returned (.int .i64 (chE l g 1))∧Po 112 118 w w' B F (chL l g 1 0 1):=by
 have CH:=hide (change_any B F l K g 1 0 1 w h hn hK (by decide))
 clear h hn
 unfold tv at CH
 generalize chE l g 1=e at CH ⊢
 generalize chL l g 1 0 1=l' at CH ⊢
 go_enter Tryz.func147,Tryz.ntmps147
 go_wp2_with fail
 refine CH.out.mono ?_
 rintro r w1 ⟨rfl,p1⟩
 have P1:=hide p1
 clear p1
 go_wp2_with fail
 go_ret
 exact⟨rfl,P1.out⟩
theorem exit_any(B:Nat)(F:Nat→Prop)(l:List Mb)(K:Nat)(g:Int)(w:World)(h:PC w B F l)(hn:Bn K l)(hK:K≤100000):
 Calls Tryz.prog 70 #[.pointer (some ⟨B,0,none⟩),.int .i64 g] w fun r w'=>r=.returned (.int .i64 (chE l g 0))∧Po 112 118 w w' B F (chL l g 0 2 0):=by
 have CH:=hide (change_any B F l K g 0 2 0 w h hn hK (by decide))
 clear h hn
 unfold tv at CH
 generalize chE l g 0=e at CH ⊢
 generalize chL l g 0 2 0=l' at CH ⊢
 go_enter Tryz.func70,Tryz.ntmps70
 go_wp2_with fail
 refine CH.out.mono ?_
 rintro r w1 ⟨rfl,p1⟩
 have P1:=hide p1
 clear p1
 go_wp2_with fail
 go_ret
 exact⟨rfl,P1.out⟩
end Cr
namespace Cr
open Ba
theorem info_mb:(Tryz.prog.info? 118).map (fun i=>(i.zero,i.size,i.bytes))=some (some (tv 0 0 0),3,24):=by kernel_rfl
theorem Cw.grow{T E:TypeId}{w w1 w2:World}{B:Nat}{F:Nat→Prop}{oa oa':Option Addr}{c c':Nat}{l:List Mb}{x:Mb}(h:Cw T E w1 B F oa c l)(b1:Below w.heap.size w w1)(hF:Bd F w)(hT:T≠E)
 (ho:w2.ownsRow 0 E 3 (.slice oa' (l++[x]).length c') (l++[x]).length (mc (l++[x]))) (hg:w1.grownBy w2 (Value.slice oa l.length c).ownBlock)
 (hat:(Value.slice oa' (l++[x]).length c').ownBlock=(Value.slice oa l.length c).ownBlock∨(Value.slice oa' (l++[x]).length c').ownBlock=some w1.heap.size) (hl:l.length<512):
 Po T E w (w2.setCell ⟨B,0,none⟩ (.slice oa' (l++[x]).length c')) B F (l++[x]):=by
 have hB:some B≠(Value.slice oa l.length c).ownBlock:=own_ty h.ow h.hp hT
 have hB2:w2.heap[B]? =some (.cells #[.slice oa l.length c] T (0,0)):=(hg.block B h.lt hB).trans h.hp
 have kf:KF F w w2:=by
  refine⟨hg.os.trans b1.os,hg.tape.trans b1.tape,hg.output.trans b1.output,Nat.le_trans b1.size hg.size,fun k hk hn=>?_⟩
  refine (hg.block k (Nat.lt_of_lt_of_le hk b1.size) ?_).trans (b1.block k hk)
  intro e
  exact hn (h.fr k e.symm)
 refine⟨_,⟨oa',c',Cw.put hB2 ho hT h.fb ((hF.mono b1.size).mono hg.size) (by simp;omega)⟩,kf.set h.fb _ _,?_⟩
 intro k hk
 rcases hk with q|q
 ·exact .inl q
 ·rcases hat with e|e
  ·rw[e] at q
   exact .inl (h.fr k q)
  ·rw[e] at q
   cases q
   exact .inr b1.size
set_option maxRecDepth 100000 in
theorem spawn_any(B:Nat)(F:Nat→Prop)(l:List Mb)(p:Int)(w:World)(h:PC w B F l):
 Calls Tryz.prog 29 #[.pointer (some ⟨B,0,none⟩),.int .i64 p] w fun r w'=>r=.returned (.tuple #[.int .i64 (spV l p),.int .i64 (spE l p)])∧Po 112 118 w w' B F (spL l p):=by
 unfold spV spE spL
 by_cases h1:p<0
 ·simp only[if_pos h1]
  have H:=hide h
  clear h
  go_enter Tryz.func29,Tryz.ntmps29
  go_wp2_with fail
  go_ret2
  exact⟨rfl,Po.of H.out (Below.refl _ _)⟩
 simp only[if_neg h1]
 have d1:decide (p<0)=false:=decide_eq_false h1
 have hle:=h.le
 obtain⟨oa,c,h⟩:=h
 have hB:=h.lt
 have y0:w.cell? ⟨B,0,none⟩=some (.slice oa l.length c):=cell_of h.hp 0
 by_cases h2:512≤l.length
 ·simp only[if_pos h2]
  have hl:l.length=512:=by omega
  have H:=hide h
  rw[hl] at y0
  clear h hl h2 hle
  go_enter Tryz.func29,Tryz.ntmps29
  go_wp2_with fail
  go_ret2
  exact⟨rfl,Po.of ⟨_,_,H.out⟩ (Below.refl _ _)⟩
 simp only[if_neg h2]
 have e1:(((l.length:Nat):Int)==512)=false:=by rw[beq_eq_false_iff_ne];omega
 have hl:l.length<512:=by omega
 have BD:=hide h.bd
 have b1:=below_alloc w (.cells #[.int .i64 p,.int .i64 0,.int .i64 0] 118)
 have B1:=hide b1
 have H1:=hide (h.below b1)
 have f0:w.frozen? ⟨B,0,none⟩=false:=frozen_of h.hp 0
 cases hi:Tryz.prog.info? 118 with
 |none=>have:=info_mb;rw[hi] at this;cases this
 |some i0=>
 have hx:=info_mb
 rw[hi] at hx
 simp at hx
 have INF:=hide (And.intro hi hx)
 clear hx hi h2 hle h b1
 go_enter Tryz.func29,Tryz.ntmps29
 go_wp2_with (at_builtin;refine wpList_append_own_at _ rfl _ _ 110 rfl 0 118 i0 (tv 0 0 0) 3 24 Tryz.underlying110 INF.out.1 INF.out.2.1 INF.out.2.2.1 INF.out.2.2.2 rfl (by decide) _ _ _ rfl H1.out.ow ⟨w.heap.size,0,none⟩ 1 1 (mc [⟨p,0,0⟩]) rfl rfl ?c1 ?c2 ?c3 ?c4 (Nat.zero_le _) ?_)
 case c1=>first|exact src3 w ⟨p,0,0⟩ _|exact fun j u hj=>hj
 case c2=>exact mc_one _
 case c3=>unfold maxLen;omega
 case c4=>omega
 intro v' w2 ho hg _ hat
 rw[←mc_app] at ho
 have ho2:w2.ownsRow 0 118 3 v' (l++[Mb.mk p 0 0]).length (mc (l++[Mb.mk p 0 0])):=by rw[List.length_append];exact ho
 obtain⟨oa',c',rfl,_,_⟩:=owns_mat ho2
 have hB1:some B≠(Value.slice oa l.length c).ownBlock:=own_ty H1.out.ow H1.out.hp (by decide)
 have hB2:w2.heap[B]? =some (.cells #[.slice oa l.length c] 112 (0,0)):=(hg.block B H1.out.lt hB1).trans H1.out.hp
 have y2:w2.cell? ⟨B,0,none⟩=some (.slice oa l.length c):=cell_of hB2 0
 have f2:w2.frozen? ⟨B,0,none⟩=false:=frozen_of hB2 0
 have PO:=hide (H1.out.grow B1.out BD.out (by decide) ho2 hg (by rw[World.size_alloc];exact hat) hl)
 clear ho ho2 hg hat hB1 hB2
 generalize (l++[Mb.mk p 0 0]).length=n2 at PO ⊢
 go_wp2_with fail
 go_ret2
 exact⟨rfl,PO.out⟩
end Cr
namespace Cr
open Ba
def ic(l:List Int):List Value:=l.map (Value.int .i64)
theorem ic_app(l m:List Int):ic (l++m)=ic l++ic m:=by simp[ic]
theorem info_i:(Tryz.prog.info? 3).map (fun i=>(i.zero,i.size,i.bytes))=some (some (.int .i64 0),1,8):=by kernel_rfl
theorem own_at{w:World}{base:Nat}{v:Value}{l:List Int}(h:w.ownsRow base 3 1 v l.length (ic l)):∃oa c,v=.slice oa l.length c∧At w oa l∧l.length≤c:=by
 rcases h.2 with⟨rfl,h0⟩|⟨g,cap,cur,rfl,_,hg,hc,_,hcs,htk⟩
 ·refine⟨none,0,by rw[h0],?_,by omega⟩
  obtain rfl:=List.eq_nil_of_length_eq_zero h0
  exact At.nil _ _
 ·refine⟨_,cap,rfl,?_,hc⟩
  intro k hk
  refine⟨g,0,rfl,?_⟩
  have q:(ic l)[k]? =some (.int .i64 (nth l k)):=by simp[ic,nth,hk]
  rw[←htk,List.getElem?_take_of_lt (by omega)] at q
  rw[Nat.zero_add,cell_of hg]
  simpa using q
set_option maxRecDepth 100000 in
theorem able_any(B:Nat)(F:Nat→Prop)(l:List Mb)(w:World)(h:Cq 112 118 w B F l):
 Calls Tryz.prog 65 #[.pointer (some ⟨B,0,none⟩)] w fun r w'=>∃ob d,r=.returned (.slice ob (abl l).length d)∧At w' ob (abl l)∧Below w.heap.size w w':=by
 cases hi:Tryz.prog.info? 3 with
 |none=>have:=info_i;rw[hi] at this;cases this
 |some i0=>
 have hx2:=info_i
 rw[hi] at hx2
 simp at hx2
 have INF:=hide (And.intro hi hx2)
 clear hx2 hi
 have hle:=h.le
 obtain⟨oa,c,h⟩:=h
 have hB:=h.lt
 have y0:w.cell? ⟨B,0,none⟩=some (.slice oa l.length c):=cell_of h.hp 0
 have HA:=hide h.at.1
 have AL:=hide y0
 clear h
 go_enter Tryz.func65,Tryz.ntmps65
 go_wp2_with fail
 refine (all_c B oa l.length c _ AL.out).mono ?_
 rintro r w1 ⟨rfl,hw⟩
 subst w1
 go_wp2_with fail
 go_loopw [3,9] (fun rv i wr=>∃(v:Value) (k:Nat),k≤l.length∧i=.int .i64 k∧rv=v∧wr.ownsRow w.heap.size 3 1 v (abl (l.take k)).length (ic (abl (l.take k)))∧Below w.heap.size w wr) (fun _ i _=>l.length - (intOf i).toNat)
 case atStart=>exact⟨_,0,Nat.zero_le _,rfl,rfl,World.ownsRow_nil _ _ _ _,Below.refl _ _⟩
 case round=>
  obtain⟨v,k,hk,rfl,rfl,ho,hb⟩:=hrel
  by_cases hlt:k<l.length
  ·have hlt':(k:Int)<(l.length:Int):=by omega
   obtain⟨x,hx⟩:∃x,l[k]? =some x:=⟨_,List.getElem?_eq_getElem hlt⟩
   obtain⟨b,rfl,q0,q1,q2⟩:=HA.out.below hb k x hx
   have DT:=hide (abl_take hx)
   have hdl:(abl (l.take k)).length≤k:=by
    have h1:=abl_len (l.take k)
    have h2:=List.length_take_le k l
    omega
   clear hx
   obtain⟨X,hX⟩:∃X,X=abl (l.take k):=⟨_,rfl⟩
   rw[←hX] at DT hdl ho
   clear hX
   have BX:=below_alloc wr (.cells #[.int .i64 x.p,.int .i64 x.q,.int .i64 x.s] 118)
   by_cases hs:x.s=0
   ·have EX:Hid (abl (l.take (k+1))=X++[(k:Int)]):=by
     show _=_
     rw[DT.out,if_pos hs]
    rw[hs] at q2 BX
    have OW1:=own_below ho BX
    have HB1:=btr hb BX
    have BY:=below_alloc (wr.alloc (.cells #[.int .i64 x.p,.int .i64 x.q,.int .i64 0] 118)) (.cells #[.int .i64 (k:Int)] 3)
    have OW:=hide (own_below OW1 BY)
    have HB:=hide (btr HB1 BY)
    have SR:=cell_one_new (wr.alloc (.cells #[.int .i64 x.p,.int .i64 x.q,.int .i64 0] 118)) (.int .i64 (k:Int)) 3
    rw[World.size_alloc] at SR
    have SRC:=hide SR
    clear OW1 HB1 BY SR ho hb BX DT hs
    go_wp2_with (at_builtin;refine wpList_append_own _ rfl _ _ 23 rfl w.heap.size 3 i0 (.int .i64 0) 1 8 Tryz.underlying23 INF.out.1 INF.out.2.1 INF.out.2.2.1 INF.out.2.2.2 rfl (by decide) _ _ _ rfl OW.out ⟨wr.heap.size+1,0,none⟩ 1 1 [.int .i64 (k:Int)] rfl rfl ?c1 ?c2 ?c3 ?c4 ?c5 ?_)
    case c1=>first|exact SRC.out|exact fun j u hj=>hj
    case c2=>intro u hu;simp at hu;subst hu;rfl
    case c3=>unfold maxLen;omega
    case c4=>omega
    case c5=>first|exact HB.out.size|(have:=HB.out.size;rw[World.size_alloc,World.size_alloc] at this;exact this)
    intro v' w3 ho hg3 _
    have B3:Hid (Below w.heap.size w w3):=HB.out.grown hg3 HB.out.size (fun x hx=>(OW.out.lt x hx).1)
    have O3:Hid (w3.ownsRow w.heap.size 3 1 v' (abl (l.take (k+1))).length (ic (abl (l.take (k+1))))):=by
     show World.ownsRow _ _ _ _ _ _ _
     rw[EX.out,ic_app,List.length_append]
     exact ho
    clear ho hg3
    go_wp2_with fail
    go_roundw
    case rel=>
     first
      |exact⟨v',k+1,by omega,by go_num,rfl,O3.out,B3.out⟩
      |((repeat apply Exists.intro);exact⟨⟨v',k+1,by omega,by go_num,rfl,O3.out,B3.out⟩,rfl⟩)
    case measure=>simp[intOf];omega
   ·have hs':(x.s==0)=false:=by simpa using hs
    have EX:Hid (abl (l.take (k+1))=X):=by
     show _=_
     rw[DT.out,if_neg hs,List.append_nil]
    have O3:Hid ((wr.alloc (.cells #[.int .i64 x.p,.int .i64 x.q,.int .i64 x.s] 118)).ownsRow w.heap.size 3 1 u3 (abl (l.take (k+1))).length (ic (abl (l.take (k+1))))):=by
     show World.ownsRow _ _ _ _ _ _ _
     rw[EX.out]
     exact own_below ho BX
    have B3:=hide (btr hb BX)
    clear ho hb BX DT hs
    go_wp2_with fail
    go_roundw
    case rel=>
     first
      |exact⟨_,k+1,by omega,by go_num,rfl,O3.out,B3.out⟩
      |exact⟨k+1,by omega,by go_num,O3.out,B3.out⟩
    case measure=>simp[intOf];omega
  ·have hlt':¬((k:Int)<(l.length:Int)):=by omega
   rw[List.take_of_length_le (by omega)] at ho
   obtain⟨oa',c',hv',hA',_⟩:=own_at ho
   subst hv'
   have HA':=hide hA'
   have HB:=hide hb
   clear ho hb hA'
   go_wp2_with fail
   go_ret
   first
    |exact⟨oa',c',rfl,HA'.out,HB.out⟩
    |exact⟨oa',⟨c',rfl⟩,HA'.out,HB.out⟩
structure Ct(wr:World)(A:Nat)(l:List Mb)(k:Nat)(n0 n1 n2:Int):Prop where
 hp:wr.heap[A]? =some (.cells #[.int .i64 n0,.int .i64 n1,.int .i64 n2] 119 (0,0))
 b0:0≤n0∧n0≤k
 b1:0≤n1∧n1≤k
 b2:0≤n2∧n2≤k
 h0:decide (0<n0)=hasS (l.take k) 0
 h1:decide (0<n1)=hasS (l.take k) 1
theorem Ct.below{w w':World}{A:Nat}{l:List Mb}{k:Nat}{n0 n1 n2:Int}(h:Ct w A l k n0 n1 n2)(hb:Below w.heap.size w w'):Ct w' A l k n0 n1 n2:=⟨heap_below h.hp hb,h.b0,h.b1,h.b2,h.h0,h.h1⟩
theorem Ct.add0{w:World}{A:Nat}{l:List Mb}{k:Nat}{n0 n1 n2:Int}{x:Mb}(h:Ct w A l k n0 n1 n2)(hx:l[k]? =some x)(hs:x.s=0):Ct (w.setCell ⟨A,0,none⟩ (.int .i64 (n0+1))) A l (k+1) (n0+1) n1 n2:=by
 have q0:=h.b0
 have q1:=h.b1
 have q2:=h.b2
 refine⟨(Ba.heap_setCell_same h.hp _).trans rfl,by omega,by omega,by omega,?_,?_⟩
 ·rw[hasS_take hx,hs,decide_eq_true (by omega)];simp
 ·rw[hasS_take hx,hs,h.h1];simp
theorem Ct.add1{w:World}{A:Nat}{l:List Mb}{k:Nat}{n0 n1 n2:Int}{x:Mb}(h:Ct w A l k n0 n1 n2)(hx:l[k]? =some x)(hs:x.s=1):Ct (w.setCell ⟨A,1,none⟩ (.int .i64 (n1+1))) A l (k+1) n0 (n1+1) n2:=by
 have q0:=h.b0
 have q1:=h.b1
 have q2:=h.b2
 refine⟨(Ba.heap_setCell_same h.hp _).trans rfl,by omega,by omega,by omega,?_,?_⟩
 ·rw[hasS_take hx,hs,h.h0];simp
 ·rw[hasS_take hx,hs,decide_eq_true (by omega)];simp
theorem Ct.add2{w:World}{A:Nat}{l:List Mb}{k:Nat}{n0 n1 n2:Int}{x:Mb}(h:Ct w A l k n0 n1 n2)(hx:l[k]? =some x)(hs:x.s=2):Ct (w.setCell ⟨A,2,none⟩ (.int .i64 (n2+1))) A l (k+1) n0 n1 (n2+1):=by
 have q0:=h.b0
 have q1:=h.b1
 have q2:=h.b2
 refine⟨(Ba.heap_setCell_same h.hp _).trans rfl,by omega,by omega,by omega,?_,?_⟩
 ·rw[hasS_take hx,hs,h.h0];simp
 ·rw[hasS_take hx,hs,h.h1];simp
set_option maxRecDepth 100000 in
theorem over_any(B:Nat)(F:Nat→Prop)(l:List Mb)(K:Nat)(w:World)(h:PC w B F l)(hn:Bn K l):
 Calls Tryz.prog 30 #[.pointer (some ⟨B,0,none⟩)] w fun r w'=>r=.returned (.int .i64 (ovr l))∧Below w.heap.size w w':=by
 have hle:=h.le
 have hB:=h.lt
 have BA:=hide (below_alloc w (.cells #[.int .i64 0,.int .i64 0,.int .i64 0] 119))
 have A0:=hide (heap_new w (.cells #[.int .i64 0,.int .i64 0,.int .i64 0] 119))
 obtain⟨oa,c,h⟩:=h
 have AL:=hide (all_c B oa l.length c _ (cell_of (h.below BA.out).hp 0))
 have HA:=hide h.at.1
 have HN:=hide hn
 clear h hn
 go_enter Tryz.func30,Tryz.ntmps30
 go_wp2_with fail
 have C0:Hid (Ct (w.alloc (.cells #[.int .i64 0,.int .i64 0,.int .i64 0] 119)) w.heap.size l 0 0 0 0):=⟨A0.out,by omega,by omega,by omega,rfl,rfl⟩
 clear A0
 generalize w.alloc (.cells #[.int .i64 0,.int .i64 0,.int .i64 0] 119)=W at BA AL C0 ⊢
 refine AL.out.mono ?_
 rintro r w1 ⟨rfl,hw⟩
 subst w1
 go_wp2_with fail
 go_loopw [9] (fun i wr=>∃(k:Nat) (n0 n1 n2:Int),k≤l.length∧i=.int .i64 k∧Ct wr w.heap.size l k n0 n1 n2∧Below w.heap.size w wr) (fun i _=>l.length - (intOf i).toNat)
 case atStart=>exact⟨0,0,0,0,Nat.zero_le _,rfl,C0.out,BA.out⟩
 case round=>
  clear C0 BA AL
  obtain⟨k,n0,n1,n2,hk,rfl,c2,b2⟩:=hrel
  have C2:=hide c2
  have B2:=hide b2
  clear c2 b2
  have hAw:=heap_lt C2.out.hp
  have q00:=C2.out.b0
  have q01:=C2.out.b1
  have q02:=C2.out.b2
  have c0:wr.cell? ⟨w.heap.size,0,none⟩=some (.int .i64 n0):=cell_of C2.out.hp 0
  have c1:wr.cell? ⟨w.heap.size,1,none⟩=some (.int .i64 n1):=cell_of C2.out.hp 1
  have c2:wr.cell? ⟨w.heap.size,2,none⟩=some (.int .i64 n2):=cell_of C2.out.hp 2
  have z0:=frozen_of C2.out.hp 0
  have z1:=frozen_of C2.out.hp 1
  have z2:=frozen_of C2.out.hp 2
  by_cases hlt:k<l.length
  ·have hlt':(k:Int)<(l.length:Int):=by omega
   obtain⟨x,hx⟩:∃x,l[k]? =some x:=⟨_,List.getElem?_eq_getElem hlt⟩
   obtain⟨b,rfl,q0,q1,q2⟩:=HA.out.below B2.out k x hx
   have hs:=HN.out.at hx
   have HX:=hide hx
   clear hx
   have hs:x.s=0∨x.s=1∨x.s=2:=by omega
   rcases hs with hs|hs|hs
   ·have sl:x.s=0:=hs
    rw[sl] at q2
    have C3:=hide ((C2.out.add0 HX.out sl).below (below_alloc _ (.cells #[.int .i64 x.p,.int .i64 x.q,.int .i64 0] 118)))
    have B3:Hid (Below w.heap.size w _):=btr (B2.out.setCell (p:=⟨w.heap.size,0,none⟩) (Nat.le_refl _) (.int .i64 (n0+1))) (below_alloc _ (.cells #[.int .i64 x.p,.int .i64 x.q,.int .i64 0] 118))
    clear sl
    go_wp2_with fail
    go_roundw
    case rel=>exact⟨k+1,(n0+1),n1,n2,by omega,by go_num,C3.out,B3.out⟩
    case measure=>simp[intOf];omega
   ·have sl:x.s=1:=hs
    rw[sl] at q2
    have C3:=hide ((C2.out.add1 HX.out sl).below (below_alloc _ (.cells #[.int .i64 x.p,.int .i64 x.q,.int .i64 1] 118)))
    have B3:Hid (Below w.heap.size w _):=btr (B2.out.setCell (p:=⟨w.heap.size,1,none⟩) (Nat.le_refl _) (.int .i64 (n1+1))) (below_alloc _ (.cells #[.int .i64 x.p,.int .i64 x.q,.int .i64 1] 118))
    clear sl
    go_wp2_with fail
    go_roundw
    case rel=>exact⟨k+1,n0,(n1+1),n2,by omega,by go_num,C3.out,B3.out⟩
    case measure=>simp[intOf];omega
   ·have sl:x.s=2:=hs
    rw[sl] at q2
    have C3:=hide ((C2.out.add2 HX.out sl).below (below_alloc _ (.cells #[.int .i64 x.p,.int .i64 x.q,.int .i64 2] 118)))
    have B3:Hid (Below w.heap.size w _):=btr (B2.out.setCell (p:=⟨w.heap.size,2,none⟩) (Nat.le_refl _) (.int .i64 (n2+1))) (below_alloc _ (.cells #[.int .i64 x.p,.int .i64 x.q,.int .i64 2] 118))
    clear sl
    go_wp2_with fail
    go_roundw
    case rel=>exact⟨k+1,n0,n1,(n2+1),by omega,by go_num,C3.out,B3.out⟩
    case measure=>simp[intOf];omega
  ·have hlt':¬((k:Int)<(l.length:Int)):=by omega
   have E0:=hide C2.out.h0
   have E1:=hide C2.out.h1
   rw[List.take_of_length_le (by omega)] at E0 E1
   have EO:Hid (ovr l=if decide (0<n0)=true then 0 else if decide (0<n1)=true then 2 else 1):=by
    show _=_
    unfold ovr
    rw[←E0.out,←E1.out]
   by_cases h0:0<n0
   ·go_wp2_with fail
    go_ret
    exact⟨ret_int (by rw[EO.out,if_pos (decide_eq_true h0)]),B2.out⟩
   ·have d0:decide (0<n0)=false:=decide_eq_false h0
    by_cases h1:0<n1
    ·go_wp2_with fail
     go_ret
     exact⟨ret_int (by rw[EO.out,d0,if_neg (by simp),if_pos (decide_eq_true h1)]),B2.out⟩
    ·have d1:decide (0<n1)=false:=decide_eq_false h1
     go_wp2_with fail
     go_ret
     exact⟨ret_int (by rw[EO.out,d0,d1,if_neg (by simp),if_neg (by simp)]),B2.out⟩
end Cr
namespace Ba
theorem info_int:(Tryz.prog.info? 3).map (fun i=>(i.zero,i.size,i.bytes))=some (some (.int .i64 0),1,8):=by kernel_rfl
end Ba
namespace De
open Ba Re
structure Cs where
 send:Bool
 ch:Int
 val:Int
structure OpD where
 kind:Int
 a:Int
 b:Int
 cases:List Cs
 def_:Bool
def CAt(w:World)(oa:Option Addr)(l:List Cs):Prop:=
 ∀k,∀x,l[k]? =some x→∃b off,oa=some ⟨b,off,none⟩∧w.cell? ⟨b,off+k*3,none⟩=some (.bool x.send)∧w.cell? ⟨b,off+k*3+1,none⟩=some (.int .i64 x.ch)∧w.cell? ⟨b,off+k*3+2,none⟩=some (.int .i64 x.val)
theorem CAt.below{w w':World}{oa:Option Addr}{l:List Cs}(h:CAt w oa l)(hb:Below w.heap.size w w'):CAt w' oa l:=by
 intro k x hk
 obtain⟨b,off,he,h1,h2,h3⟩:=h k x hk
 exact⟨b,off,he,(hb.cell (World.block_lt_of_cell? w _ h1)).trans h1,(hb.cell (World.block_lt_of_cell? w _ h2)).trans h2,(hb.cell (World.block_lt_of_cell? w _ h3)).trans h3⟩
theorem CAt.nil(w:World)(oa:Option Addr):CAt w oa []:=fun k x hk=>by simp at hk
def okP(p:Int):Bool:=decide (1≤p)&&decide (p≤8)
theorem isCount_any(p:Int)(w:World):
 Calls Tryz.prog 128 #[.int .i64 p] w fun r w'=>r=.returned (.bool (okP p))∧w'=w:=by
 by_cases h1:1≤p
 ·have e:okP p=decide (p≤8):=by simp[okP,h1]
  rw[e]
  clear e
  go_enter Tryz.func128,Tryz.ntmps128
  go_wp2
  go_ret
  exact⟨rfl,rfl⟩
 ·have e:okP p=false:=by simp[okP,h1]
  rw[e]
  clear e
  go_enter Tryz.func128,Tryz.ntmps128
  go_wp2
  go_ret
  exact⟨rfl,rfl⟩
def upB(n m:Int):Bool:=decide (0≤n)&&decide (n≤m)
theorem upTo_any(n m:Int)(w:World):
 Calls Tryz.prog 130 #[.int .i64 n,.int .i64 m] w fun r w'=>r=.returned (.bool (upB n m))∧w'=w:=by
 by_cases h1:0≤n
 ·have e:upB n m=decide (n≤m):=by simp[upB,h1]
  rw[e]
  clear e
  go_enter Tryz.func130,Tryz.ntmps130
  go_wp2
  go_ret
  exact⟨rfl,rfl⟩
 ·have e:upB n m=false:=by simp[upB,h1]
  rw[e]
  clear e
  go_enter Tryz.func130,Tryz.ntmps130
  go_wp2
  go_ret
  exact⟨rfl,rfl⟩
def mA(k p:Int):Int:=if k=1 then p - 1 else if k=2∨k=3∨k=4∨k=5∨k=7∨k=8 then 7 else 0
def mB(k:Int):Int:=if k=2 then 4 else if k=3 then 99 else 0
theorem reach_1(p:Int)(h1:1≤p)(h2:p≤8)(w:World):
 Calls Tryz.prog 129 #[.int .i64 1,.int .i64 p] w fun r w'=>r=.returned (.tuple #[.int .i64 (mA 1 p),.int .i64 (mB 1)])∧w'=w:=by
 have h1':=h1
 have h2':=h2
 go_enter Tryz.func129,Tryz.ntmps129
 go_wp2
 go_ret2
 exact⟨rfl,rfl⟩
theorem reach_2(p:Int)(h1:1≤p)(h2:p≤8)(w:World):
 Calls Tryz.prog 129 #[.int .i64 2,.int .i64 p] w fun r w'=>r=.returned (.tuple #[.int .i64 (mA 2 p),.int .i64 (mB 2)])∧w'=w:=by
 have h1':=h1
 have h2':=h2
 go_enter Tryz.func129,Tryz.ntmps129
 go_wp2
 go_ret2
 exact⟨rfl,rfl⟩
theorem reach_3(p:Int)(h1:1≤p)(h2:p≤8)(w:World):
 Calls Tryz.prog 129 #[.int .i64 3,.int .i64 p] w fun r w'=>r=.returned (.tuple #[.int .i64 (mA 3 p),.int .i64 (mB 3)])∧w'=w:=by
 have h1':=h1
 have h2':=h2
 go_enter Tryz.func129,Tryz.ntmps129
 go_wp2
 go_ret2
 exact⟨rfl,rfl⟩
theorem reach_4(p:Int)(h1:1≤p)(h2:p≤8)(w:World):
 Calls Tryz.prog 129 #[.int .i64 4,.int .i64 p] w fun r w'=>r=.returned (.tuple #[.int .i64 (mA 4 p),.int .i64 (mB 4)])∧w'=w:=by
 have h1':=h1
 have h2':=h2
 go_enter Tryz.func129,Tryz.ntmps129
 go_wp2
 go_ret2
 exact⟨rfl,rfl⟩
theorem reach_5(p:Int)(h1:1≤p)(h2:p≤8)(w:World):
 Calls Tryz.prog 129 #[.int .i64 5,.int .i64 p] w fun r w'=>r=.returned (.tuple #[.int .i64 (mA 5 p),.int .i64 (mB 5)])∧w'=w:=by
 have h1':=h1
 have h2':=h2
 go_enter Tryz.func129,Tryz.ntmps129
 go_wp2
 go_ret2
 exact⟨rfl,rfl⟩
theorem reach_6(p:Int)(h1:1≤p)(h2:p≤8)(w:World):
 Calls Tryz.prog 129 #[.int .i64 6,.int .i64 p] w fun r w'=>r=.returned (.tuple #[.int .i64 (mA 6 p),.int .i64 (mB 6)])∧w'=w:=by
 have h1':=h1
 have h2':=h2
 go_enter Tryz.func129,Tryz.ntmps129
 go_wp2
 go_ret2
 exact⟨rfl,rfl⟩
theorem reach_7(p:Int)(h1:1≤p)(h2:p≤8)(w:World):
 Calls Tryz.prog 129 #[.int .i64 7,.int .i64 p] w fun r w'=>r=.returned (.tuple #[.int .i64 (mA 7 p),.int .i64 (mB 7)])∧w'=w:=by
 have h1':=h1
 have h2':=h2
 go_enter Tryz.func129,Tryz.ntmps129
 go_wp2
 go_ret2
 exact⟨rfl,rfl⟩
theorem reach_8(p:Int)(h1:1≤p)(h2:p≤8)(w:World):
 Calls Tryz.prog 129 #[.int .i64 8,.int .i64 p] w fun r w'=>r=.returned (.tuple #[.int .i64 (mA 8 p),.int .i64 (mB 8)])∧w'=w:=by
 have h1':=h1
 have h2':=h2
 go_enter Tryz.func129,Tryz.ntmps129
 go_wp2
 go_ret2
 exact⟨rfl,rfl⟩
theorem reach_9(p:Int)(h1:1≤p)(h2:p≤8)(w:World):
 Calls Tryz.prog 129 #[.int .i64 9,.int .i64 p] w fun r w'=>r=.returned (.tuple #[.int .i64 (mA 9 p),.int .i64 (mB 9)])∧w'=w:=by
 have h1':=h1
 have h2':=h2
 go_enter Tryz.func129,Tryz.ntmps129
 go_wp2
 go_ret2
 exact⟨rfl,rfl⟩
theorem kind_cases{k:Int}(h1:1≤k)(h2:k≤9):k=1∨k=2∨k=3∨k=4∨k=5∨k=6∨k=7∨k=8∨k=9:=by omega
theorem reach_any(k p:Int)(hk1:1≤k)(hk2:k≤9)(h1:1≤p)(h2:p≤8)(w:World):
 Calls Tryz.prog 129 #[.int .i64 k,.int .i64 p] w fun r w'=>r=.returned (.tuple #[.int .i64 (mA k p),.int .i64 (mB k)])∧w'=w:=by
 rcases kind_cases hk1 hk2 with rfl|rfl|rfl|rfl|rfl|rfl|rfl|rfl|rfl
 ·exact reach_1 p h1 h2 w
 ·exact reach_2 p h1 h2 w
 ·exact reach_3 p h1 h2 w
 ·exact reach_4 p h1 h2 w
 ·exact reach_5 p h1 h2 w
 ·exact reach_6 p h1 h2 w
 ·exact reach_7 p h1 h2 w
 ·exact reach_8 p h1 h2 w
 ·exact reach_9 p h1 h2 w
def okC(x:Cs):Bool:=upB x.ch 7&&upB x.val (bif x.send then 99 else 0)
theorem isCase_any(x:Cs)(w:World):
 Calls Tryz.prog 131 #[.agg #[.bool x.send,.int .i64 x.ch,.int .i64 x.val]] w fun r w'=>r=.returned (.bool (okC x))∧Below w.heap.size w w':=by
 obtain⟨s,c,v⟩:=x
 cases s<;>cases h:upB c 7
 all_goals
  have HC:=hide h
  clear h
  go_enter Tryz.func131,Tryz.ntmps131
  go_wp2_with fail
  refine (upTo_any _ _ _).mono ?_
  rw[HC.out]
  rintro r w1 ⟨rfl,rfl⟩
  go_wp2_with (go_at_call 130;refine (upTo_any _ _ _).mono ?_;rintro r w1 ⟨rfl,rfl⟩)
  go_ret
  exact⟨by simp[okC,HC.out],below_alloc _ _⟩
def chk(o:OpD)(p:Int):Int:=
 if (okP p&&(decide (1≤o.kind)&&decide (o.kind≤9)))=false then 1
 else if 4<o.cases.length then 2
 else if (upB o.a (mA o.kind p)&&upB o.b (mB o.kind))=false then 4
 else if o.kind≠6∧(o.def_||decide (0<o.cases.length))=true then 4
 else if o.cases.all okC then 0 else 4
theorem check_arg(o:OpD)(oa:Option Addr)(c:Nat)(p:Int)(w:World)(h:(okP p&&(decide (1≤o.kind)&&decide (o.kind≤9)))=false):
 Calls Tryz.prog 95 #[.agg #[.int .i64 o.kind,.int .i64 o.a,.int .i64 o.b,.slice oa o.cases.length c,.bool o.def_],.int .i64 p] w fun r w'=>r=.returned (.int .i64 1)∧Below w.heap.size w w':=by
 obtain⟨k,a,b,cs,d⟩:=o
 cases hp:okP p
 ·have HP:=hide hp
  clear h hp
  go_enter Tryz.func95,Tryz.ntmps95
  go_wp2_with fail
  refine (isCount_any _ _).mono ?_
  rw[HP.out]
  rintro r w1 ⟨rfl,rfl⟩
  go_wp2_with fail
  go_ret
  exact⟨rfl,below_alloc _ _⟩
 ·have HP:=hide hp
  have hk:k<1∨9<k:=by
   rw[hp] at h
   simp at h
   by_cases q:1≤k
   ·have:=h q;omega
   ·omega
  clear h hp
  by_cases h1:k<1
  ·have d1:decide (k<1)=true:=by simpa using h1
   clear hk
   go_enter Tryz.func95,Tryz.ntmps95
   go_wp2_with fail
   refine (isCount_any _ _).mono ?_
   rw[HP.out]
   rintro r w1 ⟨rfl,rfl⟩
   go_wp2_with fail
   go_ret
   exact⟨rfl,below_alloc _ _⟩
  ·have d1:decide (k<1)=false:=by simpa using h1
   have d2:decide (9<k)=true:=by simp;omega
   clear hk
   go_enter Tryz.func95,Tryz.ntmps95
   go_wp2_with fail
   refine (isCount_any _ _).mono ?_
   rw[HP.out]
   rintro r w1 ⟨rfl,rfl⟩
   go_wp2_with fail
   go_ret
   exact⟨rfl,below_alloc _ _⟩
end De
end Go.Proofs.YtogkjaekfhjelaaGreat
