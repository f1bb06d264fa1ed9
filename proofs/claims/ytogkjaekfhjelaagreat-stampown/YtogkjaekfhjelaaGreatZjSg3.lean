import Derived.Test.YtogkjaekfhjelaaGreatZjSg1
import Derived.Test.YtogkjaekfhjelaaGreatZjSg2
import Derived.Laws.AppendOwn
import Derived.Lib.AppendZeros
import Derived.Deep.RegionWith
import Derived.Maps.AppendAt
set_option maxHeartbeats 12800000
namespace Go.Proofs.YtogkjaekfhjelaaGreat
open Go.ChangeShapes Go.WideShapes Go.ChangeAt Go.RowKit
namespace Pe
open Ba
def wv(x:Wt):Value:=.agg #[.int .i64 x.g,.int .i64 x.c,.int .i64 x.v]
theorem size_wt:(Tryz.prog.info? 169).map (·.size)=some 3:=by kernel_rfl
theorem loadVar_wt{w:World}{b:Nat}{c:Array Value}{t:TypeId}(h:w.heap[b]? =some (.cells c t (0,0)))(hc:c.size=3):(loadVar 169 ⟨b,0,none⟩).run Tryz.prog w=.ok (.agg c) w:=
 run_loadVar_row w b t _ _ _ _ h Tryz.underlying169 rfl (by rw[size_wt,hc])
theorem three_set{w:World}{b:Nat}{x0 x1 x2:Value}{t:TypeId}(h:w.heap[b]? =some (.cells #[x0,x1,x2] t (0,0)))(u0 u1 u2:Value):(((w.setCell ⟨b,0,none⟩ u0).setCell ⟨b,1,none⟩ u1).setCell ⟨b,2,none⟩ u2).heap[b]? =some (.cells #[u0,u1,u2] t (0,0)):=by
 rw[Ba.heap_setCell_same (Ba.heap_setCell_same (Ba.heap_setCell_same h u0) u1) u2]
 rfl
theorem new_any(w:World):
 Calls Tryz.prog 134 #[] w fun r w'=>r=.returned (.pointer (some ⟨w.heap.size,0,none⟩))∧PF w' w.heap.size (fun k=>k=w.heap.size) []∧Below w.heap.size w w':=by
 go_enter Tryz.func134,Tryz.ntmps134
 go_wp2_with fail
 go_ret
 exact⟨rfl,⟨[],rfl,⟨none,heap_new _ _,rfl,List.nodup_nil,fun _ h=>by simp at h,Nat.zero_le _⟩,fun _ h=>by simp at h,rfl,fun k e=>by show k<_;rw[World.size_alloc];have e':k=w.heap.size:=e;omega⟩,below_alloc _ _⟩
theorem front_nil(w:World):
 Calls Tryz.prog 173 #[.pointer none] w fun r w'=>r=.returned (.pointer none)∧w'=w:=by
 go_enter Tryz.func173,Tryz.ntmps173
 go_wp2_with fail
 go_ret
 exact⟨rfl,rfl⟩
theorem front_c(P:Nat)(o:Option Addr)(w:World)(h:w.cell? ⟨P,0,none⟩=some (.pointer o)):
 Calls Tryz.prog 173 #[.pointer (some ⟨P,0,none⟩)] w fun r w'=>r=.returned (.pointer o)∧w'=w:=by
 go_enter Tryz.func173,Tryz.ntmps173
 go_wp2_with fail
 go_ret
 exact⟨rfl,rfl⟩
theorem len_c(P:Nat)(n:Int)(w:World)(h:w.cell? ⟨P,2,none⟩=some (.int .i64 n)):
 Calls Tryz.prog 172 #[.pointer (some ⟨P,0,none⟩)] w fun r w'=>r=.returned (.int .i64 n)∧w'=w:=by
 go_enter Tryz.func172,Tryz.ntmps172
 go_wp2_with fail
 go_ret
 exact⟨rfl,rfl⟩
theorem len_any(P:Nat)(l:List Wt)(w:World)(h:Pw w P l):
 Calls Tryz.prog 172 #[.pointer (some ⟨P,0,none⟩)] w fun r w'=>r=.returned (.int .i64 (l.length:Int))∧w'=w:=by
 obtain⟨m,rfl,f,h1,h2⟩:=h
 rw[List.length_map]
 exact len_c P _ w (cell_of h1 2)
theorem link_none(P:Nat)(f l:Option Nat)(n:Nat)(o:Option Addr)(w:World)(h:Hd w P f l n):
 Calls Tryz.prog 168 #[.pointer (some ⟨P,0,none⟩),.pointer none,.pointer o] w fun r w'=>r=.returned (.tuple #[])∧w'=w.setCell ⟨P,0,none⟩ (.pointer o):=by
 have y0:=cell_of h 0
 have z0:=frozen_of h 0
 simp at y0
 clear h
 go_enter Tryz.func168,Tryz.ntmps168
 go_wp2_with fail
 exact bodyPost_ret (results_none rfl _ _ _) rfl ⟨rfl,rfl⟩
theorem link_some(p:Value)(b:Nat)(x:Wt)(nx:Option Nat)(o:Option Addr)(w:World)(h:Sc w b x nx):
 Calls Tryz.prog 168 #[p,.pointer (some ⟨b,0,none⟩),.pointer o] w fun r w'=>r=.returned (.tuple #[])∧w'=w.setCell ⟨b,3,none⟩ (.pointer o):=by
 have y0:=cell_of h 3
 have z0:=frozen_of h 3
 simp at y0
 clear h
 go_enter Tryz.func168,Tryz.ntmps168
 go_wp2_with fail
 exact bodyPost_end (results_none rfl _ _ _) rfl ⟨rfl,rfl⟩
theorem first_nil(w:World):
 Calls Tryz.prog 189 #[.pointer none] w fun r w'=>r=.returned (.tuple #[wv ⟨0,0,0⟩,.bool false])∧Below w.heap.size w w':=by
 go_enter Tryz.func189,Tryz.ntmps189
 go_wp2_with fail
 refine (front_nil _).mono ?_
 rintro r w1 ⟨rfl,rfl⟩
 go_wp2_with fail
 exact bodyPost_ret (results_row2 Tryz.results189 _ _ _ _ _ rfl rfl (loadVar_wt (heap_new _ _) rfl)) rfl ⟨rfl,below_alloc _ _⟩
theorem first_none(P:Nat)(w:World)(h:Pw w P []):
 Calls Tryz.prog 189 #[.pointer (some ⟨P,0,none⟩)] w fun r w'=>r=.returned (.tuple #[wv ⟨0,0,0⟩,.bool false])∧Below w.heap.size w w':=by
 obtain⟨m,em,f,h1,h2,h3⟩:=h
 obtain rfl:m=[]:=by simpa using em
 cases h2
 have HD:=hide h1
 clear h1 h3
 go_enter Tryz.func189,Tryz.ntmps189
 go_wp2_with fail
 refine (front_c P none _ ((cell_of (heap_below HD.out (below_alloc _ _)) 0).trans rfl)).mono ?_
 rintro r w1 ⟨rfl,rfl⟩
 go_wp2_with fail
 exact bodyPost_ret (results_row2 Tryz.results189 _ _ _ _ _ rfl rfl (loadVar_wt (heap_new _ _) rfl)) rfl ⟨rfl,below_alloc _ _⟩
theorem first_some(P:Nat)(x:Wt)(l:List Wt)(w:World)(h:Pw w P (x::l)):
 Calls Tryz.prog 189 #[.pointer (some ⟨P,0,none⟩)] w fun r w'=>r=.returned (.tuple #[wv x,.bool true])∧Below w.heap.size w w':=by
 obtain⟨m,em,f,h1,h2,h3⟩:=h
 match m,em with
 |(b,y)::m,em=>
 simp at em
 obtain⟨rfl,rfl⟩:=em
 obtain⟨rfl,nx,h4,h5⟩:=h2
 have HD:=hide h1
 have HS:=hide h4
 clear h1 h3 h4 h5
 go_enter Tryz.func189,Tryz.ntmps189
 go_wp2_with fail
 refine (front_c P (some ⟨b,0,none⟩) _ ((cell_of (heap_below HD.out (below_alloc _ _)) 0).trans rfl)).mono ?_
 rintro r w1 ⟨rfl,rfl⟩
 have HS1:=heap_below HS.out (below_alloc w (.cells #[.int .i64 0,.int .i64 0,.int .i64 0] 169))
 have Z:=hide (heap_new w (.cells #[.int .i64 0,.int .i64 0,.int .i64 0] 169))
 have BW:=hide (below_alloc w (.cells #[.int .i64 0,.int .i64 0,.int .i64 0] 169))
 generalize (w.alloc (.cells #[.int .i64 0,.int .i64 0,.int .i64 0] 169))=w2 at HS1 Z BW ⊢
 have y0:=cell_of HS1 0
 have y1:=cell_of HS1 1
 have y2:=cell_of HS1 2
 have q0:=cell_of Z.out 0
 have q1:=cell_of Z.out 1
 have q2:=cell_of Z.out 2
 have f0:=frozen_of Z.out 0
 have f1:=frozen_of Z.out 1
 have f2:=frozen_of Z.out 2
 simp at y0 y1 y2 q0 q1 q2
 clear HS1
 go_wp2_with fail
 exact bodyPost_ret (results_row2 Tryz.results189 _ _ _ _ _ rfl rfl (loadVar_wt (three_set Z.out _ _ _) rfl)) rfl ⟨rfl,(((BW.out.setCell (Nat.le_refl _) _).setCell (Nat.le_refl _) _).setCell (Nat.le_refl _) _)⟩
def fw:List Wt→Wt
 |[]=>⟨0,0,0⟩
 |x::_=>x
def fo(l:List Wt):Bool:=!l.isEmpty
theorem add_arg(p:Option Addr)(x:Wt)(w:World)(h:x.g<0∨x.c< -1):
 Calls Tryz.prog 137 #[.pointer p,wv x] w fun r w'=>r=.returned (.int .i64 1)∧Below w.heap.size w w':=by
 unfold wv
 obtain⟨g,c,v⟩:=x
 simp only at h ⊢
 by_cases h1:g<0
 ·have d1:decide (g<0)=true:=decide_eq_true h1
  clear h
  go_enter Tryz.func137,Tryz.ntmps137
  go_wp2_with fail
  go_ret
  exact⟨rfl,below_alloc _ _⟩
 ·have d1:decide (g<0)=false:=decide_eq_false h1
  have d2:decide (c< -1)=true:=decide_eq_true (by omega)
  clear h
  go_enter Tryz.func137,Tryz.ntmps137
  go_wp2_with fail
  go_ret
  exact⟨rfl,below_alloc _ _⟩
theorem add_full(P:Nat)(l:List Wt)(x:Wt)(w:World)(h:0≤x.g∧-1≤x.c)(hP:Pw w P l)(hl:l.length=1024):
 Calls Tryz.prog 137 #[.pointer (some ⟨P,0,none⟩),wv x] w fun r w'=>r=.returned (.int .i64 5)∧Below w.heap.size w w':=by
 unfold wv
 obtain⟨g,c,v⟩:=x
 simp only at h ⊢
 have d1:decide (g<0)=false:=decide_eq_false (by omega)
 have d2:decide (c< -1)=false:=decide_eq_false (by omega)
 clear h
 obtain⟨m,em,f,h1,h2⟩:=hP
 have hm:m.length=1024:=by rw[←em,List.length_map] at hl;exact hl
 have y2:w.cell? ⟨P,2,none⟩=some (.int .i64 1024):=by
  have:=cell_of h1 2
  rw[hm] at this
  exact this
 have HP:=heap_lt h1
 clear h1 h2 hm hl em
 go_enter Tryz.func137,Tryz.ntmps137
 go_wp2_with fail
 go_ret
 exact⟨rfl,below_alloc _ _⟩
theorem add_ok(P:Nat)(F:Nat→Prop)(l:List Wt)(x:Wt)(w:World)(h:0≤x.g∧-1≤x.c)(hP:PF w P F l)(hl:l.length<1024):
 Calls Tryz.prog 137 #[.pointer (some ⟨P,0,none⟩),wv x] w fun r w'=>r=.returned (.int .i64 0)∧KF F w w'∧∃F',Nw F' F w∧PF w' P F' (l++[x]):=by
 unfold wv
 obtain⟨m,em,⟨f,h1,h2,h3,h4,h5⟩,hF1,hF2,hF3⟩:=hP
 have FA:=hide hF1
 have FP:=hide hF2
 have FB:=hide hF3
 clear hF1 hF2 hF3
 subst em
 rw[List.length_map] at hl
 have d1:decide (x.g<0)=false:=decide_eq_false (by omega)
 have d2:decide (x.c< -1)=false:=decide_eq_false (by omega)
 clear h
 obtain⟨k,hk⟩:∃k,k=m.length:=⟨_,rfl⟩
 rw[←hk] at h1
 have HK:=hide hk
 have d3:((k:Int)==1024)=false:=by rw[beq_eq_false_iff_ne];omega
 have hk2:k<1024:=by omega
 clear hk
 have HD:=hide h1
 have HP:=heap_lt h1
 have HC:=hide h2
 have BB:=hide (btr (below_alloc w (.cells #[.int .i64 x.g,.int .i64 x.c,.int .i64 x.v] 169)) (below_alloc _ (.cells #[.int .i64 x.g,.int .i64 x.c,.int .i64 x.v,.pointer none] 247)))
 have NW:Hid (Sc ((w.alloc (.cells #[.int .i64 x.g,.int .i64 x.c,.int .i64 x.v] 169)).alloc (.cells #[.int .i64 x.g,.int .i64 x.c,.int .i64 x.v,.pointer none] 247)) (w.heap.size+1) x none):=by
  have:=heap_new (w.alloc (.cells #[.int .i64 x.g,.int .i64 x.c,.int .i64 x.v] 169)) (.cells #[.int .i64 x.g,.int .i64 x.c,.int .i64 x.v,.pointer none] 247)
  rw[World.size_alloc] at this
  exact this
 have ND:=hide h3
 have GT:=hide h4
 have LT:Hid (∀n∈m,n.1<w.heap.size):=by
  intro n hn
  obtain⟨l1,l2,rfl⟩:=List.append_of_mem hn
  obtain⟨mid,_,_,nx,h6,_⟩:=Ch.app.1 h2
  exact heap_lt h6
 have y1:w.cell? ⟨P,1,none⟩=some (pt (lst m)):=cell_of h1 1
 have y2:w.cell? ⟨P,2,none⟩=some (.int .i64 (k:Int)):=cell_of h1 2
 clear h1 h2 h3 h4
 rcases List.eq_nil_or_concat m with rfl|⟨m0,n0,rfl⟩
 ·have e0:f=none:=HC.out
  subst e0
  have y1':w.cell? ⟨P,1,none⟩=some (.pointer none):=y1
  clear y1
  go_enter Tryz.func137,Tryz.ntmps137
  go_wp2_with fail
  generalize ((w.alloc (.cells #[.int .i64 x.g,.int .i64 x.c,.int .i64 x.v] 169)).alloc (.cells #[.int .i64 x.g,.int .i64 x.c,.int .i64 x.v,.pointer none] 247))=W2 at BB NW ⊢
  refine (link_none P none none k (some ⟨w.heap.size+1,0,none⟩) _ (heap_below HD.out BB.out)).mono ?_
  rintro r w3 ⟨rfl,hw3⟩
  have HD3:Hid (Hd w3 P (some (w.heap.size+1)) none k):=by rw[hw3];exact Hd.setF (heap_below HD.out BB.out) (some (w.heap.size+1))
  have CH3:Hid (Ch w3 (some (w.heap.size+1)) [] (some (w.heap.size+1))):=rfl
  have NW3:Hid (Sc w3 (w.heap.size+1) x none):=by rw[hw3];exact NW.out.other _ (by omega)
  have FT3:Hid (KF F w w3):=by rw[hw3];exact (KF.of (F:=F) BB.out).set FP.out 0 _
  clear hw3 BB NW HD y2 y1'
  have y1:=cell_of HD3.out 1
  have y2:=cell_of HD3.out 2
  have HPP:=hide (heap_lt HD3.out)
  have f1:=frozen_of HD3.out 1
  have f2:=frozen_of HD3.out 2
  simp at y1 y2
  go_wp2_with fail
  go_ret
  refine⟨rfl,(FT3.out.set FP.out 1 _).set FP.out 2 _,fun k=>F k∨k=w.heap.size+1,fun k hk=>hk.imp id (fun e=>by omega),⟨_,?_,Pn.added (f:=some (w.heap.size+1)) (b:=w.heap.size+1) (x:=x) ((HD3.out.setL (some (w.heap.size+1))).setN _ _ (by rw[HK.out];simp)) ((CH3.out.set _ (fun n hn=>by have:=GT.out n hn;omega)).set _ (fun n hn=>by have:=GT.out n hn;omega)) ((NW3.out.other _ (by omega)).other _ (by omega)) ND.out GT.out hl (fun n hn=>by have:=LT.out n hn;omega) (by omega),?_,.inl FP.out,?_⟩⟩
  ·simp
  ·intro n hn
   rcases List.mem_append.1 hn with q|q
   ·exact .inl (FA.out n q)
   ·simp at q;subst q;exact .inr rfl
  ·intro k hk
   have hz:=((FT3.out.set FP.out 1 (.pointer (some ⟨w.heap.size+1,0,none⟩))).set FP.out 2 (.int .i64 0)).size
   rcases hk with q|q
   ·exact Nat.lt_of_lt_of_le (FB.out k q) (by first|exact hz|(simp[World.setCell] at hz ⊢;omega))
   ·subst q
    have hs:=heap_lt NW3.out
    simp[World.setCell]
    exact hs
 ·rw[List.concat_eq_append] at*
  have y1':w.cell? ⟨P,1,none⟩=some (.pointer (some ⟨n0.1,0,none⟩)):=by rw[lst_app] at y1;exact y1
  clear y1
  go_enter Tryz.func137,Tryz.ntmps137
  go_wp2_with fail
  generalize ((w.alloc (.cells #[.int .i64 x.g,.int .i64 x.c,.int .i64 x.v] 169)).alloc (.cells #[.int .i64 x.g,.int .i64 x.c,.int .i64 x.v,.pointer none] 247))=W2 at BB NW ⊢
  have C2:=hide (HC.out.below BB.out)
  have hn0:=GT.out n0 (by simp)
  have hn1:=LT.out n0 (by simp)
  have DJ:Hid (∀n∈m0,n.1≠n0.1):=by
   intro n hn e
   have:=ND.out
   rw[List.map_append,List.nodup_append] at this
   exact this.2.2 n.1 (List.mem_map.2 ⟨n,hn,rfl⟩) n0.1 (by simp) e
  refine (link_some _ n0.1 n0.2 none (some ⟨w.heap.size+1,0,none⟩) _ C2.out.sc).mono ?_
  rintro r w3 ⟨rfl,hw3⟩
  have HD3:Hid (Hd w3 P f (lst (m0++[n0])) k):=by rw[hw3];exact Hd.other (heap_below HD.out BB.out) _ (by omega)
  have CH3:Hid (Ch w3 f (m0++[n0]) (some (w.heap.size+1))):=by rw[hw3];exact C2.out.relast DJ.out (some (w.heap.size+1))
  have NW3:Hid (Sc w3 (w.heap.size+1) x none):=by rw[hw3];exact NW.out.other _ (by omega)
  have FT3:Hid (KF F w w3):=by rw[hw3];exact (KF.of (F:=F) BB.out).set (FA.out n0 (by simp)) 3 _
  clear hw3 BB NW HD y2 y1' C2 DJ
  have y1:=cell_of HD3.out 1
  have y2:=cell_of HD3.out 2
  have HPP:=hide (heap_lt HD3.out)
  have f1:=frozen_of HD3.out 1
  have f2:=frozen_of HD3.out 2
  simp at y1 y2
  go_wp2_with fail
  go_ret
  refine⟨rfl,(FT3.out.set FP.out 1 _).set FP.out 2 _,fun k=>F k∨k=w.heap.size+1,fun k hk=>hk.imp id (fun e=>by omega),⟨_,?_,Pn.added (f:=f) (b:=w.heap.size+1) (x:=x) ((HD3.out.setL (some (w.heap.size+1))).setN _ _ (by rw[HK.out];simp)) ((CH3.out.set _ (fun n hn=>by have:=GT.out n hn;omega)).set _ (fun n hn=>by have:=GT.out n hn;omega)) ((NW3.out.other _ (by omega)).other _ (by omega)) ND.out GT.out hl (fun n hn=>by have:=LT.out n hn;omega) (by omega),?_,.inl FP.out,?_⟩⟩
  ·simp
  ·intro n hn
   rcases List.mem_append.1 hn with q|q
   ·exact .inl (FA.out n q)
   ·simp at q;subst q;exact .inr rfl
  ·intro k hk
   have hz:=((FT3.out.set FP.out 1 (.pointer (some ⟨w.heap.size+1,0,none⟩))).set FP.out 2 (.int .i64 0)).size
   rcases hk with q|q
   ·exact Nat.lt_of_lt_of_le (FB.out k q) (by first|exact hz|(simp[World.setCell] at hz ⊢;omega))
   ·subst q
    have hs:=heap_lt NW3.out
    simp[World.setCell]
    exact hs
theorem take_nil(w:World):
 Calls Tryz.prog 182 #[.pointer none] w fun r w'=>r=.returned (.tuple #[wv ⟨0,0,0⟩,.bool false])∧Below w.heap.size w w':=by
 go_enter Tryz.func182,Tryz.ntmps182
 go_wp2_with fail
 refine (first_nil _).mono ?_
 rintro r w1 ⟨rfl,b1⟩
 have Z1:=hide (heap_below (heap_new w (.cells #[.int .i64 0,.int .i64 0,.int .i64 0] 169)) b1)
 have B1:=hide (btr (below_alloc w (.cells #[.int .i64 0,.int .i64 0,.int .i64 0] 169)) b1)
 have q0:=cell_of Z1.out 0
 have q1:=cell_of Z1.out 1
 have q2:=cell_of Z1.out 2
 have f0:=frozen_of Z1.out 0
 have f1:=frozen_of Z1.out 1
 have f2:=frozen_of Z1.out 2
 have hlt:=heap_lt Z1.out
 simp at q0 q1 q2
 clear b1
 unfold wv
 go_wp2_with fail
 exact bodyPost_ret (results_row2 Tryz.results182 _ _ _ _ _ rfl rfl (loadVar_wt (heap_below (three_set Z1.out _ _ _) (below_alloc _ _)) rfl)) rfl ⟨rfl,btr (((B1.out.setCell (Nat.le_refl _) _).setCell (Nat.le_refl _) _).setCell (Nat.le_refl _) _) (below_alloc _ _)⟩
theorem take_none(P:Nat)(w:World)(h:Pw w P []):
 Calls Tryz.prog 182 #[.pointer (some ⟨P,0,none⟩)] w fun r w'=>r=.returned (.tuple #[wv ⟨0,0,0⟩,.bool false])∧Below w.heap.size w w':=by
 have H:=hide h
 clear h
 go_enter Tryz.func182,Tryz.ntmps182
 go_wp2_with fail
 refine (first_none P _ (H.out.below (below_alloc _ _))).mono ?_
 rintro r w1 ⟨rfl,b1⟩
 have Z1:=hide (heap_below (heap_new w (.cells #[.int .i64 0,.int .i64 0,.int .i64 0] 169)) b1)
 have B1:=hide (btr (below_alloc w (.cells #[.int .i64 0,.int .i64 0,.int .i64 0] 169)) b1)
 have q0:=cell_of Z1.out 0
 have q1:=cell_of Z1.out 1
 have q2:=cell_of Z1.out 2
 have f0:=frozen_of Z1.out 0
 have f1:=frozen_of Z1.out 1
 have f2:=frozen_of Z1.out 2
 have hlt:=heap_lt Z1.out
 simp at q0 q1 q2
 clear b1
 unfold wv
 go_wp2_with fail
 exact bodyPost_ret (results_row2 Tryz.results182 _ _ _ _ _ rfl rfl (loadVar_wt (heap_below (three_set Z1.out _ _ _) (below_alloc _ _)) rfl)) rfl ⟨rfl,btr (((B1.out.setCell (Nat.le_refl _) _).setCell (Nat.le_refl _) _).setCell (Nat.le_refl _) _) (below_alloc _ _)⟩
theorem take_fin{w A:World}{P:Nat}{F:Nat→Prop}{l:List Wt}{c:Array Value}(hA:PF A P F l)(hF:KF F w A)(hd:Bd F w)(hz:A.heap[w.heap.size]? =some (.cells c 169 (0,0)))(u0 u1 u2:Value)(o:Obj):
 KF F w ((((A.setCell ⟨w.heap.size,0,none⟩ u0).setCell ⟨w.heap.size,1,none⟩ u1).setCell ⟨w.heap.size,2,none⟩ u2).alloc o)∧PF ((((A.setCell ⟨w.heap.size,0,none⟩ u0).setCell ⟨w.heap.size,1,none⟩ u1).setCell ⟨w.heap.size,2,none⟩ u2).alloc o) P F l:=by
 have hAl:=heap_lt hz
 have K:=(((KB.refl w.heap.size A).setCell 0 u0).setCell 1 u1).setCell 2 u2
 exact⟨(((hF.setNew (Nat.le_refl _) _ _).setNew (Nat.le_refl _) _ _).setNew (Nat.le_refl _) _ _).alloc _,(hA.sm (fun x hx=>K.block x (hA.bd x hx) (by have:=hd x hx;omega))).below (below_alloc _ _)⟩
theorem take_some(P:Nat)(F:Nat→Prop)(x:Wt)(l:List Wt)(w:World)(h:PF w P F (x::l)):
 Calls Tryz.prog 182 #[.pointer (some ⟨P,0,none⟩)] w fun r w'=>r=.returned (.tuple #[wv x,.bool true])∧KF F w w'∧PF w' P F l:=by
 have PW:=hide h.pw
 obtain⟨m',em,⟨f,h1,h2,h3,h4,h5⟩,hF1,hF2,hF3⟩:=h
 have FP:=hide hF2
 have FB:=hide hF3
 clear hF2 hF3
 match m',em,h1,h2,h3,h4,h5,hF1 with
 |(b,y)::m,em,h1,h2,h3,h4,h5,hF1=>
 have FA:Hid (∀n∈m,F n.1):=fun n hn=>hF1 n (List.mem_cons_of_mem _ hn)
 clear hF1
 simp at em
 obtain⟨rfl,rfl⟩:=em
 obtain⟨rfl,nx,h6,h7⟩:=h2
 have HP:=heap_lt h1
 obtain⟨k,hk⟩:∃k,k=m.length:=⟨_,rfl⟩
 rw[List.length_cons] at h1 h5
 rw[←hk] at h1 h5
 have HK:=hide hk
 clear hk
 have HD:=hide h1
 have HS:=hide h6
 have CH:=hide h7
 have ND:Hid ((m.map (·.1)).Nodup):=by
  have:(List.map (·.1) ((b,y)::m)).Nodup:=h3
  rw[List.map_cons,List.nodup_cons] at this
  exact this.2
 have GT:Hid (∀n∈m,P<n.1):=fun n hn=>h4 n (List.mem_cons_of_mem _ hn)
 have hPb:P<b:=h4 (b,y) (List.mem_cons_self ..)
 clear h1 h3 h4 h6 h7
 cases m with
 |nil=>
  have e0:nx=none:=CH.out
  subst e0
  skip
  go_enter Tryz.func182,Tryz.ntmps182
  go_wp2_with fail
  refine (first_some P y ([]) _ (PW.out.below (below_alloc _ _))).mono ?_
  rintro r w1 ⟨rfl,b1⟩
  have Z1:=hide (heap_below (heap_new w (.cells #[.int .i64 0,.int .i64 0,.int .i64 0] 169)) b1)
  have B1:=hide (btr (below_alloc w (.cells #[.int .i64 0,.int .i64 0,.int .i64 0] 169)) b1)
  have q0:=cell_of Z1.out 0
  have q1:=cell_of Z1.out 1
  have q2:=cell_of Z1.out 2
  have f0:=frozen_of Z1.out 0
  have f1:=frozen_of Z1.out 1
  have f2:=frozen_of Z1.out 2
  have hlt:=heap_lt Z1.out
  simp at q0 q1 q2
  clear b1
  have HD1:=hide (heap_below HD.out B1.out)
  have HS1:=hide (heap_below HS.out B1.out)
  have CH1:=hide (CH.out.below B1.out)
  have FT1:=hide (KF.of (F:=F) B1.out)
  have hPw1:=heap_lt HD1.out
  have hbw1:=heap_lt HS1.out
  have y0:w1.cell? ⟨P,0,none⟩=some (.pointer (some ⟨b,0,none⟩)):=cell_of HD1.out 0
  have y1:=cell_of HD1.out 1
  have y2:=cell_of HD1.out 2
  have g0:=frozen_of HD1.out 0
  have g1:=frozen_of HD1.out 1
  have g2:=frozen_of HD1.out 2
  have y3:w1.cell? ⟨b,3,none⟩=some (.pointer (none)):=cell_of HS1.out 3
  simp at y1 y2
  unfold wv
  go_wp2_with fail
  have hd:=((Hd.setF HD1.out none).setL none).setN k (k:Int) rfl
  have KK:=((FT1.out.set FP.out 0 (.pointer none)).set FP.out 1 (.pointer none)).set FP.out 2 (.int .i64 (k:Int))
  have hA:PF (((w1.setCell ⟨P,0,none⟩ (.pointer none)).setCell ⟨P,1,none⟩ (.pointer none)).setCell ⟨P,2,none⟩ (.int .i64 (k:Int))) P F []:=⟨[],rfl,⟨none,(by
   have e:=HK.out
   subst e
   exact hd),rfl,List.nodup_nil,fun _ h=>by simp at h,Nat.zero_le _⟩,fun _ h=>by simp at h,FP.out,FB.out.mono KK.size⟩
  have hz:(((w1.setCell ⟨P,0,none⟩ (.pointer none)).setCell ⟨P,1,none⟩ (.pointer none)).setCell ⟨P,2,none⟩ (.int .i64 (k:Int))).heap[w.heap.size]? =_:=((((KB.refl P w1).setCell 0 _).setCell 1 _).setCell 2 _).heap Z1.out (by omega)
  exact bodyPost_ret (results_row2 Tryz.results182 _ _ _ _ _ rfl rfl (loadVar_wt (heap_below (three_set hz _ _ _) (below_alloc _ _)) rfl)) rfl ⟨rfl,take_fin hA KK FB.out hz _ _ _ _⟩
 |cons n2 m2=>
  have e0:nx=some n2.1:=CH.out.1
  subst e0
  skip
  go_enter Tryz.func182,Tryz.ntmps182
  go_wp2_with fail
  refine (first_some P y ((n2::m2).map (·.2)) _ (PW.out.below (below_alloc _ _))).mono ?_
  rintro r w1 ⟨rfl,b1⟩
  have Z1:=hide (heap_below (heap_new w (.cells #[.int .i64 0,.int .i64 0,.int .i64 0] 169)) b1)
  have B1:=hide (btr (below_alloc w (.cells #[.int .i64 0,.int .i64 0,.int .i64 0] 169)) b1)
  have q0:=cell_of Z1.out 0
  have q1:=cell_of Z1.out 1
  have q2:=cell_of Z1.out 2
  have f0:=frozen_of Z1.out 0
  have f1:=frozen_of Z1.out 1
  have f2:=frozen_of Z1.out 2
  have hlt:=heap_lt Z1.out
  simp at q0 q1 q2
  clear b1
  have HD1:=hide (heap_below HD.out B1.out)
  have HS1:=hide (heap_below HS.out B1.out)
  have CH1:=hide (CH.out.below B1.out)
  have FT1:=hide (KF.of (F:=F) B1.out)
  have hPw1:=heap_lt HD1.out
  have hbw1:=heap_lt HS1.out
  have y0:w1.cell? ⟨P,0,none⟩=some (.pointer (some ⟨b,0,none⟩)):=cell_of HD1.out 0
  have y1:=cell_of HD1.out 1
  have y2:=cell_of HD1.out 2
  have g0:=frozen_of HD1.out 0
  have g1:=frozen_of HD1.out 1
  have g2:=frozen_of HD1.out 2
  have y3:w1.cell? ⟨b,3,none⟩=some (.pointer (some ⟨n2.1,0,none⟩)):=cell_of HS1.out 3
  simp at y1 y2
  unfold wv
  go_wp2_with fail
  have hd:=(Hd.setF HD1.out (some n2.1)).setN k (k:Int) rfl
  have hl:lst ((b,y)::n2::m2)=lst (n2::m2):=by simp[lst,List.getLast?_cons_cons]
  rw[hl] at hd
  have KK:=(FT1.out.set FP.out 0 (.pointer (some ⟨n2.1,0,none⟩))).set FP.out 2 (.int .i64 (k:Int))
  have hA:PF ((w1.setCell ⟨P,0,none⟩ (.pointer (some ⟨n2.1,0,none⟩))).setCell ⟨P,2,none⟩ (.int .i64 (k:Int))) P F ((n2::m2).map (·.2)):=by
   have hk:=HK.out
   refine⟨n2::m2,rfl,⟨some n2.1,by rw[←hk];exact hd,(CH1.out.set _ (fun n hn=>by have:=GT.out n hn;omega)).set _ (fun n hn=>by have:=GT.out n hn;omega),ND.out,GT.out,by omega⟩,FA.out,FP.out,FB.out.mono KK.size⟩
  have hz:((w1.setCell ⟨P,0,none⟩ (.pointer (some ⟨n2.1,0,none⟩))).setCell ⟨P,2,none⟩ (.int .i64 (k:Int))).heap[w.heap.size]? =_:=(((KB.refl P w1).setCell 0 _).setCell 2 _).heap Z1.out (by omega)
  exact bodyPost_ret (results_row2 Tryz.results182 _ _ _ _ _ rfl rfl (loadVar_wt (heap_below (three_set hz _ _ _) (below_alloc _ _)) rfl)) rfl ⟨rfl,take_fin hA KK FB.out hz _ _ _ _⟩
end Pe
namespace Pe
open Ba
def ms(m:List (Nat × Wt)):Value→Nat
 |.pointer (some a)=>m.length - (m.map (·.1)).idxOf a.block
 |_=>0
theorem ms_at{m pre t:List (Nat × Wt)}{n:Nat × Wt}(h:m=pre++n::t)(hn:(m.map (·.1)).Nodup):ms m (.pointer (some ⟨n.1,0,none⟩))=t.length+1:=by
 subst h
 unfold ms
 simp only
 rw[List.map_append,List.map_cons,List.idxOf_append]
 rw[List.map_append,List.map_cons,List.nodup_append] at hn
 have:n.1 ∉ pre.map (·.1):=fun hm=>hn.2.2 n.1 hm n.1 (List.mem_cons_self ..) rfl
 rw[if_neg this,List.idxOf_cons_self]
 simp
theorem ms_ch{w:World}{m pre rest:List (Nat × Wt)}{o:Option Nat}(h:m=pre++rest)(hn:(m.map (·.1)).Nodup)(hc:Ch w o rest none):ms m (pt o)=rest.length:=by
 cases rest with
 |nil=>cases hc;rfl
 |cons n t=>
  obtain⟨rfl,_⟩:=hc
  exact ms_at h hn
end Pe
namespace Pe
open Ba
def dr(g:Int)(l:List Wt):List Wt:=l.filter fun x=>!(x.g==g)
theorem dr_len(g:Int)(l:List Wt):(dr g l).length≤l.length:=List.length_filter_le _ _
structure Ds(w wr:World)(P:Nat)(F:Nat→Prop)(g:Int)(m K rest:List (Nat × Wt))(gone:Nat)(o:Option Nat):Prop where
 f:∃f mid last,Hd wr P f last m.length∧Ch wr f K mid
 c:Ch wr o rest none
 nd:((K++rest).map (·.1)).Nodup
 gt:∀n∈K++rest,P<n.1
 fil:dr g (m.map (·.2))=K.map (·.2)++dr g (rest.map (·.2))
 suf:∃pre,m=pre++rest
 cnt:gone+K.length+rest.length=m.length
 ft:KF F w wr
 fa:∀n∈m,F n.1
 fk:∀n∈K,F n.1
 fp:F P
theorem Ds.skip{w wr:World}{P:Nat}{F:Nat→Prop}{g:Int}{m K t:List (Nat × Wt)}{gone:Nat}{b:Nat}{y:Wt}{o nx:Option Nat}(h:Ds w wr P F g m K ((b,y)::t) gone o)(hg:(y.g==g)=true)(hc:Ch wr nx t none):Ds w wr P F g m K t (gone+1) nx:=by
 obtain⟨pre,hm⟩:=h.suf
 refine⟨h.f,hc,?_,?_,?_,⟨pre++[(b,y)],by rw[hm];simp⟩,?_,h.ft,h.fa,h.fk,h.fp⟩
 ·have:=h.nd
  rw[List.map_append,List.map_cons,List.nodup_append,List.nodup_cons] at this
  rw[List.map_append,List.nodup_append]
  exact⟨this.1,this.2.1.2,fun a ha c hc=>this.2.2 a ha c (List.mem_cons_of_mem _ hc)⟩
 ·intro n hn
  rcases List.mem_append.1 hn with q|q
  ·exact h.gt n (List.mem_append_left _ q)
  ·exact h.gt n (List.mem_append_right _ (List.mem_cons_of_mem _ q))
 ·rw[h.fil]
  congr 1
  simp[dr,hg]
 ·have:=h.cnt
  simp at this
  omega
theorem Ds.keep{w wr w3:World}{P:Nat}{F:Nat→Prop}{g:Int}{m K t:List (Nat × Wt)}{gone:Nat}{b:Nat}{y:Wt}{o nx:Option Nat}(h:Ds w wr P F g m K ((b,y)::t) gone o)(hg:(y.g==g)=false)(hf:∃f last,Hd w3 P f last m.length∧Ch w3 f K (some b))(hs:Sc w3 b y nx)(hc:Ch w3 nx t none)(ft:KF F w w3):Ds w w3 P F g m (K++[(b,y)]) t gone nx:=by
 obtain⟨pre,hm⟩:=h.suf
 obtain⟨f,last,h1,h2⟩:=hf
 refine⟨⟨f,nx,last,h1,Ch.app.2 ⟨some b,h2,rfl,nx,hs,rfl⟩⟩,hc,?_,?_,?_,⟨pre++[(b,y)],by rw[hm];simp⟩,?_,ft,h.fa,fun n hn=>?_,h.fp⟩
 ·have:=h.nd
  rw[List.append_cons] at this
  exact this
 ·have:=h.gt
  rw[List.append_cons] at this
  exact this
 ·rw[h.fil]
  simp[dr,hg]
 ·have:=h.cnt
  simp at this ⊢
  omega
 ·rcases List.mem_append.1 hn with q|q
  ·exact h.fk n q
  ·simp at q
   subst q
   exact h.fa _ (by rw[hm];simp)
theorem Ds.dj{w wr:World}{P:Nat}{F:Nat→Prop}{g:Int}{m K0 rest:List (Nat × Wt)}{n0:Nat × Wt}{gone:Nat}{o:Option Nat}(h:Ds w wr P F g m (K0++[n0]) rest gone o):(∀n∈K0,n.1≠n0.1)∧(∀n∈rest,n.1≠n0.1)∧P<n0.1:=by
 have:=h.nd
 rw[List.append_assoc,List.map_append,List.nodup_append] at this
 refine⟨fun n hn e=>this.2.2 n.1 (List.mem_map.2 ⟨n,hn,rfl⟩) n0.1 (by simp) e,fun n hn e=>?_,h.gt n0 (by simp)⟩
 have h2:=this.2.1
 rw[List.map_append,List.nodup_append] at h2
 exact h2.2.2 n0.1 (by simp) n.1 (List.mem_map.2 ⟨n,hn,rfl⟩) e.symm
theorem Ds.fin{w wr w3:World}{P:Nat}{F:Nat→Prop}{g:Int}{m K:List (Nat × Wt)}{gone:Nat}{o:Option Nat}(h:Ds w wr P F g m K [] gone o)(hm:m.length≤1024)(hbd:Bd F w)(hf:∃f last,Hd w3 P f last m.length∧Ch w3 f K none)(ft:KF F w w3)(x:Int)(hx:x=(m.length:Int) - (gone:Int)):KF F w ((w3.setCell ⟨P,1,none⟩ (pt (lst K))).setCell ⟨P,2,none⟩ (.int .i64 x))∧PF ((w3.setCell ⟨P,1,none⟩ (pt (lst K))).setCell ⟨P,2,none⟩ (.int .i64 x)) P F (dr g (m.map (·.2))):=by
 obtain⟨f,last,h1,h2⟩:=hf
 have hc:=h.cnt
 simp at hc
 have hn:=h.nd
 have hg:=h.gt
 rw[List.append_nil] at hn hg
 have KK:=(ft.set h.fp 1 (pt (lst K))).set h.fp 2 (.int .i64 x)
 refine⟨KK,⟨K,?_,⟨f,(h1.setL (lst K)).setN K.length x (by omega),(h2.set _ (fun n hn=>by have:=hg n hn;omega)).set _ (fun n hn=>by have:=hg n hn;omega),hn,hg,by omega⟩,h.fk,h.fp,hbd.mono KK.size⟩⟩
 rw[h.fil]
 simp[dr]
theorem drop_nil(g:Int)(w:World):
 Calls Tryz.prog 187 #[.pointer none,.int .i64 g] w fun r w'=>r=.returned (.int .i64 0)∧w'=w:=by
 go_enter Tryz.func187,Tryz.ntmps187
 go_wp2_with fail
 go_step3
 go_wp2_with fail
 rw[Exit.noGoto_ret]
 go_ret
 exact⟨rfl,rfl⟩
set_option maxRecDepth 100000 in
theorem drop_n(P:Nat)(F:Nat→Prop)(m:List (Nat × Wt))(g:Int)(w:World)(h:Pn w P m)(hF1:∀n∈m,F n.1)(hF2:F P)(hF3:Bd F w):
 Calls Tryz.prog 187 #[.pointer (some ⟨P,0,none⟩),.int .i64 g] w fun r w'=>(∃gone:Nat,r=.returned (.int .i64 (gone:Int))∧gone+(dr g (m.map (·.2))).length=m.length)∧KF F w w'∧PF w' P F (dr g (m.map (·.2))):=by
 obtain⟨f,h1,h2,h3,h4,h5⟩:=h
 have DS0:Hid (Ds w w P F g m [] m 0 f):=⟨⟨f,f,_,h1,rfl⟩,h2,by simpa using h3,by simpa using h4,by simp,⟨[],rfl⟩,by simp,KF.refl _ _,hF1,fun _ h=>by simp at h,hF2⟩
 have FB:=hide hF3
 clear hF1 hF2 hF3
 have ND:=hide h3
 have y0:w.cell? ⟨P,0,none⟩=some (.pointer (f.map fun b=>⟨b,0,none⟩)):=cell_of h1 0
 clear h1 h2 h3 h4
 go_enter Tryz.func187,Tryz.ntmps187
 go_wp2_with fail
 go_step3
 go_wp2_with fail
 go_step3
 go_wp2_with fail
 go_loopw [5,6,7] (fun c st s wr=>∃(K rest:List (Nat × Wt)) (gone:Nat) (o:Option Nat),c=.int .i64 (gone:Int)∧st=pt (lst K)∧s=pt o∧Ds w wr P F g m K rest gone o) (fun _ _ s _=>ms m s)
 case atStart=>exact⟨[],m,0,f,rfl,rfl,rfl,DS0.out⟩
 case round=>
  clear DS0 y0
  obtain⟨K,rest,gone,o,rfl,rfl,rfl,ds⟩:=hrel
  have DS:=hide ds
  clear ds
  have hcnt:=DS.out.cnt
  cases rest with
  |nil=>
   have e0:o=none:=DS.out.c
   subst e0
   simp at hcnt
   rw[show pt none=.pointer none from rfl]
   obtain⟨f1,mid1,last1,hd1,ch1⟩:=DS.out.f
   rcases List.eq_nil_or_concat K with rfl|⟨K0,n0,rfl⟩
   ·rw[show pt (lst [])=.pointer none from rfl]
    go_wp2_with fail
    refine (link_none P f1 last1 m.length none _ hd1).mono ?_
    rintro r w3 ⟨rfl,hw3⟩
    have HF:Hid (∃f last,Hd w3 P f last m.length∧Ch w3 f [] none):=by rw[hw3];exact⟨none,last1,Hd.setF hd1 none,rfl⟩
    have F3:Hid (KF F w w3):=by rw[hw3];exact DS.out.ft.set DS.out.fp 0 _
    clear hw3 hd1 ch1
    obtain⟨f3,last3,hd3,_⟩:=HF.out
    have y1:=cell_of hd3 1
    have y2:=cell_of hd3 2
    have z1:=frozen_of hd3 1
    have z2:=frozen_of hd3 2
    simp at y1 y2
    clear hd3
    have FI:=hide fun x hx=>DS.out.fin h5 FB.out HF.out F3.out x hx
    rw[show pt (lst [])=.pointer none from rfl] at FI
    go_wp2_with fail
    try rw[Exit.noGoto_ret]
    go_ret
    exact⟨⟨gone,by first|rfl|(simp),by have:=DS.out.fil;have hc:=DS.out.cnt;rw[this];simp[dr] at hc ⊢;omega⟩,FI.out _ (by omega)⟩
   ·rw[List.concat_eq_append] at*
    rw[show pt (lst (K0++[n0]))=.pointer (some ⟨n0.1,0,none⟩) by rw[lst_app];rfl]
    obtain⟨dj1,_,dj3⟩:=DS.out.dj
    go_wp2_with fail
    refine (link_some _ n0.1 n0.2 mid1 none _ ch1.sc).mono ?_
    rintro r w3 ⟨rfl,hw3⟩
    have HF:Hid (∃f last,Hd w3 P f last m.length∧Ch w3 f (K0++[n0]) none):=by rw[hw3];exact⟨f1,last1,Hd.other hd1 _ (by omega),ch1.relast dj1 none⟩
    have F3:Hid (KF F w w3):=by rw[hw3];exact DS.out.ft.set (DS.out.fk n0 (by simp)) 3 _
    clear hw3 hd1 ch1 dj1
    obtain⟨f3,last3,hd3,_⟩:=HF.out
    have y1:=cell_of hd3 1
    have y2:=cell_of hd3 2
    have z1:=frozen_of hd3 1
    have z2:=frozen_of hd3 2
    simp at y1 y2
    clear hd3
    have FI:=hide fun x hx=>DS.out.fin h5 FB.out HF.out F3.out x hx
    rw[show pt (lst (K0++[n0]))=.pointer (some ⟨n0.1,0,none⟩) by rw[lst_app];rfl] at FI
    go_wp2_with fail
    try rw[Exit.noGoto_ret]
    go_ret
    exact⟨⟨gone,by first|rfl|(simp),by have:=DS.out.fil;have hc:=DS.out.cnt;rw[this];simp[dr] at hc ⊢;omega⟩,FI.out _ (by omega)⟩
  |cons n t=>
   obtain⟨b,y⟩:=n
   have eo:o=some b:=DS.out.c.1
   subst eo
   obtain⟨pre0,hpre0⟩:=DS.out.suf
   have MS:=hide (ms_ch hpre0 ND.out DS.out.c)
   clear hpre0
   rw[show pt (some b)=.pointer (some ⟨b,0,none⟩) from rfl] at MS ⊢
   go_wp2_with fail
   go_loop [5,7] (fun c s=>∃(b':Nat) (y':Wt) (t':List (Nat × Wt)) (gone':Nat),c=.int .i64 (gone':Int)∧s=.pointer (some ⟨b',0,none⟩)∧t'.length≤t.length∧Ds w wr P F g m K ((b',y')::t') gone' (some b')) (fun _ s=>ms m s)
   case atStart=>exact⟨b,y,t,gone,rfl,rfl,Nat.le_refl _,DS.out⟩
   case round=>
    clear DS hcnt
    obtain⟨b',y',t',gone',rfl,rfl,ht',ds⟩:=hrel
    have DS:=hide ds
    clear ds
    have hcnt:=DS.out.cnt
    simp at hcnt
    obtain⟨_,nx,hs,hc⟩:=DS.out.c
    obtain⟨pre1,hpre1⟩:=DS.out.suf
    have M1:=hide (ms_ch hpre1 ND.out DS.out.c)
    have M2:=hide (ms_ch (pre:=pre1++[(b',y')]) (by rw[hpre1];simp) ND.out hc)
    rw[show pt (some b')=.pointer (some ⟨b',0,none⟩) from rfl] at M1
    clear hpre1
    have y0:=cell_of hs 0
    have y3:wr.cell? ⟨b',3,none⟩=some (pt nx):=cell_of hs 3
    simp at y0
    have HS:=hide hs
    have HC:=hide hc
    clear hs hc
    cases hg:y'.g==g
    ·skip
     obtain⟨f1,mid1,last1,hd1,ch1⟩:=DS.out.f
     have hPb:=DS.out.gt (b',y') (by simp)
     have hPb2:P<b':=hPb
     clear hPb
     unfold pt at y3
     generalize hq:nx.map (fun b=>(⟨b,0,none⟩:Addr))=q at y3
     have HQ:Hid (Value.pointer q=pt nx):=by show _=_;rw[←hq];rfl
     clear hq
     have NB:Hid (∀n∈K++t',n.1≠b'):=by
      intro n hn e
      have:=DS.out.nd
      rw[List.map_append,List.map_cons,List.nodup_append,List.nodup_cons] at this
      rcases List.mem_append.1 hn with z|z
      ·exact this.2.2 n.1 (List.mem_map.2 ⟨n,z,rfl⟩) b' (by simp) e
      ·exact this.2.1.1 (List.mem_map.2 ⟨n,z,e⟩)
     rcases List.eq_nil_or_concat K with rfl|⟨K0,n0,rfl⟩
     ·rw[show pt (lst [])=.pointer none from rfl]
      go_wp2_with fail
      refine (link_none P f1 last1 m.length (some ⟨b',0,none⟩) _ hd1).mono ?_
      rintro r w3 ⟨rfl,hw3⟩
      have S3:Hid (Sc w3 b' y' nx):=by rw[hw3];exact HS.out.other _ (by omega)
      have D3:Hid (Ds w w3 P F g m ([]++[(b',y')]) t' gone' nx):=by
       refine DS.out.keep hg ⟨some b',last1,by rw[hw3];exact Hd.setF hd1 (some b'),rfl⟩ S3.out ?_ (by rw[hw3];exact DS.out.ft.set DS.out.fp 0 _)
       rw[hw3]
       exact HC.out.set _ (fun n hn=>by have:=DS.out.gt n (by simp[hn]);omega)
      have y4:w3.cell? ⟨b',3,none⟩=some (.pointer q):=by rw[HQ.out];exact cell_of S3.out 3
      clear hw3 hd1 ch1 y3
      go_wp2_with fail
      go_roundw
      case rel=>exact⟨_,t',gone',nx,rfl,rfl,HQ.out,D3.out⟩
      case measure=>
       have h1:=MS.out
       have h2:=M2.out
       show ms m (.pointer q)<ms m (.pointer (some ⟨b,0,none⟩))
       rw[HQ.out,h1,h2]
       simp
       omega
     ·rw[List.concat_eq_append] at*
      rw[show pt (lst (K0++[n0]))=.pointer (some ⟨n0.1,0,none⟩) by rw[lst_app];rfl]
      obtain⟨dj1,dj2,dj3⟩:=DS.out.dj
      have hn0:b'≠n0.1:=fun e=>NB.out n0 (by simp) e.symm
      go_wp2_with fail
      refine (link_some _ n0.1 n0.2 mid1 (some ⟨b',0,none⟩) _ ch1.sc).mono ?_
      rintro r w3 ⟨rfl,hw3⟩
      have S3:Hid (Sc w3 b' y' nx):=by rw[hw3];exact HS.out.other _ hn0
      have D3:Hid (Ds w w3 P F g m ((K0++[n0])++[(b',y')]) t' gone' nx):=by
       refine DS.out.keep hg ⟨f1,last1,by rw[hw3];exact Hd.other hd1 _ (by omega),by rw[hw3];exact ch1.relast dj1 (some b')⟩ S3.out ?_ (by rw[hw3];exact DS.out.ft.set (DS.out.fk n0 (by simp)) 3 _)
       rw[hw3]
       exact HC.out.set _ (fun n hn=>dj2 n (List.mem_cons_of_mem _ hn))
      have y4:w3.cell? ⟨b',3,none⟩=some (.pointer q):=by rw[HQ.out];exact cell_of S3.out 3
      have EL:Hid (Value.pointer (some ⟨b',0,none⟩)=pt (lst ((K0++[n0])++[(b',y')]))):=by show _=_;rw[lst_app];rfl
      clear hw3 hd1 ch1 dj1 dj2 y3
      go_wp2_with fail
      go_roundw
      case rel=>exact⟨_,t',gone',nx,rfl,EL.out,HQ.out,D3.out⟩
      case measure=>
       have h1:=MS.out
       have h2:=M2.out
       show ms m (.pointer q)<ms m (.pointer (some ⟨b,0,none⟩))
       rw[HQ.out,h1,h2]
       simp
       omega
    ·have D2:=hide (DS.out.skip hg HC.out)
     cases t' with
     |nil=>
      have en:nx=none:=HC.out
      subst en
      rw[show pt none=.pointer none from rfl] at y3
      clear DS
      have DS:=D2
      clear D2
      simp at hcnt
      obtain⟨f1,mid1,last1,hd1,ch1⟩:=DS.out.f
      rcases List.eq_nil_or_concat K with rfl|⟨K0,n0,rfl⟩
      ·rw[show pt (lst [])=.pointer none from rfl]
       go_wp2_with fail
       refine (link_none P f1 last1 m.length none _ hd1).mono ?_
       rintro r w3 ⟨rfl,hw3⟩
       have HF:Hid (∃f last,Hd w3 P f last m.length∧Ch w3 f [] none):=by rw[hw3];exact⟨none,last1,Hd.setF hd1 none,rfl⟩
       have F3:Hid (KF F w w3):=by rw[hw3];exact DS.out.ft.set DS.out.fp 0 _
       clear hw3 hd1 ch1
       obtain⟨f3,last3,hd3,_⟩:=HF.out
       have y1:=cell_of hd3 1
       have y2:=cell_of hd3 2
       have z1:=frozen_of hd3 1
       have z2:=frozen_of hd3 2
       simp at y1 y2
       clear hd3
       have FI:=hide fun x hx=>DS.out.fin h5 FB.out HF.out F3.out x hx
       rw[show pt (lst [])=.pointer none from rfl] at FI
       go_wp2_with fail
       try rw[Exit.noGoto_ret]
       go_ret
       exact⟨⟨gone'+1,by first|rfl|(simp),by have:=DS.out.fil;have hc:=DS.out.cnt;rw[this];simp[dr] at hc ⊢;omega⟩,FI.out _ (by omega)⟩
      ·rw[List.concat_eq_append] at*
       rw[show pt (lst (K0++[n0]))=.pointer (some ⟨n0.1,0,none⟩) by rw[lst_app];rfl]
       obtain⟨dj1,_,dj3⟩:=DS.out.dj
       go_wp2_with fail
       refine (link_some _ n0.1 n0.2 mid1 none _ ch1.sc).mono ?_
       rintro r w3 ⟨rfl,hw3⟩
       have HF:Hid (∃f last,Hd w3 P f last m.length∧Ch w3 f (K0++[n0]) none):=by rw[hw3];exact⟨f1,last1,Hd.other hd1 _ (by omega),ch1.relast dj1 none⟩
       have F3:Hid (KF F w w3):=by rw[hw3];exact DS.out.ft.set (DS.out.fk n0 (by simp)) 3 _
       clear hw3 hd1 ch1 dj1
       obtain⟨f3,last3,hd3,_⟩:=HF.out
       have y1:=cell_of hd3 1
       have y2:=cell_of hd3 2
       have z1:=frozen_of hd3 1
       have z2:=frozen_of hd3 2
       simp at y1 y2
       clear hd3
       have FI:=hide fun x hx=>DS.out.fin h5 FB.out HF.out F3.out x hx
       rw[show pt (lst (K0++[n0]))=.pointer (some ⟨n0.1,0,none⟩) by rw[lst_app];rfl] at FI
       go_wp2_with fail
       try rw[Exit.noGoto_ret]
       go_ret
       exact⟨⟨gone'+1,by first|rfl|(simp),by have:=DS.out.fil;have hc:=DS.out.cnt;rw[this];simp[dr] at hc ⊢;omega⟩,FI.out _ (by omega)⟩
     |cons n2 t2=>
      obtain⟨b2,y2⟩:=n2
      have en:nx=some b2:=HC.out.1
      subst en
      rw[show pt (some b2)=.pointer (some ⟨b2,0,none⟩) from rfl] at y3
      go_wp2_with fail
      go_round
      case rel=>exact⟨b2,y2,t2,gone'+1,by go_num,rfl,by simp at ht';omega,D2.out⟩
      case measure=>
       have h1:=M1.out
       have h2:=M2.out
       show ms m (pt (some b2))<ms m (.pointer (some ⟨b',0,none⟩))
       rw[h1,h2]
       simp
theorem drop_any(P:Nat)(F:Nat→Prop)(l:List Wt)(g:Int)(w:World)(h:PF w P F l):
 Calls Tryz.prog 187 #[.pointer (some ⟨P,0,none⟩),.int .i64 g] w fun r w'=>r=.returned (.int .i64 ((l.length:Int) - ((dr g l).length:Int)))∧KF F w w'∧PF w' P F (dr g l):=by
 obtain⟨m,rfl,hn,hF1,hF2,hF3⟩:=h
 refine (drop_n P F m g w hn hF1 hF2 hF3).mono ?_
 rintro r w1 ⟨⟨gone,rfl,hg⟩,h2⟩
 refine⟨?_,h2⟩
 rw[List.length_map,show ((m.length:Int) - ((dr g (m.map (·.2))).length:Int))=(gone:Int) by omega]
end Pe
namespace Pe
open Ba
theorem info_wt:(Tryz.prog.info? 169).map (fun i=>(i.zero,i.size,i.bytes))=some (some (wv ⟨0,0,0⟩),3,24):=by kernel_rfl
def wc(l:List Wt):List Value:=l.flatMap fun x=>[.int .i64 x.g,.int .i64 x.c,.int .i64 x.v]
theorem wc_nil:wc []=[]:=rfl
theorem wc_cons(x:Wt)(l:List Wt):wc (x::l)=.int .i64 x.g::.int .i64 x.c::.int .i64 x.v::wc l:=rfl
theorem wc_app(l m:List Wt):wc (l++m)=wc l++wc m:=by simp[wc]
theorem wc_at:∀(l:List Wt) (k:Nat) (x:Wt),l[k]? =some x→(wc l)[k*3]? =some (.int .i64 x.g)∧(wc l)[k*3+1]? =some (.int .i64 x.c)∧(wc l)[k*3+2]? =some (.int .i64 x.v)
 |[],_,_,h=>by simp at h
 |y::l,0,x,h=>by simp at h;subst h;exact⟨rfl,rfl,rfl⟩
 |y::l,k+1,x,h=>by
  rw[wc_cons]
  have:=wc_at l k x (by simpa using h)
  rw[show (k+1)*3=k*3+3 by omega]
  exact this
theorem wc_one(l:List Wt):∀u∈wc l,u.oneCell'=true:=by
 induction l with
 |nil=>intro u hu;simp[wc_nil] at hu
 |cons x l ih=>
  intro u hu
  rw[wc_cons] at hu
  simp at hu
  rcases hu with rfl|rfl|rfl|hu
  ·rfl
  ·rfl
  ·rfl
  ·exact ih u hu
def WAt(w:World)(oa:Option Addr)(l:List Wt):Prop:=
 ∀k x,l[k]? =some x→∃b off,oa=some ⟨b,off,none⟩∧w.cell? ⟨b,off+k*3,none⟩=some (.int .i64 x.g)∧w.cell? ⟨b,off+k*3+1,none⟩=some (.int .i64 x.c)∧w.cell? ⟨b,off+k*3+2,none⟩=some (.int .i64 x.v)
theorem WAt.nil(w:World)(oa:Option Addr):WAt w oa []:=fun _ _ h=>by simp at h
theorem WAt.below{w w':World}{oa:Option Addr}{l:List Wt}(h:WAt w oa l)(hb:Below w.heap.size w w'):WAt w' oa l:=by
 intro k x hk
 obtain⟨b,off,e,h0,h1,h2⟩:=h k x hk
 exact⟨b,off,e,(hb.cell (World.block_lt_of_cell? w _ h0)).trans h0,(hb.cell (World.block_lt_of_cell? w _ h1)).trans h1,(hb.cell (World.block_lt_of_cell? w _ h2)).trans h2⟩
theorem owns_wat{w:World}{base:Nat}{e:TypeId}{v:Value}{l:List Wt}(h:w.ownsRow base e 3 v l.length (wc l)):∃oa c,v=.slice oa l.length c∧WAt w oa l∧l.length≤c∧∀a,oa=some a→base≤a.block:=by
 rcases h.2 with⟨rfl,h0⟩|⟨g,cap,cur,rfl,hbase,hg,hc,_,hcs,htk⟩
 ·refine⟨none,0,by rw[h0],?_,by omega,fun a e=>by cases e⟩
  obtain rfl:=List.eq_nil_of_length_eq_zero h0
  exact WAt.nil _ _
 ·refine⟨_,cap,rfl,?_,hc,fun a e=>by cases e;exact hbase⟩
  intro k x hk
  have hkl:=(List.getElem?_eq_some_iff.1 hk).1
  obtain⟨q0,q1,q2⟩:=wc_at l k x hk
  rw[←htk,List.getElem?_take_of_lt (by omega)] at q0 q1 q2
  refine⟨g,0,rfl,?_,?_,?_⟩
  ·rw[Nat.zero_add,cell_of hg];simpa using q0
  ·rw[Nat.zero_add,cell_of hg];simpa using q1
  ·rw[Nat.zero_add,cell_of hg];simpa using q2
theorem src3(w:World)(x:Wt)(t:TypeId):∀j u,(wc [x])[j]? =some u→(w.alloc (.cells #[.int .i64 x.g,.int .i64 x.c,.int .i64 x.v] t)).cell? ((⟨w.heap.size,0,none⟩:Addr).add j)=some u:=by
 intro j u hj
 rw[Addr.add_lit,Nat.zero_add,cell_of (heap_new _ _)]
 rw[wc_cons,wc_nil] at hj
 rw[←hj]
 simp
set_option maxRecDepth 100000 in
theorem list_new(P:Nat)(l:List Wt)(w:World)(h:Pw w P l):
 Calls Tryz.prog 143 #[.pointer (some ⟨P,0,none⟩)] w fun r w'=>∃oa c,r=.returned (.slice oa l.length c)∧WAt w' oa l∧Below w.heap.size w w'∧∀a,oa=some a→w.heap.size≤a.block:=by
 cases hi:Tryz.prog.info? 169 with
 |none=>have:=info_wt;rw[hi] at this;cases this
 |some i=>
 have hx:=info_wt
 rw[hi] at hx
 simp at hx
 have INF:=hide (And.intro hi hx)
 obtain⟨hz,hs,hb⟩:=hx
 have PW:=hide h
 have hle:=h.le
 obtain⟨m,rfl,f,h1,h2,h3,h4,h5⟩:=h
 obtain⟨n,hn⟩:∃n,n=(m.map (·.2)).length:=⟨_,rfl⟩
 have LN:=hide (len_any P _ w PW.out)
 rw[←hn] at LN hle
 have hm:(Instr.makeSlice 173 (.int .i64 0) (.int .i64 (n:Int))).run Tryz.prog w=.ok (.slice (some ⟨w.heap.size,0,none⟩) 0 n) (w.alloc (.cells (madeCells (wv ⟨0,0,0⟩).cells (n*3)) 169)):=by
  have:=run_make (P:=Tryz.prog) w 173 169 i _ Tryz.underlying173 hi hz .i64 .i64 0 n (by omega) (by omega) (by rw[hb];omega) (by omega)
  rw[hs] at this
  simpa using this
 have OW:=hide (World.ownsRow_made (base:=w.heap.size) (e:=169) (size:=3) w (madeCells (wv ⟨0,0,0⟩).cells (n*3)) n (Nat.le_refl _) (by unfold maxLen;omega) (size_madeCells _ _))
 have BW:=hide (below_alloc w (.cells (madeCells (wv ⟨0,0,0⟩).cells (n*3)) 169))
 generalize w.alloc (.cells (madeCells (wv ⟨0,0,0⟩).cells (n*3)) 169)=w2 at hm OW BW
 have HC:=hide h2
 have ND:=hide h3
 have HN:=hide hn
 have y0:w2.cell? ⟨P,0,none⟩=some (pt f):=cell_of (heap_below h1 BW.out) 0
 have FR:=hide (front_c P (f.map fun b=>⟨b,0,none⟩) w2 y0)
 clear h1 h2 h3 h4 h5 y0 hn hi hz hs hb PW
 go_enter Tryz.func143,Tryz.ntmps143
 go_wp2_with fail
 refine LN.out.mono ?_
 rintro r w1 ⟨rfl,rfl⟩
 go_wp2_with fail
 refine FR.out.mono ?_
 rintro r _ ⟨rfl,rfl⟩
 go_wp2_with fail
 go_loopw [3,4] (fun lv s wr=>∃(v:Value) (pre rest:List (Nat × Wt)) (o:Option Nat),lv=v∧s=pt o∧m=pre++rest∧Ch w1 o rest none∧wr.ownsRow w1.heap.size 169 3 v (pre.map (·.2)).length (wc (pre.map (·.2)))∧Below w1.heap.size w1 wr) (fun _ s _=>ms m s)
 case atStart=>exact⟨_,[],m,f,rfl,rfl,rfl,HC.out,OW.out,BW.out⟩
 case round=>
  clear OW BW HC FR LN
  obtain⟨v,pre,rest,o,rfl,rfl,hmm,hc,ho,hb⟩:=hrel
  cases rest with
  |nil=>
   have e0:o=none:=hc
   subst e0
   rw[List.append_nil] at hmm
   subst hmm
   obtain⟨oa,c,rfl,hw,_,hnew⟩:=owns_wat ho
   have HW:=hide hw
   have HB:=hide hb
   have HNW:=hide hnew
   clear hw hb ho hc hnew
   rw[show pt none=.pointer none from rfl]
   go_wp2_with fail
   go_ret
   exact⟨oa,c,rfl,HW.out,HB.out,HNW.out⟩
  |cons nd t=>
   obtain⟨b,y⟩:=nd
   have MS:=hide (ms_ch hmm ND.out hc)
   obtain⟨rfl,nx,hs,hc2⟩:=hc
   have MT:=hide (ms_ch (pre:=pre++[(b,y)]) (by rw[hmm];simp) ND.out hc2)
   have hs1:=heap_below hs hb
   have z0:=cell_of hs1 0
   have z1:=cell_of hs1 1
   have z2:=cell_of hs1 2
   have z3:wr.cell? ⟨b,3,none⟩=some (pt nx):=cell_of hs1 3
   simp at z0 z1 z2
   have hpl:(pre.map (·.2)).length≤1024:=by
    have:=HN.out
    rw[hmm] at this
    simp at this ⊢
    omega
   have HM:=hide hmm
   have HC2:=hide hc2
   have HS:=hide hs
   have OW:=hide (own_below ho (below_alloc wr (.cells #[.int .i64 y.g,.int .i64 y.c,.int .i64 y.v] 169)))
   have SR:=hide (src3 wr y 169)
   have HB:=hide (btr hb (below_alloc wr (.cells #[.int .i64 y.g,.int .i64 y.c,.int .i64 y.v] 169)))
   clear hmm hc2 hs hs1 hb
   obtain⟨X,hX⟩:∃X,X=pre.map (·.2):=⟨_,rfl⟩
   rw[←hX] at OW hpl ho
   have HX:=hide hX
   clear hX
   rw[show pt (some b)=.pointer (some ⟨b,0,none⟩) from rfl] at*
   unfold pt at z3
   generalize hq:nx.map (fun b=>(⟨b,0,none⟩:Addr))=q at z3
   have HQ:Hid (Value.pointer q=pt nx):=by show _=_;rw[←hq];rfl
   clear hq ho
   go_wp2_with (at_builtin;refine wpList_append_own _ rfl _ _ 173 rfl w1.heap.size 169 i (wv ⟨0,0,0⟩) 3 24 Tryz.underlying173 INF.out.1 INF.out.2.1 INF.out.2.2.1 INF.out.2.2.2 rfl (by decide) _ _ _ rfl OW.out ⟨wr.heap.size,0,none⟩ 1 1 (wc [y]) rfl rfl ?c1 ?c2 ?c3 ?c4 ?c5 ?_)
   case c1=>first|exact SR.out|exact fun j u hj=>hj
   case c2=>exact wc_one _
   case c3=>unfold maxLen;omega
   case c4=>omega
   case c5=>first|exact HB.out.size|(have:=HB.out.size;rw[World.size_alloc] at this;exact this)
   intro v' w3 ho hg _
   have B3:Hid (Below w1.heap.size w1 w3):=HB.out.grown hg HB.out.size (fun x hx=>(OW.out.lt x hx).1)
   have O3:Hid (w3.ownsRow w1.heap.size 169 3 v' ((pre++[(b,y)]).map (·.2)).length (wc ((pre++[(b,y)]).map (·.2)))):=by
    show World.ownsRow _ _ _ _ _ _ _
    rw[List.map_append,wc_app,List.length_append,←HX.out]
    exact ho
   have z4:w3.cell? ⟨b,3,none⟩=some (.pointer q):=by rw[HQ.out];exact cell_of (heap_below HS.out B3.out) 3
   clear ho hg OW SR HB z0 z1 z2 z3
   go_wp2_with fail
   go_roundw
   case rel=>exact⟨v',pre++[(b,y)],t,nx,rfl,HQ.out,by rw[HM.out];simp,HC2.out,O3.out,B3.out⟩
   case measure=>
    have h1:=MS.out
    have h2:=MT.out
    show ms m (.pointer q)<ms m (.pointer (some ⟨b,0,none⟩))
    rw[HQ.out,h1,h2]
    simp
theorem list_any(P:Nat)(l:List Wt)(w:World)(h:Pw w P l):
 Calls Tryz.prog 143 #[.pointer (some ⟨P,0,none⟩)] w fun r w'=>∃oa c,r=.returned (.slice oa l.length c)∧WAt w' oa l∧Below w.heap.size w w':=by
 refine (list_new P l w h).mono ?_
 rintro r w1 ⟨oa,c,rfl,h1,h2,-⟩
 exact⟨oa,c,rfl,h1,h2⟩
theorem WAt.keep{w w':World}{oa:Option Addr}{l:List Wt}(h:WAt w oa l)(hk:∀a,oa=some a→w'.heap[a.block]? =w.heap[a.block]?):WAt w' oa l:=by
 intro k x hx
 obtain⟨b,off,e,h0,h1,h2⟩:=h k x hx
 have q:=hk _ e
 simp only at q
 refine⟨b,off,e,?_,?_,?_⟩
 ·rw[←h0];simp only[World.cell?,q]
 ·rw[←h1];simp only[World.cell?,q]
 ·rw[←h2];simp only[World.cell?,q]
theorem WAt.lt{w:World}{oa:Option Addr}{l:List Wt}(h:WAt w oa l)(hl:0<l.length)(a:Addr)(e:oa=some a):a.block<w.heap.size:=by
 obtain⟨b,off,e2,h0,h1,h2⟩:=h 0 _ (List.getElem?_eq_getElem hl)
 rw[e] at e2
 cases e2
 exact World.block_lt_of_cell? w _ h0
theorem WAt.keep'{w w':World}{F:Nat→Prop}{oa:Option Addr}{l:List Wt}(h:WAt w oa l)(k:KF F w w')(hn:∀a,oa=some a→¬F a.block)(hl:0<l.length):WAt w' oa l:=
 h.keep fun a e=>k.block a.block (h.lt hl a e) (hn a e)
theorem WAt.kf{w w':World}{F:Nat→Prop}{oa:Option Addr}{l:List Wt}(h:WAt w oa l)(k:KF F w w')(hn:∀a,oa=some a→¬F a.block):WAt w' oa l:=by
 intro j x hx
 have hl:0<l.length:=Nat.lt_of_le_of_lt (Nat.zero_le _) (List.getElem?_eq_some_iff.1 hx).1
 exact h.keep' k hn hl j x hx
end Pe
namespace Pe
open Ba
def okb(x:Wt):Bool:=decide (0≤x.g)&&decide (-1≤x.c)
theorem okb_iff(x:Wt):okb x=true↔0≤x.g∧-1≤x.c:=by simp[okb]
theorem okb_not(x:Wt):okb x=false↔x.g<0∨x.c< -1:=by
 rw[←Bool.not_eq_true,okb_iff]
 omega
def ae(l:List Wt)(x:Wt):Int:=if okb x=true then (if l.length=1024 then 5 else 0) else 1
def al(l:List Wt)(x:Wt):List Wt:=if okb x=true then (if l.length=1024 then l else l++[x]) else l
theorem add_any(P:Nat)(F:Nat→Prop)(l:List Wt)(x:Wt)(w:World)(hP:PF w P F l):
 Calls Tryz.prog 137 #[.pointer (some ⟨P,0,none⟩),wv x] w fun r w'=>r=.returned (.int .i64 (ae l x))∧KF F w w'∧∃F',Nw F' F w∧PF w' P F' (al l x):=by
 unfold ae al
 cases h:okb x
 ·simp only[Bool.false_eq_true,if_false]
  refine (add_arg _ x w ((okb_not x).1 h)).mono ?_
  rintro r w1 ⟨rfl,b1⟩
  exact⟨rfl,KF.of b1,F,Nw.refl _ _,hP.below b1⟩
 ·simp only[if_true]
  by_cases hl:l.length=1024
  ·simp only[if_pos hl]
   refine (add_full P l x w ((okb_iff x).1 h) hP.pw hl).mono ?_
   rintro r w1 ⟨rfl,b1⟩
   exact⟨rfl,KF.of b1,F,Nw.refl _ _,hP.below b1⟩
  ·simp only[if_neg hl]
   exact add_ok P F l x w ((okb_iff x).1 h) hP (by have:=hP.le;omega)
theorem take_any(P:Nat)(F:Nat→Prop)(l:List Wt)(w:World)(h:PF w P F l):
 Calls Tryz.prog 182 #[.pointer (some ⟨P,0,none⟩)] w fun r w'=>r=.returned (.tuple #[wv (fw l),.bool (fo l)])∧KF F w w'∧PF w' P F l.tail:=by
 cases l with
 |nil=>
  refine (take_none P w h.pw).mono ?_
  rintro r w1 ⟨rfl,b1⟩
  exact⟨rfl,KF.of b1,h.below b1⟩
 |cons x l=>exact take_some P F x l w h
theorem dr_take{g:Int}{l:List Wt}{k:Nat}{x:Wt}(h:l[k]? =some x):dr g (l.take (k+1))=if (x.g==g)=true then dr g (l.take k) else dr g (l.take k)++[x]:=by
 unfold dr
 rw[List.take_add_one,h,List.filter_append]
 cases hg:x.g==g<;>simp[hg]
end Pe
namespace Rn
open Ba
def Cl(w:World)(R:Nat)(v:Nat→Int)(f n s:Nat):Prop:=
 w.heap[R]? =some (.cells #[.int .i64 (v 0),.int .i64 (v 1),.int .i64 (v 2),.int .i64 (v 3),.int .i64 (f:Int),.int .i64 (n:Int),.int .i64 (s:Int)] 240 (0,0))
def Rg(w:World)(R s:Nat)(l:List Int):Prop:=
 ∃(v:Nat→Int) (f:Nat),f<4∧l.length≤s∧s≤4∧(∀i,i<l.length→v ((f+i) % 4)=nth l i)∧Cl w R v f l.length s
theorem Cl.cell{w:World}{R:Nat}{v:Nat→Int}{f n s:Nat}(h:Cl w R v f n s)(k:Nat)(hk:k<4):w.cell? ⟨R,k,none⟩=some (.int .i64 (v k)):=by
 rw[cell_of h k]
 match k,hk with
 |0,_=>rfl
 |1,_=>rfl
 |2,_=>rfl
 |3,_=>rfl
theorem Cl.fst{w:World}{R:Nat}{v:Nat→Int}{f n s:Nat}(h:Cl w R v f n s):w.cell? ⟨R,4,none⟩=some (.int .i64 (f:Int)):=cell_of h 4
theorem Cl.cnt{w:World}{R:Nat}{v:Nat→Int}{f n s:Nat}(h:Cl w R v f n s):w.cell? ⟨R,5,none⟩=some (.int .i64 (n:Int)):=cell_of h 5
theorem Cl.siz{w:World}{R:Nat}{v:Nat→Int}{f n s:Nat}(h:Cl w R v f n s):w.cell? ⟨R,6,none⟩=some (.int .i64 (s:Int)):=cell_of h 6
def up(v:Nat→Int)(k:Nat)(x:Int):Nat→Int:=fun j=>if j=k then x else v j
theorem up_same(v:Nat→Int)(k:Nat)(x:Int):up v k x k=x:=by simp[up]
theorem up_other(v:Nat→Int)(k:Nat)(x:Int)(j:Nat)(h:j≠k):up v k x j=v j:=by simp[up,h]
theorem Cl.val{w:World}{R:Nat}{v:Nat→Int}{f n s:Nat}(h:Cl w R v f n s)(k:Nat)(hk:k<4)(x:Int):Cl (w.setCell ⟨R,k,none⟩ (.int .i64 x)) R (up v k x) f n s:=by
 unfold Cl
 rw[Ba.heap_setCell_same h]
 match k,hk with
 |0,_=>rfl
 |1,_=>rfl
 |2,_=>rfl
 |3,_=>rfl
theorem Cl.setFst{w:World}{R:Nat}{v:Nat→Int}{f n s:Nat}(h:Cl w R v f n s)(g:Nat):Cl (w.setCell ⟨R,4,none⟩ (.int .i64 (g:Int))) R v g n s:=by
 unfold Cl
 rw[Ba.heap_setCell_same h]
 rfl
theorem Cl.setCnt{w:World}{R:Nat}{v:Nat→Int}{f n s:Nat}(h:Cl w R v f n s)(g:Nat)(x:Int)(hx:x=(g:Int)):Cl (w.setCell ⟨R,5,none⟩ (.int .i64 x)) R v f g s:=by
 subst hx
 unfold Cl
 rw[Ba.heap_setCell_same h]
 rfl
theorem Rg.below{w w':World}{R s:Nat}{l:List Int}(h:Rg w R s l)(hb:Below w.heap.size w w'):Rg w' R s l:=by
 obtain⟨v,f,h1,h2,h3,h4,h5⟩:=h
 exact⟨v,f,h1,h2,h3,h4,heap_below h5 hb⟩
theorem Rg.lt{w:World}{R s:Nat}{l:List Int}(h:Rg w R s l):R<w.heap.size:=by
 obtain⟨v,f,h1,h2,h3,h4,h5⟩:=h
 exact heap_lt h5
theorem new_ok(s:Nat)(w:World)(h:s≤4):
 Calls Tryz.prog 133 #[.int .i64 (s:Int)] w fun r w'=>r=.returned (.tuple #[.pointer (some ⟨w.heap.size,0,none⟩),.int .i64 0])∧Rg w' w.heap.size s []∧Below w.heap.size w w':=by
 have d1:decide ((s:Int)<0)=false:=decide_eq_false (by omega)
 have d2:decide (4<(s:Int))=false:=decide_eq_false (by omega)
 go_enter Tryz.func133,Tryz.ntmps133
 go_wp2_with fail
 go_ret2
 exact⟨rfl,⟨fun _=>0,0,by decide,Nat.zero_le _,h,fun i hi=>absurd hi (Nat.not_lt_zero _),heap_new _ _⟩,below_alloc _ _⟩
theorem place_any(R f i:Nat)(w:World)(hc:w.cell? ⟨R,4,none⟩=some (.int .i64 (f:Int)))(hf:f<4)(hi:i≤4):
 Calls Tryz.prog 190 #[.pointer (some ⟨R,0,none⟩),.int .i64 (i:Int)] w fun r w'=>r=.returned (.int .i64 (((f+i) % 4:Nat):Int))∧w'=w:=by
 have h4:(((f:Int)+(i:Int)).tmod 4)=(((f+i) % 4:Nat):Int):=by rw[Int.tmod_eq_emod_of_nonneg (by omega)];omega
 generalize hq:(f+i) % 4=q at h4 ⊢
 go_enter Tryz.func190,Tryz.ntmps190
 go_wp2_with fail
 go_ret
 exact⟨ret_int (by first|exact h4|omega),rfl⟩
theorem len_c(R:Nat)(n:Int)(w:World)(h:w.cell? ⟨R,5,none⟩=some (.int .i64 n)):
 Calls Tryz.prog 184 #[.pointer (some ⟨R,0,none⟩)] w fun r w'=>r=.returned (.int .i64 n)∧w'=w:=by
 go_enter Tryz.func184,Tryz.ntmps184
 go_wp2_with fail
 go_ret
 exact⟨rfl,rfl⟩
theorem cap_c(R:Nat)(n:Int)(w:World)(h:w.cell? ⟨R,6,none⟩=some (.int .i64 n)):
 Calls Tryz.prog 186 #[.pointer (some ⟨R,0,none⟩)] w fun r w'=>r=.returned (.int .i64 n)∧w'=w:=by
 go_enter Tryz.func186,Tryz.ntmps186
 go_wp2_with fail
 go_ret
 exact⟨rfl,rfl⟩
theorem len_any(R s:Nat)(l:List Int)(w:World)(h:Rg w R s l):
 Calls Tryz.prog 184 #[.pointer (some ⟨R,0,none⟩)] w fun r w'=>r=.returned (.int .i64 (l.length:Int))∧w'=w:=by
 obtain⟨v,f,h1,h2,h3,h4,h5⟩:=h
 exact len_c R _ w h5.cnt
theorem cap_any(R s:Nat)(l:List Int)(w:World)(h:Rg w R s l):
 Calls Tryz.prog 186 #[.pointer (some ⟨R,0,none⟩)] w fun r w'=>r=.returned (.int .i64 (s:Int))∧w'=w:=by
 obtain⟨v,f,h1,h2,h3,h4,h5⟩:=h
 exact cap_c R _ w h5.siz
end Rn
namespace Rn
open Ba
theorem at_out(R s:Nat)(l:List Int)(i:Int)(w:World)(h:Rg w R s l)(hi:i<0∨(l.length:Int)≤i):
 Calls Tryz.prog 193 #[.pointer (some ⟨R,0,none⟩),.int .i64 i] w fun r w'=>r=.returned (.tuple #[.int .i64 0,.int .i64 6])∧w'=w:=by
 cases h1:decide (i<0)
 ·have d2:decide ((l.length:Int)≤i)=true:=by simp at h1 ⊢;omega
  have H:=hide h
  clear h hi
  go_enter Tryz.func193,Tryz.ntmps193
  go_wp2_with fail
  refine (len_any R s l _ H.out).mono ?_
  rintro r w1 ⟨rfl,rfl⟩
  go_wp2_with fail
  go_ret2
  exact⟨rfl,rfl⟩
 ·clear hi
  go_enter Tryz.func193,Tryz.ntmps193
  go_wp2_with fail
  go_ret2
  exact⟨rfl,rfl⟩
theorem at_in(R s:Nat)(l:List Int)(i:Nat)(w:World)(h:Rg w R s l)(hi:i<l.length):
 Calls Tryz.prog 193 #[.pointer (some ⟨R,0,none⟩),.int .i64 (i:Int)] w fun r w'=>r=.returned (.tuple #[.int .i64 (nth l i),.int .i64 0])∧Below w.heap.size w w':=by
 have d1:decide ((i:Int)<0)=false:=decide_eq_false (by omega)
 have d2:decide ((l.length:Int)≤(i:Int))=false:=decide_eq_false (by omega)
 have H:=hide h
 obtain⟨v,f,h1,h2,h3,h4,h5⟩:=h
 have PL:=hide fun n=>place_any R f i (w.drewN n) h5.fst h1 (by omega)
 have hq:(f+i) % 4<4:=Nat.mod_lt _ (by decide)
 have hc:=h5.cell _ hq
 have HV:=hide (h4 i hi)
 clear h4 h5
 generalize (f+i) % 4=q at*
 rw[←HV.out]
 go_enter Tryz.func193,Tryz.ntmps193
 go_wp2_with fail
 refine (len_any R s l _ H.out).mono ?_
 rintro r w1 ⟨rfl,rfl⟩
 go_wp2_with fail
 go_quiet ((go_at_call 190;exact Calls.quiet_of_same (PL.out _)))
 go_wp2_with fail
 go_ret2
 exact⟨rfl,bdrew _ _⟩
theorem push_full(R s:Nat)(l:List Int)(x:Int)(w:World)(h:Rg w R s l)(hl:l.length=s):
 Calls Tryz.prog 183 #[.pointer (some ⟨R,0,none⟩),.int .i64 x] w fun r w'=>r=.returned (.int .i64 5)∧w'=w:=by
 have H:=hide h
 have d1:(((l.length:Nat):Int)==(s:Int))=true:=by rw[beq_iff_eq];omega
 clear h hl
 go_enter Tryz.func183,Tryz.ntmps183
 go_wp2_with fail
 refine (len_any R s l _ H.out).mono ?_
 rintro r w1 ⟨rfl,rfl⟩
 go_wp2_with fail
 refine (cap_any R s l _ H.out).mono ?_
 rintro r w1 ⟨rfl,rfl⟩
 go_wp2_with fail
 go_ret
 exact⟨rfl,rfl⟩
theorem Rg.pushed{w1:World}{R s f:Nat}{v:Nat→Int}{l:List Int}(x:Int)(hf:f<4)(hl:l.length<s)(hs:s≤4)(hv:∀i,i<l.length→v ((f+i) % 4)=nth l i)(h:Cl w1 R (up v ((f+l.length) % 4) x) f (l.length+1) s):Rg w1 R s (l++[x]):=by
 refine⟨_,f,hf,by simp;omega,hs,?_,by simpa using h⟩
 intro i hi
 simp at hi
 by_cases e:i=l.length
 ·subst e
  rw[up_same]
  simp[nth]
 ·rw[up_other _ _ _ _ (by omega),hv i (by omega)]
  rw[nth_lt l i (by omega),nth_lt _ i (by simp;omega)]
  rw[List.getElem_append_left]
theorem push_ok(R s:Nat)(l:List Int)(x:Int)(w:World)(h:Rg w R s l)(hl:l.length<s):
 Calls Tryz.prog 183 #[.pointer (some ⟨R,0,none⟩),.int .i64 x] w fun r w'=>r=.returned (.int .i64 0)∧Rg w' R s (l++[x])∧KB R w w':=by
 have H:=hide h
 obtain⟨v,f,h1,h2,h3,h4,h5⟩:=h
 have HV:=hide h4
 have HC:=hide h5
 have hn:=h5.cnt
 have hq:(f+l.length) % 4<4:=Nat.mod_lt _ (by decide)
 have hcq:=h5.cell _ hq
 have hfr:=frozen_of h5 ((f+l.length) % 4)
 have hf5:=frozen_of h5 5
 have PL:=hide (place_any R f l.length w.drew h5.fst h1 (by omega))
 have d1:(((l.length:Nat):Int)==(s:Int))=false:=by rw[beq_eq_false_iff_ne];omega
 have RS:=hide fun (w1:World) (hc:Cl w1 R (up v ((f+l.length) % 4) x) f (l.length+1) s)=>Rg.pushed x h1 hl h3 h4 hc
 clear h4 h5
 generalize (f+l.length) % 4=q at*
 go_enter Tryz.func183,Tryz.ntmps183
 go_wp2_with fail
 refine (len_any R s l _ H.out).mono ?_
 rintro r w1 ⟨rfl,rfl⟩
 go_wp2_with fail
 refine (cap_any R s l _ H.out).mono ?_
 rintro r w1 ⟨rfl,rfl⟩
 go_wp2_with fail
 go_region_with (go_at_call 190;refine PL.out.mono ?_;rintro r w2 ⟨rfl,rfl⟩)
 all_goals
  go_wp2_with fail
  go_ret
  exact⟨rfl,RS.out _ ((HC.out.val q hq x).setCnt (l.length+1) _ (by omega)),(((KB.refl R _).setCell q _).setCell 5 _).trans (KB.of (bdrew1 _))⟩
theorem Rg.popped{w1:World}{R s f:Nat}{v:Nat→Int}{x:Int}{l:List Int}(hl:l.length+1≤s)(hs:s≤4)(hv:∀i,i<l.length+1→v ((f+i) % 4)=nth (x::l) i)(h:Cl w1 R (up v f 0) ((f+1) % 4) l.length s):Rg w1 R s l:=by
 refine⟨_,_,Nat.mod_lt _ (by decide),by omega,hs,?_,h⟩
 intro i hi
 rw[up_other _ _ _ _ (by omega)]
 have:=hv (i+1) (by omega)
 rw[show ((f+1) % 4+i) % 4=(f+(i+1)) % 4 by omega,this]
 rfl
theorem pop_none(R s:Nat)(w:World)(h:Rg w R s []):
 Calls Tryz.prog 191 #[.pointer (some ⟨R,0,none⟩)] w fun r w'=>r=.returned (.tuple #[.int .i64 0,.int .i64 6])∧w'=w:=by
 have H:=hide h
 clear h
 go_enter Tryz.func191,Tryz.ntmps191
 go_wp2_with fail
 refine (at_out R s [] 0 _ H.out (.inr (by simp))).mono ?_
 rintro r w1 ⟨rfl,rfl⟩
 go_wp2_with fail
 go_ret2
 exact⟨rfl,rfl⟩
theorem pop_some(R s:Nat)(x:Int)(l:List Int)(w:World)(h:Rg w R s (x::l)):
 Calls Tryz.prog 191 #[.pointer (some ⟨R,0,none⟩)] w fun r w'=>r=.returned (.tuple #[.int .i64 x,.int .i64 0])∧Rg w' R s l∧KB R w w':=by
 have AT:=hide (at_in R s (x::l) 0 w h (by simp))
 obtain⟨v,f,h1,h2,h3,h4,h5⟩:=h
 have hl:l.length+1≤s:=by simpa using h2
 have HC:Hid (Cl w R v f (l.length+1) s):=by rw[List.length_cons] at h5;exact h5
 have RS:=hide fun (w1:World) (hc:Cl w1 R (up v f 0) ((f+1) % 4) l.length s)=>Rg.popped (x:=x) hl h3 (by simpa using h4) hc
 clear h4 h5 h2
 go_enter Tryz.func191,Tryz.ntmps191
 go_wp2_with fail
 refine AT.out.mono ?_
 rintro r w1 ⟨rfl,b1⟩
 have B1:=hide b1
 have C1:Hid (Cl w1 R v f (l.length+1) s):=heap_below HC.out b1
 have y4:=C1.out.fst
 have y5:=C1.out.cnt
 have yf:=C1.out.cell f h1
 have z4:=frozen_of C1.out 4
 have z5:=frozen_of C1.out 5
 have zf:=frozen_of C1.out f
 have PL:=hide fun (u:World) (hu:u.cell? ⟨R,4,none⟩=some (.int .i64 (f:Int)))=>place_any R f 1 u hu h1 (by decide)
 clear b1
 generalize (f+1) % 4=q at*
 simp only[show nth (x::l) 0=x from rfl]
 go_wp2_with fail
 go_region
 all_goals
  go_wp2_with fail
  refine (PL.out _ (by have:=(C1.out.val f h1 0).fst;simpa using this)).mono ?_
  rintro r w2 ⟨rfl,rfl⟩
  go_wp2_with fail
  go_ret2
  exact⟨rfl,RS.out _ (((C1.out.val f h1 0).setFst q).setCnt l.length _ (by omega)),((((KB.of B1.out).setCell f _).setCell 4 _).setCell 5 _).trans (KB.of (bdrew1 _))⟩
def oe(l:List Int):Int:=if l.length=0 then 6 else 0
def tl(l:List Int)(x:Int):List Int:=if l.length=0 then l else l.tail++[x]
theorem Rg.le{w:World}{R s:Nat}{l:List Int}(h:Rg w R s l):l.length≤s:=by
 obtain⟨v,f,h1,h2,h3,h4,h5⟩:=h
 exact h2
theorem turn_any(R s:Nat)(l:List Int)(x:Int)(w:World)(h:Rg w R s l):
 Calls Tryz.prog 192 #[.pointer (some ⟨R,0,none⟩),.int .i64 x] w fun r w'=>r=.returned (.tuple #[.int .i64 (nth l 0),.int .i64 (oe l)])∧Rg w' R s (tl l x)∧KB R w w':=by
 cases l with
 |nil=>
  have H:=hide h
  clear h
  go_enter Tryz.func192,Tryz.ntmps192
  go_wp2_with fail
  refine (pop_none R s _ H.out).mono ?_
  rintro r w1 ⟨rfl,rfl⟩
  go_wp2_with fail
  go_ret2
  exact⟨rfl,H.out,KB.refl _ _⟩
 |cons y l=>
  have hle:=h.le
  rw[List.length_cons] at hle
  have H:=hide h
  clear h
  go_enter Tryz.func192,Tryz.ntmps192
  go_wp2_with fail
  refine (pop_some R s y l _ H.out).mono ?_
  rintro r w1 ⟨rfl,g1,k1⟩
  have G1:=hide g1
  have K1:=hide k1
  clear g1 k1
  go_wp2_with fail
  refine (push_ok R s l x _ G1.out (by omega)).mono ?_
  rintro r w2 ⟨rfl,g2,k2⟩
  have G2:=hide g2
  have K2:=hide k2
  clear g2 k2
  go_wp2_with fail
  go_ret2
  exact⟨rfl,G2.out,K1.out.trans K2.out⟩
end Rn
namespace Pi
open Ba Pe
structure St where
 size:Nat
 buf:List Int
 snd:List Wt
 rcv:List Wt
 sent:Nat
 got:Nat
 closed:Bool
def Hp(w:World)(B R S Q:Nat)(sent got:Nat)(cl:Bool):Prop:=
 w.heap[B]? =some (.cells #[.pointer (some ⟨R,0,none⟩),.pointer (some ⟨S,0,none⟩),.pointer (some ⟨Q,0,none⟩),.int .i64 (sent:Int),.int .i64 (got:Int),.bool cl] 209 (0,0))
structure PO(w:World)(B:Nat)(F:Nat→Prop)(R S Q:Nat)(FS FQ:Nat→Prop)(st:St):Prop where
 hp:Hp w B R S Q st.sent st.got st.closed
 rg:Rn.Rg w R st.size st.buf
 ps:PF w S FS st.snd
 pq:PF w Q FQ st.rcv
 fb:F B
 fr:F R
 fs:∀k,FS k→F k
 fq:∀k,FQ k→F k
 nsb:¬FS B
 nsr:¬FS R
 nqb:¬FQ B
 nqr:¬FQ R
 sq:∀k,FS k→¬FQ k
 bd:Bd F w
def Pp(w:World)(B:Nat)(F:Nat→Prop)(st:St):Prop:=∃R S Q FS FQ,PO w B F R S Q FS FQ st
theorem PO.pp{w:World}{B:Nat}{F:Nat→Prop}{R S Q:Nat}{FS FQ:Nat→Prop}{st:St}(h:PO w B F R S Q FS FQ st):Pp w B F st:=⟨R,S,Q,FS,FQ,h⟩
theorem Pp.bd{w:World}{B:Nat}{F:Nat→Prop}{st:St}(h:Pp w B F st):Bd F w:=by
 obtain⟨R,S,Q,FS,FQ,h⟩:=h
 exact h.bd
theorem Pp.own{w:World}{B:Nat}{F:Nat→Prop}{st:St}(h:Pp w B F st):F B:=by
 obtain⟨R,S,Q,FS,FQ,h⟩:=h
 exact h.fb
theorem Pp.lt{w:World}{B:Nat}{F:Nat→Prop}{st:St}(h:Pp w B F st):B<w.heap.size:=h.bd B h.own
theorem Rg.sm{w w':World}{R s:Nat}{l:List Int}(h:Rn.Rg w R s l)(e:w'.heap[R]? =w.heap[R]?):Rn.Rg w' R s l:=by
 obtain⟨v,f,h1,h2,h3,h4,h5⟩:=h
 exact⟨v,f,h1,h2,h3,h4,e.trans h5⟩
theorem PO.sm{w w':World}{B:Nat}{F:Nat→Prop}{R S Q:Nat}{FS FQ:Nat→Prop}{st:St}(h:PO w B F R S Q FS FQ st)(s:Sm F w w'):PO w' B F R S Q FS FQ st:=
 ⟨s.heap h.fb h.hp,Rg.sm h.rg (s R h.fr),h.ps.sm (s.sub h.fs),h.pq.sm (s.sub h.fq),h.fb,h.fr,h.fs,h.fq,h.nsb,h.nsr,h.nqb,h.nqr,h.sq,h.bd.sm s⟩
theorem PO.below{w w':World}{B:Nat}{F:Nat→Prop}{R S Q:Nat}{FS FQ:Nat→Prop}{st:St}(h:PO w B F R S Q FS FQ st)(hb:Below w.heap.size w w'):PO w' B F R S Q FS FQ st:=h.sm (Sm.below hb h.bd)
theorem Pp.sm{w w':World}{B:Nat}{F:Nat→Prop}{st:St}(h:Pp w B F st)(s:Sm F w w'):Pp w' B F st:=by
 obtain⟨R,S,Q,FS,FQ,h⟩:=h
 exact (h.sm s).pp
theorem Pp.below{w w':World}{B:Nat}{F:Nat→Prop}{st:St}(h:Pp w B F st)(hb:Below w.heap.size w w'):Pp w' B F st:=h.sm (Sm.below hb h.bd)
theorem PO.rb{w:World}{B:Nat}{F:Nat→Prop}{R S Q:Nat}{FS FQ:Nat→Prop}{st:St}(h:PO w B F R S Q FS FQ st):B≠R:=by
 intro e
 obtain⟨v,f,h1,h2,h3,h4,h5⟩:=h.rg
 have:=h.hp
 unfold Hp at this
 rw[e,h5] at this
 cases this
theorem PO.rcv{w w':World}{B:Nat}{F:Nat→Prop}{R S Q:Nat}{FS FQ FQ':Nat→Prop}{st:St}(h:PO w B F R S Q FS FQ st)(k:KF FQ w w')(i:Nw FQ' FQ w){l:List Wt}(p:PF w' Q FQ' l):PO w' B (fun x=>F x∨FQ' x) R S Q FS FQ' {st with rcv:=l}∧KF F w w'∧Nw (fun x=>F x∨FQ' x) F w:=by
 refine⟨⟨k.heap h.hp h.nqb,Rg.sm h.rg (k.block R (h.bd R h.fr) h.nqr),h.ps.kf k h.sq,p,.inl h.fb,.inl h.fr,fun x hx=>.inl (h.fs x hx),fun x hx=>.inr hx,h.nsb,h.nsr,i.apart (G:=fun x=>x=B) (fun x e=>by have e':x=B:=e;rw[e'];exact h.bd B h.fb) (fun x e=>by have e':x=B:=e;rw[e'];exact h.nqb) B rfl,i.apart (G:=fun x=>x=R) (fun x e=>by have e':x=R:=e;rw[e'];exact h.bd R h.fr) (fun x e=>by have e':x=R:=e;rw[e'];exact h.nqr) R rfl,i.apart (h.ps.bd) h.sq,fun x hx=>?_⟩,k.mono h.fq,fun x hx=>?_⟩
 ·rcases hx with q|q
  ·exact h.bd.mono k.size x q
  ·exact p.bd x q
 ·rcases hx with q|q
  ·exact .inl q
  ·exact (i x q).imp (h.fq x) id
theorem PO.snd{w w':World}{B:Nat}{F:Nat→Prop}{R S Q:Nat}{FS FQ FS':Nat→Prop}{st:St}(h:PO w B F R S Q FS FQ st)(k:KF FS w w')(i:Nw FS' FS w){l:List Wt}(p:PF w' S FS' l):PO w' B (fun x=>F x∨FS' x) R S Q FS' FQ {st with snd:=l}∧KF F w w'∧Nw (fun x=>F x∨FS' x) F w:=by
 refine⟨⟨k.heap h.hp h.nsb,Rg.sm h.rg (k.block R (h.bd R h.fr) h.nsr),p,h.pq.kf k (fun x hx hs=>h.sq x hs hx),.inl h.fb,.inl h.fr,fun x hx=>.inr hx,fun x hx=>.inl (h.fq x hx),i.apart (G:=fun x=>x=B) (fun x e=>by have e':x=B:=e;rw[e'];exact h.bd B h.fb) (fun x e=>by have e':x=B:=e;rw[e'];exact h.nsb) B rfl,i.apart (G:=fun x=>x=R) (fun x e=>by have e':x=R:=e;rw[e'];exact h.bd R h.fr) (fun x e=>by have e':x=R:=e;rw[e'];exact h.nsr) R rfl,h.nqb,h.nqr,fun x hx hq=>i.apart h.pq.bd (fun y hy hs=>h.sq y hs hy) x hq hx,fun x hx=>?_⟩,k.mono h.fs,fun x hx=>?_⟩
 ·rcases hx with q|q
  ·exact h.bd.mono k.size x q
  ·exact p.bd x q
 ·rcases hx with q|q
  ·exact .inl q
  ·exact (i x q).imp (h.fs x) id
theorem PO.ring{w w':World}{B:Nat}{F:Nat→Prop}{R S Q:Nat}{FS FQ:Nat→Prop}{st:St}(h:PO w B F R S Q FS FQ st)(k:KB R w w'){l:List Int}(p:Rn.Rg w' R st.size l):PO w' B F R S Q FS FQ {st with buf:=l}:=
 ⟨k.heap h.hp h.rb,p,h.ps.sm (fun x hx=>k.block x (h.ps.bd x hx) (fun e=>h.nsr (e ▸ hx))),h.pq.sm (fun x hx=>k.block x (h.pq.bd x hx) (fun e=>h.nqr (e ▸ hx))),h.fb,h.fr,h.fs,h.fq,h.nsb,h.nsr,h.nqb,h.nqr,h.sq,h.bd.mono k.size⟩
theorem PO.field{w:World}{B:Nat}{F:Nat→Prop}{R S Q:Nat}{FS FQ:Nat→Prop}{st st':St}(h:PO w B F R S Q FS FQ st)(i:Nat)(v:Value)(hh:Hp (w.setCell ⟨B,i,none⟩ v) B R S Q st'.sent st'.got st'.closed)(e1:st'.size=st.size)(e2:st'.buf=st.buf)(e3:st'.snd=st.snd)(e4:st'.rcv=st.rcv):PO (w.setCell ⟨B,i,none⟩ v) B F R S Q FS FQ st':=by
 have K:=(KB.refl B w).setCell i v
 refine⟨hh,?_,?_,?_,h.fb,h.fr,h.fs,h.fq,h.nsb,h.nsr,h.nqb,h.nqr,h.sq,h.bd.mono K.size⟩
 ·rw[e1,e2]
  exact Rg.sm h.rg (K.block R (h.bd R h.fr) (Ne.symm h.rb))
 ·rw[e3]
  exact h.ps.sm (fun x hx=>K.block x (h.ps.bd x hx) (fun e=>h.nsb (e ▸ hx)))
 ·rw[e4]
  exact h.pq.sm (fun x hx=>K.block x (h.pq.bd x hx) (fun e=>h.nqb (e ▸ hx)))
theorem PO.setSent{w:World}{B:Nat}{F:Nat→Prop}{R S Q:Nat}{FS FQ:Nat→Prop}{st:St}(h:PO w B F R S Q FS FQ st)(n:Nat)(x:Int)(hx:x=(n:Int)):PO (w.setCell ⟨B,3,none⟩ (.int .i64 x)) B F R S Q FS FQ {st with sent:=n}:=by
 subst hx
 exact h.field 3 _ ((Ba.heap_setCell_same h.hp _).trans rfl) rfl rfl rfl rfl
theorem PO.setGot{w:World}{B:Nat}{F:Nat→Prop}{R S Q:Nat}{FS FQ:Nat→Prop}{st:St}(h:PO w B F R S Q FS FQ st)(n:Nat)(x:Int)(hx:x=(n:Int)):PO (w.setCell ⟨B,4,none⟩ (.int .i64 x)) B F R S Q FS FQ {st with got:=n}:=by
 subst hx
 exact h.field 4 _ ((Ba.heap_setCell_same h.hp _).trans rfl) rfl rfl rfl rfl
structure Gt where
 rd:Bool
 ok:Bool
 wk:Bool
 v:Int
 m:Wt
def gv(g:Gt):Value:=.agg #[.bool g.rd,.bool g.ok,.bool g.wk,.int .i64 g.v,.int .i64 g.m.g,.int .i64 g.m.c,.int .i64 g.m.v]
def gz:Gt:=⟨false,false,false,0,⟨0,0,0⟩⟩
def sendG(st:St):Gt:=
 if st.closed then gz else match st.rcv with
 |y::_=>⟨true,false,true,0,y⟩
 |[]=>if st.buf.length<st.size then⟨true,false,false,0,⟨0,0,0⟩⟩ else gz
def sendE(st:St):Int:=if st.closed then 90 else 0
def sendS(st:St)(x:Int):St:=
 if st.closed then st else match st.rcv with
 |_::t=>{st with rcv:=t,sent:=st.sent+1,got:=st.got+1}
 |[]=>if st.buf.length<st.size then {st with buf:=st.buf++[x],sent:=st.sent+1} else st
def recvG(st:St):Gt:=
 match st.buf,st.snd with
 |[],[]=>⟨st.closed,false,false,0,⟨0,0,0⟩⟩
 |[],y::_=>⟨true,true,true,y.v,y⟩
 |x::_,[]=>⟨true,true,false,x,⟨0,0,0⟩⟩
 |x::_,y::_=>⟨true,true,true,x,y⟩
def recvS(st:St):St:=
 match st.buf,st.snd with
 |[],[]=>st
 |[],_::t=>{st with snd:=t,sent:=st.sent+1,got:=st.got+1}
 |_::b,[]=>{st with buf:=b,got:=st.got+1}
 |_::b,y::t=>{st with buf:=b++[y.v],snd:=t,sent:=st.sent+1,got:=st.got+1}
def room(st:St)(send:Bool):Bool:=if send then decide (st.buf.length<st.size) else decide (0<st.buf.length)
def own(st:St)(send:Bool):List Wt:=if send then st.snd else st.rcv
def rdy(st:St)(send:Bool):Bool:=st.closed||room st send||decide (0<(own st (!send)).length)
def rdyBut(st:St)(send:Bool)(g:Int):Bool:=st.closed||room st send||decide (0<(dr g (own st (!send))).length)
def waitE(st:St)(send:Bool)(x:Wt):Int:=if rdyBut st send x.g=true then 7 else ae (own st send) x
def waitS(st:St)(send:Bool)(x:Wt):St:=
 if rdyBut st send x.g=true then st else if send then {st with snd:=al st.snd x} else {st with rcv:=al st.rcv x}
def closeS(st:St):St:=if st.closed then st else {st with snd:=[],rcv:=[],closed:=true}
def dropS(st:St)(g:Int):St:={st with snd:=dr g st.snd,rcv:=dr g st.rcv}
def dropN(st:St)(g:Int):Int:=((st.snd.length:Int) - ((dr g st.snd).length:Int))+((st.rcv.length:Int) - ((dr g st.rcv).length:Int))
end Pi
namespace Rp
open Ba Pe _root_.Go.Proofs.YtogkjaekfhjelaaGreat.Pi
def ic(l:List Int):List Value:=l.map (Value.int .i64)
theorem ic_app(l m:List Int):ic (l++m)=ic l++ic m:=by simp[ic]
theorem ic_one(l:List Int):∀u∈ic l,u.oneCell'=true:=by
 intro u hu
 obtain⟨z,_,rfl⟩:=List.mem_map.1 hu
 rfl
theorem own_at{w:World}{base:Nat}{v:Value}{l:List Int}(h:w.ownsRow base 3 1 v l.length (ic l)):∃oa c,v=.slice oa l.length c∧At w oa l∧l.length≤c:=by
 rcases h.2 with⟨rfl,h0⟩|⟨g,cap,cur,rfl,_,hg,hc,_,hcs,htk⟩
 ·refine⟨none,0,by rw[h0],?_,by omega⟩
  obtain rfl:=List.eq_nil_of_length_eq_zero h0
  exact At.nil _ _
 ·refine⟨_,cap,rfl,?_,hc⟩
  intro k hk
  refine⟨g,0,rfl,?_⟩
  have q:(ic l)[k]? =some (.int .i64 (nth l k)):=by simp[ic,nth,hk]
  rw[←htk,List.getElem?_take_of_lt (by omega)] at q
  rw[Nat.zero_add,cell_of hg]
  simpa using q
end Rp
namespace Pi
open Ba Pe
theorem hmf:∀(fn:Fn) (first cap:Array Value) (w:World),(Instr.makeFunc fn first cap).run Tryz.prog w=.ok (.func fn first cap) w:=fun _ _ _ _=>rfl
def st0(s:Nat):St:=⟨s,[],[],[],0,0,false⟩
theorem new_ok(s:Nat)(w:World)(h:s≤4):
 Calls Tryz.prog 100 #[.int .i64 (s:Int)] w fun r w'=>∃B F,r=.returned (.tuple #[.pointer (some ⟨B,0,none⟩),.int .i64 0])∧Pp w' B F (st0 s)∧(∀k,F k→w.heap.size≤k)∧Below w.heap.size w w':=by
 go_enter Tryz.func100,Tryz.ntmps100
 go_wp2_with fail
 refine (Rn.new_ok s _ h).mono ?_
 rintro r w1 ⟨rfl,r1,b1⟩
 have R1:=hide r1
 have B1:=hide b1
 clear r1 b1
 go_wp2_with fail
 refine (new_any _).mono ?_
 rintro r w2 ⟨rfl,p2,b2⟩
 have P2:=hide p2
 have B2:=hide b2
 clear p2 b2
 go_wp2_with fail
 refine (new_any _).mono ?_
 rintro r w3 ⟨rfl,p3,b3⟩
 have P3:=hide p3
 have B3:=hide b3
 clear p3 b3
 go_wp2_with fail
 go_ret2
 have z1:=R1.out.lt
 have z2:=P2.out.lt
 have z3:=P3.out.lt
 have b4:=below_alloc w3 (.cells #[.pointer (some ⟨w.heap.size,0,none⟩),.pointer (some ⟨w1.heap.size,0,none⟩),.pointer (some ⟨w2.heap.size,0,none⟩),.int .i64 0,.int .i64 0,.bool false] 209)
 have hs:=World.size_alloc w3 (.cells #[.pointer (some ⟨w.heap.size,0,none⟩),.pointer (some ⟨w1.heap.size,0,none⟩),.pointer (some ⟨w2.heap.size,0,none⟩),.int .i64 0,.int .i64 0,.bool false] 209)
 refine⟨w3.heap.size,fun k=>w.heap.size≤k∧k≤w3.heap.size,rfl,PO.pp (R:=w.heap.size) (S:=w1.heap.size) (Q:=w2.heap.size) (FS:=fun k=>k=w1.heap.size) (FQ:=fun k=>k=w2.heap.size) ⟨heap_new _ _,R1.out.below (btr B2.out (btr B3.out b4)),P2.out.below (btr B3.out b4),P3.out.below b4,?_,?_,?_,?_,?_,?_,?_,?_,?_,?_⟩,fun k hk=>hk.1,btr B1.out (btr B2.out (btr B3.out b4))⟩
 all_goals first
  |(show _∧_;omega)
  |(show ¬_=_;omega)
  |(intro k (hk:k=_);show _∧_;omega)
  |(intro k (hk:k=_);show ¬_=_;omega)
  |(intro k hk;obtain⟨h1,h2⟩:=hk;rw[hs];omega)
theorem len_any(B:Nat)(F:Nat→Prop)(st:St)(w:World)(h:Pp w B F st):
 Calls Tryz.prog 169 #[.pointer (some ⟨B,0,none⟩)] w fun r w'=>r=.returned (.int .i64 (st.buf.length:Int))∧w'=w:=by
 obtain⟨R,S,Q,FS,FQ,h⟩:=h
 have y0:=cell_of h.hp 0
 simp at y0
 have RG:=hide h.rg
 clear h
 go_enter Tryz.func169,Tryz.ntmps169
 go_wp2_with fail
 refine (Rn.len_any R _ _ _ RG.out).mono ?_
 rintro r w1 ⟨rfl,rfl⟩
 go_wp2_with fail
 go_ret
 exact⟨rfl,rfl⟩
theorem cap_any(B:Nat)(F:Nat→Prop)(st:St)(w:World)(h:Pp w B F st):
 Calls Tryz.prog 170 #[.pointer (some ⟨B,0,none⟩)] w fun r w'=>r=.returned (.int .i64 (st.size:Int))∧w'=w:=by
 obtain⟨R,S,Q,FS,FQ,h⟩:=h
 have y0:=cell_of h.hp 0
 simp at y0
 have RG:=hide h.rg
 clear h
 go_enter Tryz.func170,Tryz.ntmps170
 go_wp2_with fail
 refine (Rn.cap_any R _ _ _ RG.out).mono ?_
 rintro r w1 ⟨rfl,rfl⟩
 go_wp2_with fail
 go_ret
 exact⟨rfl,rfl⟩
theorem side_nil(b:Bool)(w:World):
 Calls Tryz.prog 142 #[.pointer none,.bool b] w fun r w'=>r=.returned (.pointer none)∧w'=w:=by
 go_enter Tryz.func142,Tryz.ntmps142
 go_wp2_with fail
 go_ret
 exact⟨rfl,rfl⟩
def sd(S Q:Nat)(b:Bool):Nat:=if b then S else Q
theorem side_c(B S Q:Nat)(b:Bool)(w:World)(h1:w.cell? ⟨B,1,none⟩=some (.pointer (some ⟨S,0,none⟩)))(h2:w.cell? ⟨B,2,none⟩=some (.pointer (some ⟨Q,0,none⟩))):
 Calls Tryz.prog 142 #[.pointer (some ⟨B,0,none⟩),.bool b] w fun r w'=>r=.returned (.pointer (some ⟨sd S Q b,0,none⟩))∧w'=w:=by
 unfold sd
 cases b
 ·simp only[Bool.false_eq_true,if_false]
  go_enter Tryz.func142,Tryz.ntmps142
  go_wp2_with fail
  go_ret
  exact⟨rfl,rfl⟩
 ·simp only[if_true]
  go_enter Tryz.func142,Tryz.ntmps142
  go_wp2_with fail
  go_ret
  exact⟨rfl,rfl⟩
theorem PO.side{w:World}{B:Nat}{F:Nat→Prop}{R S Q:Nat}{FS FQ:Nat→Prop}{st:St}(h:PO w B F R S Q FS FQ st)(b:Bool):
 Calls Tryz.prog 142 #[.pointer (some ⟨B,0,none⟩),.bool b] w fun r w'=>r=.returned (.pointer (some ⟨sd S Q b,0,none⟩))∧w'=w:=
 side_c B S Q b w (cell_of h.hp 1) (cell_of h.hp 2)
theorem PO.pew{w:World}{B:Nat}{F:Nat→Prop}{R S Q:Nat}{FS FQ:Nat→Prop}{st:St}(h:PO w B F R S Q FS FQ st)(b:Bool):Pw w (sd S Q b) (Pi.own st b):=by
 cases b
 ·exact h.pq.pw
 ·exact h.ps.pw
theorem ready1_any(B:Nat)(F:Nat→Prop)(st:St)(b:Bool)(X:Nat)(w:World)(h:Pp w B F st)(hX:w.cell? ⟨X,0,none⟩=some (.pointer (some ⟨B,0,none⟩))):
 Calls Tryz.prog 175 #[.bool b,.pointer (some ⟨X,0,none⟩)] w fun r w'=>r=.returned (.bool (decide (0<(own st b).length)))∧w'=w:=by
 obtain⟨R,S,Q,FS,FQ,h⟩:=h
 have SD:=hide (h.side b)
 have LN:=hide (Pe.len_any (sd S Q b) _ w (h.pew b))
 clear h
 generalize sd S Q b=Y at SD LN
 generalize own st b=L at LN ⊢
 have hd:decide (0<(L.length:Int))=decide (0<L.length):=by simp
 go_enter Tryz.func175,Tryz.ntmps175
 go_wp2_with fail
 refine SD.out.mono ?_
 rintro r w1 ⟨rfl,rfl⟩
 go_wp2_with fail
 refine LN.out.mono ?_
 rintro r w2 ⟨rfl,rfl⟩
 go_wp2_with fail
 go_ret
 exact⟨ret_bool (by first|exact hd|simp),rfl⟩
end Pi
namespace Rp
open Ba Pe _root_.Go.Proofs.YtogkjaekfhjelaaGreat.Pi
theorem info_i:(Tryz.prog.info? 3).map (fun i=>(i.zero,i.size,i.bytes))=some (some (.int .i64 0),1,8):=by kernel_rfl
end Rp
namespace Pi
open Ba Pe
theorem ready_nil(b:Bool)(f:Value)(w:World):
 Calls Tryz.prog 139 #[.pointer none,.bool b,f] w fun r w'=>r=.returned (.bool false)∧w'=w:=by
 go_enter Tryz.func139,Tryz.ntmps139
 go_wp2_with fail
 go_ret
 exact⟨rfl,rfl⟩
theorem ready_g(n:FuncId)(caps:Array Value)(hn:∀(a:Array Value) (u:World),(callFunc n a).run Tryz.prog u=.ok (.enter n a) u)(b:Bool)(B:Nat)(F:Nat→Prop)(st:St)(send:Bool)(w:World)(h:Pp w B F st)
 (CL:Calls Tryz.prog n (#[.bool (!send)]++caps) w fun r w'=>r=.returned (.bool b)∧Below w.heap.size w w'):
 Calls Tryz.prog 139 #[.pointer (some ⟨B,0,none⟩),.bool send,.func (.func n) #[] caps] w fun r w'=>r=.returned (.bool (st.closed||room st send||b))∧Below w.heap.size w w':=by
 have PP:=hide h
 have LN:=hide (len_any B F st w h)
 have CP:=hide (cap_any B F st w h)
 have CC:=hide CL
 obtain⟨R,S,Q,FS,FQ,h⟩:=h
 have y5:=cell_of h.hp 5
 simp at y5
 clear h CL
 have hd0:decide (0<(st.buf.length:Int))=decide (0<st.buf.length):=by simp
 have hd1:decide ((st.buf.length:Int)<(st.size:Int))=decide (st.buf.length<st.size):=by simp
 unfold room
 cases send
 ·simp only[Bool.false_eq_true,if_false]
  cases hc:st.closed
  ·cases he:decide (0<st.buf.length)
   ·rw[he] at hd0
    rw[hc] at y5
    go_enter Tryz.func139,Tryz.ntmps139
    go_wp2_with fail
    refine LN.out.mono ?_
    rintro r w1 ⟨rfl,rfl⟩
    go_wp2_with fail
    refine CC.out.mono ?_
    rintro r w2 ⟨rfl,b2⟩
    have B2:=hide b2
    clear b2
    go_wp2_with fail
    go_ret
    exact⟨ret_bool (by simp),B2.out⟩
   ·rw[he] at hd0
    rw[hc] at y5
    go_enter Tryz.func139,Tryz.ntmps139
    go_wp2_with fail
    refine LN.out.mono ?_
    rintro r w1 ⟨rfl,rfl⟩
    go_wp2_with fail
    go_ret
    exact⟨ret_bool (by simp),Below.refl _ _⟩
  ·rw[hc] at y5
   go_enter Tryz.func139,Tryz.ntmps139
   go_wp2_with fail
   refine LN.out.mono ?_
   rintro r w1 ⟨rfl,rfl⟩
   go_wp2_with fail
   go_ret
   exact⟨ret_bool (by simp),Below.refl _ _⟩
 ·simp only[if_true]
  cases hc:st.closed
  ·cases he:decide (st.buf.length<st.size)
   ·rw[he] at hd1
    rw[hc] at y5
    go_enter Tryz.func139,Tryz.ntmps139
    go_wp2_with fail
    refine LN.out.mono ?_
    rintro r w1 ⟨rfl,rfl⟩
    go_wp2_with fail
    refine LN.out.mono ?_
    rintro r w1 ⟨rfl,rfl⟩
    go_wp2_with fail
    refine CP.out.mono ?_
    rintro r w1 ⟨rfl,rfl⟩
    go_wp2_with fail
    refine CC.out.mono ?_
    rintro r w2 ⟨rfl,b2⟩
    have B2:=hide b2
    clear b2
    go_wp2_with fail
    go_ret
    exact⟨ret_bool (by simp),B2.out⟩
   ·rw[he] at hd1
    rw[hc] at y5
    go_enter Tryz.func139,Tryz.ntmps139
    go_wp2_with fail
    refine LN.out.mono ?_
    rintro r w1 ⟨rfl,rfl⟩
    go_wp2_with fail
    refine LN.out.mono ?_
    rintro r w1 ⟨rfl,rfl⟩
    go_wp2_with fail
    refine CP.out.mono ?_
    rintro r w1 ⟨rfl,rfl⟩
    go_wp2_with fail
    go_ret
    exact⟨ret_bool (by simp),Below.refl _ _⟩
  ·rw[hc] at y5
   go_enter Tryz.func139,Tryz.ntmps139
   go_wp2_with fail
   refine LN.out.mono ?_
   rintro r w1 ⟨rfl,rfl⟩
   go_wp2_with fail
   refine LN.out.mono ?_
   rintro r w1 ⟨rfl,rfl⟩
   go_wp2_with fail
   refine CP.out.mono ?_
   rintro r w1 ⟨rfl,rfl⟩
   go_wp2_with fail
   go_ret
   exact⟨ret_bool (by simp),Below.refl _ _⟩
theorem Ready_nil(b:Bool)(w:World):
 Calls Tryz.prog 150 #[.pointer none,.bool b] w fun r w'=>r=.returned (.bool false)∧Below w.heap.size w w':=by
 have hm:=hmf
 go_enter Tryz.func150,Tryz.ntmps150
 go_wp2_with fail
 refine (ready_nil b _ _).mono ?_
 rintro r w1 ⟨rfl,rfl⟩
 go_wp2_with fail
 go_ret
 exact⟨rfl,below_alloc _ _⟩
set_option maxRecDepth 100000 in
theorem Ready_any(B:Nat)(F:Nat→Prop)(st:St)(b:Bool)(w:World)(h:Pp w B F st):
 Calls Tryz.prog 150 #[.pointer (some ⟨B,0,none⟩),.bool b] w fun r w'=>r=.returned (.bool (rdy st b))∧Below w.heap.size w w':=by
 have hm:=hmf
 have BA:=hide (below_alloc w (.cells #[.pointer (some ⟨B,0,none⟩)] 160))
 have PA:=hide (h.below BA.out)
 have R1:=hide (ready1_any B F st (!b) w.heap.size _ PA.out (cell_of (heap_new _ _) 0))
 have R2:=hide (ready_g 175 #[.pointer (some ⟨w.heap.size,0,none⟩)] (fun _ _=>by rfl) (decide (0<(own st (!b)).length)) B F st b _ PA.out (R1.out.mono (by rintro r w1 ⟨rfl,rfl⟩;exact⟨rfl,Below.refl _ _⟩)))
 clear h R1
 unfold rdy
 generalize (st.closed||room st b||decide (0<(own st (!b)).length))=q at R2 ⊢
 go_enter Tryz.func150,Tryz.ntmps150
 go_wp2_with fail
 refine R2.out.mono ?_
 rintro r w1 ⟨rfl,b1⟩
 have B1:=hide (btr BA.out b1)
 clear b1
 go_wp2_with fail
 go_ret
 exact⟨rfl,B1.out⟩
end Pi
namespace Pi
open Ba Pe
theorem size_got:(Tryz.prog.info? 171).map (·.size)=some 7:=by kernel_rfl
theorem loadVar_got{w:World}{b:Nat}{c:Array Value}{t:TypeId}(h:w.heap[b]? =some (.cells c t (0,0)))(hc:c.size=7):(loadVar 171 ⟨b,0,none⟩).run Tryz.prog w=.ok (.agg c) w:=
 run_loadVar_row w b t _ _ _ _ h Tryz.underlying171 rfl (by rw[size_got,hc])
theorem got_set{w:World}{b:Nat}{x0 x1 x2 x3 x4 x5 x6:Value}{t:TypeId}(h:w.heap[b]? =some (.cells #[x0,x1,x2,x3,x4,x5,x6] t (0,0)))(u0 u1 u2 u3 u4 u5 u6:Value):(((((((w.setCell ⟨b,0,none⟩ u0).setCell ⟨b,1,none⟩ u1).setCell ⟨b,2,none⟩ u2).setCell ⟨b,3,none⟩ u3).setCell ⟨b,4,none⟩ u4).setCell ⟨b,5,none⟩ u5).setCell ⟨b,6,none⟩ u6).heap[b]? =some (.cells #[u0,u1,u2,u3,u4,u5,u6] t (0,0)):=by
 rw[Ba.heap_setCell_same (Ba.heap_setCell_same (Ba.heap_setCell_same (Ba.heap_setCell_same (Ba.heap_setCell_same (Ba.heap_setCell_same (Ba.heap_setCell_same h u0) u1) u2) u3) u4) u5) u6]
 rfl
theorem fin7{w A:World}{B Z:Nat}{F F':Nat→Prop}{st:St}(k:KF F w A)(i:Nw F' F w)(p:Pp A B F' st)(hz:w.heap.size≤Z)(hn:¬F' Z)(u0 u1 u2 u3 u4 u5 u6:Value):
 KF F w (((((((A.setCell ⟨Z,0,none⟩ u0).setCell ⟨Z,1,none⟩ u1).setCell ⟨Z,2,none⟩ u2).setCell ⟨Z,3,none⟩ u3).setCell ⟨Z,4,none⟩ u4).setCell ⟨Z,5,none⟩ u5).setCell ⟨Z,6,none⟩ u6)∧∃F',Nw F' F w∧Pp (((((((A.setCell ⟨Z,0,none⟩ u0).setCell ⟨Z,1,none⟩ u1).setCell ⟨Z,2,none⟩ u2).setCell ⟨Z,3,none⟩ u3).setCell ⟨Z,4,none⟩ u4).setCell ⟨Z,5,none⟩ u5).setCell ⟨Z,6,none⟩ u6) B F' st:=by
 have K:=(((((((KB.refl Z A).setCell 0 u0).setCell 1 u1).setCell 2 u2).setCell 3 u3).setCell 4 u4).setCell 5 u5).setCell 6 u6
 exact⟨((((((k.setNew hz 0 u0).setNew hz 1 u1).setNew hz 2 u2).setNew hz 3 u3).setNew hz 4 u4).setNew hz 5 u5).setNew hz 6 u6,F',i,p.sm fun x hx=>K.block x (p.bd x hx) (fun e=>hn (e ▸ hx))⟩
theorem send_nil(x:Int)(w:World):
 Calls Tryz.prog 166 #[.pointer none,.int .i64 x] w fun r w'=>r=.returned (.tuple #[gv gz,.int .i64 0])∧Below w.heap.size w w':=by
 go_enter Tryz.func166,Tryz.ntmps166
 go_wp2_with fail
 first
  |exact bodyPost_ret (results_row2 Tryz.results166 _ _ _ _ _ rfl rfl (loadVar_got (heap_new _ _) rfl)) rfl ⟨rfl,below_alloc _ _⟩
  |exact bodyPost_ret (results_row2 Tryz.results166 _ _ _ _ _ rfl rfl (loadVar_got (got_set (heap_new _ _) _ _ _ _ _ _ _) rfl)) rfl ⟨rfl,(((((((below_alloc _ _).setCell (Nat.le_refl _) _).setCell (Nat.le_refl _) _).setCell (Nat.le_refl _) _).setCell (Nat.le_refl _) _).setCell (Nat.le_refl _) _).setCell (Nat.le_refl _) _).setCell (Nat.le_refl _) _⟩
theorem send_closed(B:Nat)(F:Nat→Prop)(st:St)(x:Int)(w:World)(h:Pp w B F st)(hc:st.closed=true):
 Calls Tryz.prog 166 #[.pointer (some ⟨B,0,none⟩),.int .i64 x] w fun r w'=>r=.returned (.tuple #[gv gz,.int .i64 90])∧KF F w w'∧∃F',Nw F' F w∧Pp w' B F' st:=by
 have hB:=h.lt
 have P1:=hide (h.below (below_alloc w (.cells #[.bool false,.bool false,.bool false,.int .i64 0,.int .i64 0,.int .i64 0,.int .i64 0] 171)))
 have Z1:=hide (heap_new w (.cells #[.bool false,.bool false,.bool false,.int .i64 0,.int .i64 0,.int .i64 0,.int .i64 0] 171))
 have NF:Hid (¬F w.heap.size):=fun e=>Nat.lt_irrefl _ (h.bd _ e)
 have y5:(w.alloc (.cells #[.bool false,.bool false,.bool false,.int .i64 0,.int .i64 0,.int .i64 0,.int .i64 0] 171)).cell? ⟨B,5,none⟩=some (.bool true):=by
  obtain⟨R,S,Q,FS,FQ,h'⟩:=P1.out
  have:=cell_of h'.hp 5
  rw[hc] at this
  exact this
 clear h hc
 go_enter Tryz.func166,Tryz.ntmps166
 go_wp2_with fail
 first
  |exact bodyPost_ret (results_row2 Tryz.results166 _ _ _ _ _ rfl rfl (loadVar_got Z1.out rfl)) rfl ⟨rfl,KF.of (below_alloc _ _),F,Nw.refl _ _,P1.out⟩
  |exact bodyPost_ret (results_row2 Tryz.results166 _ _ _ _ _ rfl rfl (loadVar_got (got_set Z1.out _ _ _ _ _ _ _) rfl)) rfl ⟨rfl,fin7 (KF.of (below_alloc _ _)) (Nw.refl _ _) P1.out (Nat.le_refl _) NF.out _ _ _ _ _ _ _⟩
end Pi
namespace Rp
open Ba Pe _root_.Go.Proofs.YtogkjaekfhjelaaGreat.Pi
end Rp
end Go.Proofs.YtogkjaekfhjelaaGreat
