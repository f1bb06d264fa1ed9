import Derived.Test.YtogkjaekfhjelaaGreatZjSg1
import Derived.Test.YtogkjaekfhjelaaGreatZjSg7
import Derived.ScopeJumps
import Derived.Laws.CopyRow
import Derived.Laws.IdiomCopy
set_option maxHeartbeats 12800000
namespace Go.Proofs.YtogkjaekfhjelaaGreat
open Go.ChangeShapes Go.WideShapes Go.ChangeAt Go.RowKit
namespace En
open Ba Re
theorem spn_len(e:Ev):(spn e).length=10:=by
 unfold spn
 repeat' split
 all_goals rfl
def fl(e:Ev):List Int:=[e.g,e.c,e.a,e.v,e.m]
def okA(e:Ev)(j:Nat):Bool:=inS (nth (fl e) j) (nth (spn e) (j*2)) (nth (spn e) (j*2+1))
def okF(e:Ev):Bool:=(List.range 5).all (okA e)
def chk(e:Ev):Int:=if e.k<1∨13<e.k then 1 else if (ff e&&okF e)=true then 0 else 4
theorem okF_yes{e:Ev}(h:∀j,j<5→okA e j=true):okF e=true:=by
 unfold okF
 rw[List.all_eq_true]
 intro j hj
 exact h j (List.mem_range.1 hj)
theorem okF_no{e:Ev}{j:Nat}(hj:j<5)(h:okA e j=false):okF e=false:=by
 unfold okF
 rw[List.all_eq_false]
 exact⟨j,List.mem_range.2 hj,by rw[h];decide⟩
theorem okF_at{e:Ev}(h:okF e=true)(j:Nat)(hj:j<5):okA e j=true:=by
 unfold okF at h
 rw[List.all_eq_true] at h
 exact h j (List.mem_range.2 hj)
set_option maxRecDepth 100000 in
theorem check_any(e:Ev)(w:World):
 Calls Tryz.prog 114 #[evv e] w fun r w'=>r=.returned (.int .i64 (chk e))∧Below w.heap.size w w':=by
 have FF:=hide fun u=>flagsFit_any e u
 have SP:=hide fun u (h1:1≤e.k) (h2:e.k≤13)=>spans_any e u h1 h2
 have CK:Hid (chk e=if e.k<1∨13<e.k then 1 else if (ff e&&okF e)=true then 0 else 4):=rfl
 have EN:=hide (show EAt (w.alloc (.cells (evc e) 40)) w.heap.size e from heap_new _ _)
 have FI:=hide fun u (h:EAt u w.heap.size e)=>fields_any w.heap.size e u h
 have BA:=hide (below_alloc w (.cells (evc e) 40))
 have YES:Hid ((∀j,j<5→okA e j=true)→okF e=true):=okF_yes
 have NO:Hid (∀j,j<5→okA e j=false→okF e=false):=fun _ h1 h2=>okF_no h1 h2
 have OA:Hid (∀j,okA e j=inS (nth (fl e) j) (nth (spn e) (j*2)) (nth (spn e) (j*2+1))):=fun _=>rfl
 have SL:=hide (spn_len e)
 generalize chk e=ck at CK ⊢
 generalize ff e=f0 at FF CK
 generalize okF e=o0 at CK YES NO
 generalize okA e=oA at YES NO OA
 generalize spn e=sp at SP OA SL
 have hE:=hide (show evc e=#[.int .i64 e.k,.int .i64 e.g,.int .i64 e.c,.int .i64 e.a,.int .i64 e.v,.int .i64 e.m,.bool e.s,.bool e.o] from rfl)
 obtain⟨k,g,c,a,v,m,s,o⟩:=e
 simp only at CK SP hE
 unfold evv evc at FF SP ⊢
 simp only[evc] at BA
 have EN':Hid ((w.alloc (.cells #[.int .i64 k,.int .i64 g,.int .i64 c,.int .i64 a,.int .i64 v,.int .i64 m,.bool s,.bool o] 40)).heap[w.heap.size]? =some (.cells #[.int .i64 k,.int .i64 g,.int .i64 c,.int .i64 a,.int .i64 v,.int .i64 m,.bool s,.bool o] 40)):=EN.out
 simp only[fl] at OA
 by_cases hk:k<1∨13<k
 ·rw[if_pos hk] at CK
  obtain rfl:=CK.out
  by_cases h1:k<1
  ·have d1:decide (k<1)=true:=decide_eq_true h1
   clear hk CK
   go_enter Tryz.func114,Tryz.ntmps114
   go_wp2_with fail
   go_ret
   exact⟨rfl,BA.out⟩
  ·have d1:decide (k<1)=false:=decide_eq_false h1
   have d2:decide (13<k)=true:=decide_eq_true (by omega)
   clear hk CK
   go_enter Tryz.func114,Tryz.ntmps114
   go_wp2_with fail
   go_ret
   exact⟨rfl,BA.out⟩
 rw[if_neg hk] at CK
 have d1:decide (k<1)=false:=decide_eq_false (by omega)
 have d2:decide (13<k)=false:=decide_eq_false (by omega)
 have SP2:=hide fun u=>SP.out u (by omega) (by omega)
 clear hk SP
 cases f0
 ·simp only[Bool.false_and,Bool.false_eq_true,if_false] at CK
  obtain rfl:=CK.out
  clear CK
  go_enter Tryz.func114,Tryz.ntmps114
  go_wp2_with fail
  refine (FF.out _).mono ?_
  rintro r w1 ⟨rfl,b1⟩
  have B1:=hide (btr BA.out b1)
  clear b1
  go_wp2_with fail
  go_ret
  exact⟨rfl,B1.out⟩
 simp only[Bool.true_and] at CK
 go_enter Tryz.func114,Tryz.ntmps114
 go_wp2_with fail
 refine (FF.out _).mono ?_
 rintro r w1 ⟨rfl,b1⟩
 have B1:=hide (btr BA.out b1)
 have E1:=hide (heap_below EN'.out b1)
 clear b1 BA EN EN'
 generalize hN:w.heap.size=N at E1 FI ⊢
 have HN:=hide hN
 clear hN
 have y0:w1.cell? ⟨N,0,none⟩=some (.int .i64 k):=cell_of E1.out 0
 have y1:w1.cell? ⟨N,1,none⟩=some (.int .i64 g):=cell_of E1.out 1
 have y2:w1.cell? ⟨N,2,none⟩=some (.int .i64 c):=cell_of E1.out 2
 have y3:w1.cell? ⟨N,3,none⟩=some (.int .i64 a):=cell_of E1.out 3
 have y4:w1.cell? ⟨N,4,none⟩=some (.int .i64 v):=cell_of E1.out 4
 have y5:w1.cell? ⟨N,5,none⟩=some (.int .i64 m):=cell_of E1.out 5
 have y6:w1.cell? ⟨N,6,none⟩=some (.bool s):=cell_of E1.out 6
 have y7:w1.cell? ⟨N,7,none⟩=some (.bool o):=cell_of E1.out 7
 go_wp2_with fail
 refine (SP2.out _).mono ?_
 rintro r w2 ⟨rfl,b2⟩
 have B2:=hide (btr B1.out b2)
 have E2:=hide (heap_below E1.out b2)
 clear b2 B1 E1 y0 y1 y2 y3 y4 y5 y6 y7 SP2 FF
 obtain⟨p0,p1,p2,p3,p4,p5,p6,p7,p8,p9,rfl⟩:∃p0 p1 p2 p3 p4 p5 p6 p7 p8 p9,sp=[p0,p1,p2,p3,p4,p5,p6,p7,p8,p9]:=by
  have h:=SL.out
  match sp,h with
  |[p0,p1,p2,p3,p4,p5,p6,p7,p8,p9],_=>exact⟨p0,p1,p2,p3,p4,p5,p6,p7,p8,p9,rfl⟩
 have b3:=below_alloc w2 (.cells (row [p0,p1,p2,p3,p4,p5,p6,p7,p8,p9]) 229)
 have R3:=hide (heap_new w2 (.cells (row [p0,p1,p2,p3,p4,p5,p6,p7,p8,p9]) 229))
 have B3:=hide (btr B2.out b3)
 have E3:=hide (heap_below E2.out b3)
 clear b3 B2 E2
 simp only[row,List.map_cons,List.map_nil] at R3 B3 E3 ⊢
 go_wp2_with fail
 generalize w2.alloc (.cells #[.int .i64 p0,.int .i64 p1,.int .i64 p2,.int .i64 p3,.int .i64 p4,.int .i64 p5,.int .i64 p6,.int .i64 p7,.int .i64 p8,.int .i64 p9] 229)=W3 at R3 B3 E3 ⊢
 generalize w2.heap.size=R at R3 ⊢
 refine (FI.out _ E3.out).mono ?_
 rintro r w4 ⟨rfl,b4⟩
 have B4:=hide (btr B3.out b4)
 have E4:=hide (heap_below E3.out b4)
 have R4:=hide (heap_below R3.out b4)
 clear b4 B3 E3 R3 FI
 have hNR:N<w4.heap.size:=Ba.heap_lt E4.out
 go_wp2_with fail
 go_loopw [20] (fun i wr=>∃j:Nat,j≤5∧i=.int .i64 j∧(∀q,q<j→oA q=true)∧Below w4.heap.size w4 wr) (fun i _=>5 - (intOf i).toNat)
 case atStart=>exact⟨0,Nat.zero_le _,rfl,fun q hq=>absurd hq (Nat.not_lt_zero _),Below.refl _ _⟩
 case round=>
  obtain⟨j,hj,rfl,hall,b5⟩:=hrel
  have HALL:=hide hall
  have B5:=hide b5
  have E5:=hide (heap_below E4.out b5)
  have R5:=hide (heap_below R4.out b5)
  clear hall b5
  have hjj:j=0∨j=1∨j=2∨j=3∨j=4∨j=5:=by omega
  rcases hjj with rfl|rfl|rfl|rfl|rfl|rfl
  ·have r0:wr.cell? ⟨R,0,none⟩=some (.int .i64 p0):=cell_of R5.out 0
   have r1:wr.cell? ⟨R,1,none⟩=some (.int .i64 p1):=cell_of R5.out 1
   have hix:∀u,(Instr.index 232 (.agg #[.pointer (some ⟨N,1,none⟩),.pointer (some ⟨N,2,none⟩),.pointer (some ⟨N,3,none⟩),.pointer (some ⟨N,4,none⟩),.pointer (some ⟨N,5,none⟩)]) (.int .i64 0)).run Tryz.prog u=.ok (.pointer (some ⟨N,1,none⟩)) u:=fun _=>by kernel_rfl
   have x0:wr.cell? ⟨N,1,none⟩=some (.int .i64 g):=cell_of E5.out 1
   have O1:Hid (oA 0=inS g p0 p1):=OA.out 0
   generalize hO:oA 0=ob at O1
   have HO:=hide hO
   clear hO
   cases ob
   ·obtain rfl:=(NO.out 0 (by decide) HO.out)
    obtain rfl:=CK.out
    go_wp2_with fail
    go_region_held3 (fun w'=>w'.cell? ⟨R,0,none⟩=some (.int .i64 p0)∧w'.cell? ⟨R,1,none⟩=some (.int .i64 p1)∧w'.cell? ⟨N,1,none⟩=some (.int .i64 g))
     (first
       |(go_split_ands;refine⟨?_,?_,?_⟩<;>(with_reducible (refine cellB ?_ c6))<;>with_reducible assumption)
       |go_keep)
     ((go_at_call 160;refine (has_any p0 p1 g _).mono ?_;rw[←O1.out];rintro r w6 ⟨rfl,c6⟩))
    have B6:=hide (btr B4.out (btr B5.out (btr (bdrew1 _) c6)))
    clear c6
    go_wp2_with fail
    go_ret
    exact⟨rfl,B6.out⟩
   ·skip
    go_wp2_with fail
    go_region_held3 (fun w'=>w'.cell? ⟨R,0,none⟩=some (.int .i64 p0)∧w'.cell? ⟨R,1,none⟩=some (.int .i64 p1)∧w'.cell? ⟨N,1,none⟩=some (.int .i64 g))
     (first
       |(go_split_ands;refine⟨?_,?_,?_⟩<;>(with_reducible (refine cellB ?_ c6))<;>with_reducible assumption)
       |go_keep)
     ((go_at_call 160;refine (has_any p0 p1 g _).mono ?_;rw[←O1.out];rintro r w6 ⟨rfl,c6⟩))
    have B6:=hide (btr B5.out (btr (bdrew1 _) c6))
    clear c6
    go_wp2_with fail
    go_roundw
    case rel=>exact⟨1,by decide,by go_num,fun q hq=>by
     by_cases e:q=0
     ·subst e;exact HO.out
     ·exact HALL.out q (by omega),B6.out⟩
    case measure=>simp[intOf]
  ·have r0:wr.cell? ⟨R,2,none⟩=some (.int .i64 p2):=cell_of R5.out 2
   have r1:wr.cell? ⟨R,3,none⟩=some (.int .i64 p3):=cell_of R5.out 3
   have hix:∀u,(Instr.index 232 (.agg #[.pointer (some ⟨N,1,none⟩),.pointer (some ⟨N,2,none⟩),.pointer (some ⟨N,3,none⟩),.pointer (some ⟨N,4,none⟩),.pointer (some ⟨N,5,none⟩)]) (.int .i64 1)).run Tryz.prog u=.ok (.pointer (some ⟨N,2,none⟩)) u:=fun _=>by kernel_rfl
   have x0:wr.cell? ⟨N,2,none⟩=some (.int .i64 c):=cell_of E5.out 2
   have O1:Hid (oA 1=inS c p2 p3):=OA.out 1
   generalize hO:oA 1=ob at O1
   have HO:=hide hO
   clear hO
   cases ob
   ·obtain rfl:=(NO.out 1 (by decide) HO.out)
    obtain rfl:=CK.out
    go_wp2_with fail
    go_region_held3 (fun w'=>w'.cell? ⟨R,2,none⟩=some (.int .i64 p2)∧w'.cell? ⟨R,3,none⟩=some (.int .i64 p3)∧w'.cell? ⟨N,2,none⟩=some (.int .i64 c))
     (first
       |(go_split_ands;refine⟨?_,?_,?_⟩<;>(with_reducible (refine cellB ?_ c6))<;>with_reducible assumption)
       |go_keep)
     ((go_at_call 160;refine (has_any p2 p3 c _).mono ?_;rw[←O1.out];rintro r w6 ⟨rfl,c6⟩))
    have B6:=hide (btr B4.out (btr B5.out (btr (bdrew1 _) c6)))
    clear c6
    go_wp2_with fail
    go_ret
    exact⟨rfl,B6.out⟩
   ·skip
    go_wp2_with fail
    go_region_held3 (fun w'=>w'.cell? ⟨R,2,none⟩=some (.int .i64 p2)∧w'.cell? ⟨R,3,none⟩=some (.int .i64 p3)∧w'.cell? ⟨N,2,none⟩=some (.int .i64 c))
     (first
       |(go_split_ands;refine⟨?_,?_,?_⟩<;>(with_reducible (refine cellB ?_ c6))<;>with_reducible assumption)
       |go_keep)
     ((go_at_call 160;refine (has_any p2 p3 c _).mono ?_;rw[←O1.out];rintro r w6 ⟨rfl,c6⟩))
    have B6:=hide (btr B5.out (btr (bdrew1 _) c6))
    clear c6
    go_wp2_with fail
    go_roundw
    case rel=>exact⟨2,by decide,by go_num,fun q hq=>by
     by_cases e:q=1
     ·subst e;exact HO.out
     ·exact HALL.out q (by omega),B6.out⟩
    case measure=>simp[intOf]
  ·have r0:wr.cell? ⟨R,4,none⟩=some (.int .i64 p4):=cell_of R5.out 4
   have r1:wr.cell? ⟨R,5,none⟩=some (.int .i64 p5):=cell_of R5.out 5
   have hix:∀u,(Instr.index 232 (.agg #[.pointer (some ⟨N,1,none⟩),.pointer (some ⟨N,2,none⟩),.pointer (some ⟨N,3,none⟩),.pointer (some ⟨N,4,none⟩),.pointer (some ⟨N,5,none⟩)]) (.int .i64 2)).run Tryz.prog u=.ok (.pointer (some ⟨N,3,none⟩)) u:=fun _=>by kernel_rfl
   have x0:wr.cell? ⟨N,3,none⟩=some (.int .i64 a):=cell_of E5.out 3
   have O1:Hid (oA 2=inS a p4 p5):=OA.out 2
   generalize hO:oA 2=ob at O1
   have HO:=hide hO
   clear hO
   cases ob
   ·obtain rfl:=(NO.out 2 (by decide) HO.out)
    obtain rfl:=CK.out
    go_wp2_with fail
    go_region_held3 (fun w'=>w'.cell? ⟨R,4,none⟩=some (.int .i64 p4)∧w'.cell? ⟨R,5,none⟩=some (.int .i64 p5)∧w'.cell? ⟨N,3,none⟩=some (.int .i64 a))
     (first
       |(go_split_ands;refine⟨?_,?_,?_⟩<;>(with_reducible (refine cellB ?_ c6))<;>with_reducible assumption)
       |go_keep)
     ((go_at_call 160;refine (has_any p4 p5 a _).mono ?_;rw[←O1.out];rintro r w6 ⟨rfl,c6⟩))
    have B6:=hide (btr B4.out (btr B5.out (btr (bdrew1 _) c6)))
    clear c6
    go_wp2_with fail
    go_ret
    exact⟨rfl,B6.out⟩
   ·skip
    go_wp2_with fail
    go_region_held3 (fun w'=>w'.cell? ⟨R,4,none⟩=some (.int .i64 p4)∧w'.cell? ⟨R,5,none⟩=some (.int .i64 p5)∧w'.cell? ⟨N,3,none⟩=some (.int .i64 a))
     (first
       |(go_split_ands;refine⟨?_,?_,?_⟩<;>(with_reducible (refine cellB ?_ c6))<;>with_reducible assumption)
       |go_keep)
     ((go_at_call 160;refine (has_any p4 p5 a _).mono ?_;rw[←O1.out];rintro r w6 ⟨rfl,c6⟩))
    have B6:=hide (btr B5.out (btr (bdrew1 _) c6))
    clear c6
    go_wp2_with fail
    go_roundw
    case rel=>exact⟨3,by decide,by go_num,fun q hq=>by
     by_cases e:q=2
     ·subst e;exact HO.out
     ·exact HALL.out q (by omega),B6.out⟩
    case measure=>simp[intOf]
  ·have r0:wr.cell? ⟨R,6,none⟩=some (.int .i64 p6):=cell_of R5.out 6
   have r1:wr.cell? ⟨R,7,none⟩=some (.int .i64 p7):=cell_of R5.out 7
   have hix:∀u,(Instr.index 232 (.agg #[.pointer (some ⟨N,1,none⟩),.pointer (some ⟨N,2,none⟩),.pointer (some ⟨N,3,none⟩),.pointer (some ⟨N,4,none⟩),.pointer (some ⟨N,5,none⟩)]) (.int .i64 3)).run Tryz.prog u=.ok (.pointer (some ⟨N,4,none⟩)) u:=fun _=>by kernel_rfl
   have x0:wr.cell? ⟨N,4,none⟩=some (.int .i64 v):=cell_of E5.out 4
   have O1:Hid (oA 3=inS v p6 p7):=OA.out 3
   generalize hO:oA 3=ob at O1
   have HO:=hide hO
   clear hO
   cases ob
   ·obtain rfl:=(NO.out 3 (by decide) HO.out)
    obtain rfl:=CK.out
    go_wp2_with fail
    go_region_held3 (fun w'=>w'.cell? ⟨R,6,none⟩=some (.int .i64 p6)∧w'.cell? ⟨R,7,none⟩=some (.int .i64 p7)∧w'.cell? ⟨N,4,none⟩=some (.int .i64 v))
     (first
       |(go_split_ands;refine⟨?_,?_,?_⟩<;>(with_reducible (refine cellB ?_ c6))<;>with_reducible assumption)
       |go_keep)
     ((go_at_call 160;refine (has_any p6 p7 v _).mono ?_;rw[←O1.out];rintro r w6 ⟨rfl,c6⟩))
    have B6:=hide (btr B4.out (btr B5.out (btr (bdrew1 _) c6)))
    clear c6
    go_wp2_with fail
    go_ret
    exact⟨rfl,B6.out⟩
   ·skip
    go_wp2_with fail
    go_region_held3 (fun w'=>w'.cell? ⟨R,6,none⟩=some (.int .i64 p6)∧w'.cell? ⟨R,7,none⟩=some (.int .i64 p7)∧w'.cell? ⟨N,4,none⟩=some (.int .i64 v))
     (first
       |(go_split_ands;refine⟨?_,?_,?_⟩<;>(with_reducible (refine cellB ?_ c6))<;>with_reducible assumption)
       |go_keep)
     ((go_at_call 160;refine (has_any p6 p7 v _).mono ?_;rw[←O1.out];rintro r w6 ⟨rfl,c6⟩))
    have B6:=hide (btr B5.out (btr (bdrew1 _) c6))
    clear c6
    go_wp2_with fail
    go_roundw
    case rel=>exact⟨4,by decide,by go_num,fun q hq=>by
     by_cases e:q=3
     ·subst e;exact HO.out
     ·exact HALL.out q (by omega),B6.out⟩
    case measure=>simp[intOf]
  ·have r0:wr.cell? ⟨R,8,none⟩=some (.int .i64 p8):=cell_of R5.out 8
   have r1:wr.cell? ⟨R,9,none⟩=some (.int .i64 p9):=cell_of R5.out 9
   have hix:∀u,(Instr.index 232 (.agg #[.pointer (some ⟨N,1,none⟩),.pointer (some ⟨N,2,none⟩),.pointer (some ⟨N,3,none⟩),.pointer (some ⟨N,4,none⟩),.pointer (some ⟨N,5,none⟩)]) (.int .i64 4)).run Tryz.prog u=.ok (.pointer (some ⟨N,5,none⟩)) u:=fun _=>by kernel_rfl
   have x0:wr.cell? ⟨N,5,none⟩=some (.int .i64 m):=cell_of E5.out 5
   have O1:Hid (oA 4=inS m p8 p9):=OA.out 4
   generalize hO:oA 4=ob at O1
   have HO:=hide hO
   clear hO
   cases ob
   ·obtain rfl:=(NO.out 4 (by decide) HO.out)
    obtain rfl:=CK.out
    go_wp2_with fail
    go_region_held3 (fun w'=>w'.cell? ⟨R,8,none⟩=some (.int .i64 p8)∧w'.cell? ⟨R,9,none⟩=some (.int .i64 p9)∧w'.cell? ⟨N,5,none⟩=some (.int .i64 m))
     (first
       |(go_split_ands;refine⟨?_,?_,?_⟩<;>(with_reducible (refine cellB ?_ c6))<;>with_reducible assumption)
       |go_keep)
     ((go_at_call 160;refine (has_any p8 p9 m _).mono ?_;rw[←O1.out];rintro r w6 ⟨rfl,c6⟩))
    have B6:=hide (btr B4.out (btr B5.out (btr (bdrew1 _) c6)))
    clear c6
    go_wp2_with fail
    go_ret
    exact⟨rfl,B6.out⟩
   ·skip
    go_wp2_with fail
    go_region_held3 (fun w'=>w'.cell? ⟨R,8,none⟩=some (.int .i64 p8)∧w'.cell? ⟨R,9,none⟩=some (.int .i64 p9)∧w'.cell? ⟨N,5,none⟩=some (.int .i64 m))
     (first
       |(go_split_ands;refine⟨?_,?_,?_⟩<;>(with_reducible (refine cellB ?_ c6))<;>with_reducible assumption)
       |go_keep)
     ((go_at_call 160;refine (has_any p8 p9 m _).mono ?_;rw[←O1.out];rintro r w6 ⟨rfl,c6⟩))
    have B6:=hide (btr B5.out (btr (bdrew1 _) c6))
    clear c6
    go_wp2_with fail
    go_roundw
    case rel=>exact⟨5,by decide,by go_num,fun q hq=>by
     by_cases e:q=4
     ·subst e;exact HO.out
     ·exact HALL.out q (by omega),B6.out⟩
    case measure=>simp[intOf]
  ·obtain rfl:=(YES.out HALL.out)
   obtain rfl:=CK.out
   go_wp2_with fail
   go_ret
   exact⟨rfl,btr B4.out B5.out⟩
end En
end Go.Proofs.YtogkjaekfhjelaaGreat
namespace Go.Proofs.YtogkjaekfhjelaaGreat
namespace Lo
open Ba
theorem okA_of{e:Ev}{a0 b0 a1 b1 a2 b2 a3 b3 a4 b4:Int}(hs:En.spn e=[a0,b0,a1,b1,a2,b2,a3,b3,a4,b4])(h0:a0≤e.g∧e.g≤b0)(h1:a1≤e.c∧e.c≤b1)(h2:a2≤e.a∧e.a≤b2)(h3:a3≤e.v∧e.v≤b3)(h4:a4≤e.m∧e.m≤b4):∀j,j<5→En.okA e j=true:=by
 intro j hj
 unfold En.okA En.inS
 rw[hs]
 rcases (show j=0∨j=1∨j=2∨j=3∨j=4 by omega) with rfl|rfl|rfl|rfl|rfl
 ·simp[nth,En.fl,h0]
 ·simp[nth,En.fl,h1]
 ·simp[nth,En.fl,h2]
 ·simp[nth,En.fl,h3]
 ·simp[nth,En.fl,h4]
theorem chk5{e:Ev}{a0 b0 a1 b1 a2 b2 a3 b3 a4 b4:Int}(hk:1≤e.k∧e.k≤13)(hf:En.ff e=true)(hs:En.spn e=[a0,b0,a1,b1,a2,b2,a3,b3,a4,b4])(h0:a0≤e.g∧e.g≤b0)(h1:a1≤e.c∧e.c≤b1)(h2:a2≤e.a∧e.a≤b2)(h3:a3≤e.v∧e.v≤b3)(h4:a4≤e.m∧e.m≤b4):En.chk e=0:=by
 unfold En.chk
 rw[if_neg (by omega),hf,En.okF_yes (okA_of hs h0 h1 h2 h3 h4)]
 rfl
def gB(g:Int):Prop:=0≤g∧g≤511
def aB(a:Int):Prop:=-1≤a∧a≤3
def vB(v:Int):Prop:=0≤v∧v≤99
theorem m1:(-1:Int)≤-1∧(-1:Int)≤-1:=by decide
theorem m14:(-1:Int)≤-1∧(-1:Int)≤4:=by decide
theorem z0:(0:Int)≤0∧(0:Int)≤0:=by decide
theorem ev_send{g c a v m:Int}(hg:gB g)(hc:gB c)(ha:aB a)(hv:vB v)(hm:-1≤m∧m≤511):En.chk ⟨3,g,c,a,v,m,true,false⟩=0:=
 chk5 (show (1:Int)≤3∧(3:Int)≤13 by decide) rfl rfl hg hc ha hv hm
theorem ev_recv{g c a v m:Int}(hg:gB g)(hc:gB c)(ha:aB a)(hv:vB v)(hm:-1≤m∧m≤511):En.chk ⟨4,g,c,a,v,m,false,true⟩=0:=
 chk5 (show (1:Int)≤4∧(4:Int)≤13 by decide) rfl rfl hg hc ha hv hm
theorem ev_recv0{g c a:Int}(hg:gB g)(hc:gB c)(ha:aB a):En.chk ⟨4,g,c,a,0,-1,false,false⟩=0:=
 chk5 (show (1:Int)≤4∧(4:Int)≤13 by decide) rfl rfl hg hc ha z0 m1
theorem ev_wake{g c a v m:Int}(s:Bool)(hg:gB g)(hc:gB c)(ha:aB a)(hv:vB v)(hm:gB m):En.chk ⟨7,g,c,a,v,m,s,true⟩=0:=by
 cases s<;>exact chk5 (show (1:Int)≤7∧(7:Int)≤13 by decide) rfl rfl hg hc ha hv hm
theorem ev_wake0{g c a m:Int}(hg:gB g)(hc:gB c)(ha:aB a)(hm:gB m):En.chk ⟨7,g,c,a,0,m,false,false⟩=0:=
 chk5 (show (1:Int)≤7∧(7:Int)≤13 by decide) rfl rfl hg hc ha z0 hm
theorem ev_wait{g c v:Int}(s:Bool)(hg:gB g)(hc:-1≤c∧c≤511)(hv:vB v)(h0:s=false→v=0):En.chk ⟨6,g,c,-1,v,-1,s,false⟩=0:=by
 cases s
 ·obtain rfl:=h0 rfl
  exact chk5 (show (1:Int)≤6∧(6:Int)≤13 by decide) rfl rfl hg hc m14 z0 m1
 ·exact chk5 (show (1:Int)≤6∧(6:Int)≤13 by decide) rfl rfl hg hc m14 hv m1
theorem ev_waits{g a:Int}(hg:gB g)(ha:0≤a∧a≤4):En.chk ⟨6,g,-1,a,0,-1,false,false⟩=0:=by
 have h1:(a !=-1)=true:=by
  have:¬a=-1:=by omega
  simp[this]
 have hs:En.spn ⟨6,g,-1,a,0,-1,false,false⟩=[0,511,-1,-1,-1,4,0,0,-1,-1]:=by
  show (if (a !=-1)=true then ([0,511,-1,-1,-1,4,0,0,-1,-1]:List Int) else [0,511,-1,511,-1,4,0,0,-1,-1])=_
  rw[if_pos h1]
 exact chk5 (show (1:Int)≤6∧(6:Int)≤13 by decide) rfl hs hg m1 ⟨by show (-1:Int)≤a;omega,ha.2⟩ z0 m1
theorem ev_spawn{g v m:Int}(hg:gB g)(hv:0≤v∧v≤7)(hm:gB m):En.chk ⟨1,g,-1,-1,v,m,false,false⟩=0:=
 chk5 (show (1:Int)≤1∧(1:Int)≤13 by decide) rfl rfl hg m1 m1 hv hm
theorem ev_make{g c v:Int}(hg:gB g)(hc:gB c)(hv:0≤v∧v≤4):En.chk ⟨2,g,c,-1,v,-1,false,false⟩=0:=
 chk5 (show (1:Int)≤2∧(2:Int)≤13 by decide) rfl rfl hg hc m1 hv m1
theorem ev_close{g c:Int}(hg:gB g)(hc:gB c):En.chk ⟨5,g,c,-1,-1,-1,false,false⟩=0:=
 chk5 (show (1:Int)≤5∧(5:Int)≤13 by decide) rfl rfl hg hc m1 m1 m1
theorem ev_cell{k g v:Int}(hk:k=9∨k=10)(hg:gB g)(hv:0≤v∧v≤7):En.chk ⟨k,g,-1,-1,v,-1,false,false⟩=0:=by
 rcases hk with rfl|rfl
 ·exact chk5 (show (1:Int)≤9∧(9:Int)≤13 by decide) rfl rfl hg m1 m1 hv m1
 ·exact chk5 (show (1:Int)≤10∧(10:Int)≤13 by decide) rfl rfl hg m1 m1 hv m1
theorem ev_bare{k g:Int}(hk:k=8∨k=11∨k=12)(hg:gB g):En.chk (bareE k g)=0:=by
 rcases hk with rfl|rfl|rfl
 ·exact chk5 (show (1:Int)≤8∧(8:Int)≤13 by decide) rfl rfl hg m1 m1 m1 m1
 ·exact chk5 (show (1:Int)≤11∧(11:Int)≤13 by decide) rfl rfl hg m1 m1 m1 m1
 ·exact chk5 (show (1:Int)≤12∧(12:Int)≤13 by decide) rfl rfl hg m1 m1 m1 m1
theorem ev_comp:En.chk (bareE 13 (-1))=0:=chk5 (show (1:Int)≤13∧(13:Int)≤13 by decide) rfl rfl m1 m1 m1 m1 m1
def okW(x:Wt):Prop:=gB x.g∧aB x.c∧vB x.v
structure OkS(st:St):Prop where
 snd:∀x∈st.snd,okW x
 rcv:∀x∈st.rcv,okW x
 buf:∀v∈st.buf,vB v
def OkC(sts:List (Option St)):Prop:=∀(i:Nat) (st:St),sts[i]? =some (some st)→OkS st
theorem OkC.set{sts:List (Option St)}{k:Nat}{v:St}(h:OkC sts)(hv:OkS v):OkC (sts.set k (some v)):=by
 intro i st e
 rw[List.getElem?_set] at e
 split at e
 ·split at e
  ·simp at e
   subst e
   exact hv
  ·cases e
 ·exact h i st e
theorem OkC.nm{sts:List (Option St)}(h:OkC sts){c:Int}{st:St}(e:Fk.nmB sts c=some st):OkS st:=h _ st (Fk.nmB_at e)
theorem dr_mem{g:Int}{l:List Wt}{x:Wt}(h:x∈Pe.dr g l):x∈l:=by
 unfold Pe.dr at h
 exact (List.mem_filter.1 h).1
theorem al_mem2{l:List Wt}{x y:Wt}(h:y∈Pe.al l x):y∈l∨y=x:=by
 unfold Pe.al at h
 split at h
 ·split at h
  ·exact .inl h
  ·simp at h
   rcases h with q|q
   ·exact .inl q
   ·exact .inr q
 ·exact .inl h
theorem OkC.leave{sts:List (Option St)}(h:OkC sts)(g:Int):OkC (Fk.leaveS g sts):=by
 intro i z hz
 unfold Fk.leaveS at hz
 rw[List.getElem?_map] at hz
 cases hx:sts[i]? with
 |none=>rw[hx] at hz;cases hz
 |some o=>
  rw[hx] at hz
  cases o with
  |none=>simp[Fk.dropO] at hz
  |some x=>
   simp[Fk.dropO] at hz
   subst hz
   have q:=h i x hx
   exact⟨fun y hy=>q.snd y (dr_mem hy),fun y hy=>q.rcv y (dr_mem hy),q.buf⟩
theorem OkS.wait{st:St}(h:OkS st)(b:Bool){x:Wt}(hx:okW x):OkS (_root_.Go.Proofs.YtogkjaekfhjelaaGreat.Pi.waitS st b x):=by
 unfold _root_.Go.Proofs.YtogkjaekfhjelaaGreat.Pi.waitS
 split
 ·exact h
 ·split
  ·exact⟨fun y hy=>by rcases al_mem2 hy with q|q;exact h.snd y q;rw[q];exact hx,h.rcv,h.buf⟩
  ·exact⟨h.snd,fun y hy=>by rcases al_mem2 hy with q|q;exact h.rcv y q;rw[q];exact hx,h.buf⟩
theorem OkC.wait{sts:List (Option St)}(h:OkC sts)(c:Ca)(g:Int)(hg:gB g)(hv:vB c.v):OkC (waitN sts c g):=by
 unfold waitN
 split
 ·exact h
 ·rename_i st e
  exact h.set ((h.nm e).wait _ ⟨hg,by show aB (-1);unfold aB;omega,hv⟩)
theorem OkC.pk1{sts:List (Option St)}(h:OkC sts)(g:Int)(p:Nat)(c:Ca)(hg:gB g)(hp:p≤3)(hv:vB c.v):OkC (Fk.pk1 g p c sts):=by
 unfold Fk.pk1
 split
 ·exact h
 ·rename_i st e
  exact h.set ((h.nm e).wait _ ⟨hg,by show aB (p:Int);unfold aB;omega,hv⟩)
theorem OkC.pkS{sts:List (Option St)}(h:OkC sts)(g:Int)(l:List Ca)(hg:gB g)(hl:l.length≤4)(hv:∀c∈l,vB c.v):∀k,OkC (Fk.pkS g l sts k)
 |0=>h
 |k+1=>by
  unfold Fk.pkS
  split
  ·exact OkC.pkS h g l hg hl hv k
  ·rename_i c e
   exact (OkC.pkS h g l hg hl hv k).pk1 _ _ _ hg (by have:=(List.getElem?_eq_some_iff.1 e).1;omega) (hv c (List.mem_of_getElem? e))
theorem OkC.pkA{sts:List (Option St)}(h:OkC sts)(g:Int)(l:List Ca)(hg:gB g)(hl:l.length≤4)(hv:∀c∈l,vB c.v):OkC (Fk.pkA g l sts):=by
 unfold Fk.pkA
 split
 ·exact h
 ·split
  ·exact h
  ·exact h.pkS g l hg hl hv _
theorem OkS.close{st:St}(h:OkS st):OkS (_root_.Go.Proofs.YtogkjaekfhjelaaGreat.Pi.closeS st):=by
 unfold _root_.Go.Proofs.YtogkjaekfhjelaaGreat.Pi.closeS
 split
 ·exact h
 ·exact⟨fun x hx=>by simp at hx,fun x hx=>by simp at hx,h.buf⟩
theorem OkS.new(n:Nat):OkS (_root_.Go.Proofs.YtogkjaekfhjelaaGreat.Pi.st0 n):=⟨fun x hx=>by simp[_root_.Go.Proofs.YtogkjaekfhjelaaGreat.Pi.st0] at hx,fun x hx=>by simp[_root_.Go.Proofs.YtogkjaekfhjelaaGreat.Pi.st0] at hx,fun x hx=>by simp[_root_.Go.Proofs.YtogkjaekfhjelaaGreat.Pi.st0] at hx⟩
end Lo
end Go.Proofs.YtogkjaekfhjelaaGreat
namespace Go.Proofs.YtogkjaekfhjelaaGreat
namespace Lo
open Ba
def inB(c:Int)(e:Ev):Bool:=e.c==c&&(e.k==3||(e.k==7&&e.s))
def outB(c:Int)(e:Ev):Bool:=e.c==c&&((e.k==4&&e.o)||(e.k==7&&(!e.s&&e.o)))
def ins(c:Int)(l:List Ev):List Int:=(l.filter (inB c)).map (·.v)
def outs(c:Int)(l:List Ev):List Int:=(l.filter (outB c)).map (·.v)
theorem ins_app(c:Int)(a b:List Ev):ins c (a++b)=ins c a++ins c b:=by simp[ins]
theorem outs_app(c:Int)(a b:List Ev):outs c (a++b)=outs c a++outs c b:=by simp[outs]
theorem ins_none{c:Int}{l:List Ev}(h:∀e∈l,inB c e=false):ins c l=[]:=by
 unfold ins
 rw[List.filter_eq_nil_iff.2 (fun e he=>by rw[h e he];simp)]
 rfl
theorem outs_none{c:Int}{l:List Ev}(h:∀e∈l,outB c e=false):outs c l=[]:=by
 unfold outs
 rw[List.filter_eq_nil_iff.2 (fun e he=>by rw[h e he];simp)]
 rfl
theorem in_off{c:Int}{e:Ev}(h:e.c≠c):inB c e=false∧outB c e=false:=by simp[inB,outB,h]
def quietE(e:Ev):Bool:=!(e.k==3)&&!(e.k==4&&e.o)&&!(e.k==7&&(e.s||e.o))
theorem quiet_off{e:Ev}(h:quietE e=true)(c:Int):inB c e=false∧outB c e=false:=by
 unfold quietE at h
 unfold inB outB
 cases h3:(e.k==3)<;>cases h4:(e.k==4)<;>cases h7:(e.k==7)<;>cases ho:e.o<;>cases hs:e.s<;>simp[h3,h4,h7,ho,hs] at h ⊢
def J(st:St):Prop:=st.rcv≠[]→st.buf=[]
structure Qt(a b:List (Option St)):Prop where
 len:b.length=a.length
 at_:∀(i:Nat) (y:St),b[i]? =some (some y)→∃x,a[i]? =some (some x)∧y.buf=x.buf∧(J x→J y)
theorem Qt.refl(a:List (Option St)):Qt a a:=⟨rfl,fun _ y h=>⟨y,h,rfl,id⟩⟩
theorem Qt.trans{a b c:List (Option St)}(h:Qt a b)(k:Qt b c):Qt a c:=
 ⟨k.len.trans h.len,fun i z hz=>by
   obtain⟨y,hy,e,j⟩:=k.at_ i z hz
   obtain⟨x,hx,e2,j2⟩:=h.at_ i y hy
   exact⟨x,hx,e.trans e2,fun q=>j (j2 q)⟩⟩
theorem Qt.set{a:List (Option St)}{c:Int}{x y:St}(h:Fk.nmB a c=some x)(e:y.buf=x.buf)(j:J x→J y):Qt a (a.set c.toNat (some y)):=
 ⟨by simp,fun i z hz=>by
   rw[List.getElem?_set] at hz
   split at hz
   ·rename_i e1
    subst e1
    split at hz
    ·simp at hz
     subst hz
     exact⟨x,Fk.nmB_at h,e,j⟩
    ·cases hz
   ·exact⟨z,hz,rfl,id⟩⟩
theorem dr_nonnil{g:Int}{l:List Wt}(h:Pe.dr g l≠[]):l≠[]:=fun e=>h (by rw[e];rfl)
theorem Qt.leave(g:Int)(a:List (Option St)):Qt a (Fk.leaveS g a):=
 ⟨by simp[Fk.leaveS],fun i z hz=>by
   unfold Fk.leaveS at hz
   rw[List.getElem?_map] at hz
   cases hx:a[i]? with
   |none=>rw[hx] at hz;cases hz
   |some o=>
    rw[hx] at hz
    cases o with
    |none=>simp[Fk.dropO] at hz
    |some x=>
     simp[Fk.dropO] at hz
     subst hz
     exact⟨x,rfl,rfl,fun q r=>q (dr_nonnil r)⟩⟩
theorem j_wait{st:St}(h:J st)(b:Bool)(x:Wt):J (_root_.Go.Proofs.YtogkjaekfhjelaaGreat.Pi.waitS st b x):=by
 unfold _root_.Go.Proofs.YtogkjaekfhjelaaGreat.Pi.waitS
 split
 ·exact h
 ·rename_i hr
  split
  ·exact h
  ·rename_i hb
   intro _
   have hb':b=false:=by simpa using hb
   subst hb'
   unfold _root_.Go.Proofs.YtogkjaekfhjelaaGreat.Pi.rdyBut _root_.Go.Proofs.YtogkjaekfhjelaaGreat.Pi.room at hr
   simp at hr
   exact hr.1.2
theorem buf_wait(st:St)(b:Bool)(x:Wt):(_root_.Go.Proofs.YtogkjaekfhjelaaGreat.Pi.waitS st b x).buf=st.buf:=by
 unfold _root_.Go.Proofs.YtogkjaekfhjelaaGreat.Pi.waitS
 split
 ·rfl
 ·split<;>rfl
theorem Qt.wait(a:List (Option St))(c:Ca)(g:Int):Qt a (waitN a c g):=by
 unfold waitN
 split
 ·exact Qt.refl a
 ·rename_i st e
  exact Qt.set e (buf_wait _ _ _) (fun q=>j_wait q _ _)
theorem Qt.pk1(g:Int)(p:Nat)(c:Ca)(a:List (Option St)):Qt a (Fk.pk1 g p c a):=by
 unfold Fk.pk1
 split
 ·exact Qt.refl a
 ·rename_i st e
  exact Qt.set e (buf_wait _ _ _) (fun q=>j_wait q _ _)
theorem Qt.pkS(g:Int)(l:List Ca)(a:List (Option St)):∀k,Qt a (Fk.pkS g l a k)
 |0=>Qt.refl a
 |k+1=>by
  unfold Fk.pkS
  split
  ·exact Qt.pkS g l a k
  ·exact (Qt.pkS g l a k).trans (Qt.pk1 _ _ _ _)
theorem Qt.pkA(g:Int)(l:List Ca)(a:List (Option St)):Qt a (Fk.pkA g l a):=by
 unfold Fk.pkA
 split
 ·exact Qt.refl a
 ·split
  ·exact Qt.refl a
  ·exact Qt.pkS g l a _
theorem Qt.close{a:List (Option St)}{c:Int}{st:St}(h:Fk.nmB a c=some st):Qt a (a.set c.toNat (some (_root_.Go.Proofs.YtogkjaekfhjelaaGreat.Pi.closeS st))):=by
 unfold _root_.Go.Proofs.YtogkjaekfhjelaaGreat.Pi.closeS
 split
 ·exact Qt.set h rfl id
 ·exact Qt.set h rfl (fun _ r=>absurd rfl r)
structure VI(s:Lm):Prop where
 l1:s.sts.length=8
 l2:s.nm.length=8
 md0:0≤s.md
 lt:∀e∈s.tr,e.c<s.md
 nlt:∀i,i<8→nth s.nm i<s.md
 inj:∀i j,i<8→j<8→nth s.nm i=nth s.nm j→0≤nth s.nm i→i=j
 ch:∀(i:Nat) (st:St),s.sts[i]? =some (some st)→0≤nth s.nm i∧ins (nth s.nm i) s.tr=outs (nth s.nm i) s.tr++st.buf∧J st
 pre:∀c,∃l,ins c s.tr=outs c s.tr++l
theorem VI.quiet{s s':Lm}(h:VI s)(hn:s'.nm=s.nm)(hm:s'.md=s.md)(hq:Qt s.sts s'.sts)(es:List Ev)(ht:s'.tr=s.tr++es)(hes:∀e∈es,e.c<s.md∧quietE e=true):VI s':=by
 have i0:∀c,ins c es=[]:=fun c=>ins_none fun e he=>(quiet_off (hes e he).2 c).1
 have o0:∀c,outs c es=[]:=fun c=>outs_none fun e he=>(quiet_off (hes e he).2 c).2
 have i1:∀c,ins c s'.tr=ins c s.tr:=fun c=>by rw[ht,ins_app,i0,List.append_nil]
 have o1:∀c,outs c s'.tr=outs c s.tr:=fun c=>by rw[ht,outs_app,o0,List.append_nil]
 refine⟨hq.len.trans h.l1,by rw[hn];exact h.l2,by rw[hm];exact h.md0,fun e he=>?_,fun i hi=>by rw[hn,hm];exact h.nlt i hi,fun i j hi hj=>by rw[hn];exact h.inj i j hi hj,fun i st hst=>?_,fun c=>by rw[i1,o1];exact h.pre c⟩
 ·rw[ht,List.mem_append] at he
  rw[hm]
  rcases he with q|q
  ·exact h.lt e q
  ·exact (hes e q).1
 ·obtain⟨x,hx,e,j⟩:=hq.at_ i st hst
  obtain⟨h0,h1,h2⟩:=h.ch i x hx
  rw[hn,i1,o1,e]
  exact⟨h0,h1,j h2⟩
theorem VI.tell{s s':Lm}(h:VI s)(e:Ev)(hn:s'.nm=s.nm)(hm:s'.md=s.md)(hq:Qt s.sts s'.sts)(ht:s'.tr=s.tr)(hc:e.c<s.md)(hqe:quietE e=true):VI (tellS s' e):=
 h.quiet (s':=tellS s' e) hn hm hq [e] (by show s'.tr++[e]=_;rw[ht]) (fun x hx=>by simp at hx;subst hx;exact⟨hc,hqe⟩)
theorem VI.nmd{s:Lm}(h:VI s){c:Int}{st:St}(hc:Fk.nmB s.sts c=some st):c.toNat<8∧0≤num s c∧num s c<s.md∧ins (num s c) s.tr=outs (num s c) s.tr++st.buf∧J st:=by
 have h1:=Fk.nmB_at hc
 have h2:c.toNat<8:=by have:=(List.getElem?_eq_some_iff.1 h1).1;rw[h.l1] at this;exact this
 obtain⟨a,b,d⟩:=h.ch _ _ h1
 exact⟨h2,a,h.nlt _ h2,b,d⟩
theorem VI.act{s s':Lm}(h:VI s){c:Int}{st st':St}(hc:Fk.nmB s.sts c=some st)(hn:s'.nm=s.nm)(hm:s'.md=s.md)(hq:Qt (s.sts.set c.toNat (some st')) s'.sts)(es:List Ev)(ht:s'.tr=s.tr++es)(hes:∀e∈es,e.c=num s c)(hb:J st→J st'∧st.buf++ins (num s c) es=outs (num s c) es++st'.buf):VI s':=by
 obtain⟨c8,n0,nl,hio,hJ⟩:=h.nmd hc
 obtain⟨hJ',hbuf⟩:=hb hJ
 have key:ins (num s c) s'.tr=outs (num s c) s'.tr++st'.buf:=by
  rw[ht,ins_app,outs_app,hio,List.append_assoc,hbuf,List.append_assoc]
 have i1:∀k,k≠num s c→ins k s'.tr=ins k s.tr:=fun k hk=>by rw[ht,ins_app,ins_none (l:=es) (fun e he=>(in_off (by rw[hes e he];exact Ne.symm hk)).1),List.append_nil]
 have o1:∀k,k≠num s c→outs k s'.tr=outs k s.tr:=fun k hk=>by rw[ht,outs_app,outs_none (l:=es) (fun e he=>(in_off (by rw[hes e he];exact Ne.symm hk)).2),List.append_nil]
 refine⟨by rw[hq.len,List.length_set];exact h.l1,by rw[hn];exact h.l2,by rw[hm];exact h.md0,fun e he=>?_,fun i hi=>by rw[hn,hm];exact h.nlt i hi,fun i j hi hj=>by rw[hn];exact h.inj i j hi hj,fun i y hy=>?_,fun k=>?_⟩
 ·rw[ht,List.mem_append] at he
  rw[hm]
  rcases he with q|q
  ·exact h.lt e q
  ·rw[hes e q];exact nl
 ·obtain⟨x,hx,e,j⟩:=hq.at_ i y hy
  rw[hn,e]
  by_cases hi:i=c.toNat
  ·subst hi
   rw[List.getElem?_set] at hx
   simp[h.l1,c8] at hx
   subst hx
   exact⟨n0,key,j hJ'⟩
  ·rw[List.getElem?_set_ne (Ne.symm hi)] at hx
   have i8:i<8:=by have:=(List.getElem?_eq_some_iff.1 hx).1;rw[h.l1] at this;exact this
   obtain⟨a,b,d⟩:=h.ch i x hx
   have hne:nth s.nm i≠num s c:=fun z=>hi (h.inj i c.toNat i8 c8 z a)
   rw[i1 _ hne,o1 _ hne]
   exact⟨a,b,j d⟩
 ·by_cases hk:k=num s c
  ·subst hk
   exact⟨_,key⟩
  ·rw[i1 k hk,o1 k hk]
   exact h.pre k
end Lo
open Go.ChangeShapes Go.WideShapes Go.ChangeAt Go.RowKit
namespace Lo
open Ba
theorem wp_scope_forward{P:Program}{a:Act}{w:World}{Q:Exit→Act→World→Prop}{c rest:Code}(l:Nat)(hf:findLabel c l=some rest)
 (first:c.wp P (Exit.jump l (fun a' w'=>rest.wp P (Exit.jump l (fun _ _=>False) Q) a' w') Q) a w):(Code.scope c).wp P Q a w:=
 wp_scope_jumps l _ (fun _ _=>0) hf first (fun a' w' hJ=>Code.wp_mono (fun e a2 w2 h=>by
  cases e with
  |goto l'=>exact h.2.elim
  |_=>exact h) hJ)
theorem try_tr(s:Lm)(g at_:Int)(c:Ca):(tryF s g at_ c).s.tr.length≤s.tr.length+2:=by
 unfold tryF
 split
 ·show s.tr.length≤_;omega
 ·split
  ·show ((s.tr++[_])++[_]).length≤_;simp
  ·show (s.tr++[_]).length≤_;simp
theorem alone_tr(s:Lm)(g:Int)(c:Ca):(aloneF s g c).s.tr.length≤s.tr.length+3:=by
 have:=try_tr s g (-1) c
 unfold aloneF
 split
 ·show (tryF s g (-1) c).s.tr.length≤_;omega
 ·show ((tryF s g (-1) c).s.tr++[_]).length≤_;simp;omega
theorem choose_tr(s:Lm)(g:Int)(o:OpD):(chooseF s g o).s.tr.length≤s.tr.length+3:=by
 unfold chooseF
 split
 ·refine Nat.le_trans (try_tr _ _ _ _) ?_
  show s.tr.length+2≤_
  omega
 ·split
  ·show (s.tr++[_]).length≤_;simp
  ·show (s.tr++[_]).length≤_;simp
theorem closes_tr{K:Nat}(s:Lm)(g:Int)(k:Nat)(ok:Ok K s):(closesF s g k).s.tr.length≤K+1001:=by
 have h0:=ok.tn
 unfold closesF
 split
 ·show s.tr.length≤_;omega
 ·rename_i st hst
  split
  ·show s.tr.length≤_;omega
  ·have hl:st.rcv.length≤1000:=ok.wl _ st (Fk.nmB_at hst) false
   have:=(Bw.all (g:=g) (c:=num s k) (l:=st.rcv) (Bw.go (s:={s with sts:=s.sts.set (k:Int).toNat (some (_root_.Go.Proofs.YtogkjaekfhjelaaGreat.Pi.closeS st))}) ⟨ok.cb,ok.tn⟩ ⟨5,g,num s k,-1,-1,-1,false,false⟩)).tn
   exact Nat.le_trans this (by omega)
set_option maxRecDepth 100000 in
theorem do_7(L:Nat)(col:Nat→Nat)(s:Lm)(K:Nat)(g a b:Int)(oc:Option Addr)(n cc:Nat)(df:Bool)(w:World)(h:LW w col L s)(ok:Ok K s)(hK:K≤90000):
 Calls Tryz.prog 36 #[.pointer (some ⟨L,0,none⟩),.int .i64 g,.agg #[.int .i64 7,.int .i64 a,.int .i64 b,.slice oc n cc,.bool df]] w fun r w'=>r=.returned (.tuple #[])∧∃col',LW w' col' L (goS s ⟨9,g,-1,-1,a,-1,false,false⟩)∧Tr col col' w w':=by
 have OK:=hide ok
 have H0:=hide h
 have hL:=h.lt
 clear h ok
 go_enter Tryz.func36,Tryz.ntmps36
 go_wp2_with fail
 refine wp_scope_forward 0 rfl ?_
 go_wp2_with fail
 refine (En.bare_any 0 g _).mono ?_
 rintro r w1 ⟨rfl,b1⟩
 have B1:=hide (btr (below_alloc w (.cells #[.int .i64 7,.int .i64 a,.int .i64 b,.slice oc n cc,.bool df] 46)) b1)
 have O1:=hide (heap_below (heap_new w (.cells #[.int .i64 7,.int .i64 a,.int .i64 b,.slice oc n cc,.bool df] 46)) b1)
 have s1:w.heap.size<w1.heap.size:=heap_lt O1.out
 have hL1:L<w1.heap.size:=by omega
 have o0:w1.cell? ⟨w.heap.size,0,none⟩=some (.int .i64 7):=cell_of O1.out 0
 have o1:w1.cell? ⟨w.heap.size,1,none⟩=some (.int .i64 a):=cell_of O1.out 1
 have o2:w1.cell? ⟨w.heap.size,2,none⟩=some (.int .i64 b):=cell_of O1.out 2
 have o3:w1.cell? ⟨w.heap.size,3,none⟩=some (.slice oc n cc):=cell_of O1.out 3
 have o4:w1.cell? ⟨w.heap.size,4,none⟩=some (.bool df):=cell_of O1.out 4
 clear b1
 go_wp2_with fail
 go_region
 obtain⟨col3,h3,t3,n3⟩:=H0.out.below (btr B1.out (btr (below_alloc w1 (.cells #[.int .i64 9,.int .i64 g,.int .i64 (-1),.int .i64 (-1),.int .i64 a,.int .i64 (-1),.bool false,.bool false] 40)) (bdrew1 _)))
 have T3:=hide t3
 have H3:=hide h3
 clear h3 t3 n3
 have GO:=hide (goes_any L col3 s K (⟨9,g,-1,-1,a,-1,false,false⟩:Ev) _ H3.out OK.out.cb (by omega) (by have:=OK.out.tn;omega))
 unfold En.evv En.evc at GO
 go_wp2_with fail
 refine GO.out.mono ?_
 rintro r w9 ⟨rfl,col9,h9,t9⟩
 have H9:=hide h9
 have T9:=hide (Tr.trans T3.out t9)
 clear h9 t9 GO
 go_wp2_with fail
 simp only[Exit.jump]
 refine bodyPost_ret (results_none rfl _ _ _) rfl ?_
 exact⟨rfl,col9,H9.out,T9.out⟩
set_option maxRecDepth 100000 in
theorem do_8(L:Nat)(col:Nat→Nat)(s:Lm)(K:Nat)(g a b:Int)(oc:Option Addr)(n cc:Nat)(df:Bool)(w:World)(h:LW w col L s)(ok:Ok K s)(hK:K≤90000):
 Calls Tryz.prog 36 #[.pointer (some ⟨L,0,none⟩),.int .i64 g,.agg #[.int .i64 8,.int .i64 a,.int .i64 b,.slice oc n cc,.bool df]] w fun r w'=>r=.returned (.tuple #[])∧∃col',LW w' col' L (goS s ⟨10,g,-1,-1,a,-1,false,false⟩)∧Tr col col' w w':=by
 have OK:=hide ok
 have H0:=hide h
 have hL:=h.lt
 clear h ok
 go_enter Tryz.func36,Tryz.ntmps36
 go_wp2_with fail
 refine wp_scope_forward 0 rfl ?_
 go_wp2_with fail
 refine (En.bare_any 0 g _).mono ?_
 rintro r w1 ⟨rfl,b1⟩
 have B1:=hide (btr (below_alloc w (.cells #[.int .i64 8,.int .i64 a,.int .i64 b,.slice oc n cc,.bool df] 46)) b1)
 have O1:=hide (heap_below (heap_new w (.cells #[.int .i64 8,.int .i64 a,.int .i64 b,.slice oc n cc,.bool df] 46)) b1)
 have s1:w.heap.size<w1.heap.size:=heap_lt O1.out
 have hL1:L<w1.heap.size:=by omega
 have o0:w1.cell? ⟨w.heap.size,0,none⟩=some (.int .i64 8):=cell_of O1.out 0
 have o1:w1.cell? ⟨w.heap.size,1,none⟩=some (.int .i64 a):=cell_of O1.out 1
 have o2:w1.cell? ⟨w.heap.size,2,none⟩=some (.int .i64 b):=cell_of O1.out 2
 have o3:w1.cell? ⟨w.heap.size,3,none⟩=some (.slice oc n cc):=cell_of O1.out 3
 have o4:w1.cell? ⟨w.heap.size,4,none⟩=some (.bool df):=cell_of O1.out 4
 clear b1
 go_wp2_with fail
 go_region
 obtain⟨col3,h3,t3,n3⟩:=H0.out.below (btr B1.out (btr (below_alloc w1 (.cells #[.int .i64 10,.int .i64 g,.int .i64 (-1),.int .i64 (-1),.int .i64 a,.int .i64 (-1),.bool false,.bool false] 40)) (bdrew1 _)))
 have T3:=hide t3
 have H3:=hide h3
 clear h3 t3 n3
 have GO:=hide (goes_any L col3 s K (⟨10,g,-1,-1,a,-1,false,false⟩:Ev) _ H3.out OK.out.cb (by omega) (by have:=OK.out.tn;omega))
 unfold En.evv En.evc at GO
 go_wp2_with fail
 refine GO.out.mono ?_
 rintro r w9 ⟨rfl,col9,h9,t9⟩
 have H9:=hide h9
 have T9:=hide (Tr.trans T3.out t9)
 clear h9 t9 GO
 go_wp2_with fail
 simp only[Exit.jump]
 refine bodyPost_ret (results_none rfl _ _ _) rfl ?_
 exact⟨rfl,col9,H9.out,T9.out⟩
set_option maxRecDepth 100000 in
theorem do_9(L:Nat)(col:Nat→Nat)(s:Lm)(K:Nat)(g a b:Int)(oc:Option Addr)(n cc:Nat)(df:Bool)(w:World)(h:LW w col L s)(ok:Ok K s)(hK:K≤90000):
 Calls Tryz.prog 36 #[.pointer (some ⟨L,0,none⟩),.int .i64 g,.agg #[.int .i64 9,.int .i64 a,.int .i64 b,.slice oc n cc,.bool df]] w fun r w'=>r=.returned (.tuple #[])∧∃col',LW w' col' L (tellS {s with cr:=Cr.chL s.cr g 0 2 0} (bareE 11 g))∧Tr col col' w w':=by
 have OK:=hide ok
 have H0:=hide h
 have hL:=h.lt
 clear h ok
 go_enter Tryz.func36,Tryz.ntmps36
 go_wp2_with fail
 refine wp_scope_forward 0 rfl ?_
 go_wp2_with fail
 refine (En.bare_any 0 g _).mono ?_
 rintro r w1 ⟨rfl,b1⟩
 have B1:=hide (btr (below_alloc w (.cells #[.int .i64 9,.int .i64 a,.int .i64 b,.slice oc n cc,.bool df] 46)) b1)
 have O1:=hide (heap_below (heap_new w (.cells #[.int .i64 9,.int .i64 a,.int .i64 b,.slice oc n cc,.bool df] 46)) b1)
 have s1:w.heap.size<w1.heap.size:=heap_lt O1.out
 have hL1:L<w1.heap.size:=by omega
 have o0:w1.cell? ⟨w.heap.size,0,none⟩=some (.int .i64 9):=cell_of O1.out 0
 have o1:w1.cell? ⟨w.heap.size,1,none⟩=some (.int .i64 a):=cell_of O1.out 1
 have o2:w1.cell? ⟨w.heap.size,2,none⟩=some (.int .i64 b):=cell_of O1.out 2
 have o3:w1.cell? ⟨w.heap.size,3,none⟩=some (.slice oc n cc):=cell_of O1.out 3
 have o4:w1.cell? ⟨w.heap.size,4,none⟩=some (.bool df):=cell_of O1.out 4
 clear b1
 obtain⟨col3,h3,t3,n3⟩:=H0.out.below (btr B1.out (below_alloc w1 (.cells #[.int .i64 11,.int .i64 g,.int .i64 (-1),.int .i64 (-1),.int .i64 (-1),.int .i64 (-1),.bool false,.bool false] 40)))
 have T3:=hide t3
 have V3:=hide (heap_new w1 (.cells #[.int .i64 11,.int .i64 g,.int .i64 (-1),.int .i64 (-1),.int .i64 (-1),.int .i64 (-1),.bool false,.bool false] 40))
 have C3:=hide (n3 w1.heap.size B1.out.size)
 obtain⟨N,C,B,X,FB,pa,pc,bs,Fs,ta,tc,h3⟩:=h3
 have H3:=hide h3
 have y2:w1.cell? ⟨L,2,none⟩=some (.pointer (some ⟨B,0,none⟩)):=by
  have h1:(w1.alloc (.cells #[.int .i64 11,.int .i64 g,.int .i64 (-1),.int .i64 (-1),.int .i64 (-1),.int .i64 (-1),.bool false,.bool false] 40)).cell? ⟨L,2,none⟩=some (.pointer (some ⟨B,0,none⟩)):=cell_of h3.hp 2
  have h2:=(below_alloc w1 (.cells #[.int .i64 11,.int .i64 g,.int .i64 (-1),.int .i64 (-1),.int .i64 (-1),.int .i64 (-1),.bool false,.bool false] 40)).block L hL1
  rw[←h1]
  simp only[World.cell?,h2]
 have EX:=hide (Cr.exit_any B FB s.cr K g _ h3.cr OK.out.cb (by omega))
 clear h3 t3 n3
 go_wp2_with fail
 refine EX.out.mono ?_
 rintro r w4 ⟨rfl,p4⟩
 obtain⟨FB4,col4,h4,t4⟩:=H3.out.crew p4
 have T4:=hide (T3.out.trans t4)
 have V4:=hide (t4.heap V3.out C3.out)
 have v0:=cell_of V4.out 0
 have v1:=cell_of V4.out 1
 have v2:=cell_of V4.out 2
 have v3:=cell_of V4.out 3
 have v4:=cell_of V4.out 4
 have v5:=cell_of V4.out 5
 have v6:=cell_of V4.out 6
 have v7:=cell_of V4.out 7
 simp at v0 v1 v2 v3 v4 v5 v6 v7
 have TE:=hide (tell_any L col4 _ (bareE 11 g) w4 h4.lw (by have:=OK.out.tn;show s.tr.length≤_;omega))
 unfold En.evv En.evc bareE at TE
 clear h4 t4 p4 H3 T3 EX y2
 go_wp2_with fail
 refine TE.out.mono ?_
 rintro r w9 ⟨rfl,col9,h9,t9⟩
 have H9:=hide h9
 have T9:=hide (T4.out.trans t9)
 clear h9 t9 TE
 go_wp2_with fail
 simp only[Exit.jump]
 refine bodyPost_ret (results_none rfl _ _ _) rfl ?_
 exact⟨rfl,col9,H9.out,T9.out⟩
set_option maxRecDepth 100000 in
theorem do_1(L:Nat)(col:Nat→Nat)(s:Lm)(K:Nat)(g a b:Int)(oc:Option Addr)(n cc:Nat)(df:Bool)(w:World)(h:LW w col L s)(ok:Ok K s)(hK:K≤90000):
 Calls Tryz.prog 36 #[.pointer (some ⟨L,0,none⟩),.int .i64 g,.agg #[.int .i64 1,.int .i64 a,.int .i64 b,.slice oc n cc,.bool df]] w fun r w'=>r=.returned (.tuple #[])∧∃col',LW w' col' L (goS {s with cr:=Cr.spL s.cr a} ⟨1,g,-1,-1,a,Cr.spV s.cr a,false,false⟩)∧Tr col col' w w':=by
 have OK:=hide ok
 have H0:=hide h
 have hL:=h.lt
 clear h ok
 go_enter Tryz.func36,Tryz.ntmps36
 go_wp2_with fail
 refine wp_scope_forward 0 rfl ?_
 go_wp2_with fail
 refine (En.bare_any 0 g _).mono ?_
 rintro r w1 ⟨rfl,b1⟩
 have B1:=hide (btr (below_alloc w (.cells #[.int .i64 1,.int .i64 a,.int .i64 b,.slice oc n cc,.bool df] 46)) b1)
 have O1:=hide (heap_below (heap_new w (.cells #[.int .i64 1,.int .i64 a,.int .i64 b,.slice oc n cc,.bool df] 46)) b1)
 have s1:w.heap.size<w1.heap.size:=heap_lt O1.out
 have hL1:L<w1.heap.size:=by omega
 have o0:w1.cell? ⟨w.heap.size,0,none⟩=some (.int .i64 1):=cell_of O1.out 0
 have o1:w1.cell? ⟨w.heap.size,1,none⟩=some (.int .i64 a):=cell_of O1.out 1
 have o2:w1.cell? ⟨w.heap.size,2,none⟩=some (.int .i64 b):=cell_of O1.out 2
 have o3:w1.cell? ⟨w.heap.size,3,none⟩=some (.slice oc n cc):=cell_of O1.out 3
 have o4:w1.cell? ⟨w.heap.size,4,none⟩=some (.bool df):=cell_of O1.out 4
 clear b1
 go_wp2_with fail
 go_region
 obtain⟨col3,h3,t3,n3⟩:=H0.out.below (btr B1.out (btr (below_alloc w1 (.cells #[.int .i64 1,.int .i64 g,.int .i64 (-1),.int .i64 (-1),.int .i64 a,.int .i64 (-1),.bool false,.bool false] 40)) (bdrew1 _)))
 have T3:=hide t3
 have V3:=hide (heap_below (heap_new w1 (.cells #[.int .i64 1,.int .i64 g,.int .i64 (-1),.int .i64 (-1),.int .i64 a,.int .i64 (-1),.bool false,.bool false] 40)) (bdrew1 _))
 have C3:=hide (n3 w1.heap.size B1.out.size)
 have O3:=hide (heap_below O1.out (btr (below_alloc w1 (.cells #[.int .i64 1,.int .i64 g,.int .i64 (-1),.int .i64 (-1),.int .i64 a,.int .i64 (-1),.bool false,.bool false] 40)) (bdrew1 _)))
 have D3:=hide (n3 w.heap.size (Nat.le_refl _))
 obtain⟨N,C,B,X,FB,pa,pc,bs,Fs,ta,tc,h3⟩:=h3
 have H3:=hide h3
 clear h3 t3 n3 o0 o1 o2 o3 o4
 generalize (w1.alloc (.cells #[.int .i64 1,.int .i64 g,.int .i64 (-1),.int .i64 (-1),.int .i64 a,.int .i64 (-1),.bool false,.bool false] 40)).drew=w3 at*
 generalize w1.heap.size=Eb at*
 have y2:w3.cell? ⟨L,2,none⟩=some (.pointer (some ⟨B,0,none⟩)):=cell_of H3.out.hp 2
 have o1:w3.cell? ⟨w.heap.size,1,none⟩=some (.int .i64 a):=cell_of O3.out 1
 have v5:=cell_of V3.out 5
 have f5:=frozen_of V3.out 5
 simp at v5
 have SP:=hide (Cr.spawn_any B FB s.cr a w3.drew H3.out.drew.cr)
 have hne:w.heap.size≠Eb:=by omega
 have hLE:L≠Eb:=by omega
 go_wp2_with fail
 go_region_held3 (fun w'=>w'.cell? ⟨L,2,none⟩=some (.pointer (some ⟨B,0,none⟩))∧w'.cell? ⟨w.heap.size,1,none⟩=some (.int .i64 a))
  (first|(go_keep;done)|exact⟨z2,z1⟩|(go_split_ands;refine⟨kset1 ?_ hLE,kset1 ?_ hne⟩<;>assumption))
  (first|(go_at_call 29;refine SP.out.mono ?_;rintro r w4 ⟨rfl,p4⟩;obtain⟨FB4,col4,h4,t4⟩:=H3.out.drew.crew p4;have V4:=hide (t4.heap (heap_below V3.out (bdrew1 _)) C3.out);have z2:w4.cell? ⟨L,2,none⟩=some (.pointer (some ⟨B,0,none⟩)):=cell_of h4.hp 2;have z1:w4.cell? ⟨w.heap.size,1,none⟩=some (.int .i64 a):=cell_of (t4.heap (heap_below O3.out (bdrew1 _)) D3.out) 1;have g5:=cell_of V4.out 5;have f5':=frozen_of V4.out 5;simp at g5))
 have C4:Hid (col4 Eb=7):=(t4.old _ (heap_lt (heap_below V3.out (bdrew1 _)))).trans C3.out
 have H5:=hide (h4.temp (i:=5) (v:=.int .i64 (Cr.spV s.cr a)) C4.out)
 have T5:=hide ((Tr.trans T3.out.drew t4).temp (z:=Eb) (by omega) 5 (.int .i64 (Cr.spV s.cr a)))
 have V5:=hide (Ba.heap_setCell_same V4.out (i:=5) (.int .i64 (Cr.spV s.cr a)))
 clear h4 t4 p4 H3 T3 V3 V4 SP z1 z2 g5 f5' y2 o1 v5 f5
 generalize w4.setCell ⟨Eb,5,none⟩ (.int .i64 (Cr.spV s.cr a))=w5 at*
 have v0:=cell_of V5.out 0
 have v1:=cell_of V5.out 1
 have v2:=cell_of V5.out 2
 have v3:=cell_of V5.out 3
 have v4:=cell_of V5.out 4
 have v5:=cell_of V5.out 5
 have v6:=cell_of V5.out 6
 have v7:=cell_of V5.out 7
 simp at v0 v1 v2 v3 v4 v5 v6 v7
 have GO:=hide (goes_any L col4 _ K (⟨1,g,-1,-1,a,Cr.spV s.cr a,false,false⟩:Ev) w5 H5.out.lw (Cr.Bn.sp OK.out.cb a) (by omega) (by have:=OK.out.tn;show s.tr.length≤_;omega))
 unfold En.evv En.evc at GO
 go_wp2_with fail
 refine GO.out.mono ?_
 rintro r w9 ⟨rfl,col9,h9,t9⟩
 have H9:=hide h9
 have T9:=hide (Tr.trans T5.out t9)
 clear h9 t9 GO
 go_wp2_with fail
 simp only[Exit.jump]
 refine bodyPost_ret (results_none rfl _ _ _) rfl ?_
 exact⟨rfl,col9,H9.out,T9.out⟩
set_option maxRecDepth 100000 in
theorem do_2(L:Nat)(col:Nat→Nat)(s:Lm)(K:Nat)(g:Int)(k z:Nat)(oc:Option Addr)(n cc:Nat)(df:Bool)(w:World)(h:LW w col L s)(ok:Ok K s)(hK:K≤90000)(hk:k<8)(hz:z≤4):
 Calls Tryz.prog 36 #[.pointer (some ⟨L,0,none⟩),.int .i64 g,.agg #[.int .i64 2,.int .i64 (k:Int),.int .i64 (z:Int),.slice oc n cc,.bool df]] w fun r w'=>r=.returned (.tuple #[])∧∃col',LW w' col' L (goS (opensS s k z) ⟨2,g,s.md,-1,(z:Int),-1,false,false⟩)∧Tr col col' w w':=by
 have OK:=hide ok
 have H0:=hide h
 have hL:=h.lt
 clear h ok
 go_enter Tryz.func36,Tryz.ntmps36
 go_wp2_with fail
 refine wp_scope_forward 0 rfl ?_
 go_wp2_with fail
 refine (En.bare_any 0 g _).mono ?_
 rintro r w1 ⟨rfl,b1⟩
 have B1:=hide (btr (below_alloc w (.cells #[.int .i64 2,.int .i64 (k:Int),.int .i64 (z:Int),.slice oc n cc,.bool df] 46)) b1)
 have O1:=hide (heap_below (heap_new w (.cells #[.int .i64 2,.int .i64 (k:Int),.int .i64 (z:Int),.slice oc n cc,.bool df] 46)) b1)
 have s1:w.heap.size<w1.heap.size:=heap_lt O1.out
 have hL1:L<w1.heap.size:=by omega
 have o0:w1.cell? ⟨w.heap.size,0,none⟩=some (.int .i64 2):=cell_of O1.out 0
 have o1:w1.cell? ⟨w.heap.size,1,none⟩=some (.int .i64 (k:Int)):=cell_of O1.out 1
 have o2:w1.cell? ⟨w.heap.size,2,none⟩=some (.int .i64 (z:Int)):=cell_of O1.out 2
 have o3:w1.cell? ⟨w.heap.size,3,none⟩=some (.slice oc n cc):=cell_of O1.out 3
 have o4:w1.cell? ⟨w.heap.size,4,none⟩=some (.bool df):=cell_of O1.out 4
 clear b1
 go_wp2_with fail
 go_region
 obtain⟨col3,h3,t3,n3⟩:=H0.out.below (btr B1.out (btr (below_alloc w1 (.cells #[.int .i64 2,.int .i64 g,.int .i64 (-1),.int .i64 (-1),.int .i64 (z:Int),.int .i64 (-1),.bool false,.bool false] 40)) (bdrew1 _)))
 have T3:=hide t3
 have V3:=hide (heap_below (heap_new w1 (.cells #[.int .i64 2,.int .i64 g,.int .i64 (-1),.int .i64 (-1),.int .i64 (z:Int),.int .i64 (-1),.bool false,.bool false] 40)) (bdrew1 _))
 have C3:=hide (n3 w1.heap.size B1.out.size)
 have O3:=hide (heap_below O1.out (btr (below_alloc w1 (.cells #[.int .i64 2,.int .i64 g,.int .i64 (-1),.int .i64 (-1),.int .i64 (z:Int),.int .i64 (-1),.bool false,.bool false] 40)) (bdrew1 _)))
 have OP:=hide (opens_any L col3 s k z _ h3 hk hz (by have:=OK.out.md;omega))
 clear h3 t3 n3 o0 o1 o2 o3 o4
 generalize (w1.alloc (.cells #[.int .i64 2,.int .i64 g,.int .i64 (-1),.int .i64 (-1),.int .i64 (z:Int),.int .i64 (-1),.bool false,.bool false] 40)).drew=w3 at*
 have hEb:w.heap.size≤w1.heap.size:=by omega
 generalize w1.heap.size=Eb at*
 have o1:w3.cell? ⟨w.heap.size,1,none⟩=some (.int .i64 (k:Int)):=cell_of O3.out 1
 have o2:w3.cell? ⟨w.heap.size,2,none⟩=some (.int .i64 (z:Int)):=cell_of O3.out 2
 go_wp2_with fail
 refine OP.out.mono ?_
 rintro r w4 ⟨rfl,col4,h4,t4⟩
 have V4:=hide (t4.heap V3.out C3.out)
 have C4:Hid (col4 Eb=7):=(t4.old _ (heap_lt V3.out)).trans C3.out
 have v2:=cell_of V4.out 2
 have f2:=frozen_of V4.out 2
 simp at v2
 obtain⟨N,C,B,X,FB,pa,pc,bs,Fs,ta,tc,h4⟩:=h4
 have H5:=hide (h4.temp (i:=2) (v:=.int .i64 s.md) C4.out)
 have T5:=hide ((Tr.trans T3.out t4).temp hEb 2 (.int .i64 s.md))
 have V5:=hide (Ba.heap_setCell_same V4.out (i:=2) (.int .i64 s.md))
 clear h4 t4 OP T3 V3 o1 o2
 have GO:=hide (goes_any L col4 _ K (⟨2,g,s.md,-1,(z:Int),-1,false,false⟩:Ev) _ H5.out.lw (by exact OK.out.cb) (by omega) (by have:=OK.out.tn;show s.tr.length≤_;omega))
 unfold En.evv En.evc at GO
 have v0:=cell_of V4.out 0
 have v1:=cell_of V4.out 1
 have v3:=cell_of V4.out 3
 have v4:=cell_of V4.out 4
 have v5:=cell_of V4.out 5
 have v6:=cell_of V4.out 6
 have v7:=cell_of V4.out 7
 simp at v0 v1 v3 v4 v5 v6 v7
 go_wp2_with fail
 refine GO.out.mono ?_
 rintro r w9 ⟨rfl,col9,h9,t9⟩
 have H9:=hide h9
 have T9:=hide (Tr.trans T5.out t9)
 clear h9 t9 GO
 go_wp2_with fail
 simp only[Exit.jump]
 refine bodyPost_ret (results_none rfl _ _ _) rfl ?_
 exact⟨rfl,col9,H9.out,T9.out⟩
set_option maxRecDepth 100000 in
theorem do_3(L:Nat)(col:Nat→Nat)(s:Lm)(K:Nat)(g:Int)(k:Nat)(b:Int)(oc:Option Addr)(n cc:Nat)(df:Bool)(w:World)(h:LW w col L s)(ok:Ok K s)(hK:K≤90000)(hk:k<8):
 Calls Tryz.prog 36 #[.pointer (some ⟨L,0,none⟩),.int .i64 g,.agg #[.int .i64 3,.int .i64 (k:Int),.int .i64 b,.slice oc n cc,.bool df]] w fun r w'=>r=.returned (.tuple #[])∧∃col',LW w' col' L (if (aloneF s g ⟨true,k,b⟩).fine then (aloneF s g ⟨true,k,b⟩).s else panicS (aloneF s g ⟨true,k,b⟩).s g)∧Tr col col' w w':=by
 have TRN:=alone_tr s g ⟨true,k,b⟩
 have AN:=hide (fun (u:World) (c:Nat→Nat) (q:LW u c L s)=>alone_any L c s K g true k b u q ok (by omega) hk)
 obtain⟨sR,fR,hR⟩:∃sR fR,aloneF s g ⟨true,k,b⟩=⟨sR,fR⟩:=⟨_,_,rfl⟩
 rw[hR] at TRN AN ⊢
 simp only at TRN AN ⊢
 have OK:=hide ok
 have H0:=hide h
 have hL:=h.lt
 clear h ok
 go_enter Tryz.func36,Tryz.ntmps36
 go_wp2_with fail
 refine wp_scope_forward 0 rfl ?_
 go_wp2_with fail
 refine (En.bare_any 0 g _).mono ?_
 rintro r w1 ⟨rfl,b1⟩
 have B1:=hide (btr (below_alloc w (.cells #[.int .i64 3,.int .i64 (k:Int),.int .i64 b,.slice oc n cc,.bool df] 46)) b1)
 have O1:=hide (heap_below (heap_new w (.cells #[.int .i64 3,.int .i64 (k:Int),.int .i64 b,.slice oc n cc,.bool df] 46)) b1)
 have s1:w.heap.size<w1.heap.size:=heap_lt O1.out
 have hL1:L<w1.heap.size:=by omega
 have o0:w1.cell? ⟨w.heap.size,0,none⟩=some (.int .i64 3):=cell_of O1.out 0
 have o1:w1.cell? ⟨w.heap.size,1,none⟩=some (.int .i64 (k:Int)):=cell_of O1.out 1
 have o2:w1.cell? ⟨w.heap.size,2,none⟩=some (.int .i64 b):=cell_of O1.out 2
 have o3:w1.cell? ⟨w.heap.size,3,none⟩=some (.slice oc n cc):=cell_of O1.out 3
 have o4:w1.cell? ⟨w.heap.size,4,none⟩=some (.bool df):=cell_of O1.out 4
 clear b1
 obtain⟨col3,h3,t3,n3⟩:=H0.out.below (btr B1.out (below_alloc w1 (.cells #[.int .i64 0,.int .i64 g,.int .i64 (-1),.int .i64 (-1),.int .i64 (-1),.int .i64 (-1),.bool false,.bool false] 40)))
 have T3:=hide t3
 have V3:=hide (heap_new w1 (.cells #[.int .i64 0,.int .i64 g,.int .i64 (-1),.int .i64 (-1),.int .i64 (-1),.int .i64 (-1),.bool false,.bool false] 40))
 have AL:=hide (AN.out _ col3 h3)
 have TRL:sR.tr.length≤1000000:=by have:=OK.out.tn;omega
 clear h3 t3 n3 TRN AN
 go_wp2_with fail
 refine AL.out.mono ?_
 rintro r w5 ⟨rfl,col5,h5,t5⟩
 have H5:=hide h5
 have T5:=hide (T3.out.trans t5)
 clear h5 t5 AL T3
 cases fR
 ·skip
  obtain⟨N,C,B,X,FB,pa,pc,bs,Fs,ta,tc,h5⟩:=H5.out
  have y14:=cell_of h5.hp 14
  have f14:=frozen_of h5.hp 14
  simp[lcs] at y14
  obtain⟨h6,t6⟩:=LX.self (s':={sR with pk:=true}) (i:=14) (v:=.bool true) h5 rfl h5.nml rfl
  have H6:=hide h6.lw
  have T6:=hide (Tr.trans T5.out t6)
  clear h5 h6 t6
  go_wp2_with fail
  refine wp_goto ⟨rfl,?_⟩
  go_wp2_with fail
  refine (En.bare_any 12 g _).mono ?_
  rintro r w7 ⟨rfl,b7⟩
  obtain⟨col7,h7,t7,-⟩:=H6.out.below b7
  have T7:=hide (T6.out.trans t7)
  have TE:=hide (tell_any L col7 _ (bareE 12 g) w7 h7 TRL)
  unfold En.evv En.evc bareE at TE
  clear h7 t7 b7
  go_wp2_with fail
  refine TE.out.mono ?_
  rintro r w9 ⟨rfl,col9,h9,t9⟩
  have H9:=hide h9
  have T9:=hide (T7.out.trans t9)
  clear h9 t9 TE
  go_wp2_with fail
  simp only[Exit.jump]
  go_end0
  exact⟨rfl,col9,H9.out,T9.out⟩
 ·go_wp2_with fail
  simp only[Exit.jump]
  refine bodyPost_ret (results_none rfl _ _ _) rfl ?_
  exact⟨rfl,col5,H5.out,T5.out⟩
set_option maxRecDepth 100000 in
theorem do_4(L:Nat)(col:Nat→Nat)(s:Lm)(K:Nat)(g:Int)(k:Nat)(b:Int)(oc:Option Addr)(n cc:Nat)(df:Bool)(w:World)(h:LW w col L s)(ok:Ok K s)(hK:K≤90000)(hk:k<8):
 Calls Tryz.prog 36 #[.pointer (some ⟨L,0,none⟩),.int .i64 g,.agg #[.int .i64 4,.int .i64 (k:Int),.int .i64 b,.slice oc n cc,.bool df]] w fun r w'=>r=.returned (.tuple #[])∧∃col',LW w' col' L ((aloneF s g ⟨false,k,0⟩).s)∧Tr col col' w w':=by
 have OK:=hide ok
 have H0:=hide h
 have hL:=h.lt
 clear h ok
 go_enter Tryz.func36,Tryz.ntmps36
 go_wp2_with fail
 refine wp_scope_forward 0 rfl ?_
 go_wp2_with fail
 refine (En.bare_any 0 g _).mono ?_
 rintro r w1 ⟨rfl,b1⟩
 have B1:=hide (btr (below_alloc w (.cells #[.int .i64 4,.int .i64 (k:Int),.int .i64 b,.slice oc n cc,.bool df] 46)) b1)
 have O1:=hide (heap_below (heap_new w (.cells #[.int .i64 4,.int .i64 (k:Int),.int .i64 b,.slice oc n cc,.bool df] 46)) b1)
 have s1:w.heap.size<w1.heap.size:=heap_lt O1.out
 have hL1:L<w1.heap.size:=by omega
 have o0:w1.cell? ⟨w.heap.size,0,none⟩=some (.int .i64 4):=cell_of O1.out 0
 have o1:w1.cell? ⟨w.heap.size,1,none⟩=some (.int .i64 (k:Int)):=cell_of O1.out 1
 have o2:w1.cell? ⟨w.heap.size,2,none⟩=some (.int .i64 b):=cell_of O1.out 2
 have o3:w1.cell? ⟨w.heap.size,3,none⟩=some (.slice oc n cc):=cell_of O1.out 3
 have o4:w1.cell? ⟨w.heap.size,4,none⟩=some (.bool df):=cell_of O1.out 4
 clear b1
 obtain⟨col3,h3,t3,n3⟩:=H0.out.below (btr B1.out (below_alloc w1 (.cells #[.int .i64 0,.int .i64 g,.int .i64 (-1),.int .i64 (-1),.int .i64 (-1),.int .i64 (-1),.bool false,.bool false] 40)))
 have T3:=hide t3
 have V3:=hide (heap_new w1 (.cells #[.int .i64 0,.int .i64 g,.int .i64 (-1),.int .i64 (-1),.int .i64 (-1),.int .i64 (-1),.bool false,.bool false] 40))
 have AL:=hide (alone_any L col3 s K g false k 0 _ h3 OK.out (by omega) hk)
 clear h3 t3 n3
 go_wp2_with fail
 refine AL.out.mono ?_
 rintro r w5 ⟨rfl,col5,h5,t5⟩
 have H5:=hide h5
 have T5:=hide (T3.out.trans t5)
 clear h5 t5 AL T3
 go_wp2_with fail
 simp only[Exit.jump]
 refine bodyPost_ret (results_none rfl _ _ _) rfl ?_
 exact⟨rfl,col5,H5.out,T5.out⟩
set_option maxRecDepth 100000 in
theorem do_5(L:Nat)(col:Nat→Nat)(s:Lm)(K:Nat)(g:Int)(k:Nat)(b:Int)(oc:Option Addr)(n cc:Nat)(df:Bool)(w:World)(h:LW w col L s)(ok:Ok K s)(hK:K≤90000)(hk:k<8):
 Calls Tryz.prog 36 #[.pointer (some ⟨L,0,none⟩),.int .i64 g,.agg #[.int .i64 5,.int .i64 (k:Int),.int .i64 b,.slice oc n cc,.bool df]] w fun r w'=>r=.returned (.tuple #[])∧∃col',LW w' col' L (if (closesF s g k).who=-1 then (closesF s g k).s else panicS (closesF s g k).s (closesF s g k).who)∧Tr col col' w w':=by
 have TRN:=closes_tr s g k ok
 have AN:=hide (fun (u:World) (c:Nat→Nat) (q:LW u c L s)=>closes_any L c s K g k u q ok hK hk)
 obtain⟨sR,wR,hR⟩:∃sR wR,closesF s g k=⟨sR,wR⟩:=⟨_,_,rfl⟩
 rw[hR] at TRN AN ⊢
 simp only at TRN AN ⊢
 have OK:=hide ok
 have H0:=hide h
 have hL:=h.lt
 clear h ok
 go_enter Tryz.func36,Tryz.ntmps36
 go_wp2_with fail
 refine wp_scope_forward 0 rfl ?_
 go_wp2_with fail
 refine (En.bare_any 0 g _).mono ?_
 rintro r w1 ⟨rfl,b1⟩
 have B1:=hide (btr (below_alloc w (.cells #[.int .i64 5,.int .i64 (k:Int),.int .i64 b,.slice oc n cc,.bool df] 46)) b1)
 have O1:=hide (heap_below (heap_new w (.cells #[.int .i64 5,.int .i64 (k:Int),.int .i64 b,.slice oc n cc,.bool df] 46)) b1)
 have s1:w.heap.size<w1.heap.size:=heap_lt O1.out
 have hL1:L<w1.heap.size:=by omega
 have o0:w1.cell? ⟨w.heap.size,0,none⟩=some (.int .i64 5):=cell_of O1.out 0
 have o1:w1.cell? ⟨w.heap.size,1,none⟩=some (.int .i64 (k:Int)):=cell_of O1.out 1
 have o2:w1.cell? ⟨w.heap.size,2,none⟩=some (.int .i64 b):=cell_of O1.out 2
 have o3:w1.cell? ⟨w.heap.size,3,none⟩=some (.slice oc n cc):=cell_of O1.out 3
 have o4:w1.cell? ⟨w.heap.size,4,none⟩=some (.bool df):=cell_of O1.out 4
 clear b1
 obtain⟨col3,h3,t3,n3⟩:=H0.out.below (btr B1.out (below_alloc w1 (.cells #[.int .i64 0,.int .i64 g,.int .i64 (-1),.int .i64 (-1),.int .i64 (-1),.int .i64 (-1),.bool false,.bool false] 40)))
 have T3:=hide t3
 have V3:=hide (heap_new w1 (.cells #[.int .i64 0,.int .i64 g,.int .i64 (-1),.int .i64 (-1),.int .i64 (-1),.int .i64 (-1),.bool false,.bool false] 40))
 have AL:=hide (AN.out _ col3 h3)
 have TRL:sR.tr.length≤1000000:=by have:=OK.out.tn;omega
 clear h3 t3 n3 TRN AN
 go_wp2_with fail
 refine AL.out.mono ?_
 rintro r w5 ⟨rfl,col5,h5,t5⟩
 have H5:=hide h5
 have T5:=hide (T3.out.trans t5)
 clear h5 t5 AL T3
 by_cases hw:wR=-1
 ·subst hw
  go_wp2_with fail
  simp only[Exit.jump]
  refine bodyPost_ret (results_none rfl _ _ _) rfl ?_
  exact⟨rfl,col5,H5.out,T5.out⟩
 ·have hw':(wR !=-1)=true:=by simp[hw]
  obtain⟨N,C,B,X,FB,pa,pc,bs,Fs,ta,tc,h5⟩:=H5.out
  have y14:=cell_of h5.hp 14
  have f14:=frozen_of h5.hp 14
  simp[lcs] at y14
  obtain⟨h6,t6⟩:=LX.self (s':={sR with pk:=true}) (i:=14) (v:=.bool true) h5 rfl h5.nml rfl
  have H6:=hide h6.lw
  have T6:=hide (Tr.trans T5.out t6)
  clear h5 h6 t6
  go_wp2_with fail
  refine wp_goto ⟨rfl,?_⟩
  go_wp2_with fail
  refine (En.bare_any 12 wR _).mono ?_
  rintro r w7 ⟨rfl,b7⟩
  obtain⟨col7,h7,t7,-⟩:=H6.out.below b7
  have T7:=hide (T6.out.trans t7)
  have TE:=hide (tell_any L col7 _ (bareE 12 wR) w7 h7 TRL)
  unfold En.evv En.evc bareE at TE
  clear h7 t7 b7
  go_wp2_with fail
  refine TE.out.mono ?_
  rintro r w9 ⟨rfl,col9,h9,t9⟩
  have H9:=hide h9
  have T9:=hide (T7.out.trans t9)
  clear h9 t9 TE
  go_wp2_with fail
  simp only[Exit.jump]
  go_end0
  exact⟨rfl,col9,by rw[if_neg hw];exact H9.out,T9.out⟩
set_option maxRecDepth 100000 in
theorem do_6(L:Nat)(col:Nat→Nat)(s:Lm)(K:Nat)(g a b:Int)(oc:Option Addr)(cs:List De.Cs)(cc:Nat)(df:Bool)(w:World)(h:LW w col L s)(ok:Ok K s)(hK:K≤90000)(hC:De.CAt w oc cs)(hCc:0<cs.length→∀a,oc=some a→col a.block=7)(h4:cs.length≤4)(hcs:∀c∈cs,0≤c.ch∧c.ch≤7):
 Calls Tryz.prog 36 #[.pointer (some ⟨L,0,none⟩),.int .i64 g,.agg #[.int .i64 6,.int .i64 a,.int .i64 b,.slice oc cs.length cc,.bool df]] w fun r w'=>r=.returned (.tuple #[])∧∃col',LW w' col' L (if (chooseF s g ⟨6,a,b,cs,df⟩).fine then (chooseF s g ⟨6,a,b,cs,df⟩).s else panicS (chooseF s g ⟨6,a,b,cs,df⟩).s g)∧Tr col col' w w':=by
 have TRN:=choose_tr s g ⟨6,a,b,cs,df⟩
 have AN:=hide (fun (u:World) (c:Nat→Nat) (q:LW u c L s) (x:De.CAt u oc cs) (y:0<cs.length→∀a,oc=some a→c a.block=7)=>choose_any L c s K g 6 a b cs df oc cc u q ok (by omega) x y h4 hcs)
 obtain⟨sR,fR,hR⟩:∃sR fR,chooseF s g ⟨6,a,b,cs,df⟩=⟨sR,fR⟩:=⟨_,_,rfl⟩
 rw[hR] at TRN AN ⊢
 simp only at TRN AN ⊢
 have HC:=hide hC
 have HCC:=hide hCc
 clear hC hCc hcs
 have OK:=hide ok
 have H0:=hide h
 have hL:=h.lt
 clear h ok
 go_enter Tryz.func36,Tryz.ntmps36
 go_wp2_with fail
 refine wp_scope_forward 0 rfl ?_
 go_wp2_with fail
 refine (En.bare_any 0 g _).mono ?_
 rintro r w1 ⟨rfl,b1⟩
 have B1:=hide (btr (below_alloc w (.cells #[.int .i64 6,.int .i64 a,.int .i64 b,.slice oc cs.length cc,.bool df] 46)) b1)
 have O1:=hide (heap_below (heap_new w (.cells #[.int .i64 6,.int .i64 a,.int .i64 b,.slice oc cs.length cc,.bool df] 46)) b1)
 have s1:w.heap.size<w1.heap.size:=heap_lt O1.out
 have hL1:L<w1.heap.size:=by omega
 have o0:w1.cell? ⟨w.heap.size,0,none⟩=some (.int .i64 6):=cell_of O1.out 0
 have o1:w1.cell? ⟨w.heap.size,1,none⟩=some (.int .i64 a):=cell_of O1.out 1
 have o2:w1.cell? ⟨w.heap.size,2,none⟩=some (.int .i64 b):=cell_of O1.out 2
 have o3:w1.cell? ⟨w.heap.size,3,none⟩=some (.slice oc cs.length cc):=cell_of O1.out 3
 have o4:w1.cell? ⟨w.heap.size,4,none⟩=some (.bool df):=cell_of O1.out 4
 clear b1
 obtain⟨col3,h3,t3,n3⟩:=H0.out.below (btr B1.out (below_alloc w1 (.cells #[.int .i64 0,.int .i64 g,.int .i64 (-1),.int .i64 (-1),.int .i64 (-1),.int .i64 (-1),.bool false,.bool false] 40)))
 have T3:=hide t3
 have V3:=hide (heap_new w1 (.cells #[.int .i64 0,.int .i64 g,.int .i64 (-1),.int .i64 (-1),.int .i64 (-1),.int .i64 (-1),.bool false,.bool false] 40))
 have O3:=hide (heap_below O1.out (below_alloc w1 (.cells #[.int .i64 0,.int .i64 g,.int .i64 (-1),.int .i64 (-1),.int .i64 (-1),.int .i64 (-1),.bool false,.bool false] 40)))
 have CH:=hide (AN.out _ col3 h3 (HC.out.below (btr B1.out (below_alloc w1 (.cells #[.int .i64 0,.int .i64 g,.int .i64 (-1),.int .i64 (-1),.int .i64 (-1),.int .i64 (-1),.bool false,.bool false] 40)))) (fun h0 a' e=>by
  obtain⟨b',off,e2,hc,_⟩:=HC.out 0 cs[0] (List.getElem?_eq_getElem h0)
  rw[e] at e2
  cases e2
  exact (t3.old b' (World.block_lt_of_cell? w _ hc)).trans (HCC.out h0 _ e)))
 have TRL:sR.tr.length≤1000000:=by have:=OK.out.tn;omega
 clear h3 t3 n3 TRN HC HCC AN
 go_wp2_with fail
 refine CH.out.mono ?_
 rintro r w5 ⟨rfl,col5,h5,t5⟩
 have H5:=hide h5
 have T5:=hide (T3.out.trans t5)
 clear h5 t5 CH T3
 cases fR
 ·skip
  obtain⟨N,C,B,X,FB,pa,pc,bs,Fs,ta,tc,h5⟩:=H5.out
  have y14:=cell_of h5.hp 14
  have f14:=frozen_of h5.hp 14
  simp[lcs] at y14
  obtain⟨h6,t6⟩:=LX.self (s':={sR with pk:=true}) (i:=14) (v:=.bool true) h5 rfl h5.nml rfl
  have H6:=hide h6.lw
  have T6:=hide (Tr.trans T5.out t6)
  clear h5 h6 t6
  go_wp2_with fail
  refine wp_goto ⟨rfl,?_⟩
  go_wp2_with fail
  refine (En.bare_any 12 g _).mono ?_
  rintro r w7 ⟨rfl,b7⟩
  obtain⟨col7,h7,t7,-⟩:=H6.out.below b7
  have T7:=hide (T6.out.trans t7)
  have TE:=hide (tell_any L col7 _ (bareE 12 g) w7 h7 TRL)
  unfold En.evv En.evc bareE at TE
  clear h7 t7 b7
  go_wp2_with fail
  refine TE.out.mono ?_
  rintro r w9 ⟨rfl,col9,h9,t9⟩
  have H9:=hide h9
  have T9:=hide (T7.out.trans t9)
  clear h9 t9 TE
  go_wp2_with fail
  simp only[Exit.jump]
  go_end0
  exact⟨rfl,col9,H9.out,T9.out⟩
 ·go_wp2_with fail
  simp only[Exit.jump]
  refine bodyPost_ret (results_none rfl _ _ _) rfl ?_
  exact⟨rfl,col5,H5.out,T5.out⟩
end Lo
namespace Ba
def CsAt(w:World)(oa:Option Addr)(cs:List Value):Prop:=∀j v,cs[j]? =some v→∃b off,oa=some ⟨b,off,none⟩∧w.cell? ⟨b,off+j,none⟩=some v
theorem CsAt.below{w w':World}{oa:Option Addr}{cs:List Value}(h:CsAt w oa cs)(hb:Below w.heap.size w w'):CsAt w' oa cs:=by
 intro j v hj
 obtain⟨b,off,he,hc⟩:=h j v hj
 exact⟨b,off,he,(hb.cell (World.block_lt_of_cell? w _ hc)).trans hc⟩
theorem run_mkG{t e:TypeId}{i:TypeInfo}{z:Value}(ht:Tryz.prog.underlying t=some (.slice e))(hi:Tryz.prog.info? e=some i)(hz:i.zero=some z)(w:World)(n:Nat)(hb:n*i.bytes≤1000000000)(hn:n≤1000000000):
 (Instr.makeSlice t (.int .i64 (n:Int)) (.int .i64 (n:Int))).run Tryz.prog w=.ok (.slice (some ⟨w.heap.size,0,none⟩) n n) (w.alloc (.cells (madeCells z.cells (n*i.size)) e)):=by
 have:=run_make (P:=Tryz.prog) w t e i z ht hi hz .i64 .i64 n n (by omega) (Int.le_refl _) (by rw[←Int.natCast_mul,Nat.mul_comm];omega) (by omega)
 rw[Int.toNat_natCast] at this
 exact this
theorem run_cpG{t e:TypeId}{i:TypeInfo}{z:Value}(ht:Tryz.prog.underlying t=some (.slice e))(hi:Tryz.prog.info? e=some i)(ty:TypeId)(w:World)(oa:Option Addr)(n c:Nat)(cs:List Value)(hl:cs.length=n*i.size)(hA:CsAt w oa cs)(h1:∀v∈cs,v.oneCell'=true)(hs:0<i.size):
 (Builtin.copy_ #[t,t] ty #[.slice (some ⟨w.heap.size,0,none⟩) n n,.slice oa n c]).run Tryz.prog (w.alloc (.cells (madeCells z.cells (n*i.size)) e))=.ok (goInt n) (w.alloc (.cells cs.toArray e)):=by
 have hfirst:(Builtin.firstCells i.size n (.slice oa n c)).run Tryz.prog (w.alloc (.cells (madeCells z.cells (n*i.size)) e))=.ok cs.toArray (w.alloc (.cells (madeCells z.cells (n*i.size)) e)):=by
  cases oa with
  |none=>
   have h0:cs=[]:=by
    cases cs with
    |nil=>rfl
    |cons v t=>
     obtain⟨_,_,he,_⟩:=hA 0 v rfl
     cases he
   have hn:n=0:=by
    rw[h0,List.length_nil] at hl
    rcases Nat.mul_eq_zero.1 hl.symm with q|q
    ·exact q
    ·omega
   subst h0 hn
   exact run_firstCells_none _ _ _ _ _
  |some a=>
   refine run_firstCells_some _ _ _ a n c cs hl ?_
   intro j v hj
   obtain⟨b,off,he,hc⟩:=hA.below (below_alloc w (.cells (madeCells z.cells (n*i.size)) e)) j v hj
   cases he
   rw[Addr.add_lit]
   exact hc
 have hst:=run_storeCells_at Tryz.prog w.heap.size 0 e cs 0 (madeCells z.cells (n*i.size)) (w.alloc (.cells (madeCells z.cells (n*i.size)) e)) (heap_new _ _) (by rw[size_madeCells];omega) h1
 have hd:(madeCells z.cells (n*i.size)).toList.drop (0+0+cs.length)=[]:=by
  apply List.drop_eq_nil_of_le
  rw[Array.length_toList,size_madeCells]
  omega
 rw[setRow_new,hd] at hst
 simp only[Nat.add_zero,List.take_zero,List.nil_append,List.append_nil] at hst
 simp[Builtin.copy_,run_underlying ht,Builtin.lenOf,sizeOf,typeInfo,hi,hfirst,hst]
theorem at_cs{w:World}{oa:Option Addr}{l:List Int}(h:At w oa l):CsAt w oa (l.map (Value.int .i64)):=by
 intro j v hj
 have hjl:j<l.length:=by
  have:=(List.getElem?_eq_some_iff.1 hj).1
  simpa using this
 obtain⟨b,off,he,hc⟩:=h j hjl
 refine⟨b,off,he,?_⟩
 rw[hc,nth_lt l j hjl]
 rw[List.getElem?_map,List.getElem?_eq_getElem hjl] at hj
 exact hj
end Ba
namespace Lo
open Ba
def EsAt(w:World)(oa:Option Addr)(l:List Ev):Prop:=
 ∀k e,l[k]? =some e→∃b off,oa=some ⟨b,off,none⟩∧∀j,j<8→w.cell? ⟨b,off+k*8+j,none⟩=(En.evc e)[j]?
theorem EsAt.nil(w:World)(oa:Option Addr):EsAt w oa []:=fun _ _ h=>by simp at h
theorem evc_some(e:Ev)(j:Nat)(h:j<8):∃v,(En.evc e)[j]? =some v:=⟨_,Array.getElem?_eq_getElem h⟩
theorem EsAt.below{w w':World}{oa:Option Addr}{l:List Ev}(h:EsAt w oa l)(hb:Below w.heap.size w w'):EsAt w' oa l:=by
 intro k e hk
 obtain⟨b,off,he,hc⟩:=h k e hk
 refine⟨b,off,he,fun j hj=>?_⟩
 obtain⟨v,hv⟩:=evc_some e j hj
 have:=hc j hj
 rw[hv] at this ⊢
 exact (hb.cell (World.block_lt_of_cell? w _ this)).trans this
def ccs(l:List De.Cs):List Value:=l.flatMap fun x=>[.bool x.send,.int .i64 x.ch,.int .i64 x.val]
theorem ccs_len(l:List De.Cs):(ccs l).length=l.length*3:=by
 induction l with
 |nil=>rfl
 |cons x l ih=>simp[ccs] at ih ⊢;omega
theorem ccs_at:∀(l:List De.Cs) (k:Nat) (x:De.Cs),l[k]? =some x→(ccs l)[k*3]? =some (.bool x.send)∧(ccs l)[k*3+1]? =some (.int .i64 x.ch)∧(ccs l)[k*3+2]? =some (.int .i64 x.val)
 |[],k,x,h=>by simp at h
 |y::l,0,x,h=>by
  simp at h
  subst h
  simp[ccs]
 |y::l,k+1,x,h=>by
  have ih:=ccs_at l k x (by simpa using h)
  have e:ccs (y::l)=.bool y.send::.int .i64 y.ch::.int .i64 y.val::ccs l:=rfl
  rw[e,show (k+1)*3=k*3+1+1+1 by omega]
  simpa using ih
theorem ccs_one(l:List De.Cs):∀u∈ccs l,u.oneCell'=true:=by
 intro u hu
 simp only[ccs,List.mem_flatMap] at hu
 obtain⟨e,_,hu⟩:=hu
 simp at hu
 rcases hu with rfl|rfl|rfl<;>rfl
theorem ec_at:∀(l:List Ev) (k:Nat) (e:Ev),l[k]? =some e→∀r,r<8→(ec l)[k*8+r]? =(En.evc e)[r]?
 |[],k,e,h,r,hr=>by simp at h
 |y::l,0,e,h,r,hr=>by
  simp at h
  subst h
  have e1:ec (y::l)=(En.evc y).toList++ec l:=rfl
  rw[e1,Nat.zero_mul,Nat.zero_add,List.getElem?_append_left (by simp[En.evc];omega)]
  simp
 |y::l,k+1,e,h,r,hr=>by
  have ih:=ec_at l k e (by simpa using h) r hr
  have e1:ec (y::l)=(En.evc y).toList++ec l:=rfl
  rw[e1,List.getElem?_append_right (by simp[En.evc];omega),←ih]
  congr 1
  simp[En.evc]
  omega
theorem cat_cs{w:World}{oa:Option Addr}{cs:List De.Cs}(h:De.CAt w oa cs):CsAt w oa (ccs cs):=by
 intro j v hj
 have hl:=(List.getElem?_eq_some_iff.1 hj).1
 rw[ccs_len] at hl
 have hk:j / 3<cs.length:=by omega
 obtain⟨b,off,e,h0,h1,h2⟩:=h (j / 3) cs[j / 3] (List.getElem?_eq_getElem hk)
 obtain⟨q0,q1,q2⟩:=ccs_at cs (j / 3) cs[j / 3] (List.getElem?_eq_getElem hk)
 refine⟨b,off,e,?_⟩
 rcases (show j=j / 3*3∨j=j / 3*3+1∨j=j / 3*3+2 by omega) with z|z|z
 ·rw[←z] at q0 h0
  rw[hj] at q0
  cases q0
  exact h0
 ·rw[←z] at q1
  rw[show off+j / 3*3+1=off+j by omega] at h1
  rw[hj] at q1
  cases q1
  exact h1
 ·rw[←z] at q2
  rw[show off+j / 3*3+2=off+j by omega] at h2
  rw[hj] at q2
  cases q2
  exact h2
theorem cs_cat{w:World}{b:Nat}{cs:List De.Cs}(h:∀j v,(ccs cs)[j]? =some v→w.cell? ⟨b,j,none⟩=some v):De.CAt w (some ⟨b,0,none⟩) cs:=by
 intro k x hk
 obtain⟨q0,q1,q2⟩:=ccs_at cs k x hk
 refine⟨b,0,rfl,?_,?_,?_⟩
 ·rw[Nat.zero_add];exact h _ _ q0
 ·rw[Nat.zero_add];exact h _ _ q1
 ·rw[Nat.zero_add];exact h _ _ q2
theorem es_cs{w:World}{oa:Option Addr}{l:List Ev}(h:EsAt w oa l):CsAt w oa (ec l):=by
 intro j v hj
 have hl:=(List.getElem?_eq_some_iff.1 hj).1
 rw[ec_len] at hl
 have hk:j / 8<l.length:=by omega
 obtain⟨b,off,e,hc⟩:=h (j / 8) l[j / 8] (List.getElem?_eq_getElem hk)
 refine⟨b,off,e,?_⟩
 have h1:=ec_at l (j / 8) l[j / 8] (List.getElem?_eq_getElem hk) (j % 8) (by omega)
 have h2:=hc (j % 8) (by omega)
 rw[show j / 8*8+j % 8=j by omega,hj] at h1
 rw[show off+j / 8*8+j % 8=off+j by omega,←h1] at h2
 exact h2
theorem cs_es{w:World}{b off:Nat}{l:List Ev}(h:∀j v,(ec l)[j]? =some v→w.cell? ⟨b,off+j,none⟩=some v):EsAt w (some ⟨b,off,none⟩) l:=by
 intro k e hk
 refine⟨b,off,rfl,fun j hj=>?_⟩
 have h1:=ec_at l k e hk j hj
 obtain⟨v,hv⟩:=evc_some e j hj
 rw[hv] at h1 ⊢
 rw[Nat.add_assoc]
 exact h _ _ h1
theorem own_zero(w:World)(t:TypeId)(z:Nat):(w.alloc (.cells #[] t)).ownsRow w.heap.size t z (.slice (some ⟨w.heap.size,0,none⟩) 0 0) 0 []:=by
 refine⟨by simp,.inr ⟨w.heap.size,0,#[],rfl,Nat.le_refl _,heap_new _ _,Nat.le_refl _,by unfold maxLen;omega,by simp,by simp⟩⟩
theorem own_es{w:World}{base:Nat}{v:Value}{l:List Ev}(h:w.ownsRow base 40 8 v l.length (ec l)):∃ob d,v=.slice ob l.length d∧EsAt w ob l∧l.length≤d∧∀a,ob=some a→base≤a.block:=by
 rcases h.2 with⟨rfl,h0⟩|⟨g,cap,cur,rfl,hbase,hg,hc,_,hcs,htk⟩
 ·obtain rfl:=List.eq_nil_of_length_eq_zero h0
  exact⟨none,0,rfl,EsAt.nil _ _,Nat.le_refl _,fun a e=>by cases e⟩
 ·refine⟨_,cap,rfl,cs_es fun j v hj=>?_,by omega,fun a e=>by cases e;exact hbase⟩
  have hjl:=(List.getElem?_eq_some_iff.1 hj).1
  rw[ec_len] at hjl
  rw[Nat.zero_add,cell_of hg]
  rw[←htk,List.getElem?_take_of_lt (by omega)] at hj
  simpa using hj
theorem own_ca{w:World}{base:Nat}{v:Value}{l:List De.Cs}(h:w.ownsRow base 108 3 v l.length (ccs l)):∃ob d,v=.slice ob l.length d∧De.CAt w ob l∧∀a,ob=some a→base≤a.block:=by
 rcases h.2 with⟨rfl,h0⟩|⟨g,cap,cur,rfl,hbase,hg,hc,_,hcs,htk⟩
 ·obtain rfl:=List.eq_nil_of_length_eq_zero h0
  exact⟨none,0,rfl,(fun k x hk=>by simp at hk),fun a e=>by cases e⟩
 ·refine⟨_,cap,rfl,cs_cat fun j v hj=>?_,fun a e=>by cases e;exact hbase⟩
  have hjl:=(List.getElem?_eq_some_iff.1 hj).1
  rw[ccs_len] at hjl
  rw[cell_of hg]
  rw[←htk,List.getElem?_take_of_lt (by omega)] at hj
  simpa using hj
theorem info_case:(Tryz.prog.info? 108).map (fun i=>(i.zero,i.size,i.bytes))=some (some (.agg #[.bool false,.int .i64 0,.int .i64 0]),3,24):=by kernel_rfl
theorem info_parts{P:Program}{t:TypeId}{z:Value}{n m:Nat}(h:(P.info? t).map (fun i=>(i.zero,i.size,i.bytes))=some (some z,n,m)):∃i,P.info? t=some i∧i.zero=some z∧i.size=n∧i.bytes=m:=by
 cases hi:P.info? t with
 |none=>rw[hi] at h;cases h
 |some i=>
  rw[hi] at h
  simp at h
  exact⟨i,rfl,h⟩
set_option maxRecDepth 100000 in
theorem clone_es(oa:Option Addr)(l:List Ev)(c:Nat)(w:World)(h:EsAt w oa l)(hl:l.length≤1000000):
 Calls Tryz.prog 37 #[.slice oa l.length c] w fun r w'=>∃ob d,r=.returned (.slice ob l.length d)∧EsAt w' ob l∧(l.length≤d∧∀a,ob=some a→w.heap.size≤a.block)∧Below w.heap.size w w':=by
 have qn:∀(w:World) (a:Option Addr) (n c n' c':Nat),(binOp .eql 28 (.slice a n c) (.slice none n' c')).run Tryz.prog w=.ok (.bool a.isNone) w:=fun w a n c n' c'=>Lib.run_eql_slice_nil w _ _ a n c n' c' Tryz.underlying28
 cases oa with
 |none=>
  have h0:l.length=0:=by
   rcases Nat.eq_zero_or_pos l.length with e|e
   ·exact e
   ·obtain⟨b,off,e2,_⟩:=h 0 l[0] (List.getElem?_eq_getElem e)
    cases e2
  obtain rfl:=List.eq_nil_of_length_eq_zero h0
  go_enter Tryz.func37,Tryz.ntmps37
  go_wp2_with fail
  go_ret
  exact⟨none,0,rfl,EsAt.nil _ _,⟨Nat.le_refl _,fun a e=>by cases e⟩,Below.refl _ _⟩
 |some ad=>
  have HS:=hide (es_cs (h.below (below_alloc w (.cells #[] 40))))
  obtain⟨i0,hi,hz0,hz1,hz2⟩:=info_parts info_ev
  have INF:=hide (And.intro hi (And.intro hz0 (And.intro hz1 hz2)))
  have ow0:(w.alloc (.cells #[] 40)).ownsRow w.heap.size 40 8 (.slice (some ⟨w.heap.size,0,none⟩) 0 0) 0 []:=own_zero w 40 8
  clear h hi hz0 hz1 hz2
  go_enter Tryz.func37,Tryz.ntmps37
  go_wp2_with (at_builtin;refine wpList_append_own_at _ rfl _ _ 28 rfl w.heap.size 40 i0 _ 8 56 Tryz.underlying28 INF.out.1 INF.out.2.1 INF.out.2.2.1 INF.out.2.2.2 rfl (by decide) _ _ _ rfl ow0 ad l.length c (ec l) rfl (ec_len l) ?c1 (ec_one l) ?c3 ?c4 ?c5 ?_)
  case c1=>
   intro j u hj
   obtain⟨b,off,e,hc⟩:=HS.out j u hj
   cases e
   rw[Addr.add_lit]
   exact hc
  case c3=>unfold maxLen;omega
  case c4=>omega
  case c5=>rw[World.size_alloc];omega
  intro v' w2 ho hg _ hat
  obtain⟨ob,d,hv,hA,hB⟩:=own_es ho
  subst hv
  have B2:Below w.heap.size w w2:=by
   have ba:=below_alloc w (.cells #[] 40)
   refine⟨hg.os.trans ba.os,hg.tape.trans ba.tape,hg.output.trans ba.output,Nat.le_trans ba.size hg.size,fun x hx=>?_⟩
   refine (hg.block x (by rw[World.size_alloc];omega) (fun e=>?_)).trans (ba.block x hx)
   have e':x=w.heap.size:=by simpa [Value.ownBlock] using e
   omega
  have HB2:=hide B2
  have HA:=hide hA
  have HBl:=hide hB
  clear ho hg hat B2 hA hB ow0
  go_wp2_with fail
  go_ret
  exact⟨ob,d,rfl,HA.out,HBl.out,HB2.out⟩
set_option maxRecDepth 100000 in
theorem clone_ca(oa:Option Addr)(l:List De.Cs)(c:Nat)(w:World)(h:De.CAt w oa l)(hl:l.length≤1000000):
 Calls Tryz.prog 97 #[.slice oa l.length c] w fun r w'=>∃ob d,r=.returned (.slice ob l.length d)∧De.CAt w' ob l∧(∀a,ob=some a→w.heap.size≤a.block)∧Below w.heap.size w w':=by
 have qn:∀(w:World) (a:Option Addr) (n c n' c':Nat),(binOp .eql 44 (.slice a n c) (.slice none n' c')).run Tryz.prog w=.ok (.bool a.isNone) w:=fun w a n c n' c'=>Lib.run_eql_slice_nil w _ _ a n c n' c' Tryz.underlying44
 cases oa with
 |none=>
  have h0:l.length=0:=by
   rcases Nat.eq_zero_or_pos l.length with e|e
   ·exact e
   ·obtain⟨b,off,e2,_⟩:=h 0 l[0] (List.getElem?_eq_getElem e)
    cases e2
  obtain rfl:=List.eq_nil_of_length_eq_zero h0
  go_enter Tryz.func97,Tryz.ntmps97
  go_wp2_with fail
  go_ret
  exact⟨none,0,rfl,(fun k x hk=>by simp at hk),(fun a e=>by cases e),Below.refl _ _⟩
 |some ad=>
  have HS:=hide (cat_cs (h.below (below_alloc w (.cells #[] 108))))
  obtain⟨i0,hi,hz0,hz1,hz2⟩:=info_parts info_case
  have INF:=hide (And.intro hi (And.intro hz0 (And.intro hz1 hz2)))
  have ow0:(w.alloc (.cells #[] 108)).ownsRow w.heap.size 108 3 (.slice (some ⟨w.heap.size,0,none⟩) 0 0) 0 []:=own_zero w 108 3
  clear h hi hz0 hz1 hz2
  go_enter Tryz.func97,Tryz.ntmps97
  go_wp2_with (at_builtin;refine wpList_append_own_at _ rfl _ _ 44 rfl w.heap.size 108 i0 _ 3 24 Tryz.underlying44 INF.out.1 INF.out.2.1 INF.out.2.2.1 INF.out.2.2.2 rfl (by decide) _ _ _ rfl ow0 ad l.length c (ccs l) rfl (ccs_len l) ?c1 (ccs_one l) ?c3 ?c4 ?c5 ?_)
  case c1=>
   intro j u hj
   obtain⟨b,off,e,hc⟩:=HS.out j u hj
   cases e
   rw[Addr.add_lit]
   exact hc
  case c3=>unfold maxLen;omega
  case c4=>omega
  case c5=>rw[World.size_alloc];omega
  intro v' w2 ho hg _ hat
  obtain⟨ob,d,hv,hA,hB⟩:=own_ca ho
  subst hv
  have B2:Below w.heap.size w w2:=by
   have ba:=below_alloc w (.cells #[] 108)
   refine⟨hg.os.trans ba.os,hg.tape.trans ba.tape,hg.output.trans ba.output,Nat.le_trans ba.size hg.size,fun x hx=>?_⟩
   refine (hg.block x (by rw[World.size_alloc];omega) (fun e=>?_)).trans (ba.block x hx)
   have e':x=w.heap.size:=by simpa [Value.ownBlock] using e
   omega
  have HB2:=hide B2
  have HA:=hide hA
  have HBl:=hide hB
  clear ho hg hat B2 hA hB ow0
  go_wp2_with fail
  go_ret
  exact⟨ob,d,rfl,HA.out,HBl.out,HB2.out⟩
end Lo
namespace Lo
open Ba
def opV(o:OpD)(oc:Option Addr)(cc:Nat):Value:=.agg #[.int .i64 o.kind,.int .i64 o.a,.int .i64 o.b,.slice oc o.cases.length cc,.bool o.def_]
theorem do_any(L:Nat)(col:Nat→Nat)(s:Lm)(K:Nat)(g:Int)(o:OpD)(oc:Option Addr)(cc:Nat)(w:World)(n:Int)(h:LW w col L s)(ok:Ok K s)(hK:K≤90000)(ho:De.chk o n=0)(hC:De.CAt w oc o.cases)(hCc:0<o.cases.length→∀a,oc=some a→col a.block=7):
 Calls Tryz.prog 36 #[.pointer (some ⟨L,0,none⟩),.int .i64 g,opV o oc cc] w fun r w'=>r=.returned (.tuple #[])∧∃col',LW w' col' L (doF s g o)∧Tr col col' w w':=by
 obtain⟨kind,a,b,cs,df⟩:=o
 obtain⟨-,hk,h4,ha,hb,-,hcs⟩:=op_ok ho
 simp only at hk h4 ha hb hcs hC hCc
 unfold opV
 simp only
 rcases (show kind=1∨kind=2∨kind=3∨kind=4∨kind=5∨kind=6∨kind=7∨kind=8∨kind=9 by omega) with rfl|rfl|rfl|rfl|rfl|rfl|rfl|rfl|rfl
 ·exact do_1 L col s K g a b oc cs.length cc df w h ok hK
 ·simp[De.mA,De.mB] at ha hb
  obtain⟨k,rfl⟩:∃k:Nat,a=(k:Int):=⟨a.toNat,by omega⟩
  obtain⟨z,rfl⟩:∃z:Nat,b=(z:Int):=⟨b.toNat,by omega⟩
  exact do_2 L col s K g k z oc cs.length cc df w h ok hK (by omega) (by omega)
 ·simp[De.mA] at ha
  obtain⟨k,rfl⟩:∃k:Nat,a=(k:Int):=⟨a.toNat,by omega⟩
  exact do_3 L col s K g k b oc cs.length cc df w h ok hK (by omega)
 ·simp[De.mA] at ha
  obtain⟨k,rfl⟩:∃k:Nat,a=(k:Int):=⟨a.toNat,by omega⟩
  exact do_4 L col s K g k b oc cs.length cc df w h ok hK (by omega)
 ·simp[De.mA] at ha
  obtain⟨k,rfl⟩:∃k:Nat,a=(k:Int):=⟨a.toNat,by omega⟩
  exact do_5 L col s K g k b oc cs.length cc df w h ok hK (by omega)
 ·exact do_6 L col s K g a b oc cs cc df w h ok hK hC hCc h4 (fun c hc=>(hcs c hc).1)
 ·exact do_7 L col s K g a b oc cs.length cc df w h ok hK
 ·exact do_8 L col s K g a b oc cs.length cc df w h ok hK
 ·exact do_9 L col s K g a b oc cs.length cc df w h ok hK
set_option maxRecDepth 100000 in
theorem verdict_any(L:Nat)(col:Nat→Nat)(s:Lm)(K:Nat)(w:World)(h:LW w col L s)(hb:Cr.Bn K s.cr):
 Calls Tryz.prog 16 #[.pointer (some ⟨L,0,none⟩)] w fun r w'=>r=.returned (.int .i64 (verd s))∧Below w.heap.size w w':=by
 obtain⟨N,C,B,X,FB,pa,pc,bs,Fs,ta,tc,h⟩:=h
 obtain⟨-,y1,y2,-,-,-,y14⟩:=h.cells
 unfold verd
 cases hp:s.pk
 ·rw[hp] at y14
  simp only[Bool.false_eq_true,if_false]
  have OV:=hide (Cr.over_any B FB s.cr K w h.cr hb)
  have H:=hide h
  generalize Cr.ovr s.cr=ov at OV ⊢
  have LE:=hide (fun u (hb:Below w.heap.size w u)=>Pk.left_any C s.p s.d u (H.out.cu.below hb).cur)
  have hL:=h.lt
  clear h
  by_cases h0:ov=0
  ·subst h0
   simp only[ne_eq,not_true,if_false]
   have Y1:=hide (fun u (hb:Below w.heap.size w u)=>cell_of (heap_below H.out.hp hb) 1)
   by_cases hl:s.p.length=0
   ·rw[if_pos hl]
    rw[hl] at LE
    go_enter Tryz.func16,Tryz.ntmps16
    go_wp2_with fail
    refine OV.out.mono ?_
    rintro r w1 ⟨rfl,b1⟩
    have z1:=Y1.out w1 b1
    simp[lcs] at z1
    have B1:=hide b1
    clear b1
    go_wp2_with fail
    refine (LE.out _ B1.out).mono ?_
    rintro r w2 ⟨rfl,b2⟩
    have B2:=hide (btr B1.out b2)
    clear b2
    go_wp2_with fail
    go_ret
    exact⟨rfl,B2.out⟩
   ·rw[if_neg hl]
    have hl':(((s.p.length:Nat):Int)==0)=false:=by rw[beq_eq_false_iff_ne];omega
    go_enter Tryz.func16,Tryz.ntmps16
    go_wp2_with fail
    refine OV.out.mono ?_
    rintro r w1 ⟨rfl,b1⟩
    have z1:=Y1.out w1 b1
    simp[lcs] at z1
    have B1:=hide b1
    clear b1
    go_wp2_with fail
    refine (LE.out _ B1.out).mono ?_
    rintro r w2 ⟨rfl,b2⟩
    have B2:=hide (btr B1.out b2)
    clear b2
    go_wp2_with fail
    go_ret
    exact⟨rfl,B2.out⟩
  ·rw[if_pos h0]
   have h0':(ov !=0)=true:=by simp[h0]
   go_enter Tryz.func16,Tryz.ntmps16
   go_wp2_with fail
   refine OV.out.mono ?_
   rintro r w1 ⟨rfl,b1⟩
   have B1:=hide b1
   clear b1
   go_wp2_with fail
   go_ret
   exact⟨rfl,B1.out⟩
 ·rw[hp] at y14
  simp only[if_true]
  clear h
  go_enter Tryz.func16,Tryz.ntmps16
  go_wp2_with fail
  go_ret
  exact⟨rfl,Below.refl _ _⟩
theorem size_op:(Tryz.prog.info? 46).map (·.size)=some 5:=by kernel_rfl
theorem loadVar_op{w:World}{b:Nat}{c:Array Value}{t:TypeId}(h:w.heap[b]? =some (.cells c t (0,0)))(hc:c.size=5):(loadVar 46 ⟨b,0,none⟩).run Tryz.prog w=.ok (.agg c) w:=
 run_loadVar_row w b t _ _ _ _ h Tryz.underlying46 rfl (by rw[size_op,hc])
theorem set5{w:World}{b:Nat}{t:TypeId}{a0 a1 a2 a3 a4 u0 u1 u2 u3 u4:Value}(h:w.heap[b]? =some (.cells #[a0,a1,a2,a3,a4] t (0,0))):(((((w.setCell ⟨b,0,none⟩ u0).setCell ⟨b,1,none⟩ u1).setCell ⟨b,2,none⟩ u2).setCell ⟨b,3,none⟩ u3).setCell ⟨b,4,none⟩ u4).heap[b]? =some (.cells #[u0,u1,u2,u3,u4] t (0,0)):=
 (Ba.heap_setCell_same (Ba.heap_setCell_same (Ba.heap_setCell_same (Ba.heap_setCell_same (Ba.heap_setCell_same h _) _) _) _) _).trans rfl
theorem cat_keep{w w':World}{oc:Option Addr}{cs:List De.Cs}(h:De.CAt w oc cs)(hk:∀a,oc=some a→a.block<w.heap.size→w'.heap[a.block]? =w.heap[a.block]?):De.CAt w' oc cs:=by
 intro k x hx
 obtain⟨b,off,e,h0,h1,h2⟩:=h k x hx
 have:=hk _ e (World.block_lt_of_cell? w ⟨b,off+k*3,none⟩ h0)
 simp only at this
 refine⟨b,off,e,?_,?_,?_⟩
 ·rw[←h0];simp only[World.cell?,this]
 ·rw[←h1];simp only[World.cell?,this]
 ·rw[←h2];simp only[World.cell?,this]
set_option maxRecDepth 100000 in
theorem oper_any(L:Nat)(col:Nat→Nat)(s:Lm)(g:Int)(p q:Nat)(w:World)(h:LW w col L s)(hp:(Cr.one0 (Cr.gt s.cr g)).p=(p:Int))(hq:(Cr.one0 (Cr.gt s.cr g)).q=(q:Int))(hpl:p<s.ps.length)(hs4:∀x∈s.ps,∀o∈x,o.cases.length≤4):
 Calls Tryz.prog 66 #[.pointer (some ⟨L,0,none⟩),.int .i64 g] w fun r w'=>∃oc cc,r=.returned (opV (opOf s g) oc cc)∧De.CAt w' oc (opOf s g).cases∧(∀a,oc=some a→w.heap.size≤a.block)∧Below w.heap.size w w':=by
 obtain⟨N,C,B,X,FB,pa,pc,bs,Fs,ta,tc,h⟩:=h
 obtain⟨P,hP⟩:∃P,s.ps[p]? =some P:=⟨_,List.getElem?_eq_getElem hpl⟩
 have hPm:P∈s.ps:=List.mem_of_getElem? hP
 have PA:=hide (h.ps w (fun _ _ _=>rfl))
 have AT:=hide (Cr.at_any B FB s.cr g (w.alloc (.cells #[.int .i64 0,.int .i64 0,.int .i64 0,.slice none 0 0,.bool false] 46)) (h.cr.below (below_alloc _ _)))
 rw[hp,hq] at AT
 obtain⟨y0,-,y2,-⟩:=h.cells
 have hL:=h.lt
 have e:opOf s g=(P[q]?).getD exitO:=by
  unfold opOf
  rw[hp,hq,Int.toNat_natCast,Int.toNat_natCast,hP]
  rfl
 rw[e]
 obtain⟨pb,po,qa,qc,hpa,hpc,hO,hPl⟩:=PA.out p P hP
 subst hpa
 have p0:(0:Int)≤(p:Int):=by omega
 have p1:(p:Int)<(s.ps.length:Int):=by omega
 clear h
 by_cases hlt:q<P.length
 ·obtain⟨o,hoq⟩:∃o,P[q]? =some o:=⟨_,List.getElem?_eq_getElem hlt⟩
  rw[hoq]
  simp only[Option.getD_some]
  obtain⟨ob,oo,ca,cc,hqa,⟨k0,k1,k2,k3,k4⟩,hCA,-⟩:=hO q o hoq
  subst hqa
  have h4:=hs4 P hPm o (List.mem_of_getElem? hoq)
  have hq1:¬((P.length:Int)≤(q:Int)):=by omega
  have hq2:(q:Int)<(P.length:Int):=by omega
  have hq0:(0:Int)≤(q:Int):=by omega
  have CA:=hide hCA
  clear hCA hO
  go_enter Tryz.func66,Tryz.ntmps66
  go_wp2_with fail
  refine AT.out.mono ?_
  rintro r w1 ⟨rfl,b1⟩
  have bb:=btr (below_alloc w (.cells #[.int .i64 0,.int .i64 0,.int .i64 0,.slice none 0 0,.bool false] 46)) b1
  have z0:=Sh.cellB y0 bb
  have zp:=Sh.cellB hpc bb
  have m0:=Sh.cellB k0 bb
  have m1:=Sh.cellB k1 bb
  have m2:=Sh.cellB k2 bb
  have m3:=Sh.cellB k3 bb
  have m4:=Sh.cellB k4 bb
  have Z1:=hide (heap_below (heap_new w (.cells #[.int .i64 0,.int .i64 0,.int .i64 0,.slice none 0 0,.bool false] 46)) b1)
  have BB:=hide bb
  have CA1:=hide (CA.out.below bb)
  have hz1:=heap_lt Z1.out
  have CL:=hide (clone_ca ca o.cases cc (w1.alloc (.cells #[.int .i64 o.kind,.int .i64 o.a,.int .i64 o.b,.slice ca o.cases.length cc,.bool o.def_] 46)) (CA1.out.below (below_alloc _ _)) (by omega))
  clear b1 bb AT PA y0 y2 hpc k0 k1 k2 k3 k4 CA
  go_wp2_with fail
  refine CL.out.mono ?_
  rintro r w3 ⟨oc,d,rfl,hc3,hn3,b3⟩
  have Z3:=hide (heap_below Z1.out (btr (below_alloc _ _) b3))
  have V3:=hide (heap_below (heap_new w1 (.cells #[.int .i64 o.kind,.int .i64 o.a,.int .i64 o.b,.slice ca o.cases.length cc,.bool o.def_] 46)) b3)
  have x0:=cell_of V3.out 0
  have x1:=cell_of V3.out 1
  have x2:=cell_of V3.out 2
  have x3:=cell_of V3.out 3
  have x4:=cell_of V3.out 4
  have xf:=frozen_of V3.out 3
  have r0:=cell_of Z3.out 0
  have r1:=cell_of Z3.out 1
  have r2:=cell_of Z3.out 2
  have r3:=cell_of Z3.out 3
  have r4:=cell_of Z3.out 4
  have f0:=frozen_of Z3.out 0
  have f1:=frozen_of Z3.out 1
  have f2:=frozen_of Z3.out 2
  have f3:=frozen_of Z3.out 3
  have f4:=frozen_of Z3.out 4
  simp at x0 x1 x2 x3 x4 r0 r1 r2 r3 r4
  have hne:w.heap.size≠w1.heap.size:=by omega
  have C3:=hide hc3
  rw[World.size_alloc] at hn3
  have N3:=hide hn3
  have B3:=hide (btr BB.out (btr (below_alloc _ _) b3))
  clear hc3 hn3 b3 CL z0 zp m0 m1 m2 m3 m4 CA1
  generalize w1.heap.size=Vb at*
  go_wp2_with fail
  have Z4:=((KB.refl Vb w3).setCell 3 (.slice oc o.cases.length d)).heap Z3.out hne
  refine bodyPost_ret (En.results_row1 Tryz.results66 _ _ _ _ rfl (loadVar_op (set5 Z4) rfl)) rfl ⟨oc,d,rfl,?_,?_,?_⟩
  ·have K1:=(KB.refl Vb w3).setCell 3 (.slice oc o.cases.length d)
   have K2:=(((((KB.refl w.heap.size (w3.setCell ⟨Vb,3,none⟩ (.slice oc o.cases.length d))).setCell 0 (.int .i64 o.kind)).setCell 1 (.int .i64 o.a)).setCell 2 (.int .i64 o.b)).setCell 3 (.slice oc o.cases.length d)).setCell 4 (.bool o.def_)
   refine cat_keep C3.out fun a e hl=>?_
   have:=N3.out a e
   exact (K2.block _ (Nat.lt_of_lt_of_le hl K1.size) (by omega)).trans (K1.block _ hl (by omega))
  ·intro a e
   have:=N3.out a e
   omega
  ·have:=B3.out.setCell (p:=⟨Vb,3,none⟩) (by show w.heap.size≤Vb;omega) (.slice oc o.cases.length d)
   exact ((((this.setCell (p:=⟨w.heap.size,0,none⟩) (Nat.le_refl _) _).setCell (p:=⟨w.heap.size,1,none⟩) (Nat.le_refl _) _).setCell (p:=⟨w.heap.size,2,none⟩) (Nat.le_refl _) _).setCell (p:=⟨w.heap.size,3,none⟩) (Nat.le_refl _) _).setCell (p:=⟨w.heap.size,4,none⟩) (Nat.le_refl _) _
 ·rw[List.getElem?_eq_none (by omega)]
  simp only[Option.getD_none]
  have hq1:(P.length:Int)≤(q:Int):=by omega
  go_enter Tryz.func66,Tryz.ntmps66
  go_wp2_with fail
  refine AT.out.mono ?_
  rintro r w1 ⟨rfl,b1⟩
  have bb:=btr (below_alloc w (.cells #[.int .i64 0,.int .i64 0,.int .i64 0,.slice none 0 0,.bool false] 46)) b1
  have z0:=Sh.cellB y0 bb
  have zp:=Sh.cellB hpc bb
  have Z3:=hide (heap_below (heap_new w (.cells #[.int .i64 0,.int .i64 0,.int .i64 0,.slice none 0 0,.bool false] 46)) b1)
  have r0:=cell_of Z3.out 0
  have r1:=cell_of Z3.out 1
  have r2:=cell_of Z3.out 2
  have r3:=cell_of Z3.out 3
  have r4:=cell_of Z3.out 4
  have f0:=frozen_of Z3.out 0
  have f1:=frozen_of Z3.out 1
  have f2:=frozen_of Z3.out 2
  have f3:=frozen_of Z3.out 3
  have f4:=frozen_of Z3.out 4
  simp at r0 r1 r2 r3 r4
  have BB:=hide bb
  clear b1 bb AT PA y0 y2 hpc hO
  go_wp2_with fail
  refine bodyPost_ret (En.results_row1 Tryz.results66 _ _ _ _ rfl (loadVar_op (set5 Z3.out) rfl)) rfl ⟨none,0,rfl,(fun k x hk=>by simp[exitO] at hk),(fun a e=>by cases e),?_⟩
  exact ((((BB.out.setCell (p:=⟨w.heap.size,0,none⟩) (Nat.le_refl _) _).setCell (p:=⟨w.heap.size,1,none⟩) (Nat.le_refl _) _).setCell (p:=⟨w.heap.size,2,none⟩) (Nat.le_refl _) _).setCell (p:=⟨w.heap.size,3,none⟩) (Nat.le_refl _) _).setCell (p:=⟨w.heap.size,4,none⟩) (Nat.le_refl _) _
end Lo
namespace Lo
open Ba
theorem results_tct{fn:Func}{p u v:Tmp}{ty:TypeId}(h:fn.results=#[.tmp u,.cell p ty,.tmp v])(tmps:Array Value)(w:World)(g:Nat)(cs:Array Value)(x y:Value)
 (hx:tmps.getD u undef=x) (hp:tmps.getD p undef=.pointer (some ⟨g,0,none⟩)) (hy:tmps.getD v undef=y) (hl:(loadVar ty ⟨g,0,none⟩).run Tryz.prog w=.ok (.agg cs) w):
 (results fn tmps).run Tryz.prog w=.ok (.tuple #[x,.agg cs,y]) w:=by
 subst hx
 subst hy
 have hp':tmps[p]?.getD undef=.pointer (some ⟨g,0,none⟩):=by simpa using hp
 simp[results,h,hp',asAddr,hl]
theorem below_kb{n D:Nat}{w a b:World}(h:Below n w a)(k:KB D a b)(hD:n≤D)(hs:n≤a.heap.size):Below n w b:=
 ⟨k.os.trans h.os,k.tape.trans h.tape,k.output.trans h.output,Nat.le_trans h.size k.size,fun x hx=>(k.block x (Nat.lt_of_lt_of_le hx hs) (by omega)).trans (h.block x hx)⟩
theorem below5{n b:Nat}{w a:World}(h:Below n w a)(hb:n≤b)(u0 u1 u2 u3 u4:Value):Below n w (((((a.setCell ⟨b,0,none⟩ u0).setCell ⟨b,1,none⟩ u1).setCell ⟨b,2,none⟩ u2).setCell ⟨b,3,none⟩ u3).setCell ⟨b,4,none⟩ u4):=
 ((((h.setCell (p:=⟨b,0,none⟩) hb _).setCell (p:=⟨b,1,none⟩) hb _).setCell (p:=⟨b,2,none⟩) hb _).setCell (p:=⟨b,3,none⟩) hb _).setCell (p:=⟨b,4,none⟩) hb _
set_option maxRecDepth 100000 in
theorem next_comp(L:Nat)(col:Nat→Nat)(s:Lm)(K:Nat)(w:World)(h:LW w col L s)(hb:Cr.Bn K s.cr)(hv:verd s=0)(hl:s.p.length≤1000∧s.d.length≤1000)(ht:nth s.p 0=-1):
 Calls Tryz.prog 32 #[.pointer (some ⟨L,0,none⟩)] w fun r w'=>r=.returned (.tuple #[.int .i64 (-1),.agg #[.int .i64 0,.int .i64 0,.int .i64 0,.slice none 0 0,.bool false],.bool true])∧Below w.heap.size w w':=by
 obtain⟨col1,h1,-,-⟩:=h.below (below_alloc w (.cells #[.int .i64 0,.int .i64 0,.int .i64 0,.slice none 0 0,.bool false] 46))
 have VE:=hide (verdict_any L col1 s K _ h1 hb)
 rw[hv] at VE
 obtain⟨N,C,B,X,FB,pa,pc,bs,Fs,ta,tc,h⟩:=h
 have H:=hide h
 have hL:=h.lt
 clear h h1
 go_enter Tryz.func32,Tryz.ntmps32
 go_wp2_with fail
 refine VE.out.mono ?_
 rintro r w1 ⟨rfl,b1⟩
 have bb:=btr (below_alloc w (.cells #[.int .i64 0,.int .i64 0,.int .i64 0,.slice none 0 0,.bool false] 46)) b1
 have z1:=cell_of (heap_below H.out.hp bb) 1
 simp[lcs] at z1
 have CO:=hide (Pk.copy_any C s.p s.d w1 (H.out.cu.below bb).cur hl.1 hl.2)
 have Z1:=hide (heap_below (heap_new w (.cells #[.int .i64 0,.int .i64 0,.int .i64 0,.slice none 0 0,.bool false] 46)) b1)
 have BB:=hide bb
 clear b1 bb VE
 go_wp2_with fail
 refine CO.out.mono ?_
 rintro r w2 ⟨D,rfl,hD,cu2,b2⟩
 have NX:=hide (Pk.next_any D s.p s.d w2 cu2)
 rw[ht] at NX
 have Z2:=hide (heap_below Z1.out b2)
 have B2:=hide (btr BB.out b2)
 have hs1:=heap_lt Z1.out
 clear cu2 b2 CO
 go_wp2_with fail
 refine NX.out.mono ?_
 rintro r w3 ⟨rfl,-,kb3⟩
 have Z3:=hide (kb3.heap Z2.out (by omega))
 have B3:=hide (below_kb B2.out kb3 (by omega) B2.out.size)
 clear kb3 NX
 have r0:=cell_of Z3.out 0
 have r1:=cell_of Z3.out 1
 have r2:=cell_of Z3.out 2
 have r3:=cell_of Z3.out 3
 have r4:=cell_of Z3.out 4
 have f0:=frozen_of Z3.out 0
 have f1:=frozen_of Z3.out 1
 have f2:=frozen_of Z3.out 2
 have f3:=frozen_of Z3.out 3
 have f4:=frozen_of Z3.out 4
 simp at r0 r1 r2 r3 r4
 go_wp2_with fail
 exact bodyPost_ret (results_tct Tryz.results32 _ _ _ _ _ _ rfl rfl rfl (loadVar_op (set5 Z3.out) rfl)) rfl ⟨rfl,below5 B3.out (Nat.le_refl _) _ _ _ _ _⟩
set_option maxRecDepth 100000 in
theorem next_op(L:Nat)(col:Nat→Nat)(s:Lm)(K p q:Nat)(w:World)(h:LW w col L s)(hb:Cr.Bn K s.cr)(hv:verd s=0)(hl:s.p.length≤1000∧s.d.length≤1000)(ht:nth s.p 0≠-1)
 (hp:(Cr.one0 (Cr.gt s.cr (whoN s))).p=(p:Int)) (hq:(Cr.one0 (Cr.gt s.cr (whoN s))).q=(q:Int)) (hpl:p<s.ps.length) (hs4:∀x∈s.ps,∀o∈x,o.cases.length≤4):
 Calls Tryz.prog 32 #[.pointer (some ⟨L,0,none⟩)] w fun r w'=>∃oc cc,r=.returned (.tuple #[.int .i64 (whoN s),opV (opOf s (whoN s)) oc cc,.bool true])∧De.CAt w' oc (opOf s (whoN s)).cases∧(∀a,oc=some a→w.heap.size≤a.block)∧Below w.heap.size w w':=by
 obtain⟨col1,h1,-,-⟩:=h.below (below_alloc w (.cells #[.int .i64 0,.int .i64 0,.int .i64 0,.slice none 0 0,.bool false] 46))
 have VE:=hide (verdict_any L col1 s K _ h1 hb)
 rw[hv] at VE
 have HL:=hide h
 obtain⟨N,C,B,X,FB,pa,pc,bs,Fs,ta,tc,h⟩:=h
 have H:=hide h
 have hL:=h.lt
 have hcr:=h.cr.le
 have OP:=hide (fun u c (q':LW u c L s)=>oper_any L c s (whoN s) p q u q' hp hq hpl hs4)
 have ht':(nth s.p 0==-1)=false:=by simp[ht]
 have hwho:Pk.ofx (nth s.p 0) (Cr.abl s.cr)=whoN s:=rfl
 clear h h1
 generalize opOf s (whoN s)=o at OP ⊢
 generalize whoN s=g at*
 generalize hT:nth s.p 0=t at*
 go_enter Tryz.func32,Tryz.ntmps32
 go_wp2_with fail
 refine VE.out.mono ?_
 rintro r w1 ⟨rfl,b1⟩
 have bb:=btr (below_alloc w (.cells #[.int .i64 0,.int .i64 0,.int .i64 0,.slice none 0 0,.bool false] 46)) b1
 have z1:=cell_of (heap_below H.out.hp bb) 1
 simp[lcs] at z1
 have CO:=hide (Pk.copy_any C s.p s.d w1 (H.out.cu.below bb).cur hl.1 hl.2)
 have Z1:=hide (heap_below (heap_new w (.cells #[.int .i64 0,.int .i64 0,.int .i64 0,.slice none 0 0,.bool false] 46)) b1)
 have BB:=hide bb
 clear b1 bb VE
 go_wp2_with fail
 refine CO.out.mono ?_
 rintro r w2 ⟨D,rfl,hD,cu2,b2⟩
 have NX:=hide (Pk.next_any D s.p s.d w2 cu2)
 rw[hT] at NX
 have Z2:=hide (heap_below Z1.out b2)
 have B2:=hide (btr BB.out b2)
 have hs1:=heap_lt Z1.out
 clear cu2 b2 CO
 go_wp2_with fail
 refine NX.out.mono ?_
 rintro r w3 ⟨rfl,-,kb3⟩
 have Z3:=hide (kb3.heap Z2.out (by omega))
 have B3:=hide (below_kb B2.out kb3 (by omega) B2.out.size)
 clear kb3 NX
 have y2:w3.cell? ⟨L,2,none⟩=some (.pointer (some ⟨B,0,none⟩)):=cell_of (heap_below H.out.hp B3.out) 2
 have AB:=hide (Cr.able_any B FB s.cr w3 (H.out.cr.below B3.out))
 have al:=Cr.abl_len s.cr
 go_wp2_with fail
 refine AB.out.mono ?_
 rintro r w4 ⟨ob,d,rfl,at4,b4⟩
 have OF:=hide (Pk.of_any t ob (Cr.abl s.cr) d w4 at4 (by unfold maxLen;omega))
 rw[hwho] at OF
 have Z4:=hide (heap_below Z3.out b4)
 have B4:=hide (btr B3.out b4)
 clear at4 b4 AB
 go_wp2_with fail
 refine OF.out.mono ?_
 rintro r w5 ⟨rfl,rfl⟩
 obtain⟨col5,h5,-,-⟩:=HL.out.below B4.out
 have OP5:=hide (OP.out _ col5 h5)
 clear h5 OP OF
 go_wp2_with fail
 refine OP5.out.mono ?_
 rintro r w6 ⟨oc,cc,rfl,hc6,hn6,b6⟩
 have Z6:=hide (heap_below Z4.out b6)
 have B6:=hide (btr B4.out b6)
 have C6:=hide hc6
 have N6:Hid (∀a,oc=some a→w.heap.size<a.block):=fun a e=>by
  have:=hn6 a e
  have:=heap_lt Z4.out
  omega
 clear hc6 hn6 b6 OP5
 have r0:=cell_of Z6.out 0
 have r1:=cell_of Z6.out 1
 have r2:=cell_of Z6.out 2
 have r3:=cell_of Z6.out 3
 have r4:=cell_of Z6.out 4
 have f0:=frozen_of Z6.out 0
 have f1:=frozen_of Z6.out 1
 have f2:=frozen_of Z6.out 2
 have f3:=frozen_of Z6.out 3
 have f4:=frozen_of Z6.out 4
 simp at r0 r1 r2 r3 r4
 unfold opV
 go_wp2_with fail
 refine bodyPost_ret (results_tct Tryz.results32 _ _ _ _ _ _ rfl rfl rfl (loadVar_op (set5 Z6.out) rfl)) rfl ⟨oc,cc,rfl,?_,fun a e=>Nat.le_of_lt (N6.out a e),below5 B6.out (Nat.le_refl _) _ _ _ _ _⟩
 have K2:=(((((KB.refl w.heap.size w6).setCell 0 (.int .i64 o.kind)).setCell 1 (.int .i64 o.a)).setCell 2 (.int .i64 o.b)).setCell 3 (.slice oc o.cases.length cc)).setCell 4 (.bool o.def_)
 refine cat_keep C6.out fun a e hl=>?_
 have:=N6.out a e
 exact K2.block _ hl (by omega)
end Lo
end Go.Proofs.YtogkjaekfhjelaaGreat
