import Derived.Test.YtkkgbeaaekmhfaaGreatZjGl5
import Derived.Laws.AppendOwn
import Derived.Lib.AppendZeros
import Derived.Deep.RegionWith
import Derived.Maps.AppendAt
namespace Go.Proofs.YtkkgbeaaekmhfaaGreat
open Go.ChangeShapes Go.WideShapes Go.ChangeAt Go.RowKit
namespace Pe
open Ba
def ms (m : List (Nat × Wt)) : Value → Nat
 | .pointer (some a) => m.length - (m.map (·.1)).idxOf a.block
 | _ => 0
theorem ms_none (m : List (Nat × Wt)) : ms m (.pointer none) = 0 := rfl
theorem ms_at {m pre t : List (Nat × Wt)} {n : Nat × Wt} (h : m = pre ++ n :: t) (hn : (m.map (·.1)).Nodup) : ms m (.pointer (some ⟨n.1, 0, none⟩)) = t.length + 1 := by
 subst h
 unfold ms
 simp only
 rw [List.map_append, List.map_cons, List.idxOf_append]
 rw [List.map_append, List.map_cons, List.nodup_append] at hn
 have : n.1 ∉ pre.map (·.1) := fun hm => hn.2.2 n.1 hm n.1 (List.mem_cons_self ..) rfl
 rw [if_neg this, List.idxOf_cons_self]
 simp
theorem ms_ch {w : World} {m pre rest : List (Nat × Wt)} {o : Option Nat} (h : m = pre ++ rest) (hn : (m.map (·.1)).Nodup) (hc : Ch w o rest none) : ms m (pt o) = rest.length := by
 cases rest with
 | nil => cases hc; rfl
 | cons n t =>
   obtain ⟨rfl, _⟩ := hc
   exact ms_at h hn
def hasb (g : Int) (l : List Wt) : Bool := l.any fun x => x.g == g
end Pe
end Go.Proofs.YtkkgbeaaekmhfaaGreat
namespace Go.Proofs.YtkkgbeaaekmhfaaGreat
open Go.ChangeShapes Go.WideShapes Go.ChangeAt Go.RowKit
namespace Pe
open Ba
def dr (g : Int) (l : List Wt) : List Wt := l.filter fun x => !(x.g == g)
theorem dr_len (g : Int) (l : List Wt) : (dr g l).length ≤ l.length := List.length_filter_le _ _
structure Ds (w wr : World) (P : Nat) (F : Nat → Prop) (g : Int) (m K rest : List (Nat × Wt)) (gone : Nat) (o : Option Nat) : Prop where
 f : ∃ f mid last, Hd wr P f last m.length ∧ Ch wr f K mid
 c : Ch wr o rest none
 nd : ((K ++ rest).map (·.1)).Nodup
 gt : ∀ n ∈ K ++ rest, P < n.1
 fil : dr g (m.map (·.2)) = K.map (·.2) ++ dr g (rest.map (·.2))
 suf : ∃ pre, m = pre ++ rest
 cnt : gone + K.length + rest.length = m.length
 ft : KF F w wr
 fa : ∀ n ∈ m, F n.1
 fk : ∀ n ∈ K, F n.1
 fp : F P
theorem Ds.skip {w wr : World} {P : Nat} {F : Nat → Prop} {g : Int} {m K t : List (Nat × Wt)} {gone : Nat} {b : Nat} {y : Wt} {o nx : Option Nat} (h : Ds w wr P F g m K ((b, y) :: t) gone o) (hg : (y.g == g) = true) (hc : Ch wr nx t none) : Ds w wr P F g m K t (gone + 1) nx := by
 obtain ⟨pre, hm⟩ := h.suf
 refine ⟨h.f, hc, ?_, ?_, ?_, ⟨pre ++ [(b, y)], by rw [hm]; simp⟩, ?_, h.ft, h.fa, h.fk, h.fp⟩
 ·have := h.nd
  rw [List.map_append, List.map_cons, List.nodup_append, List.nodup_cons] at this
  rw [List.map_append, List.nodup_append]
  exact ⟨this.1, this.2.1.2, fun a ha c hc => this.2.2 a ha c (List.mem_cons_of_mem _ hc)⟩
 ·intro n hn
  rcases List.mem_append.1 hn with q | q
  ·exact h.gt n (List.mem_append_left _ q)
  ·exact h.gt n (List.mem_append_right _ (List.mem_cons_of_mem _ q))
 ·rw [h.fil]
  congr 1
  simp [dr, hg]
 ·have := h.cnt
  simp at this
  omega
theorem Ds.keep {w wr w3 : World} {P : Nat} {F : Nat → Prop} {g : Int} {m K t : List (Nat × Wt)} {gone : Nat} {b : Nat} {y : Wt} {o nx : Option Nat} (h : Ds w wr P F g m K ((b, y) :: t) gone o) (hg : (y.g == g) = false) (hf : ∃ f last, Hd w3 P f last m.length ∧ Ch w3 f K (some b)) (hs : Sc w3 b y nx) (hc : Ch w3 nx t none) (ft : KF F w w3) : Ds w w3 P F g m (K ++ [(b, y)]) t gone nx := by
 obtain ⟨pre, hm⟩ := h.suf
 obtain ⟨f, last, h1, h2⟩ := hf
 refine ⟨⟨f, nx, last, h1, Ch.app.2 ⟨some b, h2, rfl, nx, hs, rfl⟩⟩, hc, ?_, ?_, ?_, ⟨pre ++ [(b, y)], by rw [hm]; simp⟩, ?_, ft, h.fa, fun n hn => ?_, h.fp⟩
 ·have := h.nd
  rw [List.append_cons] at this
  exact this
 ·have := h.gt
  rw [List.append_cons] at this
  exact this
 ·rw [h.fil]
  simp [dr, hg]
 ·have := h.cnt
  simp at this ⊢
  omega
 ·rcases List.mem_append.1 hn with q | q
  ·exact h.fk n q
  ·simp at q
   subst q
   exact h.fa _ (by rw [hm]; simp)
theorem Ds.dj {w wr : World} {P : Nat} {F : Nat → Prop} {g : Int} {m K0 rest : List (Nat × Wt)} {n0 : Nat × Wt} {gone : Nat} {o : Option Nat} (h : Ds w wr P F g m (K0 ++ [n0]) rest gone o) : (∀ n ∈ K0, n.1 ≠ n0.1) ∧ (∀ n ∈ rest, n.1 ≠ n0.1) ∧ P < n0.1 := by
 have := h.nd
 rw [List.append_assoc, List.map_append, List.nodup_append] at this
 refine ⟨fun n hn e => this.2.2 n.1 (List.mem_map.2 ⟨n, hn, rfl⟩) n0.1 (by simp) e, fun n hn e => ?_, h.gt n0 (by simp)⟩
 have h2 := this.2.1
 rw [List.map_append, List.nodup_append] at h2
 exact h2.2.2 n0.1 (by simp) n.1 (List.mem_map.2 ⟨n, hn, rfl⟩) e.symm
theorem Ds.fin {w wr w3 : World} {P : Nat} {F : Nat → Prop} {g : Int} {m K : List (Nat × Wt)} {gone : Nat} {o : Option Nat} (h : Ds w wr P F g m K [] gone o) (hm : m.length ≤ 1024) (hbd : Bd F w) (hf : ∃ f last, Hd w3 P f last m.length ∧ Ch w3 f K none) (ft : KF F w w3) (x : Int) (hx : x = (m.length : Int) - (gone : Int)) : KF F w ((w3.setCell ⟨P, 1, none⟩ (pt (lst K))).setCell ⟨P, 2, none⟩ (.int .i64 x)) ∧ PF ((w3.setCell ⟨P, 1, none⟩ (pt (lst K))).setCell ⟨P, 2, none⟩ (.int .i64 x)) P F (dr g (m.map (·.2))) := by
 obtain ⟨f, last, h1, h2⟩ := hf
 have hc := h.cnt
 simp at hc
 have hn := h.nd
 have hg := h.gt
 rw [List.append_nil] at hn hg
 have KK := (ft.set h.fp 1 (pt (lst K))).set h.fp 2 (.int .i64 x)
 refine ⟨KK, ⟨K, ?_, ⟨f, (h1.setL (lst K)).setN K.length x (by omega), (h2.set _ (fun n hn => by have := hg n hn; omega)).set _ (fun n hn => by have := hg n hn; omega), hn, hg, by omega⟩, h.fk, h.fp, hbd.mono KK.size⟩⟩
 rw [h.fil]
 simp [dr]
theorem drop_nil (g : Int) (w : World) :
 Calls Tryz.prog 135 #[.pointer none, .int .i64 g] w fun r w' => r = .returned (.int .i64 0) ∧ w' = w := by
 go_enter Tryz.func135, Tryz.ntmps135
 go_wp2_with fail
 go_step3
 go_wp2_with fail
 rw [Exit.noGoto_ret]
 go_ret
 exact ⟨rfl, rfl⟩
set_option maxRecDepth 100000 in
set_option maxHeartbeats 3200000 in
theorem drop_n (P : Nat) (F : Nat → Prop) (m : List (Nat × Wt)) (g : Int) (w : World) (h : Pn w P m) (hF1 : ∀ n ∈ m, F n.1) (hF2 : F P) (hF3 : Bd F w) :
 Calls Tryz.prog 135 #[.pointer (some ⟨P, 0, none⟩), .int .i64 g] w fun r w' => (∃ gone : Nat, r = .returned (.int .i64 (gone : Int)) ∧ gone + (dr g (m.map (·.2))).length = m.length) ∧ KF F w w' ∧ PF w' P F (dr g (m.map (·.2))) := by
 obtain ⟨f, h1, h2, h3, h4, h5⟩ := h
 have DS0 : Hid (Ds w w P F g m [] m 0 f) := ⟨⟨f, f, _, h1, rfl⟩, h2, by simpa using h3, by simpa using h4, by simp, ⟨[], rfl⟩, by simp, KF.refl _ _, hF1, fun _ h => by simp at h, hF2⟩
 have FB := hide hF3
 clear hF1 hF2 hF3
 have ND := hide h3
 have y0 : w.cell? ⟨P, 0, none⟩ = some (.pointer (f.map fun b => ⟨b, 0, none⟩)) := cell_of h1 0
 clear h1 h2 h3 h4
 go_enter Tryz.func135, Tryz.ntmps135
 go_wp2_with fail
 go_step3
 go_wp2_with fail
 go_step3
 go_wp2_with fail
 go_loopw [5, 6, 7] (fun c st s wr => ∃ (K rest : List (Nat × Wt)) (gone : Nat) (o : Option Nat), c = .int .i64 (gone : Int) ∧ st = pt (lst K) ∧ s = pt o ∧ Ds w wr P F g m K rest gone o) (fun _ _ s _ => ms m s)
 case atStart => exact ⟨[], m, 0, f, rfl, rfl, rfl, DS0.out⟩
 case round =>
  clear DS0 y0
  obtain ⟨K, rest, gone, o, rfl, rfl, rfl, ds⟩ := hrel
  have DS := hide ds
  clear ds
  have hcnt := DS.out.cnt
  cases rest with
  | nil =>
    have e0 : o = none := DS.out.c
    subst e0
    simp at hcnt
    rw [show pt none = .pointer none from rfl]
    obtain ⟨f1, mid1, last1, hd1, ch1⟩ := DS.out.f
    rcases List.eq_nil_or_concat K with rfl | ⟨K0, n0, rfl⟩
    ·rw [show pt (lst []) = .pointer none from rfl]
     go_wp2_with fail
     refine (link_none P f1 last1 m.length none _ hd1).mono ?_
     rintro r w3 ⟨rfl, hw3⟩
     have HF : Hid (∃ f last, Hd w3 P f last m.length ∧ Ch w3 f [] none) := by rw [hw3]; exact ⟨none, last1, Hd.setF hd1 none, rfl⟩
     have F3 : Hid (KF F w w3) := by rw [hw3]; exact DS.out.ft.set DS.out.fp 0 _
     clear hw3 hd1 ch1
     obtain ⟨f3, last3, hd3, _⟩ := HF.out
     have y1 := cell_of hd3 1
     have y2 := cell_of hd3 2
     have z1 := frozen_of hd3 1
     have z2 := frozen_of hd3 2
     simp at y1 y2
     clear hd3
     have FI := hide fun x hx => DS.out.fin h5 FB.out HF.out F3.out x hx
     rw [show pt (lst []) = .pointer none from rfl] at FI
     go_wp2_with fail
     try rw [Exit.noGoto_ret]
     go_ret
     exact ⟨⟨gone, by first | rfl | (simp), by have := DS.out.fil; have hc := DS.out.cnt; rw [this]; simp [dr] at hc ⊢; omega⟩, FI.out _ (by omega)⟩
    ·rw [List.concat_eq_append] at *
     rw [show pt (lst (K0 ++ [n0])) = .pointer (some ⟨n0.1, 0, none⟩) by rw [lst_app]; rfl]
     obtain ⟨dj1, _, dj3⟩ := DS.out.dj
     go_wp2_with fail
     refine (link_some _ n0.1 n0.2 mid1 none _ ch1.sc).mono ?_
     rintro r w3 ⟨rfl, hw3⟩
     have HF : Hid (∃ f last, Hd w3 P f last m.length ∧ Ch w3 f (K0 ++ [n0]) none) := by rw [hw3]; exact ⟨f1, last1, Hd.other hd1 _ (by omega), ch1.relast dj1 none⟩
     have F3 : Hid (KF F w w3) := by rw [hw3]; exact DS.out.ft.set (DS.out.fk n0 (by simp)) 3 _
     clear hw3 hd1 ch1 dj1
     obtain ⟨f3, last3, hd3, _⟩ := HF.out
     have y1 := cell_of hd3 1
     have y2 := cell_of hd3 2
     have z1 := frozen_of hd3 1
     have z2 := frozen_of hd3 2
     simp at y1 y2
     clear hd3
     have FI := hide fun x hx => DS.out.fin h5 FB.out HF.out F3.out x hx
     rw [show pt (lst (K0 ++ [n0])) = .pointer (some ⟨n0.1, 0, none⟩) by rw [lst_app]; rfl] at FI
     go_wp2_with fail
     try rw [Exit.noGoto_ret]
     go_ret
     exact ⟨⟨gone, by first | rfl | (simp), by have := DS.out.fil; have hc := DS.out.cnt; rw [this]; simp [dr] at hc ⊢; omega⟩, FI.out _ (by omega)⟩
  | cons n t =>
    obtain ⟨b, y⟩ := n
    have eo : o = some b := DS.out.c.1
    subst eo
    obtain ⟨pre0, hpre0⟩ := DS.out.suf
    have MS := hide (ms_ch hpre0 ND.out DS.out.c)
    clear hpre0
    rw [show pt (some b) = .pointer (some ⟨b, 0, none⟩) from rfl] at MS ⊢
    go_wp2_with fail
    go_loop [5, 7] (fun c s => ∃ (b' : Nat) (y' : Wt) (t' : List (Nat × Wt)) (gone' : Nat), c = .int .i64 (gone' : Int) ∧ s = .pointer (some ⟨b', 0, none⟩) ∧ t'.length ≤ t.length ∧ Ds w wr P F g m K ((b', y') :: t') gone' (some b')) (fun _ s => ms m s)
    case atStart => exact ⟨b, y, t, gone, rfl, rfl, Nat.le_refl _, DS.out⟩
    case round =>
     clear DS hcnt
     obtain ⟨b', y', t', gone', rfl, rfl, ht', ds⟩ := hrel
     have DS := hide ds
     clear ds
     have hcnt := DS.out.cnt
     simp at hcnt
     obtain ⟨_, nx, hs, hc⟩ := DS.out.c
     obtain ⟨pre1, hpre1⟩ := DS.out.suf
     have M1 := hide (ms_ch hpre1 ND.out DS.out.c)
     have M2 := hide (ms_ch (pre := pre1 ++ [(b', y')]) (by rw [hpre1]; simp) ND.out hc)
     rw [show pt (some b') = .pointer (some ⟨b', 0, none⟩) from rfl] at M1
     clear hpre1
     have y0 := cell_of hs 0
     have y3 : wr.cell? ⟨b', 3, none⟩ = some (pt nx) := cell_of hs 3
     simp at y0
     have HS := hide hs
     have HC := hide hc
     clear hs hc
     cases hg : y'.g == g
     ·skip
      obtain ⟨f1, mid1, last1, hd1, ch1⟩ := DS.out.f
      have hPb := DS.out.gt (b', y') (by simp)
      have hPb2 : P < b' := hPb
      clear hPb
      unfold pt at y3
      generalize hq : nx.map (fun b => (⟨b, 0, none⟩ : Addr)) = q at y3
      have HQ : Hid (Value.pointer q = pt nx) := by show _ = _; rw [← hq]; rfl
      clear hq
      have NB : Hid (∀ n ∈ K ++ t', n.1 ≠ b') := by
       intro n hn e
       have := DS.out.nd
       rw [List.map_append, List.map_cons, List.nodup_append, List.nodup_cons] at this
       rcases List.mem_append.1 hn with z | z
       ·exact this.2.2 n.1 (List.mem_map.2 ⟨n, z, rfl⟩) b' (by simp) e
       ·exact this.2.1.1 (List.mem_map.2 ⟨n, z, e⟩)
      rcases List.eq_nil_or_concat K with rfl | ⟨K0, n0, rfl⟩
      ·rw [show pt (lst []) = .pointer none from rfl]
       go_wp2_with fail
       refine (link_none P f1 last1 m.length (some ⟨b', 0, none⟩) _ hd1).mono ?_
       rintro r w3 ⟨rfl, hw3⟩
       have S3 : Hid (Sc w3 b' y' nx) := by rw [hw3]; exact HS.out.other _ (by omega)
       have D3 : Hid (Ds w w3 P F g m ([] ++ [(b', y')]) t' gone' nx) := by
        refine DS.out.keep hg ⟨some b', last1, by rw [hw3]; exact Hd.setF hd1 (some b'), rfl⟩ S3.out ?_ (by rw [hw3]; exact DS.out.ft.set DS.out.fp 0 _)
        rw [hw3]
        exact HC.out.set _ (fun n hn => by have := DS.out.gt n (by simp [hn]); omega)
       have y4 : w3.cell? ⟨b', 3, none⟩ = some (.pointer q) := by rw [HQ.out]; exact cell_of S3.out 3
       clear hw3 hd1 ch1 y3
       go_wp2_with fail
       go_roundw
       case rel => exact ⟨_, t', gone', nx, rfl, rfl, HQ.out, D3.out⟩
       case measure =>
        have h1 := MS.out
        have h2 := M2.out
        show ms m (.pointer q) < ms m (.pointer (some ⟨b, 0, none⟩))
        rw [HQ.out, h1, h2]
        simp
        omega
      ·rw [List.concat_eq_append] at *
       rw [show pt (lst (K0 ++ [n0])) = .pointer (some ⟨n0.1, 0, none⟩) by rw [lst_app]; rfl]
       obtain ⟨dj1, dj2, dj3⟩ := DS.out.dj
       have hn0 : b' ≠ n0.1 := fun e => NB.out n0 (by simp) e.symm
       go_wp2_with fail
       refine (link_some _ n0.1 n0.2 mid1 (some ⟨b', 0, none⟩) _ ch1.sc).mono ?_
       rintro r w3 ⟨rfl, hw3⟩
       have S3 : Hid (Sc w3 b' y' nx) := by rw [hw3]; exact HS.out.other _ hn0
       have D3 : Hid (Ds w w3 P F g m ((K0 ++ [n0]) ++ [(b', y')]) t' gone' nx) := by
        refine DS.out.keep hg ⟨f1, last1, by rw [hw3]; exact Hd.other hd1 _ (by omega), by rw [hw3]; exact ch1.relast dj1 (some b')⟩ S3.out ?_ (by rw [hw3]; exact DS.out.ft.set (DS.out.fk n0 (by simp)) 3 _)
        rw [hw3]
        exact HC.out.set _ (fun n hn => dj2 n (List.mem_cons_of_mem _ hn))
       have y4 : w3.cell? ⟨b', 3, none⟩ = some (.pointer q) := by rw [HQ.out]; exact cell_of S3.out 3
       have EL : Hid (Value.pointer (some ⟨b', 0, none⟩) = pt (lst ((K0 ++ [n0]) ++ [(b', y')]))) := by show _ = _; rw [lst_app]; rfl
       clear hw3 hd1 ch1 dj1 dj2 y3
       go_wp2_with fail
       go_roundw
       case rel => exact ⟨_, t', gone', nx, rfl, EL.out, HQ.out, D3.out⟩
       case measure =>
        have h1 := MS.out
        have h2 := M2.out
        show ms m (.pointer q) < ms m (.pointer (some ⟨b, 0, none⟩))
        rw [HQ.out, h1, h2]
        simp
        omega
     ·have D2 := hide (DS.out.skip hg HC.out)
      cases t' with
      | nil =>
        have en : nx = none := HC.out
        subst en
        rw [show pt none = .pointer none from rfl] at y3
        clear DS
        have DS := D2
        clear D2
        simp at hcnt
        obtain ⟨f1, mid1, last1, hd1, ch1⟩ := DS.out.f
        rcases List.eq_nil_or_concat K with rfl | ⟨K0, n0, rfl⟩
        ·rw [show pt (lst []) = .pointer none from rfl]
         go_wp2_with fail
         refine (link_none P f1 last1 m.length none _ hd1).mono ?_
         rintro r w3 ⟨rfl, hw3⟩
         have HF : Hid (∃ f last, Hd w3 P f last m.length ∧ Ch w3 f [] none) := by rw [hw3]; exact ⟨none, last1, Hd.setF hd1 none, rfl⟩
         have F3 : Hid (KF F w w3) := by rw [hw3]; exact DS.out.ft.set DS.out.fp 0 _
         clear hw3 hd1 ch1
         obtain ⟨f3, last3, hd3, _⟩ := HF.out
         have y1 := cell_of hd3 1
         have y2 := cell_of hd3 2
         have z1 := frozen_of hd3 1
         have z2 := frozen_of hd3 2
         simp at y1 y2
         clear hd3
         have FI := hide fun x hx => DS.out.fin h5 FB.out HF.out F3.out x hx
         rw [show pt (lst []) = .pointer none from rfl] at FI
         go_wp2_with fail
         try rw [Exit.noGoto_ret]
         go_ret
         exact ⟨⟨gone' + 1, by first | rfl | (simp), by have := DS.out.fil; have hc := DS.out.cnt; rw [this]; simp [dr] at hc ⊢; omega⟩, FI.out _ (by omega)⟩
        ·rw [List.concat_eq_append] at *
         rw [show pt (lst (K0 ++ [n0])) = .pointer (some ⟨n0.1, 0, none⟩) by rw [lst_app]; rfl]
         obtain ⟨dj1, _, dj3⟩ := DS.out.dj
         go_wp2_with fail
         refine (link_some _ n0.1 n0.2 mid1 none _ ch1.sc).mono ?_
         rintro r w3 ⟨rfl, hw3⟩
         have HF : Hid (∃ f last, Hd w3 P f last m.length ∧ Ch w3 f (K0 ++ [n0]) none) := by rw [hw3]; exact ⟨f1, last1, Hd.other hd1 _ (by omega), ch1.relast dj1 none⟩
         have F3 : Hid (KF F w w3) := by rw [hw3]; exact DS.out.ft.set (DS.out.fk n0 (by simp)) 3 _
         clear hw3 hd1 ch1 dj1
         obtain ⟨f3, last3, hd3, _⟩ := HF.out
         have y1 := cell_of hd3 1
         have y2 := cell_of hd3 2
         have z1 := frozen_of hd3 1
         have z2 := frozen_of hd3 2
         simp at y1 y2
         clear hd3
         have FI := hide fun x hx => DS.out.fin h5 FB.out HF.out F3.out x hx
         rw [show pt (lst (K0 ++ [n0])) = .pointer (some ⟨n0.1, 0, none⟩) by rw [lst_app]; rfl] at FI
         go_wp2_with fail
         try rw [Exit.noGoto_ret]
         go_ret
         exact ⟨⟨gone' + 1, by first | rfl | (simp), by have := DS.out.fil; have hc := DS.out.cnt; rw [this]; simp [dr] at hc ⊢; omega⟩, FI.out _ (by omega)⟩
      | cons n2 t2 =>
        obtain ⟨b2, y2⟩ := n2
        have en : nx = some b2 := HC.out.1
        subst en
        rw [show pt (some b2) = .pointer (some ⟨b2, 0, none⟩) from rfl] at y3
        go_wp2_with fail
        go_round
        case rel => exact ⟨b2, y2, t2, gone' + 1, by go_num, rfl, by simp at ht'; omega, D2.out⟩
        case measure =>
         have h1 := M1.out
         have h2 := M2.out
         show ms m (pt (some b2)) < ms m (.pointer (some ⟨b', 0, none⟩))
         rw [h1, h2]
         simp
theorem drop_any (P : Nat) (F : Nat → Prop) (l : List Wt) (g : Int) (w : World) (h : PF w P F l) :
 Calls Tryz.prog 135 #[.pointer (some ⟨P, 0, none⟩), .int .i64 g] w fun r w' => r = .returned (.int .i64 ((l.length : Int) - ((dr g l).length : Int))) ∧ KF F w w' ∧ PF w' P F (dr g l) := by
 obtain ⟨m, rfl, hn, hF1, hF2, hF3⟩ := h
 refine (drop_n P F m g w hn hF1 hF2 hF3).mono ?_
 rintro r w1 ⟨⟨gone, rfl, hg⟩, h2⟩
 refine ⟨?_, h2⟩
 rw [List.length_map, show ((m.length : Int) - ((dr g (m.map (·.2))).length : Int)) = (gone : Int) by omega]
end Pe
end Go.Proofs.YtkkgbeaaekmhfaaGreat
namespace Go.Proofs.YtkkgbeaaekmhfaaGreat
open Go.ChangeShapes Go.WideShapes Go.ChangeAt Go.RowKit
namespace Pe
open Ba
theorem info_wt : (Tryz.prog.info? 135).map (fun i => (i.zero, i.size, i.bytes)) = some (some (wv ⟨0, 0, 0⟩), 3, 24) := by kernel_rfl
set_option maxRecDepth 100000 in
theorem list_nil (w : World) :
 Calls Tryz.prog 106 #[.pointer none] w fun r w' => (∃ oa, r = .returned (.slice oa 0 0)) ∧ Below w.heap.size w w' := by
 cases hi : Tryz.prog.info? 135 with
 | none => have := info_wt; rw [hi] at this; cases this
 | some i =>
 have hx := info_wt
 rw [hi] at hx
 simp at hx
 obtain ⟨hz, hs, hb⟩ := hx
 have hm : (Instr.makeSlice 139 (.int .i64 0) (.int .i64 0)).run Tryz.prog w = _ := run_make (P := Tryz.prog) w 139 135 i _ Tryz.underlying139 hi hz .i64 .i64 0 0 (by omega) (Int.le_refl _) (by rw [hb]; omega) (by omega)
 have B := hide (below_alloc w (.cells (madeCells (wv ⟨0, 0, 0⟩).cells (Int.toNat 0 * i.size)) 135))
 generalize (w.alloc (.cells (madeCells (wv ⟨0, 0, 0⟩).cells (Int.toNat 0 * i.size)) 135)) = w2 at hm B
 go_enter Tryz.func106, Tryz.ntmps106
 go_wp2_with fail
 refine (len_nil _).mono ?_
 rintro r w1 ⟨rfl, rfl⟩
 go_wp2_with fail
 refine (front_nil _).mono ?_
 rintro r _ ⟨rfl, rfl⟩
 go_wp2_with fail
 go_loop [3, 4] (fun l s => l = .slice (some ⟨w1.heap.size, 0, none⟩) 0 0 ∧ s = .pointer none) (fun _ _ => 0)
 case atStart => exact ⟨rfl, rfl⟩
 case round =>
  obtain ⟨rfl, rfl⟩ := hrel
  go_wp2_with fail
  go_ret
  exact ⟨⟨_, rfl⟩, B.out⟩
def wc (l : List Wt) : List Value := l.flatMap fun x => [.int .i64 x.g, .int .i64 x.c, .int .i64 x.v]
theorem wc_nil : wc [] = [] := rfl
theorem wc_cons (x : Wt) (l : List Wt) : wc (x :: l) = .int .i64 x.g :: .int .i64 x.c :: .int .i64 x.v :: wc l := rfl
theorem wc_app (l m : List Wt) : wc (l ++ m) = wc l ++ wc m := by simp [wc]
theorem wc_len (l : List Wt) : (wc l).length = l.length * 3 := by
 induction l with
 | nil => rfl
 | cons x l ih => rw [wc_cons]; simp; omega
theorem wc_at : ∀ (l : List Wt) (k : Nat) (x : Wt), l[k]? = some x → (wc l)[k * 3]? = some (.int .i64 x.g) ∧ (wc l)[k * 3 + 1]? = some (.int .i64 x.c) ∧ (wc l)[k * 3 + 2]? = some (.int .i64 x.v)
 | [], _, _, h => by simp at h
 | y :: l, 0, x, h => by simp at h; subst h; exact ⟨rfl, rfl, rfl⟩
 | y :: l, k + 1, x, h => by
   rw [wc_cons]
   have := wc_at l k x (by simpa using h)
   rw [show (k + 1) * 3 = k * 3 + 3 by omega]
   exact this
theorem wc_one (l : List Wt) : ∀ u ∈ wc l, u.oneCell' = true := by
 induction l with
 | nil => intro u hu; simp [wc_nil] at hu
 | cons x l ih =>
   intro u hu
   rw [wc_cons] at hu
   simp at hu
   rcases hu with rfl | rfl | rfl | hu
   ·rfl
   ·rfl
   ·rfl
   ·exact ih u hu
def WAt (w : World) (oa : Option Addr) (l : List Wt) : Prop :=
 ∀ k x, l[k]? = some x → ∃ b off, oa = some ⟨b, off, none⟩ ∧ w.cell? ⟨b, off + k * 3, none⟩ = some (.int .i64 x.g) ∧ w.cell? ⟨b, off + k * 3 + 1, none⟩ = some (.int .i64 x.c) ∧ w.cell? ⟨b, off + k * 3 + 2, none⟩ = some (.int .i64 x.v)
theorem WAt.nil (w : World) (oa : Option Addr) : WAt w oa [] := fun _ _ h => by simp at h
theorem WAt.below {w w' : World} {oa : Option Addr} {l : List Wt} (h : WAt w oa l) (hb : Below w.heap.size w w') : WAt w' oa l := by
 intro k x hk
 obtain ⟨b, off, e, h0, h1, h2⟩ := h k x hk
 exact ⟨b, off, e, (hb.cell (World.block_lt_of_cell? w _ h0)).trans h0, (hb.cell (World.block_lt_of_cell? w _ h1)).trans h1, (hb.cell (World.block_lt_of_cell? w _ h2)).trans h2⟩
theorem owns_wat {w : World} {base : Nat} {e : TypeId} {v : Value} {l : List Wt} (h : w.ownsRow base e 3 v l.length (wc l)) : ∃ oa c, v = .slice oa l.length c ∧ WAt w oa l ∧ l.length ≤ c ∧ ∀ a, oa = some a → base ≤ a.block := by
 rcases h.2 with ⟨rfl, h0⟩ | ⟨g, cap, cur, rfl, hbase, hg, hc, _, hcs, htk⟩
 ·refine ⟨none, 0, by rw [h0], ?_, by omega, fun a e => by cases e⟩
  obtain rfl := List.eq_nil_of_length_eq_zero h0
  exact WAt.nil _ _
 ·refine ⟨_, cap, rfl, ?_, hc, fun a e => by cases e; exact hbase⟩
  intro k x hk
  have hkl := (List.getElem?_eq_some_iff.1 hk).1
  obtain ⟨q0, q1, q2⟩ := wc_at l k x hk
  rw [← htk, List.getElem?_take_of_lt (by omega)] at q0 q1 q2
  refine ⟨g, 0, rfl, ?_, ?_, ?_⟩
  ·rw [Nat.zero_add, cell_of hg]; simpa using q0
  ·rw [Nat.zero_add, cell_of hg]; simpa using q1
  ·rw [Nat.zero_add, cell_of hg]; simpa using q2
theorem src3 (w : World) (x : Wt) (t : TypeId) : ∀ j u, (wc [x])[j]? = some u → (w.alloc (.cells #[.int .i64 x.g, .int .i64 x.c, .int .i64 x.v] t)).cell? ((⟨w.heap.size, 0, none⟩ : Addr).add j) = some u := by
 intro j u hj
 rw [Addr.add_lit, Nat.zero_add, cell_of (heap_new _ _)]
 rw [wc_cons, wc_nil] at hj
 rw [← hj]
 simp
set_option maxRecDepth 100000 in
set_option maxHeartbeats 1600000 in
theorem list_new (P : Nat) (l : List Wt) (w : World) (h : Pw w P l) :
 Calls Tryz.prog 106 #[.pointer (some ⟨P, 0, none⟩)] w fun r w' => ∃ oa c, r = .returned (.slice oa l.length c) ∧ WAt w' oa l ∧ Below w.heap.size w w' ∧ ∀ a, oa = some a → w.heap.size ≤ a.block := by
 cases hi : Tryz.prog.info? 135 with
 | none => have := info_wt; rw [hi] at this; cases this
 | some i =>
 have hx := info_wt
 rw [hi] at hx
 simp at hx
 have INF := hide (And.intro hi hx)
 obtain ⟨hz, hs, hb⟩ := hx
 have PW := hide h
 have hle := h.le
 obtain ⟨m, rfl, f, h1, h2, h3, h4, h5⟩ := h
 obtain ⟨n, hn⟩ : ∃ n, n = (m.map (·.2)).length := ⟨_, rfl⟩
 have LN := hide (len_any P _ w PW.out)
 rw [← hn] at LN hle
 have hm : (Instr.makeSlice 139 (.int .i64 0) (.int .i64 (n : Int))).run Tryz.prog w = .ok (.slice (some ⟨w.heap.size, 0, none⟩) 0 n) (w.alloc (.cells (madeCells (wv ⟨0, 0, 0⟩).cells (n * 3)) 135)) := by
  have := run_make (P := Tryz.prog) w 139 135 i _ Tryz.underlying139 hi hz .i64 .i64 0 n (by omega) (by omega) (by rw [hb]; omega) (by omega)
  rw [hs] at this
  simpa using this
 have OW := hide (World.ownsRow_made (base := w.heap.size) (e := 135) (size := 3) w (madeCells (wv ⟨0, 0, 0⟩).cells (n * 3)) n (Nat.le_refl _) (by unfold maxLen; omega) (size_madeCells _ _))
 have BW := hide (below_alloc w (.cells (madeCells (wv ⟨0, 0, 0⟩).cells (n * 3)) 135))
 generalize w.alloc (.cells (madeCells (wv ⟨0, 0, 0⟩).cells (n * 3)) 135) = w2 at hm OW BW
 have HC := hide h2
 have ND := hide h3
 have HN := hide hn
 have y0 : w2.cell? ⟨P, 0, none⟩ = some (pt f) := cell_of (heap_below h1 BW.out) 0
 have FR := hide (front_c P (f.map fun b => ⟨b, 0, none⟩) w2 y0)
 clear h1 h2 h3 h4 h5 y0 hn hi hz hs hb PW
 go_enter Tryz.func106, Tryz.ntmps106
 go_wp2_with fail
 refine LN.out.mono ?_
 rintro r w1 ⟨rfl, rfl⟩
 go_wp2_with fail
 refine FR.out.mono ?_
 rintro r _ ⟨rfl, rfl⟩
 go_wp2_with fail
 go_loopw [3, 4] (fun lv s wr => ∃ (v : Value) (pre rest : List (Nat × Wt)) (o : Option Nat), lv = v ∧ s = pt o ∧ m = pre ++ rest ∧ Ch w1 o rest none ∧ wr.ownsRow w1.heap.size 135 3 v (pre.map (·.2)).length (wc (pre.map (·.2))) ∧ Below w1.heap.size w1 wr) (fun _ s _ => ms m s)
 case atStart => exact ⟨_, [], m, f, rfl, rfl, rfl, HC.out, OW.out, BW.out⟩
 case round =>
  clear OW BW HC FR LN
  obtain ⟨v, pre, rest, o, rfl, rfl, hmm, hc, ho, hb⟩ := hrel
  cases rest with
  | nil =>
    have e0 : o = none := hc
    subst e0
    rw [List.append_nil] at hmm
    subst hmm
    obtain ⟨oa, c, rfl, hw, _, hnew⟩ := owns_wat ho
    have HW := hide hw
    have HB := hide hb
    have HNW := hide hnew
    clear hw hb ho hc hnew
    rw [show pt none = .pointer none from rfl]
    go_wp2_with fail
    go_ret
    exact ⟨oa, c, rfl, HW.out, HB.out, HNW.out⟩
  | cons nd t =>
    obtain ⟨b, y⟩ := nd
    have MS := hide (ms_ch hmm ND.out hc)
    obtain ⟨rfl, nx, hs, hc2⟩ := hc
    have MT := hide (ms_ch (pre := pre ++ [(b, y)]) (by rw [hmm]; simp) ND.out hc2)
    have hs1 := heap_below hs hb
    have z0 := cell_of hs1 0
    have z1 := cell_of hs1 1
    have z2 := cell_of hs1 2
    have z3 : wr.cell? ⟨b, 3, none⟩ = some (pt nx) := cell_of hs1 3
    simp at z0 z1 z2
    have hpl : (pre.map (·.2)).length ≤ 1024 := by
     have := HN.out
     rw [hmm] at this
     simp at this ⊢
     omega
    have HM := hide hmm
    have HC2 := hide hc2
    have HS := hide hs
    have OW := hide (own_below ho (below_alloc wr (.cells #[.int .i64 y.g, .int .i64 y.c, .int .i64 y.v] 135)))
    have SR := hide (src3 wr y 135)
    have HB := hide (btr hb (below_alloc wr (.cells #[.int .i64 y.g, .int .i64 y.c, .int .i64 y.v] 135)))
    clear hmm hc2 hs hs1 hb
    obtain ⟨X, hX⟩ : ∃ X, X = pre.map (·.2) := ⟨_, rfl⟩
    rw [← hX] at OW hpl ho
    have HX := hide hX
    clear hX
    rw [show pt (some b) = .pointer (some ⟨b, 0, none⟩) from rfl] at *
    unfold pt at z3
    generalize hq : nx.map (fun b => (⟨b, 0, none⟩ : Addr)) = q at z3
    have HQ : Hid (Value.pointer q = pt nx) := by show _ = _; rw [← hq]; rfl
    clear hq ho
    go_wp2_with (at_builtin; refine wpList_append_own _ rfl _ _ 139 rfl w1.heap.size 135 i (wv ⟨0, 0, 0⟩) 3 24 Tryz.underlying139 INF.out.1 INF.out.2.1 INF.out.2.2.1 INF.out.2.2.2 rfl (by decide) _ _ _ rfl OW.out ⟨wr.heap.size, 0, none⟩ 1 1 (wc [y]) rfl rfl ?c1 ?c2 ?c3 ?c4 ?c5 ?_)
    case c1 => first | exact SR.out | exact fun j u hj => hj
    case c2 => exact wc_one _
    case c3 => unfold maxLen; omega
    case c4 => omega
    case c5 => first | exact HB.out.size | (have := HB.out.size; rw [World.size_alloc] at this; exact this)
    intro v' w3 ho hg _
    have B3 : Hid (Below w1.heap.size w1 w3) := HB.out.grown hg HB.out.size (fun x hx => (OW.out.lt x hx).1)
    have O3 : Hid (w3.ownsRow w1.heap.size 135 3 v' ((pre ++ [(b, y)]).map (·.2)).length (wc ((pre ++ [(b, y)]).map (·.2)))) := by
     show World.ownsRow _ _ _ _ _ _ _
     rw [List.map_append, wc_app, List.length_append, ← HX.out]
     exact ho
    have z4 : w3.cell? ⟨b, 3, none⟩ = some (.pointer q) := by rw [HQ.out]; exact cell_of (heap_below HS.out B3.out) 3
    clear ho hg OW SR HB z0 z1 z2 z3
    go_wp2_with fail
    go_roundw
    case rel => exact ⟨v', pre ++ [(b, y)], t, nx, rfl, HQ.out, by rw [HM.out]; simp, HC2.out, O3.out, B3.out⟩
    case measure =>
     have h1 := MS.out
     have h2 := MT.out
     show ms m (.pointer q) < ms m (.pointer (some ⟨b, 0, none⟩))
     rw [HQ.out, h1, h2]
     simp
theorem list_any (P : Nat) (l : List Wt) (w : World) (h : Pw w P l) :
 Calls Tryz.prog 106 #[.pointer (some ⟨P, 0, none⟩)] w fun r w' => ∃ oa c, r = .returned (.slice oa l.length c) ∧ WAt w' oa l ∧ Below w.heap.size w w' := by
 refine (list_new P l w h).mono ?_
 rintro r w1 ⟨oa, c, rfl, h1, h2, -⟩
 exact ⟨oa, c, rfl, h1, h2⟩
theorem WAt.keep {w w' : World} {oa : Option Addr} {l : List Wt} (h : WAt w oa l) (hk : ∀ a, oa = some a → w'.heap[a.block]? = w.heap[a.block]?) : WAt w' oa l := by
 intro k x hx
 obtain ⟨b, off, e, h0, h1, h2⟩ := h k x hx
 have q := hk _ e
 simp only at q
 refine ⟨b, off, e, ?_, ?_, ?_⟩
 ·rw [← h0]; simp only [World.cell?, q]
 ·rw [← h1]; simp only [World.cell?, q]
 ·rw [← h2]; simp only [World.cell?, q]
theorem WAt.lt {w : World} {oa : Option Addr} {l : List Wt} (h : WAt w oa l) (hl : 0 < l.length) (a : Addr) (e : oa = some a) : a.block < w.heap.size := by
 obtain ⟨b, off, e2, h0, h1, h2⟩ := h 0 _ (List.getElem?_eq_getElem hl)
 rw [e] at e2
 cases e2
 exact World.block_lt_of_cell? w _ h0
theorem WAt.keep' {w w' : World} {F : Nat → Prop} {oa : Option Addr} {l : List Wt} (h : WAt w oa l) (k : KF F w w') (hn : ∀ a, oa = some a → ¬ F a.block) (hl : 0 < l.length) : WAt w' oa l :=
 h.keep fun a e => k.block a.block (h.lt hl a e) (hn a e)
theorem WAt.kf {w w' : World} {F : Nat → Prop} {oa : Option Addr} {l : List Wt} (h : WAt w oa l) (k : KF F w w') (hn : ∀ a, oa = some a → ¬ F a.block) : WAt w' oa l := by
 intro j x hx
 have hl : 0 < l.length := Nat.lt_of_le_of_lt (Nat.zero_le _) (List.getElem?_eq_some_iff.1 hx).1
 exact h.keep' k hn hl j x hx
end Pe
end Go.Proofs.YtkkgbeaaekmhfaaGreat
namespace Go.Proofs.YtkkgbeaaekmhfaaGreat
open Go.ChangeShapes Go.WideShapes Go.ChangeAt Go.RowKit
namespace Pe
open Ba
def okb (x : Wt) : Bool := decide (0 ≤ x.g) && decide (-1 ≤ x.c)
theorem okb_iff (x : Wt) : okb x = true ↔ 0 ≤ x.g ∧ -1 ≤ x.c := by simp [okb]
theorem okb_not (x : Wt) : okb x = false ↔ x.g < 0 ∨ x.c < -1 := by
 rw [← Bool.not_eq_true, okb_iff]
 omega
def ae (l : List Wt) (x : Wt) : Int := if okb x = true then (if l.length = 1024 then 5 else 0) else 1
def al (l : List Wt) (x : Wt) : List Wt := if okb x = true then (if l.length = 1024 then l else l ++ [x]) else l
theorem add_any (P : Nat) (F : Nat → Prop) (l : List Wt) (x : Wt) (w : World) (hP : PF w P F l) :
 Calls Tryz.prog 100 #[.pointer (some ⟨P, 0, none⟩), wv x] w fun r w' => r = .returned (.int .i64 (ae l x)) ∧ KF F w w' ∧ ∃ F', Nw F' F w ∧ PF w' P F' (al l x) := by
 unfold ae al
 cases h : okb x
 ·simp only [Bool.false_eq_true, if_false]
  refine (add_arg _ x w ((okb_not x).1 h)).mono ?_
  rintro r w1 ⟨rfl, b1⟩
  exact ⟨rfl, KF.of b1, F, Nw.refl _ _, hP.below b1⟩
 ·simp only [if_true]
  by_cases hl : l.length = 1024
  ·simp only [if_pos hl]
   refine (add_full P l x w ((okb_iff x).1 h) hP.pw hl).mono ?_
   rintro r w1 ⟨rfl, b1⟩
   exact ⟨rfl, KF.of b1, F, Nw.refl _ _, hP.below b1⟩
  ·simp only [if_neg hl]
   exact add_ok P F l x w ((okb_iff x).1 h) hP (by have := hP.le; omega)
theorem take_any (P : Nat) (F : Nat → Prop) (l : List Wt) (w : World) (h : PF w P F l) :
 Calls Tryz.prog 130 #[.pointer (some ⟨P, 0, none⟩)] w fun r w' => r = .returned (.tuple #[wv (fw l), .bool (fo l)]) ∧ KF F w w' ∧ PF w' P F l.tail := by
 cases l with
 | nil =>
   refine (take_none P w h.pw).mono ?_
   rintro r w1 ⟨rfl, b1⟩
   exact ⟨rfl, KF.of b1, h.below b1⟩
 | cons x l => exact take_some P F x l w h
theorem dr_take {g : Int} {l : List Wt} {k : Nat} {x : Wt} (h : l[k]? = some x) : dr g (l.take (k + 1)) = if (x.g == g) = true then dr g (l.take k) else dr g (l.take k) ++ [x] := by
 unfold dr
 rw [List.take_add_one, h, List.filter_append]
 cases hg : x.g == g <;> simp [hg]
end Pe
end Go.Proofs.YtkkgbeaaekmhfaaGreat
namespace Go.Proofs.YtkkgbeaaekmhfaaGreat
open Go.ChangeShapes Go.WideShapes Go.ChangeAt Go.RowKit
namespace Rn
open Ba
def Cl (w : World) (R : Nat) (v : Nat → Int) (f n s : Nat) : Prop :=
 w.heap[R]? = some (.cells #[.int .i64 (v 0), .int .i64 (v 1), .int .i64 (v 2), .int .i64 (v 3), .int .i64 (f : Int), .int .i64 (n : Int), .int .i64 (s : Int)] 176 (0, 0))
def Rg (w : World) (R s : Nat) (l : List Int) : Prop :=
 ∃ (v : Nat → Int) (f : Nat), f < 4 ∧ l.length ≤ s ∧ s ≤ 4 ∧ (∀ i, i < l.length → v ((f + i) % 4) = nth l i) ∧ Cl w R v f l.length s
theorem Cl.cell {w : World} {R : Nat} {v : Nat → Int} {f n s : Nat} (h : Cl w R v f n s) (k : Nat) (hk : k < 4) : w.cell? ⟨R, k, none⟩ = some (.int .i64 (v k)) := by
 rw [cell_of h k]
 match k, hk with
 | 0, _ => rfl
 | 1, _ => rfl
 | 2, _ => rfl
 | 3, _ => rfl
theorem Cl.fst {w : World} {R : Nat} {v : Nat → Int} {f n s : Nat} (h : Cl w R v f n s) : w.cell? ⟨R, 4, none⟩ = some (.int .i64 (f : Int)) := cell_of h 4
theorem Cl.cnt {w : World} {R : Nat} {v : Nat → Int} {f n s : Nat} (h : Cl w R v f n s) : w.cell? ⟨R, 5, none⟩ = some (.int .i64 (n : Int)) := cell_of h 5
theorem Cl.siz {w : World} {R : Nat} {v : Nat → Int} {f n s : Nat} (h : Cl w R v f n s) : w.cell? ⟨R, 6, none⟩ = some (.int .i64 (s : Int)) := cell_of h 6
def up (v : Nat → Int) (k : Nat) (x : Int) : Nat → Int := fun j => if j = k then x else v j
theorem up_same (v : Nat → Int) (k : Nat) (x : Int) : up v k x k = x := by simp [up]
theorem up_other (v : Nat → Int) (k : Nat) (x : Int) (j : Nat) (h : j ≠ k) : up v k x j = v j := by simp [up, h]
theorem Cl.val {w : World} {R : Nat} {v : Nat → Int} {f n s : Nat} (h : Cl w R v f n s) (k : Nat) (hk : k < 4) (x : Int) : Cl (w.setCell ⟨R, k, none⟩ (.int .i64 x)) R (up v k x) f n s := by
 unfold Cl
 rw [Ba.heap_setCell_same h]
 match k, hk with
 | 0, _ => rfl
 | 1, _ => rfl
 | 2, _ => rfl
 | 3, _ => rfl
theorem Cl.setFst {w : World} {R : Nat} {v : Nat → Int} {f n s : Nat} (h : Cl w R v f n s) (g : Nat) : Cl (w.setCell ⟨R, 4, none⟩ (.int .i64 (g : Int))) R v g n s := by
 unfold Cl
 rw [Ba.heap_setCell_same h]
 rfl
theorem Cl.setCnt {w : World} {R : Nat} {v : Nat → Int} {f n s : Nat} (h : Cl w R v f n s) (g : Nat) (x : Int) (hx : x = (g : Int)) : Cl (w.setCell ⟨R, 5, none⟩ (.int .i64 x)) R v f g s := by
 subst hx
 unfold Cl
 rw [Ba.heap_setCell_same h]
 rfl
theorem Rg.kb {w w' : World} {R s : Nat} {l : List Int} {Q : Nat} (h : Rg w R s l) (k : KB Q w w') (hR : R ≠ Q) : Rg w' R s l := by
 obtain ⟨v, f, h1, h2, h3, h4, h5⟩ := h
 exact ⟨v, f, h1, h2, h3, h4, k.heap h5 hR⟩
theorem Rg.below {w w' : World} {R s : Nat} {l : List Int} (h : Rg w R s l) (hb : Below w.heap.size w w') : Rg w' R s l := by
 obtain ⟨v, f, h1, h2, h3, h4, h5⟩ := h
 exact ⟨v, f, h1, h2, h3, h4, heap_below h5 hb⟩
theorem Rg.lt {w : World} {R s : Nat} {l : List Int} (h : Rg w R s l) : R < w.heap.size := by
 obtain ⟨v, f, h1, h2, h3, h4, h5⟩ := h
 exact heap_lt h5
theorem new_err (s : Int) (w : World) (h : s < 0 ∨ 4 < s) :
 Calls Tryz.prog 96 #[.int .i64 s] w fun r w' => r = .returned (.tuple #[.pointer none, .int .i64 1]) ∧ w' = w := by
 by_cases h1 : s < 0
 ·have d1 : decide (s < 0) = true := decide_eq_true (by omega)
  go_enter Tryz.func96, Tryz.ntmps96
  go_wp2_with fail
  go_ret2
  exact ⟨rfl, rfl⟩
 ·have d1 : decide (s < 0) = false := decide_eq_false (by omega)
  have d2 : decide (4 < s) = true := decide_eq_true (by omega)
  go_enter Tryz.func96, Tryz.ntmps96
  go_wp2_with fail
  go_ret2
  exact ⟨rfl, rfl⟩
theorem new_ok (s : Nat) (w : World) (h : s ≤ 4) :
 Calls Tryz.prog 96 #[.int .i64 (s : Int)] w fun r w' => r = .returned (.tuple #[.pointer (some ⟨w.heap.size, 0, none⟩), .int .i64 0]) ∧ Rg w' w.heap.size s [] ∧ Below w.heap.size w w' := by
 have d1 : decide ((s : Int) < 0) = false := decide_eq_false (by omega)
 have d2 : decide (4 < (s : Int)) = false := decide_eq_false (by omega)
 go_enter Tryz.func96, Tryz.ntmps96
 go_wp2_with fail
 go_ret2
 exact ⟨rfl, ⟨fun _ => 0, 0, by decide, Nat.zero_le _, h, fun i hi => absurd hi (Nat.not_lt_zero _), heap_new _ _⟩, below_alloc _ _⟩
theorem place_any (R f i : Nat) (w : World) (hc : w.cell? ⟨R, 4, none⟩ = some (.int .i64 (f : Int))) (hf : f < 4) (hi : i ≤ 4) :
 Calls Tryz.prog 137 #[.pointer (some ⟨R, 0, none⟩), .int .i64 (i : Int)] w fun r w' => r = .returned (.int .i64 (((f + i) % 4 : Nat) : Int)) ∧ w' = w := by
 have h4 : (((f : Int) + (i : Int)).tmod 4) = (((f + i) % 4 : Nat) : Int) := by rw [Int.tmod_eq_emod_of_nonneg (by omega)]; omega
 generalize hq : (f + i) % 4 = q at h4 ⊢
 go_enter Tryz.func137, Tryz.ntmps137
 go_wp2_with fail
 go_ret
 exact ⟨ret_int (by first | exact h4 | omega), rfl⟩
theorem len_nil (w : World) :
 Calls Tryz.prog 132 #[.pointer none] w fun r w' => r = .returned (.int .i64 0) ∧ w' = w := by
 go_enter Tryz.func132, Tryz.ntmps132
 go_wp2_with fail
 go_ret
 exact ⟨rfl, rfl⟩
theorem cap_nil (w : World) :
 Calls Tryz.prog 134 #[.pointer none] w fun r w' => r = .returned (.int .i64 0) ∧ w' = w := by
 go_enter Tryz.func134, Tryz.ntmps134
 go_wp2_with fail
 go_ret
 exact ⟨rfl, rfl⟩
theorem len_c (R : Nat) (n : Int) (w : World) (h : w.cell? ⟨R, 5, none⟩ = some (.int .i64 n)) :
 Calls Tryz.prog 132 #[.pointer (some ⟨R, 0, none⟩)] w fun r w' => r = .returned (.int .i64 n) ∧ w' = w := by
 go_enter Tryz.func132, Tryz.ntmps132
 go_wp2_with fail
 go_ret
 exact ⟨rfl, rfl⟩
theorem cap_c (R : Nat) (n : Int) (w : World) (h : w.cell? ⟨R, 6, none⟩ = some (.int .i64 n)) :
 Calls Tryz.prog 134 #[.pointer (some ⟨R, 0, none⟩)] w fun r w' => r = .returned (.int .i64 n) ∧ w' = w := by
 go_enter Tryz.func134, Tryz.ntmps134
 go_wp2_with fail
 go_ret
 exact ⟨rfl, rfl⟩
theorem len_any (R s : Nat) (l : List Int) (w : World) (h : Rg w R s l) :
 Calls Tryz.prog 132 #[.pointer (some ⟨R, 0, none⟩)] w fun r w' => r = .returned (.int .i64 (l.length : Int)) ∧ w' = w := by
 obtain ⟨v, f, h1, h2, h3, h4, h5⟩ := h
 exact len_c R _ w h5.cnt
theorem cap_any (R s : Nat) (l : List Int) (w : World) (h : Rg w R s l) :
 Calls Tryz.prog 134 #[.pointer (some ⟨R, 0, none⟩)] w fun r w' => r = .returned (.int .i64 (s : Int)) ∧ w' = w := by
 obtain ⟨v, f, h1, h2, h3, h4, h5⟩ := h
 exact cap_c R _ w h5.siz
end Rn
end Go.Proofs.YtkkgbeaaekmhfaaGreat
namespace Go.Proofs.YtkkgbeaaekmhfaaGreat
open Go.ChangeShapes Go.WideShapes Go.ChangeAt Go.RowKit
namespace Rn
open Ba
theorem at_nil (i : Int) (w : World) :
 Calls Tryz.prog 140 #[.pointer none, .int .i64 i] w fun r w' => r = .returned (.tuple #[.int .i64 0, .int .i64 6]) ∧ w' = w := by
 cases h1 : decide (i < 0)
 ·have d2 : decide (0 ≤ i) = true := by simp at h1 ⊢; omega
  go_enter Tryz.func140, Tryz.ntmps140
  go_wp2_with fail
  refine (len_nil _).mono ?_
  rintro r w1 ⟨rfl, rfl⟩
  go_wp2_with fail
  go_ret2
  exact ⟨rfl, rfl⟩
 ·go_enter Tryz.func140, Tryz.ntmps140
  go_wp2_with fail
  go_ret2
  exact ⟨rfl, rfl⟩
theorem at_out (R s : Nat) (l : List Int) (i : Int) (w : World) (h : Rg w R s l) (hi : i < 0 ∨ (l.length : Int) ≤ i) :
 Calls Tryz.prog 140 #[.pointer (some ⟨R, 0, none⟩), .int .i64 i] w fun r w' => r = .returned (.tuple #[.int .i64 0, .int .i64 6]) ∧ w' = w := by
 cases h1 : decide (i < 0)
 ·have d2 : decide ((l.length : Int) ≤ i) = true := by simp at h1 ⊢; omega
  have H := hide h
  clear h hi
  go_enter Tryz.func140, Tryz.ntmps140
  go_wp2_with fail
  refine (len_any R s l _ H.out).mono ?_
  rintro r w1 ⟨rfl, rfl⟩
  go_wp2_with fail
  go_ret2
  exact ⟨rfl, rfl⟩
 ·clear hi
  go_enter Tryz.func140, Tryz.ntmps140
  go_wp2_with fail
  go_ret2
  exact ⟨rfl, rfl⟩
set_option maxHeartbeats 1600000 in
theorem at_in (R s : Nat) (l : List Int) (i : Nat) (w : World) (h : Rg w R s l) (hi : i < l.length) :
 Calls Tryz.prog 140 #[.pointer (some ⟨R, 0, none⟩), .int .i64 (i : Int)] w fun r w' => r = .returned (.tuple #[.int .i64 (nth l i), .int .i64 0]) ∧ Below w.heap.size w w' := by
 have d1 : decide ((i : Int) < 0) = false := decide_eq_false (by omega)
 have d2 : decide ((l.length : Int) ≤ (i : Int)) = false := decide_eq_false (by omega)
 have H := hide h
 obtain ⟨v, f, h1, h2, h3, h4, h5⟩ := h
 have PL := hide fun n => place_any R f i (w.drewN n) h5.fst h1 (by omega)
 have hq : (f + i) % 4 < 4 := Nat.mod_lt _ (by decide)
 have hc := h5.cell _ hq
 have HV := hide (h4 i hi)
 clear h4 h5
 generalize (f + i) % 4 = q at *
 rw [← HV.out]
 go_enter Tryz.func140, Tryz.ntmps140
 go_wp2_with fail
 refine (len_any R s l _ H.out).mono ?_
 rintro r w1 ⟨rfl, rfl⟩
 go_wp2_with fail
 go_quiet ((go_at_call 137; exact Calls.quiet_of_same (PL.out _)))
 go_wp2_with fail
 go_ret2
 exact ⟨rfl, bdrew _ _⟩
theorem push_nil (x : Int) (w : World) :
 Calls Tryz.prog 131 #[.pointer none, .int .i64 x] w fun r w' => r = .returned (.int .i64 5) ∧ w' = w := by
 go_enter Tryz.func131, Tryz.ntmps131
 go_wp2_with fail
 refine (len_nil _).mono ?_
 rintro r w1 ⟨rfl, rfl⟩
 go_wp2_with fail
 refine (cap_nil _).mono ?_
 rintro r w1 ⟨rfl, rfl⟩
 go_wp2_with fail
 go_ret
 exact ⟨rfl, rfl⟩
theorem push_full (R s : Nat) (l : List Int) (x : Int) (w : World) (h : Rg w R s l) (hl : l.length = s) :
 Calls Tryz.prog 131 #[.pointer (some ⟨R, 0, none⟩), .int .i64 x] w fun r w' => r = .returned (.int .i64 5) ∧ w' = w := by
 have H := hide h
 have d1 : (((l.length : Nat) : Int) == (s : Int)) = true := by rw [beq_iff_eq]; omega
 clear h hl
 go_enter Tryz.func131, Tryz.ntmps131
 go_wp2_with fail
 refine (len_any R s l _ H.out).mono ?_
 rintro r w1 ⟨rfl, rfl⟩
 go_wp2_with fail
 refine (cap_any R s l _ H.out).mono ?_
 rintro r w1 ⟨rfl, rfl⟩
 go_wp2_with fail
 go_ret
 exact ⟨rfl, rfl⟩
theorem Rg.pushed {w1 : World} {R s f : Nat} {v : Nat → Int} {l : List Int} (x : Int) (hf : f < 4) (hl : l.length < s) (hs : s ≤ 4) (hv : ∀ i, i < l.length → v ((f + i) % 4) = nth l i) (h : Cl w1 R (up v ((f + l.length) % 4) x) f (l.length + 1) s) : Rg w1 R s (l ++ [x]) := by
 refine ⟨_, f, hf, by simp; omega, hs, ?_, by simpa using h⟩
 intro i hi
 simp at hi
 by_cases e : i = l.length
 ·subst e
  rw [up_same]
  simp [nth]
 ·rw [up_other _ _ _ _ (by omega), hv i (by omega)]
  rw [nth_lt l i (by omega), nth_lt _ i (by simp; omega)]
  rw [List.getElem_append_left]
set_option maxHeartbeats 1600000 in
theorem push_ok (R s : Nat) (l : List Int) (x : Int) (w : World) (h : Rg w R s l) (hl : l.length < s) :
 Calls Tryz.prog 131 #[.pointer (some ⟨R, 0, none⟩), .int .i64 x] w fun r w' => r = .returned (.int .i64 0) ∧ Rg w' R s (l ++ [x]) ∧ KB R w w' := by
 have H := hide h
 obtain ⟨v, f, h1, h2, h3, h4, h5⟩ := h
 have HV := hide h4
 have HC := hide h5
 have hn := h5.cnt
 have hq : (f + l.length) % 4 < 4 := Nat.mod_lt _ (by decide)
 have hcq := h5.cell _ hq
 have hfr := frozen_of h5 ((f + l.length) % 4)
 have hf5 := frozen_of h5 5
 have PL := hide (place_any R f l.length w.drew h5.fst h1 (by omega))
 have d1 : (((l.length : Nat) : Int) == (s : Int)) = false := by rw [beq_eq_false_iff_ne]; omega
 have RS := hide fun (w1 : World) (hc : Cl w1 R (up v ((f + l.length) % 4) x) f (l.length + 1) s) => Rg.pushed x h1 hl h3 h4 hc
 clear h4 h5
 generalize (f + l.length) % 4 = q at *
 go_enter Tryz.func131, Tryz.ntmps131
 go_wp2_with fail
 refine (len_any R s l _ H.out).mono ?_
 rintro r w1 ⟨rfl, rfl⟩
 go_wp2_with fail
 refine (cap_any R s l _ H.out).mono ?_
 rintro r w1 ⟨rfl, rfl⟩
 go_wp2_with fail
 go_region_with (go_at_call 137; refine PL.out.mono ?_; rintro r w2 ⟨rfl, rfl⟩)
 all_goals
  go_wp2_with fail
  go_ret
  exact ⟨rfl, RS.out _ ((HC.out.val q hq x).setCnt (l.length + 1) _ (by omega)), (((KB.refl R _).setCell q _).setCell 5 _).trans (KB.of (bdrew1 _))⟩
theorem Rg.popped {w1 : World} {R s f : Nat} {v : Nat → Int} {x : Int} {l : List Int} (hl : l.length + 1 ≤ s) (hs : s ≤ 4) (hv : ∀ i, i < l.length + 1 → v ((f + i) % 4) = nth (x :: l) i) (h : Cl w1 R (up v f 0) ((f + 1) % 4) l.length s) : Rg w1 R s l := by
 refine ⟨_, _, Nat.mod_lt _ (by decide), by omega, hs, ?_, h⟩
 intro i hi
 rw [up_other _ _ _ _ (by omega)]
 have := hv (i + 1) (by omega)
 rw [show ((f + 1) % 4 + i) % 4 = (f + (i + 1)) % 4 by omega, this]
 rfl
theorem pop_nil (w : World) :
 Calls Tryz.prog 138 #[.pointer none] w fun r w' => r = .returned (.tuple #[.int .i64 0, .int .i64 6]) ∧ w' = w := by
 go_enter Tryz.func138, Tryz.ntmps138
 go_wp2_with fail
 refine (at_nil 0 _).mono ?_
 rintro r w1 ⟨rfl, rfl⟩
 go_wp2_with fail
 go_ret2
 exact ⟨rfl, rfl⟩
theorem pop_none (R s : Nat) (w : World) (h : Rg w R s []) :
 Calls Tryz.prog 138 #[.pointer (some ⟨R, 0, none⟩)] w fun r w' => r = .returned (.tuple #[.int .i64 0, .int .i64 6]) ∧ w' = w := by
 have H := hide h
 clear h
 go_enter Tryz.func138, Tryz.ntmps138
 go_wp2_with fail
 refine (at_out R s [] 0 _ H.out (.inr (by simp))).mono ?_
 rintro r w1 ⟨rfl, rfl⟩
 go_wp2_with fail
 go_ret2
 exact ⟨rfl, rfl⟩
set_option maxHeartbeats 1600000 in
theorem pop_some (R s : Nat) (x : Int) (l : List Int) (w : World) (h : Rg w R s (x :: l)) :
 Calls Tryz.prog 138 #[.pointer (some ⟨R, 0, none⟩)] w fun r w' => r = .returned (.tuple #[.int .i64 x, .int .i64 0]) ∧ Rg w' R s l ∧ KB R w w' := by
 have AT := hide (at_in R s (x :: l) 0 w h (by simp))
 obtain ⟨v, f, h1, h2, h3, h4, h5⟩ := h
 have hl : l.length + 1 ≤ s := by simpa using h2
 have HC : Hid (Cl w R v f (l.length + 1) s) := by rw [List.length_cons] at h5; exact h5
 have RS := hide fun (w1 : World) (hc : Cl w1 R (up v f 0) ((f + 1) % 4) l.length s) => Rg.popped (x := x) hl h3 (by simpa using h4) hc
 clear h4 h5 h2
 go_enter Tryz.func138, Tryz.ntmps138
 go_wp2_with fail
 refine AT.out.mono ?_
 rintro r w1 ⟨rfl, b1⟩
 have B1 := hide b1
 have C1 : Hid (Cl w1 R v f (l.length + 1) s) := heap_below HC.out b1
 have y4 := C1.out.fst
 have y5 := C1.out.cnt
 have yf := C1.out.cell f h1
 have z4 := frozen_of C1.out 4
 have z5 := frozen_of C1.out 5
 have zf := frozen_of C1.out f
 have PL := hide fun (u : World) (hu : u.cell? ⟨R, 4, none⟩ = some (.int .i64 (f : Int))) => place_any R f 1 u hu h1 (by decide)
 clear b1
 generalize (f + 1) % 4 = q at *
 simp only [show nth (x :: l) 0 = x from rfl]
 go_wp2_with fail
 go_region
 all_goals
  go_wp2_with fail
  refine (PL.out _ (by have := (C1.out.val f h1 0).fst; simpa using this)).mono ?_
  rintro r w2 ⟨rfl, rfl⟩
  go_wp2_with fail
  go_ret2
  exact ⟨rfl, RS.out _ (((C1.out.val f h1 0).setFst q).setCnt l.length _ (by omega)), ((((KB.of B1.out).setCell f _).setCell 4 _).setCell 5 _).trans (KB.of (bdrew1 _))⟩
def pe (s : Nat) (l : List Int) : Int := if l.length < s then 0 else 5
def pl (s : Nat) (l : List Int) (x : Int) : List Int := if l.length < s then l ++ [x] else l
def oe (l : List Int) : Int := if l.length = 0 then 6 else 0
def tl (l : List Int) (x : Int) : List Int := if l.length = 0 then l else l.tail ++ [x]
theorem Rg.le {w : World} {R s : Nat} {l : List Int} (h : Rg w R s l) : l.length ≤ s := by
 obtain ⟨v, f, h1, h2, h3, h4, h5⟩ := h
 exact h2
theorem Rg.le4 {w : World} {R s : Nat} {l : List Int} (h : Rg w R s l) : s ≤ 4 := by
 obtain ⟨v, f, h1, h2, h3, h4, h5⟩ := h
 exact h3
theorem push_any (R s : Nat) (l : List Int) (x : Int) (w : World) (h : Rg w R s l) :
 Calls Tryz.prog 131 #[.pointer (some ⟨R, 0, none⟩), .int .i64 x] w fun r w' => r = .returned (.int .i64 (pe s l)) ∧ Rg w' R s (pl s l x) ∧ KB R w w' := by
 unfold pe pl
 by_cases hl : l.length < s
 ·simp only [if_pos hl]
  exact push_ok R s l x w h hl
 ·simp only [if_neg hl]
  refine (push_full R s l x w h (by have := h.le; omega)).mono ?_
  rintro r w1 ⟨rfl, rfl⟩
  exact ⟨rfl, h, KB.refl _ _⟩
theorem pop_any (R s : Nat) (l : List Int) (w : World) (h : Rg w R s l) :
 Calls Tryz.prog 138 #[.pointer (some ⟨R, 0, none⟩)] w fun r w' => r = .returned (.tuple #[.int .i64 (nth l 0), .int .i64 (oe l)]) ∧ Rg w' R s l.tail ∧ KB R w w' := by
 cases l with
 | nil =>
   refine (pop_none R s w h).mono ?_
   rintro r w1 ⟨rfl, rfl⟩
   exact ⟨rfl, h, KB.refl _ _⟩
 | cons x l =>
   refine (pop_some R s x l w h).mono ?_
   rintro r w1 ⟨rfl, h1, h2⟩
   exact ⟨rfl, h1, h2⟩
def atv (l : List Int) (i : Int) : Int := if i < 0 ∨ (l.length : Int) ≤ i then 0 else nth l i.toNat
def ate (l : List Int) (i : Int) : Int := if i < 0 ∨ (l.length : Int) ≤ i then 6 else 0
theorem at_any (R s : Nat) (l : List Int) (i : Int) (w : World) (h : Rg w R s l) :
 Calls Tryz.prog 140 #[.pointer (some ⟨R, 0, none⟩), .int .i64 i] w fun r w' => r = .returned (.tuple #[.int .i64 (atv l i), .int .i64 (ate l i)]) ∧ Below w.heap.size w w' := by
 unfold atv ate
 by_cases hi : i < 0 ∨ (l.length : Int) ≤ i
 ·simp only [if_pos hi]
  refine (at_out R s l i w h hi).mono ?_
  rintro r w1 ⟨rfl, rfl⟩
  exact ⟨rfl, Below.refl _ _⟩
 ·simp only [if_neg hi]
  obtain ⟨n, rfl⟩ := Int.eq_ofNat_of_zero_le (show 0 ≤ i by omega)
  exact at_in R s l n w h (by omega)
theorem turn_nil (x : Int) (w : World) :
 Calls Tryz.prog 139 #[.pointer none, .int .i64 x] w fun r w' => r = .returned (.tuple #[.int .i64 0, .int .i64 6]) ∧ w' = w := by
 go_enter Tryz.func139, Tryz.ntmps139
 go_wp2_with fail
 refine (pop_nil _).mono ?_
 rintro r w1 ⟨rfl, rfl⟩
 go_wp2_with fail
 go_ret2
 exact ⟨rfl, rfl⟩
theorem turn_any (R s : Nat) (l : List Int) (x : Int) (w : World) (h : Rg w R s l) :
 Calls Tryz.prog 139 #[.pointer (some ⟨R, 0, none⟩), .int .i64 x] w fun r w' => r = .returned (.tuple #[.int .i64 (nth l 0), .int .i64 (oe l)]) ∧ Rg w' R s (tl l x) ∧ KB R w w' := by
 cases l with
 | nil =>
   have H := hide h
   clear h
   go_enter Tryz.func139, Tryz.ntmps139
   go_wp2_with fail
   refine (pop_none R s _ H.out).mono ?_
   rintro r w1 ⟨rfl, rfl⟩
   go_wp2_with fail
   go_ret2
   exact ⟨rfl, H.out, KB.refl _ _⟩
 | cons y l =>
   have hle := h.le
   rw [List.length_cons] at hle
   have H := hide h
   clear h
   go_enter Tryz.func139, Tryz.ntmps139
   go_wp2_with fail
   refine (pop_some R s y l _ H.out).mono ?_
   rintro r w1 ⟨rfl, g1, k1⟩
   have G1 := hide g1
   have K1 := hide k1
   clear g1 k1
   go_wp2_with fail
   refine (push_ok R s l x _ G1.out (by omega)).mono ?_
   rintro r w2 ⟨rfl, g2, k2⟩
   have G2 := hide g2
   have K2 := hide k2
   clear g2 k2
   go_wp2_with fail
   go_ret2
   exact ⟨rfl, G2.out, K1.out.trans K2.out⟩
end Rn
end Go.Proofs.YtkkgbeaaekmhfaaGreat
namespace Go.Proofs.YtkkgbeaaekmhfaaGreat
open Go.ChangeShapes Go.WideShapes Go.ChangeAt Go.RowKit
namespace Pi
open Ba Pe
structure St where
 size : Nat
 buf : List Int
 snd : List Wt
 rcv : List Wt
 sent : Nat
 got : Nat
 closed : Bool
def Hp (w : World) (B R S Q : Nat) (sent got : Nat) (cl : Bool) : Prop :=
 w.heap[B]? = some (.cells #[.pointer (some ⟨R, 0, none⟩), .pointer (some ⟨S, 0, none⟩), .pointer (some ⟨Q, 0, none⟩), .int .i64 (sent : Int), .int .i64 (got : Int), .bool cl] 156 (0, 0))
structure PO (w : World) (B : Nat) (F : Nat → Prop) (R S Q : Nat) (FS FQ : Nat → Prop) (st : St) : Prop where
 hp : Hp w B R S Q st.sent st.got st.closed
 rg : Rn.Rg w R st.size st.buf
 ps : PF w S FS st.snd
 pq : PF w Q FQ st.rcv
 fb : F B
 fr : F R
 fs : ∀ k, FS k → F k
 fq : ∀ k, FQ k → F k
 nsb : ¬ FS B
 nsr : ¬ FS R
 nqb : ¬ FQ B
 nqr : ¬ FQ R
 sq : ∀ k, FS k → ¬ FQ k
 bd : Bd F w
def Pp (w : World) (B : Nat) (F : Nat → Prop) (st : St) : Prop := ∃ R S Q FS FQ, PO w B F R S Q FS FQ st
theorem PO.pp {w : World} {B : Nat} {F : Nat → Prop} {R S Q : Nat} {FS FQ : Nat → Prop} {st : St} (h : PO w B F R S Q FS FQ st) : Pp w B F st := ⟨R, S, Q, FS, FQ, h⟩
theorem Pp.bd {w : World} {B : Nat} {F : Nat → Prop} {st : St} (h : Pp w B F st) : Bd F w := by
 obtain ⟨R, S, Q, FS, FQ, h⟩ := h
 exact h.bd
theorem Pp.own {w : World} {B : Nat} {F : Nat → Prop} {st : St} (h : Pp w B F st) : F B := by
 obtain ⟨R, S, Q, FS, FQ, h⟩ := h
 exact h.fb
theorem Pp.lt {w : World} {B : Nat} {F : Nat → Prop} {st : St} (h : Pp w B F st) : B < w.heap.size := h.bd B h.own
theorem Rg.sm {w w' : World} {R s : Nat} {l : List Int} (h : Rn.Rg w R s l) (e : w'.heap[R]? = w.heap[R]?) : Rn.Rg w' R s l := by
 obtain ⟨v, f, h1, h2, h3, h4, h5⟩ := h
 exact ⟨v, f, h1, h2, h3, h4, e.trans h5⟩
theorem PO.sm {w w' : World} {B : Nat} {F : Nat → Prop} {R S Q : Nat} {FS FQ : Nat → Prop} {st : St} (h : PO w B F R S Q FS FQ st) (s : Sm F w w') : PO w' B F R S Q FS FQ st :=
 ⟨s.heap h.fb h.hp, Rg.sm h.rg (s R h.fr), h.ps.sm (s.sub h.fs), h.pq.sm (s.sub h.fq), h.fb, h.fr, h.fs, h.fq, h.nsb, h.nsr, h.nqb, h.nqr, h.sq, h.bd.sm s⟩
theorem PO.below {w w' : World} {B : Nat} {F : Nat → Prop} {R S Q : Nat} {FS FQ : Nat → Prop} {st : St} (h : PO w B F R S Q FS FQ st) (hb : Below w.heap.size w w') : PO w' B F R S Q FS FQ st := h.sm (Sm.below hb h.bd)
theorem PO.other {w : World} {B : Nat} {F : Nat → Prop} {R S Q : Nat} {FS FQ : Nat → Prop} {st : St} (h : PO w B F R S Q FS FQ st) {z : Nat} (hz : ¬ F z) (i : Nat) (v : Value) : PO (w.setCell ⟨z, i, none⟩ v) B F R S Q FS FQ st :=
 h.sm fun x hx => Below.heap_setCell _ _ _ _ (fun e => hz (by have e' : x = z := e; rw [← e']; exact hx))
theorem Pp.sm {w w' : World} {B : Nat} {F : Nat → Prop} {st : St} (h : Pp w B F st) (s : Sm F w w') : Pp w' B F st := by
 obtain ⟨R, S, Q, FS, FQ, h⟩ := h
 exact (h.sm s).pp
theorem Pp.below {w w' : World} {B : Nat} {F : Nat → Prop} {st : St} (h : Pp w B F st) (hb : Below w.heap.size w w') : Pp w' B F st := h.sm (Sm.below hb h.bd)
theorem Pp.kf {w w' : World} {B : Nat} {F G : Nat → Prop} {st : St} (h : Pp w B F st) (k : KF G w w') (hd : ∀ x, F x → ¬ G x) : Pp w' B F st := h.sm (Sm.kf k h.bd hd)
theorem PO.rb {w : World} {B : Nat} {F : Nat → Prop} {R S Q : Nat} {FS FQ : Nat → Prop} {st : St} (h : PO w B F R S Q FS FQ st) : B ≠ R := by
 intro e
 obtain ⟨v, f, h1, h2, h3, h4, h5⟩ := h.rg
 have := h.hp
 unfold Hp at this
 rw [e, h5] at this
 cases this
theorem PO.rcv {w w' : World} {B : Nat} {F : Nat → Prop} {R S Q : Nat} {FS FQ FQ' : Nat → Prop} {st : St} (h : PO w B F R S Q FS FQ st) (k : KF FQ w w') (i : Nw FQ' FQ w) {l : List Wt} (p : PF w' Q FQ' l) : PO w' B (fun x => F x ∨ FQ' x) R S Q FS FQ' { st with rcv := l } ∧ KF F w w' ∧ Nw (fun x => F x ∨ FQ' x) F w := by
 refine ⟨⟨k.heap h.hp h.nqb, Rg.sm h.rg (k.block R (h.bd R h.fr) h.nqr), h.ps.kf k h.sq, p, .inl h.fb, .inl h.fr, fun x hx => .inl (h.fs x hx), fun x hx => .inr hx, h.nsb, h.nsr, i.apart (G := fun x => x = B) (fun x e => by have e' : x = B := e; rw [e']; exact h.bd B h.fb) (fun x e => by have e' : x = B := e; rw [e']; exact h.nqb) B rfl, i.apart (G := fun x => x = R) (fun x e => by have e' : x = R := e; rw [e']; exact h.bd R h.fr) (fun x e => by have e' : x = R := e; rw [e']; exact h.nqr) R rfl, i.apart (h.ps.bd) h.sq, fun x hx => ?_⟩, k.mono h.fq, fun x hx => ?_⟩
 ·rcases hx with q | q
  ·exact h.bd.mono k.size x q
  ·exact p.bd x q
 ·rcases hx with q | q
  ·exact .inl q
  ·exact (i x q).imp (h.fq x) id
theorem PO.snd {w w' : World} {B : Nat} {F : Nat → Prop} {R S Q : Nat} {FS FQ FS' : Nat → Prop} {st : St} (h : PO w B F R S Q FS FQ st) (k : KF FS w w') (i : Nw FS' FS w) {l : List Wt} (p : PF w' S FS' l) : PO w' B (fun x => F x ∨ FS' x) R S Q FS' FQ { st with snd := l } ∧ KF F w w' ∧ Nw (fun x => F x ∨ FS' x) F w := by
 refine ⟨⟨k.heap h.hp h.nsb, Rg.sm h.rg (k.block R (h.bd R h.fr) h.nsr), p, h.pq.kf k (fun x hx hs => h.sq x hs hx), .inl h.fb, .inl h.fr, fun x hx => .inr hx, fun x hx => .inl (h.fq x hx), i.apart (G := fun x => x = B) (fun x e => by have e' : x = B := e; rw [e']; exact h.bd B h.fb) (fun x e => by have e' : x = B := e; rw [e']; exact h.nsb) B rfl, i.apart (G := fun x => x = R) (fun x e => by have e' : x = R := e; rw [e']; exact h.bd R h.fr) (fun x e => by have e' : x = R := e; rw [e']; exact h.nsr) R rfl, h.nqb, h.nqr, fun x hx hq => i.apart h.pq.bd (fun y hy hs => h.sq y hs hy) x hq hx, fun x hx => ?_⟩, k.mono h.fs, fun x hx => ?_⟩
 ·rcases hx with q | q
  ·exact h.bd.mono k.size x q
  ·exact p.bd x q
 ·rcases hx with q | q
  ·exact .inl q
  ·exact (i x q).imp (h.fs x) id
theorem PO.ring {w w' : World} {B : Nat} {F : Nat → Prop} {R S Q : Nat} {FS FQ : Nat → Prop} {st : St} (h : PO w B F R S Q FS FQ st) (k : KB R w w') {l : List Int} (p : Rn.Rg w' R st.size l) : PO w' B F R S Q FS FQ { st with buf := l } :=
 ⟨k.heap h.hp h.rb, p, h.ps.sm (fun x hx => k.block x (h.ps.bd x hx) (fun e => h.nsr (e ▸ hx))), h.pq.sm (fun x hx => k.block x (h.pq.bd x hx) (fun e => h.nqr (e ▸ hx))), h.fb, h.fr, h.fs, h.fq, h.nsb, h.nsr, h.nqb, h.nqr, h.sq, h.bd.mono k.size⟩
theorem PO.field {w : World} {B : Nat} {F : Nat → Prop} {R S Q : Nat} {FS FQ : Nat → Prop} {st st' : St} (h : PO w B F R S Q FS FQ st) (i : Nat) (v : Value) (hh : Hp (w.setCell ⟨B, i, none⟩ v) B R S Q st'.sent st'.got st'.closed) (e1 : st'.size = st.size) (e2 : st'.buf = st.buf) (e3 : st'.snd = st.snd) (e4 : st'.rcv = st.rcv) : PO (w.setCell ⟨B, i, none⟩ v) B F R S Q FS FQ st' := by
 have K := (KB.refl B w).setCell i v
 refine ⟨hh, ?_, ?_, ?_, h.fb, h.fr, h.fs, h.fq, h.nsb, h.nsr, h.nqb, h.nqr, h.sq, h.bd.mono K.size⟩
 ·rw [e1, e2]
  exact Rg.sm h.rg (K.block R (h.bd R h.fr) (Ne.symm h.rb))
 ·rw [e3]
  exact h.ps.sm (fun x hx => K.block x (h.ps.bd x hx) (fun e => h.nsb (e ▸ hx)))
 ·rw [e4]
  exact h.pq.sm (fun x hx => K.block x (h.pq.bd x hx) (fun e => h.nqb (e ▸ hx)))
theorem PO.setSent {w : World} {B : Nat} {F : Nat → Prop} {R S Q : Nat} {FS FQ : Nat → Prop} {st : St} (h : PO w B F R S Q FS FQ st) (n : Nat) (x : Int) (hx : x = (n : Int)) : PO (w.setCell ⟨B, 3, none⟩ (.int .i64 x)) B F R S Q FS FQ { st with sent := n } := by
 subst hx
 exact h.field 3 _ ((Ba.heap_setCell_same h.hp _).trans rfl) rfl rfl rfl rfl
theorem PO.setGot {w : World} {B : Nat} {F : Nat → Prop} {R S Q : Nat} {FS FQ : Nat → Prop} {st : St} (h : PO w B F R S Q FS FQ st) (n : Nat) (x : Int) (hx : x = (n : Int)) : PO (w.setCell ⟨B, 4, none⟩ (.int .i64 x)) B F R S Q FS FQ { st with got := n } := by
 subst hx
 exact h.field 4 _ ((Ba.heap_setCell_same h.hp _).trans rfl) rfl rfl rfl rfl
theorem PO.setClosed {w : World} {B : Nat} {F : Nat → Prop} {R S Q : Nat} {FS FQ : Nat → Prop} {st : St} (h : PO w B F R S Q FS FQ st) (b : Bool) : PO (w.setCell ⟨B, 5, none⟩ (.bool b)) B F R S Q FS FQ { st with closed := b } :=
 h.field 5 _ ((Ba.heap_setCell_same h.hp _).trans rfl) rfl rfl rfl rfl
structure Gt where
 rd : Bool
 ok : Bool
 wk : Bool
 v : Int
 m : Wt
def gv (g : Gt) : Value := .agg #[.bool g.rd, .bool g.ok, .bool g.wk, .int .i64 g.v, .int .i64 g.m.g, .int .i64 g.m.c, .int .i64 g.m.v]
def gz : Gt := ⟨false, false, false, 0, ⟨0, 0, 0⟩⟩
def sendG (st : St) : Gt :=
 if st.closed then gz else match st.rcv with
 | y :: _ => ⟨true, false, true, 0, y⟩
 | [] => if st.buf.length < st.size then ⟨true, false, false, 0, ⟨0, 0, 0⟩⟩ else gz
def sendE (st : St) : Int := if st.closed then 90 else 0
def sendS (st : St) (x : Int) : St :=
 if st.closed then st else match st.rcv with
 | _ :: t => { st with rcv := t, sent := st.sent + 1, got := st.got + 1 }
 | [] => if st.buf.length < st.size then { st with buf := st.buf ++ [x], sent := st.sent + 1 } else st
def recvG (st : St) : Gt :=
 match st.buf, st.snd with
 | [], [] => ⟨st.closed, false, false, 0, ⟨0, 0, 0⟩⟩
 | [], y :: _ => ⟨true, true, true, y.v, y⟩
 | x :: _, [] => ⟨true, true, false, x, ⟨0, 0, 0⟩⟩
 | x :: _, y :: _ => ⟨true, true, true, x, y⟩
def recvS (st : St) : St :=
 match st.buf, st.snd with
 | [], [] => st
 | [], _ :: t => { st with snd := t, sent := st.sent + 1, got := st.got + 1 }
 | _ :: b, [] => { st with buf := b, got := st.got + 1 }
 | _ :: b, y :: t => { st with buf := b ++ [y.v], snd := t, sent := st.sent + 1, got := st.got + 1 }
def room (st : St) (send : Bool) : Bool := if send then decide (st.buf.length < st.size) else decide (0 < st.buf.length)
def own (st : St) (send : Bool) : List Wt := if send then st.snd else st.rcv
def rdy (st : St) (send : Bool) : Bool := st.closed || room st send || decide (0 < (own st (!send)).length)
def rdyBut (st : St) (send : Bool) (g : Int) : Bool := st.closed || room st send || decide (0 < (dr g (own st (!send))).length)
def waitE (st : St) (send : Bool) (x : Wt) : Int := if rdyBut st send x.g = true then 7 else ae (own st send) x
def waitS (st : St) (send : Bool) (x : Wt) : St :=
 if rdyBut st send x.g = true then st else if send then { st with snd := al st.snd x } else { st with rcv := al st.rcv x }
def closeE (st : St) : Int := if st.closed then 90 else 0
def closeS (st : St) : St := if st.closed then st else { st with snd := [], rcv := [], closed := true }
def closeL (st : St) (send : Bool) : List Wt := if st.closed then [] else own st send
def dropS (st : St) (g : Int) : St := { st with snd := dr g st.snd, rcv := dr g st.rcv }
def dropN (st : St) (g : Int) : Int := ((st.snd.length : Int) - ((dr g st.snd).length : Int)) + ((st.rcv.length : Int) - ((dr g st.rcv).length : Int))
end Pi
end Go.Proofs.YtkkgbeaaekmhfaaGreat
namespace Go.Proofs.YtkkgbeaaekmhfaaGreat
open Go.ChangeShapes Go.WideShapes Go.ChangeAt Go.RowKit
namespace Rp
open Ba Pe _root_.Go.Proofs.YtkkgbeaaekmhfaaGreat.Pi
def ic (l : List Int) : List Value := l.map (Value.int .i64)
theorem ic_len (l : List Int) : (ic l).length = l.length := by simp [ic]
theorem ic_app (l m : List Int) : ic (l ++ m) = ic l ++ ic m := by simp [ic]
theorem ic_one (l : List Int) : ∀ u ∈ ic l, u.oneCell' = true := by
 intro u hu
 obtain ⟨z, _, rfl⟩ := List.mem_map.1 hu
 rfl
theorem own_keep {w w' : World} {base : Nat} {e : TypeId} {size : Nat} {v : Value} {n : Nat} {xs : List Value} (h : w.ownsRow base e size v n xs) (hk : ∀ g, v.ownBlock = some g → w'.heap[g]? = w.heap[g]?) : w'.ownsRow base e size v n xs := by
 refine ⟨h.1, ?_⟩
 rcases h.2 with q | ⟨g, cap, cur, q1, q2, q3, q4⟩
 ·exact .inl q
 ·exact .inr ⟨g, cap, cur, q1, q2, (hk g (by rw [q1]; rfl)).trans q3, q4⟩
theorem own_base {w : World} {base base' : Nat} {e : TypeId} {size : Nat} {v : Value} {n : Nat} {xs : List Value} (h : w.ownsRow base e size v n xs) (hb : base' ≤ base) : w.ownsRow base' e size v n xs := by
 refine ⟨h.1, ?_⟩
 rcases h.2 with q | ⟨g, cap, cur, q1, q2, q3, q4⟩
 ·exact .inl q
 ·exact .inr ⟨g, cap, cur, q1, by omega, q3, q4⟩
theorem own_blk {w : World} {base : Nat} {e : TypeId} {size : Nat} {v : Value} {n : Nat} {xs : List Value} (h : w.ownsRow base e size v n xs) (g : Nat) (hg : v.ownBlock = some g) : base ≤ g ∧ ∃ cur, w.heap[g]? = some (.cells cur e (0, 0)) := by
 rcases h.2 with ⟨rfl, _⟩ | ⟨g', cap, cur, rfl, q2, q3, q4⟩
 ·simp [Value.ownBlock] at hg
 ·simp [Value.ownBlock] at hg
  subst hg
  exact ⟨q2, cur, q3⟩
theorem own_ne {w : World} {b1 b2 : Nat} {e1 e2 : TypeId} {s1 s2 : Nat} {v1 v2 : Value} {n1 n2 : Nat} {x1 x2 : List Value} (h1 : w.ownsRow b1 e1 s1 v1 n1 x1) (h2 : w.ownsRow b2 e2 s2 v2 n2 x2) (he : e1 ≠ e2) (g : Nat) (hg : v1.ownBlock = some g) : v2.ownBlock ≠ some g := by
 intro hg2
 obtain ⟨_, c1, q1⟩ := own_blk h1 g hg
 obtain ⟨_, c2, q2⟩ := own_blk h2 g hg2
 rw [q1] at q2
 cases q2
 exact he rfl
theorem own_at {w : World} {base : Nat} {v : Value} {l : List Int} (h : w.ownsRow base 3 1 v l.length (ic l)) : ∃ oa c, v = .slice oa l.length c ∧ At w oa l ∧ l.length ≤ c := by
 rcases h.2 with ⟨rfl, h0⟩ | ⟨g, cap, cur, rfl, _, hg, hc, _, hcs, htk⟩
 ·refine ⟨none, 0, by rw [h0], ?_, by omega⟩
  obtain rfl := List.eq_nil_of_length_eq_zero h0
  exact At.nil _ _
 ·refine ⟨_, cap, rfl, ?_, hc⟩
  intro k hk
  refine ⟨g, 0, rfl, ?_⟩
  have q : (ic l)[k]? = some (.int .i64 (nth l k)) := by simp [ic, nth, hk]
  rw [← htk, List.getElem?_take_of_lt (by omega)] at q
  rw [Nat.zero_add, cell_of hg]
  simpa using q
def Fw (F : Nat → Prop) (v : Value) : Nat → Prop := fun k => F k ∨ v.ownBlock = some k
theorem Fw.bd {w : World} {F : Nat → Prop} {base : Nat} {e : TypeId} {size : Nat} {v : Value} {n : Nat} {xs : List Value} (h : Bd F w) (r : w.ownsRow base e size v n xs) : Bd (Fw F v) w := by
 intro k hk
 rcases hk with q | q
 ·exact h k q
 ·obtain ⟨_, cur, q2⟩ := own_blk r k q
  exact heap_lt q2
theorem Fw.nw {w w' : World} {F : Nat → Prop} {e : TypeId} {size : Nat} {v : Value} {n : Nat} {xs : List Value} {N : Nat} (r : w.ownsRow N e size v n xs) (hN : w'.heap.size ≤ N) : Nw (Fw F v) F w' := by
 intro k hk
 rcases hk with q | q
 ·exact .inl q
 ·exact .inr (Nat.le_trans hN (own_blk r k q).1)
theorem KF.grown {F : Nat → Prop} {w a b : World} {o : Option Nat} (k : KF F w a) (g : a.grownBy b o) (h : ∀ x, o = some x → F x ∨ w.heap.size ≤ x) : KF F w b :=
 ⟨g.os.trans k.os, g.tape.trans k.tape, g.output.trans k.output, Nat.le_trans k.size g.size, fun x hx hr => (g.block x (Nat.lt_of_lt_of_le hx k.size) (fun e => by
   rcases h x e.symm with q | q
   ·exact hr q
   ·omega)).trans (k.block x hx hr)⟩
theorem heap_grown {a b : World} {o : Option Nat} {x : Nat} {ob : Obj} (g : a.grownBy b o) (h : a.heap[x]? = some ob) (hn : o ≠ some x) : b.heap[x]? = some ob := (g.block x (heap_lt h) (fun e => hn e.symm)).trans h
theorem Fw.at {F : Nat → Prop} {v v0 : Value} {w : World} {N : Nat} (hat : v.ownBlock = v0.ownBlock ∨ v.ownBlock = some N) (h0 : ∀ g, v0.ownBlock = some g → F g) (hs : w.heap.size ≤ N) : Nw (Fw F v) F w := by
 intro k hk
 rcases hk with q | q
 ·exact .inl q
 ·rcases hat with e | e
  ·exact .inl (h0 k (e ▸ q))
  ·rw [e] at q
   cases q
   exact .inr hs
end Rp
end Go.Proofs.YtkkgbeaaekmhfaaGreat
namespace Go.Proofs.YtkkgbeaaekmhfaaGreat
open Go.ChangeShapes Go.WideShapes Go.ChangeAt Go.RowKit
namespace Pi
open Ba Pe
theorem hmf : ∀ (fn : Fn) (first cap : Array Value) (w : World), (Instr.makeFunc fn first cap).run Tryz.prog w = .ok (.func fn first cap) w := fun _ _ _ _ => rfl
theorem new_err (s : Int) (w : World) (h : s < 0 ∨ 4 < s) :
 Calls Tryz.prog 77 #[.int .i64 s] w fun r w' => r = .returned (.tuple #[.pointer none, .int .i64 1]) ∧ w' = w := by
 go_enter Tryz.func77, Tryz.ntmps77
 go_wp2_with fail
 refine (Rn.new_err s _ h).mono ?_
 rintro r w1 ⟨rfl, rfl⟩
 go_wp2_with fail
 go_ret2
 exact ⟨rfl, rfl⟩
def st0 (s : Nat) : St := ⟨s, [], [], [], 0, 0, false⟩
set_option maxHeartbeats 1600000 in
theorem new_ok (s : Nat) (w : World) (h : s ≤ 4) :
 Calls Tryz.prog 77 #[.int .i64 (s : Int)] w fun r w' => ∃ B F, r = .returned (.tuple #[.pointer (some ⟨B, 0, none⟩), .int .i64 0]) ∧ Pp w' B F (st0 s) ∧ (∀ k, F k → w.heap.size ≤ k) ∧ Below w.heap.size w w' := by
 go_enter Tryz.func77, Tryz.ntmps77
 go_wp2_with fail
 refine (Rn.new_ok s _ h).mono ?_
 rintro r w1 ⟨rfl, r1, b1⟩
 have R1 := hide r1
 have B1 := hide b1
 clear r1 b1
 go_wp2_with fail
 refine (new_any _).mono ?_
 rintro r w2 ⟨rfl, p2, b2⟩
 have P2 := hide p2
 have B2 := hide b2
 clear p2 b2
 go_wp2_with fail
 refine (new_any _).mono ?_
 rintro r w3 ⟨rfl, p3, b3⟩
 have P3 := hide p3
 have B3 := hide b3
 clear p3 b3
 go_wp2_with fail
 go_ret2
 have z1 := R1.out.lt
 have z2 := P2.out.lt
 have z3 := P3.out.lt
 have b4 := below_alloc w3 (.cells #[.pointer (some ⟨w.heap.size, 0, none⟩), .pointer (some ⟨w1.heap.size, 0, none⟩), .pointer (some ⟨w2.heap.size, 0, none⟩), .int .i64 0, .int .i64 0, .bool false] 156)
 have hs := World.size_alloc w3 (.cells #[.pointer (some ⟨w.heap.size, 0, none⟩), .pointer (some ⟨w1.heap.size, 0, none⟩), .pointer (some ⟨w2.heap.size, 0, none⟩), .int .i64 0, .int .i64 0, .bool false] 156)
 refine ⟨w3.heap.size, fun k => w.heap.size ≤ k ∧ k ≤ w3.heap.size, rfl, PO.pp (R := w.heap.size) (S := w1.heap.size) (Q := w2.heap.size) (FS := fun k => k = w1.heap.size) (FQ := fun k => k = w2.heap.size) ⟨heap_new _ _, R1.out.below (btr B2.out (btr B3.out b4)), P2.out.below (btr B3.out b4), P3.out.below b4, ?_, ?_, ?_, ?_, ?_, ?_, ?_, ?_, ?_, ?_⟩, fun k hk => hk.1, btr B1.out (btr B2.out (btr B3.out b4))⟩
 all_goals first
  | (show _ ∧ _; omega)
  | (show ¬ _ = _; omega)
  | (intro k (hk : k = _); show _ ∧ _; omega)
  | (intro k (hk : k = _); show ¬ _ = _; omega)
  | (intro k hk; obtain ⟨h1, h2⟩ := hk; rw [hs]; omega)
theorem len_nil (w : World) :
 Calls Tryz.prog 121 #[.pointer none] w fun r w' => r = .returned (.int .i64 0) ∧ w' = w := by
 go_enter Tryz.func121, Tryz.ntmps121
 go_wp2_with fail
 go_ret
 exact ⟨rfl, rfl⟩
theorem len_any (B : Nat) (F : Nat → Prop) (st : St) (w : World) (h : Pp w B F st) :
 Calls Tryz.prog 121 #[.pointer (some ⟨B, 0, none⟩)] w fun r w' => r = .returned (.int .i64 (st.buf.length : Int)) ∧ w' = w := by
 obtain ⟨R, S, Q, FS, FQ, h⟩ := h
 have y0 := cell_of h.hp 0
 simp at y0
 have RG := hide h.rg
 clear h
 go_enter Tryz.func121, Tryz.ntmps121
 go_wp2_with fail
 refine (Rn.len_any R _ _ _ RG.out).mono ?_
 rintro r w1 ⟨rfl, rfl⟩
 go_wp2_with fail
 go_ret
 exact ⟨rfl, rfl⟩
theorem cap_nil (w : World) :
 Calls Tryz.prog 122 #[.pointer none] w fun r w' => r = .returned (.int .i64 0) ∧ w' = w := by
 go_enter Tryz.func122, Tryz.ntmps122
 go_wp2_with fail
 go_ret
 exact ⟨rfl, rfl⟩
theorem cap_any (B : Nat) (F : Nat → Prop) (st : St) (w : World) (h : Pp w B F st) :
 Calls Tryz.prog 122 #[.pointer (some ⟨B, 0, none⟩)] w fun r w' => r = .returned (.int .i64 (st.size : Int)) ∧ w' = w := by
 obtain ⟨R, S, Q, FS, FQ, h⟩ := h
 have y0 := cell_of h.hp 0
 simp at y0
 have RG := hide h.rg
 clear h
 go_enter Tryz.func122, Tryz.ntmps122
 go_wp2_with fail
 refine (Rn.cap_any R _ _ _ RG.out).mono ?_
 rintro r w1 ⟨rfl, rfl⟩
 go_wp2_with fail
 go_ret
 exact ⟨rfl, rfl⟩
theorem side_nil (b : Bool) (w : World) :
 Calls Tryz.prog 105 #[.pointer none, .bool b] w fun r w' => r = .returned (.pointer none) ∧ w' = w := by
 go_enter Tryz.func105, Tryz.ntmps105
 go_wp2_with fail
 go_ret
 exact ⟨rfl, rfl⟩
def sd (S Q : Nat) (b : Bool) : Nat := if b then S else Q
theorem side_c (B S Q : Nat) (b : Bool) (w : World) (h1 : w.cell? ⟨B, 1, none⟩ = some (.pointer (some ⟨S, 0, none⟩))) (h2 : w.cell? ⟨B, 2, none⟩ = some (.pointer (some ⟨Q, 0, none⟩))) :
 Calls Tryz.prog 105 #[.pointer (some ⟨B, 0, none⟩), .bool b] w fun r w' => r = .returned (.pointer (some ⟨sd S Q b, 0, none⟩)) ∧ w' = w := by
 unfold sd
 cases b
 ·simp only [Bool.false_eq_true, if_false]
  go_enter Tryz.func105, Tryz.ntmps105
  go_wp2_with fail
  go_ret
  exact ⟨rfl, rfl⟩
 ·simp only [if_true]
  go_enter Tryz.func105, Tryz.ntmps105
  go_wp2_with fail
  go_ret
  exact ⟨rfl, rfl⟩
theorem PO.side {w : World} {B : Nat} {F : Nat → Prop} {R S Q : Nat} {FS FQ : Nat → Prop} {st : St} (h : PO w B F R S Q FS FQ st) (b : Bool) :
 Calls Tryz.prog 105 #[.pointer (some ⟨B, 0, none⟩), .bool b] w fun r w' => r = .returned (.pointer (some ⟨sd S Q b, 0, none⟩)) ∧ w' = w :=
 side_c B S Q b w (cell_of h.hp 1) (cell_of h.hp 2)
theorem PO.pew {w : World} {B : Nat} {F : Nat → Prop} {R S Q : Nat} {FS FQ : Nat → Prop} {st : St} (h : PO w B F R S Q FS FQ st) (b : Bool) : Pw w (sd S Q b) (Pi.own st b) := by
 cases b
 ·exact h.pq.pw
 ·exact h.ps.pw
theorem waiting_nil (b : Bool) (w : World) :
 Calls Tryz.prog 128 #[.pointer none, .bool b] w fun r w' => (∃ oa, r = .returned (.slice oa 0 0)) ∧ Below w.heap.size w w' := by
 go_enter Tryz.func128, Tryz.ntmps128
 go_wp2_with fail
 refine (side_nil b _).mono ?_
 rintro r w1 ⟨rfl, rfl⟩
 go_wp2_with fail
 refine (list_nil _).mono ?_
 rintro r w2 ⟨⟨oa, rfl⟩, b2⟩
 have B2 := hide b2
 clear b2
 go_wp2_with fail
 go_ret
 exact ⟨⟨oa, rfl⟩, B2.out⟩
theorem waiting_any (B : Nat) (F : Nat → Prop) (st : St) (b : Bool) (w : World) (h : Pp w B F st) :
 Calls Tryz.prog 128 #[.pointer (some ⟨B, 0, none⟩), .bool b] w fun r w' => ∃ oa c, r = .returned (.slice oa (own st b).length c) ∧ WAt w' oa (own st b) ∧ Below w.heap.size w w' := by
 obtain ⟨R, S, Q, FS, FQ, h⟩ := h
 have SD := hide (h.side b)
 have LS := hide (list_any (sd S Q b) _ w (h.pew b))
 clear h
 generalize sd S Q b = X at SD LS
 generalize own st b = L at LS ⊢
 go_enter Tryz.func128, Tryz.ntmps128
 go_wp2_with fail
 refine SD.out.mono ?_
 rintro r w1 ⟨rfl, rfl⟩
 go_wp2_with fail
 refine LS.out.mono ?_
 rintro r w2 ⟨oa, c, rfl, hA, b2⟩
 have B2 := hide b2
 have HA := hide hA
 clear b2 hA
 go_wp2_with fail
 go_ret
 exact ⟨oa, c, rfl, HA.out, B2.out⟩
theorem ready1_any (B : Nat) (F : Nat → Prop) (st : St) (b : Bool) (X : Nat) (w : World) (h : Pp w B F st) (hX : w.cell? ⟨X, 0, none⟩ = some (.pointer (some ⟨B, 0, none⟩))) :
 Calls Tryz.prog 127 #[.bool b, .pointer (some ⟨X, 0, none⟩)] w fun r w' => r = .returned (.bool (decide (0 < (own st b).length))) ∧ w' = w := by
 obtain ⟨R, S, Q, FS, FQ, h⟩ := h
 have SD := hide (h.side b)
 have LN := hide (Pe.len_any (sd S Q b) _ w (h.pew b))
 clear h
 generalize sd S Q b = Y at SD LN
 generalize own st b = L at LN ⊢
 have hd : decide (0 < (L.length : Int)) = decide (0 < L.length) := by simp
 go_enter Tryz.func127, Tryz.ntmps127
 go_wp2_with fail
 refine SD.out.mono ?_
 rintro r w1 ⟨rfl, rfl⟩
 go_wp2_with fail
 refine LN.out.mono ?_
 rintro r w2 ⟨rfl, rfl⟩
 go_wp2_with fail
 go_ret
 exact ⟨ret_bool (by first | exact hd | simp), rfl⟩
end Pi
end Go.Proofs.YtkkgbeaaekmhfaaGreat
namespace Go.Proofs.YtkkgbeaaekmhfaaGreat
open Go.ChangeShapes Go.WideShapes Go.ChangeAt Go.RowKit
namespace Rp
open Ba Pe _root_.Go.Proofs.YtkkgbeaaekmhfaaGreat.Pi
theorem info_i : (Tryz.prog.info? 3).map (fun i => (i.zero, i.size, i.bytes)) = some (some (.int .i64 0), 1, 8) := by kernel_rfl
end Rp
end Go.Proofs.YtkkgbeaaekmhfaaGreat
namespace Go.Proofs.YtkkgbeaaekmhfaaGreat
open Go.ChangeShapes Go.WideShapes Go.ChangeAt Go.RowKit
namespace Pi
open Ba Pe
theorem ready_nil (b : Bool) (f : Value) (w : World) :
 Calls Tryz.prog 102 #[.pointer none, .bool b, f] w fun r w' => r = .returned (.bool false) ∧ w' = w := by
 go_enter Tryz.func102, Tryz.ntmps102
 go_wp2_with fail
 go_ret
 exact ⟨rfl, rfl⟩
set_option maxHeartbeats 1600000 in
theorem ready_g (n : FuncId) (caps : Array Value) (hn : ∀ (a : Array Value) (u : World), (callFunc n a).run Tryz.prog u = .ok (.enter n a) u) (b : Bool) (B : Nat) (F : Nat → Prop) (st : St) (send : Bool) (w : World) (h : Pp w B F st)
 (CL : Calls Tryz.prog n (#[.bool (!send)] ++ caps) w fun r w' => r = .returned (.bool b) ∧ Below w.heap.size w w') :
 Calls Tryz.prog 102 #[.pointer (some ⟨B, 0, none⟩), .bool send, .func (.func n) #[] caps] w fun r w' => r = .returned (.bool (st.closed || room st send || b)) ∧ Below w.heap.size w w' := by
 have PP := hide h
 have LN := hide (len_any B F st w h)
 have CP := hide (cap_any B F st w h)
 have CC := hide CL
 obtain ⟨R, S, Q, FS, FQ, h⟩ := h
 have y5 := cell_of h.hp 5
 simp at y5
 clear h CL
 have hd0 : decide (0 < (st.buf.length : Int)) = decide (0 < st.buf.length) := by simp
 have hd1 : decide ((st.buf.length : Int) < (st.size : Int)) = decide (st.buf.length < st.size) := by simp
 unfold room
 cases send
 ·simp only [Bool.false_eq_true, if_false]
  cases hc : st.closed
  ·cases he : decide (0 < st.buf.length)
   ·rw [he] at hd0
    rw [hc] at y5
    go_enter Tryz.func102, Tryz.ntmps102
    go_wp2_with fail
    refine LN.out.mono ?_
    rintro r w1 ⟨rfl, rfl⟩
    go_wp2_with fail
    refine CC.out.mono ?_
    rintro r w2 ⟨rfl, b2⟩
    have B2 := hide b2
    clear b2
    go_wp2_with fail
    go_ret
    exact ⟨ret_bool (by simp), B2.out⟩
   ·rw [he] at hd0
    rw [hc] at y5
    go_enter Tryz.func102, Tryz.ntmps102
    go_wp2_with fail
    refine LN.out.mono ?_
    rintro r w1 ⟨rfl, rfl⟩
    go_wp2_with fail
    go_ret
    exact ⟨ret_bool (by simp), Below.refl _ _⟩
  ·rw [hc] at y5
   go_enter Tryz.func102, Tryz.ntmps102
   go_wp2_with fail
   refine LN.out.mono ?_
   rintro r w1 ⟨rfl, rfl⟩
   go_wp2_with fail
   go_ret
   exact ⟨ret_bool (by simp), Below.refl _ _⟩
 ·simp only [if_true]
  cases hc : st.closed
  ·cases he : decide (st.buf.length < st.size)
   ·rw [he] at hd1
    rw [hc] at y5
    go_enter Tryz.func102, Tryz.ntmps102
    go_wp2_with fail
    refine LN.out.mono ?_
    rintro r w1 ⟨rfl, rfl⟩
    go_wp2_with fail
    refine LN.out.mono ?_
    rintro r w1 ⟨rfl, rfl⟩
    go_wp2_with fail
    refine CP.out.mono ?_
    rintro r w1 ⟨rfl, rfl⟩
    go_wp2_with fail
    refine CC.out.mono ?_
    rintro r w2 ⟨rfl, b2⟩
    have B2 := hide b2
    clear b2
    go_wp2_with fail
    go_ret
    exact ⟨ret_bool (by simp), B2.out⟩
   ·rw [he] at hd1
    rw [hc] at y5
    go_enter Tryz.func102, Tryz.ntmps102
    go_wp2_with fail
    refine LN.out.mono ?_
    rintro r w1 ⟨rfl, rfl⟩
    go_wp2_with fail
    refine LN.out.mono ?_
    rintro r w1 ⟨rfl, rfl⟩
    go_wp2_with fail
    refine CP.out.mono ?_
    rintro r w1 ⟨rfl, rfl⟩
    go_wp2_with fail
    go_ret
    exact ⟨ret_bool (by simp), Below.refl _ _⟩
  ·rw [hc] at y5
   go_enter Tryz.func102, Tryz.ntmps102
   go_wp2_with fail
   refine LN.out.mono ?_
   rintro r w1 ⟨rfl, rfl⟩
   go_wp2_with fail
   refine LN.out.mono ?_
   rintro r w1 ⟨rfl, rfl⟩
   go_wp2_with fail
   refine CP.out.mono ?_
   rintro r w1 ⟨rfl, rfl⟩
   go_wp2_with fail
   go_ret
   exact ⟨ret_bool (by simp), Below.refl _ _⟩
theorem Ready_nil (b : Bool) (w : World) :
 Calls Tryz.prog 113 #[.pointer none, .bool b] w fun r w' => r = .returned (.bool false) ∧ Below w.heap.size w w' := by
 have hm := hmf
 go_enter Tryz.func113, Tryz.ntmps113
 go_wp2_with fail
 refine (ready_nil b _ _).mono ?_
 rintro r w1 ⟨rfl, rfl⟩
 go_wp2_with fail
 go_ret
 exact ⟨rfl, below_alloc _ _⟩
set_option maxRecDepth 100000 in
theorem Ready_any (B : Nat) (F : Nat → Prop) (st : St) (b : Bool) (w : World) (h : Pp w B F st) :
 Calls Tryz.prog 113 #[.pointer (some ⟨B, 0, none⟩), .bool b] w fun r w' => r = .returned (.bool (rdy st b)) ∧ Below w.heap.size w w' := by
 have hm := hmf
 have BA := hide (below_alloc w (.cells #[.pointer (some ⟨B, 0, none⟩)] 126))
 have PA := hide (h.below BA.out)
 have R1 := hide (ready1_any B F st (!b) w.heap.size _ PA.out (cell_of (heap_new _ _) 0))
 have R2 := hide (ready_g 127 #[.pointer (some ⟨w.heap.size, 0, none⟩)] (fun _ _ => by rfl) (decide (0 < (own st (!b)).length)) B F st b _ PA.out (R1.out.mono (by rintro r w1 ⟨rfl, rfl⟩; exact ⟨rfl, Below.refl _ _⟩)))
 clear h R1
 unfold rdy
 generalize (st.closed || room st b || decide (0 < (own st (!b)).length)) = q at R2 ⊢
 go_enter Tryz.func113, Tryz.ntmps113
 go_wp2_with fail
 refine R2.out.mono ?_
 rintro r w1 ⟨rfl, b1⟩
 have B1 := hide (btr BA.out b1)
 clear b1
 go_wp2_with fail
 go_ret
 exact ⟨rfl, B1.out⟩
end Pi
end Go.Proofs.YtkkgbeaaekmhfaaGreat
namespace Go.Proofs.YtkkgbeaaekmhfaaGreat
open Go.ChangeShapes Go.WideShapes Go.ChangeAt Go.RowKit
namespace Pi
open Ba Pe
theorem size_got : (Tryz.prog.info? 137).map (·.size) = some 7 := by kernel_rfl
theorem loadVar_got {w : World} {b : Nat} {c : Array Value} {t : TypeId} (h : w.heap[b]? = some (.cells c t (0, 0))) (hc : c.size = 7) : (loadVar 137 ⟨b, 0, none⟩).run Tryz.prog w = .ok (.agg c) w :=
 run_loadVar_row w b t _ _ _ _ h Tryz.underlying137 rfl (by rw [size_got, hc])
theorem got_set {w : World} {b : Nat} {x0 x1 x2 x3 x4 x5 x6 : Value} {t : TypeId} (h : w.heap[b]? = some (.cells #[x0, x1, x2, x3, x4, x5, x6] t (0, 0))) (u0 u1 u2 u3 u4 u5 u6 : Value) : (((((((w.setCell ⟨b, 0, none⟩ u0).setCell ⟨b, 1, none⟩ u1).setCell ⟨b, 2, none⟩ u2).setCell ⟨b, 3, none⟩ u3).setCell ⟨b, 4, none⟩ u4).setCell ⟨b, 5, none⟩ u5).setCell ⟨b, 6, none⟩ u6).heap[b]? = some (.cells #[u0, u1, u2, u3, u4, u5, u6] t (0, 0)) := by
 rw [Ba.heap_setCell_same (Ba.heap_setCell_same (Ba.heap_setCell_same (Ba.heap_setCell_same (Ba.heap_setCell_same (Ba.heap_setCell_same (Ba.heap_setCell_same h u0) u1) u2) u3) u4) u5) u6]
 rfl
theorem fin7 {w A : World} {B Z : Nat} {F F' : Nat → Prop} {st : St} (k : KF F w A) (i : Nw F' F w) (p : Pp A B F' st) (hz : w.heap.size ≤ Z) (hn : ¬ F' Z) (u0 u1 u2 u3 u4 u5 u6 : Value) :
 KF F w (((((((A.setCell ⟨Z, 0, none⟩ u0).setCell ⟨Z, 1, none⟩ u1).setCell ⟨Z, 2, none⟩ u2).setCell ⟨Z, 3, none⟩ u3).setCell ⟨Z, 4, none⟩ u4).setCell ⟨Z, 5, none⟩ u5).setCell ⟨Z, 6, none⟩ u6) ∧ ∃ F', Nw F' F w ∧ Pp (((((((A.setCell ⟨Z, 0, none⟩ u0).setCell ⟨Z, 1, none⟩ u1).setCell ⟨Z, 2, none⟩ u2).setCell ⟨Z, 3, none⟩ u3).setCell ⟨Z, 4, none⟩ u4).setCell ⟨Z, 5, none⟩ u5).setCell ⟨Z, 6, none⟩ u6) B F' st := by
 have K := (((((((KB.refl Z A).setCell 0 u0).setCell 1 u1).setCell 2 u2).setCell 3 u3).setCell 4 u4).setCell 5 u5).setCell 6 u6
 exact ⟨((((((k.setNew hz 0 u0).setNew hz 1 u1).setNew hz 2 u2).setNew hz 3 u3).setNew hz 4 u4).setNew hz 5 u5).setNew hz 6 u6, F', i, p.sm fun x hx => K.block x (p.bd x hx) (fun e => hn (e ▸ hx))⟩
theorem send_nil (x : Int) (w : World) :
 Calls Tryz.prog 118 #[.pointer none, .int .i64 x] w fun r w' => r = .returned (.tuple #[gv gz, .int .i64 0]) ∧ Below w.heap.size w w' := by
 go_enter Tryz.func118, Tryz.ntmps118
 go_wp2_with fail
 first
  | exact bodyPost_ret (results_row2 Tryz.results118 _ _ _ _ _ rfl rfl (loadVar_got (heap_new _ _) rfl)) rfl ⟨rfl, below_alloc _ _⟩
  | exact bodyPost_ret (results_row2 Tryz.results118 _ _ _ _ _ rfl rfl (loadVar_got (got_set (heap_new _ _) _ _ _ _ _ _ _) rfl)) rfl ⟨rfl, (((((((below_alloc _ _).setCell (Nat.le_refl _) _).setCell (Nat.le_refl _) _).setCell (Nat.le_refl _) _).setCell (Nat.le_refl _) _).setCell (Nat.le_refl _) _).setCell (Nat.le_refl _) _).setCell (Nat.le_refl _) _⟩
set_option maxHeartbeats 3200000 in
theorem send_closed (B : Nat) (F : Nat → Prop) (st : St) (x : Int) (w : World) (h : Pp w B F st) (hc : st.closed = true) :
 Calls Tryz.prog 118 #[.pointer (some ⟨B, 0, none⟩), .int .i64 x] w fun r w' => r = .returned (.tuple #[gv gz, .int .i64 90]) ∧ KF F w w' ∧ ∃ F', Nw F' F w ∧ Pp w' B F' st := by
 have hB := h.lt
 have P1 := hide (h.below (below_alloc w (.cells #[.bool false, .bool false, .bool false, .int .i64 0, .int .i64 0, .int .i64 0, .int .i64 0] 137)))
 have Z1 := hide (heap_new w (.cells #[.bool false, .bool false, .bool false, .int .i64 0, .int .i64 0, .int .i64 0, .int .i64 0] 137))
 have NF : Hid (¬ F w.heap.size) := fun e => Nat.lt_irrefl _ (h.bd _ e)
 have y5 : (w.alloc (.cells #[.bool false, .bool false, .bool false, .int .i64 0, .int .i64 0, .int .i64 0, .int .i64 0] 137)).cell? ⟨B, 5, none⟩ = some (.bool true) := by
  obtain ⟨R, S, Q, FS, FQ, h'⟩ := P1.out
  have := cell_of h'.hp 5
  rw [hc] at this
  exact this
 clear h hc
 go_enter Tryz.func118, Tryz.ntmps118
 go_wp2_with fail
 first
  | exact bodyPost_ret (results_row2 Tryz.results118 _ _ _ _ _ rfl rfl (loadVar_got Z1.out rfl)) rfl ⟨rfl, KF.of (below_alloc _ _), F, Nw.refl _ _, P1.out⟩
  | exact bodyPost_ret (results_row2 Tryz.results118 _ _ _ _ _ rfl rfl (loadVar_got (got_set Z1.out _ _ _ _ _ _ _) rfl)) rfl ⟨rfl, fin7 (KF.of (below_alloc _ _)) (Nw.refl _ _) P1.out (Nat.le_refl _) NF.out _ _ _ _ _ _ _⟩
end Pi
end Go.Proofs.YtkkgbeaaekmhfaaGreat
namespace Go.Proofs.YtkkgbeaaekmhfaaGreat
open Go.ChangeShapes Go.WideShapes Go.ChangeAt Go.RowKit
namespace Rp
open Ba Pe _root_.Go.Proofs.YtkkgbeaaekmhfaaGreat.Pi
end Rp
end Go.Proofs.YtkkgbeaaekmhfaaGreat
namespace Go.Proofs.YtkkgbeaaekmhfaaGreat
open Go.ChangeShapes Go.WideShapes Go.ChangeAt Go.RowKit
namespace Pi
open Ba Pe
set_option maxHeartbeats 3200000 in
theorem send_woke (B : Nat) (F : Nat → Prop) (st : St) (x : Int) (y : Wt) (t : List Wt) (w : World) (h : Pp w B F st) (hc : st.closed = false) (hr : st.rcv = y :: t) (hs : st.sent < 1000000000) (hg : st.got < 1000000000) :
 Calls Tryz.prog 118 #[.pointer (some ⟨B, 0, none⟩), .int .i64 x] w fun r w' => r = .returned (.tuple #[gv ⟨true, false, true, 0, y⟩, .int .i64 0]) ∧ KF F w w' ∧ ∃ F', Nw F' F w ∧ Pp w' B F' { st with rcv := t, sent := st.sent + 1, got := st.got + 1 } := by
 have hB := h.lt
 have NF : Hid (¬ F w.heap.size) := fun e => Nat.lt_irrefl _ (h.bd _ e)
 obtain ⟨R, S, Q, FS, FQ, h⟩ := h
 have P1 := hide (h.below (below_alloc w (.cells #[.bool false, .bool false, .bool false, .int .i64 0, .int .i64 0, .int .i64 0, .int .i64 0] 137)))
 have Z1 := hide (heap_new w (.cells #[.bool false, .bool false, .bool false, .int .i64 0, .int .i64 0, .int .i64 0, .int .i64 0] 137))
 have y5 : (w.alloc (.cells #[.bool false, .bool false, .bool false, .int .i64 0, .int .i64 0, .int .i64 0, .int .i64 0] 137)).cell? ⟨B, 5, none⟩ = some (.bool false) := (cell_of P1.out.hp 5).trans (by rw [hc]; rfl)
 have y2 : (w.alloc (.cells #[.bool false, .bool false, .bool false, .int .i64 0, .int .i64 0, .int .i64 0, .int .i64 0] 137)).cell? ⟨B, 2, none⟩ = some (.pointer (some ⟨Q, 0, none⟩)) := cell_of P1.out.hp 2
 have TK := hide (take_any Q FQ st.rcv _ P1.out.pq)
 have FB := hide h.fb
 rw [hr] at TK
 have HR := hide hr
 clear h hc hr
 unfold gv
 go_enter Tryz.func118, Tryz.ntmps118
 go_wp2_with fail
 refine TK.out.mono ?_
 rintro r w2 ⟨rfl, k2, p2⟩
 obtain ⟨P2, K2, N2⟩ := P1.out.rcv k2 (Nw.refl _ _) p2
 have PP2 := hide (P2.below (below_alloc w2 (.cells #[.int .i64 y.g, .int .i64 y.c, .int .i64 y.v] 135)))
 have M3 := hide (heap_new w2 (.cells #[.int .i64 y.g, .int .i64 y.c, .int .i64 y.v] 135))
 have Z3 := hide (heap_below (k2.heap Z1.out (fun e => NF.out (P1.out.fq _ e))) (below_alloc w2 (.cells #[.int .i64 y.g, .int .i64 y.c, .int .i64 y.v] 135)))
 have KK := hide (((KF.of (F := F) (below_alloc w (.cells #[.bool false, .bool false, .bool false, .int .i64 0, .int .i64 0, .int .i64 0, .int .i64 0] 137))).trans K2 (Nw.refl _ _)).then (below_alloc w2 (.cells #[.int .i64 y.g, .int .i64 y.c, .int .i64 y.v] 135)))
 have N3 : Hid (Nw (fun x => F x ∨ FQ x) F w) := fun k hk => hk.elim .inl (fun q => .inl (P1.out.fq k q))
 have NF3 : Hid (¬ (F w.heap.size ∨ FQ w.heap.size)) := fun e => e.elim NF.out (fun q => NF.out (P1.out.fq _ q))
 have hz2 : w.heap.size < w2.heap.size := by have := k2.size; rw [World.size_alloc] at this; omega
 have hM1 : w2.heap.size ≠ B := by omega
 have hM2 : w2.heap.size ≠ w.heap.size := by omega
 have hM3 : B ≠ w.heap.size := by omega
 clear k2 p2 P2 K2 N2 TK P1 Z1 y5 y2
 unfold wv
 simp only [fw, fo, List.isEmpty_cons, Bool.not_false]
 have q0 : (w2.alloc (.cells #[.int .i64 y.g, .int .i64 y.c, .int .i64 y.v] 135)).cell? ⟨w2.heap.size, 0, none⟩ = some (.int .i64 y.g) := cell_of M3.out 0
 have q1 : (w2.alloc (.cells #[.int .i64 y.g, .int .i64 y.c, .int .i64 y.v] 135)).cell? ⟨w2.heap.size, 1, none⟩ = some (.int .i64 y.c) := cell_of M3.out 1
 have q2 : (w2.alloc (.cells #[.int .i64 y.g, .int .i64 y.c, .int .i64 y.v] 135)).cell? ⟨w2.heap.size, 2, none⟩ = some (.int .i64 y.v) := cell_of M3.out 2
 have z0 : (w2.alloc (.cells #[.int .i64 y.g, .int .i64 y.c, .int .i64 y.v] 135)).cell? ⟨w.heap.size, 0, none⟩ = some (.bool false) := cell_of Z3.out 0
 have zf0 := frozen_of Z3.out 0
 have z1 : (w2.alloc (.cells #[.int .i64 y.g, .int .i64 y.c, .int .i64 y.v] 135)).cell? ⟨w.heap.size, 1, none⟩ = some (.bool false) := cell_of Z3.out 1
 have zf1 := frozen_of Z3.out 1
 have z2 : (w2.alloc (.cells #[.int .i64 y.g, .int .i64 y.c, .int .i64 y.v] 135)).cell? ⟨w.heap.size, 2, none⟩ = some (.bool false) := cell_of Z3.out 2
 have zf2 := frozen_of Z3.out 2
 have z3 : (w2.alloc (.cells #[.int .i64 y.g, .int .i64 y.c, .int .i64 y.v] 135)).cell? ⟨w.heap.size, 3, none⟩ = some (.int .i64 0) := cell_of Z3.out 3
 have zf3 := frozen_of Z3.out 3
 have z4 : (w2.alloc (.cells #[.int .i64 y.g, .int .i64 y.c, .int .i64 y.v] 135)).cell? ⟨w.heap.size, 4, none⟩ = some (.int .i64 0) := cell_of Z3.out 4
 have zf4 := frozen_of Z3.out 4
 have z5 : (w2.alloc (.cells #[.int .i64 y.g, .int .i64 y.c, .int .i64 y.v] 135)).cell? ⟨w.heap.size, 5, none⟩ = some (.int .i64 0) := cell_of Z3.out 5
 have zf5 := frozen_of Z3.out 5
 have z6 : (w2.alloc (.cells #[.int .i64 y.g, .int .i64 y.c, .int .i64 y.v] 135)).cell? ⟨w.heap.size, 6, none⟩ = some (.int .i64 0) := cell_of Z3.out 6
 have zf6 := frozen_of Z3.out 6
 have p3 : (w2.alloc (.cells #[.int .i64 y.g, .int .i64 y.c, .int .i64 y.v] 135)).cell? ⟨B, 3, none⟩ = some (.int .i64 (st.sent : Int)) := cell_of PP2.out.hp 3
 have p4 : (w2.alloc (.cells #[.int .i64 y.g, .int .i64 y.c, .int .i64 y.v] 135)).cell? ⟨B, 4, none⟩ = some (.int .i64 (st.got : Int)) := cell_of PP2.out.hp 4
 have pf3 := frozen_of PP2.out.hp 3
 have pf4 := frozen_of PP2.out.hp 4
 go_wp2_with fail
 exact bodyPost_ret (results_row2 Tryz.results118 _ _ _ _ _ rfl rfl (loadVar_got (got_set ((Below.heap_setCell _ _ _ _ (Ne.symm hM3)).trans ((Below.heap_setCell _ _ _ _ (Ne.symm hM3)).trans Z3.out)) _ _ _ _ _ _ _) rfl)) rfl ⟨rfl, fin7 ((KK.out.set FB.out 3 _).set FB.out 4 _) N3.out ((PP2.out.setSent (st.sent + 1) _ (by omega)).setGot (st.got + 1) _ (by omega)).pp (Nat.le_refl _) NF3.out _ _ _ _ _ _ _⟩
set_option maxHeartbeats 3200000 in
theorem send_room (B : Nat) (F : Nat → Prop) (st : St) (x : Int) (w : World) (h : Pp w B F st) (hc : st.closed = false) (hr : st.rcv = []) (hl : st.buf.length < st.size) (hs : st.sent < 1000000000) :
 Calls Tryz.prog 118 #[.pointer (some ⟨B, 0, none⟩), .int .i64 x] w fun r w' => r = .returned (.tuple #[gv ⟨true, false, false, 0, ⟨0, 0, 0⟩⟩, .int .i64 0]) ∧ KF F w w' ∧ ∃ F', Nw F' F w ∧ Pp w' B F' { st with buf := st.buf ++ [x], sent := st.sent + 1 } := by
 have hB := h.lt
 have NF : Hid (¬ F w.heap.size) := fun e => Nat.lt_irrefl _ (h.bd _ e)
 obtain ⟨R, S, Q, FS, FQ, h⟩ := h
 have P1 := hide (h.below (below_alloc w (.cells #[.bool false, .bool false, .bool false, .int .i64 0, .int .i64 0, .int .i64 0, .int .i64 0] 137)))
 have Z1 := hide (heap_new w (.cells #[.bool false, .bool false, .bool false, .int .i64 0, .int .i64 0, .int .i64 0, .int .i64 0] 137))
 have y5 : (w.alloc (.cells #[.bool false, .bool false, .bool false, .int .i64 0, .int .i64 0, .int .i64 0, .int .i64 0] 137)).cell? ⟨B, 5, none⟩ = some (.bool false) := (cell_of P1.out.hp 5).trans (by rw [hc]; rfl)
 have y2 : (w.alloc (.cells #[.bool false, .bool false, .bool false, .int .i64 0, .int .i64 0, .int .i64 0, .int .i64 0] 137)).cell? ⟨B, 2, none⟩ = some (.pointer (some ⟨Q, 0, none⟩)) := cell_of P1.out.hp 2
 have TK := hide (take_none Q _ (by have := P1.out.pq.pw; rw [hr] at this; exact this))
 have FB := hide h.fb
 have FR := hide h.fr
 clear h hc hr
 unfold gv
 go_enter Tryz.func118, Tryz.ntmps118
 go_wp2_with fail
 refine TK.out.mono ?_
 rintro r w2 ⟨rfl, b2⟩
 have bb := btr b2 (below_alloc w2 (.cells #[.int .i64 0, .int .i64 0, .int .i64 0] 135))
 have P3 := hide (P1.out.below bb)
 have Z3 := hide (heap_below Z1.out bb)
 have K3 := hide (KF.of (F := F) (btr (below_alloc w (.cells #[.bool false, .bool false, .bool false, .int .i64 0, .int .i64 0, .int .i64 0, .int .i64 0] 137)) bb))
 have y0 : (w2.alloc (.cells #[.int .i64 0, .int .i64 0, .int .i64 0] 135)).cell? ⟨B, 0, none⟩ = some (.pointer (some ⟨R, 0, none⟩)) := cell_of P3.out.hp 0
 have PU := hide (Rn.push_ok R st.size st.buf x _ P3.out.rg hl)
 have hM3 : B ≠ w.heap.size := by omega
 clear b2 bb TK P1 Z1 y5 y2
 unfold wv
 go_wp2_with fail
 generalize w2.alloc (.cells #[.int .i64 0, .int .i64 0, .int .i64 0] 135) = W3 at P3 Z3 K3 PU y0 ⊢
 refine PU.out.mono ?_
 rintro r w4 ⟨rfl, r4, k4⟩
 have P4 := hide (P3.out.ring k4 r4)
 have Z4 := hide (k4.heap Z3.out (fun e => NF.out (e ▸ FR.out)))
 have K4 := hide (K3.out.trans (KF.kb (F := F) k4 FR.out) (Nw.refl _ _))
 clear r4 k4 y0
 have z0 : w4.cell? ⟨w.heap.size, 0, none⟩ = some (.bool false) := cell_of Z4.out 0
 have zf0 := frozen_of Z4.out 0
 have z1 : w4.cell? ⟨w.heap.size, 1, none⟩ = some (.bool false) := cell_of Z4.out 1
 have zf1 := frozen_of Z4.out 1
 have z2 : w4.cell? ⟨w.heap.size, 2, none⟩ = some (.bool false) := cell_of Z4.out 2
 have zf2 := frozen_of Z4.out 2
 have z3 : w4.cell? ⟨w.heap.size, 3, none⟩ = some (.int .i64 0) := cell_of Z4.out 3
 have zf3 := frozen_of Z4.out 3
 have z4 : w4.cell? ⟨w.heap.size, 4, none⟩ = some (.int .i64 0) := cell_of Z4.out 4
 have zf4 := frozen_of Z4.out 4
 have z5 : w4.cell? ⟨w.heap.size, 5, none⟩ = some (.int .i64 0) := cell_of Z4.out 5
 have zf5 := frozen_of Z4.out 5
 have z6 : w4.cell? ⟨w.heap.size, 6, none⟩ = some (.int .i64 0) := cell_of Z4.out 6
 have zf6 := frozen_of Z4.out 6
 have p3 : w4.cell? ⟨B, 3, none⟩ = some (.int .i64 (st.sent : Int)) := cell_of P4.out.hp 3
 have pf3 := frozen_of P4.out.hp 3
 go_wp2_with fail
 exact bodyPost_ret (results_row2 Tryz.results118 _ _ _ _ _ rfl rfl (loadVar_got (got_set ((Below.heap_setCell _ _ _ _ (Ne.symm hM3)).trans Z4.out) _ _ _ _ _ _ _) rfl)) rfl ⟨rfl, fin7 (K4.out.set FB.out 3 _) (Nw.refl _ _) (P4.out.setSent (st.sent + 1) _ (by omega)).pp (Nat.le_refl _) NF.out _ _ _ _ _ _ _⟩
set_option maxHeartbeats 3200000 in
theorem send_full (B : Nat) (F : Nat → Prop) (st : St) (x : Int) (w : World) (h : Pp w B F st) (hc : st.closed = false) (hr : st.rcv = []) (hl : st.buf.length = st.size) :
 Calls Tryz.prog 118 #[.pointer (some ⟨B, 0, none⟩), .int .i64 x] w fun r w' => r = .returned (.tuple #[gv gz, .int .i64 0]) ∧ KF F w w' ∧ ∃ F', Nw F' F w ∧ Pp w' B F' st := by
 have hB := h.lt
 have NF : Hid (¬ F w.heap.size) := fun e => Nat.lt_irrefl _ (h.bd _ e)
 obtain ⟨R, S, Q, FS, FQ, h⟩ := h
 have P1 := hide (h.below (below_alloc w (.cells #[.bool false, .bool false, .bool false, .int .i64 0, .int .i64 0, .int .i64 0, .int .i64 0] 137)))
 have Z1 := hide (heap_new w (.cells #[.bool false, .bool false, .bool false, .int .i64 0, .int .i64 0, .int .i64 0, .int .i64 0] 137))
 have y5 : (w.alloc (.cells #[.bool false, .bool false, .bool false, .int .i64 0, .int .i64 0, .int .i64 0, .int .i64 0] 137)).cell? ⟨B, 5, none⟩ = some (.bool false) := (cell_of P1.out.hp 5).trans (by rw [hc]; rfl)
 have y2 : (w.alloc (.cells #[.bool false, .bool false, .bool false, .int .i64 0, .int .i64 0, .int .i64 0, .int .i64 0] 137)).cell? ⟨B, 2, none⟩ = some (.pointer (some ⟨Q, 0, none⟩)) := cell_of P1.out.hp 2
 have TK := hide (take_none Q _ (by have := P1.out.pq.pw; rw [hr] at this; exact this))
 clear h hc hr
 unfold gv gz
 go_enter Tryz.func118, Tryz.ntmps118
 go_wp2_with fail
 refine TK.out.mono ?_
 rintro r w2 ⟨rfl, b2⟩
 have bb := btr b2 (below_alloc w2 (.cells #[.int .i64 0, .int .i64 0, .int .i64 0] 135))
 have P3 := hide (P1.out.below bb)
 have Z3 := hide (heap_below Z1.out bb)
 have K3 := hide (KF.of (F := F) (btr (below_alloc w (.cells #[.bool false, .bool false, .bool false, .int .i64 0, .int .i64 0, .int .i64 0, .int .i64 0] 137)) bb))
 have y0 : (w2.alloc (.cells #[.int .i64 0, .int .i64 0, .int .i64 0] 135)).cell? ⟨B, 0, none⟩ = some (.pointer (some ⟨R, 0, none⟩)) := cell_of P3.out.hp 0
 have PU := hide (Rn.push_full R st.size st.buf x _ P3.out.rg hl)
 clear b2 bb TK P1 Z1 y5 y2
 unfold wv
 go_wp2_with fail
 generalize w2.alloc (.cells #[.int .i64 0, .int .i64 0, .int .i64 0] 135) = W3 at P3 Z3 K3 PU y0 ⊢
 refine PU.out.mono ?_
 rintro r w4 ⟨rfl, rfl⟩
 have Z4 := Z3
 have z0 : w4.cell? ⟨w.heap.size, 0, none⟩ = some (.bool false) := cell_of Z4.out 0
 have zf0 := frozen_of Z4.out 0
 have z1 : w4.cell? ⟨w.heap.size, 1, none⟩ = some (.bool false) := cell_of Z4.out 1
 have zf1 := frozen_of Z4.out 1
 have z2 : w4.cell? ⟨w.heap.size, 2, none⟩ = some (.bool false) := cell_of Z4.out 2
 have zf2 := frozen_of Z4.out 2
 have z3 : w4.cell? ⟨w.heap.size, 3, none⟩ = some (.int .i64 0) := cell_of Z4.out 3
 have zf3 := frozen_of Z4.out 3
 have z4 : w4.cell? ⟨w.heap.size, 4, none⟩ = some (.int .i64 0) := cell_of Z4.out 4
 have zf4 := frozen_of Z4.out 4
 have z5 : w4.cell? ⟨w.heap.size, 5, none⟩ = some (.int .i64 0) := cell_of Z4.out 5
 have zf5 := frozen_of Z4.out 5
 have z6 : w4.cell? ⟨w.heap.size, 6, none⟩ = some (.int .i64 0) := cell_of Z4.out 6
 have zf6 := frozen_of Z4.out 6
 go_wp2_with fail
 exact bodyPost_ret (results_row2 Tryz.results118 _ _ _ _ _ rfl rfl (loadVar_got (got_set Z3.out _ _ _ _ _ _ _) rfl)) rfl ⟨rfl, fin7 K3.out (Nw.refl _ _) P3.out.pp (Nat.le_refl _) NF.out _ _ _ _ _ _ _⟩
theorem send_any (B : Nat) (F : Nat → Prop) (st : St) (x : Int) (w : World) (h : Pp w B F st) (hs : st.sent < 1000000000) (hg : st.got < 1000000000) :
 Calls Tryz.prog 118 #[.pointer (some ⟨B, 0, none⟩), .int .i64 x] w fun r w' => r = .returned (.tuple #[gv (sendG st), .int .i64 (sendE st)]) ∧ KF F w w' ∧ ∃ F', Nw F' F w ∧ Pp w' B F' (sendS st x) := by
 have hle : st.buf.length ≤ st.size := by
  obtain ⟨R, S, Q, FS, FQ, h⟩ := h
  exact h.rg.le
 rcases Bool.eq_false_or_eq_true st.closed with hc | hc
 ·rw [show sendG st = gz by simp [sendG, hc], show sendE st = 90 by simp [sendE, hc], show sendS st x = st by simp [sendS, hc]]
  exact send_closed B F st x w h hc
 ·rw [show sendE st = 0 by simp [sendE, hc]]
  cases hr : st.rcv with
  | cons y t =>
    rw [show sendG st = ⟨true, false, true, 0, y⟩ by simp [sendG, hc, hr], show sendS st x = { st with rcv := t, sent := st.sent + 1, got := st.got + 1 } by simp [sendS, hc, hr]]
    exact send_woke B F st x y t w h hc hr hs hg
  | nil =>
    by_cases hl : st.buf.length < st.size
    ·rw [show sendG st = ⟨true, false, false, 0, ⟨0, 0, 0⟩⟩ by simp [sendG, hc, hr, hl], show sendS st x = { st with buf := st.buf ++ [x], sent := st.sent + 1 } by simp [sendS, hc, hr, hl]]
     exact send_room B F st x w h hc hr hl hs
    ·rw [show sendG st = gz by simp [sendG, hc, hr, hl], show sendS st x = st by simp [sendS, hc, hr, hl]]
     exact send_full B F st x w h hc hr (by omega)
end Pi
end Go.Proofs.YtkkgbeaaekmhfaaGreat
namespace Go.Proofs.YtkkgbeaaekmhfaaGreat
open Go.ChangeShapes Go.WideShapes Go.ChangeAt Go.RowKit
namespace Pi
open Ba Pe
theorem out_pop (B : Nat) (F : Nat → Prop) (st : St) (y : Wt) (x : Int) (b : List Int) (w : World) (h : Pp w B F st) (hb : st.buf = x :: b) :
 Calls Tryz.prog 133 #[.pointer (some ⟨B, 0, none⟩), wv y, .bool false] w fun r w' => r = .returned (.int .i64 x) ∧ KF F w w' ∧ Pp w' B F { st with buf := b } := by
 obtain ⟨R, S, Q, FS, FQ, h⟩ := h
 have BA := hide (below_alloc w (.cells #[.int .i64 y.g, .int .i64 y.c, .int .i64 y.v] 135))
 have P1 := hide (h.below BA.out)
 have y0 : (w.alloc (.cells #[.int .i64 y.g, .int .i64 y.c, .int .i64 y.v] 135)).cell? ⟨B, 0, none⟩ = some (.pointer (some ⟨R, 0, none⟩)) := cell_of P1.out.hp 0
 have PO := hide (Rn.pop_some R st.size x b _ (by have := P1.out.rg; rw [hb] at this; exact this))
 clear h hb
 unfold wv
 go_enter Tryz.func133, Tryz.ntmps133
 go_wp2_with fail
 refine PO.out.mono ?_
 rintro r w2 ⟨rfl, r2, k2⟩
 have P2 := hide (P1.out.ring k2 r2)
 have K2 := hide ((KF.of (F := F) BA.out).trans (KF.kb (F := F) k2 P1.out.fr) (Nw.refl _ _))
 clear r2 k2
 go_wp2_with fail
 go_ret
 exact ⟨rfl, K2.out, P2.out.pp⟩
set_option maxHeartbeats 1600000 in
theorem out_turn (B : Nat) (F : Nat → Prop) (st : St) (y : Wt) (x : Int) (b : List Int) (w : World) (h : Pp w B F st) (hb : st.buf = x :: b) :
 Calls Tryz.prog 133 #[.pointer (some ⟨B, 0, none⟩), wv y, .bool true] w fun r w' => r = .returned (.int .i64 x) ∧ KF F w w' ∧ Pp w' B F { st with buf := b ++ [y.v] } := by
 obtain ⟨R, S, Q, FS, FQ, h⟩ := h
 have BA := hide (below_alloc w (.cells #[.int .i64 y.g, .int .i64 y.c, .int .i64 y.v] 135))
 have P1 := hide (h.below BA.out)
 have hB : B < w.heap.size := h.bd B h.fb
 have y0 : (w.alloc (.cells #[.int .i64 y.g, .int .i64 y.c, .int .i64 y.v] 135)).cell? ⟨B, 0, none⟩ = some (.pointer (some ⟨R, 0, none⟩)) := cell_of P1.out.hp 0
 have TN := hide (Rn.turn_any R st.size (x :: b) y.v (w.alloc (.cells #[.int .i64 y.g, .int .i64 y.c, .int .i64 y.v] 135)).drew (by have := P1.out.rg.below (bdrew1 _); rw [hb] at this; exact this))
 clear h hb
 unfold wv
 go_enter Tryz.func133, Tryz.ntmps133
 go_wp2_with fail
 go_region_with (go_at_call 139; refine TN.out.mono ?_; rintro r w2 ⟨rfl, r2, k2⟩)
 all_goals
  have P2 := hide ((P1.out.below (bdrew1 _)).ring k2 r2)
  have K2 := hide ((KF.of (F := F) (btr BA.out (bdrew1 _))).trans (KF.kb (F := F) k2 P1.out.fr) (Nw.refl _ _))
  clear r2 k2
  simp only [Rn.oe, List.length_cons, Nat.add_one_ne_zero, if_false, show nth (x :: b) 0 = x from rfl]
  go_wp2_with fail
  go_ret
  exact ⟨rfl, K2.out, P2.out.pp⟩
set_option maxHeartbeats 1600000 in
theorem out_none (B : Nat) (F : Nat → Prop) (st : St) (y : Wt) (w : World) (h : Pp w B F st) (hb : st.buf = []) :
 Calls Tryz.prog 133 #[.pointer (some ⟨B, 0, none⟩), wv y, .bool true] w fun r w' => r = .returned (.int .i64 y.v) ∧ KF F w w' ∧ Pp w' B F st := by
 obtain ⟨R, S, Q, FS, FQ, h⟩ := h
 have BA := hide (below_alloc w (.cells #[.int .i64 y.g, .int .i64 y.c, .int .i64 y.v] 135))
 have P1 := hide (h.below BA.out)
 have hB : B < w.heap.size := h.bd B h.fb
 have y0 : (w.alloc (.cells #[.int .i64 y.g, .int .i64 y.c, .int .i64 y.v] 135)).cell? ⟨B, 0, none⟩ = some (.pointer (some ⟨R, 0, none⟩)) := cell_of P1.out.hp 0
 have TN := hide (Rn.turn_any R st.size [] y.v (w.alloc (.cells #[.int .i64 y.g, .int .i64 y.c, .int .i64 y.v] 135)).drew (by have := P1.out.rg.below (bdrew1 _); rw [hb] at this; exact this))
 have HB := hide hb
 have NR : Hid (w.heap.size ≠ R) := by have := h.bd R h.fr; show _ ≠ _; omega
 have M1 := hide (heap_new w (.cells #[.int .i64 y.g, .int .i64 y.c, .int .i64 y.v] 135))
 clear h hb
 unfold wv
 go_enter Tryz.func133, Tryz.ntmps133
 go_wp2_with fail
 go_region_with (go_at_call 139; refine TN.out.mono ?_; rintro r w2 ⟨rfl, r2, k2⟩; have m2 := (cell_of (k2.heap (heap_below M1.out (bdrew1 _)) NR.out) 2).trans (show _ = some (.int .i64 y.v) from rfl))
 all_goals
  have P2 : Hid (Pp w2 B F st) := by
   have := ((P1.out.below (bdrew1 _)).ring k2 r2).pp
   rw [show Rn.tl [] y.v = [] from rfl, ← HB.out] at this
   exact this
  have K2 := hide ((KF.of (F := F) (btr BA.out (bdrew1 _))).trans (KF.kb (F := F) k2 P1.out.fr) (Nw.refl _ _))
  clear r2 k2
  simp only [Rn.oe, List.length_nil, if_true]
  go_wp2_with fail
  go_ret
  exact ⟨rfl, K2.out, P2.out⟩
end Pi
end Go.Proofs.YtkkgbeaaekmhfaaGreat
