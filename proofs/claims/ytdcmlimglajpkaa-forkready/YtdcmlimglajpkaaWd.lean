/- Package pew: Drop, over this seat's program. -/
import Derived.Test.YtdcmlimglajpkaaWc
namespace Go.Proofs.Ytdcmlimglajpkaa
open Go.ChangeShapes Go.WideShapes Go.ChangeAt Go.RowKit
namespace Pe
open Ba

/-- those that are left when all of g are gone -/
def dr (g : Int) (l : List Wt) : List Wt := l.filter fun x => !(x.g == g)
theorem dr_len (g : Int) (l : List Wt) : (dr g l).length ≤ l.length := List.length_filter_le _ _
/-- Drop's walk: K are kept, rest is to come -/
structure Ds (w wr : World) (P : Nat) (F : Nat → Prop) (g : Int) (m K rest : List (Nat × Wt)) (gone : Nat) (o : Option Nat) : Prop where
  f : ∃ f mid last, Hd wr P f last m.length ∧ Ch wr f K mid
  c : Ch wr o rest none
  nd : ((K ++ rest).map (·.1)).Nodup
  gt : ∀ n ∈ K ++ rest, P < n.1
  fil : dr g (m.map (·.2)) = K.map (·.2) ++ dr g (rest.map (·.2))
  suf : ∃ pre, m = pre ++ rest
  cnt : gone + K.length + rest.length = m.length
  ft : KF F w wr
  fa : ∀ n ∈ m, F n.1
  fk : ∀ n ∈ K, F n.1
  fp : F P
theorem Ds.skip {w wr : World} {P : Nat} {F : Nat → Prop} {g : Int} {m K t : List (Nat × Wt)} {gone : Nat} {b : Nat} {y : Wt} {o nx : Option Nat} (h : Ds w wr P F g m K ((b, y) :: t) gone o) (hg : (y.g == g) = true) (hc : Ch wr nx t none) : Ds w wr P F g m K t (gone + 1) nx := by
  obtain ⟨pre, hm⟩ := h.suf
  refine ⟨h.f, hc, ?_, ?_, ?_, ⟨pre ++ [(b, y)], by rw [hm]; simp⟩, ?_, h.ft, h.fa, h.fk, h.fp⟩
  · have := h.nd
    rw [List.map_append, List.map_cons, List.nodup_append, List.nodup_cons] at this
    rw [List.map_append, List.nodup_append]
    exact ⟨this.1, this.2.1.2, fun a ha c hc => this.2.2 a ha c (List.mem_cons_of_mem _ hc)⟩
  · intro n hn
    rcases List.mem_append.1 hn with q | q
    · exact h.gt n (List.mem_append_left _ q)
    · exact h.gt n (List.mem_append_right _ (List.mem_cons_of_mem _ q))
  · rw [h.fil]
    congr 1
    simp [dr, hg]
  · have := h.cnt
    simp at this
    omega
theorem Ds.keep {w wr w3 : World} {P : Nat} {F : Nat → Prop} {g : Int} {m K t : List (Nat × Wt)} {gone : Nat} {b : Nat} {y : Wt} {o nx : Option Nat} (h : Ds w wr P F g m K ((b, y) :: t) gone o) (hg : (y.g == g) = false) (hf : ∃ f last, Hd w3 P f last m.length ∧ Ch w3 f K (some b)) (hs : Sc w3 b y nx) (hc : Ch w3 nx t none) (ft : KF F w w3) : Ds w w3 P F g m (K ++ [(b, y)]) t gone nx := by
  obtain ⟨pre, hm⟩ := h.suf
  obtain ⟨f, last, h1, h2⟩ := hf
  refine ⟨⟨f, nx, last, h1, Ch.app.2 ⟨some b, h2, rfl, nx, hs, rfl⟩⟩, hc, ?_, ?_, ?_, ⟨pre ++ [(b, y)], by rw [hm]; simp⟩, ?_, ft, h.fa, fun n hn => ?_, h.fp⟩
  · have := h.nd
    rw [List.append_cons] at this
    exact this
  · have := h.gt
    rw [List.append_cons] at this
    exact this
  · rw [h.fil]
    simp [dr, hg]
  · have := h.cnt
    simp at this ⊢
    omega
  · rcases List.mem_append.1 hn with q | q
    · exact h.fk n q
    · simp at q
      subst q
      exact h.fa _ (by rw [hm]; simp)
theorem Ds.dj {w wr : World} {P : Nat} {F : Nat → Prop} {g : Int} {m K0 rest : List (Nat × Wt)} {n0 : Nat × Wt} {gone : Nat} {o : Option Nat} (h : Ds w wr P F g m (K0 ++ [n0]) rest gone o) : (∀ n ∈ K0, n.1 ≠ n0.1) ∧ (∀ n ∈ rest, n.1 ≠ n0.1) ∧ P < n0.1 := by
  have := h.nd
  rw [List.append_assoc, List.map_append, List.nodup_append] at this
  refine ⟨fun n hn e => this.2.2 n.1 (List.mem_map.2 ⟨n, hn, rfl⟩) n0.1 (by simp) e, fun n hn e => ?_, h.gt n0 (by simp)⟩
  have h2 := this.2.1
  rw [List.map_append, List.nodup_append] at h2
  exact h2.2.2 n0.1 (by simp) n.1 (List.mem_map.2 ⟨n, hn, rfl⟩) e.symm
/-- the end: all are passed over, the last one's next is nil -/
theorem Ds.fin {w wr w3 : World} {P : Nat} {F : Nat → Prop} {g : Int} {m K : List (Nat × Wt)} {gone : Nat} {o : Option Nat} (h : Ds w wr P F g m K [] gone o) (hm : m.length ≤ 1024) (hbd : Bd F w) (hf : ∃ f last, Hd w3 P f last m.length ∧ Ch w3 f K none) (ft : KF F w w3) (x : Int) (hx : x = (m.length : Int) - (gone : Int)) : KF F w ((w3.setCell ⟨P, 1, none⟩ (pt (lst K))).setCell ⟨P, 2, none⟩ (.int .i64 x)) ∧ PF ((w3.setCell ⟨P, 1, none⟩ (pt (lst K))).setCell ⟨P, 2, none⟩ (.int .i64 x)) P F (dr g (m.map (·.2))) := by
  obtain ⟨f, last, h1, h2⟩ := hf
  have hc := h.cnt
  simp at hc
  have hn := h.nd
  have hg := h.gt
  rw [List.append_nil] at hn hg
  have KK := (ft.set h.fp 1 (pt (lst K))).set h.fp 2 (.int .i64 x)
  refine ⟨KK, ⟨K, ?_, ⟨f, (h1.setL (lst K)).setN K.length x (by omega), (h2.set _ (fun n hn => by have := hg n hn; omega)).set _ (fun n hn => by have := hg n hn; omega), hn, hg, by omega⟩, h.fk, h.fp, hbd.mono KK.size⟩⟩
  rw [h.fil]
  simp [dr]

theorem drop_nil (g : Int) (w : World) :
    Calls Try.prog 60 #[.pointer none, .int .i64 g] w fun r w' => r = .returned (.int .i64 0) ∧ w' = w := by
  go_enter Try.func60, Try.ntmps60
  go_wp2_with fail
  go_step3
  go_wp2_with fail
  rw [Exit.noGoto_ret]
  go_ret
  exact ⟨rfl, rfl⟩
set_option maxRecDepth 100000 in
set_option maxHeartbeats 3200000 in
theorem drop_n (P : Nat) (F : Nat → Prop) (m : List (Nat × Wt)) (g : Int) (w : World) (h : Pn w P m) (hF1 : ∀ n ∈ m, F n.1) (hF2 : F P) (hF3 : Bd F w) :
    Calls Try.prog 60 #[.pointer (some ⟨P, 0, none⟩), .int .i64 g] w fun r w' => (∃ gone : Nat, r = .returned (.int .i64 (gone : Int)) ∧ gone + (dr g (m.map (·.2))).length = m.length) ∧ KF F w w' ∧ PF w' P F (dr g (m.map (·.2))) := by
  obtain ⟨f, h1, h2, h3, h4, h5⟩ := h
  have DS0 : Hid (Ds w w P F g m [] m 0 f) := ⟨⟨f, f, _, h1, rfl⟩, h2, by simpa using h3, by simpa using h4, by simp, ⟨[], rfl⟩, by simp, KF.refl _ _, hF1, fun _ h => by simp at h, hF2⟩
  have FB := hide hF3
  clear hF1 hF2 hF3
  have ND := hide h3
  have y0 : w.cell? ⟨P, 0, none⟩ = some (.pointer (f.map fun b => ⟨b, 0, none⟩)) := cell_of h1 0
  clear h1 h2 h3 h4
  go_enter Try.func60, Try.ntmps60
  go_wp2_with fail
  go_step3
  go_wp2_with fail
  go_step3
  go_wp2_with fail
  go_loopw [5, 6, 7] (fun c st s wr => ∃ (K rest : List (Nat × Wt)) (gone : Nat) (o : Option Nat), c = .int .i64 (gone : Int) ∧ st = pt (lst K) ∧ s = pt o ∧ Ds w wr P F g m K rest gone o) (fun _ _ s _ => ms m s)
  case atStart => exact ⟨[], m, 0, f, rfl, rfl, rfl, DS0.out⟩
  case round =>
    clear DS0 y0
    obtain ⟨K, rest, gone, o, rfl, rfl, rfl, ds⟩ := hrel
    have DS := hide ds
    clear ds
    have hcnt := DS.out.cnt
    cases rest with
    | nil =>
      have e0 : o = none := DS.out.c
      subst e0
      simp at hcnt
      rw [show pt none = .pointer none from rfl]
      obtain ⟨f1, mid1, last1, hd1, ch1⟩ := DS.out.f
      rcases List.eq_nil_or_concat K with rfl | ⟨K0, n0, rfl⟩
      · rw [show pt (lst []) = .pointer none from rfl]
        go_wp2_with fail
        refine (link_none P f1 last1 m.length none _ hd1).mono ?_
        rintro r w3 ⟨rfl, hw3⟩
        have HF : Hid (∃ f last, Hd w3 P f last m.length ∧ Ch w3 f [] none) := by rw [hw3]; exact ⟨none, last1, Hd.setF hd1 none, rfl⟩
        have F3 : Hid (KF F w w3) := by rw [hw3]; exact DS.out.ft.set DS.out.fp 0 _
        clear hw3 hd1 ch1
        obtain ⟨f3, last3, hd3, _⟩ := HF.out
        have y1 := cell_of hd3 1
        have y2 := cell_of hd3 2
        have z1 := frozen_of hd3 1
        have z2 := frozen_of hd3 2
        simp at y1 y2
        clear hd3
        have FI := hide fun x hx => DS.out.fin h5 FB.out HF.out F3.out x hx
        rw [show pt (lst []) = .pointer none from rfl] at FI
        go_wp2_with fail
        try rw [Exit.noGoto_ret]
        go_ret
        exact ⟨⟨gone, by first | rfl | (simp), by have := DS.out.fil; have hc := DS.out.cnt; rw [this]; simp [dr] at hc ⊢; omega⟩, FI.out _ (by omega)⟩
      · rw [List.concat_eq_append] at *
        rw [show pt (lst (K0 ++ [n0])) = .pointer (some ⟨n0.1, 0, none⟩) by rw [lst_app]; rfl]
        obtain ⟨dj1, _, dj3⟩ := DS.out.dj
        go_wp2_with fail
        refine (link_some _ n0.1 n0.2 mid1 none _ ch1.sc).mono ?_
        rintro r w3 ⟨rfl, hw3⟩
        have HF : Hid (∃ f last, Hd w3 P f last m.length ∧ Ch w3 f (K0 ++ [n0]) none) := by rw [hw3]; exact ⟨f1, last1, Hd.other hd1 _ (by omega), ch1.relast dj1 none⟩
        have F3 : Hid (KF F w w3) := by rw [hw3]; exact DS.out.ft.set (DS.out.fk n0 (by simp)) 3 _
        clear hw3 hd1 ch1 dj1
        obtain ⟨f3, last3, hd3, _⟩ := HF.out
        have y1 := cell_of hd3 1
        have y2 := cell_of hd3 2
        have z1 := frozen_of hd3 1
        have z2 := frozen_of hd3 2
        simp at y1 y2
        clear hd3
        have FI := hide fun x hx => DS.out.fin h5 FB.out HF.out F3.out x hx
        rw [show pt (lst (K0 ++ [n0])) = .pointer (some ⟨n0.1, 0, none⟩) by rw [lst_app]; rfl] at FI
        go_wp2_with fail
        try rw [Exit.noGoto_ret]
        go_ret
        exact ⟨⟨gone, by first | rfl | (simp), by have := DS.out.fil; have hc := DS.out.cnt; rw [this]; simp [dr] at hc ⊢; omega⟩, FI.out _ (by omega)⟩
    | cons n t =>
      obtain ⟨b, y⟩ := n
      have eo : o = some b := DS.out.c.1
      subst eo
      obtain ⟨pre0, hpre0⟩ := DS.out.suf
      have MS := hide (ms_ch hpre0 ND.out DS.out.c)
      clear hpre0
      rw [show pt (some b) = .pointer (some ⟨b, 0, none⟩) from rfl] at MS ⊢
      go_wp2_with fail
      go_loop [5, 7] (fun c s => ∃ (b' : Nat) (y' : Wt) (t' : List (Nat × Wt)) (gone' : Nat), c = .int .i64 (gone' : Int) ∧ s = .pointer (some ⟨b', 0, none⟩) ∧ t'.length ≤ t.length ∧ Ds w wr P F g m K ((b', y') :: t') gone' (some b')) (fun _ s => ms m s)
      case atStart => exact ⟨b, y, t, gone, rfl, rfl, Nat.le_refl _, DS.out⟩
      case round =>
        clear DS hcnt
        obtain ⟨b', y', t', gone', rfl, rfl, ht', ds⟩ := hrel
        have DS := hide ds
        clear ds
        have hcnt := DS.out.cnt
        simp at hcnt
        obtain ⟨_, nx, hs, hc⟩ := DS.out.c
        obtain ⟨pre1, hpre1⟩ := DS.out.suf
        have M1 := hide (ms_ch hpre1 ND.out DS.out.c)
        have M2 := hide (ms_ch (pre := pre1 ++ [(b', y')]) (by rw [hpre1]; simp) ND.out hc)
        rw [show pt (some b') = .pointer (some ⟨b', 0, none⟩) from rfl] at M1
        clear hpre1
        have y0 := cell_of hs 0
        have y3 : wr.cell? ⟨b', 3, none⟩ = some (pt nx) := cell_of hs 3
        simp at y0
        have HS := hide hs
        have HC := hide hc
        clear hs hc
        cases hg : y'.g == g
        · skip
          obtain ⟨f1, mid1, last1, hd1, ch1⟩ := DS.out.f
          have hPb := DS.out.gt (b', y') (by simp)
          have hPb2 : P < b' := hPb
          clear hPb
          unfold pt at y3
          generalize hq : nx.map (fun b => (⟨b, 0, none⟩ : Addr)) = q at y3
          have HQ : Hid (Value.pointer q = pt nx) := by show _ = _; rw [← hq]; rfl
          clear hq
          have NB : Hid (∀ n ∈ K ++ t', n.1 ≠ b') := by
            intro n hn e
            have := DS.out.nd
            rw [List.map_append, List.map_cons, List.nodup_append, List.nodup_cons] at this
            rcases List.mem_append.1 hn with z | z
            · exact this.2.2 n.1 (List.mem_map.2 ⟨n, z, rfl⟩) b' (by simp) e
            · exact this.2.1.1 (List.mem_map.2 ⟨n, z, e⟩)
          rcases List.eq_nil_or_concat K with rfl | ⟨K0, n0, rfl⟩
          · rw [show pt (lst []) = .pointer none from rfl]
            go_wp2_with fail
            refine (link_none P f1 last1 m.length (some ⟨b', 0, none⟩) _ hd1).mono ?_
            rintro r w3 ⟨rfl, hw3⟩
            have S3 : Hid (Sc w3 b' y' nx) := by rw [hw3]; exact HS.out.other _ (by omega)
            have D3 : Hid (Ds w w3 P F g m ([] ++ [(b', y')]) t' gone' nx) := by
              refine DS.out.keep hg ⟨some b', last1, by rw [hw3]; exact Hd.setF hd1 (some b'), rfl⟩ S3.out ?_ (by rw [hw3]; exact DS.out.ft.set DS.out.fp 0 _)
              rw [hw3]
              exact HC.out.set _ (fun n hn => by have := DS.out.gt n (by simp [hn]); omega)
            have y4 : w3.cell? ⟨b', 3, none⟩ = some (.pointer q) := by rw [HQ.out]; exact cell_of S3.out 3
            clear hw3 hd1 ch1 y3
            go_wp2_with fail
            go_roundw
            case rel => exact ⟨_, t', gone', nx, rfl, rfl, HQ.out, D3.out⟩
            case measure =>
              have h1 := MS.out
              have h2 := M2.out
              show ms m (.pointer q) < ms m (.pointer (some ⟨b, 0, none⟩))
              rw [HQ.out, h1, h2]
              simp
              omega
          · rw [List.concat_eq_append] at *
            rw [show pt (lst (K0 ++ [n0])) = .pointer (some ⟨n0.1, 0, none⟩) by rw [lst_app]; rfl]
            obtain ⟨dj1, dj2, dj3⟩ := DS.out.dj
            have hn0 : b' ≠ n0.1 := fun e => NB.out n0 (by simp) e.symm
            go_wp2_with fail
            refine (link_some _ n0.1 n0.2 mid1 (some ⟨b', 0, none⟩) _ ch1.sc).mono ?_
            rintro r w3 ⟨rfl, hw3⟩
            have S3 : Hid (Sc w3 b' y' nx) := by rw [hw3]; exact HS.out.other _ hn0
            have D3 : Hid (Ds w w3 P F g m ((K0 ++ [n0]) ++ [(b', y')]) t' gone' nx) := by
              refine DS.out.keep hg ⟨f1, last1, by rw [hw3]; exact Hd.other hd1 _ (by omega), by rw [hw3]; exact ch1.relast dj1 (some b')⟩ S3.out ?_ (by rw [hw3]; exact DS.out.ft.set (DS.out.fk n0 (by simp)) 3 _)
              rw [hw3]
              exact HC.out.set _ (fun n hn => dj2 n (List.mem_cons_of_mem _ hn))
            have y4 : w3.cell? ⟨b', 3, none⟩ = some (.pointer q) := by rw [HQ.out]; exact cell_of S3.out 3
            have EL : Hid (Value.pointer (some ⟨b', 0, none⟩) = pt (lst ((K0 ++ [n0]) ++ [(b', y')]))) := by show _ = _; rw [lst_app]; rfl
            clear hw3 hd1 ch1 dj1 dj2 y3
            go_wp2_with fail
            go_roundw
            case rel => exact ⟨_, t', gone', nx, rfl, EL.out, HQ.out, D3.out⟩
            case measure =>
              have h1 := MS.out
              have h2 := M2.out
              show ms m (.pointer q) < ms m (.pointer (some ⟨b, 0, none⟩))
              rw [HQ.out, h1, h2]
              simp
              omega
        · have D2 := hide (DS.out.skip hg HC.out)
          cases t' with
          | nil =>
            have en : nx = none := HC.out
            subst en
            rw [show pt none = .pointer none from rfl] at y3
            clear DS
            have DS := D2
            clear D2
            simp at hcnt
            obtain ⟨f1, mid1, last1, hd1, ch1⟩ := DS.out.f
            rcases List.eq_nil_or_concat K with rfl | ⟨K0, n0, rfl⟩
            · rw [show pt (lst []) = .pointer none from rfl]
              go_wp2_with fail
              refine (link_none P f1 last1 m.length none _ hd1).mono ?_
              rintro r w3 ⟨rfl, hw3⟩
              have HF : Hid (∃ f last, Hd w3 P f last m.length ∧ Ch w3 f [] none) := by rw [hw3]; exact ⟨none, last1, Hd.setF hd1 none, rfl⟩
              have F3 : Hid (KF F w w3) := by rw [hw3]; exact DS.out.ft.set DS.out.fp 0 _
              clear hw3 hd1 ch1
              obtain ⟨f3, last3, hd3, _⟩ := HF.out
              have y1 := cell_of hd3 1
              have y2 := cell_of hd3 2
              have z1 := frozen_of hd3 1
              have z2 := frozen_of hd3 2
              simp at y1 y2
              clear hd3
              have FI := hide fun x hx => DS.out.fin h5 FB.out HF.out F3.out x hx
              rw [show pt (lst []) = .pointer none from rfl] at FI
              go_wp2_with fail
              try rw [Exit.noGoto_ret]
              go_ret
              exact ⟨⟨gone' + 1, by first | rfl | (simp), by have := DS.out.fil; have hc := DS.out.cnt; rw [this]; simp [dr] at hc ⊢; omega⟩, FI.out _ (by omega)⟩
            · rw [List.concat_eq_append] at *
              rw [show pt (lst (K0 ++ [n0])) = .pointer (some ⟨n0.1, 0, none⟩) by rw [lst_app]; rfl]
              obtain ⟨dj1, _, dj3⟩ := DS.out.dj
              go_wp2_with fail
              refine (link_some _ n0.1 n0.2 mid1 none _ ch1.sc).mono ?_
              rintro r w3 ⟨rfl, hw3⟩
              have HF : Hid (∃ f last, Hd w3 P f last m.length ∧ Ch w3 f (K0 ++ [n0]) none) := by rw [hw3]; exact ⟨f1, last1, Hd.other hd1 _ (by omega), ch1.relast dj1 none⟩
              have F3 : Hid (KF F w w3) := by rw [hw3]; exact DS.out.ft.set (DS.out.fk n0 (by simp)) 3 _
              clear hw3 hd1 ch1 dj1
              obtain ⟨f3, last3, hd3, _⟩ := HF.out
              have y1 := cell_of hd3 1
              have y2 := cell_of hd3 2
              have z1 := frozen_of hd3 1
              have z2 := frozen_of hd3 2
              simp at y1 y2
              clear hd3
              have FI := hide fun x hx => DS.out.fin h5 FB.out HF.out F3.out x hx
              rw [show pt (lst (K0 ++ [n0])) = .pointer (some ⟨n0.1, 0, none⟩) by rw [lst_app]; rfl] at FI
              go_wp2_with fail
              try rw [Exit.noGoto_ret]
              go_ret
              exact ⟨⟨gone' + 1, by first | rfl | (simp), by have := DS.out.fil; have hc := DS.out.cnt; rw [this]; simp [dr] at hc ⊢; omega⟩, FI.out _ (by omega)⟩
          | cons n2 t2 =>
            obtain ⟨b2, y2⟩ := n2
            have en : nx = some b2 := HC.out.1
            subst en
            rw [show pt (some b2) = .pointer (some ⟨b2, 0, none⟩) from rfl] at y3
            go_wp2_with fail
            go_round
            case rel => exact ⟨b2, y2, t2, gone' + 1, by go_num, rfl, by simp at ht'; omega, D2.out⟩
            case measure =>
              have h1 := M1.out
              have h2 := M2.out
              show ms m (pt (some b2)) < ms m (.pointer (some ⟨b', 0, none⟩))
              rw [h1, h2]
              simp

/-- Drop, of whatever pew -/
theorem drop_any (P : Nat) (F : Nat → Prop) (l : List Wt) (g : Int) (w : World) (h : PF w P F l) :
    Calls Try.prog 60 #[.pointer (some ⟨P, 0, none⟩), .int .i64 g] w fun r w' => r = .returned (.int .i64 ((l.length : Int) - ((dr g l).length : Int))) ∧ KF F w w' ∧ PF w' P F (dr g l) := by
  obtain ⟨m, rfl, hn, hF1, hF2, hF3⟩ := h
  refine (drop_n P F m g w hn hF1 hF2 hF3).mono ?_
  rintro r w1 ⟨⟨gone, rfl, hg⟩, h2⟩
  refine ⟨?_, h2⟩
  rw [List.length_map, show ((m.length : Int) - ((dr g (m.map (·.2))).length : Int)) = (gone : Int) by omega]
end Pe
end Go.Proofs.Ytdcmlimglajpkaa
