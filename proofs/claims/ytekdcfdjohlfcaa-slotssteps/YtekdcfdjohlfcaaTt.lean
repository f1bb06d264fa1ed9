/- The reference's slots: Drop, over this seat's program. -/
import Derived.Test.YtekdcfdjohlfcaaTs
namespace Go.Proofs.Ytekdcfdjohlfcaa
open Go.ChangeShapes Go.WideShapes Go.ChangeAt Go.RowKit
namespace Sl
open Ck
open Ba (KF Bd Nw)

/-- the first k are changed -/
def mt (t : Int) (k : Nat) (l : List (Nat → Int)) : List (Nat → Int) := (l.take k).map (zf t) ++ l.drop k
theorem mt_len (t : Int) (k : Nat) (l : List (Nat → Int)) : (mt t k l).length = l.length := by
  unfold mt
  rw [List.length_append, List.length_map, List.length_take, List.length_drop]
  omega
theorem mt_zero (t : Int) (l : List (Nat → Int)) : mt t 0 l = l := by simp [mt]
theorem mt_all (t : Int) (k : Nat) (l : List (Nat → Int)) (h : l.length ≤ k) : mt t k l = l.map (zf t) := by
  unfold mt
  rw [List.take_of_length_le h, List.drop_eq_nil_of_le h, List.append_nil]
theorem mt_at (t : Int) (k : Nat) (l : List (Nat → Int)) : (mt t k l)[k]? = l[k]? := by
  unfold mt
  by_cases h : k ≤ l.length
  · rw [List.getElem?_append_right (by rw [List.length_map, List.length_take]; omega), List.length_map, List.length_take, Nat.min_eq_left h, Nat.sub_self, List.getElem?_drop, Nat.add_zero]
  · rw [List.getElem?_eq_none (by rw [List.length_append, List.length_map, List.length_take, List.length_drop]; omega), List.getElem?_eq_none (by omega)]
theorem mt_set {t : Int} {k : Nat} {l : List (Nat → Int)} {F : Nat → Int} (h : l[k]? = some F) : (mt t k l).set k (zf t F) = mt t (k + 1) l := by
  have hk : k < l.length := (List.getElem?_eq_some_iff.1 h).1
  unfold mt
  rw [List.set_append_right _ _ (by rw [List.length_map, List.length_take]; omega), List.length_map, List.length_take, Nat.min_eq_left (by omega), Nat.sub_self]
  have e : l.drop k = F :: l.drop (k + 1) := by
    rw [← (List.getElem?_eq_some_iff.1 h).2, List.getElem_cons_drop]
  rw [e, List.set_cons_zero, List.take_add_one, h]
  simp
def stA (t : Int) (st : Rst) (k : Nat) : Rst := { st with sent := mt t k st.sent }
def stB (t : Int) (st : Rst) (k : Nat) : Rst := { st with sent := st.sent.map (zf t), recd := mt t k st.recd }
set_option maxRecDepth 100000 in
set_option maxHeartbeats 3200000 in
theorem rdrop_any {w : World} {G : Nat} {st : Rst} {vs vr : Value} (s : RX w G st vs vr) (t : Int) (hl : st.sent.length ≤ 100000) (hl2 : st.recd.length ≤ 100000) :
    Calls Try.prog 18 #[.pointer (some ⟨G, 0, none⟩), .int .i64 t] w fun r w' => r = .returned (.tuple #[]) ∧ RX w' G { st with sent := st.sent.map (zf t), recd := st.recd.map (zf t), clg := zf t st.clg } vs vr ∧ KF (fun k => k = G ∨ vs.ownBlock = some k ∨ vr.ownBlock = some k) w w' := by
  obtain ⟨oa, ca, rfl⟩ := own_sl' s.os
  obtain ⟨ob, cb, rfl⟩ := own_sl' s.or_
  obtain ⟨y0, y1, y2, y3⟩ := s.cells
  have hlt0 := s.lt
  have HS := hide s
  clear s
  obtain ⟨X, hX⟩ : ∃ X : Nat → Prop, X = fun k => k = G ∨ (Value.slice oa st.sent.length ca).ownBlock = some k ∨ (Value.slice ob st.recd.length cb).ownBlock = some k := ⟨_, rfl⟩
  rw [← hX]
  generalize hna : st.sent.length = a at *
  generalize hnb : st.recd.length = b at *
  go_enter Try.func18, Try.ntmps18
  go_wp2_with fail
  go_loopw [13] (fun i wr => ∃ k : Nat, k ≤ a ∧ i = .int .i64 k ∧ RX wr G (stA t st k) (.slice oa a ca) (.slice ob b cb) ∧ KF X w wr) (fun i _ => a - (intOf i).toNat)
  case atStart => exact ⟨0, Nat.zero_le _, rfl, by show RX _ _ { st with sent := mt t 0 st.sent } _ _; rw [mt_zero]; exact HS.out, KF.refl _ _⟩
  case round =>
    obtain ⟨k, hka, rfl, rs, kr⟩ := hrel
    have RS := hide rs
    have KR := hide kr
    clear rs kr
    by_cases hlt : k < a
    · have hlt' : (k : Int) < (a : Int) := by omega
      obtain ⟨F, hF⟩ : ∃ F, st.sent[k]? = some F := ⟨_, List.getElem?_eq_getElem (by omega)⟩
      have hFk : (mt t k st.sent)[k]? = some F := by rw [mt_at]; exact hF
      have hrow := RS.out.os
      have hml : (mt t k st.sent).length = a := by rw [mt_len, hna]
      rw [show (stA t st k).sent.length = a from hml] at hrow
      obtain ⟨g, rfl⟩ := own_g' hrow (by omega)
      have ra0 := row_ra hrow hFk
      have LD := hide (ldv_ref ra0)
      have stc := st_ref F (heap_new wr (.cells (ra nf) 39)) (ra_size nf)
      rw [setRow_new] at stc
      have SE := hide (rset_z t (RA.of (heap_new wr (.cells (ra F) 39))))
      obtain ⟨y0, y1, y2, y3⟩ := RS.out.cells
      have yc : wr.cell? ⟨G, 1, none⟩ = some (.slice (some ⟨g, 0, none⟩) a ca) := y1
      have hG := RS.out.lt
      have as_ := ra_size F
      have z0s := ra_size nf
      have zc := zero_ref
      have HF := hide hF
      have HROW := hide hrow
      have EF : Hid (ra F = ra F) := rfl
      clear ra0 hFk hrow hml y0 y1 y2 y3 hF
      generalize hV : ra F = V at *
      generalize ra nf = Z0 at *
      go_wp2_with (refine wpL_load rfl 39 _ rfl _ _ rfl LD.out ?_)
      refine SE.out.mono ?_
      rintro r w2 ⟨x, rfl, e2⟩
      subst hV
      obtain ⟨hB2, k2⟩ := rset_blk (heap_new wr (.cells (ra F) 39)) e2
      have b2 : Below wr.heap.size wr w2 := KF.below (below_alloc _ _) k2 (fun x e => Nat.le_of_eq e.symm)
      have bd : Below wr.heap.size wr w2.drew := btr b2 (Ba.bdrew1 _)
      have R2 := RS.out.below bd
      have hB3 : w2.drew.heap[wr.heap.size]? = some (.cells (ra (zf t F)) 39 (0, 0)) := hB2
      have lc := ld_ref (RA.of hB3)
      obtain ⟨LC, hLC⟩ : ∃ LC : Nat → Sem (Array Value), ∀ n, loadCellsFrom (⟨wr.heap.size, 0, none⟩ : Addr) 0 n #[] = LC n := ⟨fun n => loadCellsFrom (⟨wr.heap.size, 0, none⟩ : Addr) 0 n #[], fun _ => rfl⟩
      rw [hLC] at lc
      have ra2 : RA w2.drew g (k * 256) F := row_ra (own_below' HROW.out bd) (by show (mt t k st.sent)[k]? = some F; rw [mt_at]; exact HF.out)
      have stc2 := sc_ra (zf t F) (ra_there ra2)
      have yc2 : w2.cell? ⟨G, 1, none⟩ = some (.slice (some ⟨g, 0, none⟩) a ca) := (RS.out.below b2).cells.2.1
      have hG2 : G < w2.heap.size := Nat.lt_of_lt_of_le hG b2.size
      have NX : Hid (RX (w2.drew.setCells g (k * 256) (ra (zf t F)).toList) G (stA t st (k + 1)) (.slice (some ⟨g, 0, none⟩) a ca) (.slice ob b cb)) := by
        have := R2.setSent (k := k) (by show (mt t k st.sent).length = a; rw [mt_len, hna]) hlt (zf t F)
        have e9 : (mt t k st.sent).set k (zf t F) = mt t (k + 1) st.sent := mt_set HF.out
        have e8 : ({ stA t st k with sent := (stA t st k).sent.set k (zf t F) } : Rst) = stA t st (k + 1) := by
          show ({ stA t st k with sent := (mt t k st.sent).set k (zf t F) } : Rst) = _
          rw [e9]; rfl
        rw [e8] at this
        exact this
      have KX : Hid (KF X w (w2.drew.setCells g (k * 256) (ra (zf t F)).toList)) := kf_setCells (KR.out.then bd) (by rw [hX]; exact .inr (.inl rfl)) _ _
      have vs_ := ra_size (zf t F)
      clear e2 hB2 k2 b2 bd R2 hB3 ra2 SE LD stc yc
      generalize ra (zf t F) = V2 at *
      go_wp2_with fail
      go_region
      all_goals
        go_wp2_with fail
        go_roundw
        case rel => exact ⟨k + 1, by omega, by go_num, NX.out, KX.out⟩
        case measure => simp [intOf]; omega
    · have hlt' : ¬ ((k : Int) < (a : Int)) := by omega
      have hk : a = k := by omega
      subst hk
      have RS2 : Hid (RX wr G (stB t st 0) (.slice oa a ca) (.slice ob b cb)) := by
        have := RS.out
        unfold stA at this
        rw [mt_all _ _ _ (by omega)] at this
        show RX wr G { st with sent := st.sent.map (zf t), recd := mt t 0 st.recd } _ _
        rw [mt_zero]
        exact this
      have yc : wr.cell? ⟨G, 2, none⟩ = some (.slice ob b cb) := RS.out.cells.2.2.1
      have hG := RS.out.lt
      clear RS
      go_wp2_with fail
      go_loopw [38] (fun i wr => ∃ k : Nat, k ≤ b ∧ i = .int .i64 k ∧ RX wr G (stB t st k) (.slice oa a ca) (.slice ob b cb) ∧ KF X w wr) (fun i _ => b - (intOf i).toNat)
      case atStart => exact ⟨0, Nat.zero_le _, rfl, RS2.out, KR.out⟩
      case round =>
        obtain ⟨k, hka, rfl, rs, kr⟩ := hrel
        have RS := hide rs
        have KR := hide kr
        clear rs kr
        by_cases hlt : k < b
        · have hlt' : (k : Int) < (b : Int) := by omega
          obtain ⟨F, hF⟩ : ∃ F, st.recd[k]? = some F := ⟨_, List.getElem?_eq_getElem (by omega)⟩
          have hFk : (mt t k st.recd)[k]? = some F := by rw [mt_at]; exact hF
          have hrow := RS.out.or_
          have hml : (mt t k st.recd).length = b := by rw [mt_len, hnb]
          rw [show (stB t st k).recd.length = b from hml] at hrow
          obtain ⟨g, rfl⟩ := own_g' hrow (by omega)
          have ra0 := row_ra hrow hFk
          have LD := hide (ldv_ref ra0)
          have stc := st_ref F (heap_new wr (.cells (ra nf) 39)) (ra_size nf)
          rw [setRow_new] at stc
          have SE := hide (rset_z t (RA.of (heap_new wr (.cells (ra F) 39))))
          obtain ⟨y0, y1, y2, y3⟩ := RS.out.cells
          have yc : wr.cell? ⟨G, 2, none⟩ = some (.slice (some ⟨g, 0, none⟩) b cb) := y2
          have hG := RS.out.lt
          have as_ := ra_size F
          have z0s := ra_size nf
          have zc := zero_ref
          have HF := hide hF
          have HROW := hide hrow
          have EF : Hid (ra F = ra F) := rfl
          clear ra0 hFk hrow hml y0 y1 y2 y3 hF
          generalize hV : ra F = V at *
          generalize ra nf = Z0 at *
          go_wp2_with (refine wpL_load rfl 39 _ rfl _ _ rfl LD.out ?_)
          refine SE.out.mono ?_
          rintro r w2 ⟨x, rfl, e2⟩
          subst hV
          obtain ⟨hB2, k2⟩ := rset_blk (heap_new wr (.cells (ra F) 39)) e2
          have b2 : Below wr.heap.size wr w2 := KF.below (below_alloc _ _) k2 (fun x e => Nat.le_of_eq e.symm)
          have bd : Below wr.heap.size wr w2.drew := btr b2 (Ba.bdrew1 _)
          have R2 := RS.out.below bd
          have hB3 : w2.drew.heap[wr.heap.size]? = some (.cells (ra (zf t F)) 39 (0, 0)) := hB2
          have lc := ld_ref (RA.of hB3)
          obtain ⟨LC, hLC⟩ : ∃ LC : Nat → Sem (Array Value), ∀ n, loadCellsFrom (⟨wr.heap.size, 0, none⟩ : Addr) 0 n #[] = LC n := ⟨fun n => loadCellsFrom (⟨wr.heap.size, 0, none⟩ : Addr) 0 n #[], fun _ => rfl⟩
          rw [hLC] at lc
          have ra2 : RA w2.drew g (k * 256) F := row_ra (own_below' HROW.out bd) (by show (mt t k st.recd)[k]? = some F; rw [mt_at]; exact HF.out)
          have stc2 := sc_ra (zf t F) (ra_there ra2)
          have yc2 : w2.cell? ⟨G, 2, none⟩ = some (.slice (some ⟨g, 0, none⟩) b cb) := (RS.out.below b2).cells.2.2.1
          have hG2 : G < w2.heap.size := Nat.lt_of_lt_of_le hG b2.size
          have NX : Hid (RX (w2.drew.setCells g (k * 256) (ra (zf t F)).toList) G (stB t st (k + 1)) (.slice oa a ca) (.slice (some ⟨g, 0, none⟩) b cb)) := by
            have := R2.setRecd (k := k) (by show (mt t k st.recd).length = b; rw [mt_len, hnb]) hlt (zf t F)
            have e9 : (mt t k st.recd).set k (zf t F) = mt t (k + 1) st.recd := mt_set HF.out
            have e8 : ({ stB t st k with recd := (stB t st k).recd.set k (zf t F) } : Rst) = stB t st (k + 1) := by
              show ({ stB t st k with recd := (mt t k st.recd).set k (zf t F) } : Rst) = _
              rw [e9]; rfl
            rw [e8] at this
            exact this
          have KX : Hid (KF X w (w2.drew.setCells g (k * 256) (ra (zf t F)).toList)) := kf_setCells (KR.out.then bd) (by rw [hX]; exact .inr (.inr rfl)) _ _
          have vs_ := ra_size (zf t F)
          clear e2 hB2 k2 b2 bd R2 hB3 ra2 SE LD stc yc
          generalize ra (zf t F) = V2 at *
          go_wp2_with fail
          go_region
          all_goals
            go_wp2_with fail
            go_roundw
            case rel => exact ⟨k + 1, by omega, by go_num, NX.out, KX.out⟩
            case measure => simp [intOf]; omega
        · have hlt' : ¬ ((k : Int) < (b : Int)) := by omega
          have hk : k = b := by omega
          have RS3 : RX wr G { st with sent := st.sent.map (zf t), recd := st.recd.map (zf t) } (.slice oa a ca) (.slice ob b cb) := by
            have := RS.out
            unfold stB at this
            rw [mt_all _ _ _ (by omega)] at this
            exact this
          have SE := hide (rset_z t RS3.clg)
          have hG3 := RS3.lt
          have H3 := hide RS3
          clear RS RS3
          go_wp2_with fail
          refine SE.out.mono ?_
          rintro r w2 ⟨x, rfl, e2⟩
          obtain ⟨R3, K3⟩ := rset_clg H3.out e2
          have FIN := hide (And.intro R3 (KR.out.trans (K3.mono (G := X) fun x e => by rw [hX]; exact .inl e) (Nw.refl _ _)))
          clear e2 R3 K3 SE
          go_wp2_with fail
          go_end0
          exact ⟨rfl, FIN.out⟩
end Sl
end Go.Proofs.Ytekdcfdjohlfcaa
