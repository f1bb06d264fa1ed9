/- Package reel: PutList, over this seat's program. -/
import Derived.Test.YtgnhophlnbpcgaaEf
import Derived.Test.YtgnhophlnbpcgaaBi
namespace Go.Proofs.Ytgnhophlnbpcgaa
open Go.ChangeShapes Go.WideShapes Go.ChangeAt Go.RowKit
namespace Re
open Ba

/-- the bytes of numbers, one behind the other -/
def pls (l : List Int) : List Nat := l.flatMap fun n => spl n.toNat
/-- a list's bytes -/
def plist (l : List Int) : List Nat := spl l.length ++ pls l
theorem pls_take (l : List Int) (k : Nat) (h : k < l.length) : pls (l.take (k + 1)) = pls (l.take k) ++ spl (nth l k).toNat := by
  rw [pls, List.take_add_one, List.getElem?_eq_getElem h, nth_lt l k h, List.flatMap_append]
  show _ ++ (spl _ ++ []) = _
  rw [List.append_nil]
  rfl
theorem pls_len (l : List Int) : (pls l).length ≤ 7 * l.length := by
  induction l with
  | nil => simp [pls]
  | cons n l ih =>
    have := (spl_len n.toNat).2
    simp [pls] at ih ⊢
    omega
/-- the list's bytes up to k -/
def ppre (l : List Int) (k : Nat) : List Nat := spl l.length ++ pls (l.take k)
theorem ppre_len (l : List Int) (k : Nat) (h : k ≤ l.length) : 1 ≤ (ppre l k).length ∧ (ppre l k).length ≤ 7 + 7 * k := by
  have h1 := spl_len l.length
  have h2 := pls_len (l.take k)
  simp [ppre] at h2 ⊢
  omega
theorem ppre_succ (l : List Int) (k : Nat) (h : k < l.length) : ppre l (k + 1) = ppre l k ++ spl (nth l k).toNat := by
  rw [ppre, pls_take l k h, ppre, List.append_assoc]
theorem ppre_all (l : List Int) : ppre l l.length = plist l := by rw [ppre, List.take_length, plist]
theorem all_ok {l : List Int} (h : ∀ j, j < l.length → okR (nth l j) = true) : l.all okR = true := by
  rw [List.all_eq_true]
  intro x hx
  obtain ⟨j, hj, rfl⟩ := List.getElem_of_mem hx
  have := h j hj
  rwa [nth_lt l j hj] at this
theorem all_not {l : List Int} (j : Nat) (hj : j < l.length) (h : okR (nth l j) = false) : l.all okR = false := by
  rw [List.all_eq_false]
  exact ⟨l[j], List.getElem_mem hj, by rw [nth_lt l j hj] at h; simp [h]⟩
theorem info_byte : (Try.prog.info? 5).map (fun i => (i.zero, i.size, i.bytes)) = some (some (.int .u8 0), 1, 1) := by kernel_rfl
def bv (L : List Nat) : List Value := L.map fun b => .int .u8 ((UInt8.ofNat b).toNat : Int)
theorem bv_length (L : List Nat) : (bv L).length = L.length := by simp [bv]
theorem bv_append (K L : List Nat) : bv (K ++ L) = bv K ++ bv L := by simp [bv]
theorem bv_one (L : List Nat) : ∀ u ∈ bv L, u.oneCell' = true := by
  intro u hu
  simp only [bv, List.mem_map] at hu
  obtain ⟨_, _, rfl⟩ := hu
  rfl
theorem room_src {w : World} {b a : Nat} {L : List Nat} {t : TypeId} (h : w.heap[b]? = some (.cells (rm L) t (0, 0))) (ha : a + L.length = 7) (hL : ∀ b ∈ L, b < 256) : ∀ j u, (bv L)[j]? = some u → w.cell? (Addr.add ⟨b, a, none⟩ j) = some u := by
  intro j u hj
  have hl : j < L.length := by
    have := (List.getElem?_eq_some_iff.1 hj).1
    rwa [bv_length] at this
  rw [Addr.add_lit, cell_of h, rm_from L a j ha hl hL, ← hj]
  simp [bv, hl]
/-- bytes of one's own, as a string -/
theorem conv_own {w : World} {base : Nat} {v : Value} {L : List Nat} (h : w.ownsRow base 5 1 v L.length (bv L)) (hn : L ≠ []) :
    (convert 71 9 v).run Try.prog w = .ok (.string (bs L)) w := by
  rcases h.2 with ⟨_, h0⟩ | ⟨g, cap, cur, rfl, _, hg, _, _, hcs, htk⟩
  · exact absurd (List.eq_nil_of_length_eq_zero h0) hn
  · have := run_convert_bytes_back (P := Try.prog) w 71 9 5 ⟨g, 0, none⟩ cap (L.map fun b => UInt8.ofNat b) Try.underlying71 Try.underlying5 Try.underlying9 (fun j hj => by
      have hj' : j < L.length := by simpa using hj
      rw [Addr.add_lit, Nat.zero_add, cell_of hg]
      have e : (cur.toList.take (L.length * 1))[j]? = (bv L)[j]? := by rw [htk]
      rw [List.getElem?_take, if_pos (by omega)] at e
      rw [← Array.getElem?_toList, e]
      simp [bv, hj'])
    rw [List.length_map] at this
    exact this

set_option maxRecDepth 100000 in
set_option maxHeartbeats 1600000 in
theorem putlist_any (oa : Option Addr) (l : List Int) (c : Nat) (w : World) (hA : At w oa l) (hl : l.length ≤ 2000) :
    Calls Try.prog 69 #[.slice oa l.length c] w fun r w' => r = .returned (bif l.all okR then .tuple #[.string (bs (plist l)), .int .i64 0] else .tuple #[.string (bs []), .int .i64 1]) ∧ Below w.heap.size w w' := by
  have HA := hide hA
  clear hA
  obtain ⟨i0, hi, hz0, hz1, hz2⟩ := info_parts info_byte
  have INF := hide (And.intro hi (And.intro hz0 (And.intro hz1 hz2)))
  clear hi hz0 hz1 hz2
  go_enter Try.func69, Try.ntmps69
  go_wp2_with fail
  refine (spell_at l.length (by omega) _).mono ?_
  rintro r w1 ⟨a, rfl, ha, b1⟩
  have H2 := hide (heap_new w1 (.cells (rm []) 134))
  have hsz : (rm (spl l.length)).size = 7 := rm_size _ (by have := spl_len l.length; omega)
  have SZ : Hid ((Try.prog.info? 134).map (·.size) = some (rm (spl l.length)).size) := by show _ = _; rw [size_room, hsz]
  have SE : Hid ((rm []).size = (rm (spl l.length)).size) := hsz.symm
  have SR := hide (room_src (setRow_heap _ _ _ (rm (spl l.length)) _ _ H2.out) ha (spl_lt _))
  have HB := hide (btr b1 (by rw [setRow_new]; exact below_alloc _ _ : Below w1.heap.size w1 ((w1.alloc (.cells (rm []) 134)).setRow w1.heap.size (rm (spl l.length)))))
  have h6 : a < 7 := by have := spl_len l.length; omega
  have HAA := hide ha
  clear hsz ha b1
  have sr := slice_room w1.heap.size a h6
  go_wp2_with (first | (refine wpList_store_row rfl 134 _ _ rfl _ _ rfl rfl 134 _ H2.out SZ.out SE.out (rm_one _) ?_) | (at_builtin; refine wpList_append_own _ rfl _ _ 71 rfl w.heap.size 5 i0 (.int .u8 0) 1 1 Try.underlying71 INF.out.1 INF.out.2.1 INF.out.2.2.1 INF.out.2.2.2 rfl (by decide) _ 0 [] rfl (World.ownsRow_nil _ _ _ _) ⟨w1.heap.size, a, none⟩ (7 - a) (7 - a) (bv (spl l.length)) rfl ?c0 SR.out (bv_one _) ?c3 ?c4 HB.out.size ?_))
  case c0 => rw [bv_length]; have := HAA.out; omega
  case c3 => unfold maxLen; omega
  case c4 => omega
  intro v w2 hown hgrow _
  have OW : Hid (w2.ownsRow w.heap.size 5 1 v (spl l.length).length (bv (spl l.length))) := by
    show World.ownsRow _ _ _ _ _ _ _
    rw [show (spl l.length).length = 0 + (7 - a) by have := HAA.out; omega]
    simpa using hown
  have BL : Hid (Below w.heap.size w w2) := HB.out.grown hgrow HB.out.size (fun x hx => by simp [Value.ownBlock] at hx)
  clear hown hgrow sr H2 SZ SE SR HB HAA h6
  go_wp2_with fail
  go_loopw [6, 22] (fun v i wr => ∃ k : Nat, k ≤ l.length ∧ i = .int .i64 (k : Int) ∧ (∀ j, j < k → okR (nth l j) = true) ∧ wr.ownsRow w.heap.size 5 1 v (ppre l k).length (bv (ppre l k)) ∧ Below w.heap.size w wr) (fun _ i _ => l.length - (intOf i).toNat)
  case atStart => exact ⟨0, Nat.zero_le _, rfl, fun j hj => absurd hj (Nat.not_lt_zero _), by simpa [ppre, pls] using OW.out, BL.out⟩
  case round =>
    clear OW BL
    obtain ⟨k, hk, rfl, hall, hown, hbl⟩ := hrel
    have HK := hide hall
    have OW := hide hown
    have BL := hide hbl
    clear hall hown hbl
    by_cases hlt : k < l.length
    · have hlt' : decide ((k : Int) < (l.length : Int)) = true := by simp; omega
      obtain ⟨b', off, rfl, hc⟩ := (HA.out.below BL.out) k hlt
      cases hok : okR (nth l k)
      · have HO := hide hok
        clear hok
        go_wp2_with (go_at_call 77; refine (isNumber_is _ false HO.out _).mono ?_; rintro r w' ⟨rfl, rfl⟩)
        go_ret2
        exact ⟨by rw [all_not k hlt HO.out]; rfl, BL.out⟩
      · have HO := hide hok
        obtain ⟨h0, h1⟩ := (okR_iff _).1 hok
        obtain ⟨m, hm⟩ := Int.eq_ofNat_of_zero_le h0
        have PS := hide (ppre_succ l k hlt)
        rw [hm] at hc h1 HO
        have hm1 : m ≤ 1099511627776 := by omega
        rw [hm] at PS
        have HM := hide hm
        clear hok h0 h1 hm
        go_wp2_with (go_at_call 77; refine (isNumber_is _ true HO.out _).mono ?_; rintro r w' ⟨rfl, hw⟩)
        subst hw
        refine (spell_at m hm1 _).mono ?_
        rintro r w3 ⟨a3, rfl, ha3, b3⟩
        have H3 := hide (heap_new w3 (.cells (rm []) 134))
        have hsz : (rm (spl m)).size = 7 := rm_size _ (by have := spl_len m; omega)
        have SZ3 : Hid ((Try.prog.info? 134).map (·.size) = some (rm (spl m)).size) := by show _ = _; rw [size_room, hsz]
        have SE3 : Hid ((rm []).size = (rm (spl m)).size) := hsz.symm
        have SR3 := hide (room_src (setRow_heap _ _ _ (rm (spl m)) _ _ H3.out) ha3 (spl_lt _))
        have bb3 : Below w3.heap.size w3 ((w3.alloc (.cells (rm []) 134)).setRow w3.heap.size (rm (spl m))) := by rw [setRow_new]; exact below_alloc _ _
        have HB3 := hide (btr (btr BL.out b3) bb3)
        have OW3 := hide (owns_below OW.out (btr b3 bb3))
        have h6 : a3 < 7 := by have := spl_len m; omega
        have HA3 := hide ha3
        have hpl := ppre_len l k (by omega)
        clear hsz ha3 b3 bb3
        have sr := slice_room w3.heap.size a3 h6
        go_wp2_with (first | (refine wpList_store_row rfl 134 _ _ rfl _ _ rfl rfl 134 _ H3.out SZ3.out SE3.out (rm_one _) ?_) | (at_builtin; refine wpList_append_own _ rfl _ _ 71 rfl w.heap.size 5 i0 (.int .u8 0) 1 1 Try.underlying71 INF.out.1 INF.out.2.1 INF.out.2.2.1 INF.out.2.2.2 rfl (by decide) _ _ _ rfl OW3.out ⟨w3.heap.size, a3, none⟩ (7 - a3) (7 - a3) (bv (spl m)) rfl ?c0 SR3.out (bv_one _) ?c3 ?c4 HB3.out.size ?_))
        case c0 => rw [bv_length]; have := HA3.out; omega
        case c3 => unfold maxLen; omega
        case c4 => omega
        intro v' w4 hown' hgrow _
        have BL4 : Hid (Below w.heap.size w w4) := HB3.out.grown hgrow HB3.out.size (fun x hx => (OW3.out.lt x hx).1)
        have OW4 : Hid (w4.ownsRow w.heap.size 5 1 v' (ppre l (k + 1)).length (bv (ppre l (k + 1)))) := by
          show World.ownsRow _ _ _ _ _ _ _
          rw [PS.out, bv_append, List.length_append, Int.toNat_natCast, show (spl m).length = 7 - a3 by have := HA3.out; omega]
          exact hown'
        clear hown' hgrow sr
        go_wp2_with fail
        go_roundw
        case rel => exact ⟨k + 1, by omega, by go_num, fun j hj => by
            by_cases e : j = k
            · subst e; rw [HM.out]; exact HO.out
            · exact HK.out j (by omega), OW4.out, BL4.out⟩
        case measure => simp [intOf]; omega
    · have hlt' : decide ((k : Int) < (l.length : Int)) = false := by simp; omega
      have e : k = l.length := by omega
      subst e
      rw [ppre_all] at OW
      have cv := conv_own OW.out (by
        intro q
        have := (ppre_len l l.length (Nat.le_refl _)).1
        rw [ppre_all, q] at this
        simp at this)
      go_wp2_with fail
      go_ret2
      exact ⟨by rw [all_ok HK.out]; rfl, BL.out⟩
end Re
end Go.Proofs.Ytgnhophlnbpcgaa
