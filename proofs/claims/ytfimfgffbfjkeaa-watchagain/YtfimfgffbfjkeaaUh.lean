/- Package watch, over this seat's program: All. -/
import Derived.Test.YtfimfgffbfjkeaaUg
import Derived.Test.YtfimfgffbfjkeaaWl
namespace Go.Proofs.Ytfimfgffbfjkeaa
open Go.ChangeShapes Go.WideShapes Go.ChangeAt Go.RowKit
open Go.Shelf
namespace Wa
open Ck

/-- all that have a tid, rising -/
structure Ks (f : Int → Option (Nat × Nat)) (n : Nat) (ks : List Int) : Prop where
  len : ks.length = n
  mem : ∀ g, g ∈ ks ↔ (f g).isSome = true
  lt : ∀ (i j : Nat) (a b : Int), i < j → ks[i]? = some a → ks[j]? = some b → a < b
  wf : ∀ g ∈ ks, (Lit.int .i64 g).wf = true
theorem sortsA (m : Nat) : Go.Proofs.AnyZI.SortsIn Try.prog Wl.sortedA_ren Fence.wide m :=
  ⟨fun blk off cap ss W hH hblk hsz => callsIn_wide.2 (Go.Proofs.AnyM.slices_Sort_int Wl.sortA blk off cap ss W hH hblk hsz),
   fun p cap W => callsIn_wide.2 (Go.Proofs.AnyM.slices_Sort_int_none Wl.sortA p cap W)⟩
theorem ks_of {Y : Nat → Prop} {B : Nat} {w : World} {st : Wst} {h : Nat → Option (List Int)} {mb : Nat} {D : DataW Unit} (s : WX Y B w st h mb D) {ss : List Int} (hp : ss.Perm (intKeys D)) : Ks st.f st.n (ss.mergeSort fun x y => decide (x ≤ y)) := by
  obtain ⟨es, hD, hpw, -⟩ := s.ow.entries law
  obtain ⟨es', hD', hko⟩ := s.ow.keysOf
  obtain rfl : es = es' := by rw [hD] at hD'; simpa using hD'
  have hk : ∀ p ∈ es, ∃ x, p.1 = .int .i64 x := fun p hp => by
    obtain ⟨v, hv⟩ := hko p hp
    obtain ⟨x, _, hx, _⟩ := Maps.keyOf_i64 Try.underlying3 hv
    exact ⟨x, hx⟩
  have nd : (intKeys D).Nodup := by
    rw [hD]
    show (es.map fun p => Go.intOf p.1).Nodup
    refine List.pairwise_map.2 (hpw.imp_of_mem fun {p q} hp' hq' hne e => hne ?_)
    obtain ⟨a, ha⟩ := hk p hp'
    obtain ⟨b, hb⟩ := hk q hq'
    rw [ha, hb] at e ⊢
    exact congrArg _ e
  have hm : ∀ x, x ∈ intKeys D ↔ (st.f x).isSome = true := fun x => by
    rw [← s.mi.has x, hD, Maps.has_eq, List.any_eq_true]
    show x ∈ es.map (fun p => Go.intOf p.1) ↔ _
    rw [List.mem_map]
    constructor
    · rintro ⟨p, hp', rfl⟩
      obtain ⟨a, ha⟩ := hk p hp'
      exact ⟨p, hp', by rw [ha]; simp [kl, Lit.sameKey, Go.intOf]⟩
    · rintro ⟨p, hp', hs⟩
      obtain ⟨a, ha⟩ := hk p hp'
      rw [ha] at hs
      exact ⟨p, hp', by rw [ha]; simpa [kl, Lit.sameKey, Go.intOf] using hs⟩
  have hp2 := (List.mergeSort_perm ss fun x y => decide (x ≤ y)).trans hp
  have nd2 : (ss.mergeSort fun x y => decide (x ≤ y)).Nodup := hp2.nodup_iff.2 nd
  have so := List.pairwise_mergeSort (le := fun x y : Int => decide (x ≤ y)) (fun a b c h1 h2 => by simp only [decide_eq_true_eq] at *; exact Int.le_trans h1 h2) (fun a b => by simp only [Bool.or_eq_true, decide_eq_true_eq]; exact Int.le_total a b) ss
  refine ⟨?_, fun g => by rw [hp2.mem_iff]; exact hm g, fun i j a b hij ha hb => ?_, fun g hg => ?_⟩
  · rw [hp2.length_eq, ← s.sz, hD]
    show (es.map _).length = _
    rw [List.length_map]
    rfl
  · obtain ⟨hi, ea⟩ := List.getElem?_eq_some_iff.1 ha
    obtain ⟨hj, eb⟩ := List.getElem?_eq_some_iff.1 hb
    have h1 : a ≤ b := by
      have := List.pairwise_iff_getElem.1 so i j hi hj hij
      rw [ea, eb] at this
      simpa using this
    have h2 : a ≠ b := by
      have := List.pairwise_iff_getElem.1 nd2 i j hi hj hij
      rw [ea, eb] at this
      exact this
    omega
  · exact intKeys_wf s.ow Try.underlying3 g (hp2.mem_iff.1 hg)
set_option maxRecDepth 100000 in
set_option maxHeartbeats 1600000 in
theorem all_any {Y : Nat → Prop} {B : Nat} {w : World} {st : Wst} {h : Nat → Option (List Int)} (s : WW Y B w st h) :
    Calls Try.prog 13 #[.pointer (some ⟨B, 0, none⟩)] w fun r w' => ∃ (v : Value) (ks : List Int), r = .returned v ∧ Ks st.f st.n ks ∧ w'.ownsRow w.heap.size 3 1 v ks.length (ks.map (Value.int .i64)) ∧ Below w.heap.size w w' := by
  obtain ⟨mb, D, s⟩ := s
  have y2 : w.cell? ⟨B, 2, none⟩ = some (.map (some mb)) := cell_of s.hp 2
  have hlt := s.lt
  have hml := s.ow.lt
  have hsz : Maps.size D ≤ 10000 := by rw [s.sz]; exact s.bd.2.2.2
  have hseq : SeqGives Fence.wide 2 Try.prog 57 #[.pointer (some ⟨w.heap.size, 0, none⟩)] encZ (fun ss => ss.Perm (intKeys D)) (Maps.size D) (w.alloc (.cells #[.map (some mb)] 52)) :=
    Go.Proofs.AnyZI.keys_gives (ρ := Wl.keysA_ren) { Wl.keysA with } Fence.wide _ trivial rfl (by omega) w.heap.size mb NB D _ (by simp) (by simp) (by
      obtain ⟨es, clock, hb, Ft, hs, hD⟩ := s.ow
      exact ⟨es, clock, (Below.heap_alloc _ _ mb hml).trans hb, Ft, hs, hD⟩)
  have cK : Hid (Calls Try.prog 40 #[.map (some mb)] w fun e w' => e = .returned (.func (.func 57) #[] #[.pointer (some ⟨w.heap.size, 0, none⟩)]) ∧ w' = w.alloc (.cells #[.map (some mb)] 52)) := (callsIn_wide (n := 5)).1 (Go.Proofs.AnyZI.keys_in Wl.keysA Fence.wide 5 trivial rfl (some mb) w)
  have cS := Go.Proofs.AnyZI.sorted_in Wl.sortedA Fence.wide 5 trivial trivial trivial trivial rfl (by omega) (sortsA _) (enters_of Try.func56 (by kernel_rfl) rfl) 57 #[.pointer (some ⟨w.heap.size, 0, none⟩)] trivial (enters_of Try.func57 (by kernel_rfl) rfl) _ _ (by unfold maxLen; omega) (by omega) _ hseq
  change CallsIn _ _ Try.prog 39 _ _ _ at cS
  have cT := hide ((callsIn_wide (n := 5)).1 cS)
  have HS := hide s
  clear s hseq cS
  go_enter Try.func13, Try.ntmps13
  go_wp2_with fail
  refine cK.out.mono ?_
  rintro r w1 ⟨rfl, e1⟩
  obtain rfl := e1.symm
  go_wp2_with fail
  refine cT.out.mono ?_
  rintro r w2 ⟨v, ss, rfl, hS, hrow, hnil, hb⟩
  have B2 : Hid (Below w.heap.size w w2) := ((Below.refl _ w).alloc (Nat.le_refl _) _).trans (hb.mono (by simp))
  have KS := hide (ks_of HS.out hS)
  have RW : Hid (w2.ownsRow w.heap.size 3 1 v (ss.mergeSort fun x y => decide (x ≤ y)).length ((ss.mergeSort fun x y => decide (x ≤ y)).map (Value.int .i64))) := by
    have q := ownsRow_base_a hrow (base' := w.heap.size) (by simp)
    rw [List.length_mergeSort]
    exact q
  clear hS hrow hnil hb
  generalize (ss.mergeSort fun x y => decide (x ≤ y)) = ks at *
  go_wp2_with fail
  go_ret
  exact ⟨v, ks, rfl, KS.out, RW.out, B2.out⟩
end Wa
end Go.Proofs.Ytfimfgffbfjkeaa
