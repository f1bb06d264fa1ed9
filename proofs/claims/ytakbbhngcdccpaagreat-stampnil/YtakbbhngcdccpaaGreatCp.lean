/- Package clock: put, Set, Tick, Copy, New, Of and Epoch as what they leave in memory, over this seat's program. -/
import Derived.Test.YtakbbhngcdccpaaGreatCj
namespace Go.Proofs.YtakbbhngcdccpaaGreat
open Go.ChangeShapes Go.WideShapes Go.ChangeAt Go.RowKit
namespace Ck

/-- no nought at the end -/
def Canon (l : List Int) : Prop := tlen l = l.length
theorem canon_trm (l : List Int) : Canon (trm l) := by
  have h : IsT (trm l) (trm l).length := by
    refine ⟨Nat.le_refl _, fun j hj => nth_out _ _ hj, ?_⟩
    rw [trm_length, nth_trm]
    exact (tlen_is l).2.2
  exact h.uniq.symm
theorem canon_eq {l m : List Int} (hl : Canon l) (hm : Canon m) (h : ∀ j, nth l j = nth m j) : l = m := by
  have e : IsT l (tlen m) := by
    obtain ⟨a, b, c⟩ := tlen_is m
    refine ⟨?_, fun j hj => (h j).trans (b j hj), ?_⟩
    · by_cases q : tlen m ≤ l.length
      · exact q
      · rcases c with c | c
        · omega
        · rw [← h, nth_out l _ (by omega)] at c
          exact absurd rfl c
    · rcases c with c | c
      · exact .inl c
      · right; rw [h]; exact c
  have e2 := e.uniq
  unfold Canon at hl hm
  exact eq_of_nth (by omega) fun j _ => h j

theorem Rep.trim {w : World} {b y cap : Nat} {l : List Int} (h : Rep w b l false (some y) cap) : Rep (w.setCell ⟨b, 0, none⟩ (.slice (some ⟨y, 0, none⟩) (tlen l) cap)) b (trm l) false (some y) cap := by
  have ht := tlen_le l
  have h1 := h.len
  have h2 := h.le
  refine ⟨?_, by rw [trm_length]; omega, by rw [trm_length]; omega, h.mx, fun q => by simp at q, fun q => by simp at q, fun x hx => ?_⟩
  · rw [heap_setCell_same h.head, trm_length]
    rfl
  · obtain ⟨hne, cur, hc, hcs, hcd⟩ := h.data x hx
    refine ⟨hne, cur, (Below.heap_setCell _ _ _ _ hne).trans hc, hcs, fun k hk => ?_⟩
    rw [trm_length] at hk
    rw [nth_trm]
    exact hcd k (by omega)

/-- what a change of tid t's number to n leaves -/
def Putted (w : World) (b : Nat) (l : List Int) (s : Bool) (g : Option Nat) (t : Nat) (n : Int) (w' : World) : Prop :=
  ∃ l' s' g' cap', Rep w' b l' s' g' cap' ∧ Canon l' ∧ (∀ j, nth l' j = if j = t then n else nth l j) ∧ Nx w s g s' g' ∧ Fr (Mine b s g) w w'

theorem putted_same {w : World} {b : Nat} {l : List Int} {s : Bool} {g : Option Nat} {cap t : Nat} {n : Int} (h : Rep w b l s g cap) (hc : Canon l) (hn : nth l t = n) : Putted w b l s g t n w :=
  ⟨l, s, g, cap, h, hc, fun j => by
    split
    · subst j; exact hn
    · rfl, Nx.refl _ _ _, Fr.refl _ _⟩

theorem putted_new {w w1 : World} {b : Nat} {l : List Int} {s : Bool} {g : Option Nat} {t y cap1 : Nat} {n : Int}
    (o1 : Rep w1 b (pad l (t + 1)) false (some y) cap1) (o2 : (s = false ∧ some y = g) ∨ ∃ z, some y = some z ∧ w.heap.size ≤ z) (o3 : Fr (Mine b s g) w w1) :
    Putted w b l s g t n ((w1.setCell ⟨y, t, none⟩ (.int .i64 n)).setCell ⟨b, 0, none⟩ (.slice (some ⟨y, 0, none⟩) (tlen ((pad l (t + 1)).set t n)) cap1)) := by
  have hp : t < (pad l (t + 1)).length := by rw [pad_length]; omega
  have nx := Owned.nx o2
  refine ⟨_, false, some y, cap1, (o1.setNum hp n).trim, canon_trm _, fun j => ?_, nx, ?_⟩
  · rw [nth_trm, nth_set _ _ _ _ hp, nth_pad]
  · exact o3.next nx (((Fr.refl _ _).setCell (.inl (.inr ⟨rfl, rfl⟩)) _).setCell (.inl (.inl rfl)) _)

theorem trim_n (oa : Option Addr) (l : List Int) (n c : Nat) (hn : l.length = n) (w : World) (hA : At w oa l) (hl : n ≤ c) (hc : c ≤ maxLen) :
    Calls Tryz.prog 70 #[.slice oa n c] w fun r w' => r = .returned (.slice oa (tlen l) c) ∧ w' = w := by
  subst hn
  exact trim_any oa l c w hA hl hc

set_option maxHeartbeats 800000 in
theorem put_any (b : Nat) (l : List Int) (s : Bool) (g : Option Nat) (cap t : Nat) (n : Int) (w : World) (h : Rep w b l s g cap) (hc : Canon l) (ht : t < 256) :
    Calls Tryz.prog 45 #[.pointer (some ⟨b, 0, none⟩), .int .i64 (t : Int), .int .i64 n] w fun r w' => r = .returned (.tuple #[]) ∧ Putted w b l s g t n w' := by
  have H := hide h
  have HC := hide hc
  have G : Hid (gt l (t : Int) = nth l t) := gt_nat l t
  clear h hc
  by_cases he : nth l t = n
  · have he' : (nth l t == n) = true := by simpa using he
    have HE := hide he
    clear he
    go_enter Tryz.func45, Tryz.ntmps45
    go_wp2_with (go_at_call 37; refine (get_any b l _ _ H.out.ck).mono ?_; rw [G.out]; rintro r w' ⟨rfl, rfl⟩)
    refine bodyPost_ret (results_none rfl _ _ _) rfl ?_
    exact ⟨rfl, putted_same H.out HC.out HE.out⟩
  · have he' : (nth l t == n) = false := by simpa using he
    clear he
    go_enter Tryz.func45, Tryz.ntmps45
    go_wp2_with (go_at_call 37; refine (get_any b l _ _ H.out.ck).mono ?_; rw [G.out]; rintro r w' ⟨rfl, rfl⟩)
    rw [show ((t : Int) + 1) = ((t + 1 : Nat) : Int) from by omega]
    refine (own_any b l s g cap (t + 1) _ H.out (by omega)).mono ?_
    rintro r w1 ⟨rfl, g1, cap1, o1, o2, o3⟩
    obtain ⟨y, rfl⟩ : ∃ y, g1 = some y := by
      cases g1 with
      | none => have e1 := o1.nil rfl; have e2 := o1.le; rw [pad_length] at e2; omega
      | some y => exact ⟨y, rfl⟩
    obtain ⟨hne, cur, hcur, hcs, hcd⟩ := o1.data y rfl
    have hpl : t < (pad l (t + 1)).length := by rw [pad_length]; omega
    have hpl' : (t : Int) < ((pad l (t + 1)).length : Int) := by omega
    have hpm := o1.len
    have q0 := cell_of o1.head 0
    have q4 := frozen_of o1.head 0
    simp at q0
    have q1 := (cell_of hcur t).trans (hcd t hpl)
    have q2 := frozen_of hcur t
    have O1 := hide o1
    have O2 := hide o2
    have O3 := hide o3
    have AT := hide (o1.setNum hpl n).at_
    have LE := hide o1.le
    have MX := hide o1.mx
    clear o1 o2 o3 hcur hcs hcd
    go_wp2_with (go_at_call 70; refine (trim_n _ ((pad l (t + 1)).set t n) _ _ (by simp) _ AT.out LE.out MX.out).mono ?_; rintro r w' ⟨rfl, rfl⟩)
    go_end0
    exact ⟨rfl, putted_new O1.out O2.out O3.out⟩

set_option maxHeartbeats 400000 in
theorem isTid_any (n : Int) (w : World) :
    Calls Tryz.prog 43 #[.int .i64 n] w fun r w' => r = .returned (.bool (decide (0 ≤ n) && decide (n < 256))) ∧ w' = w := by
  by_cases h1 : 0 ≤ n <;> by_cases h2 : n < 256
  all_goals
    go_enter Tryz.func43, Tryz.ntmps43
    go_wp2
    go_ret
    simp [h1, h2]
def okT (n : Int) : Bool := decide (0 ≤ n) && decide (n < 256)
theorem okT_iff (n : Int) : okT n = true ↔ 0 ≤ n ∧ n < 256 := by simp [okT]
theorem isTid_is (n : Int) (x : Bool) (h : okT n = x) (w : World) :
    Calls Tryz.prog 43 #[.int .i64 n] w fun r w' => r = .returned (.bool x) ∧ w' = w := by
  have := isTid_any n w
  unfold okT at h
  rw [h] at this
  exact this

set_option maxHeartbeats 400000 in
theorem set_arg (p : Option Addr) (t n : Int) (w : World) (h : okT t = false ∨ okN n = false) :
    Calls Tryz.prog 23 #[.pointer p, .int .i64 t, .int .i64 n] w fun r w' => r = .returned (.int .i64 1) ∧ w' = w := by
  cases h1 : okT t
  · have H1 := hide h1
    clear h h1
    go_enter Tryz.func23, Tryz.ntmps23
    go_wp2_with (go_at_call 43; refine (isTid_is _ false H1.out _).mono ?_; rintro r w' ⟨rfl, rfl⟩)
    go_ret
    exact ⟨rfl, rfl⟩
  · have h2 : okN n = false := by
      rcases h with h | h
      · rw [h1] at h; cases h
      · exact h
    have H1 := hide h1
    have H2 := hide h2
    clear h h1 h2
    go_enter Tryz.func23, Tryz.ntmps23
    go_wp2_with (first | (go_at_call 43; refine (isTid_is _ true H1.out _).mono ?_; rintro r w' ⟨rfl, rfl⟩) | (go_at_call 44; refine (isNumber_is _ false H2.out _).mono ?_; rintro r w' ⟨rfl, rfl⟩))
    go_ret
    exact ⟨rfl, rfl⟩

set_option maxHeartbeats 400000 in
theorem set_nil (t n : Int) (w : World) (h1 : okT t = true) (h2 : okN n = true) :
    Calls Tryz.prog 23 #[.pointer none, .int .i64 t, .int .i64 n] w fun r w' => r = .returned (.int .i64 7) ∧ w' = w := by
  have H1 := hide h1
  have H2 := hide h2
  clear h1 h2
  go_enter Tryz.func23, Tryz.ntmps23
  go_wp2_with (first | (go_at_call 43; refine (isTid_is _ true H1.out _).mono ?_; rintro r w' ⟨rfl, rfl⟩) | (go_at_call 44; refine (isNumber_is _ true H2.out _).mono ?_; rintro r w' ⟨rfl, rfl⟩))
  go_ret
  exact ⟨rfl, rfl⟩

set_option maxHeartbeats 400000 in
theorem set_ok (b : Nat) (l : List Int) (s : Bool) (g : Option Nat) (cap t : Nat) (n : Int) (w : World) (h : Rep w b l s g cap) (hc : Canon l) (ht : t < 256) (h2 : okN n = true) :
    Calls Tryz.prog 23 #[.pointer (some ⟨b, 0, none⟩), .int .i64 (t : Int), .int .i64 n] w fun r w' => r = .returned (.int .i64 0) ∧ Putted w b l s g t n w' := by
  have H := hide h
  have HC := hide hc
  have H1 : Hid (okT (t : Int) = true) := by show _ = _; rw [okT_iff]; omega
  have H2 := hide h2
  clear h hc h2
  go_enter Tryz.func23, Tryz.ntmps23
  go_wp2_with (first | (go_at_call 43; refine (isTid_is _ true H1.out _).mono ?_; rintro r w' ⟨rfl, rfl⟩) | (go_at_call 44; refine (isNumber_is _ true H2.out _).mono ?_; rintro r w' ⟨rfl, rfl⟩) | (go_at_call 45; refine (put_any b l s g cap t n _ H.out HC.out ht).mono ?_))
  rintro r w1 ⟨rfl, hp⟩
  have HP := hide hp
  clear hp
  go_wp2
  go_ret
  exact ⟨rfl, HP.out⟩

def okM (n : Int) : Bool := decide (1 ≤ n) && decide (n ≤ 1048576)
theorem okM_iff (n : Int) : okM n = true ↔ 1 ≤ n ∧ n ≤ 1048576 := by simp [okM]
theorem okM_okN (n : Int) (h : okM n = true) : okN n = true := by rw [okM_iff] at h; rw [okN_iff]; omega

set_option maxHeartbeats 400000 in
theorem tick_arg (p : Option Addr) (t n : Int) (w : World) (h : okT t = false ∨ okM n = false) :
    Calls Tryz.prog 103 #[.pointer p, .int .i64 t, .int .i64 n] w fun r w' => r = .returned (.int .i64 1) ∧ w' = w := by
  cases h1 : okT t
  · have H1 := hide h1
    clear h h1
    go_enter Tryz.func103, Tryz.ntmps103
    go_wp2_with (go_at_call 43; refine (isTid_is _ false H1.out _).mono ?_; rintro r w' ⟨rfl, rfl⟩)
    go_ret
    exact ⟨rfl, rfl⟩
  · have h2 : okM n = false := by
      rcases h with h | h
      · rw [h1] at h; cases h
      · exact h
    have H1 := hide h1
    clear h h1
    by_cases h3 : n < 1
    · clear h2
      go_enter Tryz.func103, Tryz.ntmps103
      go_wp2_with (first | (go_at_call 43; refine (isTid_is _ true H1.out _).mono ?_; rintro r w' ⟨rfl, rfl⟩))
      go_ret
      exact ⟨rfl, rfl⟩
    · have H2 : Hid (okN n = false) := by
        show _ = _
        have : ¬ (okM n = true) := by rw [h2]; simp
        rw [okM_iff] at this
        have h4 : ¬ (okN n = true) := by rw [okN_iff]; omega
        simpa using h4
      clear h2
      go_enter Tryz.func103, Tryz.ntmps103
      go_wp2_with (first | (go_at_call 43; refine (isTid_is _ true H1.out _).mono ?_; rintro r w' ⟨rfl, rfl⟩) | (go_at_call 44; refine (isNumber_is _ false H2.out _).mono ?_; rintro r w' ⟨rfl, rfl⟩))
      go_ret
      exact ⟨rfl, rfl⟩

set_option maxHeartbeats 400000 in
theorem tick_nil (t n : Int) (w : World) (h1 : okT t = true) (h2 : okM n = true) :
    Calls Tryz.prog 103 #[.pointer none, .int .i64 t, .int .i64 n] w fun r w' => r = .returned (.int .i64 7) ∧ w' = w := by
  have H1 := hide h1
  have H2 := hide (okM_okN n h2)
  have h3 : 1 ≤ n := by rw [okM_iff] at h2; omega
  clear h1 h2
  go_enter Tryz.func103, Tryz.ntmps103
  go_wp2_with (first | (go_at_call 43; refine (isTid_is _ true H1.out _).mono ?_; rintro r w' ⟨rfl, rfl⟩) | (go_at_call 44; refine (isNumber_is _ true H2.out _).mono ?_; rintro r w' ⟨rfl, rfl⟩))
  go_ret
  exact ⟨rfl, rfl⟩

set_option maxRecDepth 100000 in
set_option maxHeartbeats 800000 in
theorem tick_full (b : Nat) (l : List Int) (t : Nat) (n : Int) (w : World) (h : CK w b l) (ht : t < 256) (h2 : okM n = true) (hf : n ≤ nth l t) :
    Calls Tryz.prog 103 #[.pointer (some ⟨b, 0, none⟩), .int .i64 (t : Int), .int .i64 n] w fun r w' => r = .returned (.int .i64 5) ∧ w' = w := by
  have H := hide h
  have H1 : Hid (okT (t : Int) = true) := by show _ = _; rw [okT_iff]; omega
  have H2 := hide (okM_okN n h2)
  have h3 : 1 ≤ n := by rw [okM_iff] at h2; omega
  have G : Hid (gt l (t : Int) = nth l t) := gt_nat l t
  clear h h2
  go_enter Tryz.func103, Tryz.ntmps103
  go_wp2_with (first | (go_at_call 43; refine (isTid_is _ true H1.out _).mono ?_; rintro r w' ⟨rfl, rfl⟩) | (go_at_call 44; refine (isNumber_is _ true H2.out _).mono ?_; rintro r w' ⟨rfl, rfl⟩) | (go_at_call 37; refine (get_any b l _ _ H.out).mono ?_; rw [G.out]; rintro r w' ⟨rfl, rfl⟩))
  go_ret
  exact ⟨rfl, rfl⟩

set_option maxRecDepth 100000 in
set_option maxHeartbeats 800000 in
theorem tick_ok (b : Nat) (l : List Int) (s : Bool) (g : Option Nat) (cap t : Nat) (n : Int) (w : World) (h : Rep w b l s g cap) (hc : Canon l) (ht : t < 256) (h2 : okM n = true) (h0 : 0 ≤ nth l t) (hf : nth l t < n) :
    Calls Tryz.prog 103 #[.pointer (some ⟨b, 0, none⟩), .int .i64 (t : Int), .int .i64 n] w fun r w' => r = .returned (.int .i64 0) ∧ Putted w b l s g t (nth l t + 1) w' := by
  have H := hide h
  have HC := hide hc
  have H1 : Hid (okT (t : Int) = true) := by show _ = _; rw [okT_iff]; omega
  have H2 := hide (okM_okN n h2)
  have h3 : 1 ≤ n := by rw [okM_iff] at h2; omega
  have h4 : n ≤ 1048576 := by rw [okM_iff] at h2; omega
  have G : Hid (gt l (t : Int) = nth l t) := gt_nat l t
  clear h h2 hc
  go_enter Tryz.func103, Tryz.ntmps103
  go_wp2_with (first | (go_at_call 43; refine (isTid_is _ true H1.out _).mono ?_; rintro r w' ⟨rfl, rfl⟩) | (go_at_call 44; refine (isNumber_is _ true H2.out _).mono ?_; rintro r w' ⟨rfl, rfl⟩) | (go_at_call 37; refine (get_any b l _ _ H.out.ck).mono ?_; rw [G.out]; rintro r w' ⟨rfl, rfl⟩) | (go_at_call 45; refine (put_any b l s g cap t (nth l t + 1) _ H.out HC.out ht).mono ?_))
  rintro r w1 ⟨rfl, hp⟩
  have HP := hide hp
  clear hp
  go_wp2
  go_ret
  exact ⟨rfl, HP.out⟩

set_option maxHeartbeats 400000 in
theorem new_any (w : World) :
    Calls Tryz.prog 42 #[] w fun r w' => r = .returned (.pointer (some ⟨w.heap.size, 0, none⟩)) ∧ w' = w.alloc (.cells #[.slice none 0 0, .bool false] 80) := by
  go_enter Tryz.func42, Tryz.ntmps42
  go_wp2
  go_ret
  exact ⟨rfl, rfl⟩
theorem new_rep (w : World) : Rep (w.alloc (.cells #[.slice none 0 0, .bool false] 80)) w.heap.size [] false none 0 :=
  ⟨heap_new _ _, by simp, Nat.le_refl _, Nat.zero_le _, fun q => by simp at q, fun _ => rfl, fun x hx => by simp at hx⟩

set_option maxHeartbeats 400000 in
theorem copy_nil (w : World) :
    Calls Tryz.prog 20 #[.pointer none] w fun r w' => r = .returned (.pointer (some ⟨w.heap.size, 0, none⟩)) ∧ w' = w.alloc (.cells #[.slice none 0 0, .bool false] 80) := by
  go_enter Tryz.func20, Tryz.ntmps20
  go_wp2_with (go_at_call 42; refine (new_any _).mono ?_; rintro r w' ⟨rfl, rfl⟩)
  go_ret
  exact ⟨rfl, rfl⟩

set_option maxHeartbeats 800000 in
theorem copy_any (b : Nat) (l : List Int) (s : Bool) (g : Option Nat) (cap : Nat) (w : World) (h : Rep w b l s g cap) :
    Calls Tryz.prog 20 #[.pointer (some ⟨b, 0, none⟩)] w fun r w' => r = .returned (.pointer (some ⟨w.heap.size, 0, none⟩)) ∧
      w' = ((w.setCell ⟨b, 0, none⟩ (.slice (g.map fun g => ⟨g, 0, none⟩) l.length l.length)).setCell ⟨b, 1, none⟩ (.bool true)).alloc (.cells #[.slice (g.map fun g => ⟨g, 0, none⟩) l.length l.length, .bool true] 80) := by
  have c0 := cell_of h.head 0
  have c1 := cell_of h.head 1
  have f0 := frozen_of h.head 0
  have f1 := frozen_of h.head 1
  have hb := h.lt
  have hl := h.len
  have hle := h.le
  have hmx := h.mx
  unfold maxLen at hmx
  simp at c0 c1
  clear h
  cases g with
  | none =>
    simp only [Option.map_none] at c0 ⊢
    go_enter Tryz.func20, Tryz.ntmps20
    go_wp2
    go_ret
    exact ⟨rfl, rfl⟩
  | some x =>
    simp only [Option.map_some] at c0 ⊢
    go_enter Tryz.func20, Tryz.ntmps20
    go_wp2
    go_ret
    exact ⟨rfl, rfl⟩

/-- what a copy leaves: both clocks share the numbers, and neither has room beyond them -/
theorem copy_reps {b : Nat} {l : List Int} {s : Bool} {g : Option Nat} {cap : Nat} {w : World} (h : Rep w b l s g cap) {W : World}
    (hW : W = ((w.setCell ⟨b, 0, none⟩ (.slice (g.map fun g => ⟨g, 0, none⟩) l.length l.length)).setCell ⟨b, 1, none⟩ (.bool true)).alloc (.cells #[.slice (g.map fun g => ⟨g, 0, none⟩) l.length l.length, .bool true] 80)) :
    Rep W b l true g l.length ∧ Rep W w.heap.size l true g l.length ∧ Fr (fun k => k = b) w W ∧ W.heap.size = w.heap.size + 1 := by
  subst hW
  have hb := h.lt
  have hsz := size2 w b (.slice (g.map fun g => ⟨g, 0, none⟩) l.length l.length) (.bool true)
  have hle := h.le
  have hmx := h.mx
  have hold : ∀ x, g = some x → x ≠ b ∧ ∃ cur, (((w.setCell ⟨b, 0, none⟩ (.slice (g.map fun g => ⟨g, 0, none⟩) l.length l.length)).setCell ⟨b, 1, none⟩ (.bool true)).alloc (.cells #[.slice (g.map fun g => ⟨g, 0, none⟩) l.length l.length, .bool true] 80)).heap[x]? = some (.cells cur 3 (0, 0)) ∧ l.length ≤ cur.size ∧ ∀ k, k < l.length → cur[k]? = some (.int .i64 (nth l k)) := by
    intro x hx
    obtain ⟨hne, cur, hc, hcs, hcd⟩ := h.data x hx
    have hxl := h.glt hx
    exact ⟨hne, cur, (Below.heap_alloc _ _ _ (by omega)).trans ((other2 _ _ _ _ _ hne).trans hc), by omega, hcd⟩
  refine ⟨⟨?_, h.len, Nat.le_refl _, by omega, fun _ => rfl, fun q => ?_, hold⟩, ⟨?_, h.len, Nat.le_refl _, by omega, fun _ => rfl, fun q => ?_, fun x hx => ⟨?_, (hold x hx).2⟩⟩, ?_, ?_⟩
  · rw [Below.heap_alloc _ _ _ (by omega), head2 h.head]
  · have := h.nil q; omega
  · have := heap_new ((w.setCell ⟨b, 0, none⟩ (.slice (g.map fun g => ⟨g, 0, none⟩) l.length l.length)).setCell ⟨b, 1, none⟩ (.bool true)) (.cells #[.slice (g.map fun g => ⟨g, 0, none⟩) l.length l.length, .bool true] 80)
    rw [hsz] at this
    exact this
  · have := h.nil q; omega
  · have := h.glt hx; omega
  · have f0 : Fr (fun k => k = b) w w := Fr.refl _ _
    have f1 := f0.setCell (p := ⟨b, 0, none⟩) (.inl rfl) (.slice (g.map fun g => ⟨g, 0, none⟩) l.length l.length)
    have f2 := f1.setCell (p := ⟨b, 1, none⟩) (.inl rfl) (.bool true)
    exact f2.alloc _
  · simp [hsz]

end Ck
end Go.Proofs.YtakbbhngcdccpaaGreat
