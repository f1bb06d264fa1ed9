/- Package sheet: Encode, over this seat's program. -/
import Derived.Test.YtgnhophlnbpcgaaHd
namespace Go.Proofs.Ytgnhophlnbpcgaa
open Go.ChangeShapes Go.WideShapes Go.ChangeAt Go.RowKit
namespace Sh
open De Ba Re

/-- an operation's, a program's, all programs' bytes -/
def eop (o : OpD) : List Nat := De.pls (nums o)
def epr (p : List OpD) : List Nat := spl p.length ++ p.flatMap eop
def eps (ps : List (List OpD)) : List Nat := ps.flatMap epr
/-- a script's bytes -/
def sen (s : Sc) : List Nat := De.pls [s.T, s.M, (s.ps.length : Int)] ++ eps s.ps ++ plist (mv 1 s.pl) ++ plist s.dr
theorem sen_is {T M : Int} {ps : List (List OpD)} {pl dr : List Int} {L0 : List Nat} (h : De.pls [T, M, (ps.length : Int)] = L0) : sen ⟨T, M, ps, pl, dr⟩ = L0 ++ eps ps ++ plist (mv 1 pl) ++ plist dr := by
  subst h
  rfl
theorem flat_len_le {α : Type} (f : α → List Nat) (m : Nat) (l : List α) (h : ∀ x ∈ l, (f x).length ≤ m) : (l.flatMap f).length ≤ m * l.length := by
  induction l with
  | nil => simp
  | cons x t ih =>
    have h1 := h x (by simp)
    have h2 := ih fun y hy => h y (by simp [hy])
    rw [List.flatMap_cons, List.length_append, List.length_cons, Nat.mul_add, Nat.mul_one]
    omega
theorem flat_take {α : Type} (f : α → List Nat) (l : List α) (k : Nat) (x : α) (h : l[k]? = some x) : (l.take (k + 1)).flatMap f = (l.take k).flatMap f ++ f x := by
  rw [List.take_add_one, h, List.flatMap_append]
  simp
theorem schk_zero {s : Sc} (h : schk s = 0) : (1 ≤ s.T ∧ s.T ≤ 256) ∧ (1 ≤ s.M ∧ s.M ≤ 1048576) ∧ (∀ q ∈ s.ps, q.length ≤ 32) ∧ s.ps.length ≤ 8 ∧ s.pl.length ≤ 200 ∧ s.dr.length ≤ 64 ∧ 0 < s.ps.length ∧ ari s.ps.length s.ps = true ∧ ab (-1) 1000 s.pl = true ∧ ab 0 1000 s.dr = true := by
  unfold schk at h
  cases e1 : ((decide (1 ≤ s.T) && decide (s.T ≤ 256)) && (decide (1 ≤ s.M) && decide (s.M ≤ 1048576)))
  · rw [e1] at h; simp at h
  cases e2 : isl s.ps s.pl.length s.dr.length
  rotate_left
  · rw [e1, e2] at h; simp at h
  cases e3 : (!decide (s.ps.length = 0) && ari s.ps.length s.ps)
  · rw [e1, e2, e3] at h; simp at h
  cases e4 : (ab (-1) 1000 s.pl && ab 0 1000 s.dr)
  · rw [e1, e2, e3, e4] at h; simp at h
  rw [Bool.and_eq_true, Bool.and_eq_true, Bool.and_eq_true] at e1
  rw [Bool.and_eq_true] at e3 e4
  rw [isl, Bool.or_eq_false_iff, Bool.or_eq_false_iff, Bool.or_eq_false_iff, List.any_eq_false] at e2
  obtain ⟨⟨a1, a2⟩, a3, a4⟩ := e1
  obtain ⟨b1, ⟨b2, b3⟩, b4⟩ := e2
  obtain ⟨c1, c2⟩ := e3
  simp at a1 a2 a3 a4 b2 b3 b4 c1
  exact ⟨⟨a1, a2⟩, ⟨a3, a4⟩, fun q hq => by have := b1 q hq; simp at this; exact this, b2, b3, b4, by
    cases hps : s.ps with
    | nil => rw [hps] at c1; simp at c1
    | cons x t => simp, c2, e4.1, e4.2⟩

set_option maxRecDepth 100000 in
set_option maxHeartbeats 3200000 in
theorem sencode_no (T M : Int) (ps : List (List OpD)) (pl dr : List Int) (pa la da : Option Addr) (pc lc dc : Nat) (w : World) (hS : SAt w ⟨T, M, ps, pl, dr⟩ pa la da) (x : Int) (hx : schk ⟨T, M, ps, pl, dr⟩ = x) (h0 : (x != 0) = true) :
    Calls Try.prog 15 #[.agg #[.int .i64 T, .int .i64 M, .slice pa ps.length pc, .slice la pl.length lc, .slice da dr.length dc]] w fun r w' => r = .returned (.tuple #[.string (bs []), .int .i64 x]) ∧ Below w.heap.size w w' := by
  have S0 := hide (hS.below (below_alloc w (.cells #[.int .i64 T, .int .i64 M, .slice pa ps.length pc, .slice la pl.length lc, .slice da dr.length dc] 38)))
  have B0 := hide (below_alloc w (.cells #[.int .i64 T, .int .i64 M, .slice pa ps.length pc, .slice la pl.length lc, .slice da dr.length dc] 38))
  have HX := hide hx
  clear hS hx
  go_enter Try.func15, Try.ntmps15
  go_wp2_with fail
  refine (scheck_any T M ps pl dr pa la da pc lc dc _ S0.out).mono ?_
  rw [HX.out]
  rintro r w1 ⟨rfl, b1⟩
  have B1 := hide (btr B0.out b1)
  clear b1
  go_wp2_with fail
  go_ret2
  exact ⟨rfl, B1.out⟩

/-- what the making of a script's bytes keeps: the script, boxed; the builder, and what it holds -/
structure ES (w wr : World) (b : Nat) (v0 v1 v2 v3 v4 : Value) (L : List Nat) : Prop where
  hd : wr.heap[w.heap.size]? = some (.cells #[v0, v1, v2, v3, v4] 38 (0, 0))
  bl : BL wr b (bs L)
  bel : Below w.heap.size w wr
  lt : w.heap.size < b ∧ b < wr.heap.size
theorem ES.below {w wr wr' : World} {b : Nat} {v0 v1 v2 v3 v4 : Value} {L : List Nat} (h : ES w wr b v0 v1 v2 v3 v4 L) (hb : Below wr.heap.size wr wr') : ES w wr' b v0 v1 v2 v3 v4 L :=
  ⟨heap_below h.hd hb, h.bl.below hb, btr h.bel hb, h.lt.1, Nat.lt_of_lt_of_le h.lt.2 hb.size⟩
theorem ES.bk {w wr wr' : World} {b : Nat} {v0 v1 v2 v3 v4 : Value} {L L' : List Nat} (h : ES w wr b v0 v1 v2 v3 v4 L) (k : BK b wr wr') (hl : BL wr' b (bs L')) : ES w wr' b v0 v1 v2 v3 v4 L' :=
  ⟨(k.bel.block _ h.lt.1).trans h.hd, hl, h.bel.trans (k.bel.mono (Nat.le_of_lt h.lt.1)), h.lt.1, Nat.lt_of_lt_of_le h.lt.2 k.bel.size⟩
theorem eop_len (o : OpD) (h : o.cases.length ≤ 4) : (eop o).length ≤ 700 := by
  have h1 := De.pls_len (nums o)
  have h2 := nums_len o h
  unfold eop
  omega
theorem ari_mem {n : Int} {ps : List (List OpD)} (h : ari n ps = true) {q : List OpD} (hq : q ∈ ps) {o : OpD} (ho : o ∈ q) : chk o n = 0 := by
  obtain ⟨k, hk⟩ := List.mem_iff_getElem?.1 hq
  obtain ⟨j, hj⟩ := List.mem_iff_getElem?.1 ho
  exact ari_of h hk hj
theorem ops_len {n : Int} {ps : List (List OpD)} (h : ari n ps = true) {q : List OpD} (hq : q ∈ ps) (h32 : q.length ≤ 32) (j : Nat) : ((q.take j).flatMap eop).length ≤ 22400 := by
  have := flat_len_le eop 700 (q.take j) fun o ho => eop_len o (chk_zero (ari_mem h hq (List.mem_of_mem_take ho))).2.2.1
  have h2 : (q.take j).length ≤ 32 := by rw [List.length_take]; omega
  omega
theorem eps_len {n : Int} {ps : List (List OpD)} (h : ari n ps = true) (h32 : ∀ q ∈ ps, q.length ≤ 32) (h8 : ps.length ≤ 8) (k : Nat) : (eps (ps.take k)).length ≤ 180000 := by
  have := flat_len_le epr 22407 (ps.take k) fun q hq => by
    have h1 := ops_len h (List.mem_of_mem_take hq) (h32 q (List.mem_of_mem_take hq)) q.length
    rw [List.take_length] at h1
    have h2 := (spl_len q.length).2
    rw [epr, List.length_append]
    omega
  have h2 : (ps.take k).length ≤ 8 := by rw [List.length_take]; omega
  show ((ps.take k).flatMap epr).length ≤ _
  omega
theorem plist_len (l : List Int) (n : Nat) (h : l.length ≤ n) : (plist l).length ≤ 7 + 7 * n := by
  have h1 := Re.pls_len l
  have h2 := (spl_len l.length).2
  rw [plist, List.length_append]
  omega
theorem ab_okR {lo hi : Int} {l : List Int} (h : ab lo hi l = true) (h0 : 0 ≤ lo) (h1 : hi ≤ 1099511627776) : l.all okR = true := by
  rw [List.all_eq_true]
  intro x hx
  have := (ab_iff lo hi l).1 h x hx
  rw [okR_iff]
  omega
theorem mv_okR {l : List Int} (h : ab (-1) 1000 l = true) : (mv 1 l).all okR = true := by
  rw [List.all_eq_true]
  intro x hx
  rw [mv, List.mem_map] at hx
  obtain ⟨y, hy, rfl⟩ := hx
  have := (ab_iff (-1) 1000 l).1 h y hy
  rw [okR_iff]
  omega

set_option maxRecDepth 100000 in
set_option maxHeartbeats 3200000 in
theorem sencode_ok (T M : Int) (ps : List (List OpD)) (pl dr : List Int) (pa la da : Option Addr) (pc lc dc : Nat) (w : World) (hS : SAt w ⟨T, M, ps, pl, dr⟩ pa la da) (hx : schk ⟨T, M, ps, pl, dr⟩ = 0) :
    Calls Try.prog 15 #[.agg #[.int .i64 T, .int .i64 M, .slice pa ps.length pc, .slice la pl.length lc, .slice da dr.length dc]] w fun r w' => r = .returned (.tuple #[.string (bs (sen ⟨T, M, ps, pl, dr⟩)), .int .i64 0]) ∧ Below w.heap.size w w' := by
  obtain ⟨t12, m12, h32, h8, h200, h64, h0, har, hap, had⟩ := schk_zero hx
  simp only at t12 m12 h32 h8 h200 h64 h0 har hap had
  have S0 := hide (hS.below (below_alloc w (.cells #[.int .i64 T, .int .i64 M, .slice pa ps.length pc, .slice la pl.length lc, .slice da dr.length dc] 38)))
  have B0 := hide (below_alloc w (.cells #[.int .i64 T, .int .i64 M, .slice pa ps.length pc, .slice la pl.length lc, .slice da dr.length dc] 38))
  have H0 := hide (heap_new w (.cells #[.int .i64 T, .int .i64 M, .slice pa ps.length pc, .slice la pl.length lc, .slice da dr.length dc] 38))
  have HX := hide hx
  have HS := hide hS
  have H32 := hide h32
  have HAR := hide har
  have HAP := hide hap
  have HAD := hide had
  clear hS hx h32 har hap had
  go_enter Try.func15, Try.ntmps15
  go_wp2_with fail
  refine (scheck_any T M ps pl dr pa la da pc lc dc _ S0.out).mono ?_
  rw [HX.out]
  rintro r w1 ⟨rfl, b1⟩
  have s1 := b1.size
  rw [World.size_alloc] at s1
  have B1 := hide (btr (btr B0.out b1) (below_alloc w1 (.cells #[.pointer none, .slice none 0 0] 73)))
  have H1 := hide (heap_below (heap_below H0.out b1) (below_alloc w1 (.cells #[.pointer none, .slice none 0 0] 73)))
  have S1 := hide ((S0.out.below b1).below (below_alloc w1 (.cells #[.pointer none, .slice none 0 0] 73)))
  have L1 : Hid (BL (w1.alloc (.cells #[.pointer none, .slice none 0 0] 73)) w1.heap.size (bs [])) := by
    refine .inl ⟨Nat.le_refl _, .slice none 0 0, heap_new _ _, ?_, by simp [Value.ownBlock]⟩
    exact World.ownsRowF_nil _ _ _ _
  obtain ⟨x0, x1, x2, x3, x4⟩ := sc_cells H1.out
  clear b1
  go_wp2_with fail
  have E1 : Hid (ES w (w1.alloc (.cells #[.pointer none, .slice none 0 0] 73)) w1.heap.size (.int .i64 T) (.int .i64 M) (.slice pa ps.length pc) (.slice la pl.length lc) (.slice da dr.length dc) []) :=
    ⟨H1.out, L1.out, B1.out, by omega, by simp⟩
  have SW : Hid (SAt w ⟨T, M, ps, pl, dr⟩ pa la da) := HS.out
  clear S0 S1 B0 H0 H1 L1 B1 x0 x1 x2 x3 x4
  have G2 := heap_new (w1.alloc (.cells #[.pointer none, .slice none 0 0] 73)) (.cells #[.int .i64 T, .int .i64 M, .int .i64 (ps.length : Int)] 3)
  rw [World.size_alloc] at G2
  have HG2 := hide G2
  clear G2
  generalize w1.heap.size = b at E1 HG2 ⊢
  generalize w1.alloc (.cells #[.pointer none, .slice none 0 0] 73) = W1 at E1 HG2 ⊢
  have E2 := hide (E1.out.below (below_alloc W1 (.cells #[.int .i64 T, .int .i64 M, .int .i64 (ps.length : Int)] 3)))
  have hbW := E1.out.lt
  refine (putNumbers_any b [] (b + 1) [T, M, (ps.length : Int)] 3 _ E2.out.bl E2.out.lt.2 HG2.out (by omega) (Nat.le_refl 3) (by
    intro k hk
    match k, hk with
    | 0, _ => show 0 ≤ T ∧ T ≤ _; omega
    | 1, _ => show 0 ≤ M ∧ M ≤ _; omega
    | 2, _ => show 0 ≤ (ps.length : Int) ∧ (ps.length : Int) ≤ _; omega) (by decide)).mono ?_
  rintro r w3 ⟨rfl, h3, k3⟩
  rw [List.nil_append] at h3
  have E3 := hide (E2.out.bk k3 h3)
  have hL0 := De.pls_len [T, M, (ps.length : Int)]
  obtain ⟨L0, hL⟩ : ∃ L0, De.pls [T, M, (ps.length : Int)] = L0 := ⟨_, rfl⟩
  rw [hL] at E3 hL0
  have HL := hide hL
  simp only [List.length_cons, List.length_nil] at hL0
  obtain ⟨x0, x1, x2, x3, x4⟩ := sc_cells E3.out.hd
  clear h3 k3 E1 E2 hL
  go_wp2_with fail
  go_loopw [29] (fun i wr => ∃ k : Nat, k ≤ ps.length ∧ i = .int .i64 k ∧ ES w wr b (.int .i64 T) (.int .i64 M) (.slice pa ps.length pc) (.slice la pl.length lc) (.slice da dr.length dc) (L0 ++ eps (ps.take k))) (fun i _ => ps.length - (intOf i).toNat)
  case atStart => exact ⟨0, Nat.zero_le _, rfl, by
    rw [List.take_zero, show eps [] = [] from rfl, List.append_nil]
    exact E3.out⟩
  case round =>
    clear E3 x0 x1 x2 x3 x4 hbW
    rename World => w0
    obtain ⟨k, hk, rfl, e4⟩ := hrel
    have E4 := hide e4
    have el := eps_len HAR.out H32.out h8 k
    clear e4
    by_cases hlt : k < ps.length
    · have hlt' : (k : Int) < (ps.length : Int) := by omega
      obtain ⟨q, hq⟩ : ∃ q, ps[k]? = some q := ⟨ps[k], by simp [hlt]⟩
      obtain ⟨pb, off, qa, qc, hpa, hcw, hO, -⟩ := SW.out.ps k q hq
      have hc := cellB hcw E4.out.bel
      subst hpa
      have hqm := List.mem_of_getElem? hq
      have h32q := H32.out q hqm
      have HQ := hide hq
      have HQM := hide hqm
      have HO := hide hO
      clear hq hqm hO hcw
      have E5 := hide (E4.out.below (below_alloc w0 (.cells #[.int .i64 (q.length : Int)] 3)))
      have hbW := E4.out.lt
      go_wp2_with fail
      refine (putNumbers_any b _ w0.heap.size [(q.length : Int)] 1 _ E5.out.bl E5.out.lt.2 (heap_new w0 (.cells #[.int .i64 (q.length : Int)] 3)) (by omega) (show 1 ≤ 3 by decide) (by
        intro k hk
        match k, hk with
        | 0, _ => show 0 ≤ (q.length : Int) ∧ (q.length : Int) ≤ _; omega) (by rw [List.length_append]; omega)).mono ?_
      rintro r w6 ⟨rfl, h6, k6⟩
      have E6 := hide (E5.out.bk k6 h6)
      have hsq : De.pls [(q.length : Int)] = spl q.length := by simp [De.pls]
      rw [hsq] at E6
      have hsl := (spl_len q.length).2
      have EP := hide (show eps (ps.take (k + 1)) = eps (ps.take k) ++ epr q from Sh.flat_take epr ps k q HQ.out)
      obtain ⟨L1, hL1⟩ : ∃ L1, L0 ++ eps (ps.take k) ++ spl q.length = L1 := ⟨_, rfl⟩
      have l1 : L1.length ≤ 200000 := by
        rw [← hL1, List.length_append, List.length_append]
        omega
      rw [hL1] at E6
      have HL1 := hide hL1
      clear h6 k6 E5 hsq E4 hL1 hc
      go_wp2_with fail
      go_loopw [39] (fun i wr => ∃ j : Nat, j ≤ q.length ∧ i = .int .i64 j ∧ ES w wr b (.int .i64 T) (.int .i64 M) (.slice (some ⟨pb, off, none⟩) ps.length pc) (.slice la pl.length lc) (.slice da dr.length dc) (L1 ++ (q.take j).flatMap eop)) (fun i _ => q.length - (intOf i).toNat)
      case atStart => exact ⟨0, Nat.zero_le _, rfl, by
        rw [List.take_zero, List.flatMap_nil, List.append_nil]
        exact E6.out⟩
      case round =>
        clear E6
        obtain ⟨j, hj, rfl, e7⟩ := hrel
        have E7 := hide e7
        have ol := ops_len HAR.out HQM.out h32q j
        clear e7
        by_cases hjl : j < q.length
        · have hjl' : (j : Int) < (q.length : Int) := by omega
          obtain ⟨o, ho⟩ : ∃ o, q[j]? = some o := ⟨q[j], by simp [hjl]⟩
          obtain ⟨b', off', ca, cc, rfl, ⟨y0, y1, y2, y3, y4⟩, hC, hM⟩ := (HO.out.below E7.out.bel) j o ho
          have hz := ari_of HAR.out HQ.out ho
          have hz4 := (chk_zero hz).2.2.1
          have eo := eop_len o hz4
          have OP := hide (Sh.flat_take eop q j o ho)
          have HZ := hide hz
          have E8 := hide (E7.out.below (below_alloc wr (.cells #[.int .i64 o.kind, .int .i64 o.a, .int .i64 o.b, .slice ca o.cases.length cc, .bool o.def_] 24)))
          have C8 := hide (hC.below (below_alloc wr (.cells #[.int .i64 o.kind, .int .i64 o.a, .int .i64 o.b, .slice ca o.cases.length cc, .bool o.def_] 24)))
          obtain ⟨x0, x1, x2, x3, x4⟩ := sc_cells E8.out.hd
          clear ho hC hM hz
          go_wp2_with fail
          refine (encode_ok o ca cc _ _ C8.out hz4 HZ.out (nums_ok HZ.out)).mono ?_
          rintro r w9 ⟨rfl, b9⟩
          have E9 := hide (E8.out.below b9)
          clear b9
          go_wp2_with fail
          refine (write_bs b _ (eop o) _ E9.out.bl (by rw [List.length_append]; omega) E9.out.lt.2).mono ?_
          rintro r wA ⟨⟨m, rfl⟩, hA, kA⟩
          have EA := hide (E9.out.bk kA hA)
          clear hA kA
          go_wp2_with fail
          go_roundw
          case rel => exact ⟨j + 1, by omega, by go_num, by
            rw [OP.out, ← List.append_assoc]
            exact EA.out⟩
          case measure => simp [intOf]; omega
        · have hjl' : ¬ ((j : Int) < (q.length : Int)) := by omega
          go_wp2_with fail
          go_roundw
          case rel => exact ⟨k + 1, by omega, by go_num, by
            have := E7.out
            rw [List.take_of_length_le (by omega)] at this
            rw [EP.out, epr, ← List.append_assoc, ← List.append_assoc, HL1.out]
            exact this⟩
          case measure => simp [intOf]; omega
    · have hlt' : ¬ ((k : Int) < (ps.length : Int)) := by omega
      have E5 := E4.out
      rw [List.take_of_length_le (by omega)] at E5
      rw [List.take_of_length_le (by omega)] at el
      have E6 := hide E5
      obtain ⟨x0, x1, x2, x3, x4⟩ := sc_cells E6.out.hd
      have AP := hide (SW.out.pl.below E6.out.bel)
      have pv := plist_len (mv 1 pl) 200 (by rw [mv_len]; exact h200)
      clear E4 E5
      go_wp2_with fail
      refine (moved_any la pl lc 1 _ AP.out (by omega) (by decide) (fun j hj => by have := ab_nth.1 HAP.out j hj; omega)).mono ?_
      rintro r w7 ⟨rfl, a7, b7⟩
      have E7 := hide (E6.out.below b7)
      have A7 := hide a7
      clear a7 b7
      go_wp2_with fail
      rw [← mv_len 1 pl]
      refine (putList_any b _ _ (mv 1 pl) _ _ E7.out.bl E7.out.lt.2 A7.out (by rw [mv_len]; omega) (mv_okR HAP.out) (by rw [List.length_append]; omega)).mono ?_
      rintro r w8 ⟨rfl, h8', k8⟩
      have E8 := hide (E7.out.bk k8 h8')
      obtain ⟨y0, y1, y2, y3, y4⟩ := sc_cells E8.out.hd
      have AD := hide (SW.out.dr.below E8.out.bel)
      clear h8' k8
      go_wp2_with fail
      refine (putList_any b _ da dr dc _ E8.out.bl E8.out.lt.2 AD.out (by omega) (ab_okR HAD.out (by decide) (by decide)) (by rw [List.length_append, List.length_append]; omega)).mono ?_
      rintro r w9 ⟨rfl, h9, k9⟩
      have E9 := hide (E8.out.bk k9 h9)
      clear h9 k9
      go_wp2_with fail
      refine (string_any b _ _ E9.out.bl (Nat.le_of_lt E9.out.lt.2)).mono ?_
      rintro r wA ⟨rfl, kA⟩
      have BA := hide (E9.out.bel.trans (kA.bel.mono (Nat.le_of_lt E9.out.lt.1)))
      clear kA
      go_wp2_with fail
      go_ret2
      exact ⟨by rw [sen_is HL.out, List.append_assoc, List.append_assoc]; rfl, BA.out⟩
end Sh
end Go.Proofs.Ytgnhophlnbpcgaa
