/- Scripts, there and back (plain). -/
import Derived.Test.YtkcbokhkmcmpdaaGreatZjLoom10
import Derived.Test.YtkcbokhkmcmpdaaGreatHo
namespace Go.Proofs.YtkcbokhkmcmpdaaGreat
open Go.ChangeShapes Go.WideShapes Go.ChangeAt Go.RowKit
namespace Sh
open De Ba Re

theorem drop_flat {α : Type} (f : α → List Nat) (l : List α) (R : List Nat) (j : Nat) : (l.flatMap f ++ R).drop ((l.take j).flatMap f).length = (l.drop j).flatMap f ++ R := by
  have e : l.flatMap f = (l.take j).flatMap f ++ (l.drop j).flatMap f := by rw [← List.flatMap_append, List.take_append_drop]
  rw [e, List.append_assoc, List.drop_left]
theorem drop_of {L A R : List Nat} {z : Nat} (h : L.drop z = A ++ R) : L.drop (z + A.length) = R := by
  rw [← List.drop_drop, h, List.drop_left]

theorem dop_enc {p : Int} {o : OpD} (hc : chk o p = 0) (S : ByteArray) (R : List Nat) (h : nbs S = eop o ++ R) : dop p S = some (o, (eop o).length) := by
  obtain ⟨r, hr, _⟩ := rop_enc hc S R h
  simp [dop, hr, hc]
theorem rops_enc {p : Int} {q : List OpD} (hc : ∀ o ∈ q, chk o p = 0) (s : ByteArray) (z : Nat) (R : List Nat) (h : (nbs s).drop z = q.flatMap eop ++ R) :
    ∀ j, j ≤ q.length → rops p s z j = some (q.take j, z + ((q.take j).flatMap eop).length) := by
  intro j
  induction j with
  | zero => intro _; simp [rops]
  | succ j ih =>
    intro hj
    have hj' : j < q.length := by omega
    have h0 := ih (by omega)
    have hd : dop p (s.extract (z + ((q.take j).flatMap eop).length) s.size) = some (q[j], (eop q[j]).length) := by
      refine dop_enc (hc _ (List.getElem_mem hj')) _ ((q.drop (j + 1)).flatMap eop ++ R) ?_
      rw [nbs_sfx, ← List.drop_drop, h, drop_flat, List.drop_eq_getElem_cons hj', List.flatMap_cons, List.append_assoc]
    have e2 : q.take (j + 1) = q.take j ++ [q[j]] := (List.take_append_getElem hj').symm
    simp only [rops, h0, hd]
    rw [e2, List.flatMap_append, List.length_append]
    simp [Nat.add_assoc]
theorem rprog_enc {p : Int} {q : List OpD} (hc : ∀ o ∈ q, chk o p = 0) (hl : q.length ≤ 32) (s : ByteArray) (z : Nat) (R : List Nat) (h : (nbs s).drop z = epr q ++ R) : rprog p s z = some (q, z + (epr q).length) := by
  have h' : (nbs s).drop z = spl q.length ++ (q.flatMap eop ++ R) := by rw [h, epr, List.append_assoc]
  have ht := Re.tk_spl q.length (q.flatMap eop ++ R) (by omega)
  have hu : up1 32 ((nbs s).drop z) = some (q.length, (spl q.length).length) := by
    rw [h', up1, ht]
    simp only
    rw [if_pos (by omega)]
  have hr := rops_enc hc s (z + (spl q.length).length) R (drop_of h') q.length (Nat.le_refl _)
  rw [List.take_length] at hr
  simp only [rprog, hu, hr]
  simp [epr, Nat.add_assoc]
theorem rprogs_enc {p : Int} {ps : List (List OpD)} (hc : ∀ q ∈ ps, ∀ o ∈ q, chk o p = 0) (hl : ∀ q ∈ ps, q.length ≤ 32) (s : ByteArray) (z : Nat) (R : List Nat) (h : (nbs s).drop z = eps ps ++ R) :
    ∀ j, j ≤ ps.length → rprogs p s z j = some (ps.take j, z + (eps (ps.take j)).length) := by
  intro j
  induction j with
  | zero => intro _; simp [rprogs, eps]
  | succ j ih =>
    intro hj
    have hj' : j < ps.length := by omega
    have h0 := ih (by omega)
    have hd : rprog p s (z + (eps (ps.take j)).length) = some (ps[j], z + (eps (ps.take j)).length + (epr ps[j]).length) := by
      refine rprog_enc (hc _ (List.getElem_mem hj')) (hl _ (List.getElem_mem hj')) _ _ (eps (ps.drop (j + 1)) ++ R) ?_
      rw [← List.drop_drop, h, eps, eps, drop_flat, List.drop_eq_getElem_cons hj', List.flatMap_cons, List.append_assoc]
      rfl
    have e2 : ps.take (j + 1) = ps.take j ++ [ps[j]] := (List.take_append_getElem hj').symm
    have e3 : (eps (ps.take (j + 1))).length = (eps (ps.take j)).length + (epr ps[j]).length := by
      rw [e2, eps, List.flatMap_append, List.length_append]
      simp [eps]
    rw [rprogs_next h0 hd, e3, ← e2, Nat.add_assoc]
theorem tl_most {L : List Nat} {m m' : Int} {x : List Int × Nat} (h : tl L m = .ok x) (hm : m ≤ m') : tl L m' = .ok x := by
  unfold tl at h ⊢
  cases ht : tk L with
  | none => rw [ht] at h; simp at h
  | some y =>
    obtain ⟨n, k⟩ := y
    rw [ht] at h
    simp only at h ⊢
    by_cases hn : m < (n : Int)
    · rw [if_pos hn] at h; simp at h
    · rw [if_neg hn] at h
      rw [if_neg (by omega)]
      exact h
theorem mv_back (l : List Int) : mv (-1) (mv 1 l) = l := by
  simp only [mv, List.map_map]
  exact (List.map_congr_left (fun x _ => by simp; omega)).trans (List.map_id l)
theorem mv_there (l : List Int) : mv 1 (mv (-1) l) = l := by
  simp only [mv, List.map_map]
  exact (List.map_congr_left (fun x _ => by show x + -1 + 1 = x; omega)).trans (List.map_id l)

/-- what was encoded is decoded -/
theorem sdec_enc {s : Sc} (hs : schk s = 0) (b : ByteArray) (hb : nbs b = sen s) : sdec b = some s := by
  obtain ⟨T, M, ps, pl, dr⟩ := s
  obtain ⟨t12, m12, h32, h8, h200, h64, h0, har, hap, had⟩ := schk_zero hs
  simp only at t12 m12 h32 h8 h200 h64 h0 har hap had
  have e0 : nbs b = spl T.toNat ++ (spl M.toNat ++ (spl ps.length ++ (eps ps ++ (plist (mv 1 pl) ++ (plist dr ++ []))))) := by
    rw [hb]
    simp [sen, De.pls, List.append_assoc]
  have k0 : (nbs b).drop 0 = _ := e0
  have k1 := drop_of k0
  have k2 := drop_of k1
  have k3 := drop_of k2
  have k4 := drop_of k3
  have k5 := drop_of k4
  rw [Nat.zero_add] at k1 k2 k3 k4 k5
  have u1 : up1 256 (nbs b) = some (T.toNat, (spl T.toNat).length) := by
    rw [e0, up1, Re.tk_spl _ _ (by omega)]
    simp only
    rw [if_pos (by omega)]
  have u2 : up1 1048576 ((nbs b).drop (spl T.toNat).length) = some (M.toNat, (spl M.toNat).length) := by
    rw [k1, up1, Re.tk_spl _ _ (by omega)]
    simp only
    rw [if_pos (by omega)]
  have u3 : up1 8 ((nbs b).drop ((spl T.toNat).length + (spl M.toNat).length)) = some (ps.length, (spl ps.length).length) := by
    rw [k2, up1, Re.tk_spl _ _ (by omega)]
    simp only
    rw [if_pos (by omega)]
  have hh : shead b = some (T.toNat, M.toNat, ps.length, (spl T.toNat).length + (spl M.toNat).length + (spl ps.length).length) := by
    simp only [shead, u1, u2, u3]
  have hp := rprogs_enc (p := (ps.length : Int)) (fun q hq o ho => ari_mem har hq ho) h32 b _ _ k3 ps.length (Nat.le_refl _)
  rw [List.take_length] at hp
  have l1 := tl_most (m' := 200) (tl_plist (mv 1 pl) (plist dr ++ []) (by rw [mv_len]; omega) (mv_okR hap)) (by rw [mv_len]; omega)
  rw [← k4] at l1
  have l2 := tl_most (m' := 64) (tl_plist dr [] (by omega) (ab_okR had (by decide) (by decide))) (by omega)
  rw [← k5] at l2
  have hsz : (spl T.toNat).length + (spl M.toNat).length + (spl ps.length).length + (eps ps).length + (plist (mv 1 pl)).length + (plist dr).length = b.size := by
    rw [← nbs_length, e0]
    simp only [List.length_append, List.length_nil]
    omega
  rw [sdec_end hh hp l1 l2, mv_back, show ((T.toNat : Nat) : Int) = T by omega, show ((M.toNat : Nat) : Int) = M by omega, if_pos ⟨hsz, hs⟩]

theorem tk_cut {L : List Nat} {n k : Nat} (hL : ∀ b ∈ L, b < 256) (h : tk L = some (n, k)) : L = spl n ++ L.drop k := (Re.tk_put hL h).symm
theorem drop_lt {L : List Nat} (hL : ∀ b ∈ L, b < 256) (k : Nat) : ∀ b ∈ L.drop k, b < 256 := fun b hb => hL b (List.mem_of_mem_drop hb)
theorem up1_cut {m : Int} {L : List Nat} {n k : Nat} (hL : ∀ b ∈ L, b < 256) (h : up1 m L = some (n, k)) : L = spl n ++ L.drop k := by
  unfold up1 at h
  cases ht : tk L with
  | none => rw [ht] at h; simp at h
  | some y =>
    obtain ⟨n', k'⟩ := y
    rw [ht] at h
    simp only at h
    split at h
    · cases h; exact tk_cut hL ht
    · cases h
theorem dop_cut {p : Int} {S : ByteArray} {o : OpD} {k : Nat} (h : dop p S = some (o, k)) : nbs S = eop o ++ (nbs S).drop k := by
  unfold dop at h
  split at h
  · rename_i hc
    obtain ⟨h1, h2⟩ := hc
    generalize hr : rop S false = x at h h1 h2
    obtain ⟨o', R, f⟩ := x
    simp only at h h1 h2
    subst h1
    cases h
    have := rop_inv hr
    have e : nbs S = eop o ++ nbs R := this
    rw [e, List.drop_left]
  · cases h
theorem rops_cut {p : Int} {s : ByteArray} {z : Nat} : ∀ {n : Nat} {l : List OpD} {y : Nat}, rops p s z n = some (l, y) → (nbs s).drop z = l.flatMap eop ++ (nbs s).drop y ∧ l.length = n
  | 0, l, y, h => by
    simp [rops] at h
    obtain ⟨rfl, rfl⟩ := h
    simp
  | n + 1, l, y, h => by
    simp only [rops] at h
    cases hr : rops p s z n with
    | none => rw [hr] at h; cases h
    | some x =>
      obtain ⟨l', y'⟩ := x
      rw [hr] at h
      simp only at h
      cases hd : dop p (s.extract y' s.size) with
      | none => rw [hd] at h; cases h
      | some x =>
        obtain ⟨o, k⟩ := x
        rw [hd] at h
        cases h
        obtain ⟨h1, h2⟩ := rops_cut hr
        have h3 := dop_cut hd
        rw [nbs_sfx, List.drop_drop] at h3
        refine ⟨?_, by simp [h2]⟩
        rw [h1, h3, List.flatMap_append, List.append_assoc]
        simp
theorem rprog_cut {p : Int} {s : ByteArray} {z : Nat} {q : List OpD} {y : Nat} (h : rprog p s z = some (q, y)) : (nbs s).drop z = epr q ++ (nbs s).drop y := by
  unfold rprog at h
  cases hu : up1 32 ((nbs s).drop z) with
  | none => rw [hu] at h; cases h
  | some x =>
    obtain ⟨n, k⟩ := x
    rw [hu] at h
    simp only at h
    obtain ⟨h1, h2⟩ := rops_cut h
    have h3 := up1_cut (drop_lt (nbs_lt s) z) hu
    rw [List.drop_drop, h1] at h3
    rw [h3, epr, h2, List.append_assoc]
theorem rprogs_cut {p : Int} {s : ByteArray} {z : Nat} : ∀ {n : Nat} {l : List (List OpD)} {y : Nat}, rprogs p s z n = some (l, y) → (nbs s).drop z = eps l ++ (nbs s).drop y ∧ l.length = n
  | 0, l, y, h => by
    simp [rprogs] at h
    obtain ⟨rfl, rfl⟩ := h
    simp [eps]
  | n + 1, l, y, h => by
    simp only [rprogs] at h
    cases hr : rprogs p s z n with
    | none => rw [hr] at h; cases h
    | some x =>
      obtain ⟨l', y'⟩ := x
      rw [hr] at h
      simp only at h
      cases hd : rprog p s y' with
      | none => rw [hd] at h; cases h
      | some x =>
        obtain ⟨q, y2⟩ := x
        rw [hd] at h
        cases h
        obtain ⟨h1, h2⟩ := rprogs_cut hr
        have h3 := rprog_cut hd
        refine ⟨?_, by simp [h2]⟩
        rw [h1, h3]
        simp [eps]
theorem tst_cut {L : List Nat} (hL : ∀ b ∈ L, b < 256) : ∀ {i : Nat} {xs : List Int} {o : Nat}, tst L i = some (xs, o) → L = Re.pls xs ++ L.drop o ∧ xs.length = i
  | 0, xs, o, h => by
    simp [tst] at h
    obtain ⟨rfl, rfl⟩ := h
    simp [Re.pls]
  | i + 1, xs, o, h => by
    simp only [tst] at h
    cases hr : tst L i with
    | none => rw [hr] at h; cases h
    | some x =>
      obtain ⟨l', y'⟩ := x
      rw [hr] at h
      simp only at h
      cases hd : tk (L.drop y') with
      | none => rw [hd] at h; cases h
      | some x =>
        obtain ⟨n, k⟩ := x
        rw [hd] at h
        cases h
        obtain ⟨h1, h2⟩ := tst_cut hL hr
        have h3 := tk_cut (drop_lt hL y') hd
        rw [List.drop_drop] at h3
        refine ⟨?_, by simp [h2]⟩
        conv => lhs; rw [h1, h3]
        simp [Re.pls]
theorem tl_cut {L : List Nat} (hL : ∀ b ∈ L, b < 256) {m : Int} {xs : List Int} {k : Nat} (h : tl L m = .ok (xs, k)) : L = plist xs ++ L.drop k := by
  unfold tl at h
  cases ht : tk L with
  | none => rw [ht] at h; simp at h
  | some y =>
    obtain ⟨n, k1⟩ := y
    rw [ht] at h
    simp only at h
    split at h
    · cases h
    cases hs : tst (L.drop k1) n with
    | none => rw [hs] at h; cases h
    | some x =>
      obtain ⟨xs', o⟩ := x
      rw [hs] at h
      cases h
      obtain ⟨h1, h2⟩ := tst_cut (drop_lt hL k1) hs
      rw [List.drop_drop] at h1
      have h3 := tk_cut hL ht
      conv => lhs; rw [h3, h1]
      rw [plist, h2, List.append_assoc]

/-- what is decoded was encoded so -/
theorem sdec_cut {b : ByteArray} {s : Sc} (h : sdec b = some s) : nbs b = sen s ∧ schk s = 0 := by
  unfold sdec at h
  cases hh : shead b with
  | none => rw [hh] at h; cases h
  | some x =>
    obtain ⟨t, m, n, z⟩ := x
    rw [hh] at h
    simp only at h
    cases hp : rprogs n b z n with
    | none => rw [hp] at h; cases h
    | some x =>
      obtain ⟨ps, y⟩ := x
      rw [hp] at h
      simp only at h
      cases hl : tl ((nbs b).drop y) 200 with
      | error e => rw [hl] at h; cases h
      | ok x =>
        obtain ⟨xs, k⟩ := x
        rw [hl] at h
        simp only at h
        cases hd : tl ((nbs b).drop (y + k)) 64 with
        | error e => rw [hd] at h; cases h
        | ok x =>
          obtain ⟨ys, k'⟩ := x
          rw [hd] at h
          simp only at h
          split at h
          · rename_i hc
            obtain ⟨c1, c2⟩ := hc
            cases h
            refine ⟨?_, c2⟩
            have L := nbs_lt b
            have q4 := tl_cut (drop_lt L (y + k)) hd
            have q3 := tl_cut (drop_lt L y) hl
            obtain ⟨q2, hn⟩ := rprogs_cut hp
            rw [List.drop_drop, c1, ← nbs_length, List.drop_length] at q4
            rw [List.drop_drop, q4] at q3
            rw [q3] at q2
            unfold shead at hh
            cases u1 : up1 256 (nbs b) with
            | none => rw [u1] at hh; cases hh
            | some x =>
              obtain ⟨t', k1⟩ := x
              rw [u1] at hh
              simp only at hh
              cases u2 : up1 1048576 ((nbs b).drop k1) with
              | none => rw [u2] at hh; cases hh
              | some x =>
                obtain ⟨m', k2⟩ := x
                rw [u2] at hh
                simp only at hh
                cases u3 : up1 8 ((nbs b).drop (k1 + k2)) with
                | none => rw [u3] at hh; cases hh
                | some x =>
                  obtain ⟨n', k3⟩ := x
                  rw [u3] at hh
                  cases hh
                  have p3 := up1_cut (drop_lt L _) u3
                  have p2 := up1_cut (drop_lt L _) u2
                  have p1 := up1_cut L u1
                  rw [List.drop_drop, q2] at p3
                  rw [List.drop_drop, p3] at p2
                  rw [p2] at p1
                  rw [p1]
                  simp [sen, De.pls, mv_there, hn, List.append_assoc]
          · cases h
end Sh
end Go.Proofs.YtkcbokhkmcmpdaaGreat
