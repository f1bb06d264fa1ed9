/- Package pew: Has, Drop, over this seat's program. -/
import Derived.Test.YtiefaihflmogpabVb
namespace Go.Proofs.Ytiefaihflmogpab
open Go.ChangeShapes Go.WideShapes Go.ChangeAt Go.RowKit
namespace Pe
open Ba

/-- how many seats there are from the pointer on -/
def ms (m : List (Nat × Wt)) : Value → Nat
  | .pointer (some a) => m.length - (m.map (·.1)).idxOf a.block
  | _ => 0
theorem ms_none (m : List (Nat × Wt)) : ms m (.pointer none) = 0 := rfl
theorem ms_at {m pre t : List (Nat × Wt)} {n : Nat × Wt} (h : m = pre ++ n :: t) (hn : (m.map (·.1)).Nodup) : ms m (.pointer (some ⟨n.1, 0, none⟩)) = t.length + 1 := by
  subst h
  unfold ms
  simp only
  rw [List.map_append, List.map_cons, List.idxOf_append]
  rw [List.map_append, List.map_cons, List.nodup_append] at hn
  have : n.1 ∉ pre.map (·.1) := fun hm => hn.2.2 n.1 hm n.1 (List.mem_cons_self ..) rfl
  rw [if_neg this, List.idxOf_cons_self]
  simp
theorem ms_ch {w : World} {m pre rest : List (Nat × Wt)} {o : Option Nat} (h : m = pre ++ rest) (hn : (m.map (·.1)).Nodup) (hc : Ch w o rest none) : ms m (pt o) = rest.length := by
  cases rest with
  | nil => cases hc; rfl
  | cons n t =>
    obtain ⟨rfl, _⟩ := hc
    exact ms_at h hn
def hasb (g : Int) (l : List Wt) : Bool := l.any fun x => x.g == g

theorem has_nil (g : Int) (w : World) :
    Calls Try.prog 20 #[.pointer none, .int .i64 g] w fun r w' => r = .returned (.bool false) ∧ w' = w := by
  go_enter Try.func20, Try.ntmps20
  go_wp2_with fail
  refine (front_nil _).mono ?_
  rintro r w1 ⟨rfl, rfl⟩
  go_wp2_with fail
  go_loop [5] (fun s => s = .pointer none) (fun _ => 0)
  case atStart => rfl
  case round =>
    subst hrel
    go_wp2_with fail
    go_ret
    exact ⟨rfl, rfl⟩
set_option maxHeartbeats 1600000 in
theorem has_any (P : Nat) (l : List Wt) (g : Int) (w : World) (h : Pw w P l) :
    Calls Try.prog 20 #[.pointer (some ⟨P, 0, none⟩), .int .i64 g] w fun r w' => r = .returned (.bool (hasb g l)) ∧ w' = w := by
  obtain ⟨m, rfl, f, h1, h2, h3, h4, h5⟩ := h
  have HC := hide h2
  have ND := hide h3
  have y0 : w.cell? ⟨P, 0, none⟩ = some (pt f) := cell_of h1 0
  have FR := hide (front_c P (f.map fun b => ⟨b, 0, none⟩) w y0)
  clear h1 h2 h3 h4 h5 y0
  go_enter Try.func20, Try.ntmps20
  go_wp2_with fail
  refine FR.out.mono ?_
  rintro r w1 ⟨rfl, rfl⟩
  go_wp2_with fail
  go_loop [5] (fun s => ∃ (pre rest : List (Nat × Wt)) (o : Option Nat), s = pt o ∧ m = pre ++ rest ∧ Ch w1 o rest none ∧ hasb g (pre.map (·.2)) = false) (fun s => ms m s)
  case atStart => exact ⟨[], m, f, rfl, rfl, HC.out, rfl⟩
  case round =>
    obtain ⟨pre, rest, o, rfl, hm, hc, hp⟩ := hrel
    cases rest with
    | nil =>
      have e0 : o = none := hc
      subst e0
      rw [List.append_nil] at hm
      subst hm
      have HP := hide hp
      clear hp hc
      unfold pt
      go_wp2_with fail
      go_ret
      exact ⟨ret_bool HP.out.symm, rfl⟩
    | cons n t =>
      obtain ⟨b, y⟩ := n
      have MS := hide (ms_ch hm ND.out hc)
      obtain ⟨rfl, nx, hs, hc2⟩ := hc
      have MT := hide (ms_ch (pre := pre ++ [(b, y)]) (by rw [hm]; simp) ND.out hc2)
      have y0 := cell_of hs 0
      have y3 : w1.cell? ⟨b, 3, none⟩ = some (pt nx) := cell_of hs 3
      simp at y0
      have HM := hide hm
      have HP := hide hp
      have HC2 := hide hc2
      clear hm hp hc2 hs
      cases hg : y.g == g
      · have HN : Hid (hasb g ((pre ++ [(b, y)]).map (·.2)) = false) := by
          show _ = _
          rw [List.map_append]
          unfold hasb
          rw [List.any_append]
          have := HP.out
          unfold hasb at this
          rw [this]
          simp [hg]
        rw [show pt (some b) = .pointer (some ⟨b, 0, none⟩) from rfl] at *
        unfold pt at y3
        generalize hq : nx.map (fun b => (⟨b, 0, none⟩ : Addr)) = q at y3
        have HQ : Hid (Value.pointer q = pt nx) := by show _ = _; rw [← hq]; rfl
        clear hq
        go_wp2_with fail
        go_round
        case rel => exact ⟨pre ++ [(b, y)], t, nx, HQ.out, by rw [HM.out]; simp, HC2.out, HN.out⟩
        case measure =>
          have h1 := MS.out
          have h2 := MT.out
          rw [← HQ.out] at h2
          show ms m (.pointer q) < ms m (.pointer (some ⟨b, 0, none⟩))
          rw [h1, h2]
          simp
      · have HN : Hid (hasb g (m.map (·.2)) = true) := by
          show _ = _
          rw [HM.out]
          unfold hasb
          rw [List.map_append, List.any_append]
          simp [hg]
        unfold pt
        go_wp2_with fail
        go_ret
        exact ⟨ret_bool HN.out.symm, rfl⟩
end Pe
end Go.Proofs.Ytiefaihflmogpab
