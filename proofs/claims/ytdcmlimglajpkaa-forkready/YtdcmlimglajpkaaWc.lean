/- Package pew: how many seats there are from a pointer on. -/
import Derived.Test.YtdcmlimglajpkaaWb
namespace Go.Proofs.Ytdcmlimglajpkaa
open Go.ChangeShapes Go.WideShapes Go.ChangeAt Go.RowKit
namespace Pe
open Ba

/-- how many seats there are from the pointer on -/
def ms (m : List (Nat × Wt)) : Value → Nat
  | .pointer (some a) => m.length - (m.map (·.1)).idxOf a.block
  | _ => 0
theorem ms_none (m : List (Nat × Wt)) : ms m (.pointer none) = 0 := rfl
theorem ms_at {m pre t : List (Nat × Wt)} {n : Nat × Wt} (h : m = pre ++ n :: t) (hn : (m.map (·.1)).Nodup) : ms m (.pointer (some ⟨n.1, 0, none⟩)) = t.length + 1 := by
  subst h
  unfold ms
  simp only
  rw [List.map_append, List.map_cons, List.idxOf_append]
  rw [List.map_append, List.map_cons, List.nodup_append] at hn
  have : n.1 ∉ pre.map (·.1) := fun hm => hn.2.2 n.1 hm n.1 (List.mem_cons_self ..) rfl
  rw [if_neg this, List.idxOf_cons_self]
  simp
theorem ms_ch {w : World} {m pre rest : List (Nat × Wt)} {o : Option Nat} (h : m = pre ++ rest) (hn : (m.map (·.1)).Nodup) (hc : Ch w o rest none) : ms m (pt o) = rest.length := by
  cases rest with
  | nil => cases hc; rfl
  | cons n t =>
    obtain ⟨rfl, _⟩ := hc
    exact ms_at h hn
def hasb (g : Int) (l : List Wt) : Bool := l.any fun x => x.g == g

end Pe
end Go.Proofs.Ytdcmlimglajpkaa
