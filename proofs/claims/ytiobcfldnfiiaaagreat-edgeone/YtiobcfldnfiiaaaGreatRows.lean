/-
  No cell of these rows narrows 'for every input' (looked for: loops, veiled, ifaces, maps, wideKeys, modest, calm, conditions, laid).
  DERIVED. THE GIVEN ROWS OF THIS SEAT. 6 by the template 'for every input the law returns true; each argument reads behind the call as it read before'; 0 by the template 'total and deterministic' (their statements: YtiobcfldnfiiaaaGreatTotals.lean).
  GIVEN WITH THE SEED: the statements are not yours to turn. If you find one false, say at which input.
  Laid BY PROGRAM, IN A SANDBOX (cutbox-rows.mjs): the forced cells as the released guide's own fill.sh prints them over the translation d06ad52d59dde0f4… (all of the seat's roots in one cut). By AI agents, Wed Nov 11 2026. No macro, syntax, notation, axiom, sorry.
-/
import Derived.Test.YtiobcfldnfiiaaaGreatChecked
import GoSem.Claim
import GoSem.ClaimJoined
import GoSem.ClaimMapViews
import Derived.JoinedTies
import Derived.KernelRfl
namespace Go.Proofs.YtiobcfldnfiiaaaGreat
/- THE CELL 'sum', in the pinned program and in every row, IS THE sha256 OF THE DUMP (.gsa) THAT YtiobcfldnfiiaaaGreatProg.lean LOADS. Nothing in Lean hashes anything: it is a label: what it is worth is what the hold of that sum in a sandbox is worth. -/
noncomputable def Tryz.pinned : Pinned := { name := "ytiobcfldnfiiaaagreat", sum := "d06ad52d59dde0f4790e000e7f25f6ee21283eab62a92ded52aa5ddab3db4eee", checked := Tryz.checked }
namespace Rows
def none {H : Type} : Left H := { results := [], args := [] }

/-- 'staithelaw24.EdgeAll': WHATEVER THE INPUT: true; the input reads as it did. -/
def edgeAllSpec : ChangeSpec := { name := "edgeAll", fn := fun _ => fun
  | [d] => { results := [.lit (.bool true)], args := [d] }
  | _ => none }
def edgeAllRow : OpenClaim := { program := "ytiobcfldnfiiaaagreat", sum := "d06ad52d59dde0f4790e000e7f25f6ee21283eab62a92ded52aa5ddab3db4eee", func := "staithe/staithelaw24.EdgeAll", spec := "edgeAll", unfollowed := true, recurses := true, apart := false }
def EdgeAllSaid : Prop := edgeAllRow.holds Tryz.pinned (OpenSpec.ofChange edgeAllSpec)

/-- ITS FALSE NEIGHBOUR: 'it returns false'. Refute it at one input. -/
def edgeAllWrong : ChangeSpec := { name := "edgeAll", fn := fun _ => fun
  | [d] => { results := [.lit (.bool false)], args := [d] }
  | _ => none }
def EdgeAllWrongFalsely : Prop := edgeAllRow.holds Tryz.pinned (OpenSpec.ofChange edgeAllWrong)

/-- 'staithelaw24.EdgeOf': WHATEVER THE INPUT: true; the input reads as it did. -/
def edgeOfSpec : ChangeSpec := { name := "edgeOf", fn := fun _ => fun
  | [d1, d2, d3] => { results := [.lit (.bool true)], args := [d1, d2, d3] }
  | _ => none }
def edgeOfRow : OpenClaim := { program := "ytiobcfldnfiiaaagreat", sum := "d06ad52d59dde0f4790e000e7f25f6ee21283eab62a92ded52aa5ddab3db4eee", func := "staithe/staithelaw24.EdgeOf", spec := "edgeOf", unfollowed := true, recurses := true, apart := false }
def EdgeOfSaid : Prop := edgeOfRow.holds Tryz.pinned (OpenSpec.ofChange edgeOfSpec)

/-- ITS FALSE NEIGHBOUR: 'it returns false'. Refute it at one input. -/
def edgeOfWrong : ChangeSpec := { name := "edgeOf", fn := fun _ => fun
  | [d1, d2, d3] => { results := [.lit (.bool false)], args := [d1, d2, d3] }
  | _ => none }
def EdgeOfWrongFalsely : Prop := edgeOfRow.holds Tryz.pinned (OpenSpec.ofChange edgeOfWrong)

/-- 'staithelaw24.EdgeForward': WHATEVER THE INPUT: true; the input reads as it did. -/
def edgeForwardSpec : ChangeSpec := { name := "edgeForward", fn := fun _ => fun
  | [d] => { results := [.lit (.bool true)], args := [d] }
  | _ => none }
def edgeForwardRow : OpenClaim := { program := "ytiobcfldnfiiaaagreat", sum := "d06ad52d59dde0f4790e000e7f25f6ee21283eab62a92ded52aa5ddab3db4eee", func := "staithe/staithelaw24.EdgeForward", spec := "edgeForward", unfollowed := true, recurses := true, apart := false }
def EdgeForwardSaid : Prop := edgeForwardRow.holds Tryz.pinned (OpenSpec.ofChange edgeForwardSpec)

/-- ITS FALSE NEIGHBOUR: 'it returns false'. Refute it at one input. -/
def edgeForwardWrong : ChangeSpec := { name := "edgeForward", fn := fun _ => fun
  | [d] => { results := [.lit (.bool false)], args := [d] }
  | _ => none }
def EdgeForwardWrongFalsely : Prop := edgeForwardRow.holds Tryz.pinned (OpenSpec.ofChange edgeForwardWrong)

/-- 'staithelaw24.EdgeTells': WHATEVER THE INPUT: true; the input reads as it did. -/
def edgeTellsSpec : ChangeSpec := { name := "edgeTells", fn := fun _ => fun
  | [d] => { results := [.lit (.bool true)], args := [d] }
  | _ => none }
def edgeTellsRow : OpenClaim := { program := "ytiobcfldnfiiaaagreat", sum := "d06ad52d59dde0f4790e000e7f25f6ee21283eab62a92ded52aa5ddab3db4eee", func := "staithe/staithelaw24.EdgeTells", spec := "edgeTells", unfollowed := true, recurses := true, apart := false }
def EdgeTellsSaid : Prop := edgeTellsRow.holds Tryz.pinned (OpenSpec.ofChange edgeTellsSpec)

/-- ITS FALSE NEIGHBOUR: 'it returns false'. Refute it at one input. -/
def edgeTellsWrong : ChangeSpec := { name := "edgeTells", fn := fun _ => fun
  | [d] => { results := [.lit (.bool false)], args := [d] }
  | _ => none }
def EdgeTellsWrongFalsely : Prop := edgeTellsRow.holds Tryz.pinned (OpenSpec.ofChange edgeTellsWrong)

/-- 'staithelaw24.EdgeGrows': WHATEVER THE INPUT: true; the input reads as it did. -/
def edgeGrowsSpec : ChangeSpec := { name := "edgeGrows", fn := fun _ => fun
  | [d1, d2] => { results := [.lit (.bool true)], args := [d1, d2] }
  | _ => none }
def edgeGrowsRow : OpenClaim := { program := "ytiobcfldnfiiaaagreat", sum := "d06ad52d59dde0f4790e000e7f25f6ee21283eab62a92ded52aa5ddab3db4eee", func := "staithe/staithelaw24.EdgeGrows", spec := "edgeGrows", unfollowed := true, recurses := true, apart := false }
def EdgeGrowsSaid : Prop := edgeGrowsRow.holds Tryz.pinned (OpenSpec.ofChange edgeGrowsSpec)

/-- ITS FALSE NEIGHBOUR: 'it returns false'. Refute it at one input. -/
def edgeGrowsWrong : ChangeSpec := { name := "edgeGrows", fn := fun _ => fun
  | [d1, d2] => { results := [.lit (.bool false)], args := [d1, d2] }
  | _ => none }
def EdgeGrowsWrongFalsely : Prop := edgeGrowsRow.holds Tryz.pinned (OpenSpec.ofChange edgeGrowsWrong)

/-- 'staithelaw24.EdgeOne': WHATEVER THE INPUT: true; the input reads as it did. -/
def edgeOneSpec : ChangeSpec := { name := "edgeOne", fn := fun _ => fun
  | [d] => { results := [.lit (.bool true)], args := [d] }
  | _ => none }
def edgeOneRow : OpenClaim := { program := "ytiobcfldnfiiaaagreat", sum := "d06ad52d59dde0f4790e000e7f25f6ee21283eab62a92ded52aa5ddab3db4eee", func := "staithe/staithelaw24.EdgeOne", spec := "edgeOne", unfollowed := true, recurses := true, apart := false }
def EdgeOneSaid : Prop := edgeOneRow.holds Tryz.pinned (OpenSpec.ofChange edgeOneSpec)

/-- ITS FALSE NEIGHBOUR: 'it returns false'. Refute it at one input. -/
def edgeOneWrong : ChangeSpec := { name := "edgeOne", fn := fun _ => fun
  | [d] => { results := [.lit (.bool false)], args := [d] }
  | _ => none }
def EdgeOneWrongFalsely : Prop := edgeOneRow.holds Tryz.pinned (OpenSpec.ofChange edgeOneWrong)

/- THE SECOND FORM. 'bulk': how many values and letters a reading holds, each counted each time it is reached (what is shared counts as often as it is met; a slice's spare places count too). A statement '..UptoSaid' is the law's where the arguments, and the package variables that the reading takes, are together of bulk at most 1048576: NARROWER than '..Said'. Prove '..Said' where nothing that the law and all that it calls make is longer than what came in: it says more and counts as full. Else prove '..UptoSaid'. A law counts once. -/
mutual
def uptoBulk {H : Type} : DataW H → Nat
  | .lit (.string bytes) => bytes.length + 1
  | .lit _ => 1
  | .nil => 1
  | .ptr d => uptoBulk d + 1
  | .slice elems spare => uptoBulkAll elems + uptoBulkAll spare + 1
  | .agg parts => uptoBulkAll parts + 1
  | .iface _ d => uptoBulk d + 1
  | .map entries => uptoBulkEntries entries + 1
  | .held _ => 1
def uptoBulkAll {H : Type} : List (DataW H) → Nat
  | [] => 0
  | d :: r => uptoBulk d + uptoBulkAll r
def uptoBulkEntries {H : Type} : List (Lit × DataW H) → Nat
  | [] => 0
  | x :: r => uptoBulkEntry x + uptoBulkEntries r
def uptoBulkEntry {H : Type} : Lit × DataW H → Nat
  | (.string bytes, d) => bytes.length + uptoBulk d + 1
  | (_, d) => uptoBulk d + 1
 end
def uptoSmall : (H : Type) → List (DataW H) → Bool := fun _ ds => decide (uptoBulkAll ds ≤ 1048576)
def OpenSpec.upto (s : _root_.Go.ChangeSpec) : _root_.Go.OpenSpec := { _root_.Go.OpenSpec.ofChange s with cond := some uptoSmall }

/-- 'staithelaw24.EdgeAll', WHERE WHAT IT READS IS OF BULK AT MOST 1048576: true; the input reads as it did. -/
def edgeAllUptoRow : OpenClaim := { program := "ytiobcfldnfiiaaagreat", sum := "d06ad52d59dde0f4790e000e7f25f6ee21283eab62a92ded52aa5ddab3db4eee", func := "staithe/staithelaw24.EdgeAll", spec := "edgeAll", unfollowed := true, recurses := true, apart := false, narrowed := true }
def EdgeAllUptoSaid : Prop := edgeAllUptoRow.holds Tryz.pinned (OpenSpec.upto edgeAllSpec)

/-- 'staithelaw24.EdgeOf', WHERE WHAT IT READS IS OF BULK AT MOST 1048576: true; the input reads as it did. -/
def edgeOfUptoRow : OpenClaim := { program := "ytiobcfldnfiiaaagreat", sum := "d06ad52d59dde0f4790e000e7f25f6ee21283eab62a92ded52aa5ddab3db4eee", func := "staithe/staithelaw24.EdgeOf", spec := "edgeOf", unfollowed := true, recurses := true, apart := false, narrowed := true }
def EdgeOfUptoSaid : Prop := edgeOfUptoRow.holds Tryz.pinned (OpenSpec.upto edgeOfSpec)

/-- 'staithelaw24.EdgeForward', WHERE WHAT IT READS IS OF BULK AT MOST 1048576: true; the input reads as it did. -/
def edgeForwardUptoRow : OpenClaim := { program := "ytiobcfldnfiiaaagreat", sum := "d06ad52d59dde0f4790e000e7f25f6ee21283eab62a92ded52aa5ddab3db4eee", func := "staithe/staithelaw24.EdgeForward", spec := "edgeForward", unfollowed := true, recurses := true, apart := false, narrowed := true }
def EdgeForwardUptoSaid : Prop := edgeForwardUptoRow.holds Tryz.pinned (OpenSpec.upto edgeForwardSpec)

/-- 'staithelaw24.EdgeTells', WHERE WHAT IT READS IS OF BULK AT MOST 1048576: true; the input reads as it did. -/
def edgeTellsUptoRow : OpenClaim := { program := "ytiobcfldnfiiaaagreat", sum := "d06ad52d59dde0f4790e000e7f25f6ee21283eab62a92ded52aa5ddab3db4eee", func := "staithe/staithelaw24.EdgeTells", spec := "edgeTells", unfollowed := true, recurses := true, apart := false, narrowed := true }
def EdgeTellsUptoSaid : Prop := edgeTellsUptoRow.holds Tryz.pinned (OpenSpec.upto edgeTellsSpec)

/-- 'staithelaw24.EdgeGrows', WHERE WHAT IT READS IS OF BULK AT MOST 1048576: true; the input reads as it did. -/
def edgeGrowsUptoRow : OpenClaim := { program := "ytiobcfldnfiiaaagreat", sum := "d06ad52d59dde0f4790e000e7f25f6ee21283eab62a92ded52aa5ddab3db4eee", func := "staithe/staithelaw24.EdgeGrows", spec := "edgeGrows", unfollowed := true, recurses := true, apart := false, narrowed := true }
def EdgeGrowsUptoSaid : Prop := edgeGrowsUptoRow.holds Tryz.pinned (OpenSpec.upto edgeGrowsSpec)

/-- 'staithelaw24.EdgeOne', WHERE WHAT IT READS IS OF BULK AT MOST 1048576: true; the input reads as it did. -/
def edgeOneUptoRow : OpenClaim := { program := "ytiobcfldnfiiaaagreat", sum := "d06ad52d59dde0f4790e000e7f25f6ee21283eab62a92ded52aa5ddab3db4eee", func := "staithe/staithelaw24.EdgeOne", spec := "edgeOne", unfollowed := true, recurses := true, apart := false, narrowed := true }
def EdgeOneUptoSaid : Prop := edgeOneUptoRow.holds Tryz.pinned (OpenSpec.upto edgeOneSpec)

end Rows
end Go.Proofs.YtiobcfldnfiiaaaGreat
