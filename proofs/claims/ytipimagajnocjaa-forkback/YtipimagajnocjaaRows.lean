/-
  No cell of these rows narrows 'for every input' (looked for: loops, veiled, ifaces, maps, wideKeys, modest, calm, conditions, laid).
  DERIVED. THE GIVEN ROWS OF THIS SEAT. 3 by the template 'for every input the law returns true; each argument reads behind the call as it read before'; 0 by the template 'total and deterministic' (their statements: YtipimagajnocjaaTotals.lean).
  GIVEN WITH THE SEED: the statements are not yours to turn. If you find one false, say at which input.
  Laid BY PROGRAM, IN A SANDBOX (cutbox-rows.mjs): the forced cells as the released guide's own fill.sh prints them over the translation cac96aface36bbec… (all of the seat's roots in one cut). By AI agents, Wed Nov 11 2026. No macro, syntax, notation, axiom, sorry.
-/
import Derived.Test.YtipimagajnocjaaChecked
import GoSem.Claim
import GoSem.ClaimJoined
import GoSem.ClaimMapViews
import Derived.JoinedTies
import Derived.KernelRfl
namespace Go.Proofs.Ytipimagajnocjaa
/- THE CELL 'sum', in the pinned program and in every row, IS THE sha256 OF THE DUMP (.gsa) THAT YtipimagajnocjaaProg.lean LOADS. Nothing in Lean hashes anything: it is a label: what it is worth is what the hold of that sum in a sandbox is worth. -/
noncomputable def Try.pinned : Pinned := { name := "ytipimagajnocjaa", sum := "cac96aface36bbecd20491ee8220378edcd9afec9de8305b60c44b80d5a56e07", checked := Try.checked }
namespace Rows
def none {H : Type} : Left H := { results := [], args := [] }

/-- 'staithelaw10.ForkSteps': WHATEVER THE INPUT: true; the input reads as it did. -/
def forkStepsSpec : ChangeSpec := { name := "forkSteps", fn := fun _ => fun
  | [d1, d2] => { results := [.lit (.bool true)], args := [d1, d2] }
  | _ => none }
def forkStepsRow : OpenClaim := { program := "ytipimagajnocjaa", sum := "cac96aface36bbecd20491ee8220378edcd9afec9de8305b60c44b80d5a56e07", func := "staithe/staithelaw10.ForkSteps", spec := "forkSteps", unfollowed := true, recurses := true, apart := false }
def ForkStepsSaid : Prop := forkStepsRow.holds Try.pinned (OpenSpec.ofChange forkStepsSpec)

/-- ITS FALSE NEIGHBOUR: 'it returns false'. Refute it at one input. -/
def forkStepsWrong : ChangeSpec := { name := "forkSteps", fn := fun _ => fun
  | [d1, d2] => { results := [.lit (.bool false)], args := [d1, d2] }
  | _ => none }
def ForkStepsWrongFalsely : Prop := forkStepsRow.holds Try.pinned (OpenSpec.ofChange forkStepsWrong)

/-- 'staithelaw10.ForkBack': WHATEVER THE INPUT: true; the input reads as it did. -/
def forkBackSpec : ChangeSpec := { name := "forkBack", fn := fun _ => fun
  | [d1, d2, d3] => { results := [.lit (.bool true)], args := [d1, d2, d3] }
  | _ => none }
def forkBackRow : OpenClaim := { program := "ytipimagajnocjaa", sum := "cac96aface36bbecd20491ee8220378edcd9afec9de8305b60c44b80d5a56e07", func := "staithe/staithelaw10.ForkBack", spec := "forkBack", unfollowed := true, recurses := true, apart := false }
def ForkBackSaid : Prop := forkBackRow.holds Try.pinned (OpenSpec.ofChange forkBackSpec)

/-- ITS FALSE NEIGHBOUR: 'it returns false'. Refute it at one input. -/
def forkBackWrong : ChangeSpec := { name := "forkBack", fn := fun _ => fun
  | [d1, d2, d3] => { results := [.lit (.bool false)], args := [d1, d2, d3] }
  | _ => none }
def ForkBackWrongFalsely : Prop := forkBackRow.holds Try.pinned (OpenSpec.ofChange forkBackWrong)

/-- 'staithelaw10.ForkReady': WHATEVER THE INPUT: true; the input reads as it did. -/
def forkReadySpec : ChangeSpec := { name := "forkReady", fn := fun _ => fun
  | [d1, d2, d3] => { results := [.lit (.bool true)], args := [d1, d2, d3] }
  | _ => none }
def forkReadyRow : OpenClaim := { program := "ytipimagajnocjaa", sum := "cac96aface36bbecd20491ee8220378edcd9afec9de8305b60c44b80d5a56e07", func := "staithe/staithelaw10.ForkReady", spec := "forkReady", unfollowed := true, recurses := true, apart := false }
def ForkReadySaid : Prop := forkReadyRow.holds Try.pinned (OpenSpec.ofChange forkReadySpec)

/-- ITS FALSE NEIGHBOUR: 'it returns false'. Refute it at one input. -/
def forkReadyWrong : ChangeSpec := { name := "forkReady", fn := fun _ => fun
  | [d1, d2, d3] => { results := [.lit (.bool false)], args := [d1, d2, d3] }
  | _ => none }
def ForkReadyWrongFalsely : Prop := forkReadyRow.holds Try.pinned (OpenSpec.ofChange forkReadyWrong)

/- THE SECOND FORM. 'bulk': how many values and letters a reading holds, each counted each time it is reached (what is shared counts as often as it is met; a slice's spare places count too). A statement '..UptoSaid' is the law's where the arguments, and the package variables that the reading takes, are together of bulk at most 1048576: NARROWER than '..Said'. Prove '..Said' where nothing that the law and all that it calls make is longer than what came in: it says more and counts as full. Else prove '..UptoSaid'. A law counts once. -/
mutual
def uptoBulk {H : Type} : DataW H → Nat
  | .lit (.string bytes) => bytes.length + 1
  | .lit _ => 1
  | .nil => 1
  | .ptr d => uptoBulk d + 1
  | .slice elems spare => uptoBulkAll elems + uptoBulkAll spare + 1
  | .agg parts => uptoBulkAll parts + 1
  | .iface _ d => uptoBulk d + 1
  | .map entries => uptoBulkEntries entries + 1
  | .held _ => 1
def uptoBulkAll {H : Type} : List (DataW H) → Nat
  | [] => 0
  | d :: r => uptoBulk d + uptoBulkAll r
def uptoBulkEntries {H : Type} : List (Lit × DataW H) → Nat
  | [] => 0
  | x :: r => uptoBulkEntry x + uptoBulkEntries r
def uptoBulkEntry {H : Type} : Lit × DataW H → Nat
  | (.string bytes, d) => bytes.length + uptoBulk d + 1
  | (_, d) => uptoBulk d + 1
 end
def uptoSmall : (H : Type) → List (DataW H) → Bool := fun _ ds => decide (uptoBulkAll ds ≤ 1048576)
def OpenSpec.upto (s : _root_.Go.ChangeSpec) : _root_.Go.OpenSpec := { _root_.Go.OpenSpec.ofChange s with cond := some uptoSmall }

/-- 'staithelaw10.ForkSteps', WHERE WHAT IT READS IS OF BULK AT MOST 1048576: true; the input reads as it did. -/
def forkStepsUptoRow : OpenClaim := { program := "ytipimagajnocjaa", sum := "cac96aface36bbecd20491ee8220378edcd9afec9de8305b60c44b80d5a56e07", func := "staithe/staithelaw10.ForkSteps", spec := "forkSteps", unfollowed := true, recurses := true, apart := false, narrowed := true }
def ForkStepsUptoSaid : Prop := forkStepsUptoRow.holds Try.pinned (OpenSpec.upto forkStepsSpec)

/-- 'staithelaw10.ForkBack', WHERE WHAT IT READS IS OF BULK AT MOST 1048576: true; the input reads as it did. -/
def forkBackUptoRow : OpenClaim := { program := "ytipimagajnocjaa", sum := "cac96aface36bbecd20491ee8220378edcd9afec9de8305b60c44b80d5a56e07", func := "staithe/staithelaw10.ForkBack", spec := "forkBack", unfollowed := true, recurses := true, apart := false, narrowed := true }
def ForkBackUptoSaid : Prop := forkBackUptoRow.holds Try.pinned (OpenSpec.upto forkBackSpec)

/-- 'staithelaw10.ForkReady', WHERE WHAT IT READS IS OF BULK AT MOST 1048576: true; the input reads as it did. -/
def forkReadyUptoRow : OpenClaim := { program := "ytipimagajnocjaa", sum := "cac96aface36bbecd20491ee8220378edcd9afec9de8305b60c44b80d5a56e07", func := "staithe/staithelaw10.ForkReady", spec := "forkReady", unfollowed := true, recurses := true, apart := false, narrowed := true }
def ForkReadyUptoSaid : Prop := forkReadyUptoRow.holds Try.pinned (OpenSpec.upto forkReadySpec)

end Rows
end Go.Proofs.Ytipimagajnocjaa
