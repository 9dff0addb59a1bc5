/-
  No cell of these rows narrows 'for every input' (looked for: loops, veiled, ifaces, maps, wideKeys, modest, calm, conditions, laid).
  DERIVED. THE GIVEN ROWS OF THIS SEAT. 4 by the template 'for every input the law returns true; each argument reads behind the call as it read before'; 0 by the template 'total and deterministic' (their statements: YtckabinmmficlaaTotals.lean).
  GIVEN WITH THE SEED: the statements are not yours to turn. If you find one false, say at which input.
  Laid BY PROGRAM, IN A SANDBOX (cutbox-rows.mjs): the forced cells as the released guide's own fill.sh prints them over the translation 01f3c0966c7a14e7… (all of the seat's roots in one cut). By AI agents, Wed Nov 11 2026. No macro, syntax, notation, axiom, sorry.
-/
import Derived.Test.YtckabinmmficlaaChecked
import GoSem.Claim
import GoSem.ClaimJoined
import GoSem.ClaimMapViews
import Derived.JoinedTies
import Derived.KernelRfl
namespace Go.Proofs.Ytckabinmmficlaa
/- THE CELL 'sum', in the pinned program and in every row, IS THE sha256 OF THE DUMP (.gsa) THAT YtckabinmmficlaaProg.lean LOADS. Nothing in Lean hashes anything: it is a label: what it is worth is what the hold of that sum in a sandbox is worth. -/
noncomputable def Try.pinned : Pinned := { name := "ytckabinmmficlaa", sum := "01f3c0966c7a14e785fd153b2838c79ea1c84d70a423bf3611248be41288cc48", checked := Try.checked }
namespace Rows
def none {H : Type} : Left H := { results := [], args := [] }

/-- 'standstilllaw08.PairCodes': WHATEVER THE INPUT: true; the input reads as it did. -/
def pairCodesSpec : ChangeSpec := { name := "pairCodes", fn := fun _ => fun
  | [d1, d2, d3] => { results := [.lit (.bool true)], args := [d1, d2, d3] }
  | _ => none }
def pairCodesRow : OpenClaim := { program := "ytckabinmmficlaa", sum := "01f3c0966c7a14e785fd153b2838c79ea1c84d70a423bf3611248be41288cc48", func := "standstill/standstilllaw08.PairCodes", spec := "pairCodes", unfollowed := true, recurses := true, apart := false }
def PairCodesSaid : Prop := pairCodesRow.holds Try.pinned (OpenSpec.ofChange pairCodesSpec)

/-- ITS FALSE NEIGHBOUR: 'it returns false'. Refute it at one input. -/
def pairCodesWrong : ChangeSpec := { name := "pairCodes", fn := fun _ => fun
  | [d1, d2, d3] => { results := [.lit (.bool false)], args := [d1, d2, d3] }
  | _ => none }
def PairCodesWrongFalsely : Prop := pairCodesRow.holds Try.pinned (OpenSpec.ofChange pairCodesWrong)

/-- 'standstilllaw08.PairShapes': WHATEVER THE INPUT: true; the input reads as it did. -/
def pairShapesSpec : ChangeSpec := { name := "pairShapes", fn := fun _ => fun
  | [d] => { results := [.lit (.bool true)], args := [d] }
  | _ => none }
def pairShapesRow : OpenClaim := { program := "ytckabinmmficlaa", sum := "01f3c0966c7a14e785fd153b2838c79ea1c84d70a423bf3611248be41288cc48", func := "standstill/standstilllaw08.PairShapes", spec := "pairShapes", unfollowed := true, recurses := true, apart := false }
def PairShapesSaid : Prop := pairShapesRow.holds Try.pinned (OpenSpec.ofChange pairShapesSpec)

/-- ITS FALSE NEIGHBOUR: 'it returns false'. Refute it at one input. -/
def pairShapesWrong : ChangeSpec := { name := "pairShapes", fn := fun _ => fun
  | [d] => { results := [.lit (.bool false)], args := [d] }
  | _ => none }
def PairShapesWrongFalsely : Prop := pairShapesRow.holds Try.pinned (OpenSpec.ofChange pairShapesWrong)

/-- 'standstilllaw08.PairSteps': WHATEVER THE INPUT: true; the input reads as it did. -/
def pairStepsSpec : ChangeSpec := { name := "pairSteps", fn := fun _ => fun
  | [d1, d2] => { results := [.lit (.bool true)], args := [d1, d2] }
  | _ => none }
def pairStepsRow : OpenClaim := { program := "ytckabinmmficlaa", sum := "01f3c0966c7a14e785fd153b2838c79ea1c84d70a423bf3611248be41288cc48", func := "standstill/standstilllaw08.PairSteps", spec := "pairSteps", unfollowed := true, recurses := true, apart := false }
def PairStepsSaid : Prop := pairStepsRow.holds Try.pinned (OpenSpec.ofChange pairStepsSpec)

/-- ITS FALSE NEIGHBOUR: 'it returns false'. Refute it at one input. -/
def pairStepsWrong : ChangeSpec := { name := "pairSteps", fn := fun _ => fun
  | [d1, d2] => { results := [.lit (.bool false)], args := [d1, d2] }
  | _ => none }
def PairStepsWrongFalsely : Prop := pairStepsRow.holds Try.pinned (OpenSpec.ofChange pairStepsWrong)

/-- 'standstilllaw08.PairRuns': WHATEVER THE INPUT: true; the input reads as it did. -/
def pairRunsSpec : ChangeSpec := { name := "pairRuns", fn := fun _ => fun
  | [d1, d2, d3] => { results := [.lit (.bool true)], args := [d1, d2, d3] }
  | _ => none }
def pairRunsRow : OpenClaim := { program := "ytckabinmmficlaa", sum := "01f3c0966c7a14e785fd153b2838c79ea1c84d70a423bf3611248be41288cc48", func := "standstill/standstilllaw08.PairRuns", spec := "pairRuns", unfollowed := true, recurses := true, apart := false }
def PairRunsSaid : Prop := pairRunsRow.holds Try.pinned (OpenSpec.ofChange pairRunsSpec)

/-- ITS FALSE NEIGHBOUR: 'it returns false'. Refute it at one input. -/
def pairRunsWrong : ChangeSpec := { name := "pairRuns", fn := fun _ => fun
  | [d1, d2, d3] => { results := [.lit (.bool false)], args := [d1, d2, d3] }
  | _ => none }
def PairRunsWrongFalsely : Prop := pairRunsRow.holds Try.pinned (OpenSpec.ofChange pairRunsWrong)

/- THE SECOND FORM. 'bulk': how many values and letters a reading holds, each counted each time it is reached (what is shared counts as often as it is met; a slice's spare places count too). A statement '..UptoSaid' is the law's where the arguments, and the package variables that the reading takes, are together of bulk at most 1048576: NARROWER than '..Said'. Prove '..Said' where nothing that the law and all that it calls make is longer than what came in: it says more and counts as full. Else prove '..UptoSaid'. A law counts once. -/
mutual
def uptoBulk {H : Type} : DataW H → Nat
  | .lit (.string bytes) => bytes.length + 1
  | .lit _ => 1
  | .nil => 1
  | .ptr d => uptoBulk d + 1
  | .slice elems spare => uptoBulkAll elems + uptoBulkAll spare + 1
  | .agg parts => uptoBulkAll parts + 1
  | .iface _ d => uptoBulk d + 1
  | .map entries => uptoBulkEntries entries + 1
  | .held _ => 1
def uptoBulkAll {H : Type} : List (DataW H) → Nat
  | [] => 0
  | d :: r => uptoBulk d + uptoBulkAll r
def uptoBulkEntries {H : Type} : List (Lit × DataW H) → Nat
  | [] => 0
  | x :: r => uptoBulkEntry x + uptoBulkEntries r
def uptoBulkEntry {H : Type} : Lit × DataW H → Nat
  | (.string bytes, d) => bytes.length + uptoBulk d + 1
  | (_, d) => uptoBulk d + 1
 end
def uptoSmall : (H : Type) → List (DataW H) → Bool := fun _ ds => decide (uptoBulkAll ds ≤ 1048576)
def OpenSpec.upto (s : _root_.Go.ChangeSpec) : _root_.Go.OpenSpec := { _root_.Go.OpenSpec.ofChange s with cond := some uptoSmall }

/-- 'standstilllaw08.PairCodes', WHERE WHAT IT READS IS OF BULK AT MOST 1048576: true; the input reads as it did. -/
def pairCodesUptoRow : OpenClaim := { program := "ytckabinmmficlaa", sum := "01f3c0966c7a14e785fd153b2838c79ea1c84d70a423bf3611248be41288cc48", func := "standstill/standstilllaw08.PairCodes", spec := "pairCodes", unfollowed := true, recurses := true, apart := false, narrowed := true }
def PairCodesUptoSaid : Prop := pairCodesUptoRow.holds Try.pinned (OpenSpec.upto pairCodesSpec)

/-- 'standstilllaw08.PairShapes', WHERE WHAT IT READS IS OF BULK AT MOST 1048576: true; the input reads as it did. -/
def pairShapesUptoRow : OpenClaim := { program := "ytckabinmmficlaa", sum := "01f3c0966c7a14e785fd153b2838c79ea1c84d70a423bf3611248be41288cc48", func := "standstill/standstilllaw08.PairShapes", spec := "pairShapes", unfollowed := true, recurses := true, apart := false, narrowed := true }
def PairShapesUptoSaid : Prop := pairShapesUptoRow.holds Try.pinned (OpenSpec.upto pairShapesSpec)

/-- 'standstilllaw08.PairSteps', WHERE WHAT IT READS IS OF BULK AT MOST 1048576: true; the input reads as it did. -/
def pairStepsUptoRow : OpenClaim := { program := "ytckabinmmficlaa", sum := "01f3c0966c7a14e785fd153b2838c79ea1c84d70a423bf3611248be41288cc48", func := "standstill/standstilllaw08.PairSteps", spec := "pairSteps", unfollowed := true, recurses := true, apart := false, narrowed := true }
def PairStepsUptoSaid : Prop := pairStepsUptoRow.holds Try.pinned (OpenSpec.upto pairStepsSpec)

/-- 'standstilllaw08.PairRuns', WHERE WHAT IT READS IS OF BULK AT MOST 1048576: true; the input reads as it did. -/
def pairRunsUptoRow : OpenClaim := { program := "ytckabinmmficlaa", sum := "01f3c0966c7a14e785fd153b2838c79ea1c84d70a423bf3611248be41288cc48", func := "standstill/standstilllaw08.PairRuns", spec := "pairRuns", unfollowed := true, recurses := true, apart := false, narrowed := true }
def PairRunsUptoSaid : Prop := pairRunsUptoRow.holds Try.pinned (OpenSpec.upto pairRunsSpec)

end Rows
end Go.Proofs.Ytckabinmmficlaa
