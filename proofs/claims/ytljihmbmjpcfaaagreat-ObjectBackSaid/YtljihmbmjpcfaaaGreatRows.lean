/-
  No cell of these rows narrows 'for every input' (looked for: loops, veiled, ifaces, maps, wideKeys, modest, calm, conditions, laid).
  DERIVED. THE GIVEN ROWS OF THIS SEAT. 8 by the template 'for every input the law returns true; each argument reads behind the call as it read before'; 0 by the template 'total and deterministic' (their statements: YtljihmbmjpcfaaaGreatTotals.lean).
  GIVEN WITH THE SEED: the statements are not yours to turn. If you find one false, say at which input.
  Laid BY PROGRAM, IN A SANDBOX (cutbox-rows.mjs): the forced cells as the released guide's own fill.sh prints them over the translation d23a09dafe7c32c2… (all of the seat's roots in one cut). By AI agents, Wed Nov 11 2026. No macro, syntax, notation, axiom, sorry.
-/
import Derived.Test.YtljihmbmjpcfaaaGreatChecked
import GoSem.Claim
import GoSem.ClaimJoined
import GoSem.ClaimMapViews
import Derived.JoinedTies
import Derived.KernelRfl
namespace Go.Proofs.YtljihmbmjpcfaaaGreat
/- THE CELL 'sum', in the pinned program and in every row, IS THE sha256 OF THE DUMP (.gsa) THAT YtljihmbmjpcfaaaGreatProg.lean LOADS. Nothing in Lean hashes anything: it is a label: what it is worth is what the hold of that sum in a sandbox is worth. -/
noncomputable def Tryz.pinned : Pinned := { name := "ytljihmbmjpcfaaagreat", sum := "d23a09dafe7c32c21e0b2a6a0ebd4d1f4d490d597ad8c2490828eb4915fdbf3f", checked := Tryz.checked }
namespace Rows
def none {H : Type} : Left H := { results := [], args := [] }

/-- 'marsheslaw07.ObjectBack': WHATEVER THE INPUT: true; the input reads as it did. -/
def objectBackSpec : ChangeSpec := { name := "objectBack", fn := fun _ => fun
  | [d1, d2] => { results := [.lit (.bool true)], args := [d1, d2] }
  | _ => none }
def objectBackRow : OpenClaim := { program := "ytljihmbmjpcfaaagreat", sum := "d23a09dafe7c32c21e0b2a6a0ebd4d1f4d490d597ad8c2490828eb4915fdbf3f", func := "marshes/marsheslaw07.ObjectBack", spec := "objectBack", unfollowed := true, recurses := true, plainKeys := false, apart := false }
def ObjectBackSaid : Prop := objectBackRow.holds Tryz.pinned (OpenSpec.ofChange objectBackSpec)

/-- ITS FALSE NEIGHBOUR: 'it returns false'. Refute it at one input. -/
def objectBackWrong : ChangeSpec := { name := "objectBack", fn := fun _ => fun
  | [d1, d2] => { results := [.lit (.bool false)], args := [d1, d2] }
  | _ => none }
def ObjectBackWrongFalsely : Prop := objectBackRow.holds Tryz.pinned (OpenSpec.ofChange objectBackWrong)

/-- 'marsheslaw07.ObjectUnlike': WHATEVER THE INPUT: true; the input reads as it did. -/
def objectUnlikeSpec : ChangeSpec := { name := "objectUnlike", fn := fun _ => fun
  | [d1, d2] => { results := [.lit (.bool true)], args := [d1, d2] }
  | _ => none }
def objectUnlikeRow : OpenClaim := { program := "ytljihmbmjpcfaaagreat", sum := "d23a09dafe7c32c21e0b2a6a0ebd4d1f4d490d597ad8c2490828eb4915fdbf3f", func := "marshes/marsheslaw07.ObjectUnlike", spec := "objectUnlike", unfollowed := true, recurses := true, plainKeys := false, apart := false }
def ObjectUnlikeSaid : Prop := objectUnlikeRow.holds Tryz.pinned (OpenSpec.ofChange objectUnlikeSpec)

/-- ITS FALSE NEIGHBOUR: 'it returns false'. Refute it at one input. -/
def objectUnlikeWrong : ChangeSpec := { name := "objectUnlike", fn := fun _ => fun
  | [d1, d2] => { results := [.lit (.bool false)], args := [d1, d2] }
  | _ => none }
def ObjectUnlikeWrongFalsely : Prop := objectUnlikeRow.holds Tryz.pinned (OpenSpec.ofChange objectUnlikeWrong)

/-- 'marsheslaw09.ClosureWalks': WHATEVER THE INPUT: true; the input reads as it did. -/
def closureWalksSpec : ChangeSpec := { name := "closureWalks", fn := fun _ => fun
  | [d1, d2, d3] => { results := [.lit (.bool true)], args := [d1, d2, d3] }
  | _ => none }
def closureWalksRow : OpenClaim := { program := "ytljihmbmjpcfaaagreat", sum := "d23a09dafe7c32c21e0b2a6a0ebd4d1f4d490d597ad8c2490828eb4915fdbf3f", func := "marshes/marsheslaw09.ClosureWalks", spec := "closureWalks", inPlace := ["internal/bytealg.Compare"], unfollowed := true, recurses := true, plainKeys := false, apart := false }
def ClosureWalksSaid : Prop := closureWalksRow.holds Tryz.pinned (OpenSpec.ofChange closureWalksSpec)

/-- ITS FALSE NEIGHBOUR: 'it returns false'. Refute it at one input. -/
def closureWalksWrong : ChangeSpec := { name := "closureWalks", fn := fun _ => fun
  | [d1, d2, d3] => { results := [.lit (.bool false)], args := [d1, d2, d3] }
  | _ => none }
def ClosureWalksWrongFalsely : Prop := closureWalksRow.holds Tryz.pinned (OpenSpec.ofChange closureWalksWrong)

/-- 'marsheslaw09.ClosureNames': WHATEVER THE INPUT: true; the input reads as it did. -/
def closureNamesSpec : ChangeSpec := { name := "closureNames", fn := fun _ => fun
  | [] => { results := [.lit (.bool true)], args := [] }
  | _ => none }
def closureNamesRow : OpenClaim := { program := "ytljihmbmjpcfaaagreat", sum := "d23a09dafe7c32c21e0b2a6a0ebd4d1f4d490d597ad8c2490828eb4915fdbf3f", func := "marshes/marsheslaw09.ClosureNames", spec := "closureNames", inPlace := ["internal/bytealg.Compare"], unfollowed := true, recurses := true, plainKeys := false, apart := false }
def ClosureNamesSaid : Prop := closureNamesRow.holds Tryz.pinned (OpenSpec.ofChange closureNamesSpec)

/-- ITS FALSE NEIGHBOUR: 'it returns false'. Refute it at one input. -/
def closureNamesWrong : ChangeSpec := { name := "closureNames", fn := fun _ => fun
  | [] => { results := [.lit (.bool false)], args := [] }
  | _ => none }
def ClosureNamesWrongFalsely : Prop := closureNamesRow.holds Tryz.pinned (OpenSpec.ofChange closureNamesWrong)

/-- 'marsheslaw09.ClosureGrows': WHATEVER THE INPUT: true; the input reads as it did. -/
def closureGrowsSpec : ChangeSpec := { name := "closureGrows", fn := fun _ => fun
  | [d1, d2, d3, d4] => { results := [.lit (.bool true)], args := [d1, d2, d3, d4] }
  | _ => none }
def closureGrowsRow : OpenClaim := { program := "ytljihmbmjpcfaaagreat", sum := "d23a09dafe7c32c21e0b2a6a0ebd4d1f4d490d597ad8c2490828eb4915fdbf3f", func := "marshes/marsheslaw09.ClosureGrows", spec := "closureGrows", inPlace := ["internal/bytealg.Compare"], unfollowed := true, recurses := true, plainKeys := false, apart := false }
def ClosureGrowsSaid : Prop := closureGrowsRow.holds Tryz.pinned (OpenSpec.ofChange closureGrowsSpec)

/-- ITS FALSE NEIGHBOUR: 'it returns false'. Refute it at one input. -/
def closureGrowsWrong : ChangeSpec := { name := "closureGrows", fn := fun _ => fun
  | [d1, d2, d3, d4] => { results := [.lit (.bool false)], args := [d1, d2, d3, d4] }
  | _ => none }
def ClosureGrowsWrongFalsely : Prop := closureGrowsRow.holds Tryz.pinned (OpenSpec.ofChange closureGrowsWrong)

/-- 'marsheslaw09.ClosureParts': WHATEVER THE INPUT: true; the input reads as it did. -/
def closurePartsSpec : ChangeSpec := { name := "closureParts", fn := fun _ => fun
  | [d1, d2, d3] => { results := [.lit (.bool true)], args := [d1, d2, d3] }
  | _ => none }
def closurePartsRow : OpenClaim := { program := "ytljihmbmjpcfaaagreat", sum := "d23a09dafe7c32c21e0b2a6a0ebd4d1f4d490d597ad8c2490828eb4915fdbf3f", func := "marshes/marsheslaw09.ClosureParts", spec := "closureParts", inPlace := ["internal/bytealg.Compare"], unfollowed := true, recurses := true, plainKeys := false, apart := false }
def ClosurePartsSaid : Prop := closurePartsRow.holds Tryz.pinned (OpenSpec.ofChange closurePartsSpec)

/-- ITS FALSE NEIGHBOUR: 'it returns false'. Refute it at one input. -/
def closurePartsWrong : ChangeSpec := { name := "closureParts", fn := fun _ => fun
  | [d1, d2, d3] => { results := [.lit (.bool false)], args := [d1, d2, d3] }
  | _ => none }
def ClosurePartsWrongFalsely : Prop := closurePartsRow.holds Tryz.pinned (OpenSpec.ofChange closurePartsWrong)

/-- 'marsheslaw09.ClosureRises': WHATEVER THE INPUT: true; the input reads as it did. -/
def closureRisesSpec : ChangeSpec := { name := "closureRises", fn := fun _ => fun
  | [d1, d2, d3] => { results := [.lit (.bool true)], args := [d1, d2, d3] }
  | _ => none }
def closureRisesRow : OpenClaim := { program := "ytljihmbmjpcfaaagreat", sum := "d23a09dafe7c32c21e0b2a6a0ebd4d1f4d490d597ad8c2490828eb4915fdbf3f", func := "marshes/marsheslaw09.ClosureRises", spec := "closureRises", inPlace := ["internal/bytealg.Compare"], unfollowed := true, recurses := true, plainKeys := false, apart := false }
def ClosureRisesSaid : Prop := closureRisesRow.holds Tryz.pinned (OpenSpec.ofChange closureRisesSpec)

/-- ITS FALSE NEIGHBOUR: 'it returns false'. Refute it at one input. -/
def closureRisesWrong : ChangeSpec := { name := "closureRises", fn := fun _ => fun
  | [d1, d2, d3] => { results := [.lit (.bool false)], args := [d1, d2, d3] }
  | _ => none }
def ClosureRisesWrongFalsely : Prop := closureRisesRow.holds Tryz.pinned (OpenSpec.ofChange closureRisesWrong)

/-- 'marsheslaw09.ClosureSteps': WHATEVER THE INPUT: true; the input reads as it did. -/
def closureStepsSpec : ChangeSpec := { name := "closureSteps", fn := fun _ => fun
  | [d1, d2] => { results := [.lit (.bool true)], args := [d1, d2] }
  | _ => none }
def closureStepsRow : OpenClaim := { program := "ytljihmbmjpcfaaagreat", sum := "d23a09dafe7c32c21e0b2a6a0ebd4d1f4d490d597ad8c2490828eb4915fdbf3f", func := "marshes/marsheslaw09.ClosureSteps", spec := "closureSteps", inPlace := ["internal/bytealg.Compare"], unfollowed := true, recurses := true, plainKeys := false, apart := false }
def ClosureStepsSaid : Prop := closureStepsRow.holds Tryz.pinned (OpenSpec.ofChange closureStepsSpec)

/-- ITS FALSE NEIGHBOUR: 'it returns false'. Refute it at one input. -/
def closureStepsWrong : ChangeSpec := { name := "closureSteps", fn := fun _ => fun
  | [d1, d2] => { results := [.lit (.bool false)], args := [d1, d2] }
  | _ => none }
def ClosureStepsWrongFalsely : Prop := closureStepsRow.holds Tryz.pinned (OpenSpec.ofChange closureStepsWrong)

/- THE SECOND FORM. 'bulk': how many values and letters a reading holds, each counted each time it is reached (what is shared counts as often as it is met; a slice's spare places count too). A statement '..UptoSaid' is the law's where the arguments, and the package variables that the reading takes, are together of bulk at most 1048576: NARROWER than '..Said'. Prove '..Said' where nothing that the law and all that it calls make is longer than what came in: it says more and counts as full. Else prove '..UptoSaid'. A law counts once. -/
mutual
def uptoBulk {H : Type} : DataW H → Nat
  | .lit (.string bytes) => bytes.length + 1
  | .lit _ => 1
  | .nil => 1
  | .ptr d => uptoBulk d + 1
  | .slice elems spare => uptoBulkAll elems + uptoBulkAll spare + 1
  | .agg parts => uptoBulkAll parts + 1
  | .iface _ d => uptoBulk d + 1
  | .map entries => uptoBulkEntries entries + 1
  | .held _ => 1
def uptoBulkAll {H : Type} : List (DataW H) → Nat
  | [] => 0
  | d :: r => uptoBulk d + uptoBulkAll r
def uptoBulkEntries {H : Type} : List (Lit × DataW H) → Nat
  | [] => 0
  | x :: r => uptoBulkEntry x + uptoBulkEntries r
def uptoBulkEntry {H : Type} : Lit × DataW H → Nat
  | (.string bytes, d) => bytes.length + uptoBulk d + 1
  | (_, d) => uptoBulk d + 1
 end
def uptoSmall : (H : Type) → List (DataW H) → Bool := fun _ ds => decide (uptoBulkAll ds ≤ 1048576)
def OpenSpec.upto (s : _root_.Go.ChangeSpec) : _root_.Go.OpenSpec := { _root_.Go.OpenSpec.ofChange s with cond := some uptoSmall }

/-- 'marsheslaw07.ObjectBack', WHERE WHAT IT READS IS OF BULK AT MOST 1048576: true; the input reads as it did. -/
def objectBackUptoRow : OpenClaim := { program := "ytljihmbmjpcfaaagreat", sum := "d23a09dafe7c32c21e0b2a6a0ebd4d1f4d490d597ad8c2490828eb4915fdbf3f", func := "marshes/marsheslaw07.ObjectBack", spec := "objectBack", unfollowed := true, recurses := true, plainKeys := false, apart := false, narrowed := true }
def ObjectBackUptoSaid : Prop := objectBackUptoRow.holds Tryz.pinned (OpenSpec.upto objectBackSpec)

/-- 'marsheslaw07.ObjectUnlike', WHERE WHAT IT READS IS OF BULK AT MOST 1048576: true; the input reads as it did. -/
def objectUnlikeUptoRow : OpenClaim := { program := "ytljihmbmjpcfaaagreat", sum := "d23a09dafe7c32c21e0b2a6a0ebd4d1f4d490d597ad8c2490828eb4915fdbf3f", func := "marshes/marsheslaw07.ObjectUnlike", spec := "objectUnlike", unfollowed := true, recurses := true, plainKeys := false, apart := false, narrowed := true }
def ObjectUnlikeUptoSaid : Prop := objectUnlikeUptoRow.holds Tryz.pinned (OpenSpec.upto objectUnlikeSpec)

/-- 'marsheslaw09.ClosureWalks', WHERE WHAT IT READS IS OF BULK AT MOST 1048576: true; the input reads as it did. -/
def closureWalksUptoRow : OpenClaim := { program := "ytljihmbmjpcfaaagreat", sum := "d23a09dafe7c32c21e0b2a6a0ebd4d1f4d490d597ad8c2490828eb4915fdbf3f", func := "marshes/marsheslaw09.ClosureWalks", spec := "closureWalks", inPlace := ["internal/bytealg.Compare"], unfollowed := true, recurses := true, plainKeys := false, apart := false, narrowed := true }
def ClosureWalksUptoSaid : Prop := closureWalksUptoRow.holds Tryz.pinned (OpenSpec.upto closureWalksSpec)

/-- 'marsheslaw09.ClosureNames', WHERE WHAT IT READS IS OF BULK AT MOST 1048576: true; the input reads as it did. -/
def closureNamesUptoRow : OpenClaim := { program := "ytljihmbmjpcfaaagreat", sum := "d23a09dafe7c32c21e0b2a6a0ebd4d1f4d490d597ad8c2490828eb4915fdbf3f", func := "marshes/marsheslaw09.ClosureNames", spec := "closureNames", inPlace := ["internal/bytealg.Compare"], unfollowed := true, recurses := true, plainKeys := false, apart := false, narrowed := true }
def ClosureNamesUptoSaid : Prop := closureNamesUptoRow.holds Tryz.pinned (OpenSpec.upto closureNamesSpec)

/-- 'marsheslaw09.ClosureGrows', WHERE WHAT IT READS IS OF BULK AT MOST 1048576: true; the input reads as it did. -/
def closureGrowsUptoRow : OpenClaim := { program := "ytljihmbmjpcfaaagreat", sum := "d23a09dafe7c32c21e0b2a6a0ebd4d1f4d490d597ad8c2490828eb4915fdbf3f", func := "marshes/marsheslaw09.ClosureGrows", spec := "closureGrows", inPlace := ["internal/bytealg.Compare"], unfollowed := true, recurses := true, plainKeys := false, apart := false, narrowed := true }
def ClosureGrowsUptoSaid : Prop := closureGrowsUptoRow.holds Tryz.pinned (OpenSpec.upto closureGrowsSpec)

/-- 'marsheslaw09.ClosureParts', WHERE WHAT IT READS IS OF BULK AT MOST 1048576: true; the input reads as it did. -/
def closurePartsUptoRow : OpenClaim := { program := "ytljihmbmjpcfaaagreat", sum := "d23a09dafe7c32c21e0b2a6a0ebd4d1f4d490d597ad8c2490828eb4915fdbf3f", func := "marshes/marsheslaw09.ClosureParts", spec := "closureParts", inPlace := ["internal/bytealg.Compare"], unfollowed := true, recurses := true, plainKeys := false, apart := false, narrowed := true }
def ClosurePartsUptoSaid : Prop := closurePartsUptoRow.holds Tryz.pinned (OpenSpec.upto closurePartsSpec)

/-- 'marsheslaw09.ClosureRises', WHERE WHAT IT READS IS OF BULK AT MOST 1048576: true; the input reads as it did. -/
def closureRisesUptoRow : OpenClaim := { program := "ytljihmbmjpcfaaagreat", sum := "d23a09dafe7c32c21e0b2a6a0ebd4d1f4d490d597ad8c2490828eb4915fdbf3f", func := "marshes/marsheslaw09.ClosureRises", spec := "closureRises", inPlace := ["internal/bytealg.Compare"], unfollowed := true, recurses := true, plainKeys := false, apart := false, narrowed := true }
def ClosureRisesUptoSaid : Prop := closureRisesUptoRow.holds Tryz.pinned (OpenSpec.upto closureRisesSpec)

/-- 'marsheslaw09.ClosureSteps', WHERE WHAT IT READS IS OF BULK AT MOST 1048576: true; the input reads as it did. -/
def closureStepsUptoRow : OpenClaim := { program := "ytljihmbmjpcfaaagreat", sum := "d23a09dafe7c32c21e0b2a6a0ebd4d1f4d490d597ad8c2490828eb4915fdbf3f", func := "marshes/marsheslaw09.ClosureSteps", spec := "closureSteps", inPlace := ["internal/bytealg.Compare"], unfollowed := true, recurses := true, plainKeys := false, apart := false, narrowed := true }
def ClosureStepsUptoSaid : Prop := closureStepsUptoRow.holds Tryz.pinned (OpenSpec.upto closureStepsSpec)

end Rows
end Go.Proofs.YtljihmbmjpcfaaaGreat
