/-
  No cell of these rows narrows 'for every input' (looked for: loops, veiled, ifaces, maps, wideKeys, modest, calm, conditions, laid).
  DERIVED. THE GIVEN ROWS OF THIS SEAT. 4 by the template 'for every input the law returns true; each argument reads behind the call as it read before'; 0 by the template 'total and deterministic' (their statements: YtbclhjcnopfegaaTotals.lean).
  GIVEN WITH THE SEED: the statements are not yours to turn. If you find one false, say at which input.
  Laid BY PROGRAM, IN A SANDBOX (cutbox-rows.mjs): the forced cells as the released guide's own fill.sh prints them over the translation 2149f7ac0e444e19… (all of the seat's roots in one cut). By AI agents, Wed Nov 11 2026. No macro, syntax, notation, axiom, sorry.
-/
import Derived.Test.YtbclhjcnopfegaaChecked
import GoSem.Claim
import GoSem.ClaimJoined
import GoSem.ClaimMapViews
import Derived.JoinedTies
import Derived.KernelRfl
namespace Go.Proofs.Ytbclhjcnopfegaa
/- THE CELL 'sum', in the pinned program and in every row, IS THE sha256 OF THE DUMP (.gsa) THAT YtbclhjcnopfegaaProg.lean LOADS. Nothing in Lean hashes anything: it is a label: what it is worth is what the hold of that sum in a sandbox is worth. -/
noncomputable def Try.pinned : Pinned := { name := "ytbclhjcnopfegaa", sum := "2149f7ac0e444e19b4caf8d6587bbb23007fe1246b8a3e1e209530cc3ded51b6", checked := Try.checked }
namespace Rows
def none {H : Type} : Left H := { results := [], args := [] }

/-- 'marsheslaw02.SumWraps': WHATEVER THE INPUT: true; the input reads as it did. -/
def sumWrapsSpec : ChangeSpec := { name := "sumWraps", fn := fun _ => fun
  | [d] => { results := [.lit (.bool true)], args := [d] }
  | _ => none }
def sumWrapsRow : OpenClaim := { program := "ytbclhjcnopfegaa", sum := "2149f7ac0e444e19b4caf8d6587bbb23007fe1246b8a3e1e209530cc3ded51b6", func := "marshes/marsheslaw02.SumWraps", spec := "sumWraps", unfollowed := true, recurses := true, apart := false }
def SumWrapsSaid : Prop := sumWrapsRow.holds Try.pinned (OpenSpec.ofChange sumWrapsSpec)

/-- ITS FALSE NEIGHBOUR: 'it returns false'. Refute it at one input. -/
def sumWrapsWrong : ChangeSpec := { name := "sumWraps", fn := fun _ => fun
  | [d] => { results := [.lit (.bool false)], args := [d] }
  | _ => none }
def SumWrapsWrongFalsely : Prop := sumWrapsRow.holds Try.pinned (OpenSpec.ofChange sumWrapsWrong)

/-- 'marsheslaw02.SumRuns': WHATEVER THE INPUT: true; the input reads as it did. -/
def sumRunsSpec : ChangeSpec := { name := "sumRuns", fn := fun _ => fun
  | [d1, d2, d3, d4, d5] => { results := [.lit (.bool true)], args := [d1, d2, d3, d4, d5] }
  | _ => none }
def sumRunsRow : OpenClaim := { program := "ytbclhjcnopfegaa", sum := "2149f7ac0e444e19b4caf8d6587bbb23007fe1246b8a3e1e209530cc3ded51b6", func := "marshes/marsheslaw02.SumRuns", spec := "sumRuns", unfollowed := true, recurses := true, apart := false }
def SumRunsSaid : Prop := sumRunsRow.holds Try.pinned (OpenSpec.ofChange sumRunsSpec)

/-- ITS FALSE NEIGHBOUR: 'it returns false'. Refute it at one input. -/
def sumRunsWrong : ChangeSpec := { name := "sumRuns", fn := fun _ => fun
  | [d1, d2, d3, d4, d5] => { results := [.lit (.bool false)], args := [d1, d2, d3, d4, d5] }
  | _ => none }
def SumRunsWrongFalsely : Prop := sumRunsRow.holds Try.pinned (OpenSpec.ofChange sumRunsWrong)

/-- 'marsheslaw02.SumStream': WHATEVER THE INPUT: true; the input reads as it did. -/
def sumStreamSpec : ChangeSpec := { name := "sumStream", fn := fun _ => fun
  | [d1, d2] => { results := [.lit (.bool true)], args := [d1, d2] }
  | _ => none }
def sumStreamRow : OpenClaim := { program := "ytbclhjcnopfegaa", sum := "2149f7ac0e444e19b4caf8d6587bbb23007fe1246b8a3e1e209530cc3ded51b6", func := "marshes/marsheslaw02.SumStream", spec := "sumStream", unfollowed := true, recurses := true, apart := false }
def SumStreamSaid : Prop := sumStreamRow.holds Try.pinned (OpenSpec.ofChange sumStreamSpec)

/-- ITS FALSE NEIGHBOUR: 'it returns false'. Refute it at one input. -/
def sumStreamWrong : ChangeSpec := { name := "sumStream", fn := fun _ => fun
  | [d1, d2] => { results := [.lit (.bool false)], args := [d1, d2] }
  | _ => none }
def SumStreamWrongFalsely : Prop := sumStreamRow.holds Try.pinned (OpenSpec.ofChange sumStreamWrong)

/-- 'marsheslaw02.SumLaid': WHATEVER THE INPUT: true; the input reads as it did. -/
def sumLaidSpec : ChangeSpec := { name := "sumLaid", fn := fun _ => fun
  | [d1, d2, d3, d4] => { results := [.lit (.bool true)], args := [d1, d2, d3, d4] }
  | _ => none }
def sumLaidRow : OpenClaim := { program := "ytbclhjcnopfegaa", sum := "2149f7ac0e444e19b4caf8d6587bbb23007fe1246b8a3e1e209530cc3ded51b6", func := "marshes/marsheslaw02.SumLaid", spec := "sumLaid", unfollowed := true, recurses := true, apart := false }
def SumLaidSaid : Prop := sumLaidRow.holds Try.pinned (OpenSpec.ofChange sumLaidSpec)

/-- ITS FALSE NEIGHBOUR: 'it returns false'. Refute it at one input. -/
def sumLaidWrong : ChangeSpec := { name := "sumLaid", fn := fun _ => fun
  | [d1, d2, d3, d4] => { results := [.lit (.bool false)], args := [d1, d2, d3, d4] }
  | _ => none }
def SumLaidWrongFalsely : Prop := sumLaidRow.holds Try.pinned (OpenSpec.ofChange sumLaidWrong)

/- THE SECOND FORM. 'bulk': how many values and letters a reading holds, each counted each time it is reached (what is shared counts as often as it is met; a slice's spare places count too). A statement '..UptoSaid' is the law's where the arguments, and the package variables that the reading takes, are together of bulk at most 1048576: NARROWER than '..Said'. Prove '..Said' where nothing that the law and all that it calls make is longer than what came in: it says more and counts as full. Else prove '..UptoSaid'. A law counts once. -/
mutual
def uptoBulk {H : Type} : DataW H → Nat
  | .lit (.string bytes) => bytes.length + 1
  | .lit _ => 1
  | .nil => 1
  | .ptr d => uptoBulk d + 1
  | .slice elems spare => uptoBulkAll elems + uptoBulkAll spare + 1
  | .agg parts => uptoBulkAll parts + 1
  | .iface _ d => uptoBulk d + 1
  | .map entries => uptoBulkEntries entries + 1
  | .held _ => 1
def uptoBulkAll {H : Type} : List (DataW H) → Nat
  | [] => 0
  | d :: r => uptoBulk d + uptoBulkAll r
def uptoBulkEntries {H : Type} : List (Lit × DataW H) → Nat
  | [] => 0
  | x :: r => uptoBulkEntry x + uptoBulkEntries r
def uptoBulkEntry {H : Type} : Lit × DataW H → Nat
  | (.string bytes, d) => bytes.length + uptoBulk d + 1
  | (_, d) => uptoBulk d + 1
 end
def uptoSmall : (H : Type) → List (DataW H) → Bool := fun _ ds => decide (uptoBulkAll ds ≤ 1048576)
def OpenSpec.upto (s : _root_.Go.ChangeSpec) : _root_.Go.OpenSpec := { _root_.Go.OpenSpec.ofChange s with cond := some uptoSmall }

/-- 'marsheslaw02.SumWraps', WHERE WHAT IT READS IS OF BULK AT MOST 1048576: true; the input reads as it did. -/
def sumWrapsUptoRow : OpenClaim := { program := "ytbclhjcnopfegaa", sum := "2149f7ac0e444e19b4caf8d6587bbb23007fe1246b8a3e1e209530cc3ded51b6", func := "marshes/marsheslaw02.SumWraps", spec := "sumWraps", unfollowed := true, recurses := true, apart := false, narrowed := true }
def SumWrapsUptoSaid : Prop := sumWrapsUptoRow.holds Try.pinned (OpenSpec.upto sumWrapsSpec)

/-- 'marsheslaw02.SumRuns', WHERE WHAT IT READS IS OF BULK AT MOST 1048576: true; the input reads as it did. -/
def sumRunsUptoRow : OpenClaim := { program := "ytbclhjcnopfegaa", sum := "2149f7ac0e444e19b4caf8d6587bbb23007fe1246b8a3e1e209530cc3ded51b6", func := "marshes/marsheslaw02.SumRuns", spec := "sumRuns", unfollowed := true, recurses := true, apart := false, narrowed := true }
def SumRunsUptoSaid : Prop := sumRunsUptoRow.holds Try.pinned (OpenSpec.upto sumRunsSpec)

/-- 'marsheslaw02.SumStream', WHERE WHAT IT READS IS OF BULK AT MOST 1048576: true; the input reads as it did. -/
def sumStreamUptoRow : OpenClaim := { program := "ytbclhjcnopfegaa", sum := "2149f7ac0e444e19b4caf8d6587bbb23007fe1246b8a3e1e209530cc3ded51b6", func := "marshes/marsheslaw02.SumStream", spec := "sumStream", unfollowed := true, recurses := true, apart := false, narrowed := true }
def SumStreamUptoSaid : Prop := sumStreamUptoRow.holds Try.pinned (OpenSpec.upto sumStreamSpec)

/-- 'marsheslaw02.SumLaid', WHERE WHAT IT READS IS OF BULK AT MOST 1048576: true; the input reads as it did. -/
def sumLaidUptoRow : OpenClaim := { program := "ytbclhjcnopfegaa", sum := "2149f7ac0e444e19b4caf8d6587bbb23007fe1246b8a3e1e209530cc3ded51b6", func := "marshes/marsheslaw02.SumLaid", spec := "sumLaid", unfollowed := true, recurses := true, apart := false, narrowed := true }
def SumLaidUptoSaid : Prop := sumLaidUptoRow.holds Try.pinned (OpenSpec.upto sumLaidSpec)

end Rows
end Go.Proofs.Ytbclhjcnopfegaa
