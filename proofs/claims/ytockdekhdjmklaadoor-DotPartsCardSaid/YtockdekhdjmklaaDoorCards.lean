/-
  DERIVED. GIVEN WITH THE SEED: THE CARDS: each row of YtockdekhdjmklaaDoorRows.lean that lists a variable, with what it lists TIED to the program's text (the seventh form; the later family's looks); each row that meets fmt, with fmt's text TOLD by the authors' own Lean function (tested against real Go, not proved from fmt's source: count such statements apart). THE CARD IS WHAT COUNTS. Prove the row's statement (the work); the ties are given (YtockdekhdjmklaaDoorTie.lean); close each card by the builder's one call (the guide's Derived/Test/ToyasCard.lean, 'card_holds'). Laid BY PROGRAM, IN A SANDBOX (cutbox-door.mjs). By AI agents, Wed Nov 11 2026. No macro, syntax, notation, axiom, sorry.
-/
import Derived.Test.YtockdekhdjmklaaDoorRows
import GoSem.ClaimSeven
namespace Go.Proofs.YtockdekhdjmklaaDoor
namespace Rows

/-- THE TIED CARD OF 'marsheslaw05.DotForms'. -/
def dotFormsCard : Claim7 := { stood := { row := dotFormsRow, standIns := [], harness := (true, "341edd60e2594b3020a09df3902347cd99affc442f98ece7c0fa696f02bb1c86"), looks := true }, kinds := [], alts := [], laidByText := true, laidKinds := [.data, .data, .data, .sentinel, .sentinel], laidTests := true, laidLooks := .later }
def DotFormsCardSaid : Prop := Claim7.holds Tryd.pinned (.plain (OpenSpec.ofChange dotFormsSpec)) dotFormsCard

/-- THE TIED CARD OF 'marsheslaw05.DotNames'. -/
def dotNamesCard : Claim7 := { stood := { row := dotNamesRow, standIns := [], harness := (true, "341edd60e2594b3020a09df3902347cd99affc442f98ece7c0fa696f02bb1c86"), looks := true }, kinds := [], alts := [], laidByText := true, laidKinds := [.data, .data, .data, .sentinel, .sentinel], laidTests := true, laidLooks := .later }
def DotNamesCardSaid : Prop := Claim7.holds Tryd.pinned (.plain (OpenSpec.ofChange dotNamesSpec)) dotNamesCard

/-- THE TIED CARD OF 'marsheslaw05.DotBack'. -/
def dotBackCard : Claim7 := { stood := { row := dotBackRow, standIns := [], harness := (true, "341edd60e2594b3020a09df3902347cd99affc442f98ece7c0fa696f02bb1c86"), looks := true }, kinds := [], alts := [], laidByText := true, laidKinds := [.data, .data, .data, .sentinel, .sentinel], laidTests := true, laidLooks := .later }
def DotBackCardSaid : Prop := Claim7.holds Tryd.pinned (.plain (OpenSpec.ofChange dotBackSpec)) dotBackCard

/-- THE TIED CARD OF 'marsheslaw05.DotParts'. -/
def dotPartsCard : Claim7 := { stood := { row := dotPartsRow, standIns := [], harness := (true, "341edd60e2594b3020a09df3902347cd99affc442f98ece7c0fa696f02bb1c86"), looks := true }, kinds := [], alts := [], laidByText := true, laidKinds := [.data, .data, .data], laidTests := true, laidLooks := .later }
def DotPartsCardSaid : Prop := Claim7.holds Tryd.pinned (.plain (OpenSpec.ofChange dotPartsSpec)) dotPartsCard

/-- THE TIED CARD OF 'marsheslaw05.DotOrder'. -/
def dotOrderCard : Claim7 := { stood := { row := dotOrderRow, standIns := [], harness := (true, "341edd60e2594b3020a09df3902347cd99affc442f98ece7c0fa696f02bb1c86"), looks := true }, kinds := [], alts := [], laidByText := true, laidKinds := [.data, .data, .data], laidTests := true, laidLooks := .later }
def DotOrderCardSaid : Prop := Claim7.holds Tryd.pinned (.plain (OpenSpec.ofChange dotOrderSpec)) dotOrderCard

/-- THE SECOND FORM's CARD OF 'marsheslaw05.DotForms'. -/
def dotFormsUptoCard : Claim7 := { stood := { row := dotFormsUptoRow, standIns := [], harness := (true, "341edd60e2594b3020a09df3902347cd99affc442f98ece7c0fa696f02bb1c86"), looks := true }, kinds := [], alts := [], laidByText := true, laidKinds := [.data, .data, .data, .sentinel, .sentinel], laidTests := true, laidLooks := .later }
def DotFormsUptoCardSaid : Prop := Claim7.holds Tryd.pinned (.plain (OpenSpec.upto dotFormsSpec)) dotFormsUptoCard

/-- THE SECOND FORM's CARD OF 'marsheslaw05.DotNames'. -/
def dotNamesUptoCard : Claim7 := { stood := { row := dotNamesUptoRow, standIns := [], harness := (true, "341edd60e2594b3020a09df3902347cd99affc442f98ece7c0fa696f02bb1c86"), looks := true }, kinds := [], alts := [], laidByText := true, laidKinds := [.data, .data, .data, .sentinel, .sentinel], laidTests := true, laidLooks := .later }
def DotNamesUptoCardSaid : Prop := Claim7.holds Tryd.pinned (.plain (OpenSpec.upto dotNamesSpec)) dotNamesUptoCard

/-- THE SECOND FORM's CARD OF 'marsheslaw05.DotBack'. -/
def dotBackUptoCard : Claim7 := { stood := { row := dotBackUptoRow, standIns := [], harness := (true, "341edd60e2594b3020a09df3902347cd99affc442f98ece7c0fa696f02bb1c86"), looks := true }, kinds := [], alts := [], laidByText := true, laidKinds := [.data, .data, .data, .sentinel, .sentinel], laidTests := true, laidLooks := .later }
def DotBackUptoCardSaid : Prop := Claim7.holds Tryd.pinned (.plain (OpenSpec.upto dotBackSpec)) dotBackUptoCard

/-- THE SECOND FORM's CARD OF 'marsheslaw05.DotParts'. -/
def dotPartsUptoCard : Claim7 := { stood := { row := dotPartsUptoRow, standIns := [], harness := (true, "341edd60e2594b3020a09df3902347cd99affc442f98ece7c0fa696f02bb1c86"), looks := true }, kinds := [], alts := [], laidByText := true, laidKinds := [.data, .data, .data], laidTests := true, laidLooks := .later }
def DotPartsUptoCardSaid : Prop := Claim7.holds Tryd.pinned (.plain (OpenSpec.upto dotPartsSpec)) dotPartsUptoCard

/-- THE SECOND FORM's CARD OF 'marsheslaw05.DotOrder'. -/
def dotOrderUptoCard : Claim7 := { stood := { row := dotOrderUptoRow, standIns := [], harness := (true, "341edd60e2594b3020a09df3902347cd99affc442f98ece7c0fa696f02bb1c86"), looks := true }, kinds := [], alts := [], laidByText := true, laidKinds := [.data, .data, .data], laidTests := true, laidLooks := .later }
def DotOrderUptoCardSaid : Prop := Claim7.holds Tryd.pinned (.plain (OpenSpec.upto dotOrderSpec)) dotOrderUptoCard
end Rows
end Go.Proofs.YtockdekhdjmklaaDoor
