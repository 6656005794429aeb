/-
  DERIVED. GIVEN WITH THE SEED: THE CARDS: each row of YtoobkajilbmdhaaDoorRows.lean that lists a variable, with what it lists TIED to the program's text (the seventh form; the later family's looks); each row that meets fmt, with fmt's text TOLD by the authors' own Lean function (tested against real Go, not proved from fmt's source: count such statements apart). THE CARD IS WHAT COUNTS. Prove the row's statement (the work); the ties are given (YtoobkajilbmdhaaDoorTie.lean); close each card by the builder's one call (the guide's Derived/Test/ToyasCard.lean, 'card_holds'). Laid BY PROGRAM, IN A SANDBOX (cutbox-door.mjs). By AI agents, Wed Nov 11 2026. No macro, syntax, notation, axiom, sorry.
-/
import Derived.Test.YtoobkajilbmdhaaDoorRows
import GoSem.ClaimSeven
namespace Go.Proofs.YtoobkajilbmdhaaDoor
namespace Rows

/-- THE TIED CARD OF 'laws.FnPool'. -/
def fnPoolCard : Claim7 := { stood := { row := fnPoolRow, standIns := [], harness := (true, "629e8ab376811666f38767483a4b4c5a348f8ff9f703c109b0f070d5e46130a8"), looks := false }, kinds := [], alts := [], laidByText := true, laidKinds := [.data], laidTests := true, laidLooks := .later }
def FnPoolCardSaid : Prop := Claim7.holds Tryd.pinned (.plain (OpenSpec.ofChange fnPoolSpec)) fnPoolCard

/-- THE TIED CARD OF 'laws.FnExactNodeFill'. -/
def fnExactNodeFillCard : Claim7 := { stood := { row := fnExactNodeFillRow, standIns := [], harness := (true, "629e8ab376811666f38767483a4b4c5a348f8ff9f703c109b0f070d5e46130a8"), looks := false }, kinds := [], alts := [], laidByText := true, laidKinds := [.data], laidTests := true, laidLooks := .later }
def FnExactNodeFillCardSaid : Prop := Claim7.holds Tryd.pinned (.plain (OpenSpec.ofChange fnExactNodeFillSpec)) fnExactNodeFillCard

/-- THE TIED CARD OF 'laws.FnExactNodeTurn'. -/
def fnExactNodeTurnCard : Claim7 := { stood := { row := fnExactNodeTurnRow, standIns := [], harness := (true, "629e8ab376811666f38767483a4b4c5a348f8ff9f703c109b0f070d5e46130a8"), looks := false }, kinds := [], alts := [], laidByText := true, laidKinds := [.data], laidTests := true, laidLooks := .later }
def FnExactNodeTurnCardSaid : Prop := Claim7.holds Tryd.pinned (.plain (OpenSpec.ofChange fnExactNodeTurnSpec)) fnExactNodeTurnCard

/-- THE SECOND FORM's CARD OF 'laws.FnPool'. -/
def fnPoolUptoCard : Claim7 := { stood := { row := fnPoolUptoRow, standIns := [], harness := (true, "629e8ab376811666f38767483a4b4c5a348f8ff9f703c109b0f070d5e46130a8"), looks := false }, kinds := [], alts := [], laidByText := true, laidKinds := [.data], laidTests := true, laidLooks := .later }
def FnPoolUptoCardSaid : Prop := Claim7.holds Tryd.pinned (.plain (OpenSpec.upto fnPoolSpec)) fnPoolUptoCard

/-- THE SECOND FORM's CARD OF 'laws.FnExactNodeFill'. -/
def fnExactNodeFillUptoCard : Claim7 := { stood := { row := fnExactNodeFillUptoRow, standIns := [], harness := (true, "629e8ab376811666f38767483a4b4c5a348f8ff9f703c109b0f070d5e46130a8"), looks := false }, kinds := [], alts := [], laidByText := true, laidKinds := [.data], laidTests := true, laidLooks := .later }
def FnExactNodeFillUptoCardSaid : Prop := Claim7.holds Tryd.pinned (.plain (OpenSpec.upto fnExactNodeFillSpec)) fnExactNodeFillUptoCard

/-- THE SECOND FORM's CARD OF 'laws.FnExactNodeTurn'. -/
def fnExactNodeTurnUptoCard : Claim7 := { stood := { row := fnExactNodeTurnUptoRow, standIns := [], harness := (true, "629e8ab376811666f38767483a4b4c5a348f8ff9f703c109b0f070d5e46130a8"), looks := false }, kinds := [], alts := [], laidByText := true, laidKinds := [.data], laidTests := true, laidLooks := .later }
def FnExactNodeTurnUptoCardSaid : Prop := Claim7.holds Tryd.pinned (.plain (OpenSpec.upto fnExactNodeTurnSpec)) fnExactNodeTurnUptoCard
end Rows
end Go.Proofs.YtoobkajilbmdhaaDoor
