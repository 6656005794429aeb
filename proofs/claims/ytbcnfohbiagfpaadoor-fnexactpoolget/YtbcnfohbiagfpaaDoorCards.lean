/-
  DERIVED. GIVEN WITH THE SEED: THE CARDS: each row of YtbcnfohbiagfpaaDoorRows.lean that lists a variable, with what it lists TIED to the program's text (the seventh form; the later family's looks); each row that meets fmt, with fmt's text TOLD by the authors' own Lean function (tested against real Go, not proved from fmt's source: count such statements apart). THE CARD IS WHAT COUNTS. Prove the row's statement (the work); the ties are given (YtbcnfohbiagfpaaDoorTie.lean); close each card by the builder's one call (the guide's Derived/Test/ToyasCard.lean, 'card_holds'). Laid BY PROGRAM, IN A SANDBOX (cutbox-door.mjs). By AI agents, Wed Nov 11 2026. No macro, syntax, notation, axiom, sorry.
-/
import Derived.Test.YtbcnfohbiagfpaaDoorRows
import GoSem.ClaimSeven
namespace Go.Proofs.YtbcnfohbiagfpaaDoor
namespace Rows

/-- THE TIED CARD OF 'laws.FnPool'. -/
def fnPoolCard : Claim7 := { stood := { row := fnPoolRow, standIns := [], harness := (true, "a5811d8ea47bbd5423a6c2af8bb613e36227701927771a0503d23b47d14f5f40"), looks := false }, kinds := [], alts := [], laidByText := true, laidKinds := [.data], laidTests := true, laidLooks := .later }
def FnPoolCardSaid : Prop := Claim7.holds Tryd.pinned (.plain (OpenSpec.ofChange fnPoolSpec)) fnPoolCard

/-- THE TIED CARD OF 'laws.FnExactPoolGet'. -/
def fnExactPoolGetCard : Claim7 := { stood := { row := fnExactPoolGetRow, standIns := [], harness := (true, "a5811d8ea47bbd5423a6c2af8bb613e36227701927771a0503d23b47d14f5f40"), looks := false }, kinds := [], alts := [], laidByText := true, laidKinds := [.data], laidTests := true, laidLooks := .later }
def FnExactPoolGetCardSaid : Prop := Claim7.holds Tryd.pinned (.plain (OpenSpec.ofChange fnExactPoolGetSpec)) fnExactPoolGetCard

/-- THE TIED CARD OF 'laws.FnExactPoolAt'. -/
def fnExactPoolAtCard : Claim7 := { stood := { row := fnExactPoolAtRow, standIns := [], harness := (true, "a5811d8ea47bbd5423a6c2af8bb613e36227701927771a0503d23b47d14f5f40"), looks := false }, kinds := [], alts := [], laidByText := true, laidKinds := [.data], laidTests := true, laidLooks := .later }
def FnExactPoolAtCardSaid : Prop := Claim7.holds Tryd.pinned (.plain (OpenSpec.ofChange fnExactPoolAtSpec)) fnExactPoolAtCard

/-- THE TIED CARD OF 'laws.FnExactPoolSet'. -/
def fnExactPoolSetCard : Claim7 := { stood := { row := fnExactPoolSetRow, standIns := [], harness := (true, "a5811d8ea47bbd5423a6c2af8bb613e36227701927771a0503d23b47d14f5f40"), looks := false }, kinds := [], alts := [], laidByText := true, laidKinds := [.data], laidTests := true, laidLooks := .later }
def FnExactPoolSetCardSaid : Prop := Claim7.holds Tryd.pinned (.plain (OpenSpec.ofChange fnExactPoolSetSpec)) fnExactPoolSetCard

/-- THE SECOND FORM's CARD OF 'laws.FnPool'. -/
def fnPoolUptoCard : Claim7 := { stood := { row := fnPoolUptoRow, standIns := [], harness := (true, "a5811d8ea47bbd5423a6c2af8bb613e36227701927771a0503d23b47d14f5f40"), looks := false }, kinds := [], alts := [], laidByText := true, laidKinds := [.data], laidTests := true, laidLooks := .later }
def FnPoolUptoCardSaid : Prop := Claim7.holds Tryd.pinned (.plain (OpenSpec.upto fnPoolSpec)) fnPoolUptoCard

/-- THE SECOND FORM's CARD OF 'laws.FnExactPoolGet'. -/
def fnExactPoolGetUptoCard : Claim7 := { stood := { row := fnExactPoolGetUptoRow, standIns := [], harness := (true, "a5811d8ea47bbd5423a6c2af8bb613e36227701927771a0503d23b47d14f5f40"), looks := false }, kinds := [], alts := [], laidByText := true, laidKinds := [.data], laidTests := true, laidLooks := .later }
def FnExactPoolGetUptoCardSaid : Prop := Claim7.holds Tryd.pinned (.plain (OpenSpec.upto fnExactPoolGetSpec)) fnExactPoolGetUptoCard

/-- THE SECOND FORM's CARD OF 'laws.FnExactPoolAt'. -/
def fnExactPoolAtUptoCard : Claim7 := { stood := { row := fnExactPoolAtUptoRow, standIns := [], harness := (true, "a5811d8ea47bbd5423a6c2af8bb613e36227701927771a0503d23b47d14f5f40"), looks := false }, kinds := [], alts := [], laidByText := true, laidKinds := [.data], laidTests := true, laidLooks := .later }
def FnExactPoolAtUptoCardSaid : Prop := Claim7.holds Tryd.pinned (.plain (OpenSpec.upto fnExactPoolAtSpec)) fnExactPoolAtUptoCard

/-- THE SECOND FORM's CARD OF 'laws.FnExactPoolSet'. -/
def fnExactPoolSetUptoCard : Claim7 := { stood := { row := fnExactPoolSetUptoRow, standIns := [], harness := (true, "a5811d8ea47bbd5423a6c2af8bb613e36227701927771a0503d23b47d14f5f40"), looks := false }, kinds := [], alts := [], laidByText := true, laidKinds := [.data], laidTests := true, laidLooks := .later }
def FnExactPoolSetUptoCardSaid : Prop := Claim7.holds Tryd.pinned (.plain (OpenSpec.upto fnExactPoolSetSpec)) fnExactPoolSetUptoCard
end Rows
end Go.Proofs.YtbcnfohbiagfpaaDoor
