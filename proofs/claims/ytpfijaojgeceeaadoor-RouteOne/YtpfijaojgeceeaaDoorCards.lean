/-
  DERIVED. GIVEN WITH THE SEED: THE CARDS: each row of YtpfijaojgeceeaaDoorRows.lean that lists a variable, with what it lists TIED to the program's text (the seventh form; the later family's looks); each row that meets fmt, with fmt's text TOLD by the authors' own Lean function (tested against real Go, not proved from fmt's source: count such statements apart). THE CARD IS WHAT COUNTS. Prove the row's statement (the work); the ties are given (YtpfijaojgeceeaaDoorTie.lean); close each card by the builder's one call (the guide's Derived/Test/ToyasCard.lean, 'card_holds'). Laid BY PROGRAM, IN A SANDBOX (cutbox-door.mjs). By AI agents, Wed Nov 11 2026. No macro, syntax, notation, axiom, sorry.
-/
import Derived.Test.YtpfijaojgeceeaaDoorRows
import GoSem.ClaimSeven
namespace Go.Proofs.YtpfijaojgeceeaaDoor
namespace Rows

/-- THE TIED CARD OF 'inquestlaw23.RouteParses'. -/
def routeParsesCard : Claim7 := { stood := { row := routeParsesRow, standIns := [], harness := (true, "7a17bfb8f55746a5e5e102b1e133bac96144278a1d95cb05a4eb0f36587b99fb"), looks := true }, kinds := [], alts := [], laidByText := true, laidKinds := [.data, .data, .data, .sentinel, .sentinel, .data], laidTests := true, laidLooks := .later }
def RouteParsesCardSaid : Prop := Claim7.holds Tryd.pinned (.plain (OpenSpec.ofChange routeParsesSpec)) routeParsesCard

/-- THE TIED CARD OF 'inquestlaw23.RoutePrints'. -/
def routePrintsCard : Claim7 := { stood := { row := routePrintsRow, standIns := [], harness := (true, "7a17bfb8f55746a5e5e102b1e133bac96144278a1d95cb05a4eb0f36587b99fb"), looks := true }, kinds := [], alts := [], laidByText := true, laidKinds := [.data, .data, .data, .sentinel, .sentinel, .data], laidTests := true, laidLooks := .later }
def RoutePrintsCardSaid : Prop := Claim7.holds Tryd.pinned (.plain (OpenSpec.ofChange routePrintsSpec)) routePrintsCard

/-- THE TIED CARD OF 'inquestlaw23.RouteOne'. -/
def routeOneCard : Claim7 := { stood := { row := routeOneRow, standIns := [], harness := (true, "7a17bfb8f55746a5e5e102b1e133bac96144278a1d95cb05a4eb0f36587b99fb"), looks := true }, kinds := [], alts := [], laidByText := true, laidKinds := [.data, .data, .data, .sentinel, .sentinel, .data], laidTests := true, laidLooks := .later }
def RouteOneCardSaid : Prop := Claim7.holds Tryd.pinned (.plain (OpenSpec.ofChange routeOneSpec)) routeOneCard

/-- THE SECOND FORM's CARD OF 'inquestlaw23.RouteParses'. -/
def routeParsesUptoCard : Claim7 := { stood := { row := routeParsesUptoRow, standIns := [], harness := (true, "7a17bfb8f55746a5e5e102b1e133bac96144278a1d95cb05a4eb0f36587b99fb"), looks := true }, kinds := [], alts := [], laidByText := true, laidKinds := [.data, .data, .data, .sentinel, .sentinel, .data], laidTests := true, laidLooks := .later }
def RouteParsesUptoCardSaid : Prop := Claim7.holds Tryd.pinned (.plain (OpenSpec.upto routeParsesSpec)) routeParsesUptoCard

/-- THE SECOND FORM's CARD OF 'inquestlaw23.RoutePrints'. -/
def routePrintsUptoCard : Claim7 := { stood := { row := routePrintsUptoRow, standIns := [], harness := (true, "7a17bfb8f55746a5e5e102b1e133bac96144278a1d95cb05a4eb0f36587b99fb"), looks := true }, kinds := [], alts := [], laidByText := true, laidKinds := [.data, .data, .data, .sentinel, .sentinel, .data], laidTests := true, laidLooks := .later }
def RoutePrintsUptoCardSaid : Prop := Claim7.holds Tryd.pinned (.plain (OpenSpec.upto routePrintsSpec)) routePrintsUptoCard

/-- THE SECOND FORM's CARD OF 'inquestlaw23.RouteOne'. -/
def routeOneUptoCard : Claim7 := { stood := { row := routeOneUptoRow, standIns := [], harness := (true, "7a17bfb8f55746a5e5e102b1e133bac96144278a1d95cb05a4eb0f36587b99fb"), looks := true }, kinds := [], alts := [], laidByText := true, laidKinds := [.data, .data, .data, .sentinel, .sentinel, .data], laidTests := true, laidLooks := .later }
def RouteOneUptoCardSaid : Prop := Claim7.holds Tryd.pinned (.plain (OpenSpec.upto routeOneSpec)) routeOneUptoCard
end Rows
end Go.Proofs.YtpfijaojgeceeaaDoor
