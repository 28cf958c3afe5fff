/-
  DERIVED. GIVEN WITH THE SEED: THE CARDS: each row of YthafoodchbpgdabDoorRows.lean that lists a variable, with what it lists TIED to the program's text (the seventh form; the later family's looks); each row that meets fmt, with fmt's text TOLD by the authors' own Lean function (tested against real Go, not proved from fmt's source: count such statements apart). THE CARD IS WHAT COUNTS. Prove the row's statement (the work); the ties are given (YthafoodchbpgdabDoorTie.lean); close each card by the builder's one call (the guide's Derived/Test/ToyasCard.lean, 'card_holds'). Laid BY PROGRAM, IN A SANDBOX (cutbox-door.mjs). By AI agents, Wed Nov 11 2026. No macro, syntax, notation, axiom, sorry.
-/
import Derived.Test.YthafoodchbpgdabDoorRows
import GoSem.ClaimSeven
namespace Go.Proofs.YthafoodchbpgdabDoor
namespace Rows

/-- THE TIED CARD OF 'laws.FnExactCountOnes'. -/
def fnExactCountOnesCard : Claim7 := { stood := { row := fnExactCountOnesRow, standIns := [], harness := (true, "7e3f990f7867adf18cfcbd778c4bf745ea88ce681818e673fd19a951b1b724bb"), looks := false }, kinds := [], alts := [], laidByText := true, laidKinds := [.data], laidTests := true, laidLooks := .later }
def FnExactCountOnesCardSaid : Prop := Claim7.holds Tryd.pinned (.plain (OpenSpec.ofChange fnExactCountOnesSpec)) fnExactCountOnesCard

/-- THE TIED CARD OF 'laws.FnExactLowestOne'. -/
def fnExactLowestOneCard : Claim7 := { stood := { row := fnExactLowestOneRow, standIns := [], harness := (true, "7e3f990f7867adf18cfcbd778c4bf745ea88ce681818e673fd19a951b1b724bb"), looks := false }, kinds := [], alts := [], laidByText := true, laidKinds := [.data], laidTests := true, laidLooks := .later }
def FnExactLowestOneCardSaid : Prop := Claim7.holds Tryd.pinned (.plain (OpenSpec.ofChange fnExactLowestOneSpec)) fnExactLowestOneCard

/-- THE SECOND FORM's CARD OF 'laws.FnExactCountOnes'. -/
def fnExactCountOnesUptoCard : Claim7 := { stood := { row := fnExactCountOnesUptoRow, standIns := [], harness := (true, "7e3f990f7867adf18cfcbd778c4bf745ea88ce681818e673fd19a951b1b724bb"), looks := false }, kinds := [], alts := [], laidByText := true, laidKinds := [.data], laidTests := true, laidLooks := .later }
def FnExactCountOnesUptoCardSaid : Prop := Claim7.holds Tryd.pinned (.plain (OpenSpec.upto fnExactCountOnesSpec)) fnExactCountOnesUptoCard

/-- THE SECOND FORM's CARD OF 'laws.FnExactLowestOne'. -/
def fnExactLowestOneUptoCard : Claim7 := { stood := { row := fnExactLowestOneUptoRow, standIns := [], harness := (true, "7e3f990f7867adf18cfcbd778c4bf745ea88ce681818e673fd19a951b1b724bb"), looks := false }, kinds := [], alts := [], laidByText := true, laidKinds := [.data], laidTests := true, laidLooks := .later }
def FnExactLowestOneUptoCardSaid : Prop := Claim7.holds Tryd.pinned (.plain (OpenSpec.upto fnExactLowestOneSpec)) fnExactLowestOneUptoCard
end Rows
end Go.Proofs.YthafoodchbpgdabDoor
