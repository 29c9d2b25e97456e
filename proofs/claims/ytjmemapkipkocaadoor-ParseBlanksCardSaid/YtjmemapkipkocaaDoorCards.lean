/-
  DERIVED. GIVEN WITH THE SEED: THE CARDS: each row of YtjmemapkipkocaaDoorRows.lean that lists a variable, with what it lists TIED to the program's text (the seventh form; the later family's looks); each row that meets fmt, with fmt's text TOLD by the authors' own Lean function (tested against real Go, not proved from fmt's source: count such statements apart). THE CARD IS WHAT COUNTS. Prove the row's statement (the work); the ties are given (YtjmemapkipkocaaDoorTie.lean); close each card by the builder's one call (the guide's Derived/Test/ToyasCard.lean, 'card_holds'). Laid BY PROGRAM, IN A SANDBOX (cutbox-door.mjs). By AI agents, Wed Nov 11 2026. No macro, syntax, notation, axiom, sorry.
-/
import Derived.Test.YtjmemapkipkocaaDoorRows
import GoSem.ClaimSeven
namespace Go.Proofs.YtjmemapkipkocaaDoor
namespace Rows

/-- THE TIED CARD OF 'gantletlaw3.ParseBlanks'. -/
def parseBlanksCard : Claim7 := { stood := { row := parseBlanksRow, standIns := [], harness := (true, "8845e7e6fc37a211a61671b83c341b212f0a1ab83a7d477422e3e2b99005c115"), looks := false }, kinds := [], alts := [], laidByText := true, laidKinds := [.listed, .data, .data], laidTests := true, laidLooks := .later }
def ParseBlanksCardSaid : Prop := Claim7.holds Tryd.pinned (.plain (OpenSpec.ofChange parseBlanksSpec)) parseBlanksCard

/-- THE TIED CARD OF 'gantletlaw3.ParseBinds'. -/
def parseBindsCard : Claim7 := { stood := { row := parseBindsRow, standIns := [], harness := (true, "8845e7e6fc37a211a61671b83c341b212f0a1ab83a7d477422e3e2b99005c115"), looks := false }, kinds := [], alts := [], laidByText := true, laidKinds := [.listed, .data, .data], laidTests := true, laidLooks := .later }
def ParseBindsCardSaid : Prop := Claim7.holds Tryd.pinned (.plain (OpenSpec.ofChange parseBindsSpec)) parseBindsCard

/-- THE TIED CARD OF 'gantletlaw3.ParseEdges'. -/
def parseEdgesCard : Claim7 := { stood := { row := parseEdgesRow, standIns := [], harness := (true, "8845e7e6fc37a211a61671b83c341b212f0a1ab83a7d477422e3e2b99005c115"), looks := false }, kinds := [], alts := [], laidByText := true, laidKinds := [.listed, .data, .data], laidTests := true, laidLooks := .later }
def ParseEdgesCardSaid : Prop := Claim7.holds Tryd.pinned (.plain (OpenSpec.ofChange parseEdgesSpec)) parseEdgesCard

/-- THE SECOND FORM's CARD OF 'gantletlaw3.ParseBlanks'. -/
def parseBlanksUptoCard : Claim7 := { stood := { row := parseBlanksUptoRow, standIns := [], harness := (true, "8845e7e6fc37a211a61671b83c341b212f0a1ab83a7d477422e3e2b99005c115"), looks := false }, kinds := [], alts := [], laidByText := true, laidKinds := [.listed, .data, .data], laidTests := true, laidLooks := .later }
def ParseBlanksUptoCardSaid : Prop := Claim7.holds Tryd.pinned (.plain (OpenSpec.upto parseBlanksSpec)) parseBlanksUptoCard

/-- THE SECOND FORM's CARD OF 'gantletlaw3.ParseBinds'. -/
def parseBindsUptoCard : Claim7 := { stood := { row := parseBindsUptoRow, standIns := [], harness := (true, "8845e7e6fc37a211a61671b83c341b212f0a1ab83a7d477422e3e2b99005c115"), looks := false }, kinds := [], alts := [], laidByText := true, laidKinds := [.listed, .data, .data], laidTests := true, laidLooks := .later }
def ParseBindsUptoCardSaid : Prop := Claim7.holds Tryd.pinned (.plain (OpenSpec.upto parseBindsSpec)) parseBindsUptoCard

/-- THE SECOND FORM's CARD OF 'gantletlaw3.ParseEdges'. -/
def parseEdgesUptoCard : Claim7 := { stood := { row := parseEdgesUptoRow, standIns := [], harness := (true, "8845e7e6fc37a211a61671b83c341b212f0a1ab83a7d477422e3e2b99005c115"), looks := false }, kinds := [], alts := [], laidByText := true, laidKinds := [.listed, .data, .data], laidTests := true, laidLooks := .later }
def ParseEdgesUptoCardSaid : Prop := Claim7.holds Tryd.pinned (.plain (OpenSpec.upto parseEdgesSpec)) parseEdgesUptoCard
end Rows
end Go.Proofs.YtjmemapkipkocaaDoor
