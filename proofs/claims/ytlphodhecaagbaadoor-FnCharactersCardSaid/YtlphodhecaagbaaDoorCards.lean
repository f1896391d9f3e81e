/-
  DERIVED. GIVEN WITH THE SEED: THE CARDS: each row of YtlphodhecaagbaaDoorRows.lean that lists a variable, with what it lists TIED to the program's text (the seventh form; the later family's looks); each row that meets fmt, with fmt's text TOLD by the authors' own Lean function (tested against real Go, not proved from fmt's source: count such statements apart). THE CARD IS WHAT COUNTS. Prove the row's statement (the work); the ties are given (YtlphodhecaagbaaDoorTie.lean); close each card by the builder's one call (the guide's Derived/Test/ToyasCard.lean, 'card_holds'). Laid BY PROGRAM, IN A SANDBOX (cutbox-door.mjs). By AI agents, Wed Nov 11 2026. No macro, syntax, notation, axiom, sorry.
-/
import Derived.Test.YtlphodhecaagbaaDoorRows
import GoSem.ClaimSeven
namespace Go.Proofs.YtlphodhecaagbaaDoor
namespace Rows

/-- THE TIED CARD OF 'laws.FnCharacters'. -/
def fnCharactersCard : Claim7 := { stood := { row := fnCharactersRow, standIns := [], harness := (true, "cf79cba58b6ee4ae197b662bb0966de925949a8ffc0ae75f367ef6620c48f97f"), looks := false }, kinds := [], alts := [], laidByText := true, laidKinds := [.data], laidTests := true, laidLooks := .later }
def FnCharactersCardSaid : Prop := Claim7.holds Tryd.pinned (.plain (OpenSpec.ofChange fnCharactersSpec)) fnCharactersCard

/-- THE TIED CARD OF 'laws.FnExactModeName'. -/
def fnExactModeNameCard : Claim7 := { stood := { row := fnExactModeNameRow, standIns := [], harness := (true, "cf79cba58b6ee4ae197b662bb0966de925949a8ffc0ae75f367ef6620c48f97f"), looks := false }, kinds := [], alts := [], laidByText := true, laidKinds := [.data], laidTests := true, laidLooks := .later }
def FnExactModeNameCardSaid : Prop := Claim7.holds Tryd.pinned (.plain (OpenSpec.ofChange fnExactModeNameSpec)) fnExactModeNameCard

/-- THE SECOND FORM's CARD OF 'laws.FnCharacters'. -/
def fnCharactersUptoCard : Claim7 := { stood := { row := fnCharactersUptoRow, standIns := [], harness := (true, "cf79cba58b6ee4ae197b662bb0966de925949a8ffc0ae75f367ef6620c48f97f"), looks := false }, kinds := [], alts := [], laidByText := true, laidKinds := [.data], laidTests := true, laidLooks := .later }
def FnCharactersUptoCardSaid : Prop := Claim7.holds Tryd.pinned (.plain (OpenSpec.upto fnCharactersSpec)) fnCharactersUptoCard

/-- THE SECOND FORM's CARD OF 'laws.FnExactModeName'. -/
def fnExactModeNameUptoCard : Claim7 := { stood := { row := fnExactModeNameUptoRow, standIns := [], harness := (true, "cf79cba58b6ee4ae197b662bb0966de925949a8ffc0ae75f367ef6620c48f97f"), looks := false }, kinds := [], alts := [], laidByText := true, laidKinds := [.data], laidTests := true, laidLooks := .later }
def FnExactModeNameUptoCardSaid : Prop := Claim7.holds Tryd.pinned (.plain (OpenSpec.upto fnExactModeNameSpec)) fnExactModeNameUptoCard
end Rows
end Go.Proofs.YtlphodhecaagbaaDoor
