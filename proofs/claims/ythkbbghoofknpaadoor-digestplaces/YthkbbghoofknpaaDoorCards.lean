/-
  DERIVED. GIVEN WITH THE SEED: THE CARDS: each row of YthkbbghoofknpaaDoorRows.lean that lists a variable, with what it lists TIED to the program's text (the seventh form; the later family's looks); each row that meets fmt, with fmt's text TOLD by the authors' own Lean function (tested against real Go, not proved from fmt's source: count such statements apart). THE CARD IS WHAT COUNTS. Prove the row's statement (the work); the ties are given (YthkbbghoofknpaaDoorTie.lean); close each card by the builder's one call (the guide's Derived/Test/ToyasCard.lean, 'card_holds'). Laid BY PROGRAM, IN A SANDBOX (cutbox-door.mjs). By AI agents, Wed Nov 11 2026. No macro, syntax, notation, axiom, sorry.
-/
import Derived.Test.YthkbbghoofknpaaDoorRows
import GoSem.ClaimSeven
namespace Go.Proofs.YthkbbghoofknpaaDoor
namespace Rows

/-- THE TIED CARD OF 'mortmainlaw03.DigestSums'. -/
def digestSumsCard : Claim7 := { stood := { row := digestSumsRow, standIns := [], harness := (true, "9e1e2a7c2fc4c0628d8f3f5e81b6e1c386ae4ffa9bc457166384e3426b80dd78"), looks := false }, kinds := [], alts := [], laidByText := true, laidKinds := [.data], laidTests := true, laidLooks := .later }
def DigestSumsCardSaid : Prop := Claim7.holds Tryd.pinned (.plain (OpenSpec.ofChange digestSumsSpec)) digestSumsCard

/-- THE TIED CARD OF 'mortmainlaw03.DigestGrows'. -/
def digestGrowsCard : Claim7 := { stood := { row := digestGrowsRow, standIns := [], harness := (true, "9e1e2a7c2fc4c0628d8f3f5e81b6e1c386ae4ffa9bc457166384e3426b80dd78"), looks := false }, kinds := [], alts := [], laidByText := true, laidKinds := [.data], laidTests := true, laidLooks := .later }
def DigestGrowsCardSaid : Prop := Claim7.holds Tryd.pinned (.plain (OpenSpec.ofChange digestGrowsSpec)) digestGrowsCard

/-- THE TIED CARD OF 'mortmainlaw03.DigestPlaces'. -/
def digestPlacesCard : Claim7 := { stood := { row := digestPlacesRow, standIns := [], harness := (true, "9e1e2a7c2fc4c0628d8f3f5e81b6e1c386ae4ffa9bc457166384e3426b80dd78"), looks := false }, kinds := [], alts := [], laidByText := true, laidKinds := [.data], laidTests := true, laidLooks := .later }
def DigestPlacesCardSaid : Prop := Claim7.holds Tryd.pinned (.plain (OpenSpec.ofChange digestPlacesSpec)) digestPlacesCard

/-- THE SECOND FORM's CARD OF 'mortmainlaw03.DigestSums'. -/
def digestSumsUptoCard : Claim7 := { stood := { row := digestSumsUptoRow, standIns := [], harness := (true, "9e1e2a7c2fc4c0628d8f3f5e81b6e1c386ae4ffa9bc457166384e3426b80dd78"), looks := false }, kinds := [], alts := [], laidByText := true, laidKinds := [.data], laidTests := true, laidLooks := .later }
def DigestSumsUptoCardSaid : Prop := Claim7.holds Tryd.pinned (.plain (OpenSpec.upto digestSumsSpec)) digestSumsUptoCard

/-- THE SECOND FORM's CARD OF 'mortmainlaw03.DigestGrows'. -/
def digestGrowsUptoCard : Claim7 := { stood := { row := digestGrowsUptoRow, standIns := [], harness := (true, "9e1e2a7c2fc4c0628d8f3f5e81b6e1c386ae4ffa9bc457166384e3426b80dd78"), looks := false }, kinds := [], alts := [], laidByText := true, laidKinds := [.data], laidTests := true, laidLooks := .later }
def DigestGrowsUptoCardSaid : Prop := Claim7.holds Tryd.pinned (.plain (OpenSpec.upto digestGrowsSpec)) digestGrowsUptoCard

/-- THE SECOND FORM's CARD OF 'mortmainlaw03.DigestPlaces'. -/
def digestPlacesUptoCard : Claim7 := { stood := { row := digestPlacesUptoRow, standIns := [], harness := (true, "9e1e2a7c2fc4c0628d8f3f5e81b6e1c386ae4ffa9bc457166384e3426b80dd78"), looks := false }, kinds := [], alts := [], laidByText := true, laidKinds := [.data], laidTests := true, laidLooks := .later }
def DigestPlacesUptoCardSaid : Prop := Claim7.holds Tryd.pinned (.plain (OpenSpec.upto digestPlacesSpec)) digestPlacesUptoCard
end Rows
end Go.Proofs.YthkbbghoofknpaaDoor
