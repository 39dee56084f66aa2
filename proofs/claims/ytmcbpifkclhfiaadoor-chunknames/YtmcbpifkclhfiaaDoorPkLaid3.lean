/-
  From the row's condition on the listed variable to 'Tab'; the witness's world.
-/
import Derived.Test.YtmcbpifkclhfiaaDoorRows
import Derived.Test.YtmcbpifkclhfiaaDoorTie
import Derived.Test.YtmcbpifkclhfiaaDoorCards
import Derived.Test.YtmcbpifkclhfiaaDoorPkMixC
import Derived.Test.YtmcbpifkclhfiaaDoorPkOpen
import Derived.ProofKit
import Derived.LaidMore
import Derived.OpenShut
import Derived.Stop.Joined
import Derived.Lib.LaidTab
import Derived.Below
namespace Go.Proofs.YtmcbpifkclhfiaaDoor
open Go.ChangeShapes Go.WideShapes Go.ChangeAt Go.RowKit

/-- The list of the listed variables. -/
def laid1 : List (String × DataW Unit) := [("mortmain/digest.roundWords", Rows.laid_mortmain_digest_roundWords)]
theorem gWords : Tryd.prog.globalNamed "mortmain/digest.roundWords" = some 0 := by kernel_rfl
theorem tWords : (Tryd.prog.globals[0]?).map (·.type) = some 61 := by kernel_rfl
theorem cWords : Tryd.prog.cellsOf 61 = 64 := by kernel_rfl
theorem cU : Tryd.prog.cellsOf 58 = 1 := by kernel_rfl
theorem laid1_tab : laid1 = [("mortmain/digest.roundWords", Lib.tabData .u32 (shaK.map nv))] := by kernel_rfl
theorem own3 : ownKnob Tryd.prog.godebug = none := by kernel_rfl
theorem laidOut3 : laidOutB Tryd.prog = true := by kernel_rfl

/-- What the condition gives the walks. -/
theorem tab_of_laid {W : World} (h : laidMetH Tryd.prog laid1 W) : Tab W := by
  rw [MakeChecks.laidMetH_plain _ _ _ (by kernel_rfl), laid1_tab] at h
  have hT := Lib.tabIs_of_head gWords tWords Tryd.underlying61 Tryd.underlying58 cU cWords h
  intro i hi
  have hl : (shaK.map nv).length = 64 := by rw [List.length_map]; rfl
  have := hT.cell gWords i (by rw [hl]; exact hi)
  rw [this]
  have hi' : i < shaK.length := hi
  congr 2
  rw [List.getD_eq_getElem?_getD, List.getD_eq_getElem?_getD, List.getElem?_map, List.getElem?_eq_getElem hi']
  rfl
/-- The door's own heap meets the condition. -/
theorem door_met (os : Os) (args : Array Value) : laidMetH Tryd.prog laid1 ((World.doorLaid Tryd.prog 400 os).forCall (fun _ _ => 0) ⟨#[], args, []⟩).memory :=
  laidMetH_of_parts3 (fuel := 8) (laidMet_of_run' 8 (by kernel_rfl) (by kernel_rfl)) (by kernel_rfl) (by kernel_rfl)
end Go.Proofs.YtmcbpifkclhfiaaDoor
