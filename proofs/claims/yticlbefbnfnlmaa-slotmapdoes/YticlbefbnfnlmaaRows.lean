/-
  No cell of these rows narrows 'for every input' (looked for: loops, veiled, ifaces, maps, wideKeys, modest, calm, conditions, laid).
  DERIVED. THE GIVEN ROWS OF THIS SEAT. 3 by the template 'for every input the law returns true; each argument reads behind the call as it read before'; 0 by the template 'total and deterministic' (their statements: YticlbefbnfnlmaaTotals.lean).
  GIVEN WITH THE SEED: the statements are not yours to turn. If you find one false, say at which input.
  Laid BY PROGRAM, IN A SANDBOX (cutbox-rows.mjs): the forced cells as the released guide's own fill.sh prints them over the translation 5724a01fd0863542… (all of the seat's roots in one cut). By AI agents, Wed Nov 11 2026. No macro, syntax, notation, axiom, sorry.
-/
import Derived.Test.YticlbefbnfnlmaaChecked
import GoSem.Claim
import GoSem.ClaimJoined
import GoSem.ClaimMapViews
import Derived.JoinedTies
import Derived.KernelRfl
namespace Go.Proofs.Yticlbefbnfnlmaa
/- THE CELL 'sum', in the pinned program and in every row, IS THE sha256 OF THE DUMP (.gsa) THAT YticlbefbnfnlmaaProg.lean LOADS. Nothing in Lean hashes anything: it is a label: what it is worth is what the hold of that sum in a sandbox is worth. -/
noncomputable def Try.pinned : Pinned := { name := "yticlbefbnfnlmaa", sum := "5724a01fd086354264685e1f041df4be0eca107d3ac94c8265b3f23fa64e2a84", checked := Try.checked }
namespace Rows
def none {H : Type} : Left H := { results := [], args := [] }

/-- 'mortmainlaw10.SlotmapDoes': WHATEVER THE INPUT: true; the input reads as it did. -/
def slotmapDoesSpec : ChangeSpec := { name := "slotmapDoes", fn := fun _ => fun
  | [d1, d2] => { results := [.lit (.bool true)], args := [d1, d2] }
  | _ => none }
def slotmapDoesRow : OpenClaim := { program := "yticlbefbnfnlmaa", sum := "5724a01fd086354264685e1f041df4be0eca107d3ac94c8265b3f23fa64e2a84", func := "mortmain/mortmainlaw10.SlotmapDoes", spec := "slotmapDoes", unfollowed := true, recurses := true, apart := false }
def SlotmapDoesSaid : Prop := slotmapDoesRow.holds Try.pinned (OpenSpec.ofChange slotmapDoesSpec)

/-- ITS FALSE NEIGHBOUR: 'it returns false'. Refute it at one input. -/
def slotmapDoesWrong : ChangeSpec := { name := "slotmapDoes", fn := fun _ => fun
  | [d1, d2] => { results := [.lit (.bool false)], args := [d1, d2] }
  | _ => none }
def SlotmapDoesWrongFalsely : Prop := slotmapDoesRow.holds Try.pinned (OpenSpec.ofChange slotmapDoesWrong)

/-- 'mortmainlaw10.SlotmapBack': WHATEVER THE INPUT: true; the input reads as it did. -/
def slotmapBackSpec : ChangeSpec := { name := "slotmapBack", fn := fun _ => fun
  | [d1, d2, d3] => { results := [.lit (.bool true)], args := [d1, d2, d3] }
  | _ => none }
def slotmapBackRow : OpenClaim := { program := "yticlbefbnfnlmaa", sum := "5724a01fd086354264685e1f041df4be0eca107d3ac94c8265b3f23fa64e2a84", func := "mortmain/mortmainlaw10.SlotmapBack", spec := "slotmapBack", unfollowed := true, recurses := true, apart := false }
def SlotmapBackSaid : Prop := slotmapBackRow.holds Try.pinned (OpenSpec.ofChange slotmapBackSpec)

/-- ITS FALSE NEIGHBOUR: 'it returns false'. Refute it at one input. -/
def slotmapBackWrong : ChangeSpec := { name := "slotmapBack", fn := fun _ => fun
  | [d1, d2, d3] => { results := [.lit (.bool false)], args := [d1, d2, d3] }
  | _ => none }
def SlotmapBackWrongFalsely : Prop := slotmapBackRow.holds Try.pinned (OpenSpec.ofChange slotmapBackWrong)

/-- 'mortmainlaw10.SlotmapParts': WHATEVER THE INPUT: true; the input reads as it did. -/
def slotmapPartsSpec : ChangeSpec := { name := "slotmapParts", fn := fun _ => fun
  | [d1, d2] => { results := [.lit (.bool true)], args := [d1, d2] }
  | _ => none }
def slotmapPartsRow : OpenClaim := { program := "yticlbefbnfnlmaa", sum := "5724a01fd086354264685e1f041df4be0eca107d3ac94c8265b3f23fa64e2a84", func := "mortmain/mortmainlaw10.SlotmapParts", spec := "slotmapParts", unfollowed := true, recurses := true, apart := false }
def SlotmapPartsSaid : Prop := slotmapPartsRow.holds Try.pinned (OpenSpec.ofChange slotmapPartsSpec)

/-- ITS FALSE NEIGHBOUR: 'it returns false'. Refute it at one input. -/
def slotmapPartsWrong : ChangeSpec := { name := "slotmapParts", fn := fun _ => fun
  | [d1, d2] => { results := [.lit (.bool false)], args := [d1, d2] }
  | _ => none }
def SlotmapPartsWrongFalsely : Prop := slotmapPartsRow.holds Try.pinned (OpenSpec.ofChange slotmapPartsWrong)

/- THE SECOND FORM. 'bulk': how many values and letters a reading holds, each counted each time it is reached (what is shared counts as often as it is met; a slice's spare places count too). A statement '..UptoSaid' is the law's where the arguments, and the package variables that the reading takes, are together of bulk at most 1048576: NARROWER than '..Said'. Prove '..Said' where nothing that the law and all that it calls make is longer than what came in: it says more and counts as full. Else prove '..UptoSaid'. A law counts once. -/
mutual
def uptoBulk {H : Type} : DataW H → Nat
  | .lit (.string bytes) => bytes.length + 1
  | .lit _ => 1
  | .nil => 1
  | .ptr d => uptoBulk d + 1
  | .slice elems spare => uptoBulkAll elems + uptoBulkAll spare + 1
  | .agg parts => uptoBulkAll parts + 1
  | .iface _ d => uptoBulk d + 1
  | .map entries => uptoBulkEntries entries + 1
  | .held _ => 1
def uptoBulkAll {H : Type} : List (DataW H) → Nat
  | [] => 0
  | d :: r => uptoBulk d + uptoBulkAll r
def uptoBulkEntries {H : Type} : List (Lit × DataW H) → Nat
  | [] => 0
  | x :: r => uptoBulkEntry x + uptoBulkEntries r
def uptoBulkEntry {H : Type} : Lit × DataW H → Nat
  | (.string bytes, d) => bytes.length + uptoBulk d + 1
  | (_, d) => uptoBulk d + 1
 end
def uptoSmall : (H : Type) → List (DataW H) → Bool := fun _ ds => decide (uptoBulkAll ds ≤ 1048576)
def OpenSpec.upto (s : _root_.Go.ChangeSpec) : _root_.Go.OpenSpec := { _root_.Go.OpenSpec.ofChange s with cond := some uptoSmall }

/-- 'mortmainlaw10.SlotmapDoes', WHERE WHAT IT READS IS OF BULK AT MOST 1048576: true; the input reads as it did. -/
def slotmapDoesUptoRow : OpenClaim := { program := "yticlbefbnfnlmaa", sum := "5724a01fd086354264685e1f041df4be0eca107d3ac94c8265b3f23fa64e2a84", func := "mortmain/mortmainlaw10.SlotmapDoes", spec := "slotmapDoes", unfollowed := true, recurses := true, apart := false, narrowed := true }
def SlotmapDoesUptoSaid : Prop := slotmapDoesUptoRow.holds Try.pinned (OpenSpec.upto slotmapDoesSpec)

/-- 'mortmainlaw10.SlotmapBack', WHERE WHAT IT READS IS OF BULK AT MOST 1048576: true; the input reads as it did. -/
def slotmapBackUptoRow : OpenClaim := { program := "yticlbefbnfnlmaa", sum := "5724a01fd086354264685e1f041df4be0eca107d3ac94c8265b3f23fa64e2a84", func := "mortmain/mortmainlaw10.SlotmapBack", spec := "slotmapBack", unfollowed := true, recurses := true, apart := false, narrowed := true }
def SlotmapBackUptoSaid : Prop := slotmapBackUptoRow.holds Try.pinned (OpenSpec.upto slotmapBackSpec)

/-- 'mortmainlaw10.SlotmapParts', WHERE WHAT IT READS IS OF BULK AT MOST 1048576: true; the input reads as it did. -/
def slotmapPartsUptoRow : OpenClaim := { program := "yticlbefbnfnlmaa", sum := "5724a01fd086354264685e1f041df4be0eca107d3ac94c8265b3f23fa64e2a84", func := "mortmain/mortmainlaw10.SlotmapParts", spec := "slotmapParts", unfollowed := true, recurses := true, apart := false, narrowed := true }
def SlotmapPartsUptoSaid : Prop := slotmapPartsUptoRow.holds Try.pinned (OpenSpec.upto slotmapPartsSpec)

end Rows
end Go.Proofs.Yticlbefbnfnlmaa
