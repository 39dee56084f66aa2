/-
  No cell of these rows narrows 'for every input' (looked for: loops, veiled, ifaces, maps, wideKeys, modest, calm, conditions, laid).
  DERIVED. THE GIVEN ROWS OF THIS SEAT. 3 by the template 'for every input the law returns true; each argument reads behind the call as it read before'; 0 by the template 'total and deterministic' (their statements: YtmcnhcbibcjgnaaTotals.lean).
  GIVEN WITH THE SEED: the statements are not yours to turn. If you find one false, say at which input.
  Laid BY PROGRAM, IN A SANDBOX (cutbox-rows.mjs): the forced cells as the released guide's own fill.sh prints them over the translation d4f696d4fa822619… (all of the seat's roots in one cut). By AI agents, Wed Nov 11 2026. No macro, syntax, notation, axiom, sorry.
-/
import Derived.Test.YtmcnhcbibcjgnaaChecked
import GoSem.Claim
import GoSem.ClaimJoined
import GoSem.ClaimMapViews
import Derived.JoinedTies
import Derived.KernelRfl
namespace Go.Proofs.Ytmcnhcbibcjgnaa
/- THE CELL 'sum', in the pinned program and in every row, IS THE sha256 OF THE DUMP (.gsa) THAT YtmcnhcbibcjgnaaProg.lean LOADS. Nothing in Lean hashes anything: it is a label: what it is worth is what the hold of that sum in a sandbox is worth. -/
noncomputable def Try.pinned : Pinned := { name := "ytmcnhcbibcjgnaa", sum := "d4f696d4fa8226192af0ba952289a3035aad677b7056de581e1ec1a6753491b7", checked := Try.checked }
namespace Rows
def none {H : Type} : Left H := { results := [], args := [] }

/-- 'mortmainlaw15.ClassDoes': WHATEVER THE INPUT: true; the input reads as it did. -/
def classDoesSpec : ChangeSpec := { name := "classDoes", fn := fun _ => fun
  | [d1, d2, d3] => { results := [.lit (.bool true)], args := [d1, d2, d3] }
  | _ => none }
def classDoesRow : OpenClaim := { program := "ytmcnhcbibcjgnaa", sum := "d4f696d4fa8226192af0ba952289a3035aad677b7056de581e1ec1a6753491b7", func := "mortmain/mortmainlaw15.ClassDoes", spec := "classDoes", inPlace := ["maps.clone"], apart := false }
def ClassDoesSaid : Prop := classDoesRow.holds Try.pinned (OpenSpec.ofChange classDoesSpec)

/-- ITS FALSE NEIGHBOUR: 'it returns false'. Refute it at one input. -/
def classDoesWrong : ChangeSpec := { name := "classDoes", fn := fun _ => fun
  | [d1, d2, d3] => { results := [.lit (.bool false)], args := [d1, d2, d3] }
  | _ => none }
def ClassDoesWrongFalsely : Prop := classDoesRow.holds Try.pinned (OpenSpec.ofChange classDoesWrong)

/-- 'mortmainlaw15.ClassLonger': WHATEVER THE INPUT: true; the input reads as it did. -/
def classLongerSpec : ChangeSpec := { name := "classLonger", fn := fun _ => fun
  | [d1, d2] => { results := [.lit (.bool true)], args := [d1, d2] }
  | _ => none }
def classLongerRow : OpenClaim := { program := "ytmcnhcbibcjgnaa", sum := "d4f696d4fa8226192af0ba952289a3035aad677b7056de581e1ec1a6753491b7", func := "mortmain/mortmainlaw15.ClassLonger", spec := "classLonger", inPlace := ["maps.clone"], apart := false }
def ClassLongerSaid : Prop := classLongerRow.holds Try.pinned (OpenSpec.ofChange classLongerSpec)

/-- ITS FALSE NEIGHBOUR: 'it returns false'. Refute it at one input. -/
def classLongerWrong : ChangeSpec := { name := "classLonger", fn := fun _ => fun
  | [d1, d2] => { results := [.lit (.bool false)], args := [d1, d2] }
  | _ => none }
def ClassLongerWrongFalsely : Prop := classLongerRow.holds Try.pinned (OpenSpec.ofChange classLongerWrong)

/-- 'mortmainlaw15.ClassBack': WHATEVER THE INPUT: true; the input reads as it did. -/
def classBackSpec : ChangeSpec := { name := "classBack", fn := fun _ => fun
  | [d1, d2] => { results := [.lit (.bool true)], args := [d1, d2] }
  | _ => none }
def classBackRow : OpenClaim := { program := "ytmcnhcbibcjgnaa", sum := "d4f696d4fa8226192af0ba952289a3035aad677b7056de581e1ec1a6753491b7", func := "mortmain/mortmainlaw15.ClassBack", spec := "classBack", inPlace := ["maps.clone"], recurses := true, apart := false }
def ClassBackSaid : Prop := classBackRow.holds Try.pinned (OpenSpec.ofChange classBackSpec)

/-- ITS FALSE NEIGHBOUR: 'it returns false'. Refute it at one input. -/
def classBackWrong : ChangeSpec := { name := "classBack", fn := fun _ => fun
  | [d1, d2] => { results := [.lit (.bool false)], args := [d1, d2] }
  | _ => none }
def ClassBackWrongFalsely : Prop := classBackRow.holds Try.pinned (OpenSpec.ofChange classBackWrong)

/- THE SECOND FORM. 'bulk': how many values and letters a reading holds, each counted each time it is reached (what is shared counts as often as it is met; a slice's spare places count too). A statement '..UptoSaid' is the law's where the arguments, and the package variables that the reading takes, are together of bulk at most 1048576: NARROWER than '..Said'. Prove '..Said' where nothing that the law and all that it calls make is longer than what came in: it says more and counts as full. Else prove '..UptoSaid'. A law counts once. -/
mutual
def uptoBulk {H : Type} : DataW H → Nat
  | .lit (.string bytes) => bytes.length + 1
  | .lit _ => 1
  | .nil => 1
  | .ptr d => uptoBulk d + 1
  | .slice elems spare => uptoBulkAll elems + uptoBulkAll spare + 1
  | .agg parts => uptoBulkAll parts + 1
  | .iface _ d => uptoBulk d + 1
  | .map entries => uptoBulkEntries entries + 1
  | .held _ => 1
def uptoBulkAll {H : Type} : List (DataW H) → Nat
  | [] => 0
  | d :: r => uptoBulk d + uptoBulkAll r
def uptoBulkEntries {H : Type} : List (Lit × DataW H) → Nat
  | [] => 0
  | x :: r => uptoBulkEntry x + uptoBulkEntries r
def uptoBulkEntry {H : Type} : Lit × DataW H → Nat
  | (.string bytes, d) => bytes.length + uptoBulk d + 1
  | (_, d) => uptoBulk d + 1
 end
def uptoSmall : (H : Type) → List (DataW H) → Bool := fun _ ds => decide (uptoBulkAll ds ≤ 1048576)
def OpenSpec.upto (s : _root_.Go.ChangeSpec) : _root_.Go.OpenSpec := { _root_.Go.OpenSpec.ofChange s with cond := some uptoSmall }

/-- 'mortmainlaw15.ClassDoes', WHERE WHAT IT READS IS OF BULK AT MOST 1048576: true; the input reads as it did. -/
def classDoesUptoRow : OpenClaim := { program := "ytmcnhcbibcjgnaa", sum := "d4f696d4fa8226192af0ba952289a3035aad677b7056de581e1ec1a6753491b7", func := "mortmain/mortmainlaw15.ClassDoes", spec := "classDoes", inPlace := ["maps.clone"], apart := false, narrowed := true }
def ClassDoesUptoSaid : Prop := classDoesUptoRow.holds Try.pinned (OpenSpec.upto classDoesSpec)

/-- 'mortmainlaw15.ClassLonger', WHERE WHAT IT READS IS OF BULK AT MOST 1048576: true; the input reads as it did. -/
def classLongerUptoRow : OpenClaim := { program := "ytmcnhcbibcjgnaa", sum := "d4f696d4fa8226192af0ba952289a3035aad677b7056de581e1ec1a6753491b7", func := "mortmain/mortmainlaw15.ClassLonger", spec := "classLonger", inPlace := ["maps.clone"], apart := false, narrowed := true }
def ClassLongerUptoSaid : Prop := classLongerUptoRow.holds Try.pinned (OpenSpec.upto classLongerSpec)

/-- 'mortmainlaw15.ClassBack', WHERE WHAT IT READS IS OF BULK AT MOST 1048576: true; the input reads as it did. -/
def classBackUptoRow : OpenClaim := { program := "ytmcnhcbibcjgnaa", sum := "d4f696d4fa8226192af0ba952289a3035aad677b7056de581e1ec1a6753491b7", func := "mortmain/mortmainlaw15.ClassBack", spec := "classBack", inPlace := ["maps.clone"], recurses := true, apart := false, narrowed := true }
def ClassBackUptoSaid : Prop := classBackUptoRow.holds Try.pinned (OpenSpec.upto classBackSpec)

end Rows
end Go.Proofs.Ytmcnhcbibcjgnaa
