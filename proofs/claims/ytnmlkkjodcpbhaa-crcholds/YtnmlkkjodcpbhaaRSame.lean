/-
  The contract of the reference's Same: two rows of bytes are held against each other as strings.
-/
import Derived.Test.YtnmlkkjodcpbhaaRows
import Derived.Test.YtnmlkkjodcpbhaaStr
import Derived.WalkKit
import Derived.WalkLawsBesides
import Derived.Lib.Hide
namespace Go.Proofs.Ytnmlkkjodcpbhaa
open Go.RowKit

theorem same_any (A A' : Option Addr) (n n' c c' : Nat) (xs ys : List UInt8) (w : World) (B : Nat) (hn : n = xs.length) (hn' : n' = ys.length) (h : Lies w B A xs) (h' : Lies w B A' ys) :
    Calls Try.prog 14 #[.slice A n c, .slice A' n' c'] w fun e w' => e = .returned (.bool (xs == ys)) ∧ w = w' := by
  have h1 := run_str (P := Try.prog) 22 5 9 Try.underlying22 Try.underlying5 Try.underlying9 n c h hn
  have h2 := run_str (P := Try.prog) 22 5 9 Try.underlying22 Try.underlying5 Try.underlying9 n' c' h' hn'
  clear h h' hn hn'
  go_enter Try.func14, Try.ntmps14
  go_wp2
  go_ret
  exact ⟨rfl, rfl⟩
end Go.Proofs.Ytnmlkkjodcpbhaa
