/-
  Sectors as cells: stored, loaded, made; Whole as a sector; sealS.
-/
import Derived.Test.YtiglffkbaddefaaPkCrcRef
import Derived.Test.YtiglffkbaddefaaPkWholeN
import Derived.Test.YtiglffkbaddefaaPkCrcFour
import Derived.Test.YtiglffkbaddefaaPkRowR
import Derived.Test.YtiglffkbaddefaaPkSecZ
import Derived.Test.YtiglffkbaddefaaPkExecRow
namespace Go.Proofs.Ytiglffkbaddefaa
open Go.RowKit
set_option linter.unusedVariables false

theorem Try.size1 : (Try.prog.info? 5).map (·.size) = some 1 := by kernel_rfl
/-- A sector stored into a variable. -/
theorem store_sec {w : World} {ops : Array Oper} {rest : List Oper} {o : Oper} {A : Act} {Q : Exit → Act → World → Prop} (hgd : o.guard = none) (x y : Operand) (ho : o.op = .store 43 x y) (g : Nat) (s : Sec)
    (hx : A.eval x = .pointer (some ⟨g, 0, none⟩)) (hy : A.eval y = .agg s.cs.toArray) {t : TypeId} {old : List Value} (hg : RowV w g t old) (hold : old.length = 256)
    (h : ∀ w', RowV w' g t s.cs → w.grownBy w' (some g) → w'.heap.size = w.heap.size → wpList Try.prog ops Q rest (A.put o.dst undef) w') : wpList Try.prog ops Q (o :: rest) A w :=
  wpList_store_rowV hgd 43 x y ho g _ hx hy t old hg (sec_size' s) (by rw [List.size_toArray, List.size_toArray, hold, Sec.cs_length]) (sec_all s) h
theorem load_sec {w : World} {ops : Array Oper} {rest : List Oper} {o : Oper} {A : Act} {Q : Exit → Act → World → Prop} (hgd : o.guard = none) (x : Operand) (ho : o.op = .load 43 x) (g : Nat) {s : Sec} {t : TypeId}
    (hx : A.eval x = .pointer (some ⟨g, 0, none⟩)) (hg : RowV w g t s.cs)
    (h : wpList Try.prog ops Q rest (A.put o.dst (.agg s.cs.toArray)) w) : wpList Try.prog ops Q (o :: rest) A w :=
  wpList_load_row hgd 43 x ho g hx t _ (0, 0) _ hg Try.underlying43 rfl (sec_size' s) h
theorem alloc_sec {w : World} {ops : Array Oper} {rest : List Oper} {o : Oper} {A : Act} {Q : Exit → Act → World → Prop} (hgd : o.guard = none) (ho : o.op = .alloc 43)
    (h : ∀ w', RowV w' w.heap.size 43 zeroSec.cs → Below w.heap.size w w' → w'.heap.size = w.heap.size + 1 → wpList Try.prog ops Q rest (A.put o.dst (.pointer (some ⟨w.heap.size, 0, none⟩))) w') : wpList Try.prog ops Q (o :: rest) A w :=
  wpList_alloc_rowV hgd 43 ho zeroSec.cs Try.zeroS h

def wholeS (xs : List UInt8) : Sec := ⟨wholeB xs, wholeB_length xs⟩
theorem whole_sec (A : Option Addr) (n c : Nat) (xs : List UInt8) (w : World) (B : Nat) (h : Lies w B A xs) (hn : n = xs.length) (hB : B ≤ w.heap.size) :
    Calls Try.prog 50 #[.slice A n c] w fun e w' => e = .returned (.agg (wholeS xs).cs.toArray) ∧ Below w.heap.size w w' := whole_any A n c xs w B h hn hB
theorem whole_take {xs : List UInt8} (h : xs.length ≤ 252) : (wholeB xs).take 252 = fill xs 252 := by
  unfold wholeB fill
  rw [List.take_of_length_le (show xs.length ≤ 256 by omega), List.take_append, List.take_of_length_le h, List.take_replicate]
  congr 2
  omega
theorem whole_self {xs : List UInt8} (h : xs.length = 256) : wholeB xs = xs := by
  unfold wholeB fill
  rw [List.take_of_length_le (by omega), h]
  simp
def sealS (xs : List UInt8) (h : xs.length ≤ 252) : Sec := ⟨sealB (fill xs 252), by rw [sealB_length, fill_length h]⟩

end Go.Proofs.Ytiglffkbaddefaa
