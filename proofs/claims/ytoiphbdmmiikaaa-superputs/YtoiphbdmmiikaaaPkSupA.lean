/-
  Layer 8: superblocks and sectors as cells; the contract of sealed.
-/
import Derived.Test.YtoiphbdmmiikaaaPkSuperM
import Derived.Test.YtoiphbdmmiikaaaPkWhole
import Derived.Test.YtoiphbdmmiikaaaPkCrcFour
import Derived.Test.YtoiphbdmmiikaaaPkArrS
import Derived.Test.YtoiphbdmmiikaaaPkPlanE
import Derived.Test.YtoiphbdmmiikaaaPkDiskRd
namespace Go.Proofs.Ytoiphbdmmiikaaa
open Go.RowKit
set_option linter.unusedVariables false

theorem Try.size1 : (Try.prog.info? 5).map (·.size) = some 1 := by kernel_rfl
/-- A sector stored into a variable. -/
theorem store_sec {w : World} {ops : Array Oper} {rest : List Oper} {o : Oper} {A : Act} {Q : Exit → Act → World → Prop} (hgd : o.guard = none) (x y : Operand) (ho : o.op = .store 24 x y) (g : Nat) (s : Sec)
    (hx : A.eval x = .pointer (some ⟨g, 0, none⟩)) (hy : A.eval y = .agg s.cs.toArray) {t : TypeId} {old : List Value} (hg : RowV w g t old) (hold : old.length = 256)
    (h : ∀ w', RowV w' g t s.cs → w.grownBy w' (some g) → w'.heap.size = w.heap.size → wpList Try.prog ops Q rest (A.put o.dst undef) w') : wpList Try.prog ops Q (o :: rest) A w :=
  wpList_store_rowV hgd 24 x y ho g _ hx hy t old hg (sec_size' s) (by rw [List.size_toArray, List.size_toArray, hold, Sec.cs_length]) (sec_all s) h
theorem load_sec {w : World} {ops : Array Oper} {rest : List Oper} {o : Oper} {A : Act} {Q : Exit → Act → World → Prop} (hgd : o.guard = none) (x : Operand) (ho : o.op = .load 24 x) (g : Nat) {s : Sec} {t : TypeId}
    (hx : A.eval x = .pointer (some ⟨g, 0, none⟩)) (hg : RowV w g t s.cs)
    (h : wpList Try.prog ops Q rest (A.put o.dst (.agg s.cs.toArray)) w) : wpList Try.prog ops Q (o :: rest) A w :=
  wpList_load_row hgd 24 x ho g hx t _ (0, 0) _ hg Try.underlying24 rfl (sec_size' s) h
theorem alloc_sec {w : World} {ops : Array Oper} {rest : List Oper} {o : Oper} {A : Act} {Q : Exit → Act → World → Prop} (hgd : o.guard = none) (ho : o.op = .alloc 24)
    (h : ∀ w', RowV w' w.heap.size 24 zeroSec.cs → Below w.heap.size w w' → w'.heap.size = w.heap.size + 1 → wpList Try.prog ops Q rest (A.put o.dst (.pointer (some ⟨w.heap.size, 0, none⟩))) w') : wpList Try.prog ops Q (o :: rest) A w :=
  wpList_alloc_rowV hgd 24 ho zeroSec.cs Try.zeroS h

def wholeS (xs : List UInt8) : Sec := ⟨wholeB xs, wholeB_length xs⟩
theorem whole_sec (A : Option Addr) (n c : Nat) (xs : List UInt8) (w : World) (B : Nat) (h : Lies w B A xs) (hn : n = xs.length) (hB : B ≤ w.heap.size) :
    Calls Try.prog 36 #[.slice A n c] w fun e w' => e = .returned (.agg (wholeS xs).cs.toArray) ∧ Below w.heap.size w w' := whole_any A n c xs w B h hn hB
theorem whole_take {xs : List UInt8} (h : xs.length ≤ 252) : (wholeB xs).take 252 = fill xs 252 := by
  unfold wholeB fill
  rw [List.take_of_length_le (show xs.length ≤ 256 by omega), List.take_append, List.take_of_length_le h, List.take_replicate]
  congr 2
  omega
theorem whole_self {xs : List UInt8} (h : xs.length = 256) : wholeB xs = xs := by
  unfold wholeB fill
  rw [List.take_of_length_le (by omega), h]
  simp
def sealS (xs : List UInt8) (h : xs.length ≤ 252) : Sec := ⟨sealB (fill xs 252), by rw [sealB_length, fill_length h]⟩

set_option maxRecDepth 100000 in
set_option maxHeartbeats 400000 in
theorem ssealed_any (A : Option Addr) (n c : Nat) (xs : List UInt8) (w : World) (B : Nat) (h : Lies w B A xs) (hn : n = xs.length) (hB : B ≤ w.heap.size) (hx : xs.length ≤ 252) :
    Calls Try.prog 22 #[.slice A n c] w fun e w' => e = .returned (.agg (sealS xs hx).cs.toArray) ∧ Below w.heap.size w w' := by
  have Hn := Lib.hid hn
  have Hh := Lib.hid h
  have Hw := Lib.hid (whole_take hx)
  have He : Hid (wholeS (sealB (fill xs 252)) = sealS xs hx) := Subtype.ext (whole_self (by rw [sealB_length, fill_length hx]))
  have Hl : Hid ((fill xs 252).length = 252) := fill_length hx
  have hsl : ∀ W g, (Instr.sliceAt 24 (.pointer (some ⟨g, 0, none⟩)) none (some (.int .i64 252)) none).run Try.prog W = .ok (.slice (some ⟨g, 0, none⟩) 252 256) W := fun W g => run_slice_arr_to Try.underlying24 Try.size1 g 0 .i64 252 252 rfl (by omega) (by omega)
  clear hn h
  go_enter Try.func22, Try.ntmps22
  go_wp2_with ((with_reducible refine at_alloc 24 ?_); refine alloc_sec rfl rfl ?_)
  intro w1 hr1 hb1 hs1
  go_wp2_with fail
  refine (whole_sec A n c xs w1 B (Hh.out.below (hb1.mono hB)) Hn.out (by omega)).mono ?_
  rintro e w2 ⟨rfl, hb2⟩
  have hr2 := hr1.below (by omega) hb2
  have hB2 := below_seq hb1 hb2
  have hs2 := hb2.size
  go_wp2_with ((with_reducible refine at_alloc 24 ?_); refine alloc_sec rfl rfl ?_)
  intro w3 hr3 hb3 hs3
  have hr13 := hr2.below (by omega) hb3
  have hB3 := below_seq hB2 hb3
  go_wp2_with ((with_reducible refine at_store 24 ?_); refine store_sec rfl _ _ rfl w2.heap.size (wholeS xs) rfl rfl hr3 (Sec.cs_length _) ?_)
  intro w4 hr4 hg4 hs4
  have hr14 := hr13.keep hg4 (fun e => by injection e with e; omega)
  have hB4 := below_grown hB3 hg4 (by omega) (by omega)
  have hl4 : Lies w4 w4.heap.size (some ⟨w2.heap.size, 0, none⟩) (fill xs 252) := by
    have : Row w4 w2.heap.size 24 (wholeB xs) := hr4
    rw [← Hw.out]
    exact this.lies.take 252
  go_wp2_with fail
  refine (sealed_any _ _ _ (fill xs 252) w4 _ hl4 (Nat.le_refl _) Hl.out.symm (by omega)).mono ?_
  rintro e w5 ⟨A5, c5, rfl, _, _, hl5, hb5, _⟩
  have hr15 := hr14.below (by omega) hb5
  have hB5 := below_seq hB4 hb5
  have hs5 := hb5.size
  go_wp2_with fail
  refine (whole_sec A5 _ c5 _ w5 _ hl5 rfl (Nat.le_refl _)).mono ?_
  rintro e w6 ⟨rfl, hb6⟩
  rw [He.out]
  have hr16 := hr15.below (by omega) hb6
  have hB6 := below_seq hB5 hb6
  have hs6 := hb6.size
  go_wp2_with ((with_reducible refine at_store 24 ?_); refine store_sec rfl _ _ rfl w.heap.size (sealS xs hx) rfl rfl hr16 (Sec.cs_length _) ?_)
  intro w7 hr7 hg7 hs7
  go_wp2_with fail
  exact bodyPost_ret (results_cell_row (fn := Try.f22) rfl _ _ w.heap.size 24 _ (0, 0) _ rfl hr7 Try.underlying24 rfl (sec_size' _)) rfl ⟨rfl, below_grown hB6 hg7 (Nat.le_refl _) (by omega)⟩
end Go.Proofs.Ytoiphbdmmiikaaa
