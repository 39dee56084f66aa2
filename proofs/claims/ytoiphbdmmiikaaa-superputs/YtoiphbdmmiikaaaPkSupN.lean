/-
  Layer 8: the reference's superblock in memory, and the contract of its num.
-/
import Derived.Test.YtoiphbdmmiikaaaPkSupP
import Derived.Test.YtoiphbdmmiikaaaPkSupE
import Derived.Test.YtoiphbdmmiikaaaPkPlanE
import Derived.BigQuiet
import Derived.Deep.QuietTactic
namespace Go.Proofs.Ytoiphbdmmiikaaa
open Go.RowKit
set_option linter.unusedVariables false
set_option linter.unusedSimpArgs false

theorem Try.sizeR8 : (Try.prog.info? 31).map (·.size) = some 5 := by kernel_rfl
theorem Try.zeroR8 : (Try.prog.info? 31).bind (·.zero) = some (.agg (sbc sb0).toArray) := by kernel_rfl
theorem sr_size (b : Sb) : (Try.prog.info? 31).map (·.size) = some (sbc b).toArray.size := Try.sizeR8
theorem Try.builtR8 (s t c a m : Int) : Try.prog.built 31 [(0, .agg (pc s t c a).toArray), (1, .int .i64 m)] = some (sbc ⟨s, t, c, a, m⟩).toArray := by kernel_rfl
theorem Try.builtP8 (s t c a : Int) : Try.prog.built 23 [(0, .int .i64 s), (1, .int .i64 t), (2, .int .i64 c), (3, .int .i64 a)] = some (pc s t c a).toArray := by kernel_rfl
theorem Try.buildR0 (w : World) : (Instr.build 31 #[]).run Try.prog w = .ok (.agg (sbc sb0).toArray) w := by kernel_rfl
theorem zeroRv (w : World) : (zeroValue 31).run Try.prog w = .ok (.agg (sbc sb0).toArray) w := by kernel_rfl
theorem alloc_sr {w : World} {ops : Array Oper} {rest : List Oper} {o : Oper} {A : Act} {Q : Exit → Act → World → Prop} (hgd : o.guard = none) (ho : o.op = .alloc 31)
    (h : ∀ w', RowV w' w.heap.size 31 (sbc sb0) → Below w.heap.size w w' → w'.heap.size = w.heap.size + 1 → wpList Try.prog ops Q rest (A.put o.dst (.pointer (some ⟨w.heap.size, 0, none⟩))) w') : wpList Try.prog ops Q (o :: rest) A w :=
  wpList_alloc_rowV hgd 31 ho (sbc sb0) Try.zeroR8 h
theorem store_sr {w : World} {ops : Array Oper} {rest : List Oper} {o : Oper} {A : Act} {Q : Exit → Act → World → Prop} (hgd : o.guard = none) (x y : Operand) (ho : o.op = .store 31 x y) (g : Nat) (b : Sb)
    (hx : A.eval x = .pointer (some ⟨g, 0, none⟩)) (hy : A.eval y = .agg (sbc b).toArray) {old : List Value} (hg : RowV w g 31 old) (hold : old.length = 5)
    (h : ∀ w', RowV w' g 31 (sbc b) → w.grownBy w' (some g) → w'.heap.size = w.heap.size → wpList Try.prog ops Q rest (A.put o.dst undef) w') : wpList Try.prog ops Q (o :: rest) A w :=
  wpList_store_rowV hgd 31 x y ho g _ hx hy 31 old hg (sr_size b) (by rw [List.size_toArray, List.size_toArray, hold]; rfl) (sbc_all b) h
theorem load_sr {w : World} {ops : Array Oper} {rest : List Oper} {o : Oper} {A : Act} {Q : Exit → Act → World → Prop} (hgd : o.guard = none) (x : Operand) (ho : o.op = .load 31 x) (g : Nat) {b : Sb}
    (hx : A.eval x = .pointer (some ⟨g, 0, none⟩)) {t : TypeId} (hg : RowV w g t (sbc b)) (h : wpList Try.prog ops Q rest (A.put o.dst (.agg (sbc b).toArray)) w) : wpList Try.prog ops Q (o :: rest) A w :=
  wpList_load_mid hgd 31 x ho g 0 hx (sbc b) _ (fun i v hv => by rw [Nat.zero_add]; exact hg.cell hv) Try.underlying31 rfl (sr_size b) h
theorem wp_alloc_sr {o : Oper} {a : Act} {w : World} {K : Act → World → Prop} {Q : Exit → Act → World → Prop} (ho : o.op = .alloc 31)
    (h : ∀ w', RowV w' w.heap.size 31 (sbc sb0) → Below w.heap.size w w' → w'.heap.size = w.heap.size + 1 → K (a.put o.dst (.pointer (some ⟨w.heap.size, 0, none⟩))) w') : o.wp Try.prog a w K Q := by
  obtain ⟨i, hi, hz'⟩ := Option.bind_eq_some_iff.1 Try.zeroR8
  have hr : (Instr.alloc 31 true (.tuple #[])).run Try.prog w = .ok (.pointer (some ⟨w.heap.size, 0, none⟩)) (w.alloc (.cells (sbc sb0).toArray 31)) := by
    simp [Instr.alloc, zeroValue, typeInfo, hi, hz', newVar, newRow, Value.cells]
  unfold Oper.wp
  simp only [execOp, ho, Sem.run_bind, hr, Result.andThen_ok]
  exact h _ (RowV.new w 31 (sbc sb0)) ((Below.refl _ _).alloc (Nat.le_refl _) _) (by simp)
theorem wp_store_sr {o : Oper} {a : Act} {w : World} {K : Act → World → Prop} {Q : Exit → Act → World → Prop} (x y : Operand) (ho : o.op = .store 31 x y) (g : Nat) (b : Sb) (hx : a.eval x = .pointer (some ⟨g, 0, none⟩)) (hy : a.eval y = .agg (sbc b).toArray)
    {old : List Value} (hg : RowV w g 31 old) (hlo : old.length = 5)
    (h : ∀ w', RowV w' g 31 (sbc b) → w.grownBy w' (some g) → w'.heap.size = w.heap.size → K (a.put o.dst undef) w') : o.wp Try.prog a w K Q :=
  wp_store_row 31 x y ho g (sbc b).toArray hx hy 31 old.toArray hg (sr_size b) (by rw [List.size_toArray, List.size_toArray, hlo]; rfl) (sbc_all b) (h _ (hg.put (sbc b)) ⟨rfl, rfl, rfl, by simp, fun k _ hk => setRow_other w g k _ (fun e => hk (by rw [e]))⟩ (by simp))

theorem numAt_two {x : Sec} {i : Nat} {y z : UInt8} (hy : x.1[i]? = some y) (hz : x.1[i + 1]? = some z) : numAt x.1 i 2 = y.toNat + 256 * z.toNat := by
  obtain ⟨l, hl⟩ := x
  simp only at hy hz ⊢
  have e : (l.drop i).take 2 = [y, z] := by
    rw [List.take_add_one, List.take_add_one, List.take_zero, List.nil_append, List.getElem?_drop, List.getElem?_drop, Nat.add_zero, hy, hz]
    rfl
  rw [numAt, e]
  simp [leN]

set_option maxRecDepth 100000 in
set_option maxHeartbeats 1000000 in
theorem rnum_any (w : World) (x : Sec) (i : Nat) (hi : i + 1 < 256) :
    Calls Try.prog 28 #[.agg x.cs.toArray, .int .i64 (i : Int)] w fun e w' => e = .returned (.int .i64 (numAt x.1 i 2 : Nat)) ∧ Below w.heap.size w w' := by
  obtain ⟨y, hy⟩ : ∃ y, x.1[i]? = some y := ⟨_, List.getElem?_eq_getElem (by rw [x.2]; omega)⟩
  obtain ⟨z, hz⟩ : ∃ z, x.1[i + 1]? = some z := ⟨_, List.getElem?_eq_getElem (by rw [x.2]; omega)⟩
  have Hn := Lib.hid (numAt_two hy hz)
  have Hy := Lib.hid (cells_get hy)
  have Hz := Lib.hid (cells_get hz)
  have hyl := y.toNat_lt
  have hzl := z.toNat_lt
  clear hy hz
  go_enter Try.func28, Try.ntmps28
  go_wp2_with ((with_reducible refine at_box 24 ?_); refine wpList_box_rowV rfl 24 _ rfl x.cs rfl ?_)
  intro w1 hr1 hb1 hs1
  have c0 := hr1.cell Hy.out
  have c1 := hr1.cell Hz.out
  go_wp2_with fail
  go_quiet (fail)
  go_wp2_with fail
  go_ret
  refine ⟨?_, ?_⟩
  · rw [Hn.out]
    go_num
  · exact ⟨hb1.os, hb1.tape, hb1.output, hb1.size, hb1.block⟩
end Go.Proofs.Ytoiphbdmmiikaaa
