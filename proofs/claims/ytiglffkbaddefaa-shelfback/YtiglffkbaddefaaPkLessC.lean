/-
  Contracts of bytes.Compare (at two slices of bytes) and digest.Less.
-/
import Derived.Test.YtiglffkbaddefaaPkStillB
import Derived.Test.YtiglffkbaddefaaPkRowR
import Derived.Lib.Bytealg
namespace Go.Proofs.Ytiglffkbaddefaa
open Go.RowKit
set_option linter.unusedVariables false

theorem compare_less : ∀ a b : List UInt8, decide (Lib.compareBytes a b < 0) = Op.bytesLess a b
  | [], [] => rfl
  | [], _ :: _ => rfl
  | _ :: _, [] => rfl
  | a :: x, b :: y => by
    have ih := compare_less x y
    simp only [Lib.compareBytes, Op.bytesLess]
    by_cases h1 : a < b
    · simp [h1]
    · by_cases h2 : b < a
      · have hne : (a == b) = false := by
          rw [beq_eq_false_iff_ne]
          rintro rfl
          exact UInt8.lt_irrefl _ h2
        simp [h1, h2, hne]
      · have he : a = b := UInt8.le_antisymm (UInt8.not_lt.1 h2) (UInt8.not_lt.1 h1)
        subst he
        simp only [h1, if_false, ih]
        simp
theorem compare_bd : ∀ a b : List UInt8, -1 ≤ Lib.compareBytes a b ∧ Lib.compareBytes a b ≤ 1
  | [], [] => by decide
  | [], _ :: _ => by simp [Lib.compareBytes]
  | _ :: _, [] => by simp [Lib.compareBytes]
  | a :: x, b :: y => by
    have ih := compare_bd x y
    simp only [Lib.compareBytes]
    split
    · omega
    · split <;> omega
theorem run_loadB {P : Program} (w : World) : ∀ (xs : List UInt8) (a : Addr) (acc : ByteArray), (∀ j x, xs[j]? = some x → w.cell? (a.add j) = some (.int .u8 (x.toNat : Int))) →
    (Extern.Bytes.loadBytes a xs.length acc).run P w = .ok ⟨acc.data ++ xs.toArray⟩ w
  | [], a, acc, _ => by simp [Extern.Bytes.loadBytes]
  | x :: l, a, acc, h => by
    have h0 : w.cell? a = some (.int .u8 (x.toNat : Int)) := by
      have := h 0 x rfl
      simpa [Addr.add] using this
    have ih := run_loadB (P := P) w l (a.add 1) (acc.push x) (fun j y hy => by
      have := h (j + 1) y (by simpa using hy)
      have e : (a.add 1).add j = a.add (j + 1) := by
        unfold Addr.add
        by_cases hj : j = 0
        · subst hj; simp
        · simp [hj]; omega
      rw [e]; exact this)
    simp only [List.length_cons, Extern.Bytes.loadBytes, Sem.run_bind, run_load, h0, Result.andThen]
    have e2 : ((x.toNat : Int).toNat).toUInt8 = x := by simp
    rw [e2, ih]
    congr 1
    apply ByteArray.ext
    simp [ByteArray.push]
theorem run_compareRows {P : Program} (w : World) (g h n m : Nat) (t t' : TypeId) (a b : List UInt8) (ha : RowV w g t (cells a)) (hb : RowV w h t' (cells b)) (c c' : Nat) (hn : n = a.length) (hm : m = b.length) :
    (Extern.BytealgCompare.compare #[.slice (some ⟨g, 0, none⟩) n c, .slice (some ⟨h, 0, none⟩) m c']).run P w = .ok (.int .i64 (Lib.compareBytes a b)) w := by
  subst hn hm
  have h1 := run_loadB (P := P) w a ⟨g, 0, none⟩ .empty (fun j x hj => by rw [Addr.add_lit, Nat.zero_add]; exact ha.cell (cells_get hj))
  have h2 := run_loadB (P := P) w b ⟨h, 0, none⟩ .empty (fun j x hj => by rw [Addr.add_lit, Nat.zero_add]; exact hb.cell (cells_get hj))
  change Sem.run P (do pure (goInt (Extern.BytealgCompare.cmp (← Extern.Bytes.bytesOf (.slice (some ⟨g, 0, none⟩) a.length c)) (← Extern.Bytes.bytesOf (.slice (some ⟨h, 0, none⟩) b.length c'))))) w = _
  simp only [Extern.Bytes.bytesOf, Sem.run_bind, h1, h2, Sem.run_pure, Result.andThen]
  rw [Lib.cmp_eq]
  simp [goInt]

set_option maxRecDepth 100000 in
set_option maxHeartbeats 1000000 in
theorem compare_any (w : World) (g h n m : Nat) (t t' : TypeId) (a b : List UInt8) (ha : RowV w g t (cells a)) (hb : RowV w h t' (cells b)) (c c' : Nat) (hn : n = a.length) (hm : m = b.length) :
    Calls Try.prog 66 #[.slice (some ⟨g, 0, none⟩) n c, .slice (some ⟨h, 0, none⟩) m c'] w fun e w' => e = .returned (.int .i64 (Lib.compareBytes a b)) ∧ w = w' := by
  have Hr := Lib.hid (run_compareRows (P := Try.prog) w g h n m t t' a b ha hb c c' hn hm)
  clear ha hb hn hm
  go_enter Try.func66, Try.ntmps66
  go_wp2
  rw [run_callFunc_extern Try.func70 (by kernel_rfl) (by kernel_rfl) (by kernel_rfl) (e := Extern.BytealgCompare.compare) (by kernel_rfl), Hr.out]
  simp only [Result.andThen]
  rw [Oper.upon_value]
  go_wp2
  go_ret
  exact ⟨rfl, rfl⟩

set_option maxRecDepth 100000 in
set_option maxHeartbeats 1000000 in
theorem less_any (a b : List UInt8) (ha : a.length = 32) (hb : b.length = 32) (w : World) : Calls Try.prog 57 #[.agg (cells a).toArray, .agg (cells b).toArray] w fun e w' => e = .returned (.bool (Op.bytesLess a b)) ∧ Below w.heap.size w w' := by
  have Ha := Lib.hid ha
  have Hb := Lib.hid hb
  have Hl := Lib.hid (compare_less a b)
  clear ha hb
  go_enter Try.func57, Try.ntmps57
  go_wp2_with (with_reducible refine at_box 30 ?_; refine wpList_box_rowV rfl 30 _ rfl (cells a) rfl ?_)
  intro w1 hr1 hb1 hs1
  refine wpList_box_rowV rfl 30 _ rfl (cells b) rfl ?_
  intro w2 hr2 hb2 hs2
  rw [hs1] at hr2 hb2 ⊢
  have hr1' := hr1.below (by omega) hb2
  have hB2 : Below w.heap.size w w2 := hb1.trans (hb2.mono (by omega))
  have hsl : ∀ W g, (Instr.sliceAt 30 (.pointer (some ⟨g, 0, none⟩)) none none none).run Try.prog W = .ok (.slice (some ⟨g, 0, none⟩) 32 32) W := fun W g => run_slice_arr_all Try.underlying30 Try.size5 g
  clear hr1 hb1 hs1 hb2 hs2
  have hbd := compare_bd a b
  go_wp2_with fail
  refine wp_region_still_tail 4 (by kernel_rfl) (by kernel_rfl) ?_
  simp only [List.take_succ_cons, List.take_zero, List.drop_succ_cons, List.drop_zero]
  iterate 2 still_step
  still_call (still_ofB (compare_any _ _ _ _ _ 30 30 a b hr1'.drew hr2.drew _ _ Ha.out.symm Hb.out.symm))
  still_step
  refine wpStill_nil ?_
  change wpList _ _ _ _ _ w2.drew
  go_wp2
  go_ret
  exact ⟨by rw [← Hl.out]; rfl, hB2.drew⟩
end Go.Proofs.Ytiglffkbaddefaa
