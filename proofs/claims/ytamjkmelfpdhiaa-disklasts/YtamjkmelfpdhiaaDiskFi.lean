/-
  Layer 6: the contracts of Filled and light.
-/
import Derived.Test.YtamjkmelfpdhiaaDiskRp
import Derived.Test.YtamjkmelfpdhiaaRet
namespace Go.Proofs.Ytamjkmelfpdhiaa
open Go.RowKit Go.Maps
set_option linter.unusedVariables false

theorem fill_zero : cells (fill [] 256) = zeroSec.cs := by
  unfold Sec.cs zeroSec fill
  rfl
theorem fill_rep (b : UInt8) (k : Nat) (h : k < 256) : (cells (fill (List.replicate k b) 256)).set k (.int .u8 (b.toNat : Int)) = cells (fill (List.replicate (k + 1) b) 256) := by
  have := fill_set (xs := List.replicate k b) (k := 256) b (by simpa using h)
  rw [List.length_replicate] at this
  rw [this, List.replicate_succ']
theorem fill_done (b : UInt8) : cells (fill (List.replicate 256 b) 256) = (fillSec b).cs := by
  unfold Sec.cs fillSec fill
  simp only [List.length_replicate, Nat.sub_self, List.replicate_zero, List.append_nil]

set_option maxRecDepth 100000 in
set_option maxHeartbeats 4000000 in
theorem filled_any (w : World) (b : UInt8) : Calls Try.prog 12 #[.int .u8 (b.toNat : Int)] w fun e w' => e = .returned (fillSec b).val ∧ Below w.heap.size w w' := by
  go_enter Try.func12, Try.ntmps12
  go_wp2_with ((with_reducible refine at_alloc 43 ?_); refine wpList_alloc_rowV rfl 43 rfl zeroSec.cs Try.zeroS ?_)
  intro w1 hr1 hb1 hs1
  go_wp2_with ((with_reducible refine at_alloc 43 ?_); refine wpList_alloc_rowV rfl 43 rfl zeroSec.cs Try.zeroS ?_)
  intro w2 hr2 hb2 hs2
  have hr12 := hr1.below (by omega) hb2
  have hB2 : Below w.heap.size w w2 := hb1.trans (hb2.mono (by omega))
  have hlt1 : w.heap.size < w.heap.size + 1 := by omega
  clear hr1 hb1 hs1 hb2 hs2
  generalize hN1 : w.heap.size + 1 = N1 at *
  clear hN1
  rw [← fill_zero] at hr2
  have K1 := Lib.hid hr12
  have KB := Lib.hid hB2
  have K2 := Lib.hid hr2
  clear hr12 hB2 hr2
  go_wp2_with fail
  go_loopw [4] (fun v W => ∃ k : Nat, k ≤ 256 ∧ v = .int .i64 k ∧ Hid (RowV W w.heap.size 43 zeroSec.cs) ∧ Hid (RowV W N1 43 (cells (fill (List.replicate k b) 256))) ∧ Hid (Below w.heap.size w W)) (fun v _ => 256 - (intOf v).toNat)
  case atStart => exact ⟨0, Nat.zero_le _, rfl, K1, K2, KB⟩
  case round =>
    obtain ⟨k, hkn, rfl, M1, M2, MB⟩ := hrel
    clear K1 K2 KB
    by_cases hlt : k < 256
    · have hlt' : (k : Int) < 256 := by omega
      have hk0 : (0 : Int) ≤ (k : Int) := by omega
      have f := M2.out.free k
      obtain ⟨u, g⟩ : ∃ u, wr.cell? ⟨N1, k, none⟩ = some u := ⟨_, M2.out.cell (i := k) (List.getElem?_eq_getElem (by rw [cells_length, fill_length (by simp; omega)]; omega))⟩
      go_wp2_with fail
      go_roundw
      case rel =>
        refine ⟨k + 1, by omega, rfl, Lib.hid (M1.out.setCell_other (by show w.heap.size ≠ N1; omega) _), Lib.hid ?_, Lib.hid (MB.out.setCell (by show w.heap.size ≤ N1; omega) _)⟩
        rw [← fill_rep b k hlt]
        exact M2.out.setCell k _
      case measure => show 256 - (k + 1) < 256 - k; omega
    · obtain rfl : k = 256 := by omega
      have m2 := M2.out
      have m1 := M1.out
      rw [fill_done] at m2
      go_wp2_with (first
        | ((with_reducible refine at_load 43 ?_); refine wpList_load_row rfl 43 _ rfl N1 rfl 43 (fillSec b).cs.toArray (0, 0) _ m2 Try.underlying43 rfl (sec_size' _) ?_)
        | ((with_reducible refine at_store 43 ?_); refine wpList_store_rowV rfl 43 _ _ rfl w.heap.size (fillSec b).cs rfl rfl 43 zeroSec.cs m1 (sec_size' _) (sec_same _ _) (sec_all _) ?_))
      intro w9 hr9 hg9 hs9
      go_wp2_with fail
      exact bodyPost_ret (results_cell_row (fn := Try.f12) rfl _ _ w.heap.size 43 _ (0, 0) _ rfl hr9 Try.underlying43 rfl (sec_size' _)) rfl ⟨rfl, below_grown MB.out hg9 (Nat.le_refl _) MB.out.size⟩
end Go.Proofs.Ytamjkmelfpdhiaa
