/-
  The contract of works (the package of layer 2's laws): its examples come out true, in whatever world.
-/
import Derived.Test.YtnmlkkjodcpbhaaCrcHold
import Derived.Test.YtnmlkkjodcpbhaaLit
namespace Go.Proofs.Ytnmlkkjodcpbhaa
open Go.RowKit
set_option linter.unusedVariables false

theorem crc_nine : nv (crcOf [49, 50, 51, 52, 53, 54, 55, 56, 57]) = 3421780262 := by decide +kernel
theorem more_nine : nv (crcMore (crcOf [49, 50, 51, 52, 53]) [54, 55, 56, 57]) = 3421780262 := by rw [crcMore_more]; exact crc_nine
theorem crc_none : nv (crcOf []) = 0 := by decide +kernel
theorem of_nine (w : World) (A : Option Addr) (c B : Nat) (h : Lies w B A [49, 50, 51, 52, 53, 54, 55, 56, 57]) : Calls Try.prog 8 #[.slice A 9 c] w fun e w' => e = .returned (.int .u32 3421780262) ∧ w = w' := by
  have := of_any A 9 c _ w B h rfl (by omega)
  rwa [crc_nine] at this
theorem of_none (w : World) : Calls Try.prog 8 #[.slice none 0 0] w fun e w' => e = .returned (.int .u32 0) ∧ w = w' := by
  have := of_any none 0 0 [] w 0 (Lies.nil _ _ _) rfl (by omega)
  rwa [crc_none] at this
theorem more_nine' (w : World) (A : Option Addr) (c B : Nat) (h : Lies w B A [54, 55, 56, 57]) : Calls Try.prog 10 #[.int .u32 (nv (crcOf [49, 50, 51, 52, 53])), .slice A 4 c] w fun e w' => e = .returned (.int .u32 3421780262) ∧ w = w' := by
  have := more_any (crcOf [49, 50, 51, 52, 53]) A 4 c _ w B h rfl (by omega)
  rwa [more_nine] at this
theorem four_lit (w : World) : Calls Try.prog 15 #[.int .u32 16909060] w fun e w' => e = .returned (.agg (cells [4, 3, 2, 1]).toArray) ∧ Below w.heap.size w w' := by
  have := four_any 16909060#32 w
  rwa [show nv 16909060#32 = 16909060 by decide, show four 16909060#32 = [4, 3, 2, 1] by decide +kernel] at this
theorem holds_yes (A : Option Addr) (n c : Nat) (xs : List UInt8) (w : World) (B : Nat) (h : Lies w B A (sealB xs)) (hB : B ≤ w.heap.size) (hn : n = (sealB xs).length) (hc : n ≤ c) (hm : c ≤ 9223372036854775807) :
    Calls Try.prog 13 #[.slice A n c] w fun e w' => e = .returned (.bool true) ∧ Below w.heap.size w w' := by
  have := holds_any A n c _ w B h hB hn hc hm
  rwa [holdsB_seal] at this

/-- A call that leaves the world alone, behind a literal that was laid for it. -/
theorem Calls.lit {f : Nat} {args : Array Value} {v : Value} {w : World} {o : Obj} (h : Calls Try.prog f args (w.alloc o) fun e w' => e = .returned v ∧ w.alloc o = w') : Calls Try.prog f args (w.alloc o) fun e w' => e = .returned v ∧ Below w.heap.size w w' := by
  refine h.mono ?_
  rintro e w' ⟨rfl, rfl⟩
  exact ⟨rfl, (Below.refl _ _).alloc (Nat.le_refl _) _⟩
/-- A call that makes memory, behind a literal that was laid for it. -/
theorem Calls.lit_below {f : Nat} {args : Array Value} {v : Value} {w : World} {o : Obj} (h : Calls Try.prog f args (w.alloc o) fun e w' => e = .returned v ∧ Below (w.alloc o).heap.size (w.alloc o) w') : Calls Try.prog f args (w.alloc o) fun e w' => e = .returned v ∧ Below w.heap.size w w' := by
  refine h.mono ?_
  rintro e w' ⟨rfl, hb⟩
  exact ⟨rfl, ((Below.refl _ _).alloc (Nat.le_refl _) _).trans (hb.mono (by simp))⟩

theorem Try.build4 (w : World) : (Instr.build 36 #[(0, .int .u8 4), (1, .int .u8 3), (2, .int .u8 2), (3, .int .u8 1)]).run Try.prog w = .ok (.agg (cells [4, 3, 2, 1]).toArray) w := run_build w 36 _ _ (by kernel_rfl)

set_option maxRecDepth 100000 in
set_option maxHeartbeats 1000000 in
theorem works02_any (w : World) : Calls Try.prog 7 #[] w fun e w' => e = .returned (.bool true) ∧ Below w.heap.size w w' := by
  have hcv := Lib.run_convert_bytes_const (P := Try.prog) w 22 5 #[.int .u8 49, .int .u8 50, .int .u8 51, .int .u8 52, .int .u8 53, .int .u8 54, .int .u8 55, .int .u8 56, .int .u8 57] 9 9 Try.underlying22 Try.underlying5
  go_enter Try.func7, Try.ntmps7
  go_wp2_with fail
  clear hcv
  refine (Calls.lit (of_nine _ _ _ _ (Lies.lit_mark w _ _ _ rfl _ (Nat.lt_succ_self _)))).mono ?_
  rintro e w1 ⟨rfl, hb1⟩
  have hcv := Lib.run_convert_bytes_const (P := Try.prog) w1 22 5 #[.int .u8 49, .int .u8 50, .int .u8 51, .int .u8 52, .int .u8 53] 5 5 Try.underlying22 Try.underlying5
  go_wp2_with fail
  refine (of_none _).mono ?_
  rintro e w' ⟨rfl, rfl⟩
  go_wp2_with fail
  clear hcv
  refine (Calls.lit (of_any _ _ _ [49, 50, 51, 52, 53] _ _ (Lies.lit_mark w1 _ _ _ rfl _ (Nat.lt_succ_self _)) rfl (by decide))).mono ?_
  rintro e w2 ⟨rfl, hb2⟩
  replace hb2 := below_seq hb1 hb2
  clear hb1
  have hcv := Lib.run_convert_bytes_const (P := Try.prog) w2 22 5 #[.int .u8 54, .int .u8 55, .int .u8 56, .int .u8 57] 4 4 Try.underlying22 Try.underlying5
  go_wp2_with fail
  clear hcv
  refine (Calls.lit (more_nine' _ _ _ _ (Lies.lit_mark w2 _ _ _ rfl _ (Nat.lt_succ_self _)))).mono ?_
  rintro e w3 ⟨rfl, hb3⟩
  replace hb3 := below_seq hb2 hb3
  clear hb2
  go_wp2_with fail
  refine (four_lit _).mono ?_
  rintro e w4 ⟨rfl, hb4⟩
  replace hb4 := below_seq hb3 hb4
  clear hb3
  have hbd := Try.build4
  have heq : ∀ W, (Op.equalIn 10000 36 (.agg (cells [4, 3, 2, 1]).toArray) (.agg #[.int .u8 4, .int .u8 3, .int .u8 2, .int .u8 1])).run Try.prog W = .ok true W := fun W => run_equalIn_bytes (P := Try.prog) W 9998 Try.underlying36 Try.underlying5 Try.cells5 (xs := [4, 3, 2, 1]) (ys := [4, 3, 2, 1]) rfl rfl
  have hgd := Try.guard4
  have hcv := Lib.run_convert_bytes_const (P := Try.prog) w4 22 5 #[.int .u8 97] 1 1 Try.underlying22 Try.underlying5
  go_wp2_with fail
  clear hcv hbd heq hgd
  refine (sealed_any _ _ _ [97] _ _ (Lies.lit_mark w4 _ _ _ rfl _ (Nat.lt_succ_self _)) (by simp) rfl (by decide)).mono ?_
  rintro e w5 ⟨A5, c5, rfl, hc5, hm5, hl5, hb5, _⟩
  have hb5' : Below w4.heap.size w4 w5 := ((Below.refl _ _).alloc (Nat.le_refl _) _).trans (hb5.mono (by simp))
  replace hb5 := below_seq hb4 hb5'
  clear hb4 hb5'
  go_wp2_with fail
  refine (holds_yes _ _ _ [97] _ _ hl5 (Nat.le_refl _) rfl hc5 (by unfold maxLen at hm5; exact hm5)).mono ?_
  rintro e w6 ⟨rfl, hb6⟩
  replace hb6 := below_seq hb5 hb6
  clear hb5 hl5
  have hcv := Lib.run_convert_bytes_const (P := Try.prog) w6 22 5 #[.int .u8 97, .int .u8 98, .int .u8 99] 3 3 Try.underlying22 Try.underlying5
  go_wp2_with fail
  clear hcv
  refine (Calls.lit (holds_short _ _ _ _ (by decide))).mono ?_
  rintro e w7 ⟨rfl, hb7⟩
  replace hb7 := below_seq hb6 hb7
  clear hb6
  go_wp2_with fail
  go_ret
  exact ⟨rfl, hb7⟩
end Go.Proofs.Ytnmlkkjodcpbhaa
