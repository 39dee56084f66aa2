/-
  The contract of the reference's Put (layer 1).
-/
import Derived.Test.YtoiphbdmmiikaaaPut
namespace Go.Proofs.Ytoiphbdmmiikaaa
open Go.RowKit
set_option linter.unusedVariables false

theorem cells_lit (N : Nat) : [Value.int .u8 ((N : Int) % 256)] = cells [UInt8.ofNat N] := by
  rw [byte_of]
  rfl

set_option maxRecDepth 100000 in
set_option maxHeartbeats 400000 in
theorem rput_any (k : Nat) : ∀ (N : Nat) (a s : Int) (w : World), a = (N : Int) → s.toNat = k → s ≤ 65536 → -9223372036854775808 ≤ s → N < 18446744073709551616 →
    Calls Try.prog 24 #[.int .u64 a, .int .i64 s] w (RetNew w (putB N k)) := by
  induction k with
  | zero =>
    intro N a s w ha hk hs hs2 hN
    subst ha
    have hle : s ≤ 0 := by omega
    go_enter Try.func24, Try.ntmps24
    go_wp2_with fail
    go_ret
    exact ⟨none, 0, rfl, Nat.le_refl _, by unfold maxLen; omega, Lies.nil _ _ _, Below.refl _ _, fun a e => by cases e⟩
  | succ k ih =>
    intro N a s w ha hk hs hs2 hN
    subst ha
    have hpos : 0 < s := by omega
    have hkk : k + 1 ≤ 65536 := by omega
    have hs1 : (s - 1).toNat = k := by omega
    have Hk := Lib.hid hs1
    have Hih := Lib.hid ih
    have Hc := Lib.hid (cells_lit N)
    obtain ⟨i0, hi, hz0, hz1, hz2⟩ := info_parts Try.info5
    clear ih hk hs1
    go_enter Try.func24, Try.ntmps24
    go_wp2_with fail
    refine (Hih.out (N / 256) _ _ _ (by omega) Hk.out (by omega) (by omega) (by omega)).mono ?_
    rintro e w1 ⟨A, c, rfl, hc, hcm, hl, hb, _⟩
    have hown : (w.alloc (.cells #[Value.int .u8 ((N : Int) % 256)] 5)).ownsRow w.heap.size 5 1 (.slice (some ⟨w.heap.size, 0, none⟩) 1 1) 1 (cells [UInt8.ofNat N]) := by
      rw [← Hc.out]
      exact World.ownsRow_lit w #[Value.int .u8 ((N : Int) % 256)] 1 (Nat.le_refl _) (by unfold maxLen; omega) rfl
    have hown1 := own_below hown hb
    have hb0 : Below w.heap.size w w1 := ((Below.refl _ _).alloc (Nat.le_refl _) _).trans (hb.mono (by simp))
    have hsz := hb0.size
    have hpl := putB_length (N / 256) k
    go_wp2_with (at_builtin; refine wpList_append_lies rfl _ _ 46 rfl w.heap.size i0 Try.underlying46 hi hz0 hz1 hz2 _ 1 [UInt8.ofNat N] (putB (N / 256) k) rfl hown1 w1.heap.size _ _ _ rfl hl (by omega) (by omega) hsz ?_)
    intro v' w2 hown2 hg2
    go_wp2_with fail
    go_ret
    obtain ⟨A2, c2, rfl, h1, h2, h3, h4⟩ := Lies.of_own hown2
    exact ⟨A2, c2, rfl, (show (UInt8.ofNat N :: putB (N / 256) k).length ≤ c2 by omega), h3, h4, hb0.grown hg2 hsz (own_ge hown1), Fresh.of_own hown2⟩
end Go.Proofs.Ytoiphbdmmiikaaa
