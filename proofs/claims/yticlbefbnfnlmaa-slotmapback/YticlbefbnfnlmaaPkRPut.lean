/-
  Words for what a call answers: new bytes ('RetRow', 'RetNew'); rows that are filled from the front. No function of the program is named here.
  The contract of the reference's Put (layer 1).
-/
import Derived.Test.YticlbefbnfnlmaaRows
import Derived.Test.YticlbefbnfnlmaaPkMemV
import Derived.Test.YticlbefbnfnlmaaPkNum
import Derived.Test.YticlbefbnfnlmaaPkApp
import Derived.WalkKit
import Derived.WalkLawsBesides
import Derived.Lib.Hide
namespace Go.Proofs.Yticlbefbnfnlmaa
open Go.RowKit
set_option linter.unusedVariables false

theorem Try.info5 : (Try.prog.info? 5).map (fun i => (i.zero, i.size, i.bytes)) = some (some (.int .u8 0), 1, 1) := by kernel_rfl

/-- A call that answers new bytes, and turns nothing that was there. -/
def RetRow (w : World) (xs : List UInt8) (e : Ending) (w' : World) : Prop :=
  ∃ A c, e = .returned (.slice A xs.length c) ∧ xs.length ≤ c ∧ c ≤ maxLen ∧ Lies w' w'.heap.size A xs ∧ Below w.heap.size w w'

/-- The address, if there is one, lies from block lo on. -/
def Fresh (lo : Nat) (A : Option Addr) : Prop := ∀ a, A = some a → lo ≤ a.block
theorem Fresh.of_own {w : World} {base : Nat} {e : TypeId} {size : Nat} {A : Option Addr} {n m c : Nat} {xs : List Value} (h : w.ownsRow base e size (.slice A m c) n xs) : Fresh base A := by
  rintro a rfl
  exact own_ge h a.block rfl
theorem Lies.set_fresh {w : World} {B lo : Nat} {A : Option Addr} {xs : List UInt8} (h : Lies w B A xs) (hf : Fresh lo A) {p : Addr} (hp : p.block < lo) (v : Value) : Lies (w.setCell p v) B A xs := by
  intro hx
  obtain ⟨b, o, e, hb, hc⟩ := h hx
  refine ⟨b, o, e, hb, fun i x hi => ?_⟩
  rw [World.cell?_of_block (Below.heap_setCell w p v b (by have := hf _ e; simp at this; omega))]
  exact hc i x hi
theorem Lies.grown_fresh {w w' : World} {B lo g : Nat} {A : Option Addr} {xs : List UInt8} (h : Lies w B A xs) (hf : Fresh lo A) (hg : w.grownBy w' (some g)) (hB : B ≤ w.heap.size) (hp : g < lo) : Lies w' B A xs := by
  intro hx
  obtain ⟨b, o, e, hb, hc⟩ := h hx
  refine ⟨b, o, e, hb, fun i x hi => ?_⟩
  rw [World.cell?_of_block (hg.block b (by omega) (fun e' => by injection e' with e'; have := hf _ e; simp at this; omega))]
  exact hc i x hi
/-- A call that answers new bytes in new memory, and turns nothing that was there. -/
def RetNew (w : World) (xs : List UInt8) (e : Ending) (w' : World) : Prop :=
  ∃ A c, e = .returned (.slice A xs.length c) ∧ xs.length ≤ c ∧ c ≤ maxLen ∧ Lies w' w'.heap.size A xs ∧ Below w.heap.size w w' ∧ Fresh w.heap.size A

/-- A row of k bytes, the first ones told, the others nought. -/
def fill (xs : List UInt8) (k : Nat) : List UInt8 := xs ++ List.replicate (k - xs.length) 0
theorem fill_length {xs : List UInt8} {k : Nat} (h : xs.length ≤ k) : (fill xs k).length = k := by simp [fill]; omega
theorem fill_set {xs : List UInt8} {k : Nat} (x : UInt8) (h : xs.length < k) : (cells (fill xs k)).set xs.length (.int .u8 (x.toNat : Int)) = cells (fill (xs ++ [x]) k) := by
  have e : k - xs.length = (k - (xs ++ [x]).length) + 1 := by simp; omega
  unfold fill
  rw [e, List.replicate_succ, cells_append, cells_append, cells_append, List.append_assoc]
  rw [List.set_append_right _ _ (by rw [cells_length]; exact Nat.le_refl _), cells_length, Nat.sub_self]
  simp [cells]
theorem fill_full {xs : List UInt8} : fill xs xs.length = xs := by simp [fill]
theorem fill_made (k : Nat) : (madeCells #[Value.int .u8 0] k).toList = cells (fill [] k) := by
  rw [toList_madeCells_one]
  simp [fill, cells]

theorem byte_of (n : Nat) : (n : Int) % 256 = ((UInt8.ofNat n).toNat : Int) := by
  rw [toNat_ofNat]
  omega

end Go.Proofs.Yticlbefbnfnlmaa
namespace Go.Proofs.Yticlbefbnfnlmaa
open Go.RowKit
set_option linter.unusedVariables false

theorem cells_lit (N : Nat) : [Value.int .u8 ((N : Int) % 256)] = cells [UInt8.ofNat N] := by
  rw [byte_of]
  rfl

set_option maxRecDepth 100000 in
set_option maxHeartbeats 400000 in
theorem rput_any (k : Nat) : ∀ (N : Nat) (a s : Int) (w : World), a = (N : Int) → s.toNat = k → s ≤ 65536 → -9223372036854775808 ≤ s → N < 18446744073709551616 →
    Calls Try.prog 35 #[.int .u64 a, .int .i64 s] w (RetNew w (putB N k)) := by
  induction k with
  | zero =>
    intro N a s w ha hk hs hs2 hN
    subst ha
    have hle : s ≤ 0 := by omega
    go_enter Try.func35, Try.ntmps35
    go_wp2_with fail
    go_ret
    exact ⟨none, 0, rfl, Nat.le_refl _, by unfold maxLen; omega, Lies.nil _ _ _, Below.refl _ _, fun a e => by cases e⟩
  | succ k ih =>
    intro N a s w ha hk hs hs2 hN
    subst ha
    have hpos : 0 < s := by omega
    have hkk : k + 1 ≤ 65536 := by omega
    have hs1 : (s - 1).toNat = k := by omega
    have Hk := Lib.hid hs1
    have Hih := Lib.hid ih
    have Hc := Lib.hid (cells_lit N)
    obtain ⟨i0, hi, hz0, hz1, hz2⟩ := info_parts Try.info5
    clear ih hk hs1
    go_enter Try.func35, Try.ntmps35
    go_wp2_with fail
    refine (Hih.out (N / 256) _ _ _ (by omega) Hk.out (by omega) (by omega) (by omega)).mono ?_
    rintro e w1 ⟨A, c, rfl, hc, hcm, hl, hb, _⟩
    have hown : (w.alloc (.cells #[Value.int .u8 ((N : Int) % 256)] 5)).ownsRow w.heap.size 5 1 (.slice (some ⟨w.heap.size, 0, none⟩) 1 1) 1 (cells [UInt8.ofNat N]) := by
      rw [← Hc.out]
      exact World.ownsRow_lit w #[Value.int .u8 ((N : Int) % 256)] 1 (Nat.le_refl _) (by unfold maxLen; omega) rfl
    have hown1 := own_below hown hb
    have hb0 : Below w.heap.size w w1 := ((Below.refl _ _).alloc (Nat.le_refl _) _).trans (hb.mono (by simp))
    have hsz := hb0.size
    have hpl := putB_length (N / 256) k
    go_wp2_with (at_builtin; refine wpList_append_lies rfl _ _ 41 rfl w.heap.size i0 Try.underlying41 hi hz0 hz1 hz2 _ 1 [UInt8.ofNat N] (putB (N / 256) k) rfl hown1 w1.heap.size _ _ _ rfl hl (by omega) (by omega) hsz ?_)
    intro v' w2 hown2 hg2
    go_wp2_with fail
    go_ret
    obtain ⟨A2, c2, rfl, h1, h2, h3, h4⟩ := Lies.of_own hown2
    exact ⟨A2, c2, rfl, (show (UInt8.ofNat N :: putB (N / 256) k).length ≤ c2 by omega), h3, h4, hb0.grown hg2 hsz (own_ge hown1), Fresh.of_own hown2⟩
end Go.Proofs.Yticlbefbnfnlmaa
