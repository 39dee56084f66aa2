/-
  Layer 5: contracts of trap.call and its deferred closure, Catch.
-/
import Derived.Test.YtkogolgaggdacaaTrapC
namespace Go.Proofs.Ytkogolgaggdacaa
open Go.RowKit
set_option linter.unusedVariables false

/-- The deferred closure, where the call has returned. -/
theorem told_idle (p q : Addr) (u : FrameMode) (w : World) (hp : w.cell? p = some (.bool true)) :
    CallsD Try.prog 42 #[.pointer (some p), .pointer (some q)] u w fun e u' w' => u' = u ∧ e = .returned (.tuple #[]) ∧ w = w' := by
  go_enter_d Try.func42, Try.ntmps42
  go_wp2
  refine bodyPost_ret (results_none rfl _ _ _) rfl ?_
  exact ⟨rfl, rfl⟩

theorem ta_fault (x : Value) (w : World) : (Instr.typeAssert (.iface 44 x) 20 44 true).run Try.prog w = .ok (.tuple #[x, .bool true]) w := by
  simp [Instr.typeAssert, run_underlying Try.underlying44, go_sem]
theorem ta_other (u : TypeId) (x : Value) (w : World) (h : ¬ u = 44) : (Instr.typeAssert (.iface u x) 20 44 true).run Try.prog w = .ok (.tuple #[.agg #[.int .i64 0], .bool false]) w := by
  simp [Instr.typeAssert, run_underlying Try.underlying44, go_sem, h]
  try rfl

theorem told_fault (p : Addr) (b : Nat) (c : Int) (older : List PanicEntry) (w : World) (hp : w.cell? p = some (.bool false)) (v : Value) (hq : One w b v 22) :
    CallsD Try.prog 42 #[.pointer (some p), .pointer (some ⟨b, 0, none⟩)] (.panicking ({ v := .iface FF (.agg #[.int .i64 c]), recovered := false } :: older)) w fun e u' w' =>
      e = .returned (.tuple #[]) ∧ u' = .panicking ({ v := .iface FF (.agg #[.int .i64 c]), recovered := true } :: older) ∧ w' = (w.alloc (.cells #[.int .i64 c] FF)).setCell ⟨b, 0, none⟩ (.int .i64 c) := by
  have hta := ta_fault
  have c1 := (hq.alloc (.cells #[.int .i64 c] 44)).cell
  have c2 := (hq.alloc (.cells #[.int .i64 c] 44)).free
  refine callsD_of_wpS Try.func42 rfl fun c₀ cs hu => ?_
  apply wpS_seq
  apply wpS_seq
  apply wpS_region
  simp [wpOpsS, go_sem, hp, Try.ntmps42, Exit.thenS]
  refine wpS_cond (t := false) (by simp [Act.eval, Array.replicate]) ?_
  simp only [Bool.false_eq_true, if_false]
  refine wpS_of_wp (wp_skip ?_)
  simp only [Exit.thenS]
  apply wpS_seq
  apply wpS_region
  simp [wpOpsS, go_sem, recoverD, hu, Exit.thenS]
  refine wpS_of_wp ?_
  go_wp2
  exact ⟨rfl, _, rfl, _, results_none rfl _ _ _, rfl, rfl, rfl⟩

theorem told_other (p : Addr) (b : Nat) (t : TypeId) (x : Value) (ht : t ≠ FF) (older : List PanicEntry) (w : World) (hp : w.cell? p = some (.bool false)) (v : Value) (hq : One w b v 22) :
    CallsD Try.prog 42 #[.pointer (some p), .pointer (some ⟨b, 0, none⟩)] (.panicking ({ v := .iface t x, recovered := false } :: older)) w fun e u' w' =>
      e = .returned (.tuple #[]) ∧ u' = .panicking ({ v := .iface t x, recovered := true } :: older) ∧ w' = w.setCell ⟨b, 0, none⟩ (.int .i64 17) := by
  have hta := fun w => ta_other t x w ht
  have c1 := hq.cell
  have c2 := hq.free
  refine callsD_of_wpS Try.func42 rfl fun c₀ cs hu => ?_
  apply wpS_seq
  apply wpS_seq
  apply wpS_region
  simp [wpOpsS, go_sem, hp, Try.ntmps42, Exit.thenS]
  refine wpS_cond (t := false) (by simp [Act.eval, Array.replicate]) ?_
  simp only [Bool.false_eq_true, if_false]
  refine wpS_of_wp (wp_skip ?_)
  simp only [Exit.thenS]
  apply wpS_seq
  apply wpS_region
  simp [wpOpsS, go_sem, recoverD, hu, Exit.thenS]
  refine wpS_of_wp ?_
  go_wp2
  exact ⟨rfl, _, rfl, _, results_none rfl _ _ _, rfl, rfl, rfl⟩

/-- trap.call: the code of what f throws, and whether f returned. -/
theorem call_any (g : FuncId) (cap : Array Value) (L : List Nat) (w : World) (c : Int) (ok : Bool) (Post : World → Prop) (hL : ∀ k ∈ L, k < w.heap.size)
    (he : ∀ (w : World) (d : Array Value), (callFunc g d).run Try.prog w = .ok (.enter g d) w)
    (hf : Does Try.prog FF g cap L ((w.alloc (.cells #[.int .i64 0] 22)).alloc (.cells #[.bool false] 4)) c ok Post) :
    Calls Try.prog 26 #[.func (.func g) #[] cap] w fun e w' => e = .returned (.tuple #[.int .i64 c, .bool ok]) ∧ But L w.heap.size w w' ∧ ∃ w1, Post w1 ∧ Below w.heap.size w1 w' := by
  have hmf : ∀ (fn : Fn) (first cap : Array Value) (w : World), (Instr.makeFunc fn first cap).run Try.prog w = .ok (.func fn first cap) w := fun _ _ _ _ => rfl
  go_enter_defers Try.func26, Try.ntmps26
  go_wp2_with fail
  refine Calls.mono hf ?_
  rintro e w1 ⟨ht, hb, hP⟩
  have hs2 : ((w.alloc (.cells #[.int .i64 0] 22)).alloc (.cells #[.bool false] 4)).heap.size = w.heap.size + 2 := by simp
  have h1 : One ((w.alloc (.cells #[.int .i64 0] 22)).alloc (.cells #[.bool false] 4)) w.heap.size (.int .i64 0) 22 := (One.new w _ _).alloc _
  have h2 : One ((w.alloc (.cells #[.int .i64 0] 22)).alloc (.cells #[.bool false] 4)) (w.heap.size + 1) (.bool false) 4 := by
    have := One.new (w.alloc (.cells #[.int .i64 0] 22)) (.bool false) 4
    simpa using this
  have k1 := h1.but hb (by rw [hs2]; omega) (fun h => absurd (hL _ h) (by omega))
  have k2 := h2.but hb (by rw [hs2]; omega) (fun h => absurd (hL _ h) (by omega))
  have hbw : But L w.heap.size w w1 := (((But.refl L w.heap.size w).alloc (by omega) _).alloc (by simp) _).trans (hb.less (by rw [hs2]; omega))
  have hsz := hbw.size
  have HB := Lib.hid hbw
  have HP := Lib.hid hP
  have HK1 := Lib.hid k1
  have HK2 := Lib.hid k2
  have HT := Lib.hid ht
  clear h1 h2 hb hbw hP hs2 ht
  cases HT.out with
  | ret =>
    have c1 := k1.cell
    have c2 := k1.free
    have c3 := (k2.other (p := ⟨w.heap.size, 0, none⟩) (by show w.heap.size + 1 ≠ w.heap.size; omega) (.int .i64 0)).cell
    have c4 := (k2.other (p := ⟨w.heap.size, 0, none⟩) (by show w.heap.size + 1 ≠ w.heap.size; omega) (.int .i64 0)).free
    have d3 := ((k2.other (p := ⟨w.heap.size, 0, none⟩) (by show w.heap.size + 1 ≠ w.heap.size; omega) (.int .i64 0)).set (.bool true)).cell
    have d1 := ((k1.set (.int .i64 0)).other (p := ⟨w.heap.size + 1, 0, none⟩) (by show w.heap.size ≠ w.heap.size + 1; omega) (.bool true)).cell
    have D1 := Lib.hid d1
    have D3 := Lib.hid d3
    clear k1 k2 d1 d3
    go_wp2
    refine leaves_cons (f := 42) (args := #[.pointer (some ⟨w.heap.size + 1, 0, none⟩), .pointer (some ⟨w.heap.size, 0, none⟩)]) (by simp) (by simp [go_sem]) ?_
    refine (told_idle _ _ _ _ D3.out).mono ?_
    rintro e u' w'' ⟨rfl, rfl, rfl⟩
    have q1 := D1.out
    have q3 := D3.out
    simp [Leaves, settle, results, Try.results26, go_sem, q1, q3]
    exact ⟨(HB.out.setCell (.inr (Nat.le_refl _)) _).setCell (.inr (Nat.le_succ _)) _, w1, HP.out, ((Below.refl w.heap.size w1).setCell (p := ⟨w.heap.size, 0, none⟩) (Nat.le_refl _) _).setCell (p := ⟨w.heap.size + 1, 0, none⟩) (Nat.le_succ _) _⟩
  | fault =>
    refine leaves_cons (f := 42) (args := #[.pointer (some ⟨w.heap.size + 1, 0, none⟩), .pointer (some ⟨w.heap.size, 0, none⟩)]) (by simp) (by simp [go_sem]) ?_
    refine (told_fault _ _ _ _ _ k2.cell _ k1).mono ?_
    rintro e u' w'' ⟨rfl, rfl, rfl⟩
    have q1 := ((k1.alloc (.cells #[.int .i64 c] FF)).set (.int .i64 c)).cell
    have q3 := ((k2.alloc (.cells #[.int .i64 c] FF)).other (p := ⟨w.heap.size, 0, none⟩) (by show w.heap.size + 1 ≠ w.heap.size; omega) (.int .i64 c)).cell
    simp [Leaves, settle, results, Try.results26, go_sem, q1, q3]
    exact ⟨(HB.out.alloc hsz _).setCell (.inr (Nat.le_refl _)) _, w1, HP.out, ((Below.refl _ _).alloc hsz _).setCell (Nat.le_refl _) _⟩
  | other t x ht =>
    refine leaves_cons (f := 42) (args := #[.pointer (some ⟨w.heap.size + 1, 0, none⟩), .pointer (some ⟨w.heap.size, 0, none⟩)]) (by simp) (by simp [go_sem]) ?_
    refine (told_other _ _ _ _ ht _ _ k2.cell _ k1).mono ?_
    rintro e u' w'' ⟨rfl, rfl, rfl⟩
    have q1 := (k1.set (.int .i64 17)).cell
    have q3 := (k2.other (p := ⟨w.heap.size, 0, none⟩) (by show w.heap.size + 1 ≠ w.heap.size; omega) (.int .i64 17)).cell
    simp [Leaves, settle, results, Try.results26, go_sem, q1, q3]
    exact ⟨HB.out.setCell (.inr (Nat.le_refl _)) _, w1, HP.out, (Below.refl w.heap.size w1).setCell (p := ⟨w.heap.size, 0, none⟩) (Nat.le_refl _) _⟩

/-- Catch of a function. -/
theorem catch_any (g : FuncId) (cap : Array Value) (L : List Nat) (w : World) (c : Int) (ok : Bool) (Post : World → Prop) (hL : ∀ k ∈ L, k < w.heap.size)
    (he : ∀ (w : World) (d : Array Value), (callFunc g d).run Try.prog w = .ok (.enter g d) w)
    (hf : Does Try.prog FF g cap L ((w.alloc (.cells #[.int .i64 0] 22)).alloc (.cells #[.bool false] 4)) c ok Post) :
    Calls Try.prog 6 #[.func (.func g) #[] cap] w fun e w' => e = .returned (.int .i64 c) ∧ But L w.heap.size w w' ∧ ∃ w1, Post w1 ∧ Below w.heap.size w1 w' := by
  have HC := Lib.hid (call_any g cap L w c ok Post hL he hf)
  have hnf : ∀ w : World, (binOp .eql 1 (.func (.func g) #[] cap) .nilFunc).run Try.prog w = .ok (.bool false) w := fun _ => rfl
  go_enter Try.func6, Try.ntmps6
  go_wp2_with fail
  refine Calls.mono HC.out ?_
  rintro e w1 ⟨rfl, hb, hp⟩
  have HB := Lib.hid hb
  have HP := Lib.hid hp
  clear hb hp
  go_wp2
  go_ret
  exact ⟨rfl, HB.out, HP.out⟩
theorem catch_nil (w : World) : Calls Try.prog 6 #[.nilFunc] w fun e w' => e = .returned (.int .i64 1) ∧ w = w' := by
  have hnf : ∀ w : World, (binOp .eql 1 .nilFunc .nilFunc).run Try.prog w = .ok (.bool true) w := fun _ => rfl
  go_enter Try.func6, Try.ntmps6
  go_wp2
  go_ret
  exact ⟨rfl, rfl⟩
end Go.Proofs.Ytkogolgaggdacaa
