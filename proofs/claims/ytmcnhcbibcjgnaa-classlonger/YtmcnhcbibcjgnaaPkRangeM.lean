/-
  Ranges over a function, naming no program: what a round must keep for the iterator ('KeepsL'), what a caller's invariant may be ('Stays'), a function that holds such a loop entered by its body at the wide fence.
-/
import Derived.RangeFuncNested
import Derived.RangeFuncBound
import Derived.RangeFuncCalls
import Derived.RangeFuncLeaves
import Derived.Shelf.Abstract
import Derived.Shelf.RegionOpen
import Derived.WalkKit
import Derived.OwnWalkIn
import Derived.TacticsInMore
import Derived.LoopNIn
import Derived.LoopIn
import Derived.Test.YtmcnhcbibcjgnaaPkSuperM
namespace Go.Proofs.Ytmcnhcbibcjgnaa
open Go.RowKit Go.Shelf
set_option linter.unusedVariables false

/-- The blocks of L are as they were. -/
def KeepsL (L : List Nat) (W W' : World) : Prop := ∀ k ∈ L, W'.heap[k]? = W.heap[k]?
theorem KeepsL.refl (L : List Nat) (W : World) : KeepsL L W W := fun _ _ => rfl
theorem KeepsL.trans {L : List Nat} {A B C : World} (h : KeepsL L A B) (k : KeepsL L B C) : KeepsL L A C := fun i hi => (k i hi).trans (h i hi)
theorem KeepsL.of {L : List Nat} {W W' : World} {row : Option Nat} (hg : W.grownBy W' row) (hL : ∀ k ∈ L, k < W.heap.size ∧ row ≠ some k) : KeepsL L W W' := fun k hk => hg.block k (hL k hk).1 (fun e => (hL k hk).2 e.symm)
theorem keepsL_b {L : List Nat} {w : World} (hL : ∀ k ∈ L, k < w.heap.size) (W : World) (l : Nat) (o o' : Obj) (hl : w.heap.size ≤ l) (h : W.heap[l]? = some o) (_ : o.isCells = false) (_ : o.isWalk = false) : KeepsL L W (W.putObj l o') :=
  fun k hk => World.putObj_heap_other (by have := hL k hk; omega)

/-- Steps of the loop's own: blocks below B and blocks of cells stay as they were. -/
structure Stays10 (B : Nat) (W W' : World) : Prop where
  os : W'.os = W.os
  tape : W'.tape = W.tape
  output : W'.output = W.output
  size : W.heap.size ≤ W'.heap.size
  below : ∀ k, k < B → k < W.heap.size → W'.heap[k]? = W.heap[k]?
  cells : ∀ (k : Nat) (o : Obj), W.heap[k]? = some o → o.isCells = true → W'.heap[k]? = some o
theorem ownFrom_stays {β : Type} {B : Nat} {I : β → World → Prop} (h : ∀ s W W', I s W → Stays10 B W W' → I s W') : OwnFrom B I := by
  intro s W W' row hs hg hr
  refine h s W W' hs ⟨hg.os, hg.tape, hg.output, hg.size, fun k hk hk2 => hg.block k hk2 (fun e => ?_), fun k o hk ho => (hg.block k (Array.getElem?_eq_some_iff.1 hk).1 (fun e => ?_)).trans hk⟩
  · have := (hr k e.symm).1; omega
  · obtain ⟨_, o', ho', hc⟩ := hr k e.symm
    rw [hk] at ho'
    cases ho'
    rw [ho] at hc
    cases hc
theorem Stays10.row {B : Nat} {W W' : World} (h : Stays10 B W W') {g : Nat} {t : TypeId} {cs : List Value} (hr : RowV W g t cs) : RowV W' g t cs := h.cells g _ hr rfl
theorem Stays10.one {B : Nat} {W W' : World} (h : Stays10 B W W') {b : Nat} {v : Value} {t : TypeId} (hr : One W b v t) : One W' b v t := h.cells b _ hr rfl
theorem Stays10.own {B : Nat} {W W' : World} (h : Stays10 B W W') {base : Nat} {e : TypeId} {size : Nat} {v : Value} {n : Nat} {xs : List Value} (hr : W.ownsRow base e size v n xs) : W'.ownsRow base e size v n xs := by
  refine ⟨hr.1, ?_⟩
  rcases hr.2 with hn | ⟨g, cap, cur, rfl, hb, hg, rest⟩
  · exact .inl hn
  · exact .inr ⟨g, cap, cur, rfl, hb, h.cells g _ hg rfl, rest⟩
theorem Stays10.but {B : Nat} {W W' w : World} (h : Stays10 B W W') {L : List Nat} {C : Nat} (hC : C ≤ B) (hw : C ≤ w.heap.size) (hb : But L C w W) : But L C w W' :=
  hb.trans ⟨h.os, h.tape, h.output, h.size, fun k hk _ => h.below k (by omega) (by have := hb.size; omega)⟩
theorem Stays10.bel {B : Nat} {W W' w : World} (h : Stays10 B W W') {C : Nat} (hC : C ≤ B) (hw : C ≤ w.heap.size) (hb : Below C w W) : Below C w W' :=
  ⟨h.os.trans hb.os, h.tape.trans hb.tape, h.output.trans hb.output, Nat.le_trans hb.size h.size, fun k hk => (h.below k (by omega) (by have := hb.size; omega)).trans (hb.block k hk)⟩
/-- At the function's return the block for the rounds' deferred calls is shut. -/
theorem stays_put {B : Nat} {W : World} {D : Nat} (hD : B ≤ D) (hK : W.heap[D]? = some (.deferred (some []))) (o' : Obj) : Stays10 B W (W.putObj D o') :=
  ⟨rfl, rfl, rfl, by simp [World.putObj], fun k hk _ => World.putObj_heap_other (by omega), fun k o hk ho => by
    rw [World.putObj_heap_other]
    · exact hk
    · rintro rfl
      rw [hK] at hk
      cases hk
      cases ho⟩
theorem keepsFrom_of {B : Nat} {W W' : World} {row : Option Nat} (hg : W.grownBy W' row) (hrow : ∀ (j : Nat) (o : Obj), row = some j → W.heap[j]? = some o → o.isCells = true) : KeepsFrom B W W' := (KeepsOthers.of_grownBy hg hrow).from B

/-- What the body of a function must achieve that holds such a loop and never panics. -/
def bodyPostN (P : Program) (fn : Func) (R : Ending → World → Prop) : Exit → Act → World → Prop
  | .normal, a, w | .ret, a, w => LeavesInM Fence.wide 3 P fn a.tmps R a.defers .returning w
  | .outgrown, _, w => R .outgrown w
  | _, _, _ => False
/-- A function that holds a range over a function: its contract from its body, without a fence. -/
theorem calls_of_wp_marks {P : Program} {f : FuncId} {fn : Func} {c : Code} {args : Array Value} {w : World} {R : Ending → World → Prop}
    (hf : P.funcs[f]? = some fn) (hb : fn.body = some c)
    (h : c.wp P (bodyPostN P fn R) { tmps := args ++ Array.replicate (fn.ntmps - args.size) undef, defers := [] } w) : Calls P f args w R :=
  (callsIn_wide (n := 3)).1 (callsIn_of_wp_marks hf hb trivial (wpIn_mono ((wpIn_wide (n := 3)).2 h) (by intro e a w h; cases e <;> first | exact h | exact h.elim)) rfl)
theorem wp_rangeFunc {P : Program} {g : Operand} {ps : Array Tmp} {assign body : Code} {Q : Exit → Act → World → Prop} {a : Act} {w : World} (h : (Code.rangeFunc g ps assign body).wpIn Fence.wide 3 P Q a w) : (Code.rangeFunc g ps assign body).wp P Q a w := (wpIn_wide (n := 3)).1 h
end Go.Proofs.Ytmcnhcbibcjgnaa
