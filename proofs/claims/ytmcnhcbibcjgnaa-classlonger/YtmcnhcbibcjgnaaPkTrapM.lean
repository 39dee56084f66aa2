/-
  Layer 5, naming no program: 'But L B w w'': below block number B the world w' is as w was, but for the blocks that L lists; 'Tells F e c ok': how a function that hands nothing back ends, and the code that is told of it (F: the type of a Fault).
-/
import Derived.WalkKit
import Derived.WalkSmall
import Derived.Laws.Panics
import Derived.Lib.Hide
import Derived.WalkLawsBesides
import Derived.Defers
import Derived.Recover
namespace Go.Proofs.Ytmcnhcbibcjgnaa
open Go.RowKit
set_option linter.unusedVariables false

structure But (L : List Nat) (B : Nat) (w w' : World) : Prop where
  os : w'.os = w.os
  tape : w'.tape = w.tape
  output : w'.output = w.output
  size : w.heap.size ≤ w'.heap.size
  block : ∀ k, k < B → k ∉ L → w'.heap[k]? = w.heap[k]?

theorem But.refl (L : List Nat) (B : Nat) (w : World) : But L B w w := ⟨rfl, rfl, rfl, Nat.le_refl _, fun _ _ _ => rfl⟩
theorem But.trans {L : List Nat} {B : Nat} {a b c : World} (h : But L B a b) (k : But L B b c) : But L B a c :=
  ⟨k.os.trans h.os, k.tape.trans h.tape, k.output.trans h.output, Nat.le_trans h.size k.size, fun i hi hl => (k.block i hi hl).trans (h.block i hi hl)⟩
theorem But.mono {L L' : List Nat} {B B' : Nat} {w w' : World} (h : But L B w w') (hB : B' ≤ B) (hL : ∀ k, k < B' → k ∈ L → k ∈ L') : But L' B' w w' :=
  ⟨h.os, h.tape, h.output, h.size, fun k hk hl => h.block k (Nat.lt_of_lt_of_le hk hB) (fun hm => hl (hL k hk hm))⟩
theorem But.less {L : List Nat} {B B' : Nat} {w w' : World} (h : But L B w w') (hB : B' ≤ B) : But L B' w w' := h.mono hB (fun _ _ h => h)
theorem But.of {B : Nat} {w w' : World} (L : List Nat) (h : Below B w w') : But L B w w' := ⟨h.os, h.tape, h.output, h.size, fun k hk _ => h.block k hk⟩
theorem But.below {L : List Nat} {B : Nat} {w w' : World} (h : But L B w w') (hL : ∀ k, k ∈ L → B ≤ k) : Below B w w' :=
  ⟨h.os, h.tape, h.output, h.size, fun k hk => h.block k hk (fun hm => absurd (hL k hm) (by omega))⟩
theorem But.below' {B : Nat} {w w' : World} (h : But [] B w w') : Below B w w' := h.below (by simp)
theorem But.alloc {L : List Nat} {B : Nat} {a w : World} (h : But L B a w) (hB : B ≤ w.heap.size) (o : Obj) : But L B a (w.alloc o) :=
  h.trans (But.of L ((Below.refl B w).alloc hB o))
theorem But.drew {L : List Nat} {B : Nat} {a w : World} (h : But L B a w) : But L B a w.drew := ⟨h.os, h.tape, h.output, h.size, h.block⟩
theorem But.setCell {L : List Nat} {B : Nat} {a w : World} (h : But L B a w) {p : Addr} (hp : p.block ∈ L ∨ B ≤ p.block) (u : Value) : But L B a (w.setCell p u) :=
  h.trans ⟨rfl, rfl, rfl, by simp [World.setCell], fun k hk hl => Below.heap_setCell _ _ _ _ (by rintro rfl; rcases hp with hp | hp; exact hl hp; omega)⟩

/-- A block of one cell that may be written. -/
def One (w : World) (b : Nat) (v : Value) (t : TypeId) : Prop := w.heap[b]? = some (.cells #[v] t (0, 0))
theorem One.cell {w : World} {b : Nat} {v : Value} {t : TypeId} (h : One w b v t) : w.cell? ⟨b, 0, none⟩ = some v := cell_of_one h
theorem One.free {w : World} {b : Nat} {v : Value} {t : TypeId} (h : One w b v t) : w.frozen? ⟨b, 0, none⟩ = false := free_of_one h
theorem One.lt {w : World} {b : Nat} {v : Value} {t : TypeId} (h : One w b v t) : b < w.heap.size := lt_of_block h
theorem One.set {w : World} {b : Nat} {v : Value} {t : TypeId} (h : One w b v t) (u : Value) : One (w.setCell ⟨b, 0, none⟩ u) b u t := one_setCell h
theorem One.other {w : World} {b : Nat} {v : Value} {t : TypeId} (h : One w b v t) {p : Addr} (hp : b ≠ p.block) (u : Value) : One (w.setCell p u) b v t := by
  unfold One at *
  rw [Below.heap_setCell _ _ _ _ hp]; exact h
theorem One.alloc {w : World} {b : Nat} {v : Value} {t : TypeId} (h : One w b v t) (o : Obj) : One (w.alloc o) b v t := by
  have := h.lt
  unfold One at *
  rw [Below.heap_alloc _ _ _ this]; exact h
theorem One.new (w : World) (v : Value) (t : TypeId) : One (w.alloc (.cells #[v] t)) w.heap.size v t := by
  show (w.heap.push _)[_]? = _
  simp
theorem One.but {w w' : World} {b : Nat} {v : Value} {t : TypeId} {L : List Nat} {B : Nat} (h : One w b v t) (hb : But L B w w') (hB : b < B) (hL : b ∉ L) : One w' b v t := by
  unfold One at *
  rw [hb.block b hB hL]; exact h
theorem One.below {w w' : World} {b : Nat} {v : Value} {t : TypeId} {B : Nat} (h : One w b v t) (hb : Below B w w') (hB : b < B) : One w' b v t := by
  unfold One at *
  rw [hb.block b hB]; exact h

/-- How a function that hands nothing back ends, the code that is told of it, and whether it returned. -/
inductive Tells (F : TypeId) : Ending → Int → Bool → Prop
  | ret : Tells F (.returned (.tuple #[])) 0 true
  | fault (c : Int) : Tells F (.panicked [{ v := .iface F (.agg #[.int .i64 c]), recovered := false }]) c false
  | other (u : TypeId) (x : Value) : u ≠ F → Tells F (.panicked [{ v := .iface u x, recovered := false }]) 17 false

/-- A function that is called with what it captured: how it ends; it writes below B the blocks of L alone; what holds of the world behind it. -/
def Does (P : Program) (F : TypeId) (g : FuncId) (args : Array Value) (L : List Nat) (w : World) (c : Int) (ok : Bool) (Post : World → Prop) : Prop :=
  Calls P g args w fun e w' => Tells F e c ok ∧ But L w.heap.size w w' ∧ Post w'
theorem Does.mono {P : Program} {F : TypeId} {g : FuncId} {args : Array Value} {L : List Nat} {w : World} {c : Int} {ok : Bool} {Post Post' : World → Prop} (h : Does P F g args L w c ok Post) (hp : ∀ w', Post w' → Post' w') : Does P F g args L w c ok Post' :=
  Calls.mono h fun e w' hh => ⟨hh.1, hh.2.1, hp _ hh.2.2⟩

theorem Tells.shape {F : TypeId} {e : Ending} {c : Int} {ok : Bool} (h : Tells F e c ok) : (e = .returned (.tuple #[]) ∧ c = 0 ∧ ok = true) ∨ ∃ p, e = .panicked p ∧ ok = false := by
  cases h
  · exact .inl ⟨rfl, rfl, rfl⟩
  · exact .inr ⟨_, rfl, rfl⟩
  · exact .inr ⟨_, rfl, rfl⟩

theorem run_boundsPanic_below {P : Program} {w : World} {α : Type} (k : IntKind) (x y : Int) (code : BoundsCode) :
    ∃ s w', (boundsPanic k x y code : Sem α).run P w = .halt (.panic (boundsValue P (IntKind.i64.wrap x) y s code.toNat)) w' ∧ Below w.heap.size w w' := by
  unfold boundsPanic boundsValue
  split
  · simp [runtimePanic, goPanic, go_sem]
    by_cases hh : (Question.extern "runtime.boundsError.signed" 2).cut (w.tape w.drawn (Question.extern "runtime.boundsError.signed" 2)) = 1
    · exact .inr ⟨_, ⟨hh, rfl⟩, (Below.refl _ _).drew⟩
    · exact .inl ⟨_, ⟨hh, rfl⟩, (Below.refl _ _).drew⟩
  · simp [runtimePanic, goPanic, go_sem]
    by_cases hh : k = .u64
    · exact .inl ⟨_, ⟨hh, rfl⟩, Below.refl _ _⟩
    · exact .inr ⟨_, ⟨hh, rfl⟩, Below.refl _ _⟩
/-- An index into a nil slice. -/
theorem run_indexAt_none {P : Program} {w : World} (t : TypeId) (cap : Nat) (k : IntKind) (i : Int) (h : P.underlying t = some (.slice (P.elem t))) :
    ∃ s w', (Instr.indexAt t (.slice none 0 cap) (.int k i)).run P w = .halt (.panic (boundsValue P (IntKind.i64.wrap i) 0 s 0)) w' ∧ Below w.heap.size w w' := by
  have e : (Instr.indexAt t (.slice none 0 cap) (.int k i)).run P w = (boundsPanic k i 0 .index).run P w := by
    simp [Instr.indexAt, run_underlying h, asIntOf]
  rw [e]
  exact run_boundsPanic_below k i 0 .index

theorem ent {P : Program} {f : FuncId} {fn : Func} {c : Code} (hf : P.funcs[f]? = some fn) (hname : (fn.name == "runtime.NumGoroutine") = false) (hb : fn.body = some c) : ∀ (w : World) (d : Array Value), (callFunc f d).run P w = .ok (.enter f d) w := by
  intro w args
  have h1 : fn.name ≠ "runtime.NumGoroutine" := by simpa using hname
  simp [callFunc, hf, h1, hb, mark]

/-- The code that is told of a step. -/
def codeN (n : Int) : Int := if n < 0 then 17 else n
def okN (n : Int) : Bool := n == 0
end Go.Proofs.Ytmcnhcbibcjgnaa
