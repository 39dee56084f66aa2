/-
  A row of one element, built; appended onto an own row. No program is named here.
-/
import Derived.Test.YtmcnhcbibcjgnaaPkAppV
import Derived.Test.YtmcnhcbibcjgnaaPkMadeV
namespace Go.Proofs.Ytmcnhcbibcjgnaa
open Go.RowKit
set_option linter.unusedVariables false

theorem at_buildSlice {P : Program} {w : World} {ops : Array Oper} {rest : List Oper} {a : Act} {Q : Exit → Act → World → Prop} {d : Option Tmp} {n : Nat} {x : Array (Nat × Operand)} {u : TypeId} {p : String} {af : Array Edge} (ty : TypeId)
    (h : wpList P ops Q (⟨d, .buildSlice ty n x, u, p, af, none⟩ :: rest) a w) : wpList P ops Q (⟨d, .buildSlice ty n x, u, p, af, none⟩ :: rest) a w := h
theorem wpList_buildSlice_oneV {P : Program} {w : World} {ops : Array Oper} {rest : List Oper} {o : Oper} {a : Act} {Q : Exit → Act → World → Prop} (hgd : o.guard = none) (t e : TypeId) (x : Operand) (ho : o.op = .buildSlice t 1 #[(0, x)]) (cs : List Value) (hx : a.eval x = .agg cs.toArray)
    (hu : P.underlying t = some (.slice e)) {z : Value} {size bytes : Nat} (hi : (P.info? e).map (fun i => (i.zero, i.size, i.bytes)) = some (some z, size, bytes)) (hl : cs.length = size) (h0 : 0 < size) (h1 : size ≤ 16777216)
    (h : ∀ w', RowV w' w.heap.size e cs → Below w.heap.size w w' → w'.heap.size = w.heap.size + 1 → wpList P ops Q rest (a.put o.dst (.slice (some ⟨w.heap.size, 0, none⟩) 1 1)) w') : wpList P ops Q (o :: rest) a w :=
  wpList_plain hgd fun _ hK => wp_buildSlice_one t e x ho cs hx hu hi hl h0 h1 (hK _ _ (h _ (RowV.new w e cs) ((Below.refl _ _).alloc (Nat.le_refl _) _) (by simp)))
/-- append of one element, just laid, onto an own row (nil let in). -/
theorem wpList_append_one {P : Program} {w : World} {ops : Array Oper} {rest : List Oper} {o : Oper} {a : Act} {Q : Exit → Act → World → Prop} (hgd : o.guard = none) (s x : Operand) (t : TypeId) (ho : o.op = .call { callee := .builtin .append, args := #[s, x], argTypes := #[t, t] })
    (base : Nat) (e : TypeId) {z : Value} {size bytes : Nat} (ht : P.underlying t = some (.slice e)) (hi : (P.info? e).map (fun i => (i.zero, i.size, i.bytes)) = some (some z, size, bytes)) (hzs : z.cells.size = size) (hsz : 0 < size)
    (v : Value) (n : Nat) (xs : List Value) (hs : a.eval s = v) (hown : w.ownsRow base e size v n xs)
    (G : Nat) (ys : List Value) (hx : a.eval x = .slice (some ⟨G, 0, none⟩) 1 1) (hr : RowV w G e ys) (hy : ys.length = size) (h1 : ∀ u ∈ ys, u.oneCell' = true)
    (h63 : n + 1 ≤ maxLen) (hbytes : (n + 1) * bytes ≤ 140737488355328) (hbase : base ≤ w.heap.size)
    (h : ∀ v' w', w'.ownsRow base e size v' (n + 1) (xs ++ ys) → w.grownBy w' v.ownBlock → (v'.ownBlock = v.ownBlock ∨ v'.ownBlock = some w.heap.size) → wpList P ops Q rest (a.put o.dst v') w') : wpList P ops Q (o :: rest) a w :=
  wpList_append_rows hgd s x t ho base e ht hi hzs hsz v n xs hs hown _ 0 1 ys hx (own_of_row (n := 1) hr (by rw [hy, Nat.one_mul]) (by unfold maxLen; omega)) h1 h63 hbytes hbase h
end Go.Proofs.Ytmcnhcbibcjgnaa
