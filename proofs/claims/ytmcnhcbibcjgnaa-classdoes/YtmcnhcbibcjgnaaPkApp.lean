/-
  append of bytes onto a row of the call's own, whatever the source's address is (nil, empty or not): one law for the walk. No program is named here.
-/
import Derived.Test.YtmcnhcbibcjgnaaPkStr
import Derived.OwnWalk
namespace Go.Proofs.Ytmcnhcbibcjgnaa
open Go.RowKit

section
variable {P : Program} {w : World}

theorem own_append_nil {base : Nat} {t ty e : TypeId} {i : TypeInfo} {size : Nat} (ht : P.underlying t = some (.slice e)) (hi : P.info? e = some i) {v : Value} {n : Nat} {xs : List Value}
    (h : w.ownsRow base e size v n xs) (c : Nat) : (Builtin.append_ #[t, t] ty #[v, .slice none 0 c]).run P w = .ok v w := by
  rcases h.2 with ⟨rfl, _⟩ | ⟨g, cap, cur, rfl, _, _, hle, _⟩
  · simp [Builtin.append_, run_underlying ht, sizeOf, typeInfo, hi, Builtin.lenOf, Builtin.firstCells]
  · simp [Builtin.append_, run_underlying ht, sizeOf, typeInfo, hi, Builtin.lenOf, Builtin.firstCells, storeCells, hle]

/-- The run: the bytes ys, wherever they lie, behind the bytes xs of a row of the call's own. -/
theorem own_append {base : Nat} {t ty : TypeId} {i : TypeInfo} (ht : P.underlying t = some (.slice 5)) (hi : P.info? 5 = some i) (hz : i.zero = some (.int .u8 0)) (h1 : i.size = 1) (h2 : i.bytes = 1)
    {v : Value} {n : Nat} {xs ys : List UInt8} (h : w.ownsRow base 5 1 v n (cells xs)) {B : Nat} {A : Option Addr} {m c : Nat} (hl : Lies w B A ys) (hm : m = ys.length)
    (hb : n + m ≤ 140737488355328) (hbase : base ≤ w.heap.size) :
    ∃ v' w', (Builtin.append_ #[t, t] ty #[v, .slice A m c]).run P w = .ok v' w' ∧ w'.ownsRow base 5 1 v' (n + m) (cells (xs ++ ys)) ∧ w.grownBy w' v.ownBlock := by
  rcases A with _ | a
  · have hy : ys = [] := by
      rcases ys with _ | ⟨y, ys⟩
      · rfl
      · obtain ⟨_, _, e, _⟩ := hl (by simp)
        cases e
    subst hy
    simp only [List.length_nil] at hm
    subst hm
    exact ⟨v, w, own_append_nil ht hi h c, by simpa using h, World.grownBy.refl _ _⟩
  · obtain ⟨v', w', hr, ho, hg, _⟩ := run_append_own (P := P) w base t ty 5 i (.int .u8 0) 1 1 ht hi hz h1 h2 rfl (by omega) v n (cells xs) h a m c (cells ys) (by rw [cells_length]; omega)
      (hl.cells rfl) (cells_one _) (by unfold maxLen; omega) (by omega) hbase
    exact ⟨v', w', hr, by rw [cells_append]; exact ho, hg⟩

theorem wpList_append_lies {ops : Array Oper} {rest : List Oper} {o : Oper} {a : Act} {Q : Exit → Act → World → Prop} (hgd : o.guard = none) (s x : Operand) (t : TypeId)
    (ho : o.op = .call { callee := .builtin .append, args := #[s, x], argTypes := #[t, t] }) (base : Nat) (i : TypeInfo)
    (ht : P.underlying t = some (.slice 5)) (hi : P.info? 5 = some i) (hz : i.zero = some (.int .u8 0)) (h1 : i.size = 1) (h2 : i.bytes = 1)
    (v : Value) (n : Nat) (xs ys : List UInt8) (hs : a.eval s = v) (h : w.ownsRow base 5 1 v n (cells xs)) (B : Nat) (A : Option Addr) (m c : Nat) (hx : a.eval x = .slice A m c)
    (hl : Lies w B A ys) (hm : m = ys.length) (hb : n + m ≤ 140737488355328) (hbase : base ≤ w.heap.size)
    (hK : ∀ v' w', w'.ownsRow base 5 1 v' (n + m) (cells (xs ++ ys)) → w.grownBy w' v.ownBlock → wpList P ops Q rest (a.put o.dst v') w') : wpList P ops Q (o :: rest) a w := by
  refine wpList_plain hgd fun K hK' => ?_
  obtain ⟨v', w', hr, r1, r2⟩ := own_append (P := P) (ty := o.type) (c := c) ht hi hz h1 h2 h hl hm hb hbase
  unfold Oper.wp
  simp [execOp, ho, resolve, invoke, builtin, hs, hx, hr, Result.andThen]
  exact hK' _ _ (hK v' w' r1 r2)
end

theorem grown_of_below {w w' : World} (h : Below w.heap.size w w') (row : Option Nat) : w.grownBy w' row := ⟨h.os, h.tape, h.output, h.size, fun i hi _ => h.block i hi⟩
theorem own_below {w w' : World} {base : Nat} {e : TypeId} {size : Nat} {v : Value} {n : Nat} {xs : List Value} (h : w.ownsRow base e size v n xs) (hb : Below w.heap.size w w') : w'.ownsRow base e size v n xs :=
  h.kept (grown_of_below hb none) (by cases hv : v.ownBlock <;> simp)
theorem own_ge {w : World} {base : Nat} {e : TypeId} {size : Nat} {v : Value} {n : Nat} {xs : List Value} (h : w.ownsRow base e size v n xs) : ∀ k, v.ownBlock = some k → base ≤ k := fun k hk => (h.lt k hk).1
end Go.Proofs.Ytmcnhcbibcjgnaa
