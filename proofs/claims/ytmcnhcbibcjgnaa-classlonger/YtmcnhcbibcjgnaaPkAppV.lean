/-
  A whole value stored into a block of its own: the world behind it is a letter. No program is named here.
  A value of one cell stored into a row whose cells are a list. No program is named here.
  append of cells that lie somewhere (nil let in) onto a row of the call's own. No program is named here.
-/
import Derived.Test.YtmcnhcbibcjgnaaPkBuild
import Derived.Laws.Tables
import Derived.Deep.MidRow
import Derived.Test.YtmcnhcbibcjgnaaPkApp
import Derived.Test.YtmcnhcbibcjgnaaPkArrEq
import Derived.Maps.AppendAt
import Derived.Laws.AppendOwnNone
import Derived.Test.YtmcnhcbibcjgnaaPkStr
namespace Go.Proofs.Ytmcnhcbibcjgnaa
open Go.RowKit

theorem wpList_store_rowV {P : Program} {w : World} {ops : Array Oper} {rest : List Oper} {o : Oper} {a : Act} {Q : Exit → Act → World → Prop} (hgd : o.guard = none) (ty : TypeId) (x y : Operand) (ho : o.op = .store ty x y)
    (g : Nat) (cs : List Value) (hx : a.eval x = .pointer (some ⟨g, 0, none⟩)) (hy : a.eval y = .agg cs.toArray)
    (t : TypeId) (old : List Value) (hg : RowV w g t old) (hi : (P.info? ty).map (·.size) = some cs.toArray.size) (hold : old.toArray.size = cs.toArray.size) (h1 : cs.toArray.all (·.oneCell') = true)
    (h : ∀ w', RowV w' g t cs → w.grownBy w' (some g) → w'.heap.size = w.heap.size → wpList P ops Q rest (a.put o.dst undef) w') : wpList P ops Q (o :: rest) a w :=
  wpList_store_row hgd ty x y ho g cs.toArray hx hy t old.toArray hg hi hold h1 (h _ (hg.put cs) ⟨rfl, rfl, rfl, by simp, fun k _ hk => setRow_other w g k _ (fun e => hk (by rw [e]))⟩ (by simp))
theorem wpList_store_midV {P : Program} {w : World} {ops : Array Oper} {rest : List Oper} {o : Oper} {a : Act} {Q : Exit → Act → World → Prop} (hgd : o.guard = none) (ty : TypeId) (x y : Operand) (ho : o.op = .store ty x y)
    (g k : Nat) (cs : List Value) (hx : a.eval x = .pointer (some ⟨g, k, none⟩)) (hy : a.eval y = .agg cs.toArray) (ht : w.there g k cs.toArray.size) (hi : (P.info? ty).map (·.size) = some cs.toArray.size) (h1 : cs.toArray.all (·.oneCell') = true)
    (h : ∀ w', w' = w.setCells g k cs → wpList P ops Q rest (a.put o.dst undef) w') : wpList P ops Q (o :: rest) a w :=
  wpList_store_mid hgd ty x y ho g k cs.toArray hx hy ht hi h1 (h _ rfl)
theorem below_grown {B : Nat} {a w w' : World} (h : Below B a w) {g : Nat} (hg : w.grownBy w' (some g)) (hB : B ≤ g) (hs : B ≤ w.heap.size) : Below B a w' :=
  ⟨hg.os.trans h.os, hg.tape.trans h.tape, hg.output.trans h.output, Nat.le_trans h.size hg.size, fun k hk => (hg.block k (by omega) (fun e => by injection e with e; omega)).trans (h.block k hk)⟩
/-- append of a row (nil let in) onto a row of the call's own. -/
theorem wpList_append_rows {P : Program} {w : World} {ops : Array Oper} {rest : List Oper} {o : Oper} {a : Act} {Q : Exit → Act → World → Prop} (hgd : o.guard = none) (s x : Operand) (t : TypeId) (ho : o.op = .call { callee := .builtin .append, args := #[s, x], argTypes := #[t, t] })
    (base : Nat) (e : TypeId) {z : Value} {size bytes : Nat} (ht : P.underlying t = some (.slice e)) (hi : (P.info? e).map (fun i => (i.zero, i.size, i.bytes)) = some (some z, size, bytes)) (hzs : z.cells.size = size) (hsz : 0 < size)
    (v : Value) (n : Nat) (xs : List Value) (hs : a.eval s = v) (hown : w.ownsRow base e size v n xs)
    (v2 : Value) (base2 m : Nat) (ys : List Value) (hx : a.eval x = v2) (hown2 : w.ownsRow base2 e size v2 m ys) (h1 : ∀ u ∈ ys, u.oneCell' = true)
    (h63 : n + m ≤ maxLen) (hbytes : (n + m) * bytes ≤ 140737488355328) (hbase : base ≤ w.heap.size)
    (h : ∀ v' w', w'.ownsRow base e size v' (n + m) (xs ++ ys) → w.grownBy w' v.ownBlock → (v'.ownBlock = v.ownBlock ∨ v'.ownBlock = some w.heap.size) → wpList P ops Q rest (a.put o.dst v') w') : wpList P ops Q (o :: rest) a w := by
  obtain ⟨i, hie, hz, hs1, hb1⟩ := info_parts hi
  rcases hown2.2 with ⟨rfl, rfl⟩ | ⟨g, cap, cur, rfl, _⟩
  · have hy : ys = [] := List.eq_nil_of_length_eq_zero (by simpa using hown2.1)
    subst hy
    refine wpList_append_own_none hgd s x t ho base e i size ht hie v n xs hs hown hx ?_
    exact h v w (by simpa using hown) (World.grownBy.refl _ _) (.inl rfl)
  · exact wpList_append_own_at w hgd s x t ho base e i z size bytes ht hie hz hs1 hb1 hzs hsz v n xs hs hown ⟨g, 0, none⟩ m cap ys hx hown2.1 (hown2.cells (g := g) rfl) h1 h63 hbytes hbase (fun v' w' a1 a2 _ a3 => h v' w' a1 a2 a3)
/-- One operation: '!=' of two arrays of bytes. -/
theorem exec_neqB {P : Program} {W : World} {ρ : Operand → Value} {o : Oper} (t : TypeId) (x y : Operand) (u : TypeId) (ho : o.op = .binOp .neq t x y u) {n : Nat} (ht : P.underlying t = some (.array n 5)) (h5 : P.underlying 5 = some (.int .u8)) (hc : P.cellsOf 5 = 1)
    (hm : P.eqGuardType P.depth t = false) {xs ys : List UInt8} (hx : ρ x = .agg (cells xs).toArray) (hy : ρ y = .agg (cells ys).toArray) (h1 : xs.length = n) (h2 : ys.length = n) : (execOp ρ o).run P W = .ok (.value (.bool (!(xs == ys)))) W := by
  have e : (binOp .neq t (.agg (cells xs).toArray) (.agg (cells ys).toArray)).run P W = .ok (.bool (!(xs == ys))) W := by
    rw [run_neq_struct, run_equalIn_bytes W 9998 ht h5 hc h1 h2]
    rfl
  simp only [execOp, ho, hx, hy, Sem.run_bind, run_eqGuard_agg W .neq t x y _ _ hm, e, Result.andThen_ok, Sem.run_pure]
end Go.Proofs.Ytmcnhcbibcjgnaa
namespace Go.Proofs.Ytmcnhcbibcjgnaa
open Go.RowKit
set_option linter.unusedVariables false
set_option linter.unusedSimpArgs false

/-- A value of one cell stored into a row. -/
theorem wp_store_slot {P : Program} {o : Oper} {a : Act} {w : World} {K : Act → World → Prop} {Q : Exit → Act → World → Prop} (ty : TypeId) (x y : Operand) (ho : o.op = .store ty x y) (b k : Nat) (hx : a.eval x = .pointer (some ⟨b, k, none⟩)) (v : Value) (hy : a.eval y = v) (h1 : v.oneCell' = true)
    (t : TypeId) (vs : List Value) (hr : RowV w b t vs) (hk : k < vs.length) (hi : (P.info? ty).map (·.size) = some 1)
    (h : ∀ w', RowV w' b t (vs.set k v) → w.grownBy w' (some b) → w'.heap.size = w.heap.size → K (a.put o.dst undef) w') : o.wp P a w K Q := by
  have hc : v.cells = #[v] := by cases v <;> first | rfl | cases h1
  have hst := run_storeCells_cells (P := P) b k [v] 0 w (by intro j hj; simp at hj; subst hj; rw [show k + 0 + 0 = k from rfl, hr.cell (List.getElem?_eq_getElem hk)]; rfl) (by intro j hj; unfold RowV at hr; simp [World.frozen?, hr]) (by intro u hu; simp at hu; subst hu; exact h1)
  obtain ⟨i, hq, hs⟩ : ∃ i, P.info? ty = some i ∧ i.size = 1 := by
    cases hq : P.info? ty with
    | none => simp [hq] at hi
    | some i => exact ⟨i, rfl, by simpa [hq] using hi⟩
  have e : (Instr.storeAt ty (.pointer (some ⟨b, k, none⟩)) v).run P w = .ok () (w.setCell ⟨b, k, none⟩ v) := by
    simp only [Nat.add_zero] at hst
    simp [Instr.storeAt, Instr.sureAddr, storeVar, sizeOf, typeInfo, hq, hc, hs, hst]
    rfl
  unfold Oper.wp execOp
  simp only [ho, hx, hy, Sem.run_bind, e, Result.andThen_ok, Sem.run_pure]
  exact h _ (hr.setCell k v) ⟨rfl, rfl, rfl, by simp [World.setCell], fun j _ hj => Below.heap_setCell _ _ _ _ (fun e => hj (by simp [e]))⟩ (by simp [World.setCell])
theorem wpList_store_slot {P : Program} {ops : Array Oper} {rest : List Oper} {o : Oper} {a : Act} {w : World} {Q : Exit → Act → World → Prop} (hgd : o.guard = none) (ty : TypeId) (x y : Operand) (ho : o.op = .store ty x y) (b k : Nat) (hx : a.eval x = .pointer (some ⟨b, k, none⟩)) (v : Value) (hy : a.eval y = v) (h1 : v.oneCell' = true)
    (t : TypeId) (vs : List Value) (hr : RowV w b t vs) (hk : k < vs.length) (hi : (P.info? ty).map (·.size) = some 1)
    (h : ∀ w', RowV w' b t (vs.set k v) → w.grownBy w' (some b) → w'.heap.size = w.heap.size → wpList P ops Q rest (a.put o.dst undef) w') : wpList P ops Q (o :: rest) a w :=
  wpList_plain hgd fun _ hK => wp_store_slot ty x y ho b k hx v hy h1 t vs hr hk hi fun w' a1 a2 a3 => hK _ _ (h w' a1 a2 a3)
end Go.Proofs.Ytmcnhcbibcjgnaa
namespace Go.Proofs.Ytmcnhcbibcjgnaa
open Go.RowKit
set_option linter.unusedVariables false

theorem wpList_append_liesV {P : Program} {w : World} {ops : Array Oper} {rest : List Oper} {o : Oper} {a : Act} {Q : Exit → Act → World → Prop} (hgd : o.guard = none) (s x : Operand) (t : TypeId) (ho : o.op = .call { callee := .builtin .append, args := #[s, x], argTypes := #[t, t] })
    (base : Nat) (e : TypeId) {z : Value} {size bytes : Nat} (ht : P.underlying t = some (.slice e)) (hi : (P.info? e).map (fun i => (i.zero, i.size, i.bytes)) = some (some z, size, bytes)) (hzs : z.cells.size = size) (hsz : 0 < size)
    (v : Value) (n : Nat) (xs : List Value) (hs : a.eval s = v) (hown : w.ownsRow base e size v n xs)
    (A : Option Addr) (m c B : Nat) (ys : List Value) (hx : a.eval x = .slice A m c) (hA : A = none → m = 0 ∧ c = 0) (hl : LiesV w B A ys) (hy : ys.length = m * size) (h1 : ∀ u ∈ ys, u.oneCell' = true)
    (h63 : n + m ≤ maxLen) (hbytes : (n + m) * bytes ≤ 140737488355328) (hbase : base ≤ w.heap.size)
    (h : ∀ v' w', w'.ownsRow base e size v' (n + m) (xs ++ ys) → w.grownBy w' v.ownBlock → (v'.ownBlock = v.ownBlock ∨ v'.ownBlock = some w.heap.size) → wpList P ops Q rest (a.put o.dst v') w') : wpList P ops Q (o :: rest) a w := by
  obtain ⟨i, hie, hz, hs1, hb1⟩ := info_parts hi
  cases A with
  | none =>
    obtain ⟨rfl, rfl⟩ := hA rfl
    have hy0 : ys = [] := List.eq_nil_of_length_eq_zero (by simpa using hy)
    subst hy0
    refine wpList_append_own_none hgd s x t ho base e i size ht hie v n xs hs hown hx ?_
    exact h v w (by simpa using hown) (World.grownBy.refl _ _) (.inl rfl)
  | some ad => exact wpList_append_own_at w hgd s x t ho base e i z size bytes ht hie hz hs1 hb1 hzs hsz v n xs hs hown ad m c ys hx hy (hl.cells rfl) h1 h63 hbytes hbase (fun v' w' a1 a2 _ a3 => h v' w' a1 a2 a3)
end Go.Proofs.Ytmcnhcbibcjgnaa
