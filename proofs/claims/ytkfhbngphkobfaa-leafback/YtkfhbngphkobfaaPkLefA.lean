/-
  Layer 14: a text's descriptor in memory: its cells, boxed, loaded, stored, its fields; '==' of addresses; slots as cells.
-/
import Derived.Test.YtkfhbngphkobfaaPkNumTwo
import Derived.Test.YtkfhbngphkobfaaPkSecGN
import Derived.Test.YtkfhbngphkobfaaPkChkAc
import Derived.Test.YtkfhbngphkobfaaPkBuildS
import Derived.Test.YtkfhbngphkobfaaPkRowR
import Derived.Test.YtkfhbngphkobfaaPkMemV
import Derived.Test.YtkfhbngphkobfaaPkSlot
import Derived.Test.YtkfhbngphkobfaaPkStrEq
import Derived.Test.YtkfhbngphkobfaaPkRNumC
namespace Go.Proofs.Ytkfhbngphkobfaa
open Go.RowKit
set_option linter.unusedVariables false

/-- Slots as cells. -/
def slv (l : List Int) : List Value := l.map (Value.int .i64)
theorem slv_length (l : List Int) : (slv l).length = l.length := by simp [slv]
theorem slv_one (l : List Int) : ∀ u ∈ slv l, u.oneCell' = true := by
  intro u hu
  obtain ⟨x, _, rfl⟩ := List.mem_map.1 hu
  rfl
theorem slv_get {l : List Int} {i : Nat} {s : Int} (h : l[i]? = some s) : (slv l)[i]? = some (.int .i64 s) := by rw [slv, List.getElem?_map, h]; rfl
theorem slv_snoc (l : List Int) (s : Int) : slv (l ++ [s]) = slv l ++ [.int .i64 s] := by simp [slv]
theorem slots_at {w : World} {B : Nat} {A : Option Addr} {l : List Int} (h : LiesV w B A (slv l)) {i : Nat} {s : Int} (hi : l[i]? = some s) : ∃ b o, A = some ⟨b, o, none⟩ ∧ b < B ∧ w.cell? ⟨b, o + i, none⟩ = some (.int .i64 s) := h.at_ (slv_get hi)

/-- A descriptor's cells: its slots lie at A. -/
def txc (t : Tx) (A : Option Addr) (c : Nat) : List Value := cells t.adr.1 ++ [.int .i64 t.size, .slice A t.slots.length c, .int .i64 t.bound]
def tx0 : Tx := ⟨zeroAdr, 0, [], 0⟩
section
variable (t : Tx) (A : Option Addr) (c : Nat)
theorem adr_len : (cells t.adr.1).length = 32 := by rw [cells_length, t.adr.2]
theorem txc_length : (txc t A c).length = 35 := by rw [txc, List.length_append, adr_len]; rfl
theorem txc_size : (txc t A c)[32]? = some (.int .i64 t.size) := by rw [txc, List.getElem?_append_right (by rw [adr_len]; omega), adr_len]; rfl
theorem txc_slots : (txc t A c)[33]? = some (.slice A t.slots.length c) := by rw [txc, List.getElem?_append_right (by rw [adr_len]; omega), adr_len]; rfl
theorem txc_bound : (txc t A c)[34]? = some (.int .i64 t.bound) := by rw [txc, List.getElem?_append_right (by rw [adr_len]; omega), adr_len]; rfl
theorem txc_adr {j : Nat} {v : Value} (h : (cells t.adr.1)[j]? = some v) : (txc t A c)[j]? = some v := by rw [txc, List.getElem?_append_left (List.getElem?_eq_some_iff.1 h).1, h]
theorem txc_one : ∀ u ∈ txc t A c, u.oneCell' = true := by
  intro u hu
  rcases List.mem_append.1 hu with h | h
  · exact cells_one _ u h
  · simp only [List.mem_cons, List.not_mem_nil, or_false] at h
    rcases h with rfl | rfl | rfl <;> rfl
theorem txc_all : (txc t A c).toArray.all (·.oneCell') = true := by
  rw [← Array.all_toList, List.all_eq_true]
  exact txc_one t A c
theorem Try.sizeT14 : (Try.prog.info? 25).map (·.size) = some 35 := by kernel_rfl
theorem txc_info : (Try.prog.info? 25).map (·.size) = some (txc t A c).length := by rw [txc_length]; exact Try.sizeT14
theorem txc_info' : (Try.prog.info? 25).map (·.size) = some (txc t A c).toArray.size := txc_info t A c
theorem Try.zeroT14 : (Try.prog.info? 25).bind (·.zero) = some (.agg (txc tx0 none 0).toArray) := by kernel_rfl
theorem Try.sizeA14 : (Try.prog.info? 22).map (·.size) = some 32 := by kernel_rfl
theorem adr_info (a : Adr) : (Try.prog.info? 22).map (·.size) = some (cells a.1).length := by rw [cells_length, a.2]; exact Try.sizeA14
theorem Try.guardA14 : Try.prog.eqGuardType Try.prog.depth 22 = false := by kernel_rfl
theorem Try.infoI14 : (Try.prog.info? 3).map (fun i => (i.zero, i.size, i.bytes)) = some (some (.int .i64 0), 1, 8) := by kernel_rfl
end
section
variable {w : World} {g : Nat} {ty : TypeId} {t : Tx} {A : Option Addr} {c : Nat}
theorem tx_size (h : RowV w g ty (txc t A c)) : w.cell? ⟨g, 32, none⟩ = some (.int .i64 t.size) := h.cell (txc_size t A c)
theorem tx_slots (h : RowV w g ty (txc t A c)) : w.cell? ⟨g, 33, none⟩ = some (.slice A t.slots.length c) := h.cell (txc_slots t A c)
theorem tx_bound (h : RowV w g ty (txc t A c)) : w.cell? ⟨g, 34, none⟩ = some (.int .i64 t.bound) := h.cell (txc_bound t A c)
theorem tx_range (h : RowV w g ty (txc t A c)) : w.rangeAt g 0 (cells t.adr.1) := fun j u hj => by rw [Nat.zero_add]; exact h.cell (txc_adr t A c hj)
theorem tx_byte (h : RowV w g ty (txc t A c)) {j : Nat} {x : UInt8} (hx : t.adr.1[j]? = some x) : w.cell? ⟨g, j, none⟩ = some (.int .u8 (x.toNat : Int)) := h.cell (txc_adr t A c (cells_get hx))
theorem tx_lies (h : RowV w g ty (txc t A c)) : Lies w w.heap.size (some ⟨g, 0, none⟩) t.adr.1 := by
  intro _
  refine ⟨g, 0, rfl, h.lt, fun i y hi => ?_⟩
  rw [Nat.zero_add]
  exact tx_byte h hi
end
section
variable {w : World} {ops : Array Oper} {rest : List Oper} {o : Oper} {a : Act} {Q : Exit → Act → World → Prop}
theorem box_tx (hgd : o.guard = none) (x : Operand) (ho : o.op = .box 25 x) (t : Tx) (A : Option Addr) (c : Nat) (hx : a.eval x = .agg (txc t A c).toArray)
    (h : ∀ w', RowV w' w.heap.size 25 (txc t A c) → Below w.heap.size w w' → w'.heap.size = w.heap.size + 1 → wpList Try.prog ops Q rest (a.put o.dst (.pointer (some ⟨w.heap.size, 0, none⟩))) w') : wpList Try.prog ops Q (o :: rest) a w :=
  wpList_box_rowV hgd 25 x ho _ hx h
theorem alloc_tx (hgd : o.guard = none) (ho : o.op = .alloc 25)
    (h : ∀ w', RowV w' w.heap.size 25 (txc tx0 none 0) → Below w.heap.size w w' → w'.heap.size = w.heap.size + 1 → wpList Try.prog ops Q rest (a.put o.dst (.pointer (some ⟨w.heap.size, 0, none⟩))) w') : wpList Try.prog ops Q (o :: rest) a w :=
  wpList_alloc_rowV hgd 25 ho _ Try.zeroT14 h
theorem store_tx (hgd : o.guard = none) (x y : Operand) (ho : o.op = .store 25 x y) (g : Nat) (t : Tx) (A : Option Addr) (c : Nat)
    (hx : a.eval x = .pointer (some ⟨g, 0, none⟩)) (hy : a.eval y = .agg (txc t A c).toArray) {ty : TypeId} {old : List Value} (hg : RowV w g ty old) (hold : old.length = 35)
    (h : ∀ w', RowV w' g ty (txc t A c) → w.grownBy w' (some g) → w'.heap.size = w.heap.size → wpList Try.prog ops Q rest (a.put o.dst undef) w') : wpList Try.prog ops Q (o :: rest) a w :=
  wpList_store_rowV hgd 25 x y ho g _ hx hy ty old hg (txc_info' t A c) (by rw [List.size_toArray, List.size_toArray, hold, txc_length]) (txc_all t A c) h
theorem load_tx (hgd : o.guard = none) (x : Operand) (ho : o.op = .load 25 x) (g : Nat) {t : Tx} {A : Option Addr} {c : Nat} {ty : TypeId}
    (hx : a.eval x = .pointer (some ⟨g, 0, none⟩)) (hg : RowV w g ty (txc t A c))
    (h : wpList Try.prog ops Q rest (a.put o.dst (.agg (txc t A c).toArray)) w) : wpList Try.prog ops Q (o :: rest) a w :=
  wpList_load_row hgd 25 x ho g hx ty _ (0, 0) _ hg Try.underlying25 rfl (txc_info' t A c) h
theorem load_txG (hw : Region.wanted o (yielded ops a.tmps) = true) (x : Operand) (ho : o.op = .load 25 x) (g : Nat) {t : Tx} {A : Option Addr} {c : Nat} {ty : TypeId}
    (hx : a.eval x = .pointer (some ⟨g, 0, none⟩)) (hg : RowV w g ty (txc t A c))
    (h : wpList Try.prog ops Q rest (a.put o.dst (.agg (txc t A c).toArray)) w) : wpList Try.prog ops Q (o :: rest) a w :=
  wpList_load_midG hw 25 x ho g 0 hx _ _ (row_range hg) Try.underlying25 rfl (txc_info t A c) h
theorem load_adr (hgd : o.guard = none) (x : Operand) (ho : o.op = .load 22 x) (g : Nat) {t : Tx} {A : Option Addr} {c : Nat} {ty : TypeId}
    (hx : a.eval x = .pointer (some ⟨g, 0, none⟩)) (hg : RowV w g ty (txc t A c))
    (h : wpList Try.prog ops Q rest (a.put o.dst (.agg (cells t.adr.1).toArray)) w) : wpList Try.prog ops Q (o :: rest) a w :=
  wpList_load_mid hgd 22 x ho g 0 hx _ _ (tx_range hg) Try.underlying22 rfl (adr_info t.adr) h
theorem eql_adr (hgd : o.guard = none) (x y : Operand) (u : TypeId) (ho : o.op = .binOp .eql 22 x y u) (p q : Adr) (hx : a.eval x = .agg (cells p.1).toArray) (hy : a.eval y = .agg (cells q.1).toArray)
    (h : wpList Try.prog ops Q rest (a.put o.dst (.bool (decide (p = q)))) w) : wpList Try.prog ops Q (o :: rest) a w :=
  wpList_eqlS hgd 22 x y u ho Try.guardA14 hx hy (by
    rw [run_equalIn_bytes w 9998 Try.underlying22 Try.underlying5 Try.cells5s p.2 q.2]
    congr 1
    rw [Bool.eq_iff_iff, beq_iff_eq, decide_eq_true_eq]
    exact ⟨fun e => Subtype.ext e, fun e => by rw [e]⟩) h
theorem neq_adr (hgd : o.guard = none) (x y : Operand) (u : TypeId) (ho : o.op = .binOp .neq 22 x y u) (p q : Adr) (hx : a.eval x = .agg (cells p.1).toArray) (hy : a.eval y = .agg (cells q.1).toArray)
    (h : wpList Try.prog ops Q rest (a.put o.dst (.bool (!decide (p = q)))) w) : wpList Try.prog ops Q (o :: rest) a w :=
  wpList_neqS hgd 22 x y u ho Try.guardA14 hx hy (by
    rw [run_equalIn_bytes w 9998 Try.underlying22 Try.underlying5 Try.cells5s p.2 q.2]
    congr 1
    rw [Bool.eq_iff_iff, beq_iff_eq, decide_eq_true_eq]
    exact ⟨fun e => Subtype.ext e, fun e => by rw [e]⟩) h
/-- A slice stored into the descriptor's third field. -/
theorem store_slots (hgd : o.guard = none) (x y : Operand) (ho : o.op = .store 23 x y) (g : Nat) {t : Tx} {A : Option Addr} {c : Nat} {ty : TypeId} (A' : Option Addr) (l : List Int) (c' : Nat)
    (hx : a.eval x = .pointer (some ⟨g, 33, none⟩)) (hy : a.eval y = .slice A' l.length c') (hg : RowV w g ty (txc t A c))
    (h : ∀ w', RowV w' g ty (txc { t with slots := l } A' c') → w.grownBy w' (some g) → w'.heap.size = w.heap.size → wpList Try.prog ops Q rest (a.put o.dst undef) w') : wpList Try.prog ops Q (o :: rest) a w := by
  refine wpList_store_slot hgd 23 x y ho g 33 hx (.slice A' l.length c') hy rfl ty _ hg (by rw [txc_length]; omega) (by kernel_rfl) (fun w' h1 h2 h3 => h w' ?_ h2 h3)
  have e : (txc t A c).set 33 (.slice A' l.length c') = txc { t with slots := l } A' c' := by
    rw [txc, List.set_append_right _ _ (by rw [adr_len]; omega), adr_len]
    rfl
  rw [← e]
  exact h1
end
end Go.Proofs.Ytkfhbngphkobfaa
