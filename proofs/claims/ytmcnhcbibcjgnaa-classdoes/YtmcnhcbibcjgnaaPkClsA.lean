/-
  Layer 15: a class in memory: its cells, boxed, loaded, stored; '==' of classes; rows of classes that are read.
-/
import Derived.Test.YtmcnhcbibcjgnaaPkMadeV
import Derived.Test.YtmcnhcbibcjgnaaPkBuildS
import Derived.Test.YtmcnhcbibcjgnaaPkArrS
import Derived.Test.YtmcnhcbibcjgnaaPkStr
import Derived.Test.YtmcnhcbibcjgnaaPkAppV
import Derived.Test.YtmcnhcbibcjgnaaPkStrEq
import Derived.Test.YtmcnhcbibcjgnaaPkPutO
namespace Go.Proofs.Ytmcnhcbibcjgnaa
open Go.RowKit
set_option linter.unusedVariables false

def cl0 : Cl := ⟨[], 0, false, false⟩
theorem Try.sizeC15 : (Try.prog.info? 34).map (·.size) = some 4 := by kernel_rfl
theorem Try.zeroC15 : (Try.prog.info? 34).bind (·.zero) = some (.agg (clv cl0).toArray) := by kernel_rfl
theorem Try.infoC15 : (Try.prog.info? 34).map (fun i => (i.zero, i.size, i.bytes)) = some (some cl0.val, 4, 32) := by kernel_rfl
theorem Try.guardC15 : Try.prog.eqGuardType Try.prog.depth 34 = false := by kernel_rfl
theorem Try.builtC15 (s : ByteArray) (p : Int) (a b : Bool) : Try.prog.built 34 [(0, .string s), (1, .int .i64 p), (2, .bool a), (3, .bool b)] = some #[.string s, .int .i64 p, .bool a, .bool b] := by kernel_rfl
theorem cl_info (c : Cl) : (Try.prog.info? 34).map (·.size) = some (clv c).length := Try.sizeC15
theorem cl_info' (c : Cl) : (Try.prog.info? 34).map (·.size) = some (clv c).toArray.size := Try.sizeC15
theorem cl_all (c : Cl) : (clv c).toArray.all (·.oneCell') = true := all_oneCell_toArray (clv_one c)
section
variable {w : World} {g : Nat} {ty : TypeId} {c : Cl}
theorem cl_name (h : RowV w g ty (clv c)) : w.cell? ⟨g, 0, none⟩ = some (.string ⟨c.name.toArray⟩) := h.cell rfl
theorem cl_per (h : RowV w g ty (clv c)) : w.cell? ⟨g, 1, none⟩ = some (.int .i64 c.period) := h.cell rfl
theorem cl_ev (h : RowV w g ty (clv c)) : w.cell? ⟨g, 2, none⟩ = some (.bool c.event) := h.cell rfl
theorem cl_pr (h : RowV w g ty (clv c)) : w.cell? ⟨g, 3, none⟩ = some (.bool c.priv) := h.cell rfl
end
section
variable {w : World} {ops : Array Oper} {rest : List Oper} {o : Oper} {a : Act} {Q : Exit → Act → World → Prop}
theorem box_cl (hgd : o.guard = none) (x : Operand) (ho : o.op = .box 34 x) (c : Cl) (hx : a.eval x = .agg (clv c).toArray)
    (h : ∀ w', RowV w' w.heap.size 34 (clv c) → Below w.heap.size w w' → w'.heap.size = w.heap.size + 1 → wpList Try.prog ops Q rest (a.put o.dst (.pointer (some ⟨w.heap.size, 0, none⟩))) w') : wpList Try.prog ops Q (o :: rest) a w :=
  wpList_box_rowV hgd 34 x ho _ hx h
theorem alloc_cl (hgd : o.guard = none) (ho : o.op = .alloc 34)
    (h : ∀ w', RowV w' w.heap.size 34 (clv cl0) → Below w.heap.size w w' → w'.heap.size = w.heap.size + 1 → wpList Try.prog ops Q rest (a.put o.dst (.pointer (some ⟨w.heap.size, 0, none⟩))) w') : wpList Try.prog ops Q (o :: rest) a w :=
  wpList_alloc_rowV hgd 34 ho _ Try.zeroC15 h
theorem store_cl (hgd : o.guard = none) (x y : Operand) (ho : o.op = .store 34 x y) (g : Nat) (c : Cl)
    (hx : a.eval x = .pointer (some ⟨g, 0, none⟩)) (hy : a.eval y = .agg (clv c).toArray) {ty : TypeId} {old : List Value} (hg : RowV w g ty old) (hold : old.length = 4)
    (h : ∀ w', RowV w' g ty (clv c) → w.grownBy w' (some g) → w'.heap.size = w.heap.size → wpList Try.prog ops Q rest (a.put o.dst undef) w') : wpList Try.prog ops Q (o :: rest) a w :=
  wpList_store_rowV hgd 34 x y ho g _ hx hy ty old hg (cl_info' c) (by rw [List.size_toArray, List.size_toArray, hold, clv_length]) (cl_all c) h
theorem load_cl (hgd : o.guard = none) (x : Operand) (ho : o.op = .load 34 x) (g : Nat) {c : Cl} {ty : TypeId}
    (hx : a.eval x = .pointer (some ⟨g, 0, none⟩)) (hg : RowV w g ty (clv c))
    (h : wpList Try.prog ops Q rest (a.put o.dst (.agg (clv c).toArray)) w) : wpList Try.prog ops Q (o :: rest) a w :=
  wpList_load_row hgd 34 x ho g hx ty _ (0, 0) _ hg Try.underlying34 rfl (cl_info' c) h
theorem load_clG (hw : Region.wanted o (yielded ops a.tmps) = true) (x : Operand) (ho : o.op = .load 34 x) (g : Nat) {c : Cl} {ty : TypeId}
    (hx : a.eval x = .pointer (some ⟨g, 0, none⟩)) (hg : RowV w g ty (clv c))
    (h : wpList Try.prog ops Q rest (a.put o.dst (.agg (clv c).toArray)) w) : wpList Try.prog ops Q (o :: rest) a w :=
  wpList_load_midG hw 34 x ho g 0 hx _ _ (row_range hg) Try.underlying34 rfl (cl_info c) h
/-- .. out of the midst of a row of classes. -/
theorem load_clM (hgd : o.guard = none) (x : Operand) (ho : o.op = .load 34 x) (b k : Nat) {c : Cl}
    (hx : a.eval x = .pointer (some ⟨b, k, none⟩)) (hg : w.rangeAt b k (clv c))
    (h : wpList Try.prog ops Q rest (a.put o.dst (.agg (clv c).toArray)) w) : wpList Try.prog ops Q (o :: rest) a w :=
  wpList_load_mid hgd 34 x ho b k hx _ _ hg Try.underlying34 rfl (cl_info c) h
end
section
variable {P : Program} {w : World}
/-- Fields that are strings, and that are bools. -/
theorem eqF_str (d : Nat) {xs ys : Array Value} {f : Field} {fs : List Field} (hu : P.underlying f.type = some .string) (hn : (f.name != "_") = true) {a b : ByteArray} (hx : xs[f.offset]? = some (.string a)) (hy : ys[f.offset]? = some (.string b)) {r : Bool}
    (h : (Op.eqFields (d + 1) xs ys fs).run P w = .ok r w) : (Op.eqFields (d + 1) xs ys (f :: fs)).run P w = .ok ((a.toList == b.toList) && r) w := by
  have hp : P.plainKey f.type = true := by simp [Program.plainKey, hu]
  have hn' : f.name ≠ "_" := by simpa using hn
  simp only [Op.eqFields, Sem.run_ite, Sem.run_bind, run_part_plain w hp hx, run_part_plain w hp hy, Result.andThen_ok, run_equalIn_string w d f.type a b hu]
  cases hab : a.toList == b.toList
  · simp [hn']
  · simpa [hn'] using h
theorem eqF_bool (d : Nat) {xs ys : Array Value} {f : Field} {fs : List Field} (hu : P.underlying f.type = some .bool) (hn : (f.name != "_") = true) {a b : Bool} (hx : xs[f.offset]? = some (.bool a)) (hy : ys[f.offset]? = some (.bool b)) {r : Bool}
    (h : (Op.eqFields (d + 1) xs ys fs).run P w = .ok r w) : (Op.eqFields (d + 1) xs ys (f :: fs)).run P w = .ok ((a == b) && r) w := by
  have hp : P.plainKey f.type = true := by simp [Program.plainKey, hu]
  have hn' : f.name ≠ "_" := by simpa using hn
  simp only [Op.eqFields, Sem.run_ite, Sem.run_bind, run_part_plain w hp hx, run_part_plain w hp hy, Result.andThen_ok, run_equalIn_bool w d f.type a b hu]
  cases hab : a == b
  · simp [hn']
  · simpa [hn'] using h
end
theorem str_eq (a b : List UInt8) : ((⟨a.toArray⟩ : ByteArray).toList == (⟨b.toArray⟩ : ByteArray).toList) = decide (a = b) := by
  have e : ∀ s : List UInt8, (⟨s.toArray⟩ : ByteArray).toList = s := fun s => by rw [Lib.toList_data]
  rw [e, e, Bool.eq_iff_iff, beq_iff_eq, decide_eq_true_eq]
set_option maxRecDepth 100000 in
theorem eq_cl (w : World) (c d : Cl) : (Op.equalIn 10000 34 (.agg (clv c).toArray) (.agg (clv d).toArray)).run Try.prog w = .ok (decide (c = d)) w := by
  have h : (Op.equalIn 10000 34 (.agg (clv c).toArray) (.agg (clv d).toArray)).run Try.prog w = .ok (((⟨c.name.toArray⟩ : ByteArray).toList == (⟨d.name.toArray⟩ : ByteArray).toList) && ((c.period == d.period) && ((c.event == d.event) && ((c.priv == d.priv) && true)))) w := by
    rw [run_equalIn_struct w 9999 34 _ _ (by kernel_rfl) (by kernel_rfl)]
    simp only [Program.fieldsOf, Try.underlying34]
    exact eqF_str 9998 (by kernel_rfl) rfl rfl rfl (eqF_int 9998 (by kernel_rfl) rfl rfl rfl (eqF_bool 9998 (by kernel_rfl) rfl rfl rfl (eqF_bool 9998 (by kernel_rfl) rfl rfl rfl (eqF_nil _ _ _))))
  rw [h, str_eq]
  congr 1
  rw [Bool.eq_iff_iff]
  obtain ⟨a, b, e, f⟩ := c
  obtain ⟨a', b', e', f'⟩ := d
  simp
theorem exec_neq_cl {W : World} {ρ : Operand → Value} {o : Oper} (x y : Operand) (u : TypeId) (ho : o.op = .binOp .neq 34 x y u) (c d : Cl) (hx : ρ x = .agg (clv c).toArray) (hy : ρ y = .agg (clv d).toArray) :
    (execOp ρ o).run Try.prog W = .ok (.value (.bool (!decide (c = d)))) W := exec_neqS 34 x y u ho Try.guardC15 hx hy (eq_cl W c d)
/-! ### Rows of classes that are read -/
theorem lies_cl {w : World} {B : Nat} {A : Option Addr} {l : List Cl} (h : LiesV w B A (clsV l)) {i : Nat} {c : Cl} (hi : l[i]? = some c) : ∃ b o, A = some ⟨b, o, none⟩ ∧ b < B ∧ w.rangeAt b (o + i * 4) (clv c) := by
  have hlt := (List.getElem?_eq_some_iff.1 hi).1
  obtain ⟨b, o, hA, hb, hc⟩ := h (fun e0 => by have := congrArg List.length e0; rw [clsV_length] at this; simp only [List.length_nil] at this; omega)
  refine ⟨b, o, hA, hb, fun j v hj => ?_⟩
  have hj4 := (List.getElem?_eq_some_iff.1 hj).1
  rw [clv_length] at hj4
  have := hc (i * 4 + j) v (by rw [clsV, flat_get clv_length hi j hj4]; exact hj)
  rw [Nat.add_assoc]
  exact this
theorem lies_ownC {w : World} {base n : Nat} {v : Value} {l : List Cl} (h : w.ownsRow base 34 4 v n (clsV l)) : ∃ A c, v = .slice A n c ∧ n = l.length ∧ n ≤ c ∧ c ≤ maxLen ∧ LiesV w w.heap.size A (clsV l) ∧ Fresh base A := by
  have hn : n = l.length := by have := h.1; rw [clsV_length] at this; omega
  rcases h.2 with ⟨rfl, h0⟩ | ⟨g, cap, cur, rfl, hb, hg, hnc, hm, _, _⟩
  · have hx : l = [] := List.eq_nil_of_length_eq_zero (by omega)
    subst hx
    exact ⟨none, 0, by rw [h0], hn, by omega, by simp, LiesV.nil _ _ _, fun a ha => by cases ha⟩
  · refine ⟨some ⟨g, 0, none⟩, cap, rfl, hn, hnc, hm, fun _ => ⟨g, 0, rfl, (Array.getElem?_eq_some_iff.1 hg).1, fun i x hi => ?_⟩, Fresh.of_own h⟩
    have := h.cells (g := g) rfl i _ hi
    rw [Addr.add_lit] at this
    exact this
theorem rc_name {w : World} {b o : Nat} {c : Cl} (h : w.rangeAt b o (clv c)) : w.cell? ⟨b, o, none⟩ = some (.string ⟨c.name.toArray⟩) := h 0 _ rfl
theorem rc_per {w : World} {b o : Nat} {c : Cl} (h : w.rangeAt b o (clv c)) : w.cell? ⟨b, o + 1, none⟩ = some (.int .i64 c.period) := h 1 _ rfl
theorem rc_ev {w : World} {b o : Nat} {c : Cl} (h : w.rangeAt b o (clv c)) : w.cell? ⟨b, o + 2, none⟩ = some (.bool c.event) := h 2 _ rfl
theorem rc_pr {w : World} {b o : Nat} {c : Cl} (h : w.rangeAt b o (clv c)) : w.cell? ⟨b, o + 3, none⟩ = some (.bool c.priv) := h 3 _ rfl
end Go.Proofs.Ytmcnhcbibcjgnaa
