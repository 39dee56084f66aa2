/-
  Sectors as cells: stored, loaded, made; Whole as a sector; sealS.
  Layer 15: the bytes of the classes, as they are written one by one. No function is named here.
  Sectors loaded and compared, also where the operation is guarded.
-/
import Derived.Test.YtmcnhcbibcjgnaaPkCrcE
import Derived.Test.YtmcnhcbibcjgnaaPkWholeN
import Derived.Test.YtmcnhcbibcjgnaaPkFld
import Derived.Test.YtmcnhcbibcjgnaaPkArrS
import Derived.Test.YtmcnhcbibcjgnaaPkSecZ
import Derived.Test.YtmcnhcbibcjgnaaPkExecRow
import Derived.Test.YtmcnhcbibcjgnaaPkMadeV
import Derived.Test.YtmcnhcbibcjgnaaPkAppV
namespace Go.Proofs.Ytmcnhcbibcjgnaa
open Go.RowKit
set_option linter.unusedVariables false

theorem Try.size1 : (Try.prog.info? 5).map (·.size) = some 1 := by kernel_rfl
/-- A sector stored into a variable. -/
theorem store_sec {w : World} {ops : Array Oper} {rest : List Oper} {o : Oper} {A : Act} {Q : Exit → Act → World → Prop} (hgd : o.guard = none) (x y : Operand) (ho : o.op = .store 48 x y) (g : Nat) (s : Sec)
    (hx : A.eval x = .pointer (some ⟨g, 0, none⟩)) (hy : A.eval y = .agg s.cs.toArray) {t : TypeId} {old : List Value} (hg : RowV w g t old) (hold : old.length = 256)
    (h : ∀ w', RowV w' g t s.cs → w.grownBy w' (some g) → w'.heap.size = w.heap.size → wpList Try.prog ops Q rest (A.put o.dst undef) w') : wpList Try.prog ops Q (o :: rest) A w :=
  wpList_store_rowV hgd 48 x y ho g _ hx hy t old hg (sec_size' s) (by rw [List.size_toArray, List.size_toArray, hold, Sec.cs_length]) (sec_all s) h
theorem load_sec {w : World} {ops : Array Oper} {rest : List Oper} {o : Oper} {A : Act} {Q : Exit → Act → World → Prop} (hgd : o.guard = none) (x : Operand) (ho : o.op = .load 48 x) (g : Nat) {s : Sec} {t : TypeId}
    (hx : A.eval x = .pointer (some ⟨g, 0, none⟩)) (hg : RowV w g t s.cs)
    (h : wpList Try.prog ops Q rest (A.put o.dst (.agg s.cs.toArray)) w) : wpList Try.prog ops Q (o :: rest) A w :=
  wpList_load_row hgd 48 x ho g hx t _ (0, 0) _ hg Try.underlying48 rfl (sec_size' s) h
theorem alloc_sec {w : World} {ops : Array Oper} {rest : List Oper} {o : Oper} {A : Act} {Q : Exit → Act → World → Prop} (hgd : o.guard = none) (ho : o.op = .alloc 48)
    (h : ∀ w', RowV w' w.heap.size 48 zeroSec.cs → Below w.heap.size w w' → w'.heap.size = w.heap.size + 1 → wpList Try.prog ops Q rest (A.put o.dst (.pointer (some ⟨w.heap.size, 0, none⟩))) w') : wpList Try.prog ops Q (o :: rest) A w :=
  wpList_alloc_rowV hgd 48 ho zeroSec.cs Try.zeroS h

def wholeS (xs : List UInt8) : Sec := ⟨wholeB xs, wholeB_length xs⟩
theorem whole_sec (A : Option Addr) (n c : Nat) (xs : List UInt8) (w : World) (B : Nat) (h : Lies w B A xs) (hn : n = xs.length) (hB : B ≤ w.heap.size) :
    Calls Try.prog 37 #[.slice A n c] w fun e w' => e = .returned (.agg (wholeS xs).cs.toArray) ∧ Below w.heap.size w w' := whole_any A n c xs w B h hn hB
theorem whole_take {xs : List UInt8} (h : xs.length ≤ 252) : (wholeB xs).take 252 = fill xs 252 := by
  unfold wholeB fill
  rw [List.take_of_length_le (show xs.length ≤ 256 by omega), List.take_append, List.take_of_length_le h, List.take_replicate]
  congr 2
  omega
theorem whole_self {xs : List UInt8} (h : xs.length = 256) : wholeB xs = xs := by
  unfold wholeB fill
  rw [List.take_of_length_le (by omega), h]
  simp
def sealS (xs : List UInt8) (h : xs.length ≤ 252) : Sec := ⟨sealB (fill xs 252), by rw [sealB_length, fill_length h]⟩

end Go.Proofs.Ytmcnhcbibcjgnaa
namespace Go.Proofs.Ytmcnhcbibcjgnaa
open Go.RowKit
set_option linter.unusedVariables false

theorem pad16 {s : List UInt8} (h : s.length ≤ 15) : padB s 16 = padN s := by
  unfold padB fill padN
  rw [List.length_cons, show 16 - (s.length + 1) = 15 - s.length by omega]
theorem put_one (x : UInt8) : putB x.toNat 1 = [x] := by simp [putB]
theorem put_lenC (n : Nat) : putB n 1 = [UInt8.ofNat n] := by simp [putB]
/-- The bytes behind k classes. -/
def clsP (l : List Cl) (k : Nat) : List UInt8 := UInt8.ofNat l.length :: (l.take k).flatMap clB
theorem clsP_zero (l : List Cl) : clsP l 0 = [UInt8.ofNat l.length] := rfl
theorem clsP_step {l : List Cl} {k : Nat} {c : Cl} (h : l[k]? = some c) : clsP l (k + 1) = clsP l k ++ padN c.name ++ putB c.period.toNat 6 ++ [flagB c] := by
  unfold clsP
  rw [List.take_add_one, h, List.flatMap_append]
  simp [clB]
theorem clsP_all (l : List Cl) : clsP l l.length = clsB l := by unfold clsP clsB; rw [List.take_length]
theorem clsP_length {l : List Cl} (h : SetOk l) {k : Nat} (hk : k ≤ l.length) : (clsP l k).length = 1 + 23 * k := by
  have : ∀ m : List Cl, (∀ x ∈ m, x.ok = true) → (m.flatMap clB).length = 23 * m.length := by
    intro m
    induction m with
    | nil => intro _; rfl
    | cons x m ih =>
      intro hm
      have hx := hm x (by simp)
      simp only [Cl.ok, Bool.and_eq_true] at hx
      rw [List.flatMap_cons, List.length_append, clB_length (nameOk_iff.1 hx.1).2.1, ih (fun y hy => hm y (by simp [hy])), List.length_cons]
      omega
  unfold clsP
  rw [List.length_cons, this _ (fun x hx => h.ok x (List.mem_of_mem_take hx)), List.length_take]
  omega
theorem clsS_seal {l : List Cl} (h : (clsB l).length ≤ 252) : sealS (clsB l) h = clsS l := by
  apply Subtype.ext
  show sealB (fill (clsB l) 252) = sealB (padL (clsB l))
  unfold fill padL
  rw [List.take_of_length_le h]
theorem Cl.ok_name {c : Cl} (h : c.ok = true) : c.name.length ≤ 15 := by
  simp only [Cl.ok, Bool.and_eq_true] at h
  exact (nameOk_iff.1 h.1).2.1
theorem Cl.ok_per {c : Cl} (h : c.ok = true) : 0 ≤ c.period ∧ c.period ≤ 1099511627776 := by
  simp only [Cl.ok, Bool.and_eq_true] at h
  exact perOk_iff.1 h.2
end Go.Proofs.Ytmcnhcbibcjgnaa
namespace Go.Proofs.Ytmcnhcbibcjgnaa
open Go.RowKit
set_option linter.unusedVariables false
set_option linter.unusedSimpArgs false

/-- A guarded operation that is wanted. -/
theorem wpList_wants {P : Program} {w : World} {ops : Array Oper} {rest : List Oper} {o : Oper} {A : Act} {Q : Exit → Act → World → Prop} (hw : Region.wanted o (yielded ops A.tmps) = true)
    (h : ∀ K : Act → World → Prop, (∀ a w, wpList P ops Q rest a w → K a w) → o.wp P A w K Q) : wpList P ops Q (o :: rest) A w :=
  wpList_step fun K hK => by rw [if_pos hw]; exact h K hK
theorem at_loadG {P : Program} {w : World} {ops : Array Oper} {rest : List Oper} {a : Act} {Q : Exit → Act → World → Prop} {d : Option Tmp} {x : Operand} {u : TypeId} {p : String} {af : Array Edge} {gd : Nat × Bool} (ty : TypeId)
    (h : wpList P ops Q (⟨d, .load ty x, u, p, af, some gd⟩ :: rest) a w) : wpList P ops Q (⟨d, .load ty x, u, p, af, some gd⟩ :: rest) a w := h
theorem at_neqG {P : Program} {w : World} {ops : Array Oper} {rest : List Oper} {a : Act} {Q : Exit → Act → World → Prop} {d : Option Tmp} {x y : Operand} {u v : TypeId} {p : String} {af : Array Edge} {gd : Nat × Bool} (ty : TypeId)
    (h : wpList P ops Q (⟨d, .binOp .neq ty x y v, u, p, af, some gd⟩ :: rest) a w) : wpList P ops Q (⟨d, .binOp .neq ty x y v, u, p, af, some gd⟩ :: rest) a w := h
theorem load_secG {w : World} {ops : Array Oper} {rest : List Oper} {o : Oper} {A : Act} {Q : Exit → Act → World → Prop} (hw : Region.wanted o (yielded ops A.tmps) = true) (x : Operand) (ho : o.op = .load 48 x) (g : Nat) {s : Sec} {t : TypeId}
    (hx : A.eval x = .pointer (some ⟨g, 0, none⟩)) (hg : RowV w g t s.cs)
    (h : wpList Try.prog ops Q rest (A.put o.dst (.agg s.cs.toArray)) w) : wpList Try.prog ops Q (o :: rest) A w := by
  refine wpList_wants hw fun K hK => ?_
  unfold Oper.wp
  rw [exec_load_row 48 x ho g hx _ hg Try.underlying48 rfl (sec_size s)]
  exact hK _ _ h
theorem sec_eq_iff (x y : Sec) : (x.1 == y.1) = decide (x = y) := by
  rw [Bool.eq_iff_iff, beq_iff_eq, decide_eq_true_eq]
  exact ⟨fun h => Subtype.ext h, fun h => by rw [h]⟩
theorem Try.cells5s : Try.prog.cellsOf 5 = 1 := by kernel_rfl
theorem Try.guardSec : Try.prog.eqGuardType Try.prog.depth 48 = false := by kernel_rfl
theorem neq_secG {w : World} {ops : Array Oper} {rest : List Oper} {o : Oper} {A : Act} {Q : Exit → Act → World → Prop} (hw : Region.wanted o (yielded ops A.tmps) = true) (x y : Operand) (u : TypeId) (ho : o.op = .binOp .neq 48 x y u) (s t : Sec)
    (hx : A.eval x = .agg s.cs.toArray) (hy : A.eval y = .agg t.cs.toArray)
    (h : wpList Try.prog ops Q rest (A.put o.dst (.bool (!decide (s = t)))) w) : wpList Try.prog ops Q (o :: rest) A w := by
  refine wpList_wants hw fun K hK => ?_
  unfold Oper.wp
  rw [exec_neqB 48 x y u ho Try.underlying48 Try.underlying5 Try.cells5s Try.guardSec hx hy s.2 t.2, sec_eq_iff]
  exact hK _ _ h
theorem exec_neq_sec {W : World} {ρ : Operand → Value} {o : Oper} (x y : Operand) (u : TypeId) (ho : o.op = .binOp .neq 48 x y u) (s t : Sec) (hx : ρ x = .agg s.cs.toArray) (hy : ρ y = .agg t.cs.toArray) :
    (execOp ρ o).run Try.prog W = .ok (.value (.bool (!decide (s = t)))) W := by
  rw [exec_neqB 48 x y u ho Try.underlying48 Try.underlying5 Try.cells5s Try.guardSec hx hy s.2 t.2, sec_eq_iff]
theorem exec_eql_sec {W : World} {ρ : Operand → Value} {o : Oper} (x y : Operand) (u : TypeId) (ho : o.op = .binOp .eql 48 x y u) (s t : Sec) (hx : ρ x = .agg s.cs.toArray) (hy : ρ y = .agg t.cs.toArray) :
    (execOp ρ o).run Try.prog W = .ok (.value (.bool (decide (s = t)))) W := by
  rw [exec_eql_bytes 48 x y u ho Try.underlying48 Try.underlying5 Try.cells5s Try.guardSec hx hy s.2 t.2, sec_eq_iff]
theorem sec_byte {w : World} {g : Nat} {t : TypeId} {x : Sec} (h : RowV w g t x.cs) (i : Nat) (hi : i < 256) : w.cell? ⟨g, i, none⟩ = some (.int .u8 ((x.1.getD i 0).toNat : Int)) := by
  refine h.cell ?_
  have hl : i < x.1.length := by rw [x.2]; exact hi
  rw [List.getD_eq_getElem?_getD, List.getElem?_eq_getElem hl]
  exact cells_get (List.getElem?_eq_getElem hl)
theorem sec_from {w : World} {g : Nat} {t : TypeId} {x : Sec} (h : RowV w g t x.cs) (k : Nat) : Lies w w.heap.size (some ⟨g, k, none⟩) (x.1.drop k) := by
  intro _
  refine ⟨g, k, rfl, h.lt, fun i y hi => h.cell ?_⟩
  rw [List.getElem?_drop] at hi
  exact cells_get hi
theorem wp_alloc_sec {o : Oper} {a : Act} {w : World} {K : Act → World → Prop} {Q : Exit → Act → World → Prop} (ho : o.op = .alloc 48)
    (h : ∀ w', RowV w' w.heap.size 48 zeroSec.cs → Below w.heap.size w w' → w'.heap.size = w.heap.size + 1 → K (a.put o.dst (.pointer (some ⟨w.heap.size, 0, none⟩))) w') : o.wp Try.prog a w K Q := by
  obtain ⟨i, hi, hz'⟩ := Option.bind_eq_some_iff.1 Try.zeroS
  have hr : (Instr.alloc 48 true (.tuple #[])).run Try.prog w = .ok (.pointer (some ⟨w.heap.size, 0, none⟩)) (w.alloc (.cells zeroSec.cs.toArray 48)) := by
    simp [Instr.alloc, zeroValue, typeInfo, hi, hz', newVar, newRow, Value.cells, Sec.val]
  unfold Oper.wp
  simp only [execOp, ho, Sem.run_bind, hr, Result.andThen_ok]
  exact h _ (RowV.new w 48 zeroSec.cs) ((Below.refl _ _).alloc (Nat.le_refl _) _) (by simp)
theorem wp_store_sec {o : Oper} {a : Act} {w : World} {K : Act → World → Prop} {Q : Exit → Act → World → Prop} (x y : Operand) (ho : o.op = .store 48 x y) (g : Nat) (s : Sec) (hx : a.eval x = .pointer (some ⟨g, 0, none⟩)) (hy : a.eval y = .agg s.cs.toArray)
    {t : TypeId} {old : List Value} (hg : RowV w g t old) (hlo : old.length = 256)
    (h : ∀ w', RowV w' g t s.cs → w.grownBy w' (some g) → w'.heap.size = w.heap.size → K (a.put o.dst undef) w') : o.wp Try.prog a w K Q :=
  wp_store_row 48 x y ho g s.cs.toArray hx hy t old.toArray hg (sec_size' s) (by rw [List.size_toArray, List.size_toArray, hlo, Sec.cs_length]) (sec_all s) (h _ (hg.put s.cs) ⟨rfl, rfl, rfl, by simp, fun k _ hk => setRow_other w g k _ (fun e => hk (by rw [e]))⟩ (by simp))
end Go.Proofs.Ytmcnhcbibcjgnaa
