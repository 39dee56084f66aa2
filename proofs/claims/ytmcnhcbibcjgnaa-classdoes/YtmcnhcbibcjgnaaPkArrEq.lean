/-
  '==' of two arrays of bytes: a law for the walk. No program is named here.
-/
import Derived.Test.YtmcnhcbibcjgnaaPkStr
import Derived.ChangeKeysEq
import Derived.Laws.StructEq
import Derived.Deep.MidRow
import Derived.WalkKit
namespace Go.Proofs.Ytmcnhcbibcjgnaa
open Go.RowKit

theorem eqItems_bytes {P : Program} (w : World) (d : Nat) (h5 : P.underlying 5 = some (.int .u8)) (xs ys : List UInt8) : ∀ is : List Nat, (∀ i ∈ is, i < xs.length ∧ i < ys.length) →
    (Op.eqItems (d + 1) 5 1 (cells xs).toArray (cells ys).toArray is).run P w = .ok (is.all fun i => xs[i]? == ys[i]?) w := by
  have hp : P.plainKey 5 = true := by simp [Program.plainKey, h5]
  intro is
  induction is with
  | nil => intro _; simp [Op.eqItems]
  | cons i is ih =>
    intro hi
    obtain ⟨h1, h2⟩ := hi i (by simp)
    have e1 : xs[i]? = some xs[i] := List.getElem?_eq_getElem h1
    have e2 : ys[i]? = some ys[i] := List.getElem?_eq_getElem h2
    have p1 := run_part_plain w hp (xs := (cells xs).toArray) (off := i * 1) (v := .int .u8 (xs[i].toNat : Int)) (by simpa using cells_get e1)
    have p2 := run_part_plain w hp (xs := (cells ys).toArray) (off := i * 1) (v := .int .u8 (ys[i].toNat : Int)) (by simpa using cells_get e2)
    have ih' := ih (fun j hj => hi j (by simp [hj]))
    have hd : (((xs[i].toNat : Int)) == (ys[i].toNat : Int)) = (xs[i]? == ys[i]?) := by
      rw [e1, e2, Bool.eq_iff_iff]
      simp only [beq_iff_eq, Option.some.injEq]
      constructor
      · intro h; exact UInt8.toNat_inj.1 (by omega)
      · intro h; rw [h]
    simp only [Op.eqItems, Sem.run_bind, p1, p2, Result.andThen_ok, run_equalIn_int w d 5 .u8 .u8 _ _ h5, hd, List.all_cons]
    cases xs[i]? == ys[i]?
    · simp
    · simpa using ih'
theorem run_equalIn_bytes {P : Program} (w : World) (d : Nat) {t : TypeId} {n : Nat} (ht : P.underlying t = some (.array n 5)) (h5 : P.underlying 5 = some (.int .u8)) (hc : P.cellsOf 5 = 1) {xs ys : List UInt8} (h1 : xs.length = n) (h2 : ys.length = n) :
    (Op.equalIn (d + 2) t (.agg (cells xs).toArray) (.agg (cells ys).toArray)).run P w = .ok (xs == ys) w := by
  obtain ⟨i, hi⟩ := info_of_underlying h5
  rw [run_equalIn_array w (d + 1) _ _ ht hi, hc, eqItems_bytes w d h5 xs ys _ (by intro i hi; have := List.mem_range.1 hi; omega)]
  congr 1
  rw [Bool.eq_iff_iff, List.all_eq_true, beq_iff_eq]
  constructor
  · intro h
    apply List.ext_getElem?
    intro j
    by_cases hj : j < n
    · exact eq_of_beq (h j (List.mem_range.2 hj))
    · rw [List.getElem?_eq_none (by omega), List.getElem?_eq_none (by omega)]
  · rintro rfl i _
    exact beq_self_eq_true _
/-- The form in which the walk asks. -/
theorem run_eql_bytes {P : Program} (w : World) {t : TypeId} {n : Nat} (ht : P.underlying t = some (.array n 5)) (h5 : P.underlying 5 = some (.int .u8)) (hc : P.cellsOf 5 = 1) {xs ys : List UInt8} (h1 : xs.length = n) (h2 : ys.length = n) :
    (binOp .eql t (.agg (cells xs).toArray) (.agg (cells ys).toArray)).run P w = .ok (.bool (xs == ys)) w := by
  rw [run_eql_struct, run_equalIn_bytes w 9998 ht h5 hc h1 h2]
  rfl
/-- One operation: the whole array read out of the midst of a block. -/
theorem exec_load_mid {P : Program} {W : World} {ρ : Operand → Value} {o : Oper} (ty : TypeId) (x : Operand) (ho : o.op = .load ty x) (b k : Nat) (hx : ρ x = .pointer (some ⟨b, k, none⟩)) (cs : List Value) (d : TypeDesc) (hc : W.rangeAt b k cs)
    (hu : P.underlying ty = some d) (hd : d.isRow = true) (hi : (P.info? ty).map (·.size) = some cs.length) : (execOp ρ o).run P W = .ok (.value (.agg cs.toArray)) W := by
  have := run_loadAt_mid (P := P) W b k ty cs d hc hu hd hi
  simp only [execOp, ho, hx, Sem.run_bind, this, Result.andThen_ok, Sem.run_pure]
/-- One operation: '==' of two arrays of bytes. -/
theorem exec_eql_bytes {P : Program} {W : World} {ρ : Operand → Value} {o : Oper} (t : TypeId) (x y : Operand) (u : TypeId) (ho : o.op = .binOp .eql t x y u) {n : Nat} (ht : P.underlying t = some (.array n 5)) (h5 : P.underlying 5 = some (.int .u8)) (hc : P.cellsOf 5 = 1)
    (hm : P.eqGuardType P.depth t = false) {xs ys : List UInt8} (hx : ρ x = .agg (cells xs).toArray) (hy : ρ y = .agg (cells ys).toArray) (h1 : xs.length = n) (h2 : ys.length = n) : (execOp ρ o).run P W = .ok (.value (.bool (xs == ys))) W := by
  simp only [execOp, ho, hx, hy, Sem.run_bind, run_eqGuard_agg W .eql t x y _ _ hm, run_eql_bytes W ht h5 hc h1 h2, Result.andThen_ok, Sem.run_pure]
end Go.Proofs.Ytmcnhcbibcjgnaa
