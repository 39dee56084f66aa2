/-
  Memory words for these proofs: 'Lies w B A xs': the bytes xs lie at the address A, in a block below B (of an empty row nothing is said); 'cells xs': the bytes as cells. No program is named here.
  Memory words: 'LiesV w B A cs': the cells cs, one a value, lie at the address A, in a block below B (of an empty row nothing is said). No program is named here.
  Bytes converted to a string: the run, wherever the bytes lie. No program is named here.
-/
import Derived.Below
import Derived.Laws.OwnMore
import Derived.Deep.Draws
import Derived.Laws.Rows
import Derived.Laws.BytesArg
namespace Go.Proofs.Ytmcnhcbibcjgnaa
open Go.RowKit

def cells (xs : List UInt8) : List Value := xs.map fun x => Value.int .u8 (x.toNat : Int)

theorem cells_length (xs : List UInt8) : (cells xs).length = xs.length := by simp [cells]
theorem cells_append (xs ys : List UInt8) : cells (xs ++ ys) = cells xs ++ cells ys := by simp [cells]
theorem cells_get {xs : List UInt8} {i : Nat} {x : UInt8} (h : xs[i]? = some x) : (cells xs)[i]? = some (.int .u8 (x.toNat : Int)) := by simp [cells, h]
theorem cells_one (xs : List UInt8) : ∀ u ∈ cells xs, u.oneCell' = true := by
  intro u hu
  obtain ⟨x, _, rfl⟩ := List.mem_map.1 hu
  rfl
theorem cells_of {xs : List UInt8} {i : Nat} {u : Value} (h : (cells xs)[i]? = some u) : ∃ x, xs[i]? = some x ∧ u = .int .u8 (x.toNat : Int) := by
  unfold cells at h
  rw [List.getElem?_map, Option.map_eq_some_iff] at h
  obtain ⟨x, hx, rfl⟩ := h
  exact ⟨x, hx, rfl⟩

def Lies (w : World) (B : Nat) (A : Option Addr) (xs : List UInt8) : Prop :=
  xs ≠ [] → ∃ b o, A = some ⟨b, o, none⟩ ∧ b < B ∧ ∀ (i : Nat) (x : UInt8), xs[i]? = some x → w.cell? ⟨b, o + i, none⟩ = some (.int .u8 (x.toNat : Int))

section
variable {w w' : World} {B B' : Nat} {A : Option Addr} {xs : List UInt8}

theorem Lies.nil (w : World) (B : Nat) (A : Option Addr) : Lies w B A [] := fun h => absurd rfl h
theorem Lies.keep (h : Lies w B A xs) (hk : ∀ p : Addr, p.block < B → w'.cell? p = w.cell? p) : Lies w' B A xs := fun hx => by
  obtain ⟨b, o, e, hb, hc⟩ := h hx
  exact ⟨b, o, e, hb, fun i x hi => (hk _ hb).trans (hc i x hi)⟩
theorem Lies.le (h : Lies w B A xs) (hB : B ≤ B') : Lies w B' A xs := fun hx => by
  obtain ⟨b, o, e, hb, hc⟩ := h hx
  exact ⟨b, o, e, Nat.lt_of_lt_of_le hb hB, hc⟩
theorem Lies.below (h : Lies w B A xs) (hb : Below B w w') : Lies w' B A xs := h.keep fun _ hp => hb.cell hp
theorem Lies.drewN (h : Lies w B A xs) (n : Nat) : Lies (w.drewN n) B A xs := h
theorem Lies.drew (h : Lies w B A xs) : Lies w.drew B A xs := h
theorem Lies.alloc (h : Lies w B A xs) (hB : B ≤ w.heap.size) (o : Obj) : Lies (w.alloc o) B A xs :=
  h.keep fun p hp => World.cell?_of_block (Below.heap_alloc w o p.block (by omega))
theorem Lies.setCell (h : Lies w B A xs) {p : Addr} (hB : B ≤ p.block) (u : Value) : Lies (w.setCell p u) B A xs :=
  h.keep fun q hq => World.cell?_of_block (Below.heap_setCell w p u q.block (by omega))
theorem Lies.grown {row : Option Nat} (h : Lies w B A xs) (hg : w.grownBy w' row) (hB : B ≤ w.heap.size) (hr : ∀ g, row = some g → B ≤ g) : Lies w' B A xs :=
  h.keep fun p hp => World.cell?_of_block (hg.block p.block (by omega) (fun e => by have := hr _ e.symm; omega))
theorem Lies.at_ (h : Lies w B A xs) {i : Nat} (hi : i < xs.length) : ∃ b o x, A = some ⟨b, o, none⟩ ∧ b < B ∧ xs[i]? = some x ∧ w.cell? ⟨b, o + i, none⟩ = some (.int .u8 (x.toNat : Int)) := by
  obtain ⟨b, o, e, hb, hc⟩ := h (by rintro rfl; simp at hi)
  exact ⟨b, o, xs[i], e, hb, List.getElem?_eq_getElem hi, hc i _ (List.getElem?_eq_getElem hi)⟩
/-- The cells as the laws of append, copy and of conversions ask for them. -/
theorem Lies.cells (h : Lies w B A xs) {a : Addr} (ha : A = some a) : ∀ (j : Nat) (u : Value), (cells xs)[j]? = some u → w.cell? (a.add j) = some u := by
  intro j u hu
  obtain ⟨x, hx, rfl⟩ := cells_of hu
  obtain ⟨b, o, e, _, hc⟩ := h (by rintro rfl; simp at hx)
  rw [ha] at e
  injection e with e
  subst e
  rw [Addr.add_lit]
  exact hc j x hx
/-- 's[k:]', as the model writes it. -/
theorem Lies.drop (h : Lies w B A xs) {k c : Nat} (hc : xs.length ≤ c) : Lies w B (if c = k then A else A.map (·.add k)) (xs.drop k) := by
  intro hx
  have hk : k < xs.length := by
    rcases Nat.lt_or_ge k xs.length with h' | h'
    · exact h'
    · exact absurd (List.drop_eq_nil_of_le h') hx
  obtain ⟨b, o, rfl, hb, hcell⟩ := h (by rintro rfl; simp at hk)
  rw [if_neg (by omega)]
  refine ⟨b, o + k, by simp [Addr.add_lit], hb, fun i x hi => ?_⟩
  rw [Nat.add_assoc]
  exact hcell (k + i) x (by rw [← hi, List.getElem?_drop])
theorem Lies.take (h : Lies w B A xs) (k : Nat) : Lies w B A (xs.take k) := by
  intro hx
  obtain ⟨b, o, e, hb, hcell⟩ := h (by rintro rfl; simp at hx)
  refine ⟨b, o, e, hb, fun i x hi => hcell i x ?_⟩
  rw [List.getElem?_take] at hi
  split at hi
  · exact hi
  · cases hi
/-- A row that the call owns lies there. -/
theorem Lies.of_own {base : Nat} {v : Value} {n : Nat} (h : w.ownsRow base 5 1 v n (Go.Proofs.Ytmcnhcbibcjgnaa.cells xs)) : ∃ A c, v = .slice A xs.length c ∧ n = xs.length ∧ n ≤ c ∧ c ≤ maxLen ∧ Lies w w.heap.size A xs := by
  have hn : n = xs.length := by have := h.1; rw [cells_length] at this; omega
  rcases h.2 with ⟨rfl, h0⟩ | ⟨g, cap, cur, rfl, hb, hg, hnc, hm, _, _⟩
  · have hx : xs = [] := List.eq_nil_of_length_eq_zero (by omega)
    subst hx
    exact ⟨none, 0, rfl, hn, by simp [hn], by simp, Lies.nil _ _ _⟩
  · refine ⟨some ⟨g, 0, none⟩, cap, by rw [hn], hn, hnc, hm, fun _ => ⟨g, 0, rfl, (Array.getElem?_eq_some_iff.1 hg).1, fun i x hi => ?_⟩⟩
    have := h.cells (g := g) rfl i _ (cells_get hi)
    rw [Addr.add_lit] at this
    exact this
end

/-- A literal row of bytes that has just been laid. -/
theorem Lies.lit (w : World) (cs : Array Value) (xs : List UInt8) (h : cs.toList = Go.Proofs.Ytmcnhcbibcjgnaa.cells xs) (B : Nat) (hB : w.heap.size < B) : Lies (w.alloc (.cells cs 5)) B (some ⟨w.heap.size, 0, none⟩) xs := by
  intro _
  refine ⟨w.heap.size, 0, rfl, hB, fun i x hi => ?_⟩
  rw [cell_of_row _ w.heap.size (0 + i) cs 5 (0, 0) (heap_alloc_new w _), Nat.zero_add, ← Array.getElem?_toList, h]
  exact cells_get hi

theorem below_drewN' {B : Nat} {a w : World} (h : Below B a w) (n : Nat) : Below B a (w.drewN n) := ⟨h.os, h.tape, h.output, h.size, h.block⟩
theorem below_of_drewN (w : World) (n B : Nat) : Below B w (w.drewN n) := ⟨rfl, rfl, rfl, Nat.le_refl _, fun _ _ => rfl⟩
/-- Two calls one behind the other: what lay there when the first began lies there when the second has ended. -/
theorem below_seq {w w1 w2 : World} (h1 : Below w.heap.size w w1) (h2 : Below w1.heap.size w1 w2) : Below w.heap.size w w2 := h1.trans (h2.mono h1.size)

end Go.Proofs.Ytmcnhcbibcjgnaa
namespace Go.Proofs.Ytmcnhcbibcjgnaa
open Go.RowKit

def LiesV (w : World) (B : Nat) (A : Option Addr) (cs : List Value) : Prop :=
  cs ≠ [] → ∃ b o, A = some ⟨b, o, none⟩ ∧ b < B ∧ ∀ (i : Nat) (v : Value), cs[i]? = some v → w.cell? ⟨b, o + i, none⟩ = some v

section
variable {w w' : World} {B B' : Nat} {A : Option Addr} {cs : List Value}

theorem LiesV.nil (w : World) (B : Nat) (A : Option Addr) : LiesV w B A [] := fun h => absurd rfl h
theorem LiesV.keep (h : LiesV w B A cs) (hk : ∀ p : Addr, p.block < B → w'.cell? p = w.cell? p) : LiesV w' B A cs := fun hx => by
  obtain ⟨b, o, e, hb, hc⟩ := h hx
  exact ⟨b, o, e, hb, fun i x hi => (hk _ hb).trans (hc i x hi)⟩
theorem LiesV.le (h : LiesV w B A cs) (hB : B ≤ B') : LiesV w B' A cs := fun hx => by
  obtain ⟨b, o, e, hb, hc⟩ := h hx
  exact ⟨b, o, e, Nat.lt_of_lt_of_le hb hB, hc⟩
theorem LiesV.below (h : LiesV w B A cs) (hb : Below B w w') : LiesV w' B A cs := h.keep fun _ hp => hb.cell hp
theorem LiesV.drew (h : LiesV w B A cs) : LiesV w.drew B A cs := h
theorem LiesV.alloc (h : LiesV w B A cs) (hB : B ≤ w.heap.size) (o : Obj) : LiesV (w.alloc o) B A cs :=
  h.keep fun p hp => World.cell?_of_block (Below.heap_alloc w o p.block (by omega))
theorem LiesV.setCell (h : LiesV w B A cs) {p : Addr} (hB : B ≤ p.block) (u : Value) : LiesV (w.setCell p u) B A cs :=
  h.keep fun q hq => World.cell?_of_block (Below.heap_setCell w p u q.block (by omega))
theorem LiesV.grown {row : Option Nat} (h : LiesV w B A cs) (hg : w.grownBy w' row) (hB : B ≤ w.heap.size) (hr : ∀ g, row = some g → B ≤ g) : LiesV w' B A cs :=
  h.keep fun p hp => World.cell?_of_block (hg.block p.block (by omega) (fun e => by have := hr _ e.symm; omega))
theorem LiesV.at_ (h : LiesV w B A cs) {i : Nat} {v : Value} (hi : cs[i]? = some v) : ∃ b o, A = some ⟨b, o, none⟩ ∧ b < B ∧ w.cell? ⟨b, o + i, none⟩ = some v := by
  obtain ⟨b, o, e, hb, hc⟩ := h (by rintro rfl; simp at hi)
  exact ⟨b, o, e, hb, hc i v hi⟩
/-- The cells as the laws of append, copy and of conversions ask for them. -/
theorem LiesV.cells (h : LiesV w B A cs) {a : Addr} (ha : A = some a) : ∀ (j : Nat) (u : Value), cs[j]? = some u → w.cell? (a.add j) = some u := by
  intro j u hu
  obtain ⟨b, o, e, _, hc⟩ := h (by rintro rfl; simp at hu)
  rw [ha] at e
  injection e with e
  subst e
  rw [Addr.add_lit]
  exact hc j u hu
/-- A row that the call owns lies there. -/
theorem LiesV.of_own {base n : Nat} {e : TypeId} {v : Value} (h : w.ownsRow base e 1 v n cs) : ∃ A c, v = .slice A cs.length c ∧ n = cs.length ∧ n ≤ c ∧ c ≤ maxLen ∧ LiesV w w.heap.size A cs := by
  have hn : n = cs.length := by have := h.1; omega
  rcases h.2 with ⟨rfl, h0⟩ | ⟨g, cap, cur, rfl, hb, hg, hnc, hm, _, _⟩
  · have hx : cs = [] := List.eq_nil_of_length_eq_zero (by omega)
    subst hx
    exact ⟨none, 0, rfl, hn, by simp [hn], by simp, LiesV.nil _ _ _⟩
  · refine ⟨some ⟨g, 0, none⟩, cap, by rw [hn], hn, hnc, hm, fun _ => ⟨g, 0, rfl, (Array.getElem?_eq_some_iff.1 hg).1, fun i x hi => ?_⟩⟩
    have := h.cells (g := g) rfl i _ hi
    rw [Addr.add_lit] at this
    exact this
end
/-- A literal row that has just been laid. -/
theorem LiesV.lit (w : World) (cs : Array Value) (e : TypeId) (B : Nat) (hB : w.heap.size < B) : LiesV (w.alloc (.cells cs e)) B (some ⟨w.heap.size, 0, none⟩) cs.toList := by
  intro _
  refine ⟨w.heap.size, 0, rfl, hB, fun i x hi => ?_⟩
  rw [cell_of_row _ w.heap.size (0 + i) cs e (0, 0) (heap_alloc_new w _), Nat.zero_add, ← Array.getElem?_toList]
  exact hi
end Go.Proofs.Ytmcnhcbibcjgnaa
namespace Go.Proofs.Ytmcnhcbibcjgnaa
open Go.RowKit

theorem strOfNums_bytes (xs : List UInt8) : strOfNums (xs.map fun x => (x.toNat : Int)) = ⟨xs.toArray⟩ := by
  unfold strOfNums
  rw [List.map_map]
  congr 1
  congr 1
  conv => rhs; rw [← List.map_id xs]
  apply List.map_congr_left
  intro x _
  simp

theorem run_str {P : Program} (src e dst : TypeId) (hs : P.underlying src = some (.slice e)) (he : P.underlying e = some (.int .u8)) (hd : P.underlying dst = some .string)
    {w : World} {B : Nat} {A : Option Addr} {xs : List UInt8} (n c : Nat) (h : Lies w B A xs) (hn : n = xs.length) :
    (convert src dst (.slice A n c)).run P w = .ok (.string ⟨xs.toArray⟩) w := by
  subst hn
  rcases A with _ | a
  · have hx : xs = [] := by
      rcases xs with _ | ⟨x, xs⟩
      · rfl
      · obtain ⟨b, o, e, _⟩ := h (by simp)
        cases e
    subst hx
    rw [run_convert_bytes_nil w src e hs he _ c dst hd]
    rfl
  · by_cases hx : xs = []
    · subst hx
      rw [run_convert_bytes_string w src dst e _ _ c hs he hd]
      rw [run_bytesToString w a ([] : List UInt8).length c [] (run_loadCells_list (P := P) w a [] (fun j v hj => by simp at hj))]
      rfl
    · obtain ⟨b, o, e', _, hc⟩ := h hx
      injection e' with e'
      subst e'
      rw [run_convert_bytes_arg w src e hs he b o xs.length c (xs.map fun x => (x.toNat : Int)) (by simp) (fun i hi => by
        rw [hc i _ (List.getElem?_eq_getElem hi)]
        simp [List.getD, List.getElem?_eq_getElem hi]) dst hd, strOfNums_bytes]
end Go.Proofs.Ytmcnhcbibcjgnaa
