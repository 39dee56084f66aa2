/-
  Memory words: 'LiesV w B A cs': the cells cs, one a value, lie at the address A, in a block below B (of an empty row nothing is said). No program is named here.
-/
import Derived.Test.YtoiphbdmmiikaaaMem
namespace Go.Proofs.Ytoiphbdmmiikaaa
open Go.RowKit

def LiesV (w : World) (B : Nat) (A : Option Addr) (cs : List Value) : Prop :=
  cs ≠ [] → ∃ b o, A = some ⟨b, o, none⟩ ∧ b < B ∧ ∀ (i : Nat) (v : Value), cs[i]? = some v → w.cell? ⟨b, o + i, none⟩ = some v

section
variable {w w' : World} {B B' : Nat} {A : Option Addr} {cs : List Value}

theorem LiesV.nil (w : World) (B : Nat) (A : Option Addr) : LiesV w B A [] := fun h => absurd rfl h
theorem LiesV.keep (h : LiesV w B A cs) (hk : ∀ p : Addr, p.block < B → w'.cell? p = w.cell? p) : LiesV w' B A cs := fun hx => by
  obtain ⟨b, o, e, hb, hc⟩ := h hx
  exact ⟨b, o, e, hb, fun i x hi => (hk _ hb).trans (hc i x hi)⟩
theorem LiesV.le (h : LiesV w B A cs) (hB : B ≤ B') : LiesV w B' A cs := fun hx => by
  obtain ⟨b, o, e, hb, hc⟩ := h hx
  exact ⟨b, o, e, Nat.lt_of_lt_of_le hb hB, hc⟩
theorem LiesV.below (h : LiesV w B A cs) (hb : Below B w w') : LiesV w' B A cs := h.keep fun _ hp => hb.cell hp
theorem LiesV.drew (h : LiesV w B A cs) : LiesV w.drew B A cs := h
theorem LiesV.alloc (h : LiesV w B A cs) (hB : B ≤ w.heap.size) (o : Obj) : LiesV (w.alloc o) B A cs :=
  h.keep fun p hp => World.cell?_of_block (Below.heap_alloc w o p.block (by omega))
theorem LiesV.setCell (h : LiesV w B A cs) {p : Addr} (hB : B ≤ p.block) (u : Value) : LiesV (w.setCell p u) B A cs :=
  h.keep fun q hq => World.cell?_of_block (Below.heap_setCell w p u q.block (by omega))
theorem LiesV.grown {row : Option Nat} (h : LiesV w B A cs) (hg : w.grownBy w' row) (hB : B ≤ w.heap.size) (hr : ∀ g, row = some g → B ≤ g) : LiesV w' B A cs :=
  h.keep fun p hp => World.cell?_of_block (hg.block p.block (by omega) (fun e => by have := hr _ e.symm; omega))
theorem LiesV.at_ (h : LiesV w B A cs) {i : Nat} {v : Value} (hi : cs[i]? = some v) : ∃ b o, A = some ⟨b, o, none⟩ ∧ b < B ∧ w.cell? ⟨b, o + i, none⟩ = some v := by
  obtain ⟨b, o, e, hb, hc⟩ := h (by rintro rfl; simp at hi)
  exact ⟨b, o, e, hb, hc i v hi⟩
/-- The cells as the laws of append, copy and of conversions ask for them. -/
theorem LiesV.cells (h : LiesV w B A cs) {a : Addr} (ha : A = some a) : ∀ (j : Nat) (u : Value), cs[j]? = some u → w.cell? (a.add j) = some u := by
  intro j u hu
  obtain ⟨b, o, e, _, hc⟩ := h (by rintro rfl; simp at hu)
  rw [ha] at e
  injection e with e
  subst e
  rw [Addr.add_lit]
  exact hc j u hu
/-- A row that the call owns lies there. -/
theorem LiesV.of_own {base n : Nat} {e : TypeId} {v : Value} (h : w.ownsRow base e 1 v n cs) : ∃ A c, v = .slice A cs.length c ∧ n = cs.length ∧ n ≤ c ∧ c ≤ maxLen ∧ LiesV w w.heap.size A cs := by
  have hn : n = cs.length := by have := h.1; omega
  rcases h.2 with ⟨rfl, h0⟩ | ⟨g, cap, cur, rfl, hb, hg, hnc, hm, _, _⟩
  · have hx : cs = [] := List.eq_nil_of_length_eq_zero (by omega)
    subst hx
    exact ⟨none, 0, rfl, hn, by simp [hn], by simp, LiesV.nil _ _ _⟩
  · refine ⟨some ⟨g, 0, none⟩, cap, by rw [hn], hn, hnc, hm, fun _ => ⟨g, 0, rfl, (Array.getElem?_eq_some_iff.1 hg).1, fun i x hi => ?_⟩⟩
    have := h.cells (g := g) rfl i _ hi
    rw [Addr.add_lit] at this
    exact this
end
/-- A literal row that has just been laid. -/
theorem LiesV.lit (w : World) (cs : Array Value) (e : TypeId) (B : Nat) (hB : w.heap.size < B) : LiesV (w.alloc (.cells cs e)) B (some ⟨w.heap.size, 0, none⟩) cs.toList := by
  intro _
  refine ⟨w.heap.size, 0, rfl, hB, fun i x hi => ?_⟩
  rw [cell_of_row _ w.heap.size (0 + i) cs e (0, 0) (heap_alloc_new w _), Nat.zero_add, ← Array.getElem?_toList]
  exact hi
end Go.Proofs.Ytoiphbdmmiikaaa
