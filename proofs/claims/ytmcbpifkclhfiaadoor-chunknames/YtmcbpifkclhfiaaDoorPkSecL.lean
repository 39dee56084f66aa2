/-
  Rows of sectors that are read, wherever they lie.
-/
import Derived.Test.YtmcbpifkclhfiaaDoorPkMadeV
import Derived.Test.YtmcbpifkclhfiaaDoorPkStr
import Derived.Test.YtmcbpifkclhfiaaDoorRows
namespace Go.Proofs.YtmcbpifkclhfiaaDoor
open Go.RowKit
set_option linter.unusedVariables false

theorem lies_sec {w : World} {B : Nat} {A : Option Addr} {l : List Sec} (h : LiesV w B A (secs l)) {i : Nat} {e : Sec} (hi : l[i]? = some e) : ∃ b o, A = some ⟨b, o, none⟩ ∧ b < B ∧ w.rangeAt b (o + i * 256) e.cs := by
  have hlt := (List.getElem?_eq_some_iff.1 hi).1
  obtain ⟨b, o, hA, hb, hc⟩ := h (fun e0 => by have := congrArg List.length e0; rw [secs_length] at this; simp only [List.length_nil] at this; omega)
  refine ⟨b, o, hA, hb, fun j v hj => ?_⟩
  have hj34 := (List.getElem?_eq_some_iff.1 hj).1
  rw [Sec.cs_length] at hj34
  have := hc (i * 256 + j) v (by rw [secs, flat_get Sec.cs_length hi j hj34]; exact hj)
  rw [Nat.add_assoc]
  exact this
theorem lies_ownS {w : World} {base n : Nat} {v : Value} {l : List Sec} (h : w.ownsRow base 42 256 v n (secs l)) : ∃ A c, v = .slice A n c ∧ n = l.length ∧ n ≤ c ∧ c ≤ maxLen ∧ LiesV w w.heap.size A (secs l) := by
  have hn : n = l.length := by have := h.1; rw [secs_length] at this; omega
  rcases h.2 with ⟨rfl, h0⟩ | ⟨g, cap, cur, rfl, hb, hg, hnc, hm, _, _⟩
  · have hx : l = [] := List.eq_nil_of_length_eq_zero (by omega)
    subst hx
    exact ⟨none, 0, by rw [h0], hn, by omega, by simp, LiesV.nil _ _ _⟩
  · refine ⟨some ⟨g, 0, none⟩, cap, rfl, hn, hnc, hm, fun _ => ⟨g, 0, rfl, (Array.getElem?_eq_some_iff.1 hg).1, fun i x hi => ?_⟩⟩
    have := h.cells (g := g) rfl i _ hi
    rw [Addr.add_lit] at this
    exact this
end Go.Proofs.YtmcbpifkclhfiaaDoor
