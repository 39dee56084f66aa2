/-
  From a slice of bytes that came in (as the row's frame tells it) to 'Lies'. No program is named here.
-/
import Derived.Test.YtmcnhcbibcjgnaaPkStr
import Derived.OpenShut
namespace Go.Proofs.Ytmcnhcbibcjgnaa
open Go.RowKit
set_option maxRecDepth 100000

theorem byte_of_wf {n : Int} (h : (Lit.int .u8 n).wf = true) : ((UInt8.ofNat n.toNat).toNat : Int) = n := by
  have hb := bounds_u8 h
  have : (UInt8.ofNat n.toNat).toNat = n.toNat % 256 := by simp
  omega

theorem row_bytes {w : World} {a : Option Addr} {len cap : Nat} {zs : List Int}
    (h : (a = none ∧ len = 0 ∧ cap = 0 ∧ zs = []) ∨
      ∃ x, a = some x ∧ len ≤ cap ∧ cap ≤ maxLen ∧ zs.length = cap ∧ (∀ i, i < zs.length → w.cell? (x.add i) = some (.int .u8 (zs.getD i 0))) ∧ ∀ n ∈ zs, (Lit.int .u8 n).wf = true) :
    ∃ xs : List UInt8, len = xs.length ∧ len ≤ cap ∧ cap ≤ maxLen ∧ Lies w w.heap.size a xs := by
  rcases h with ⟨rfl, rfl, rfl, rfl⟩ | ⟨x, rfl, hl, hm, hz, hc, hw⟩
  · exact ⟨[], rfl, Nat.le_refl _, by unfold maxLen; omega, Lies.nil _ _ _⟩
  · refine ⟨(zs.take len).map fun n => UInt8.ofNat n.toNat, by simp; omega, hl, hm, fun hx => ?_⟩
    have hlen : 0 < len := by
      rcases Nat.eq_zero_or_pos len with h0 | h0
      · subst h0; simp at hx
      · exact h0
    obtain ⟨b, o, rfl, hcell⟩ := ints_at hc (by omega)
    refine ⟨b, o, rfl, World.block_lt_of_cell? w ⟨b, o + 0, none⟩ (hcell 0 (by omega)), fun i y hi => ?_⟩
    rw [List.getElem?_map, Option.map_eq_some_iff] at hi
    obtain ⟨n, hn, rfl⟩ := hi
    rw [List.getElem?_take] at hn
    split at hn
    · have hi' : i < zs.length := (List.getElem?_eq_some_iff.1 hn).1
      rw [hcell i hi', List.getD_eq_getElem?_getD, hn, byte_of_wf (hw n (List.mem_of_getElem? hn))]
      rfl
    · cases hn
end Go.Proofs.Ytmcnhcbibcjgnaa
