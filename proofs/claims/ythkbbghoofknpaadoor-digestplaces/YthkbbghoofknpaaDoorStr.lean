/-
  Bytes converted to a string: the run, wherever the bytes lie. No program is named here.
-/
import Derived.Test.YthkbbghoofknpaaDoorMem
namespace Go.Proofs.YthkbbghoofknpaaDoor
open Go.RowKit

theorem strOfNums_bytes (xs : List UInt8) : strOfNums (xs.map fun x => (x.toNat : Int)) = ⟨xs.toArray⟩ := by
  unfold strOfNums
  rw [List.map_map]
  congr 1
  congr 1
  conv => rhs; rw [← List.map_id xs]
  apply List.map_congr_left
  intro x _
  simp

theorem run_str {P : Program} (src e dst : TypeId) (hs : P.underlying src = some (.slice e)) (he : P.underlying e = some (.int .u8)) (hd : P.underlying dst = some .string)
    {w : World} {B : Nat} {A : Option Addr} {xs : List UInt8} (n c : Nat) (h : Lies w B A xs) (hn : n = xs.length) :
    (convert src dst (.slice A n c)).run P w = .ok (.string ⟨xs.toArray⟩) w := by
  subst hn
  rcases A with _ | a
  · have hx : xs = [] := by
      rcases xs with _ | ⟨x, xs⟩
      · rfl
      · obtain ⟨b, o, e, _⟩ := h (by simp)
        cases e
    subst hx
    rw [run_convert_bytes_nil w src e hs he _ c dst hd]
    rfl
  · by_cases hx : xs = []
    · subst hx
      rw [run_convert_bytes_string w src dst e _ _ c hs he hd]
      rw [run_bytesToString w a ([] : List UInt8).length c [] (run_loadCells_list (P := P) w a [] (fun j v hj => by simp at hj))]
      rfl
    · obtain ⟨b, o, e', _, hc⟩ := h hx
      injection e' with e'
      subst e'
      rw [run_convert_bytes_arg w src e hs he b o xs.length c (xs.map fun x => (x.toNat : Int)) (by simp) (fun i hi => by
        rw [hc i _ (List.getElem?_eq_getElem hi)]
        simp [List.getD, List.getElem?_eq_getElem hi]) dst hd, strOfNums_bytes]
end Go.Proofs.YthkbbghoofknpaaDoor
