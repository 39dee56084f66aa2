/-
  Layer 14: the reference's num; what lives while the reference reads a descriptor out of a sector.
-/
import Derived.Test.YtkfhbngphkobfaaPkLefJ
import Derived.Test.YtkfhbngphkobfaaPkLefH
import Derived.Test.YtkfhbngphkobfaaPkLefD
import Derived.Test.YtkfhbngphkobfaaPkNumTwo
import Derived.BigQuiet
import Derived.Deep.QuietTactic
namespace Go.Proofs.Ytkfhbngphkobfaa
open Go.RowKit
set_option linter.unusedVariables false
set_option linter.unusedSimpArgs false

set_option maxRecDepth 100000 in
set_option maxHeartbeats 1000000 in
theorem rnum14_any (w : World) (x : Sec) (i : Nat) (hi : i + 1 < 256) :
    Calls Try.prog 26 #[.agg x.cs.toArray, .int .i64 (i : Int)] w fun e w' => e = .returned (.int .i64 (numAt x.1 i 2 : Nat)) ∧ Below w.heap.size w w' := by
  obtain ⟨y, hy⟩ : ∃ y, x.1[i]? = some y := ⟨_, List.getElem?_eq_getElem (by rw [x.2]; omega)⟩
  obtain ⟨z, hz⟩ : ∃ z, x.1[i + 1]? = some z := ⟨_, List.getElem?_eq_getElem (by rw [x.2]; omega)⟩
  have Hn := Lib.hid (numAt_two hy hz)
  have Hy := Lib.hid (cells_get hy)
  have Hz := Lib.hid (cells_get hz)
  have hyl := y.toNat_lt
  have hzl := z.toNat_lt
  clear hy hz
  go_enter Try.func26, Try.ntmps26
  go_wp2_with ((with_reducible refine at_box 28 ?_); refine wpList_box_rowV rfl 28 _ rfl x.cs rfl ?_)
  intro w1 hr1 hb1 hs1
  have c0 := hr1.cell Hy.out
  have c1 := hr1.cell Hz.out
  go_wp2_with fail
  go_quiet (fail)
  go_wp2_with fail
  go_ret
  refine ⟨?_, ?_⟩
  · rw [Hn.out]
    go_num
  · exact ⟨hb1.os, hb1.tape, hb1.output, hb1.size, hb1.block⟩
theorem rnum36 (w : World) (x : Sec) : Calls Try.prog 26 #[.agg x.cs.toArray, .int .i64 36] w fun e w' => e = .returned (.int .i64 (numAt x.1 36 2 : Nat)) ∧ Below w.heap.size w w' := rnum14_any w x 36 (by omega)
theorem rnum38 (w : World) (x : Sec) : Calls Try.prog 26 #[.agg x.cs.toArray, .int .i64 38] w fun e w' => e = .returned (.int .i64 (numAt x.1 38 2 : Nat)) ∧ Below w.heap.size w w' := rnum14_any w x 38 (by omega)

/-- The address, its first k bytes read. -/
def adrK (x : Sec) (k : Nat) : Adr := ⟨(List.range 32).map fun i => if i < k then (x.1.drop 4).getD i 0 else 0, by simp⟩
theorem adrK_val (x : Sec) (k : Nat) : (adrK x k).1 = (List.range 32).map fun i => if i < k then (x.1.drop 4).getD i 0 else 0 := rfl
theorem adrK_get (x : Sec) (k : Nat) {i : Nat} (hi : i < 32) : (adrK x k).1[i]? = some (if i < k then (x.1.drop 4).getD i 0 else 0) := by
  rw [adrK_val, List.getElem?_map, List.getElem?_range hi]
  rfl
theorem adrK_zero (x : Sec) : adrK x 0 = zeroAdr := Subtype.ext (by
  apply List.ext_getElem?
  intro i
  by_cases hi : i < 32
  · rw [adrK_get x 0 hi, if_neg (by omega)]
    exact (List.getElem?_replicate_of_lt hi).symm
  · rw [List.getElem?_eq_none (by rw [(adrK x 0).2]; omega), List.getElem?_eq_none (by rw [zeroAdr.2]; omega)])
theorem adrK_all (x : Sec) : adrK x 32 = (candL x).adr := Subtype.ext (by
  apply List.ext_getElem?
  intro i
  by_cases hi : i < 32
  · rw [adrK_get x 32 hi, if_pos hi]
    show _ = ((List.range 32).map fun i => (x.1.drop 4).getD i 0)[i]?
    rw [List.getElem?_map, List.getElem?_range hi]
    rfl
  · rw [List.getElem?_eq_none (by rw [(adrK x 32).2]; omega), List.getElem?_eq_none (by rw [(candL x).adr.2]; omega)])
theorem adrK_step {x : Sec} {k : Nat} {y : UInt8} (hk : k < 32) (hy : x.1[4 + k]? = some y) : (cells (adrK x k).1).set k (.int .u8 (y.toNat : Int)) = cells (adrK x (k + 1)).1 := by
  apply List.ext_getElem?
  intro i
  have hl : (cells (adrK x k).1).length = 32 := by rw [cells_length, (adrK x k).2]
  have hl' : (cells (adrK x (k + 1)).1).length = 32 := by rw [cells_length, (adrK x (k + 1)).2]
  by_cases hi : i < 32
  · rw [List.getElem?_set, cells_get (adrK_get x (k + 1) hi)]
    by_cases hik : k = i
    · subst hik
      rw [if_pos rfl, if_pos (by rw [hl]; exact hk), if_pos (by omega), List.getD_eq_getElem?_getD, List.getElem?_drop, hy]
      rfl
    · rw [if_neg hik, cells_get (adrK_get x k hi)]
      by_cases hlt : i < k
      · rw [if_pos hlt, if_pos (by omega)]
      · rw [if_neg hlt, if_neg (by omega)]
  · rw [List.getElem?_eq_none (by rw [List.length_set, hl]; omega), List.getElem?_eq_none (by rw [hl']; omega)]
theorem txc_step {x : Sec} {k : Nat} {y : UInt8} {s b : Int} (hk : k < 32) (hy : x.1[4 + k]? = some y) : (txc ⟨adrK x k, s, [], b⟩ none 0).set k (.int .u8 (y.toNat : Int)) = txc ⟨adrK x (k + 1), s, [], b⟩ none 0 := by
  have e := adrK_step hk hy
  unfold txc
  rw [List.set_append_left _ _ (by rw [cells_length, (adrK x k).2]; exact hk)]
  rw [e]
theorem slotsAt_length (x : List UInt8) (k : Nat) : (slotsAt x k).length = k := by simp [slotsAt]
theorem slotsAt_step {x : List UInt8} {k : Nat} {y : UInt8} (hy : x[40 + k]? = some y) : slotsAt x (k + 1) = slotsAt x k ++ [((y.toNat : Nat) : Int)] := by
  unfold slotsAt
  rw [List.range_succ, List.map_append]
  congr 1
  show [(((x.drop 40).getD k 0).toNat : Int)] = _
  rw [List.getD_eq_getElem?_getD, List.getElem?_drop, hy]
  rfl

/-- What lives while the slots are read. -/
structure GtAt (w : World) (N M : Nat) (x : Sec) (v : Value) (ls : List Int) (W : World) : Prop where
  box : RowV W N 28 x.cs
  res : RowV W (N + 1) 25 (txc tx0 none 0)
  own : W.ownsRow (M + 1) 3 1 v ls.length (slv ls)
  low : Below N w W
  lt : N + 1 < M
  size : M + 1 ≤ W.heap.size
structure GtMid (w : World) (N M : Nat) (x : Sec) (v : Value) (ls : List Int) (old : Tx) (A' : Option Addr) (c' : Nat) (W : World) : Prop extends GtAt w N M x v ls W where
  old : RowV W M 25 (txc old A' c')
section
variable {w W W' : World} {N M : Nat} {x : Sec} {t old : Tx} {A A' : Option Addr} {c c' : Nat} {v v' : Value} {ls : List Int} {s : Int}
theorem GtAt.alloc (h : GtAt w N M x v ls W) (o : Obj) : GtAt w N M x v ls (W.alloc o) :=
  ⟨h.box.alloc o, h.res.alloc o, h.own.alloc o, h.low.alloc (by have := h.size; have := h.lt; omega) o, h.lt, by have := h.size; simp; omega⟩
theorem GtAt.drew (h : GtAt w N M x v ls W) : GtAt w N M x v ls W.drew := ⟨h.box, h.res, h.own.drew, h.low.drew, h.lt, h.size⟩
theorem GtAt.app (h : GtAt w N M x v ls W) (ho : RowV W M 25 (txc old A' c')) (hg : W.grownBy W' v.ownBlock) (own : W'.ownsRow (M + 1) 3 1 v' (ls.length + 1) (slv ls ++ [.int .i64 s])) : GtMid w N M x v' (ls ++ [s]) old A' c' W' := by
  have hne : ∀ j, j < M + 1 → v.ownBlock ≠ some j := fun j hj e => by have := own_ge h.own j e; omega
  have hlt := h.lt
  refine ⟨⟨h.box.keep hg (hne _ (by omega)), h.res.keep hg (hne _ (by omega)), ?_, h.low.grown hg (by have := h.size; omega) (fun k e => by have := own_ge h.own k e; omega), hlt, Nat.le_trans h.size hg.size⟩, ho.keep hg (hne _ (by omega))⟩
  rw [slv_snoc, List.length_append]
  exact own
theorem GtMid.sto {t2 : Tx} {A2 : Option Addr} {c2 : Nat} (h : GtMid w N M x v ls old A' c' W) (hr : RowV W' M 25 (txc t2 A2 c2)) (hg : W.grownBy W' (some M)) : GtMid w N M x v ls t2 A2 c2 W' := by
  have hlt := h.lt
  refine ⟨⟨h.box.keep hg (fun e => by injection e with e; omega), h.res.keep hg (fun e => by injection e with e; omega), h.own.kept hg ?_, below_grown h.low hg (by omega) (by have := h.size; omega), hlt, Nat.le_trans h.size hg.size⟩, hr⟩
  refine .inr (fun e => ?_)
  have := own_ge h.own M e
  omega
theorem GtMid.alloc (h : GtMid w N M x v ls old A' c' W) (o : Obj) : GtMid w N M x v ls old A' c' (W.alloc o) := ⟨h.toGtAt.alloc o, h.old.alloc o⟩
end
end Go.Proofs.Ytkfhbngphkobfaa
