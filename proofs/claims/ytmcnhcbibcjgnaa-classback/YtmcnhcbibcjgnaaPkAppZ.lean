/-
  append of k noughts ('append(s, make([]byte, k)...)') onto a row of bytes of the call's own: one law for the walk. No program is named here.
-/
import Derived.Test.YtmcnhcbibcjgnaaPkApp
import Derived.Lib.AppendZerosOnto
namespace Go.Proofs.Ytmcnhcbibcjgnaa
open Go.RowKit

/-- k noughts (a name that nothing takes apart). -/
def noughts (k : Nat) : List UInt8 := List.replicate k 0

theorem zeroCells_bytes (k : Nat) : (Builtin.zeroCells (Value.cells (.int .u8 0)) k).toList = cells (List.replicate k 0) := by
  unfold Builtin.zeroCells cells
  apply List.ext_getElem
  · simp [Value.cells]
  · intro i h1 h2
    simp [Value.cells, Nat.mod_one]

section
variable {P : Program} {w : World}

theorem own_append_zeros {base : Nat} {t tn ty : TypeId} {i : TypeInfo} {kn : IntKind} (ht : P.underlying t = some (.slice 5)) (htn : P.underlying tn = some (.int kn)) (hi : P.info? 5 = some i) (hz : i.zero = some (.int .u8 0)) (h1 : i.size = 1) (h2 : i.bytes = 1)
    {v : Value} {n : Nat} {xs : List UInt8} (h : w.ownsRow base 5 1 v n (cells xs)) (k : Nat) (h0 : 0 < k) (hb : n + k ≤ 140737488355328) (hbase : base ≤ w.heap.size) :
    ∃ v' w', (Builtin.append_ #[t, tn] ty #[v, .int .i64 k]).run P w = .ok v' w' ∧ w'.ownsRow base 5 1 v' (n + k) (cells (xs ++ List.replicate k 0)) ∧ w.grownBy w' v.ownBlock := by
  have hx : xs.length = n := by have := h.1; rw [cells_length] at this; omega
  have hzc := zeroCells_bytes k
  have hlen : (cells (xs ++ List.replicate k 0)).length = (n + k) * 1 := by rw [cells_length]; simp [hx]
  have hmax : n + k ≤ maxLen := by unfold maxLen; omega
  have grown : ∀ (old : Nat), old < n + k → ∀ (row : Option Nat) (cs : Array Value), cs.toList = cells xs →
      (w.drew.alloc (.cells (cs ++ Builtin.zeroCells (Value.cells (.int .u8 0)) k ++ Builtin.zeroCells (Value.cells (.int .u8 0)) (grownCap w (n + k) old 5 - (n + k))) 5)).ownsRow base 5 1
        (.slice (some ⟨w.heap.size, 0, none⟩) (n + k) (grownCap w (n + k) old 5)) (n + k) (cells (xs ++ List.replicate k 0)) ∧
      w.grownBy (w.drew.alloc (.cells (cs ++ Builtin.zeroCells (Value.cells (.int .u8 0)) k ++ Builtin.zeroCells (Value.cells (.int .u8 0)) (grownCap w (n + k) old 5 - (n + k))) 5)) row := by
    intro old ho row cs hcs
    have hge := grownCap_ge w (n + k) old 5
    have hcm : grownCap w (n + k) old 5 ≤ maxLen := grownCap_le_maxLen w (n + k) old 5 hmax
    have hsz : cs.size = n := by rw [← Array.length_toList, hcs, cells_length, hx]
    refine ⟨⟨hlen, .inr ⟨w.heap.size, _, _, rfl, hbase, heap_alloc_new w.drew _, hge, hcm, ?_, ?_⟩⟩, ⟨rfl, rfl, rfl, by simp, fun k hk _ => heap_alloc_old w.drew _ k hk⟩⟩
    · simp only [Array.size_append, size_zeroCells, hsz, Value.cells]
      simp
      omega
    · simp only [Array.toList_append, hcs, hzc, ← cells_append]
      rw [← hlen]
      exact List.take_left
  rcases h.2 with ⟨rfl, rfl⟩ | ⟨g, cap, cur, rfl, hbg, hg, hnc, hcm, hcs, htake⟩
  · have hxn : xs = [] := List.eq_nil_of_length_eq_zero hx
    subst hxn
    have hr := Lib.run_append_nil_zeros (P := P) w t tn ty 5 i (.int .u8 0) .i64 kn ht htn hi hz k h0 (by omega) (by omega) (by rw [h2]; omega)
    have hgr := grown 0 (by omega) (Value.ownBlock (.slice none 0 0)) #[] rfl
    simp only [Nat.zero_add, Array.empty_append] at hgr ⊢
    exact ⟨_, _, hr, hgr.1, hgr.2⟩
  · have holds : ∀ j u, (cells xs)[j]? = some u → w.cell? ((⟨g, 0, none⟩ : Addr).add j) = some u := h.cells (g := g) rfl
    by_cases hroom : n + k ≤ cap
    · have hw : IntKind.i64.wrap (k : Int) = k := by rw [IntKind.wrap_i64]; omega
      have hneg : ¬ ((k : Int) < 0) := by omega
      have hk0 : k ≠ 0 := by omega
      have h48i : ¬ (281474976710656 < (k : Int) * (i.bytes : Int)) := by rw [h2]; omega
      have hfit : n * 1 + (cells (List.replicate k 0)).length ≤ cur.size := by rw [cells_length, List.length_replicate, hcs]; omega
      have hst := run_storeCells_at P g (n * 1) 5 (cells (List.replicate k 0)) 0 cur w hg (by simpa using hfit) (cells_one _)
      simp only [Nat.add_zero, Nat.mul_one] at hst
      have hr : (Builtin.append_ #[t, tn] ty #[.slice (some ⟨g, 0, none⟩) n cap, .int .i64 k]).run P w =
          .ok (.slice (some ⟨g, 0, none⟩) (n + k) cap) (w.setRow g (cur.toList.take n ++ cells (List.replicate k 0) ++ cur.toList.drop (n + (cells (List.replicate k 0)).length)).toArray) := by
        simp [Builtin.append_, run_underlying ht, run_underlying htn, sizeOf, typeInfo, zeroValue, hi, hz, asInt, asIntOf, hw, hneg, h48i, hroom, hzc, h1, hk0, Addr.add_lit, hst]
      refine ⟨_, _, hr, ⟨hlen, .inr ⟨g, cap, _, rfl, hbg, setRow_heap w g cur _ 5 _ hg, hroom, hcm, ?_, ?_⟩⟩, ⟨rfl, rfl, rfl, by simp, fun k _ hk => setRow_other w g k _ (fun e => hk (by simp [Value.ownBlock, e]))⟩⟩
      · simp only [List.size_toArray, List.length_append, List.length_take, List.length_drop, Array.length_toList, cells_length, List.length_replicate]
        omega
      · rw [Nat.mul_one] at htake
        rw [htake, ← cells_append, ← hlen]
        exact List.take_left
    · have hold := run_firstCells_some (P := P) w.drew i.size n ⟨g, 0, none⟩ n cap (cells xs) (by rw [cells_length, h1]; omega) holds
      have hr := Lib.run_append_grow_zeros (P := P) w t tn ty 5 i (.int .u8 0) .i64 kn ht htn hi hz (some ⟨g, 0, none⟩) n cap (cells xs) hold k h0 (by omega) (by omega) (by omega) (by rw [h2]; omega) (growslice_fits (by omega) (by rw [h2]; omega))
      have hgr := grown cap (by omega) (Value.ownBlock (.slice (some ⟨g, 0, none⟩) n cap)) (cells xs).toArray rfl
      exact ⟨_, _, hr, hgr.1, hgr.2⟩

theorem wpList_append_zeros {ops : Array Oper} {rest : List Oper} {o : Oper} {a : Act} {Q : Exit → Act → World → Prop} (hgd : o.guard = none) (s x : Operand) (t tn : TypeId)
    (ho : o.op = .call { callee := .builtin .append, args := #[s, x], argTypes := #[t, tn] }) (base : Nat) (i : TypeInfo) (kn : IntKind)
    (ht : P.underlying t = some (.slice 5)) (htn : P.underlying tn = some (.int kn)) (hi : P.info? 5 = some i) (hz : i.zero = some (.int .u8 0)) (h1 : i.size = 1) (h2 : i.bytes = 1)
    (v : Value) (n : Nat) (xs : List UInt8) (hs : a.eval s = v) (h : w.ownsRow base 5 1 v n (cells xs)) (k : Nat) (hx : a.eval x = .int .i64 k)
    (h0 : 0 < k) (hb : n + k ≤ 140737488355328) (hbase : base ≤ w.heap.size)
    (hK : ∀ v' w', w'.ownsRow base 5 1 v' (n + k) (cells (xs ++ noughts k)) → w.grownBy w' v.ownBlock → wpList P ops Q rest (a.put o.dst v') w') : wpList P ops Q (o :: rest) a w := by
  obtain ⟨v', w', hr, r1, r2⟩ := own_append_zeros (P := P) (ty := o.type) ht htn hi hz h1 h2 h k h0 hb hbase
  exact Lib.wpList_append_run w hgd s x t tn ho _ _ hs hx v' w' hr (hK v' w' r1 r2)
end
end Go.Proofs.Ytmcnhcbibcjgnaa
