/-
  Layer 14: the contracts of Copy and of Moved.
  Layer 14: a descriptor built out of letters.
  Layer 14: the contracts of Check and of the reference's Check.
  Layer 14: the contracts of slices.Equal at ints, of Same and of the reference's Same.
  Layer 14: the contract of the reference's Same.
-/
import Derived.Test.YtkfhbngphkobfaaPkLefA
import Derived.Test.YtkfhbngphkobfaaPkNumTwo
import Derived.Test.YtkfhbngphkobfaaPkNumC
import Derived.Laws.CopyOwn
import Derived.BigQuiet
import Derived.Test.YtkfhbngphkobfaaPkSuperM
import Derived.StillTailTactics
namespace Go.Proofs.Ytkfhbngphkobfaa
open Go.RowKit
set_option linter.unusedVariables false
set_option linter.unusedSimpArgs false

/-- A row of its own lies there. -/
theorem rowV_lies {w : World} {g : Nat} {t : TypeId} {cs : List Value} (h : RowV w g t cs) {B : Nat} (hB : g < B) : LiesV w B (some ⟨g, 0, none⟩) cs := fun _ => ⟨g, 0, rfl, hB, fun i v hi => by rw [Nat.zero_add]; exact h.cell hi⟩
/-- The first k slots moved. -/
def mvK (l : List Int) (f g : Int) (k : Nat) : List Int := (l.take k).map (fun s => if s = f then g else s) ++ l.drop k
theorem mvK_zero (l : List Int) (f g : Int) : mvK l f g 0 = l := by simp [mvK]
theorem mvK_all (l : List Int) (f g : Int) : mvK l f g l.length = l.map (fun s => if s = f then g else s) := by simp [mvK]
theorem mvK_length (l : List Int) (f g : Int) (k : Nat) : (mvK l f g k).length = l.length := by simp [mvK]; omega
theorem mvK_at {l : List Int} {f g : Int} {k : Nat} {s : Int} (h : l[k]? = some s) : (mvK l f g k)[k]? = some s := by
  have hk := (List.getElem?_eq_some_iff.1 h).1
  rw [mvK, List.getElem?_append_right (by simp; omega)]
  simp only [List.length_map, List.length_take]
  rw [List.getElem?_drop, show k + (k - min k l.length) = k by omega, h]
theorem mvK_step {l : List Int} {f g : Int} {k : Nat} {s : Int} (h : l[k]? = some s) : mvK l f g (k + 1) = (mvK l f g k).set k (if s = f then g else s) := by
  have hk := (List.getElem?_eq_some_iff.1 h).1
  have hd : l.drop k = s :: l.drop (k + 1) := by
    rw [List.drop_eq_getElem_cons hk]
    congr 1
    rw [List.getElem?_eq_getElem hk] at h
    injection h
  unfold mvK
  rw [movedL_take h, hd, List.set_append_right _ _ (by simp; omega)]
  simp only [List.length_map, List.length_take]
  rw [show k - min k l.length = 0 by omega, List.set_cons_zero, List.append_assoc]
  rfl
theorem mvK_same {l : List Int} {f g : Int} {k : Nat} {s : Int} (h : l[k]? = some s) (hs : ¬ s = f) : mvK l f g (k + 1) = mvK l f g k := by
  rw [mvK_step h, if_neg hs]
  apply List.ext_getElem?
  intro i
  rw [List.getElem?_set]
  split
  · rename_i hik
    subst hik
    rw [if_pos (by rw [mvK_length]; exact (List.getElem?_eq_some_iff.1 h).1), mvK_at h]
  · rfl
theorem txc_moved (t : Tx) (x y : Int) (A : Option Addr) (c : Nat) : txc (movedL t x y) A c = txc t A c := by simp [txc, movedL]
theorem slv_set (l : List Int) (k : Nat) (x : Int) : (slv l).set k (.int .i64 x) = slv (l.set k x) := by simp [slv, List.map_set]
/-- It fits where the next operation is a copy, and nowhere else. -/
theorem at_copy {P : Program} {w : World} {ops : Array Oper} {rest : List Oper} {a : Act} {Q : Exit → Act → World → Prop} {d : Option Tmp} {xs : Array Operand} {ts : Array TypeId} {u : TypeId} {p : String} {af : Array Edge}
    (h : wpList P ops Q (⟨d, .call { callee := .builtin .copy, args := xs, argTypes := ts }, u, p, af, none⟩ :: rest) a w) : wpList P ops Q (⟨d, .call { callee := .builtin .copy, args := xs, argTypes := ts }, u, p, af, none⟩ :: rest) a w := h
theorem splice_all {α : Type} (z : List α) (cs : List α) (h : cs.length = z.length) : splice z 0 cs = cs := by
  unfold splice
  rw [List.take_zero, List.nil_append, List.drop_eq_nil_of_le (by omega), List.append_nil]

set_option maxRecDepth 100000 in
set_option maxHeartbeats 2000000 in
theorem lcopy_any (w : World) (B : Nat) (t : Tx) (A : Option Addr) (c : Nat) (h : LiesV w B A (slv t.slots)) (hB : B ≤ w.heap.size) (hle : t.slots.length ≤ 1000) :
    Calls Try.prog 16 #[.agg (txc t A c).toArray] w fun e w' => ∃ g, e = .returned (.agg (txc t (some ⟨g, 0, none⟩) t.slots.length).toArray) ∧ w.heap.size ≤ g ∧ RowV w' g 3 (slv t.slots) ∧ Below w.heap.size w w' := by
  obtain ⟨i0, hi, hz0, hz1, hz2⟩ := info_parts Try.infoI14
  have Hh := Lib.hid h
  clear h
  go_enter Try.func16, Try.ntmps16
  go_wp2_with ((with_reducible refine at_box 25 ?_); refine box_tx rfl _ rfl t A c rfl ?_)
  intro w1 hr1 hb1 hs1
  go_wp2_with ((with_reducible refine at_alloc 25 ?_); refine alloc_tx rfl rfl ?_)
  intro w2 hr2 hb2 hs2
  have hr12 := hr1.below (by omega) hb2
  have hB2 : Below w.heap.size w w2 := hb1.trans (hb2.mono (by omega))
  obtain ⟨m, hm⟩ : ∃ m, t.slots.length = m := ⟨_, rfl⟩
  have c2 := tx_slots hr12
  rw [hm] at c2 hle
  have Hm := Lib.hid hm
  clear hm
  go_wp2_with (at_make; refine wpList_make_full _ rfl _ _ 23 rfl w2.heap.size 3 i0 (.int .i64 0) 1 Try.underlying23 hi hz0 hz1 _ _ _ _ m rfl rfl rfl rfl (by rw [hz2]; omega) (by unfold maxLen; omega) (Nat.le_refl _) ?_)
  intro w3 hown hgrow
  have hz2' : w2.heap.size = w.heap.size + 2 := by omega
  have hb3 : Below w2.heap.size w2 w3 := ⟨hgrow.os, hgrow.tape, hgrow.output, hgrow.size, fun k hk => hgrow.block k hk (by simp)⟩
  have hR3 : RowV w3 (w.heap.size + 1 + 1) 3 (madeCells #[Value.int .i64 0] m).toList := row_of_full hown
  have hr13 := hr12.below (by omega) hb3
  have hr23 := hr2.below (by omega) hb3
  have hB3 : Below w.heap.size w w3 := hB2.trans (hb3.mono (by omega))
  have hlz : (madeCells #[Value.int .i64 0] m).toList.length = m := by rw [toList_madeCells_one, List.length_replicate]
  have hlr := hR3.lt
  obtain ⟨N, hN⟩ : ∃ N, w.heap.size = N := ⟨_, rfl⟩
  have Hl3 := Lib.hid (Hh.out.below (hB3.mono hB))
  have HB3 := Lib.hid hB3
  have c3 := tx_slots hr13
  rw [Hm.out] at c3
  have hsl : (slv t.slots).length = m := by rw [slv_length, Hm.out]
  obtain ⟨cz, hcz⟩ : ∃ cz, (madeCells #[Value.int .i64 0] m).toList = cz := ⟨_, rfl⟩
  obtain ⟨cs, hcs⟩ : ∃ cs, slv t.slots = cs := ⟨_, rfl⟩
  have Hcs := Lib.hid hcs
  rw [hcz] at hR3 hlz
  rw [hcs] at hsl Hl3
  have Hone : Hid (∀ v ∈ cs, v.oneCell' = true) := by rw [← hcs]; exact slv_one _
  rw [hN] at c3 hR3 hr13 hr23 hlr ⊢
  clear hown hgrow hr1 hr2 hr12 hb1 hb2 hb3 hB2 hB3 c2 hcs hcz hs1 hs2
  have Hsrc : Hid (0 < cs.length → ∃ ad, A = some ad ∧ ∀ j v, cs[j]? = some v → w3.cell? (ad.add j) = some v) := by
    show _ → _
    intro hp
    obtain ⟨b, o, hA, _, hc⟩ := Hl3.out (by rintro rfl; simp at hp)
    refine ⟨_, hA, fun j v hj => ?_⟩
    rw [Addr.add_lit]
    exact hc j v hj
  have hsl' := Lib.hid hsl
  clear hsl
  go_wp2_with ((with_reducible refine at_copy ?_); refine wpList_copy_splice rfl _ _ 23 23 rfl 3 Try.underlying23 (by kernel_rfl) _ _ _ _ _ _ rfl rfl (N + 1 + 1) 0 cz 3 hR3 cs (by rw [hsl'.out]; exact (Nat.min_self _).symm) (fun hp => ⟨rfl, Hsrc.out hp⟩) (by rw [hsl'.out, hlz]; omega) Hone.out (N + 1 + 1) w3 (Below.refl _ _) (Nat.le_refl _) ?_)
  intro w4 HR4 hb4
  have hR4 : RowV w4 (N + 1 + 1) 3 cs := by
    have := HR4.out
    rw [splice_all _ _ (by rw [hsl'.out, hlz])] at this
    exact this
  have hr14 := hr13.below (by omega) hb4
  have hr24 := hr23.below (by omega) hb4
  have hz4 := hb4.size
  have HB4 : Hid (Below w.heap.size w w4) := HB3.out.trans (hb4.mono (by omega))
  have HR4' := Lib.hid hR4
  clear HR4 hR3 hr13 hr23 hb4 c3 hR4
  go_wp2_with ((with_reducible refine at_store 23 ?_); refine store_slots rfl _ _ rfl N (some ⟨N + 1 + 1, 0, none⟩) t.slots m rfl (by rw [Hm.out]; rfl) hr14 ?_)
  intro w5 hr5 hg5 hs5
  have hr5' : RowV w5 N 25 (txc t (some ⟨N + 1 + 1, 0, none⟩) m) := hr5
  have hr25 := hr24.keep hg5 (fun e => by injection e with e; omega)
  have hR5 := Lib.hid (HR4'.out.keep hg5 (fun e => by injection e with e; omega))
  have HB5 : Hid (Below w.heap.size w w5) := below_grown HB4.out hg5 (by omega) (by have := HB4.out.size; omega)
  clear hr14 hr24 HR4' HB4 HB3 hr5
  go_wp2_with first
    | ((with_reducible refine at_load 25 ?_); refine load_tx rfl _ rfl N rfl hr5' ?_)
    | ((with_reducible refine at_store 25 ?_); refine store_tx rfl _ _ rfl (N + 1) t (some ⟨N + 1 + 1, 0, none⟩) m rfl rfl hr25 (txc_length _ _ _) ?_)
  intro w6 hr6 hg6 hs6
  have hR6 := hR5.out.keep hg6 (fun e => by injection e with e; omega)
  have HB6 : Hid (Below w.heap.size w w6) := below_grown HB5.out hg6 (by omega) (by have := HB5.out.size; omega)
  go_wp2_with fail
  refine bodyPost_ret (results_cell_row (fn := Try.f16) rfl _ _ (N + 1) 25 _ (0, 0) _ rfl hr6 Try.underlying25 rfl (txc_info' _ _ _)) rfl ⟨N + 1 + 1, ?_, by omega, by rw [Hcs.out]; exact hR6, HB6.out⟩
  rw [Hm.out]

set_option maxRecDepth 100000 in
set_option maxHeartbeats 2000000 in
theorem lmoved_any (w : World) (B : Nat) (t : Tx) (A : Option Addr) (c : Nat) (x y : Int) (h : LiesV w B A (slv t.slots)) (hB : B ≤ w.heap.size) (hle : t.slots.length ≤ 1000) :
    Calls Try.prog 10 #[.agg (txc t A c).toArray, .int .i64 x, .int .i64 y] w fun e w' => ∃ g, e = .returned (.tuple #[.agg (txc (movedL t x y) (some ⟨g, 0, none⟩) t.slots.length).toArray, .bool (metL t x)]) ∧ w.heap.size ≤ g ∧ RowV w' g 3 (slv (movedL t x y).slots) ∧ Below w.heap.size w w' := by
  have Hh := Lib.hid h
  clear h
  go_enter Try.func10, Try.ntmps10
  go_wp2_with ((with_reducible refine at_box 25 ?_); refine box_tx rfl _ rfl t A c rfl ?_)
  intro w1 hr1 hb1 hs1
  go_wp2_with ((with_reducible refine at_alloc 25 ?_); refine alloc_tx rfl rfl ?_)
  intro w2 hr2 hb2 hs2
  have hr12 := hr1.below (by omega) hb2
  have hB2 : Below w.heap.size w w2 := hb1.trans (hb2.mono (by omega))
  go_wp2_with ((with_reducible refine at_load 25 ?_); refine load_tx rfl _ rfl w.heap.size rfl hr12 ?_)
  refine (lcopy_any w2 B t A c (Hh.out.below (hB2.mono hB)) (by omega) hle).mono ?_
  rintro e w3 ⟨G, rfl, hG, hR3, hb3⟩
  have hr13 := hr12.below (by omega) hb3
  have hr23 := hr2.below (by omega) hb3
  have HB3 : Hid (Below w.heap.size w w3) := hB2.trans (hb3.mono (by omega))
  obtain ⟨m, hm⟩ : ∃ m, t.slots.length = m := ⟨_, rfl⟩
  rw [hm] at hle ⊢
  have Hm := Lib.hid hm
  have hG2 : w.heap.size + 2 ≤ G := by omega
  clear hr12 hB2 hr1 hr2 hb1 hb2 hb3 hm hs1 hs2 hG
  obtain ⟨N, hN⟩ : ∃ N, w.heap.size = N := ⟨_, rfl⟩
  rw [hN] at hr13 hr23 hG2 ⊢
  go_wp2_with ((with_reducible refine at_store 25 ?_); refine store_tx rfl _ _ rfl N t (some ⟨G, 0, none⟩) m rfl rfl hr13 (txc_length _ _ _) ?_)
  intro w4 hr4 hg4 hs4
  have hr24 := hr23.keep hg4 (fun e => by injection e with e; omega)
  have hR4 := hR3.keep hg4 (fun e => by injection e with e; omega)
  have HB4 : Hid (Below w.heap.size w w4) := below_grown HB3.out hg4 (by omega) HB3.out.size
  have hGlt := hR4.lt
  clear hr13 hr23 hR3 hg4 HB3
  have c2 := tx_slots hr4
  rw [Hm.out] at c2
  have Hr4 := Lib.hid hr4
  have Hr24 := Lib.hid hr24
  have HR4 : Hid (RowV w4 G 3 (slv (mvK t.slots x y 0))) := by rw [mvK_zero]; exact hR4
  have Hrefl : Hid (w4.grownBy w4 (some G)) := World.grownBy.refl _ _
  clear hr4 hr24 hR4
  go_wp2_with fail
  clear c2
  go_loopw [8, 16] (fun u v W => ∃ k : Nat, k ≤ m ∧ v = .int .i64 k ∧ u = .bool ((t.slots.take k).any fun s => decide (s = x)) ∧ Hid (RowV W G 3 (slv (mvK t.slots x y k))) ∧ Hid (w4.grownBy W (some G))) (fun _ v _ => m - (intOf v).toNat)
  case atStart => exact ⟨0, Nat.zero_le _, rfl, rfl, HR4, Hrefl⟩
  case round =>
    obtain ⟨k, hk, rfl, rfl, HR, HG⟩ := hrel
    clear HR4 Hrefl
    have c2 := tx_slots (Hr4.out.keep HG.out (fun e => by injection e with e; omega))
    rw [Hm.out] at c2
    by_cases hlt : k < m
    · obtain ⟨s, hs⟩ : ∃ s, t.slots[k]? = some s := ⟨_, List.getElem?_eq_getElem (by rw [Hm.out]; exact hlt)⟩
      have hc1 : wr.cell? ⟨G, k, none⟩ = some (.int .i64 s) := HR.out.cell (slv_get (mvK_at hs))
      have hf1 := HR.out.frozen k
      have hat := metL_take (f := x) hs
      by_cases hsx : s = x
      · have HR5 : Hid (RowV (wr.setCell ⟨G, k, none⟩ (.int .i64 y)) G 3 (slv (mvK t.slots x y (k + 1)))) := by
          show RowV _ _ _ _
          rw [mvK_step hs, if_pos hsx, ← slv_set]
          exact HR.out.setCell k _
        have HG5 : Hid (w4.grownBy (wr.setCell ⟨G, k, none⟩ (.int .i64 y)) (some G)) := grown_trans' HG.out (grown_setCell wr G k _)
        have Hat : Hid ((t.slots.take (k + 1)).any (fun s => decide (s = x)) = true) := by show _ = _; rw [hat, decide_eq_true hsx, Bool.or_true]
        clear hat HR HG hs
        subst hsx
        go_wp2_with fail
        go_roundw
        all_goals first
          | (simp [intOf]; omega)
          | exact ⟨k + 1, by omega, by go_num, by rw [Hat.out], HR5, HG5⟩
      · have HR5 : Hid (RowV wr G 3 (slv (mvK t.slots x y (k + 1)))) := by
          show RowV _ _ _ _
          rw [mvK_same hs hsx]
          exact HR.out
        have Hat : Hid ((t.slots.take (k + 1)).any (fun s => decide (s = x)) = (t.slots.take k).any (fun s => decide (s = x))) := by show _ = _; rw [hat, decide_eq_false hsx, Bool.or_false]
        clear hat HR hs
        go_wp2_with fail
        go_roundw
        all_goals first
          | (simp [intOf]; omega)
          | exact ⟨k + 1, by omega, by go_num, by rw [Hat.out], HR5, HG⟩
    · obtain rfl : k = m := by omega
      have hr4 := Hr4.out.keep HG.out (fun e => by injection e with e; omega)
      have hr24 := Hr24.out.keep HG.out (fun e => by injection e with e; omega)
      have HRm : Hid (RowV wr G 3 (slv (movedL t x y).slots)) := by
        have := HR.out
        rw [← Hm.out, mvK_all] at this
        exact this
      have Hmet : Hid ((t.slots.take k).any (fun s => decide (s = x)) = metL t x) := by show _ = _; rw [List.take_of_length_le (by rw [Hm.out]; exact Nat.le_refl _)]; rfl
      have HBw : Hid (Below w.heap.size w wr) := below_grown HB4.out HG.out (by omega) HB4.out.size
      clear HR
      go_wp2_with first
        | ((with_reducible refine at_load 25 ?_); refine load_tx rfl _ rfl N rfl hr4 ?_)
        | ((with_reducible refine at_store 25 ?_); refine store_tx rfl _ _ rfl (N + 1) t (some ⟨G, 0, none⟩) k rfl rfl hr24 (txc_length _ _ _) ?_)
      intro w6 hr6 hg6 hs6
      go_wp2_with fail
      have hR6 := HRm.out.keep hg6 (fun e => by injection e with e; omega)
      have HB6 : Hid (Below w.heap.size w w6) := below_grown HBw.out hg6 (by omega) HBw.out.size
      exact bodyPost_ret (results_cell_tmp (fn := Try.f10) rfl _ _ (N + 1) 25 _ (0, 0) _ rfl _ rfl hr6 Try.underlying25 rfl (txc_info' _ _ _)) rfl ⟨G, by rw [txc_moved, ← Hmet.out, Hm.out]; rfl, by omega, hR6, HB6.out⟩
end Go.Proofs.Ytkfhbngphkobfaa
namespace Go.Proofs.Ytkfhbngphkobfaa
open Go.RowKit
set_option linter.unusedVariables false
set_option linter.unusedSimpArgs false

section
variable {a a' : List Value} {s p b : Value}
theorem tput_bound (h : a.length = 32) (b' : Value) : putL (a ++ [s, p, b]) 34 [b'] = a ++ [s, p, b'] := by
  have := putL_mid [b'] (a ++ [s, p]) [b] [] rfl
  rw [List.length_append, h] at this
  simpa using this
theorem tput_slots (h : a.length = 32) (p' : Value) : putL (a ++ [s, p, b]) 33 [p'] = a ++ [s, p', b] := by
  have := putL_mid [p'] (a ++ [s]) [p] [b] rfl
  rw [List.length_append, h] at this
  simpa using this
theorem tput_size (h : a.length = 32) (s' : Value) : putL (a ++ [s, p, b]) 32 [s'] = a ++ [s', p, b] := by
  have := putL_mid [s'] a [s] [p, b] rfl
  rw [h] at this
  simpa using this
theorem tput_adr (h : a.length = 32) (h' : a'.length = 32) : putL (a ++ [s, p, b]) 0 a' = a' ++ [s, p, b] := by
  have := putL_mid a' [] a [s, p, b] (by rw [h, h'])
  simpa using this
end
theorem Try.placeT14 : (Try.prog.underlying 25).bind (fun d => match d with | .struct fields => fields.toList.mapM (fun f => (Try.prog.info? f.type).map fun i => (f.offset, i.size)) | _ => none) = some [(0, 32), (32, 1), (33, 1), (34, 1)] := by kernel_rfl
theorem tx0_cells : (Value.agg (txc tx0 none 0).toArray).cells = (cells zeroAdr.1 ++ [Value.int .i64 0, Value.slice none 0 0, Value.int .i64 0]).toArray := rfl
theorem adr_cells_len (x : Adr) : (cells x.1).length = 32 := by rw [cells_length, x.2]
/-- With an address, a size and a bound. -/
theorem Try.builtT3 (x : Adr) (s b : Int) : Try.prog.built 25 [(0, .agg (cells x.1).toArray), (1, .int .i64 s), (3, .int .i64 b)] = some (txc ⟨x, s, [], b⟩ none 0).toArray := by
  obtain ⟨it, hi, hz'⟩ := Option.bind_eq_some_iff.1 Try.zeroT14
  obtain ⟨d, hd, hp'⟩ := Option.bind_eq_some_iff.1 Try.placeT14
  cases d <;> simp only at hp' <;> try cases hp'
  rename_i fields
  unfold Program.built
  have hl := adr_cells_len x
  have hz := adr_cells_len zeroAdr
  simp only [hi, hd, hz', hp']
  rw [tx0_cells, fill_part _ _ 0 (.agg (cells x.1).toArray) (cells x.1) _ 0 32 rfl rfl hl (by rw [List.length_append, hz]; simp), tput_adr hz hl,
    fill_part _ _ 1 (.int .i64 s) [.int .i64 s] _ 32 1 rfl rfl rfl (by rw [List.length_append, hl]; simp), tput_size hl,
    fill_part _ _ 3 (.int .i64 b) [.int .i64 b] _ 34 1 rfl rfl rfl (by rw [List.length_append, hl]; simp), tput_bound hl]
  rfl
/-- With a size and a bound. -/
theorem Try.builtT2 (s b : Int) : Try.prog.built 25 [(1, .int .i64 s), (3, .int .i64 b)] = some (txc ⟨zeroAdr, s, [], b⟩ none 0).toArray := by
  obtain ⟨it, hi, hz'⟩ := Option.bind_eq_some_iff.1 Try.zeroT14
  obtain ⟨d, hd, hp'⟩ := Option.bind_eq_some_iff.1 Try.placeT14
  cases d <;> simp only at hp' <;> try cases hp'
  rename_i fields
  unfold Program.built
  have hz := adr_cells_len zeroAdr
  simp only [hi, hd, hz', hp']
  rw [tx0_cells,
    fill_part _ _ 1 (.int .i64 s) [.int .i64 s] _ 32 1 rfl rfl rfl (by rw [List.length_append, hz]; simp), tput_size hz,
    fill_part _ _ 3 (.int .i64 b) [.int .i64 b] _ 34 1 rfl rfl rfl (by rw [List.length_append, hz]; simp), tput_bound hz]
  rfl
/-- With all four. -/
theorem Try.builtT4 (x : Adr) (s b : Int) (A : Option Addr) (l : List Int) (c : Nat) : Try.prog.built 25 [(0, .agg (cells x.1).toArray), (1, .int .i64 s), (2, .slice A l.length c), (3, .int .i64 b)] = some (txc ⟨x, s, l, b⟩ A c).toArray := by
  obtain ⟨it, hi, hz'⟩ := Option.bind_eq_some_iff.1 Try.zeroT14
  obtain ⟨d, hd, hp'⟩ := Option.bind_eq_some_iff.1 Try.placeT14
  cases d <;> simp only at hp' <;> try cases hp'
  rename_i fields
  unfold Program.built
  have hl := adr_cells_len x
  have hz := adr_cells_len zeroAdr
  simp only [hi, hd, hz', hp']
  rw [tx0_cells, fill_part _ _ 0 (.agg (cells x.1).toArray) (cells x.1) _ 0 32 rfl rfl hl (by rw [List.length_append, hz]; simp), tput_adr hz hl,
    fill_part _ _ 1 (.int .i64 s) [.int .i64 s] _ 32 1 rfl rfl rfl (by rw [List.length_append, hl]; simp), tput_size hl,
    fill_part _ _ 2 (.slice A l.length c) [.slice A l.length c] _ 33 1 rfl rfl rfl (by rw [List.length_append, hl]; simp), tput_slots hl,
    fill_part _ _ 3 (.int .i64 b) [.int .i64 b] _ 34 1 rfl rfl rfl (by rw [List.length_append, hl]; simp), tput_bound hl]
  rfl
end Go.Proofs.Ytkfhbngphkobfaa
namespace Go.Proofs.Ytkfhbngphkobfaa
open Go.RowKit
set_option linter.unusedVariables false
set_option linter.unusedSimpArgs false

theorem checkL_size {t : Tx} {n : Int} (h : t.size < 1 ∨ 2048 < t.size) : checkL t n = 15 := by unfold checkL; rw [if_pos h]
theorem checkL_arg {t : Tx} {n : Int} (h : ¬ (t.size < 1 ∨ 2048 < t.size)) (h2 : t.slots.length ≠ countK t.size.toNat) : checkL t n = 1 := by unfold checkL; rw [if_neg h, if_pos h2]
theorem checkL_bound {t : Tx} {n : Int} (h : ¬ (t.size < 1 ∨ 2048 < t.size)) (h2 : t.slots.length = countK t.size.toNat) (h3 : t.bound < 0 ∨ 160 < t.bound) : checkL t n = 2 := by unfold checkL; rw [if_neg h, if_neg (by simpa using h2), if_pos h3]
theorem checkL_bad {t : Tx} {n : Int} (h : ¬ (t.size < 1 ∨ 2048 < t.size)) (h2 : t.slots.length = countK t.size.toNat) (h3 : ¬ (t.bound < 0 ∨ 160 < t.bound)) {k : Nat} {s : Int} (hk : t.slots[k]? = some s) (hs : slotOk n s = false) : checkL t n = 2 := by
  unfold checkL
  rw [if_neg h, if_neg (by simpa using h2), if_neg h3, if_neg (fun hall => ?_)]
  have := List.all_eq_true.1 hall s (List.mem_of_getElem? hk)
  rw [hs] at this
  cases this
theorem checkL_ok {t : Tx} {n : Int} (h : ¬ (t.size < 1 ∨ 2048 < t.size)) (h2 : t.slots.length = countK t.size.toNat) (h3 : ¬ (t.bound < 0 ∨ 160 < t.bound)) (hs : ∀ k < t.slots.length, ∀ s, t.slots[k]? = some s → slotOk n s = true) : checkL t n = 0 := by
  unfold checkL
  rw [if_neg h, if_neg (by simpa using h2), if_neg h3, if_pos]
  rw [List.all_eq_true]
  intro s hm
  obtain ⟨k, hk⟩ := List.mem_iff_getElem?.1 hm
  exact hs k (List.getElem?_eq_some_iff.1 hk).1 s hk

set_option maxRecDepth 100000 in
set_option maxHeartbeats 2000000 in
theorem lcheck_any (w : World) (B : Nat) (t : Tx) (A : Option Addr) (c : Nat) (n : Int) (h : LiesV w B A (slv t.slots)) (hB : B ≤ w.heap.size) :
    Calls Try.prog 12 #[.agg (txc t A c).toArray, .int .i64 n] w fun e w' => e = .returned (.int .i64 (checkL t n)) ∧ Below w.heap.size w w' := by
  have Hh := Lib.hid h
  clear h
  go_enter Try.func12, Try.ntmps12
  go_wp2_with ((with_reducible refine at_box 25 ?_); refine box_tx rfl _ rfl t A c rfl ?_)
  intro w1 hr1 hb1 hs1
  have c1 := tx_size hr1
  have c2 := tx_slots hr1
  have c3 := tx_bound hr1
  have Hb1 := Lib.hid hb1
  by_cases h1 : t.size < 1
  · have e := checkL_size (n := n) (.inl h1)
    go_wp2_with fail
    go_ret
    first | exact ⟨rfl, hb1⟩ | exact ⟨by rw [e]; rfl, hb1⟩
  by_cases h2 : 2048 < t.size
  · have e := checkL_size (n := n) (.inr h2)
    go_wp2_with fail
    go_ret
    first | exact ⟨rfl, hb1⟩ | exact ⟨by rw [e]; rfl, hb1⟩
  have H12 : Hid (¬ (t.size < 1 ∨ 2048 < t.size)) := by show ¬ _; omega
  have Hq : Hid (∀ q, Calls Try.prog 23 #[.int .i64 t.size] (w1.drewN q) fun e w' => e = .returned (.int .i64 ((countK t.size.toNat : Nat) : Int)) ∧ ∃ q', w' = w1.drewN q') := fun q => (kcount_any t.size (w1.drewN q) (by omega) (by omega)).mono fun e w' ⟨h1, h2⟩ => ⟨h1, q, h2.symm⟩
  obtain ⟨m, hm⟩ : ∃ m, t.slots.length = m := ⟨_, rfl⟩
  obtain ⟨q, hqc⟩ : ∃ q, countK t.size.toNat = q := ⟨_, rfl⟩
  have hq8 : q ≤ 8 := by rw [← hqc]; unfold countK; omega
  have Hm := Lib.hid hm
  have Hqc := Lib.hid hqc
  rw [hqc] at Hq
  rw [hm] at c2
  clear hm hqc
  go_wp2_with fail
  go_quiet (exact Hq.out _)
  obtain ⟨w2, hw2⟩ : ∃ w2, w1.drewN nq = w2 := ⟨_, rfl⟩
  have d2 : w2.cell? ⟨w.heap.size, 33, none⟩ = some (.slice A m c) := by rw [← hw2]; exact c2
  have d3 : w2.cell? ⟨w.heap.size, 34, none⟩ = some (.int .i64 t.bound) := by rw [← hw2]; exact c3
  have hb2 : Below w.heap.size w w2 := by rw [← hw2]; exact below_drewN' hb1 nq
  rw [hw2]
  clear c1 c2 c3 hr1 hw2 hb1 Hb1
  by_cases h4 : m = q
  · subst h4
    have Hl : Hid (t.slots.length = countK t.size.toNat) := by show _ = _; rw [Hm.out, Hqc.out]
    by_cases h5 : t.bound < 0
    · have e := checkL_bound (n := n) H12.out Hl.out (.inl h5)
      go_wp2_with fail
      go_ret
      first | exact ⟨rfl, hb2⟩ | exact ⟨by rw [e]; rfl, hb2⟩
    by_cases h6 : 160 < t.bound
    · have e := checkL_bound (n := n) H12.out Hl.out (.inr h6)
      go_wp2_with fail
      go_ret
      first | exact ⟨rfl, hb2⟩ | exact ⟨by rw [e]; rfl, hb2⟩
    have H56 : Hid (¬ (t.bound < 0 ∨ 160 < t.bound)) := by show ¬ _; omega
    have hl2 := Hh.out.below (hb2.mono hB)
    have HL := Lib.hid hl2
    clear hl2
    go_wp2_with fail
    go_loopw [33] (fun v W => ∃ k : Nat, k ≤ m ∧ v = .int .i64 k ∧ Hid (∀ j < k, ∀ s, t.slots[j]? = some s → slotOk n s = true) ∧ W = w2) (fun v _ => m - (intOf v).toNat)
    case atStart => exact ⟨0, Nat.zero_le _, rfl, fun j hj => absurd hj (by omega), rfl⟩
    case round =>
      obtain ⟨k, hk, rfl, HS, rfl⟩ := hrel
      by_cases hlt : k < m
      · obtain ⟨s, hs⟩ : ∃ s, t.slots[k]? = some s := ⟨_, List.getElem?_eq_getElem (by rw [Hm.out]; exact hlt)⟩
        obtain ⟨b1, o1, hA1, _, hc1⟩ := slots_at HL.out hs
        subst hA1
        have Hs := Lib.hid hs
        clear hs
        have hmin : min n 200 = if n ≤ 200 then n else 200 := by rw [Int.min_def]
        by_cases hs0 : s < 0
        · have e := checkL_bad H12.out Hl.out H56.out Hs.out (n := n) (by unfold slotOk; simp; omega)
          go_wp2_with fail
          go_ret
          first | exact ⟨rfl, hb2⟩ | exact ⟨by rw [e]; rfl, hb2⟩
        by_cases hs1 : min n 200 ≤ s
        · have e := checkL_bad H12.out Hl.out H56.out Hs.out (n := n) (by unfold slotOk; simp; intro _ _; split at hmin <;> omega)
          clear hmin
          go_wp2_with fail
          all_goals go_ret
          all_goals first | exact ⟨rfl, hb2⟩ | exact ⟨by rw [e]; rfl, hb2⟩
        have HS2 : Hid (∀ j < k + 1, ∀ s, t.slots[j]? = some s → slotOk n s = true) := by
          show ∀ j < k + 1, _
          intro j hj s' hs'
          rcases Nat.lt_succ_iff_lt_or_eq.1 hj with h | rfl
          · exact HS.out j h s' hs'
          · rw [Hs.out] at hs'
            injection hs' with hs'
            subst hs'
            exact slotOk_iff.2 (by split at hmin <;> omega)
        clear hmin HS
        go_wp2_with fail
        all_goals go_roundw
        all_goals first
          | (simp [intOf]; omega)
          | exact ⟨k + 1, by omega, by go_num, HS2, trivial⟩
      · obtain rfl : k = m := by omega
        have e := checkL_ok H12.out Hl.out H56.out (n := n) (by rw [Hm.out]; exact HS.out)
        go_wp2_with fail
        go_ret
        first | exact ⟨rfl, hb2⟩ | exact ⟨by rw [e]; rfl, hb2⟩
  · have e := checkL_arg (n := n) H12.out (by rw [Hm.out, Hqc.out]; exact h4)
    have hne : ¬ ((m : Int) = (q : Int)) := by omega
    go_wp2_with fail
    go_ret
    first | exact ⟨rfl, hb2⟩ | exact ⟨by rw [e]; rfl, hb2⟩

set_option maxRecDepth 100000 in
set_option maxHeartbeats 2000000 in
theorem rcheck14_any (w : World) (B : Nat) (t : Tx) (A : Option Addr) (c : Nat) (n : Int) (h : LiesV w B A (slv t.slots)) (hB : B ≤ w.heap.size) :
    Calls Try.prog 13 #[.agg (txc t A c).toArray, .int .i64 n] w fun e w' => e = .returned (.int .i64 (checkL t n)) ∧ Below w.heap.size w w' := by
  have Hh := Lib.hid h
  clear h
  go_enter Try.func13, Try.ntmps13
  go_wp2_with ((with_reducible refine at_box 25 ?_); refine box_tx rfl _ rfl t A c rfl ?_)
  intro w1 hr1 hb1 hs1
  have c1 := tx_size hr1
  have c2 := tx_slots hr1
  have c3 := tx_bound hr1
  by_cases h1 : t.size < 1
  · have e := checkL_size (n := n) (.inl h1)
    go_wp2_with fail
    go_ret
    first | exact ⟨rfl, hb1⟩ | exact ⟨by rw [e]; rfl, hb1⟩
  by_cases h2 : 2048 < t.size
  · have e := checkL_size (n := n) (.inr h2)
    go_wp2_with fail
    go_ret
    first | exact ⟨rfl, hb1⟩ | exact ⟨by rw [e]; rfl, hb1⟩
  have H12 : Hid (¬ (t.size < 1 ∨ 2048 < t.size)) := by show ¬ _; omega
  obtain ⟨m, hm⟩ : ∃ m, t.slots.length = m := ⟨_, rfl⟩
  obtain ⟨q, hqc⟩ : ∃ q, countK t.size.toNat = q := ⟨_, rfl⟩
  have hq8 : q ≤ 8 := by rw [← hqc]; unfold countK; omega
  have hquo : (t.size + 255).tdiv 256 = (q : Int) := by
    rw [Int.tdiv_eq_ediv_of_nonneg (by omega), ← hqc]
    unfold countK
    omega
  have hquo2 : (t.size + 255) / 256 = (q : Int) := by rw [← hquo, Int.tdiv_eq_ediv_of_nonneg (by omega)]
  have Hm := Lib.hid hm
  have Hqc := Lib.hid hqc
  rw [hm] at c2
  clear hm hqc
  have hl2 := Hh.out.below (hb1.mono hB)
  have HL := Lib.hid hl2
  clear hl2
  by_cases h4 : m = q
  · subst h4
    have Hl : Hid (t.slots.length = countK t.size.toNat) := by show _ = _; rw [Hm.out, Hqc.out]
    by_cases h5 : t.bound < 0
    · have e := checkL_bound (n := n) H12.out Hl.out (.inl h5)
      go_wp2_with fail
      go_ret
      first | exact ⟨rfl, hb1⟩ | exact ⟨by rw [e]; rfl, hb1⟩
    by_cases h6 : 160 < t.bound
    · have e := checkL_bound (n := n) H12.out Hl.out (.inr h6)
      go_wp2_with fail
      go_ret
      first | exact ⟨rfl, hb1⟩ | exact ⟨by rw [e]; rfl, hb1⟩
    have H56 : Hid (¬ (t.bound < 0 ∨ 160 < t.bound)) := by show ¬ _; omega
    go_wp2_with fail
    go_loopw [5] (fun v W => ∃ k : Nat, k ≤ m ∧ v = .int .i64 k ∧ Hid (∀ j < k, ∀ s, t.slots[j]? = some s → slotOk n s = true) ∧ W = w1) (fun v _ => m - (intOf v).toNat)
    case atStart => exact ⟨0, Nat.zero_le _, rfl, fun j hj => absurd hj (by omega), rfl⟩
    case round =>
      obtain ⟨k, hk, rfl, HS, rfl⟩ := hrel
      by_cases hlt : k < m
      · obtain ⟨s, hs⟩ : ∃ s, t.slots[k]? = some s := ⟨_, List.getElem?_eq_getElem (by rw [Hm.out]; exact hlt)⟩
        obtain ⟨b1, o1, hA1, _, hc1⟩ := slots_at HL.out hs
        subst hA1
        have Hs := Lib.hid hs
        clear hs
        by_cases hs0 : s < 0
        · have e := checkL_bad H12.out Hl.out H56.out Hs.out (n := n) (by unfold slotOk; simp; omega)
          go_wp2_with fail
          go_ret
          first | exact ⟨rfl, hb1⟩ | exact ⟨by rw [e]; rfl, hb1⟩
        by_cases hs1 : 199 < s
        · have e := checkL_bad H12.out Hl.out H56.out Hs.out (n := n) (by unfold slotOk; simp; omega)
          go_wp2_with fail
          go_ret
          first | exact ⟨rfl, hb1⟩ | exact ⟨by rw [e]; rfl, hb1⟩
        by_cases hs2 : n ≤ s
        · have e := checkL_bad H12.out Hl.out H56.out Hs.out (n := n) (by unfold slotOk; simp; omega)
          go_wp2_with fail
          go_ret
          first | exact ⟨rfl, hb1⟩ | exact ⟨by rw [e]; rfl, hb1⟩
        have HS2 : Hid (∀ j < k + 1, ∀ s, t.slots[j]? = some s → slotOk n s = true) := by
          show ∀ j < k + 1, _
          intro j hj s' hs'
          rcases Nat.lt_succ_iff_lt_or_eq.1 hj with h | rfl
          · exact HS.out j h s' hs'
          · rw [Hs.out] at hs'
            injection hs' with hs'
            subst hs'
            exact slotOk_iff.2 (by omega)
        clear HS
        go_wp2_with fail
        go_roundw
        all_goals first
          | (simp [intOf]; omega)
          | exact ⟨k + 1, by omega, by go_num, HS2, trivial⟩
      · obtain rfl : k = m := by omega
        have e := checkL_ok H12.out Hl.out H56.out (n := n) (by rw [Hm.out]; exact HS.out)
        go_wp2_with fail
        go_ret
        first | exact ⟨rfl, hb1⟩ | exact ⟨by rw [e]; rfl, hb1⟩
  · have e := checkL_arg (n := n) H12.out (by rw [Hm.out, Hqc.out]; exact h4)
    have hne : ¬ ((m : Int) = (q : Int)) := by omega
    go_wp2_with fail
    go_ret
    first | exact ⟨rfl, hb1⟩ | exact ⟨by rw [e]; rfl, hb1⟩
end Go.Proofs.Ytkfhbngphkobfaa
namespace Go.Proofs.Ytkfhbngphkobfaa
open Go.RowKit
set_option linter.unusedVariables false
set_option linter.unusedSimpArgs false

theorem upto_step {l m : List Int} {k : Nat} {x : Int} (hl : l[k]? = some x) (hm : m[k]? = some x) (h : ∀ j < k, l[j]? = m[j]?) : ∀ j < k + 1, l[j]? = m[j]? := by
  intro j hj
  rcases Nat.lt_succ_iff_lt_or_eq.1 hj with h1 | rfl
  · exact h j h1
  · rw [hl, hm]
theorem upto_all {l m : List Int} {n : Nat} (hl : l.length = n) (hm : m.length = n) (h : ∀ j < n, l[j]? = m[j]?) : l = m := by
  apply List.ext_getElem?
  intro j
  by_cases hj : j < n
  · exact h j hj
  · rw [List.getElem?_eq_none (by omega), List.getElem?_eq_none (by omega)]
theorem upto_ne {l m : List Int} {k : Nat} {x y : Int} (hl : l[k]? = some x) (hm : m[k]? = some y) (h : x ≠ y) : l ≠ m := by
  rintro rfl
  rw [hl] at hm
  injection hm with hm
  exact h hm

set_option maxRecDepth 100000 in
set_option maxHeartbeats 2000000 in
theorem equal14_any (w : World) (B : Nat) (A A' : Option Addr) (n n' c c' : Nat) (l m : List Int) (h : LiesV w B A (slv l)) (h' : LiesV w B A' (slv m)) (hB : B ≤ w.heap.size) (hn : n = l.length) (hn' : n' = m.length) (hle : n ≤ 1000) (hle' : n' ≤ 1000) :
    Calls Try.prog 24 #[.slice A n c, .slice A' n' c'] w fun e w' => e = .returned (.bool (decide (l = m))) ∧ Below w.heap.size w w' := by
  have Hh := Lib.hid h
  have Hh' := Lib.hid h'
  have Hn := Lib.hid hn
  have Hn' := Lib.hid hn'
  clear h h' hn hn'
  have HB : Hid (Below w.heap.size w w) := Below.refl _ _
  by_cases hnn : n = n'
  · subst hnn
    go_enter Try.func24, Try.ntmps24
    go_wp2_with fail
    go_loopw [13] (fun v W => ∃ k : Nat, k ≤ n ∧ v = .int .i64 k ∧ Hid (∀ j < k, l[j]? = m[j]?) ∧ Hid (Below w.heap.size w W)) (fun v _ => n - (intOf v).toNat)
    case atStart => exact ⟨0, Nat.zero_le _, rfl, fun j hj => absurd hj (by omega), HB⟩
    case round =>
      obtain ⟨k, hk, rfl, HS, HB1⟩ := hrel
      by_cases hlt : k < n
      · obtain ⟨x, hx⟩ : ∃ x, l[k]? = some x := ⟨_, List.getElem?_eq_getElem (by rw [← Hn.out]; exact hlt)⟩
        obtain ⟨y, hy⟩ : ∃ y, m[k]? = some y := ⟨_, List.getElem?_eq_getElem (by rw [← Hn'.out]; exact hlt)⟩
        obtain ⟨b1, o1, hA1, _, hc1⟩ := slots_at (Hh.out.below (HB1.out.mono hB)) hx
        obtain ⟨b2, o2, hA2, _, hc2⟩ := slots_at (Hh'.out.below (HB1.out.mono hB)) hy
        subst hA1 hA2
        have Hx := Lib.hid hx
        have Hy := Lib.hid hy
        clear hx hy
        go_wp2_with fail
        go_quiet (fail)
        have HB2 : Hid (Below w.heap.size w (wr.drewN nq)) := below_drewN' HB1.out nq
        clear hc1 hc2 HB1
        generalize wr.drewN nq = wz at *
        by_cases hxy : x = y
        · have HS2 : Hid (∀ j < k + 1, l[j]? = m[j]?) := upto_step Hx.out (by rw [hxy]; exact Hy.out) HS.out
          subst hxy
          clear HS
          go_wp2_with fail
          go_roundw
          all_goals first
            | (simp [intOf]; omega)
            | exact ⟨k + 1, by omega, by go_num, HS2, HB2⟩
        · have e := decide_eq_false (upto_ne Hx.out Hy.out hxy)
          go_wp2_with fail
          go_ret
          first | exact ⟨rfl, HB2.out⟩ | exact ⟨by rw [e]; rfl, HB2.out⟩
      · obtain rfl : k = n := by omega
        have e := decide_eq_true (upto_all Hn.out.symm Hn'.out.symm HS.out)
        go_wp2_with fail
        go_ret
        first | exact ⟨rfl, HB1.out⟩ | exact ⟨by rw [e]; rfl, HB1.out⟩
  · have e : decide (l = m) = false := decide_eq_false (by rintro rfl; exact hnn (Hn.out.trans Hn'.out.symm))
    have hne : ¬ ((n : Int) = (n' : Int)) := by omega
    go_enter Try.func24, Try.ntmps24
    go_wp2_with fail
    go_ret
    first | exact ⟨rfl, HB.out⟩ | exact ⟨by rw [e]; rfl, HB.out⟩

theorem tx_eq_iff (t u : Tx) : t = u ↔ t.adr = u.adr ∧ t.size = u.size ∧ t.bound = u.bound ∧ t.slots = u.slots := by
  obtain ⟨a, s, l, b⟩ := t
  obtain ⟨a', s', l', b'⟩ := u
  simp only [Tx.mk.injEq]
  constructor
  · rintro ⟨h1, h2, h3, h4⟩; exact ⟨h1, h2, h4, h3⟩
  · rintro ⟨h1, h2, h4, h3⟩; exact ⟨h1, h2, h3, h4⟩

instance decTx : DecidableEq Tx := fun t u => decidable_of_iff _ (tx_eq_iff t u).symm
/-- Are two alike? -/
def sameT (t u : Tx) : Bool := decide (t = u)
theorem sameT_no {t u : Tx} (h : ¬ (t.adr = u.adr ∧ t.size = u.size ∧ t.bound = u.bound ∧ t.slots = u.slots)) : sameT t u = false := decide_eq_false (fun e => h ((tx_eq_iff t u).1 e))
theorem sameT_slots {t u : Tx} (h1 : t.adr = u.adr) (h2 : t.size = u.size) (h3 : t.bound = u.bound) : sameT t u = decide (t.slots = u.slots) := by
  unfold sameT
  rw [Bool.eq_iff_iff, decide_eq_true_eq, decide_eq_true_eq, tx_eq_iff]
  exact ⟨fun h => h.2.2.2, fun h => ⟨h1, h2, h3, h⟩⟩

set_option maxRecDepth 100000 in
set_option maxHeartbeats 2000000 in
theorem lsame_any (w : World) (B : Nat) (t u : Tx) (A A' : Option Addr) (c c' : Nat) (h : LiesV w B A (slv t.slots)) (h' : LiesV w B A' (slv u.slots)) (hB : B ≤ w.heap.size) (hle : t.slots.length ≤ 1000) (hle' : u.slots.length ≤ 1000) :
    Calls Try.prog 14 #[.agg (txc t A c).toArray, .agg (txc u A' c').toArray] w fun e w' => e = .returned (.bool (sameT t u)) ∧ Below w.heap.size w w' := by
  have Hh := Lib.hid h
  have Hh' := Lib.hid h'
  clear h h'
  go_enter Try.func14, Try.ntmps14
  go_wp2_with ((with_reducible refine at_box 25 ?_); refine box_tx rfl _ rfl t A c rfl ?_)
  intro w1 hr1 hb1 hs1
  go_wp2_with ((with_reducible refine at_box 25 ?_); refine box_tx rfl _ rfl u A' c' rfl ?_)
  intro w2 hr2 hb2 hs2
  have hr12 := hr1.below (by omega) hb2
  have hB2 : Below w.heap.size w w2 := hb1.trans (hb2.mono (by omega))
  have c1 := tx_size hr12
  have c2 := tx_slots hr12
  have c3 := tx_bound hr12
  have d1 := tx_size hr2
  have d2 := tx_slots hr2
  have d3 := tx_bound hr2
  have HB2 := Lib.hid hB2
  have hz : w.heap.size + 1 < w2.heap.size := by omega
  obtain ⟨N, hN⟩ : ∃ N, w.heap.size = N := ⟨_, rfl⟩
  rw [hN] at hr12 hr2 c1 c2 c3 d1 d2 d3 ⊢
  clear hr1 hb1 hs1 hb2 hs2 hB2
  by_cases ha : t.adr = u.adr
  rotate_left
  · have e := sameT_no (t := t) (u := u) (fun h => ha h.1)
    have hd := decide_eq_false ha
    clear ha
    go_wp2_with first
      | ((with_reducible refine at_load 22 ?_); refine load_adr rfl _ rfl N rfl hr12 ?_)
      | ((with_reducible refine at_load 22 ?_); refine load_adr rfl _ rfl (N + 1) rfl hr2 ?_)
      | ((with_reducible refine at_eql 22 ?_); refine eql_adr rfl _ _ _ rfl t.adr u.adr rfl rfl ?_)
    go_ret
    first | exact ⟨rfl, HB2.out⟩ | exact ⟨by rw [e]; rfl, HB2.out⟩
  have hda := decide_eq_true ha
  have Ha := Lib.hid ha
  clear ha
  by_cases hs : t.size = u.size
  rotate_left
  · have e := sameT_no (t := t) (u := u) (fun h => hs h.2.1)
    go_wp2_with first
      | ((with_reducible refine at_load 22 ?_); refine load_adr rfl _ rfl N rfl hr12 ?_)
      | ((with_reducible refine at_load 22 ?_); refine load_adr rfl _ rfl (N + 1) rfl hr2 ?_)
      | ((with_reducible refine at_eql 22 ?_); refine eql_adr rfl _ _ _ rfl t.adr u.adr rfl rfl ?_)
    go_ret
    first | exact ⟨rfl, HB2.out⟩ | exact ⟨by rw [e]; rfl, HB2.out⟩
  by_cases hb : t.bound = u.bound
  rotate_left
  · have e := sameT_no (t := t) (u := u) (fun h => hb h.2.2.1)
    go_wp2_with first
      | ((with_reducible refine at_load 22 ?_); refine load_adr rfl _ rfl N rfl hr12 ?_)
      | ((with_reducible refine at_load 22 ?_); refine load_adr rfl _ rfl (N + 1) rfl hr2 ?_)
      | ((with_reducible refine at_eql 22 ?_); refine eql_adr rfl _ _ _ rfl t.adr u.adr rfl rfl ?_)
    go_ret
    first | exact ⟨rfl, HB2.out⟩ | exact ⟨by rw [e]; rfl, HB2.out⟩
  have e := sameT_slots Ha.out hs hb
  have HE := Lib.hid e
  clear e Ha
  go_wp2_with first
      | ((with_reducible refine at_load 22 ?_); refine load_adr rfl _ rfl N rfl hr12 ?_)
      | ((with_reducible refine at_load 22 ?_); refine load_adr rfl _ rfl (N + 1) rfl hr2 ?_)
      | ((with_reducible refine at_eql 22 ?_); refine eql_adr rfl _ _ _ rfl t.adr u.adr rfl rfl ?_)
  refine (equal14_any w2 B A A' _ _ c c' t.slots u.slots (Hh.out.below (HB2.out.mono hB)) (Hh'.out.below (HB2.out.mono hB)) (by have := HB2.out.size; omega) rfl rfl hle hle').mono ?_
  rintro e w3 ⟨rfl, hb3⟩
  go_wp2_with fail
  go_ret
  exact ⟨by rw [HE.out]; rfl, HB2.out.trans (hb3.mono (by omega))⟩
end Go.Proofs.Ytkfhbngphkobfaa
namespace Go.Proofs.Ytkfhbngphkobfaa
open Go.RowKit
set_option linter.unusedVariables false
set_option linter.unusedSimpArgs false

set_option maxRecDepth 100000 in
set_option maxHeartbeats 2000000 in
theorem rsame14_any (w : World) (B : Nat) (t u : Tx) (A A' : Option Addr) (c c' : Nat) (h : LiesV w B A (slv t.slots)) (h' : LiesV w B A' (slv u.slots)) (hB : B ≤ w.heap.size) (hle : t.slots.length ≤ 1000) (hle' : u.slots.length ≤ 1000) :
    Calls Try.prog 15 #[.agg (txc t A c).toArray, .agg (txc u A' c').toArray] w fun e w' => e = .returned (.bool (sameT t u)) ∧ Below w.heap.size w w' := by
  have Hh := Lib.hid h
  have Hh' := Lib.hid h'
  clear h h'
  go_enter Try.func15, Try.ntmps15
  go_wp2_with ((with_reducible refine at_box 25 ?_); refine box_tx rfl _ rfl t A c rfl ?_)
  intro w1 hr1 hb1 hs1
  go_wp2_with ((with_reducible refine at_box 25 ?_); refine box_tx rfl _ rfl u A' c' rfl ?_)
  intro w2 hr2 hb2 hs2
  have hr12 := hr1.below (by omega) hb2
  have hB2 : Below w.heap.size w w2 := hb1.trans (hb2.mono (by omega))
  have HB2 := Lib.hid hB2
  obtain ⟨m, hm⟩ : ∃ m, t.slots.length = m := ⟨_, rfl⟩
  obtain ⟨q, hq⟩ : ∃ q, u.slots.length = q := ⟨_, rfl⟩
  have c1 := tx_size hr12
  have c2 := tx_slots hr12
  have c3 := tx_bound hr12
  have d1 := tx_size hr2
  have d2 := tx_slots hr2
  have d3 := tx_bound hr2
  rw [hm] at c2 hle
  rw [hq] at d2 hle'
  have Hm := Lib.hid hm
  have Hq := Lib.hid hq
  clear hm hq
  have hz : w.heap.size + 1 < w2.heap.size := by omega
  obtain ⟨N, hN⟩ : ∃ N, w.heap.size = N := ⟨_, rfl⟩
  rw [hN] at hr12 hr2 c1 c2 c3 d1 d2 d3 ⊢
  clear hr1 hb1 hs1 hb2 hs2 hB2
  by_cases ha : t.adr = u.adr
  rotate_left
  · have e := sameT_no (t := t) (u := u) (fun h => ha h.1)
    have hd := decide_eq_false ha
    clear ha
    go_wp2_with first
      | ((with_reducible refine at_load 22 ?_); refine load_adr rfl _ rfl N rfl hr12 ?_)
      | ((with_reducible refine at_load 22 ?_); refine load_adr rfl _ rfl (N + 1) rfl hr2 ?_)
      | ((with_reducible refine at_neqS 22 ?_); refine neq_adr rfl _ _ _ rfl t.adr u.adr rfl rfl ?_)
    go_ret
    first | exact ⟨rfl, HB2.out⟩ | exact ⟨by rw [e]; rfl, HB2.out⟩
  have hda := decide_eq_true ha
  have Ha := Lib.hid ha
  clear ha
  by_cases hs : t.size = u.size
  rotate_left
  · have e := sameT_no (t := t) (u := u) (fun h => hs h.2.1)
    go_wp2_with first
      | ((with_reducible refine at_load 22 ?_); refine load_adr rfl _ rfl N rfl hr12 ?_)
      | ((with_reducible refine at_load 22 ?_); refine load_adr rfl _ rfl (N + 1) rfl hr2 ?_)
      | ((with_reducible refine at_neqS 22 ?_); refine neq_adr rfl _ _ _ rfl t.adr u.adr rfl rfl ?_)
    go_ret
    first | exact ⟨rfl, HB2.out⟩ | exact ⟨by rw [e]; rfl, HB2.out⟩
  by_cases hb : t.bound = u.bound
  rotate_left
  · have e := sameT_no (t := t) (u := u) (fun h => hb h.2.2.1)
    go_wp2_with first
      | ((with_reducible refine at_load 22 ?_); refine load_adr rfl _ rfl N rfl hr12 ?_)
      | ((with_reducible refine at_load 22 ?_); refine load_adr rfl _ rfl (N + 1) rfl hr2 ?_)
      | ((with_reducible refine at_neqS 22 ?_); refine neq_adr rfl _ _ _ rfl t.adr u.adr rfl rfl ?_)
    go_ret
    first | exact ⟨rfl, HB2.out⟩ | exact ⟨by rw [e]; rfl, HB2.out⟩
  by_cases hmq : m = q
  rotate_left
  · have e := sameT_no (t := t) (u := u) (fun h => hmq (by rw [← Hm.out, ← Hq.out, h.2.2.2]))
    have hne : ¬ ((m : Int) = (q : Int)) := by omega
    go_wp2_with first
      | ((with_reducible refine at_load 22 ?_); refine load_adr rfl _ rfl N rfl hr12 ?_)
      | ((with_reducible refine at_load 22 ?_); refine load_adr rfl _ rfl (N + 1) rfl hr2 ?_)
      | ((with_reducible refine at_neqS 22 ?_); refine neq_adr rfl _ _ _ rfl t.adr u.adr rfl rfl ?_)
    go_ret
    first | exact ⟨rfl, HB2.out⟩ | exact ⟨by rw [e]; rfl, HB2.out⟩
  subst hmq
  have e := sameT_slots Ha.out hs hb
  have HE := Lib.hid e
  clear e Ha
  go_wp2_with first
    | ((with_reducible refine at_load 22 ?_); refine load_adr rfl _ rfl N rfl hr12 ?_)
    | ((with_reducible refine at_load 22 ?_); refine load_adr rfl _ rfl (N + 1) rfl hr2 ?_)
    | ((with_reducible refine at_neqS 22 ?_); refine neq_adr rfl _ _ _ rfl t.adr u.adr rfl rfl ?_)
  have Hr12 := Lib.hid hr12
  have Hr2 := Lib.hid hr2
  have Hrefl : Hid (Below w2.heap.size w2 w2) := Below.refl _ _
  clear c1 c2 c3 d1 d2 d3 hr12 hr2
  go_loopw [5] (fun v W => ∃ k : Nat, k ≤ m ∧ v = .int .i64 k ∧ Hid (∀ j < k, t.slots[j]? = u.slots[j]?) ∧ Hid (Below w2.heap.size w2 W)) (fun v _ => m - (intOf v).toNat)
  case atStart => exact ⟨0, Nat.zero_le _, rfl, fun j hj => absurd hj (by omega), Hrefl⟩
  case round =>
    obtain ⟨k, hk, rfl, HS, HB1⟩ := hrel
    have c2 := tx_slots (Hr12.out.below (by omega) HB1.out)
    have d2 := tx_slots (Hr2.out.below (by omega) HB1.out)
    rw [Hm.out] at c2
    rw [Hq.out] at d2
    have HBw : Hid (Below w.heap.size w wr) := HB2.out.trans (HB1.out.mono (by omega))
    by_cases hlt : k < m
    · obtain ⟨x, hx⟩ : ∃ x, t.slots[k]? = some x := ⟨_, List.getElem?_eq_getElem (by rw [Hm.out]; exact hlt)⟩
      obtain ⟨y, hy⟩ : ∃ y, u.slots[k]? = some y := ⟨_, List.getElem?_eq_getElem (by rw [Hq.out]; exact hlt)⟩
      obtain ⟨b1, o1, hA1, _, hc1⟩ := slots_at (Hh.out.below (HBw.out.mono hB)) hx
      obtain ⟨b2, o2, hA2, _, hc2⟩ := slots_at (Hh'.out.below (HBw.out.mono hB)) hy
      subst hA1 hA2
      have Hx := Lib.hid hx
      have Hy := Lib.hid hy
      clear hx hy
      go_wp2_with fail
      go_quiet (fail)
      have HB3 : Hid (Below w2.heap.size w2 (wr.drewN nq)) := below_drewN' HB1.out nq
      have HBw3 : Hid (Below w.heap.size w (wr.drewN nq)) := below_drewN' HBw.out nq
      clear hc1 hc2 HB1 HBw c2 d2
      generalize wr.drewN nq = wz at *
      by_cases hxy : x = y
      · have HS2 : Hid (∀ j < k + 1, t.slots[j]? = u.slots[j]?) := upto_step Hx.out (by rw [hxy]; exact Hy.out) HS.out
        subst hxy
        clear HS
        go_wp2_with fail
        go_roundw
        all_goals first
          | (simp [intOf]; omega)
          | exact ⟨k + 1, by omega, by go_num, HS2, HB3⟩
      · have e := decide_eq_false (upto_ne Hx.out Hy.out hxy)
        go_wp2_with fail
        go_ret
        exact ⟨by rw [HE.out, e]; rfl, HBw3.out⟩
    · obtain rfl : k = m := by omega
      have e := decide_eq_true (upto_all Hm.out Hq.out HS.out)
      go_wp2_with fail
      go_ret
      exact ⟨by rw [HE.out, e]; rfl, HBw.out⟩
end Go.Proofs.Ytkfhbngphkobfaa
