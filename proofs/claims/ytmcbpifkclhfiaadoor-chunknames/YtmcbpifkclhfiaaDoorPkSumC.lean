/-
  The contract of (*digest.Hash).Sum.
-/
import Derived.Test.YtmcbpifkclhfiaaDoorPkAddC
namespace Go.Proofs.YtmcbpifkclhfiaaDoor
open Go.RowKit
set_option linter.unusedVariables false

theorem be4_at (x : BitVec 32) {j : Nat} (h : j < 4) : (be4 x)[j]? = some (UInt8.ofNat (x.toNat / 2 ^ (24 - 8 * j))) := by
  have hj : j = 0 ∨ j = 1 ∨ j = 2 ∨ j = 3 := by omega
  have e : be4 x = [UInt8.ofNat (x.toNat / 256 / 256 / 256), UInt8.ofNat (x.toNat / 256 / 256), UInt8.ofNat (x.toNat / 256), UInt8.ofNat x.toNat] := rfl
  rw [e]
  rcases hj with rfl | rfl | rfl | rfl
  · show some _ = some _
    rw [Nat.div_div_eq_div_mul, Nat.div_div_eq_div_mul]
  · show some _ = some _
    rw [Nat.div_div_eq_div_mul]
  · rfl
  · show some _ = some _
    rw [Nat.div_one]
theorem flat4 : ∀ (l : List (BitVec 32)) (i j : Nat), i < l.length → j < 4 → (l.flatMap be4)[4 * i + j]? = (be4 (l.getD i 0#32))[j]?
  | [], i, j, h, _ => by simp at h
  | x :: l, 0, j, _, hj => by
    rw [List.flatMap_cons, List.getElem?_append_left (by rw [be4_length]; omega)]
    simp
  | x :: l, i + 1, j, h, hj => by
    rw [List.flatMap_cons, List.getElem?_append_right (by rw [be4_length]; omega), be4_length, show 4 * (i + 1) + j - 4 = 4 * i + j by omega, flat4 l i j (by simpa using h) hj]
    simp
theorem out_at (s : St) {i j : Nat} (hi : i < 8) (hj : j < 4) : (outB s)[4 * i + j]? = some (UInt8.ofNat ((s.list.getD i 0#32).toNat / 2 ^ (24 - 8 * j))) := by
  unfold outB
  rw [flat4 _ _ _ (by exact hi) hj, be4_at _ hj]
theorem fill_take {xs : List UInt8} {n k : Nat} {x : UInt8} (h : xs[n]? = some x) (hl : xs.length = k) (hn : n < k) : (cells (fill (xs.take n) k)).set n (.int .u8 (x.toNat : Int)) = cells (fill (xs.take (n + 1)) k) := by
  obtain ⟨hk, rfl⟩ := List.getElem?_eq_some_iff.1 h
  have e := fill_set (xs := xs.take n) (k := k) xs[n] (by rw [List.length_take]; omega)
  rw [List.length_take, Nat.min_eq_left (by omega)] at e
  rw [e, List.take_succ_eq_append_getElem hk]
theorem nv_byte (x : BitVec 32) (n : Nat) : nv x / 2 ^ n % 256 = ((UInt8.ofNat (x.toNat / 2 ^ n)).toNat : Int) := by
  have e : nv x / 2 ^ n = ((x.toNat / 2 ^ n : Nat) : Int) := by
    unfold nv
    rw [Int.natCast_ediv, Int.natCast_pow]
    rfl
  rw [e]
  exact byte_of _

/-- Cells out of a block, loaded as one value. -/
theorem wpList_load_mid {P : Program} {ops : Array Oper} {rest : List Oper} {o : Oper} {a : Act} {w : World} {Q : Exit → Act → World → Prop} (hgd : o.guard = none) (ty : TypeId) (x : Operand) (ho : o.op = .load ty x) (b k : Nat) (hx : a.eval x = .pointer (some ⟨b, k, none⟩)) (cs : List Value) (d : TypeDesc)
    (hc : w.rangeAt b k cs) (hu : P.underlying ty = some d) (hd : d.isRow = true) (hi : (P.info? ty).map (·.size) = some cs.length) (h : wpList P ops Q rest (a.put o.dst (.agg cs.toArray)) w) : wpList P ops Q (o :: rest) a w := by
  refine wpList_plain hgd fun K hK => ?_
  have hr := exec_load_mid (P := P) (W := w) (ρ := a.eval) ty x ho b k hx cs d hc hu hd hi
  unfold Oper.wp
  rw [hr]
  exact hK _ _ h
def zero32 : List UInt8 := List.replicate 32 0
def zeroS : List (BitVec 32) := List.replicate 8 0#32
theorem Tryd.zeroA : (Tryd.prog.info? 37).bind (·.zero) = some (.agg (cells zero32).toArray) := by kernel_rfl
theorem Tryd.sizeA : (Tryd.prog.info? 37).map (·.size) = some 32 := by kernel_rfl
theorem Tryd.lenA : Tryd.prog.arrayLen 37 = 32 := by kernel_rfl
theorem Tryd.zeroH : (Tryd.prog.info? 66).bind (·.zero) = some (.agg (wcells zeroS ++ (cells zero64 ++ [Value.int .u64 0])).toArray) := by kernel_rfl
theorem Tryd.sizeH : (Tryd.prog.info? 66).map (·.size) = some 73 := by kernel_rfl
theorem Tryd.sizeS : (Tryd.prog.info? 59).map (·.size) = some 8 := by kernel_rfl
theorem hcells_one (s : St) (blk : List UInt8) (n : Nat) : ((hcells s blk n).toArray).all (·.oneCell') = true := by
  rw [Array.all_eq_true_iff_forall_mem]
  intro v hv
  have hv : v ∈ hcells s blk n := by simpa using hv
  unfold hcells at hv
  rw [List.mem_append, List.mem_append] at hv
  rcases hv with hv | hv | hv
  · exact wcells_one _ v hv
  · exact cells_one _ v hv
  · rw [List.mem_singleton] at hv
    subst hv
    rfl

set_option maxRecDepth 100000 in
set_option maxHeartbeats 2000000 in
theorem sum_any (g : Nat) (m : List UInt8) (w : World) (hT : Tab w) (h : HashAt w g m) (hbd : m.length ≤ 100000000) :
    Calls Tryd.prog 33 #[.pointer (some ⟨g, 0, none⟩)] w fun e w' => e = .returned (.agg (cells (shaB m)).toArray) ∧ Below w.heap.size w w' := by
  obtain ⟨blk, hb64, htk, hrow⟩ := h
  change RowV w g _ (hcells (foldK shaH m (m.length / 64)) blk m.length) at hrow
  have Hb64 := Lib.hid hb64
  have Htk := Lib.hid htk
  have Hsz : Hid ((Tryd.prog.info? 66).map (·.size) = some ((hcells (foldK shaH m (m.length / 64)) blk m.length).toArray).size) := by show _ = _; rw [Tryd.sizeH, List.size_toArray, hcells_length Hb64.out]
  have Hold : Hid (((wcells zeroS ++ (cells zero64 ++ [Value.int .u64 0])).toArray).size = ((hcells (foldK shaH m (m.length / 64)) blk m.length).toArray).size) := by show _ = _; rw [List.size_toArray, List.size_toArray, hcells_length Hb64.out]; rfl
  have hg := hrow.lt
  clear hb64 htk
  go_enter Tryd.func33, Tryd.ntmps33
  go_wp2_with ((with_reducible refine at_alloc 37 ?_); refine wpList_alloc_rowV rfl 37 rfl (cells zero32) Tryd.zeroA ?_)
  intro w1 hr1 hb1 hs1
  have hrow1 := hrow.below hg hb1
  go_wp2_with (first
    | ((with_reducible refine at_load 66 ?_); refine wpList_load_row rfl 66 _ rfl g rfl 66 _ (0, 0) _ hrow1 Tryd.underlying66 rfl Hsz.out ?_)
    | ((with_reducible refine at_alloc 66 ?_); refine wpList_alloc_rowV rfl 66 rfl (wcells zeroS ++ (cells zero64 ++ [Value.int .u64 0])) Tryd.zeroH ?_))
  intro w2 hr2 hb2 hs2
  have hrow2 := (hrow1.below (by omega) hb2).put_other (k := w.heap.size + 1) (by omega) (hcells (foldK shaH m (m.length / 64)) blk m.length).toArray
  have hrE := hr2.put (hcells (foldK shaH m (m.length / 64)) blk m.length)
  have hrR := (hr1.below (by omega) hb2).put_other (k := w.heap.size + 1) (by omega) (hcells (foldK shaH m (m.length / 64)) blk m.length).toArray
  have hB3 : Below w.heap.size w (w2.setRow (w.heap.size + 1) (hcells (foldK shaH m (m.length / 64)) blk m.length).toArray) := below_setRow (hb1.trans (hb2.mono (by omega))) (by omega) _
  have hs3 : (w2.setRow (w.heap.size + 1) (hcells (foldK shaH m (m.length / 64)) blk m.length).toArray).heap.size = w.heap.size + 2 := by simp [hs2]
  refine wpList_store_row rfl 66 _ _ rfl (w.heap.size + 1) _ rfl rfl 66 _ hr2 Hsz.out Hold.out (hcells_one _ _ _) ?_
  generalize w2.setRow (w.heap.size + 1) (hcells (foldK shaH m (m.length / 64)) blk m.length).toArray = w3 at *
  have hE : HashAt w3 (w.heap.size + 1) m := ⟨blk, Hb64.out, Htk.out, hrE⟩
  have hT3 : Tab w3 := hT.below hB3
  have hc72 := hrow2.cell (hcells_size Hb64.out)
  clear hrow hr1 hb1 hs1 hrow1 hr2 hb2 hs2 hrE hrow2 hT
  go_wp2_with fail
  refine (padding_any m.length (by omega) _).mono ?_
  rintro e w4 ⟨A, c, rfl, hk1, hk2, hL4, hb4, hfr⟩
  have hE4 := hE.below hb4
  have hrR4 := hrR.below hrR.lt hb4
  have hB4 := hB3.trans (hb4.mono (by omega))
  have hT4 := hT3.below hb4
  have hs4 := hb4.size
  clear hE hrR hB3 hT3 hb4 hc72
  have hpl : (padOf m.length).length ≤ 72 := by rw [padOf_length]; omega
  go_wp2_with fail
  refine (add_any (w.heap.size + 1) m (padOf m.length) A _ c w4 w4.heap.size (by omega) hT4 hE4 (Nat.le_refl _) hL4 (fun a ha => by have := hfr a ha; omega) rfl hk1 hk2 (by omega)).mono ?_
  rintro e w5 ⟨rfl, hE5, hg5⟩
  have hrR5 := hrR4.keep hg5 (by intro e; injection e with e; omega)
  have hB5 : Below w.heap.size w w5 := hB4.grown hg5 (by omega) (fun k e => by injection e with e; omega)
  have hs5 := hg5.size
  clear hE4 hrR4 hB4 hT4 hL4 hg5 hfr
  have Hst : Hid (shaB m = outB (foldK shaH (m ++ padOf m.length) ((m ++ padOf m.length).length / 64))) := by show _ = _; unfold shaB; rw [padB64_eq]
  obtain ⟨blk5, hb5, htk5, hrow5⟩ := hE5
  generalize foldK shaH (m ++ padOf m.length) ((m ++ padOf m.length).length / 64) = st at *
  go_wp2_with ((with_reducible refine at_alloc 37 ?_); refine wpList_alloc_rowV rfl 37 rfl (cells zero32) Tryd.zeroA ?_)
  intro w6 hr6 hb6 hs6
  have hrow6 := hrow5.below hrow5.lt hb6
  have hrR6 := hrR5.below hrR5.lt hb6
  have hB6 : Below w.heap.size w w6 := hB5.trans (hb6.mono (by omega))
  have hR : w6.rangeAt (w.heap.size + 1) 0 (wcells st.list) := fun j v hj => by
    rw [Nat.zero_add]
    exact hrow6.cell (by rw [List.getElem?_append_left (List.getElem?_eq_some_iff.1 hj).1]; exact hj)
  have Hs8 : Hid ((Tryd.prog.info? 59).map (·.size) = some (wcells st.list).length) := by show _ = _; rw [Tryd.sizeS, wcells_length]; rfl
  have hgS : w.heap.size + 1 < w5.heap.size := by omega
  clear hrow5 hrR5 hB5 hb6 hs6 hs5 hs4 hs3 htk5 hb5
  generalize hgs : w5.heap.size = gS at *
  clear hgs
  go_wp2_with ((with_reducible refine at_load 59 ?_); refine wpList_load_mid rfl 59 _ rfl (w.heap.size + 1) 0 rfl (wcells st.list) _ hR Tryd.underlying59 rfl Hs8.out ?_)
  clear hR hrow6
  go_wp2_with fail
  generalize hN : w.heap.size = N at *
  have HN := Lib.hid hN
  clear hN
  go_loopw [19] (fun i W => ∃ k : Nat, k ≤ 8 ∧ i = .int .i64 k ∧ RowV W gS 37 (cells (fill ((outB st).take (4 * k)) 32)) ∧ RowV W N 37 (cells zero32) ∧ Below N w W) (fun i _ => 8 - (intOf i).toNat)
  case atStart => exact ⟨0, Nat.zero_le _, rfl, hr6, hrR6, hB6⟩
  case round =>
    obtain ⟨k, hk, hik, hrow, hrR, hB⟩ := hrel
    subst hik
    clear hr6 hrR6 hB6
    by_cases hlt : k < 8
    · have hix : ∀ W, (Instr.index 59 (.agg (wcells st.list).toArray) (.int .i64 (k : Int))).run Tryd.prog W = .ok (.int .u32 (nv (st.list.getD k 0#32))) W := fun W => run_index_one Tryd.underlying59 Tryd.plainW Tryd.sizeU hlt (wcells_get (by rw [St.list_length]; exact hlt))
      have Hout : Hid (∀ j, j < 4 → (outB st)[4 * k + j]? = some (UInt8.ofNat ((st.list.getD k 0#32).toNat / 2 ^ (24 - 8 * j)))) := fun j hj => out_at st hlt hj
      generalize st.list.getD k 0#32 = x at *
      have nx := nv_bd x
      have hd : decide ((k : Int) < 8) = true := decide_eq_true (by omega)
      go_wp2_with fail
      clear hix hd
      go_loopw [23] (fun i W => ∃ j : Nat, j ≤ 4 ∧ i = .int .i64 j ∧ RowV W gS 37 (cells (fill ((outB st).take (4 * k + j)) 32)) ∧ RowV W N 37 (cells zero32) ∧ Below N w W) (fun i _ => 4 - (intOf i).toNat)
      case atStart => exact ⟨0, Nat.zero_le _, rfl, hrow, hrR, hB⟩
      case round =>
        obtain ⟨j, hj, hij, hrow1, hrR1, hB1⟩ := hrel
        subst hij
        clear hrow hrR hB
        by_cases hj4 : j < 4
        · obtain ⟨v, hc⟩ : ∃ v, wr.cell? ⟨gS, 4 * k + j, none⟩ = some v := ⟨_, hrow1.cell (List.getElem?_eq_getElem (by rw [cells_length, fill_length (by rw [List.length_take]; omega)]; omega))⟩
          have hfz := hrow1.frozen (4 * k + j)
          have hset := fill_take (k := 32) (Hout.out j hj4) (outB_length st) (by omega)
          have hW := hrow1.setCell (4 * k + j) (.int .u8 ((UInt8.ofNat (x.toNat / 2 ^ (24 - 8 * j))).toNat : Int))
          rw [hset] at hW
          have HW := Lib.hid hW
          have HR := Lib.hid (fun v => hrR1.setCell_other (p := ⟨gS, 4 * k + j, none⟩) (show N ≠ gS by omega) v)
          have HBe := Lib.hid (fun v => hB1.setCell (p := ⟨gS, 4 * k + j, none⟩) (show N ≤ gS by omega) v)
          have Hby := Lib.hid (nv_byte x (24 - 8 * j))
          clear hW hset hrow1 hrR1 hB1
          obtain ⟨p, hp⟩ : ∃ p, 4 * k + j = p := ⟨_, rfl⟩
          obtain ⟨t, ht⟩ : ∃ t, 24 - 8 * j = t := ⟨_, rfl⟩
          have hpi : 4 * (k : Int) + (j : Int) = (p : Int) := by omega
          have hti : 8 * (3 - (j : Int)) = (t : Int) := by omega
          have hp32 : (p : Int) < 32 := by omega
          have ht24 : t ≤ 24 := by omega
          have Hp := Lib.hid hp
          simp only [hp] at hc hfz HW HR HBe
          simp only [ht] at HW Hby
          have hd : decide ((j : Int) < 4) = true := decide_eq_true (by omega)
          have hlA := Tryd.lenA
          clear hp ht
          go_wp2
          go_roundw
          case rel =>
            have e : 4 * k + (j + 1) = p + 1 := by have := Hp.out; omega
            exact ⟨j + 1, by omega, by go_num, by rw [Hby.out, e]; exact HW.out, HR.out _, HBe.out _⟩
          case measure => simp [intOf]; omega
        · obtain rfl : j = 4 := by omega
          have hd : decide (((4 : Nat) : Int) < 4) = false := by decide
          go_wp2
          go_roundw
          case rel => exact ⟨k + 1, by omega, by go_num, hrow1, hrR1, hB1⟩
          case measure => simp [intOf]; omega
    · obtain rfl : k = 8 := by omega
      have hd : decide (((8 : Nat) : Int) < 8) = false := by decide
      have hf : fill ((outB st).take (4 * 8)) 32 = shaB m := by
        rw [Hst.out, List.take_of_length_le (by rw [outB_length]; omega)]
        have := fill_full (xs := outB st)
        rwa [outB_length] at this
      rw [hf] at hrow
      clear hf
      have Hsz2 : Hid ((Tryd.prog.info? 37).map (·.size) = some ((cells (shaB m)).toArray).size) := by show _ = _; rw [Tryd.sizeA, List.size_toArray, cells_length, shaB_length]
      have Hold2 : Hid (((cells zero32).toArray).size = ((cells (shaB m)).toArray).size) := by show _ = _; rw [List.size_toArray, List.size_toArray, cells_length, cells_length, shaB_length]; rfl
      go_wp2_with (first
        | ((with_reducible refine at_load 37 ?_); refine wpList_load_row rfl 37 _ rfl gS rfl 37 _ (0, 0) _ hrow Tryd.underlying37 rfl Hsz2.out ?_)
        | ((with_reducible refine at_store 37 ?_); refine wpList_store_row rfl 37 _ _ rfl N _ rfl rfl 37 _ hrR Hsz2.out Hold2.out (cells_oneCell _) ?_))
      refine bodyPost_ret (results_cell_row (fn := Tryd.f33) rfl _ _ N 37 _ (0, 0) _ rfl (hrR.put (cells (shaB m))) Tryd.underlying37 rfl Hsz2.out) rfl ⟨rfl, ?_⟩
      rw [HN.out]
      exact below_setRow hB (by omega) _
end Go.Proofs.YtmcbpifkclhfiaaDoor
