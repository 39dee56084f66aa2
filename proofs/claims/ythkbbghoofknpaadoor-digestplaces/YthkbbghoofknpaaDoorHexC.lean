/-
  Contracts of digest.Hex and the reference's Hex.
-/
import Derived.Test.YthkbbghoofknpaaDoorBlockW
import Derived.Test.YthkbbghoofknpaaDoorStr
import Derived.Test.YthkbbghoofknpaaDoorApp
import Derived.Deep.RegionHeld3
import Derived.Laws.Cover3
namespace Go.Proofs.YthkbbghoofknpaaDoor
open Go.RowKit
set_option linter.unusedVariables false

/-- The sixteen digits. -/
def digs : ByteArray := ⟨#[48, 49, 50, 51, 52, 53, 54, 55, 56, 57, 97, 98, 99, 100, 101, 102]⟩
theorem digs_at : ∀ n : Nat, n < 16 → digs[n]? = some (dig n) := by decide
theorem run_digs {P : Program} {W : World} (n : Nat) (hn : n < 16) (h9 : P.underlying 9 = some .string) : (Instr.index 9 (.string digs) (.int .u8 (n : Int))).run P W = .ok (.int .u8 ((dig n).toNat : Int)) W := by
  simp [Instr.index, asIntOf, run_underlying h9, digs_at n hn]
theorem low4 (x : UInt8) : bits .and .u8 (x.toNat : Int) 15 = ((x.toNat % 16 : Nat) : Int) := by
  have h := x.toNat_lt
  have := u8_and_nat x.toNat 15 (by omega) (by omega)
  rw [show ((15 : Nat) : Int) = 15 from rfl] at this
  rw [this]
  congr 1
  exact Nat.and_two_pow_sub_one_eq_mod x.toNat 4
theorem hexB_take_succ {a : List UInt8} {k : Nat} {x : UInt8} (h : a[k]? = some x) : hexB (a.take (k + 1)) = hexB (a.take k) ++ [dig (x.toNat / 16), dig (x.toNat % 16)] := by
  obtain ⟨hk, rfl⟩ := List.getElem?_eq_some_iff.1 h
  rw [List.take_succ_eq_append_getElem hk, hexB_append]
  rfl
/-- append, as one operation of a region. -/
theorem wp_append_lies {P : Program} {w : World} {o : Oper} {a : Act} {K : Act → World → Prop} {Q : Exit → Act → World → Prop} (s x : Operand) (t : TypeId)
    (ho : o.op = .call { callee := .builtin .append, args := #[s, x], argTypes := #[t, t] }) (base : Nat) (i : TypeInfo)
    (ht : P.underlying t = some (.slice 5)) (hi : P.info? 5 = some i) (hz : i.zero = some (.int .u8 0)) (h1 : i.size = 1) (h2 : i.bytes = 1)
    (v : Value) (n : Nat) (xs ys : List UInt8) (hs : a.eval s = v) (h : w.ownsRow base 5 1 v n (cells xs)) (B : Nat) (A : Option Addr) (m c : Nat) (hx : a.eval x = .slice A m c)
    (hl : Lies w B A ys) (hm : m = ys.length) (hb : n + m ≤ 140737488355328) (hbase : base ≤ w.heap.size)
    (hK : ∀ v' w', w'.ownsRow base 5 1 v' (n + m) (cells (xs ++ ys)) → w.grownBy w' v.ownBlock → K (a.put o.dst v') w') : o.wp P a w K Q := by
  obtain ⟨v', w', hr, r1, r2⟩ := own_append (P := P) (ty := o.type) (c := c) ht hi hz h1 h2 h hl hm hb hbase
  unfold Oper.wp
  simp [execOp, ho, resolve, invoke, builtin, hs, hx, hr, Result.andThen]
  exact hK v' w' r1 r2
theorem Tryd.plainB : Tryd.prog.plainKey 5 = true := by kernel_rfl
theorem Tryd.sizeA' : (Tryd.prog.info? 24).map (·.size) = some 32 := by kernel_rfl

set_option maxRecDepth 100000 in
set_option maxHeartbeats 1000000 in
theorem hex_any (a : List UInt8) (ha : a.length = 32) (w : World) : Calls Tryd.prog 13 #[.agg (cells a).toArray] w fun e w' => e = .returned (.string ⟨(hexB a).toArray⟩) ∧ Below w.heap.size w w' := by
  obtain ⟨i0, hi, hz0, hz1, hz2⟩ := info_parts Tryd.info5
  have Ha := Lib.hid ha
  have Hsz : Hid ((Tryd.prog.info? 24).map (·.size) = some ((cells a).toArray).size) := by show _ = _; rw [Tryd.sizeA', List.size_toArray, cells_length, Ha.out]
  clear ha
  go_enter Tryd.func13, Tryd.ntmps13
  go_wp2_with (with_reducible refine at_box 24 ?_; refine wpList_box_rowV rfl 24 _ rfl (cells a) rfl ?_)
  intro w1 hr1 hb1 hs1
  go_wp2_with (at_make; refine wpList_make_own _ rfl _ _ 22 rfl w.heap.size 5 i0 (.int .u8 0) 1 Tryd.underlying22 hi hz0 hz1 _ _ _ 64 rfl rfl (by omega) (by rw [hz2]; omega) (by unfold maxLen; omega) (by omega) ?_)
  intro w2 hown2 hg2
  have hr2 := hr1.keep hg2 (by simp)
  have hb2 : Below w.heap.size w w2 := hb1.grown hg2 (by omega) (by simp)
  clear hr1 hb1 hg2
  go_wp2_with ((with_reducible refine at_load 24 ?_); refine wpList_load_row rfl 24 _ rfl w.heap.size rfl 24 _ (0, 0) _ hr2 Tryd.underlying24 rfl Hsz.out ?_)
  clear hr2
  go_wp2_with fail
  go_loopw [3, 8] (fun v i W => ∃ k : Nat, k ≤ 32 ∧ i = .int .i64 k ∧ W.ownsRow w.heap.size 5 1 v (2 * k) (cells (hexB (a.take k))) ∧ Below w.heap.size w W) (fun _ i _ => 32 - (intOf i).toNat)
  case atStart => exact ⟨0, Nat.zero_le _, rfl, hown2, hb2⟩
  case round =>
    obtain ⟨k, hk, hik, hown, hb⟩ := hrel
    subst hik
    clear hown2 hb2
    by_cases hlt : k < 32
    · obtain ⟨x, hx⟩ : ∃ x, a[k]? = some x := ⟨_, List.getElem?_eq_getElem (by rw [Ha.out]; exact hlt)⟩
      have hxl := x.toNat_lt
      have hix : ∀ W, (Instr.index 24 (.agg (cells a).toArray) (.int .i64 (k : Int))).run Tryd.prog W = .ok (.int .u8 (x.toNat : Int)) W := fun W => run_index_one Tryd.underlying24 Tryd.plainB Tryd.size5 hlt (cells_get hx)
      have Hs := Lib.hid (hexB_take_succ hx)
      have hl4 := low4 x
      clear hx
      obtain ⟨h, hh⟩ : ∃ h, x.toNat / 16 = h := ⟨_, rfl⟩
      obtain ⟨l, hl⟩ : ∃ l, x.toNat % 16 = l := ⟨_, rfl⟩
      have hhi : (x.toNat : Int) / 16 = (h : Int) := by omega
      have hh16 : h < 16 := by omega
      have hl16 : l < 16 := by omega
      rw [hl] at hl4
      rw [hh, hl] at Hs
      have hd1 : ∀ W, (Instr.index 9 (.string digs) (.int .u8 (h : Int))).run Tryd.prog W = .ok (.int .u8 ((dig h).toNat : Int)) W := fun W => run_digs h hh16 Tryd.underlying9
      have hd2 : ∀ W, (Instr.index 9 (.string digs) (.int .u8 (l : Int))).run Tryd.prog W = .ok (.int .u8 ((dig l).toNat : Int)) W := fun W => run_digs l hl16 Tryd.underlying9
      unfold digs at hd1 hd2
      generalize dig h = y at *
      generalize dig l = z at *
      clear hh hl
      have hd : decide ((k : Int) < 32) = true := decide_eq_true (by omega)
      have ho' := (show wr.drew.ownsRow w.heap.size 5 1 u3 (2 * k) (cells (hexB (a.take k))) from hown).alloc (.cells #[Value.int .u8 (y.toNat : Int), Value.int .u8 (z.toNat : Int)] 5)
      have hl' := Lies.lit wr.drew #[Value.int .u8 (y.toNat : Int), Value.int .u8 (z.toNat : Int)] [y, z] rfl (wr.drew.heap.size + 1) (by omega)
      have hb'' := hb.drew.alloc hb.size (.cells #[Value.int .u8 (y.toNat : Int), Value.int .u8 (z.toNat : Int)] 5)
      have hs'' := hb''.size
      have hge := own_ge ho'
      go_wp2_with fail
      refine wp_region_held_drew (S := fun _ => True) (by kernel_rfl) trivial (fun hHeld => ?_)
      refine wpAnyH_take (i := 0) (oi := ⟨_, _, _, _, _, _⟩) (v := ?_) rfl (by kernel_rfl) (by kernel_rfl) (by kernel_rfl) (fun _ _ _ h => h) (Or.inl ⟨by rfl, ?_⟩) (by assumption) ?_
      rotate_left
      · intro W hSW; (try dsimp only at hSW); go_simp; try with_reducible rfl
      try simp only [Act.put, List.setIfInBounds_toArray, List.set_cons_zero, List.set_cons_succ]
      refine wpAnyH_take (i := 1) (oi := ⟨_, _, _, _, _, _⟩) (v := ?_) rfl (by kernel_rfl) (by kernel_rfl) (by kernel_rfl) (fun _ _ _ h => h) (Or.inl ⟨by rfl, ?_⟩) (by assumption) ?_
      rotate_left
      · intro W hSW; (try dsimp only at hSW); go_simp; try with_reducible rfl
      try simp only [Act.put, List.setIfInBounds_toArray, List.set_cons_zero, List.set_cons_succ]
      refine wpAnyH_take (i := 2) (oi := ⟨_, _, _, _, _, _⟩) (v := ?_) rfl (by kernel_rfl) (by kernel_rfl) (by kernel_rfl) (fun _ _ _ h => h) (Or.inl ⟨by rfl, ?_⟩) (by assumption) ?_
      rotate_left
      · intro W hSW; (try dsimp only at hSW); go_simp; try with_reducible rfl
      try simp only [Act.put, List.setIfInBounds_toArray, List.set_cons_zero, List.set_cons_succ]
      refine wpAnyH_take (i := 3) (oi := ⟨_, _, _, _, _, _⟩) (v := ?_) rfl (by kernel_rfl) (by kernel_rfl) (by kernel_rfl) (fun _ _ _ h => h) (Or.inl ⟨by rfl, ?_⟩) (by assumption) ?_
      rotate_left
      · intro W hSW; (try dsimp only at hSW); go_simp; try with_reducible rfl
      try simp only [Act.put, List.setIfInBounds_toArray, List.set_cons_zero, List.set_cons_succ]
      refine wpAnyH_take (i := 4) (oi := ⟨_, _, _, _, _, _⟩) (v := ?_) rfl (by kernel_rfl) (by kernel_rfl) (by kernel_rfl) (fun _ _ _ h => h) (Or.inl ⟨by rfl, ?_⟩) (by assumption) ?_
      rotate_left
      · intro W hSW; (try dsimp only at hSW); go_simp; try with_reducible rfl
      try simp only [Act.put, List.setIfInBounds_toArray, List.set_cons_zero, List.set_cons_succ]
      refine wpAnyH_take (i := 5) (oi := ⟨_, _, _, _, _, _⟩) (v := ?_) rfl (by kernel_rfl) (by kernel_rfl) (by kernel_rfl) (fun _ _ _ h => h) (Or.inl ⟨by rfl, ?_⟩) (by assumption) ?_
      rotate_left
      · intro W hSW; (try dsimp only at hSW); go_simp; try with_reducible rfl
      try simp only [Act.put, List.setIfInBounds_toArray, List.set_cons_zero, List.set_cons_succ]
      refine wpAnyH_take (i := 6) (oi := ⟨_, _, _, _, _, _⟩) (v := ?_) rfl (by kernel_rfl) (by kernel_rfl) (by kernel_rfl) (fun _ _ _ h => h) (Or.inl ⟨by rfl, ?_⟩) (by assumption) ?_
      rotate_left
      · intro W hSW; (try dsimp only at hSW); go_simp; try with_reducible rfl
      try simp only [Act.put, List.setIfInBounds_toArray, List.set_cons_zero, List.set_cons_succ]
      refine wpAnyH_ready (rs := [7]) (by kernel_rfl) (by simp) ?_
      refine AllReadyH.cons (o := ⟨_, _, _, _, _, _⟩) rfl (fun K hK => ?_) AllReadyH.nil
      go_simp
      try simp only []
      refine hK.out _ _ trivial (fun hHeld => ?_)
      clear hK K
      try simp only [Act.put, List.setIfInBounds_toArray, List.set_cons_zero, List.set_cons_succ]
      refine wpAnyH_ready (rs := [8]) (by kernel_rfl) (by simp) ?_
      refine AllReadyH.cons (o := ⟨_, _, _, _, _, _⟩) rfl (fun K hK => ?_) AllReadyH.nil
      change Oper.wp _ _ _ _ K _
      refine wp_append_lies _ _ 22 rfl w.heap.size i0 Tryd.underlying22 hi hz0 hz1 hz2 _ (2 * k) (hexB (a.take k)) [y, z] rfl ho' (wr.drew.heap.size + 1) _ _ _ rfl hl' rfl (by omega) hs'' ?_
      intro v4 w4 hown4 hg4
      refine hK.out _ _ trivial (fun hHeld => ?_)
      clear hK K
      try simp only [Act.put, List.setIfInBounds_toArray, List.set_cons_zero, List.set_cons_succ]
      refine wpAnyH_take (i := 9) (oi := ⟨_, _, _, _, _, _⟩) (v := ?_) rfl (by kernel_rfl) (by kernel_rfl) (by kernel_rfl) (fun _ _ _ h => h) (Or.inl ⟨by rfl, ?_⟩) (by assumption) ?_
      rotate_left
      · intro W hSW; (try dsimp only at hSW); go_simp; try with_reducible rfl
      try simp only [Act.put, List.setIfInBounds_toArray, List.set_cons_zero, List.set_cons_succ]
      refine wpAnyH_done (by kernel_rfl) ?_ _
      have hb4 : Below w.heap.size w w4 := hb''.grown hg4 hs'' hge
      rw [← Hs.out] at hown4
      go_wp2
      go_roundw
      case rel => exact ⟨k + 1, by omega, by go_num, hown4, hb4⟩
      case measure => simp [intOf]; omega
    · obtain rfl : k = 32 := by omega
      have hd : decide (((32 : Nat) : Int) < 32) = false := by decide
      rw [List.take_of_length_le (by rw [Ha.out]; omega)] at hown
      obtain ⟨A1, c1, rfl, hn1, _, _, hL1⟩ := Lies.of_own hown
      have hcv := run_str (P := Tryd.prog) 22 5 9 Tryd.underlying22 Tryd.underlying5 Tryd.underlying9 (hexB a).length c1 hL1 rfl
      generalize hhx : hexB a = hx at *
      have Hhx := Lib.hid hhx
      clear hown hL1 hhx
      go_wp2
      go_ret
      exact ⟨by rw [Hhx.out]; rfl, hb⟩

theorem digs_cut : ∀ n : Nat, n < 16 → digs.extract n (n + 1) = ⟨#[dig n]⟩ := by decide
theorem run_digs_cut {P : Program} {W : World} (n : Nat) (hn : n < 16) (h9 : P.underlying 9 = some .string) (m : Int) (hm : m = (n : Int) + 1) :
    (Instr.slice 9 (.string digs) (some (.int .u8 (n : Int))) (some (.int .u8 m)) none).run P W = .ok (.string ⟨#[dig n]⟩) W ∧ (Instr.sliceAt 9 (.string digs) (some (.int .u8 (n : Int))) (some (.int .u8 m)) none).run P W = .ok (.string ⟨#[dig n]⟩) W := by
  subst hm
  have hs : digs.size = 16 := rfl
  have q1 : (n : Int) + 1 ≤ 16 := by omega
  have q3 : (0 : Int) ≤ (n : Int) + 1 := by omega
  have q4 : ((n : Int) + 1).toNat = n + 1 := by omega
  have h2 : (Instr.slice 9 (.string digs) (some (.int .u8 (n : Int))) (some (.int .u8 ((n : Int) + 1))) none).run P W = .ok (.string ⟨#[dig n]⟩) W := by
    have e1 : (Instr.sliceBound (.int .u8 (n : Int)) (n + 1) BoundsCode.sliceB).run P W = .ok n W := by
      have := run_sliceBound (P := P) W .u8 (n : Int) (n + 1) BoundsCode.sliceB (by omega) (by omega)
      rw [this, Int.toNat_natCast]
    simp [Instr.slice, run_underlying h9, Instr.sliceBounds, run_sliceBound, hs, q1, q3, q4, e1, digs_cut n hn]
  refine ⟨h2, ?_⟩
  simp only [Instr.sliceAt, Sem.run_bind, run_underlying h9, Result.andThen_ok]
  exact h2
theorem bytes_snoc (l : List UInt8) (y z : UInt8) : (ByteArray.mk l.toArray ++ ByteArray.mk #[y]) ++ ByteArray.mk #[z] = ByteArray.mk (l ++ [y, z]).toArray := by
  apply ByteArray.ext
  simp

set_option maxRecDepth 100000 in
set_option maxHeartbeats 1000000 in
theorem rhex_any (a : List UInt8) (ha : a.length = 32) (w : World) : Calls Tryd.prog 14 #[.agg (cells a).toArray] w fun e w' => e = .returned (.string ⟨(hexB a).toArray⟩) ∧ Below w.heap.size w w' := by
  have Ha := Lib.hid ha
  clear ha
  go_enter Tryd.func14, Tryd.ntmps14
  go_wp2_with (with_reducible refine at_box 24 ?_; refine wpList_box_rowV rfl 24 _ rfl (cells a) rfl ?_)
  intro w1 hr1 hb1 hs1
  go_wp2_with fail
  go_loopw [3, 5] (fun v i W => ∃ k : Nat, k ≤ 32 ∧ i = .int .i64 k ∧ v = .string ⟨(hexB (a.take k)).toArray⟩ ∧ RowV W w.heap.size 24 (cells a) ∧ Below w.heap.size w W) (fun _ i _ => 32 - (intOf i).toNat)
  case atStart => exact ⟨0, Nat.zero_le _, rfl, rfl, hr1, hb1⟩
  case round =>
    obtain ⟨k, hk, hik, hv, hr, hb⟩ := hrel
    subst hik hv
    clear hr1 hb1
    by_cases hlt : k < 32
    · obtain ⟨x, hx⟩ : ∃ x, a[k]? = some x := ⟨_, List.getElem?_eq_getElem (by rw [Ha.out]; exact hlt)⟩
      have hxl := x.toNat_lt
      have hc := hr.cell (cells_get hx)
      have Hs := Lib.hid (hexB_take_succ hx)
      clear hx
      obtain ⟨h, hh⟩ : ∃ h, x.toNat / 16 = h := ⟨_, rfl⟩
      obtain ⟨l, hl⟩ : ∃ l, x.toNat % 16 = l := ⟨_, rfl⟩
      have hhi : (x.toNat : Int) / 16 = (h : Int) := by omega
      have hhq : (x.toNat : Int).tdiv 16 = (h : Int) := by rw [Int.tdiv_eq_ediv_of_nonneg (by omega)]; exact hhi
      have hli : (x.toNat : Int) % 16 = (l : Int) := by omega
      have hlq : (x.toNat : Int).tmod 16 = (l : Int) := by rw [Int.tmod_eq_emod_of_nonneg (by omega)]; exact hli
      have hh16 : h < 16 := by omega
      have hl16 : l < 16 := by omega
      rw [hh, hl] at Hs
      have hw1 : IntKind.u8.wrap ((h : Int) + 1) = (h : Int) + 1 := (show _ = ((h : Int) + 1) % 256 from rfl).trans (by omega)
      have hw2 : IntKind.u8.wrap ((l : Int) + 1) = (l : Int) + 1 := (show _ = ((l : Int) + 1) % 256 from rfl).trans (by omega)
      have hw3 : IntKind.u8.wrap (h : Int) = (h : Int) := (show _ = (h : Int) % 256 from rfl).trans (by omega)
      have hw4 : IntKind.u8.wrap (l : Int) = (l : Int) := (show _ = (l : Int) % 256 from rfl).trans (by omega)
      have hd1 := fun W => (run_digs_cut (P := Tryd.prog) (W := W) h hh16 Tryd.underlying9 _ rfl).1
      have hd2 := fun W => (run_digs_cut (P := Tryd.prog) (W := W) l hl16 Tryd.underlying9 _ rfl).1
      have hd3 := fun W => (run_digs_cut (P := Tryd.prog) (W := W) h hh16 Tryd.underlying9 _ rfl).2
      have hd4 := fun W => (run_digs_cut (P := Tryd.prog) (W := W) l hl16 Tryd.underlying9 _ rfl).2
      unfold digs at hd1 hd2 hd3 hd4
      have Hcat := Lib.hid (bytes_snoc (hexB (a.take k)) (dig h) (dig l))
      rw [← Hs.out] at Hcat
      have hpl : (hexB (a.take k)).length ≤ 64 := by rw [hexB_length, List.length_take]; omega
      generalize dig h = y at *
      generalize dig l = z at *
      generalize hexB (a.take k) = pre at *
      have hp1 : ¬ 9223372036854775807 < pre.length + 1 := by omega
      have hp2 : ¬ 9223372036854775807 < pre.length + 1 + 1 := by omega
      clear hh hl
      have b0 : (k : Int) < 32 := by omega
      have hd : decide ((k : Int) < 32) = true := decide_eq_true (by omega)
      have hlA : Tryd.prog.arrayLen 24 = 32 := by kernel_rfl
      go_wp2_with fail
      refine wp_region_still_tail 25 (by kernel_rfl) (by kernel_rfl) ?_
      simp only [List.take_succ_cons, List.take_zero, List.drop_succ_cons, List.drop_zero]
      iterate 25 still_step
      refine wpStill_nil ?_
      change wpList _ _ _ _ _ wr.drew
      go_wp2
      go_roundw
      case rel => exact ⟨k + 1, by omega, by go_num, by rw [Hcat.out], hr.drew, hb.drew⟩
      case measure => simp [intOf]; omega
    · obtain rfl : k = 32 := by omega
      have hd : decide (((32 : Nat) : Int) < 32) = false := by decide
      have hf : hexB (a.take 32) = hexB a := by rw [List.take_of_length_le (by rw [Ha.out]; omega)]
      rw [hf]
      clear hf
      go_wp2
      go_ret
      exact ⟨rfl, hb⟩
end Go.Proofs.YthkbbghoofknpaaDoor
