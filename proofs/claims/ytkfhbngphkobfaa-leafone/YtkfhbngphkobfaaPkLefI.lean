/-
  Layer 14: the contract of fields. (Written by wip/mk/mk14f.py.)
-/
import Derived.Test.YtkfhbngphkobfaaPkLefD
import Derived.Test.YtkfhbngphkobfaaPkRegS
import Derived.Test.YtkfhbngphkobfaaPkNumC
import Derived.Test.YtkfhbngphkobfaaPkNumTwo
import Derived.Test.YtkfhbngphkobfaaPkSlotF
import Derived.Deep.Cut
import Derived.StillTailTactics
namespace Go.Proofs.Ytkfhbngphkobfaa
open Go.RowKit
set_option linter.unusedVariables false
set_option linter.unusedSimpArgs false

theorem cells_at {xs : List UInt8} {j : Nat} {u : Value} (h : (cells xs)[j]? = some u) : ∃ y, xs[j]? = some y ∧ Value.int .u8 (y.toNat : Int) = u := by
  unfold cells at h
  rw [List.getElem?_map, Option.map_eq_some_iff] at h
  exact h
theorem range_kept {w w' : World} {b o : Nat} {cs : List Value} {row : Option Nat} (h : w.rangeAt b o cs) (hg : w.grownBy w' row) (hne : some b ≠ row) (hb : b < w.heap.size) : w'.rangeAt b o cs := fun j u hj => (World.cell?_of_block (hg.block b hb hne)).trans (h j u hj)
theorem range_below {w w' : World} {b o B : Nat} {cs : List Value} (h : w.rangeAt b o cs) (hb : Below B w w') (hlt : b < B) : w'.rangeAt b o cs := fun j u hj => (World.cell?_of_block (hb.block b hlt)).trans (h j u hj)

set_option maxRecDepth 100000 in
set_option maxHeartbeats 400000 in
/-- Bytes where they are there: they lie in new memory. -/
theorem bytes_new (w : World) (g : Nat) (xs : List UInt8) (k : Nat) (h : Cur w g xs false) (hk : k ≤ xs.length) (hx : xs.length ≤ 140737488355328) :
    Calls Try.prog 31 #[.pointer (some ⟨g, 0, none⟩), .int .i64 (k : Int)] w fun e w' => ∃ A c, e = .returned (.slice A k c) ∧ Lies w' w'.heap.size A (xs.take k) ∧ w.grownBy w' (some g) ∧ Cur w' g (xs.drop k) false ∧ Fresh w.heap.size A := by
  have hlt := h.lt
  obtain ⟨A, c, hg, hlc, hcm, hl⟩ := h
  have c0 := cur_left hg
  have c1 := cur_bad hg
  have hcm' : c ≤ 9223372036854775807 := by unfold maxLen at hcm; exact hcm
  have hd : decide ((k : Int) < 0) = false := by simp
  have hd2 : decide ((xs.length : Int) < (k : Int)) = false := by simp; omega
  have hd3 : decide (xs.length < k) = false := by simp; omega
  go_enter Try.func31, Try.ntmps31
  go_wp2_with fail
  refine (clone_any _ _ _ (xs.take k) _ ?_ ?_ ?_).mono ?_
  · exact (hl.take k).le (by omega)
  · rw [List.length_take]; omega
  · omega
  rintro e w1 ⟨A1, k1, rfl, hk1, hm1, hl1, hb1, hf1⟩
  have hg1 := (hb1.block g hlt).trans hg
  have d0 := cur_left hg1
  have f0 := cur_frozen hg1 0
  have hl1' := hl.below (hb1.mono (by omega))
  have hdr := hl1'.drop (k := k) hlc
  have hs1 := fun A' => cur_set_left hg1 A' (xs.length - k) (c - k)
  have hgg := fun v => grown_trans' (grown_of_below hb1 (some g)) (grown_setCell w1 g 0 v)
  have hlen : (xs.take k).length = k := by rw [List.length_take]; omega
  have R : ∀ A', A' = (if c = k then A else A.map (·.add k)) → ∃ A2 c2, Ending.returned (.slice A1 k k1) = .returned (.slice A2 k c2) ∧ Lies (w1.setCell ⟨g, 0, none⟩ (.slice A' (xs.length - k) (c - k))) (w1.setCell ⟨g, 0, none⟩ (.slice A' (xs.length - k) (c - k))).heap.size A2 (xs.take k) ∧
      w.grownBy (w1.setCell ⟨g, 0, none⟩ (.slice A' (xs.length - k) (c - k))) (some g) ∧ Cur (w1.setCell ⟨g, 0, none⟩ (.slice A' (xs.length - k) (c - k))) g (xs.drop k) false ∧ Fresh w.heap.size A2 := by
    rintro A' rfl
    refine ⟨A1, k1, rfl, ?_, hgg _, ⟨_, c - k, ?_, ?_, ?_, hdr.setCell (Nat.le_refl _) _⟩, hf1⟩
    · exact (hl1.set_fresh hf1 hlt _).le (by simp [World.setCell])
    · rw [List.length_drop]; exact hs1 _
    · rw [List.length_drop]; omega
    · omega
  have HR := Lib.hid R
  rw [hlen]
  clear hg hg1 hl hl1 hl1' hdr hs1 hgg c0 c1 R hlen
  by_cases hck : c = k
  · have R0 := HR.out A (by rw [if_pos hck])
    rw [show c - k = 0 by omega, show xs.length - k = 0 by omega] at R0
    have HR0 := Lib.hid R0
    clear R0 HR
    subst hck
    go_wp2_with fail
    go_ret
    exact HR0.out
  · have HR1 := Lib.hid (HR.out (A.map (·.add k)) (by rw [if_neg hck]))
    clear HR
    go_wp2_with fail
    go_ret
    exact HR1.out
theorem bytes32_any (w : World) (g : Nat) (xs : List UInt8) (h : Cur w g xs false) (hk : 36 ≤ xs.length) (hx : xs.length ≤ 140737488355328) :
    Calls Try.prog 31 #[.pointer (some ⟨g, 0, none⟩), .int .i64 32] w fun e w' => ∃ A c, e = .returned (.slice A 32 c) ∧ Lies w' w'.heap.size A (xs.take 32) ∧ w.grownBy w' (some g) ∧ Cur w' g (xs.drop 32) false ∧ Fresh w.heap.size A := bytes_new w g xs 32 h (by omega) hx

/-- The cursor over xs behind j bytes; behind the end it is invalid. -/
def CurK (w : World) (g : Nat) (xs : List UInt8) (j : Nat) : Prop := ∃ rest bad, Cur w g rest bad ∧ rest.length ≤ xs.length ∧ (j ≤ xs.length → rest = xs.drop j ∧ bad = false) ∧ (xs.length < j → bad = true)
theorem CurK.below {w w' : World} {g j : Nat} {xs : List UInt8} (h : CurK w g xs j) (hb : Below w.heap.size w w') : CurK w' g xs j := by
  obtain ⟨r, b, h1, h2⟩ := h
  exact ⟨r, b, h1.below hb, h2⟩
theorem CurK.lt {w : World} {g j : Nat} {xs : List UInt8} (h : CurK w g xs j) : g < w.heap.size := by
  obtain ⟨r, b, h1, _⟩ := h
  exact h1.lt
theorem CurK.grown_above {w w' : World} {g k j : Nat} {xs : List UInt8} (h : CurK w g xs j) (hg : w.grownBy w' (some k)) (hk : g < k) : CurK w' g xs j := by
  obtain ⟨r, b, h1, h2⟩ := h
  exact ⟨r, b, h1.grown_above hg hk, h2⟩
theorem num1_any (w : World) (g : Nat) (xs : List UInt8) (j : Nat) (h : CurK w g xs j) (hx : xs.length ≤ 140737488355328) :
    Calls Try.prog 32 #[.pointer (some ⟨g, 0, none⟩), .int .i64 1] w fun e w' => e = .returned (.int .u64 (((xs.getD j 0).toNat : Nat) : Int)) ∧ CurK w' g xs (j + 1) ∧ w.grownBy w' (some g) := by
  obtain ⟨r, b, h1, h2, h3, h4⟩ := h
  refine (num_any w g r b 1 h1 (by omega)).mono ?_
  rintro e w' ⟨rfl, hc, hg⟩
  by_cases hj : j < xs.length
  · obtain ⟨rfl, rfl⟩ := h3 (by omega)
    have hnb : cutBad (xs.drop j) false 1 = false := by simp [cutBad]; omega
    have hd : xs.drop j = xs[j] :: xs.drop (j + 1) := List.drop_eq_getElem_cons hj
    have e1 : cutGot (xs.drop j) false 1 = [xs[j]] := by unfold cutGot; rw [hnb, hd]; rfl
    have e2 : cutRest (xs.drop j) false 1 = xs.drop (j + 1) := by unfold cutRest; rw [hnb, hd]; rfl
    rw [e2, hnb] at hc
    refine ⟨?_, ⟨_, _, hc, by rw [List.length_drop]; omega, fun _ => ⟨rfl, rfl⟩, fun h => absurd h (by omega)⟩, hg⟩
    rw [e1, List.getD_eq_getElem?_getD, List.getElem?_eq_getElem hj]
    simp [leN]
  · have hbad : cutBad r b 1 = true := by
      by_cases hj2 : j = xs.length
      · obtain ⟨rfl, rfl⟩ := h3 (by omega)
        simp [cutBad]
        omega
      · rw [h4 (by omega)]
        rfl
    have e1 : cutGot r b 1 = [0] := by unfold cutGot; rw [hbad]; rfl
    have e2 : cutRest r b 1 = r := by unfold cutRest; rw [hbad]; rfl
    rw [e2, hbad] at hc
    refine ⟨?_, ⟨_, _, hc, h2, fun h => absurd h (by omega), fun _ => rfl⟩, hg⟩
    rw [e1, List.getD_eq_getElem?_getD, List.getElem?_eq_none (by omega)]
    simp [leN]

/-- What stands in the bytes. -/
def slotsF (xs : List UInt8) (k : Nat) : List Int := (List.range k).map fun i => (((xs.drop 36).getD i 0).toNat : Int)
def adrF (xs : List UInt8) (h : 32 ≤ xs.length) : Adr := ⟨xs.take 32, by rw [List.length_take]; omega⟩
def fldL (xs : List UInt8) (h : 32 ≤ xs.length) : Tx := ⟨adrF xs h, (leN ((xs.drop 32).take 2) : Nat), slotsF xs (countK (leN ((xs.drop 32).take 2))), (leN ((xs.drop 34).take 2) : Nat)⟩
theorem slotsF_length (xs : List UInt8) (k : Nat) : (slotsF xs k).length = k := by simp [slotsF]
/-- The first k of m slots, the others nought. -/
def upS (l : List Int) (k m : Nat) : List Int := l.take k ++ List.replicate (m - k) 0
theorem upS_length {l : List Int} {k m : Nat} (hl : l.length = m) (hk : k ≤ m) : (upS l k m).length = m := by simp [upS]; omega
theorem upS_zero (l : List Int) (m : Nat) : upS l 0 m = List.replicate m 0 := by simp [upS]
theorem upS_all {l : List Int} {m : Nat} (hl : l.length = m) : upS l m m = l := by
  unfold upS
  rw [List.take_of_length_le (by omega), Nat.sub_self]
  simp
theorem upS_step {l : List Int} {k m : Nat} {s : Int} (hl : l.length = m) (h : l[k]? = some s) : (upS l k m).set k s = upS l (k + 1) m := by
  have hk := (List.getElem?_eq_some_iff.1 h).1
  unfold upS
  rw [List.set_append_right _ _ (by rw [List.length_take]; omega), List.length_take, Nat.min_eq_left (by omega), Nat.sub_self, show m - k = (m - (k + 1)) + 1 by omega, List.replicate_succ, List.set_cons_zero, List.take_add_one, h, List.append_assoc]
  rfl

set_option maxRecDepth 100000 in
set_option maxHeartbeats 8000000 in
theorem lfields_any (A : Option Addr) (n c : Nat) (xs : List UInt8) (w : World) (B : Nat) (h : Lies w B A xs) (hB : B ≤ w.heap.size) (hn : n = xs.length) (hx : 36 ≤ xs.length) (hm : n ≤ 1000000) :
    Calls Try.prog 25 #[.slice A n c] w fun e w' => ∃ H, e = .returned (.agg (txc (fldL xs (by omega)) (some ⟨H, 0, none⟩) (fldL xs (by omega)).slots.length).toArray) ∧ RowV w' H 3 (slv (fldL xs (by omega)).slots) ∧ Below w.heap.size w w' := by
  obtain ⟨i0, hi, hz0, hz1, hz2⟩ := info_parts Try.infoI14
  have Hn := Lib.hid hn
  have Hh := Lib.hid h
  have Hx := Lib.hid hx
  have Hxm : Hid (xs.length ≤ 140737488355328) := by show _ ≤ _; omega
  have h32 : 32 ≤ xs.length := by omega
  have Hd32 : Hid (2 ≤ (xs.drop 32).length) := by show _ ≤ _; rw [List.length_drop]; omega
  have Hd34 : Hid (2 ≤ (xs.drop 34).length) := by show _ ≤ _; rw [List.length_drop]; omega
  have Hm32 : Hid ((xs.drop 32).length ≤ 140737488355328) := by show _ ≤ _; rw [List.length_drop]; omega
  have Hm34 : Hid ((xs.drop 34).length ≤ 140737488355328) := by show _ ≤ _; rw [List.length_drop]; omega
  have Hne : Hid (xs.take 32 ≠ []) := by show _ ≠ _; intro h9; have := congrArg List.length h9; rw [List.length_take, Nat.min_eq_left h32] at this; cases this
  obtain ⟨n1, hn1⟩ : ∃ k, leN ((xs.drop 32).take 2) = k := ⟨_, rfl⟩
  obtain ⟨n2, hn2⟩ : ∃ k, leN ((xs.drop 34).take 2) = k := ⟨_, rfl⟩
  have l1 : n1 < 65536 := by rw [← hn1]; exact leN_two _
  have l2 : n2 < 65536 := by rw [← hn2]; exact leN_two _
  have HN32 := Lib.hid hn1
  have HN34 := Lib.hid hn2
  obtain ⟨FL, hFL⟩ : ∃ FL, fldL xs h32 = FL := ⟨_, rfl⟩
  obtain ⟨T0, hT0⟩ : ∃ T0 : Tx, T0 = ⟨adrF xs h32, (n1 : Int), [], (n2 : Int)⟩ := ⟨_, rfl⟩
  have Hbu : Hid (Try.prog.built 25 [(0, .agg (cells (xs.take 32)).toArray), (1, .int .i64 (n1 : Int)), (3, .int .i64 (n2 : Int))] = some (txc T0 none 0).toArray) := by show _ = _; rw [hT0]; exact Try.builtT3 (adrF xs h32) _ _
  have Hfl : Hid (FL = { T0 with slots := slotsF xs (countK n1) }) := by show _ = _; rw [← hFL, hT0, fldL, hn1, hn2]
  have Hs0 : Hid (T0.size = (n1 : Int)) := by show _ = _; rw [hT0]
  have Hsz : Hid ((Try.prog.info? 22).map (·.size) = some (cells (xs.take 32)).length) := by show _ = _; rw [cells_length, List.length_take, Nat.min_eq_left h32]; exact Try.sizeA14
  have hap : ∀ W A len cap, 32 ≤ len → (Instr.arrayAt 22 (.slice A len cap)).run Try.prog W = .ok (.pointer A) W := fun W A len cap h => run_arrayAt Try.underlying22 A len cap h
  rw [hFL]
  clear hn h hx hn1 hn2 hT0 hFL
  go_enter Try.func25, Try.ntmps25
  go_wp2_with ((with_reducible refine at_alloc 25 ?_); refine alloc_tx rfl rfl ?_)
  intro w1 hr1 hb1 hs1
  go_wp2_with fail
  refine (from_any A n c xs w1 ((Hh.out.below (hb1.mono hB)).le (by omega)) Hn.out (by omega)).mono ?_
  rintro e w2 ⟨g, rfl, hg2, hc2, hb2⟩
  have hr2 := hr1.below (by omega) hb2
  have hB2 : Below w.heap.size w w2 := hb1.trans (hb2.mono (by omega))
  have hgl := hc2.lt
  have hgN : w.heap.size < g := by omega
  clear hr1 hb1 hb2 hg2 hs1
  obtain ⟨N, hN⟩ : ∃ N, w.heap.size = N := ⟨_, rfl⟩
  rw [hN] at hr2 hB2 hgN ⊢
  go_wp2_with fail
  go_cut [4] from 8 (fun s4 W => ∃ M, s4 = .pointer (some ⟨M, 0, none⟩) ∧ g < M ∧ M < W.heap.size ∧ Hid (RowV W M 25 (txc T0 none 0)) ∧ Hid (Cur W g (xs.drop 36) false) ∧ Hid (RowV W N 25 (txc tx0 none 0)) ∧ Hid (Below N w W))
  case first =>
    have hcd : Cur w2.drew g xs false := hc2
    have hrd : RowV w2.drew N 25 (txc tx0 none 0) := hr2
    have hbd : Below N w w2.drew := hB2.drew
    have hzd : w2.heap.size ≤ w2.drew.heap.size := Nat.le_refl _
    refine wp_region_held_drew (S := fun _ => True) (by kernel_rfl) trivial (fun hHeld => ?_)
    clear hc2 hr2 hB2
    generalize w2.drew = wd at *
    have hw1 : IntKind.i64.wrap (n1 : Int) = n1 := IntWalk.i64_in _ (by omega)
    have hw2 : IntKind.i64.wrap (n2 : Int) = n2 := IntWalk.i64_in _ (by omega)
    refine wpAnyH_take (i := 0) (oi := ⟨_, _, _, _, _, _⟩) (v := ?_) rfl (by kernel_rfl) (by kernel_rfl) (by kernel_rfl) (fun _ _ _ h => h) (Or.inl ⟨by rfl, ?_⟩) (by assumption) ?_
    rotate_left
    · intro W hSW; go_simp; try with_reducible rfl
    try simp only [Act.put, List.setIfInBounds_toArray, List.set_cons_zero, List.set_cons_succ]
    refine wpAnyH_take (i := 4) (oi := ⟨_, _, _, _, _, _⟩) (v := ?_) rfl (by kernel_rfl) (by kernel_rfl) (by kernel_rfl) (fun _ _ _ h => h) (Or.inl ⟨by rfl, ?_⟩) (by assumption) ?_
    rotate_left
    · intro W hSW; go_simp; try with_reducible rfl
    try simp only [Act.put, List.setIfInBounds_toArray, List.set_cons_zero, List.set_cons_succ]
    refine wpAnyH_take (i := 7) (oi := ⟨_, _, _, _, _, _⟩) (v := ?_) rfl (by kernel_rfl) (by kernel_rfl) (by kernel_rfl) (fun _ _ _ h => h) (Or.inl ⟨by rfl, ?_⟩) (by assumption) ?_
    rotate_left
    · intro W hSW; go_simp; try with_reducible rfl
    try simp only [Act.put, List.setIfInBounds_toArray, List.set_cons_zero, List.set_cons_succ]
    refine wpAnyH_ready (rs := [1, 11]) (by kernel_rfl) (by simp) ?_
    refine AllReadyH.cons (o := ⟨_, _, _, _, _, _⟩) rfl (fun K hK => ?_) (AllReadyH.cons (o := ⟨_, _, _, _, _, _⟩) rfl (fun K hK => ?_) AllReadyH.nil)
    · go_simp
      refine (bytes32_any wd g xs hcd Hx.out Hxm.out).mono ?_
      rintro e v1 ⟨A1, c1, rfl, hl1, hg1, hc1, hf1⟩
      try simp only []
      obtain ⟨bq, oq, hA1, hbq, hcq⟩ := hl1 Hne.out
      subst hA1
      have hbf : wd.heap.size ≤ bq := hf1 _ rfl
      have hq1 : v1.rangeAt bq oq (cells (xs.take 32)) := fun j u hj => by obtain ⟨y, hy, rfl⟩ := cells_at hj; exact hcq j y hy
      have hr1 := hrd.keep hg1 (fun e => by injection e with e; omega)
      have hb1 := below_grown hbd hg1 (by omega) (by omega)
      have hz1 : w2.heap.size ≤ v1.heap.size := Nat.le_trans hzd hg1.size
      refine hK.out _ _ trivial (fun hHeld => ?_)
      try clear hQ2
      clear hK K
      try simp only [Act.put, List.setIfInBounds_toArray, List.set_cons_zero, List.set_cons_succ]
      refine wpAnyH_more (S' := fun W => W.rangeAt bq oq (cells (xs.take 32))) (fun _ _ => trivial) _ _ _ _ ?_
      clear hHeld
      have hHeld := hq1
      have hap1 := fun W => hap W (some ⟨bq, oq, none⟩) 32 c1 (by omega)
      refine wpAnyH_take (i := 2) (oi := ⟨_, _, _, _, _, _⟩) (v := ?_) rfl (by kernel_rfl) (by kernel_rfl) (by kernel_rfl) (fun _ _ _ h => h) (Or.inl ⟨by rfl, ?_⟩) (by assumption) ?_
      rotate_left
      · intro W hSW; go_simp; try with_reducible rfl
      try simp only [Act.put, List.setIfInBounds_toArray, List.set_cons_zero, List.set_cons_succ]
      refine wpAnyH_take (i := 3) (oi := ⟨_, _, _, _, _, _⟩) (v := ?_) rfl (by kernel_rfl) (by kernel_rfl) (by kernel_rfl) (fun _ _ _ h => h) (Or.inl ⟨by rfl, ?_⟩) (by assumption) ?_
      rotate_left
      · intro W hSW; refine exec_load_mid 22 (.tmp 10) ?_ bq oq ?_ (cells (xs.take 32)) _ hSW Try.underlying22 rfl Hsz.out <;> rfl
      try simp only [Act.put, List.setIfInBounds_toArray, List.set_cons_zero, List.set_cons_succ]
      refine wpAnyH_ready (rs := [5, 11]) (by kernel_rfl) (by simp) ?_
      refine AllReadyH.cons (o := ⟨_, _, _, _, _, _⟩) rfl (fun K hK => ?_) (AllReadyH.cons (o := ⟨_, _, _, _, _, _⟩) rfl (fun K hK => ?_) AllReadyH.nil)
      · go_simp
        refine (num2 v1 g (xs.drop 32) hc1 Hd32.out Hm32.out).mono ?_
        rintro e v2 ⟨rfl, hc2, hg2⟩
        rw [HN32.out]
        try simp only []
        rw [List.drop_drop] at hc2
        have hr2 := hr1.keep hg2 (fun e => by injection e with e; omega)
        have hb2 := below_grown hb1 hg2 (by omega) (by omega)
        have hz2 : w2.heap.size ≤ v2.heap.size := Nat.le_trans hz1 hg2.size
        have hq2 : v2.rangeAt bq oq (cells (xs.take 32)) := range_kept hq1 hg2 (fun e => by injection e with e; omega) (by omega)
        have hbq2 : bq < v2.heap.size := Nat.lt_of_lt_of_le hbq hg2.size
        refine hK.out _ _ hq2 (fun hHeld => ?_)
        try clear hQ2
        clear hK K
        try simp only [Act.put, List.setIfInBounds_toArray, List.set_cons_zero, List.set_cons_succ]
        refine wpAnyH_take (i := 6) (oi := ⟨_, _, _, _, _, _⟩) (v := ?_) rfl (by kernel_rfl) (by kernel_rfl) (by kernel_rfl) (fun _ _ _ h => h) (Or.inl ⟨by rfl, ?_⟩) (by assumption) ?_
        rotate_left
        · intro W hSW; go_simp; try with_reducible rfl
        try simp only [Act.put, List.setIfInBounds_toArray, List.set_cons_zero, List.set_cons_succ]
        refine wpAnyH_ready (rs := [8, 11]) (by kernel_rfl) (by simp) ?_
        refine AllReadyH.cons (o := ⟨_, _, _, _, _, _⟩) rfl (fun K hK => ?_) (AllReadyH.cons (o := ⟨_, _, _, _, _, _⟩) rfl (fun K hK => ?_) AllReadyH.nil)
        · go_simp
          refine (num2 v2 g (xs.drop 34) hc2 Hd34.out Hm34.out).mono ?_
          rintro e v3 ⟨rfl, hc3, hg3⟩
          rw [HN34.out]
          try simp only []
          rw [List.drop_drop] at hc3
          have hr3 := hr2.keep hg3 (fun e => by injection e with e; omega)
          have hb3 := below_grown hb2 hg3 (by omega) (by omega)
          have hz3 : w2.heap.size ≤ v3.heap.size := Nat.le_trans hz2 hg3.size
          have hq3 : v3.rangeAt bq oq (cells (xs.take 32)) := range_kept hq2 hg3 (fun e => by injection e with e; omega) (by omega)
          have hbq3 : bq < v3.heap.size := Nat.lt_of_lt_of_le hbq2 hg3.size
          refine hK.out _ _ hq3 (fun hHeld => ?_)
          try clear hQ2
          clear hK K
          try simp only [Act.put, List.setIfInBounds_toArray, List.set_cons_zero, List.set_cons_succ]
          refine wpAnyH_take (i := 9) (oi := ⟨_, _, _, _, _, _⟩) (v := ?_) rfl (by kernel_rfl) (by kernel_rfl) (by kernel_rfl) (fun _ _ _ h => h) (Or.inl ⟨by rfl, ?_⟩) (by assumption) ?_
          rotate_left
          · intro W hSW; go_simp; try with_reducible rfl
          try simp only [Act.put, List.setIfInBounds_toArray, List.set_cons_zero, List.set_cons_succ]
          refine wpAnyH_take (i := 10) (oi := ⟨_, _, _, _, _, _⟩) (v := ?_) rfl (by kernel_rfl) (by kernel_rfl) (by kernel_rfl) (fun _ _ _ h => h) (Or.inl ⟨by rfl, ?_⟩) (by assumption) ?_
          rotate_left
          · intro W hSW; refine exec_built 25 #[(0, .tmp 11), (1, .tmp 14), (3, .tmp 17)] ?_ (txc T0 none 0) ?_
            · rfl
            · exact Hbu.out
          try simp only [Act.put, List.setIfInBounds_toArray, List.set_cons_zero, List.set_cons_succ]
          refine wpAnyH_ready (rs := [11]) (by kernel_rfl) (by simp) ?_
          refine AllReadyH.cons (o := ⟨_, _, _, _, _, _⟩) rfl (fun K hK => ?_) AllReadyH.nil
          refine step_of_list rfl (fun Q2 hQ2 => ?_)
          refine alloc_tx rfl rfl ?_
          intro v4 hM4 hn4 hs4
          refine wpList_nil (hQ2 _ _ ?_)
          have hc4 := hc3.below hn4
          have hr4 := hr3.below (by omega) hn4
          have hb4 := hb3.trans (hn4.mono (by omega))
          have hz4 : w2.heap.size ≤ v4.heap.size := Nat.le_trans hz3 hn4.size
          have hMl4 : v3.heap.size < v4.heap.size := hM4.lt
          have hq4 : v4.rangeAt bq oq (cells (xs.take 32)) := range_below hq3 hn4 hbq3
          have hbq4 : bq < v4.heap.size := by omega
          refine hK.out _ _ hq4 (fun hHeld => ?_)
          try clear hQ2
          clear hK K
          try simp only [Act.put, List.setIfInBounds_toArray, List.set_cons_zero, List.set_cons_succ]
          refine wpAnyH_ready (rs := [12]) (by kernel_rfl) (by simp) ?_
          refine AllReadyH.cons (o := ⟨_, _, _, _, _, _⟩) rfl (fun K hK => ?_) AllReadyH.nil
          refine step_of_list rfl (fun Q2 hQ2 => ?_)
          refine store_tx rfl _ _ rfl (v3.heap.size) T0 none 0 rfl rfl hM4 (txc_length _ _ _) ?_
          intro v5 hM5 hg5 hs5
          refine wpList_nil (hQ2 _ _ ?_)
          have hq5 : v5.rangeAt bq oq (cells (xs.take 32)) := range_kept hq4 hg5 (fun e => by injection e with e; omega) hbq4
          refine hK.out _ _ hq5 (fun hHeld => ?_)
          try clear hQ2
          clear hK K
          try simp only [Act.put, List.setIfInBounds_toArray, List.set_cons_zero, List.set_cons_succ]
          refine wpAnyH_done (by kernel_rfl) ?_ _
          go_wp2_with fail
          go_meet
          case rel => exact ⟨v3.heap.size, rfl, by omega, hM5.lt, Lib.hid hM5, Lib.hid (hc4.grown_above hg5 (by omega)), Lib.hid (hr4.keep hg5 (fun e => by injection e with e; omega)), Lib.hid (below_grown hb4 hg5 (by omega) (by omega))⟩
        · refine step_of_list rfl (fun Q2 hQ2 => ?_)
          refine alloc_tx rfl rfl ?_
          intro v6 hM6 hn6 hs6
          refine wpList_nil (hQ2 _ _ ?_)
          have hc6 := hc2.below hn6
          have hr6 := hr2.below (by omega) hn6
          have hb6 := hb2.trans (hn6.mono (by omega))
          have hz6 : w2.heap.size ≤ v6.heap.size := Nat.le_trans hz2 hn6.size
          have hMl6 : v2.heap.size < v6.heap.size := hM6.lt
          have hq6 : v6.rangeAt bq oq (cells (xs.take 32)) := range_below hq2 hn6 hbq2
          have hbq6 : bq < v6.heap.size := by omega
          refine hK.out _ _ hq6 (fun hHeld => ?_)
          try clear hQ2
          clear hK K
          try simp only [Act.put, List.setIfInBounds_toArray, List.set_cons_zero, List.set_cons_succ]
          refine wpAnyH_ready (rs := [8]) (by kernel_rfl) (by simp) ?_
          refine AllReadyH.cons (o := ⟨_, _, _, _, _, _⟩) rfl (fun K hK => ?_) AllReadyH.nil
          go_simp
          refine (num2 v6 g (xs.drop 34) hc6 Hd34.out Hm34.out).mono ?_
          rintro e v7 ⟨rfl, hc7, hg7⟩
          rw [HN34.out]
          try simp only []
          rw [List.drop_drop] at hc7
          have hr7 := hr6.keep hg7 (fun e => by injection e with e; omega)
          have hb7 := below_grown hb6 hg7 (by omega) (by omega)
          have hz7 : w2.heap.size ≤ v7.heap.size := Nat.le_trans hz6 hg7.size
          have hq7 : v7.rangeAt bq oq (cells (xs.take 32)) := range_kept hq6 hg7 (fun e => by injection e with e; omega) (by omega)
          have hbq7 : bq < v7.heap.size := Nat.lt_of_lt_of_le hbq6 hg7.size
          have hM7 := hM6.keep hg7 (fun e => by injection e with e; omega)
          have hMl7 : v2.heap.size < v7.heap.size := hM7.lt
          refine hK.out _ _ hq7 (fun hHeld => ?_)
          try clear hQ2
          clear hK K
          try simp only [Act.put, List.setIfInBounds_toArray, List.set_cons_zero, List.set_cons_succ]
          refine wpAnyH_take (i := 9) (oi := ⟨_, _, _, _, _, _⟩) (v := ?_) rfl (by kernel_rfl) (by kernel_rfl) (by kernel_rfl) (fun _ _ _ h => h) (Or.inl ⟨by rfl, ?_⟩) (by assumption) ?_
          rotate_left
          · intro W hSW; go_simp; try with_reducible rfl
          try simp only [Act.put, List.setIfInBounds_toArray, List.set_cons_zero, List.set_cons_succ]
          refine wpAnyH_take (i := 10) (oi := ⟨_, _, _, _, _, _⟩) (v := ?_) rfl (by kernel_rfl) (by kernel_rfl) (by kernel_rfl) (fun _ _ _ h => h) (Or.inl ⟨by rfl, ?_⟩) (by assumption) ?_
          rotate_left
          · intro W hSW; refine exec_built 25 #[(0, .tmp 11), (1, .tmp 14), (3, .tmp 17)] ?_ (txc T0 none 0) ?_
            · rfl
            · exact Hbu.out
          try simp only [Act.put, List.setIfInBounds_toArray, List.set_cons_zero, List.set_cons_succ]
          refine wpAnyH_ready (rs := [12]) (by kernel_rfl) (by simp) ?_
          refine AllReadyH.cons (o := ⟨_, _, _, _, _, _⟩) rfl (fun K hK => ?_) AllReadyH.nil
          refine step_of_list rfl (fun Q2 hQ2 => ?_)
          refine store_tx rfl _ _ rfl (v2.heap.size) T0 none 0 rfl rfl hM7 (txc_length _ _ _) ?_
          intro v8 hM8 hg8 hs8
          refine wpList_nil (hQ2 _ _ ?_)
          have hq8 : v8.rangeAt bq oq (cells (xs.take 32)) := range_kept hq7 hg8 (fun e => by injection e with e; omega) hbq7
          refine hK.out _ _ hq8 (fun hHeld => ?_)
          try clear hQ2
          clear hK K
          try simp only [Act.put, List.setIfInBounds_toArray, List.set_cons_zero, List.set_cons_succ]
          refine wpAnyH_done (by kernel_rfl) ?_ _
          go_wp2_with fail
          go_meet
          case rel => exact ⟨v2.heap.size, rfl, by omega, hM8.lt, Lib.hid hM8, Lib.hid (hc7.grown_above hg8 (by omega)), Lib.hid (hr7.keep hg8 (fun e => by injection e with e; omega)), Lib.hid (below_grown hb7 hg8 (by omega) (by omega))⟩
      · refine step_of_list rfl (fun Q2 hQ2 => ?_)
        refine alloc_tx rfl rfl ?_
        intro v9 hM9 hn9 hs9
        refine wpList_nil (hQ2 _ _ ?_)
        have hc9 := hc1.below hn9
        have hr9 := hr1.below (by omega) hn9
        have hb9 := hb1.trans (hn9.mono (by omega))
        have hz9 : w2.heap.size ≤ v9.heap.size := Nat.le_trans hz1 hn9.size
        have hMl9 : v1.heap.size < v9.heap.size := hM9.lt
        have hq9 : v9.rangeAt bq oq (cells (xs.take 32)) := range_below hq1 hn9 hbq
        have hbq9 : bq < v9.heap.size := by omega
        refine hK.out _ _ hq9 (fun hHeld => ?_)
        try clear hQ2
        clear hK K
        try simp only [Act.put, List.setIfInBounds_toArray, List.set_cons_zero, List.set_cons_succ]
        refine wpAnyH_ready (rs := [5]) (by kernel_rfl) (by simp) ?_
        refine AllReadyH.cons (o := ⟨_, _, _, _, _, _⟩) rfl (fun K hK => ?_) AllReadyH.nil
        go_simp
        refine (num2 v9 g (xs.drop 32) hc9 Hd32.out Hm32.out).mono ?_
        rintro e v10 ⟨rfl, hc10, hg10⟩
        rw [HN32.out]
        try simp only []
        rw [List.drop_drop] at hc10
        have hr10 := hr9.keep hg10 (fun e => by injection e with e; omega)
        have hb10 := below_grown hb9 hg10 (by omega) (by omega)
        have hz10 : w2.heap.size ≤ v10.heap.size := Nat.le_trans hz9 hg10.size
        have hq10 : v10.rangeAt bq oq (cells (xs.take 32)) := range_kept hq9 hg10 (fun e => by injection e with e; omega) (by omega)
        have hbq10 : bq < v10.heap.size := Nat.lt_of_lt_of_le hbq9 hg10.size
        have hM10 := hM9.keep hg10 (fun e => by injection e with e; omega)
        have hMl10 : v1.heap.size < v10.heap.size := hM10.lt
        refine hK.out _ _ hq10 (fun hHeld => ?_)
        try clear hQ2
        clear hK K
        try simp only [Act.put, List.setIfInBounds_toArray, List.set_cons_zero, List.set_cons_succ]
        refine wpAnyH_take (i := 6) (oi := ⟨_, _, _, _, _, _⟩) (v := ?_) rfl (by kernel_rfl) (by kernel_rfl) (by kernel_rfl) (fun _ _ _ h => h) (Or.inl ⟨by rfl, ?_⟩) (by assumption) ?_
        rotate_left
        · intro W hSW; go_simp; try with_reducible rfl
        try simp only [Act.put, List.setIfInBounds_toArray, List.set_cons_zero, List.set_cons_succ]
        refine wpAnyH_ready (rs := [8]) (by kernel_rfl) (by simp) ?_
        refine AllReadyH.cons (o := ⟨_, _, _, _, _, _⟩) rfl (fun K hK => ?_) AllReadyH.nil
        go_simp
        refine (num2 v10 g (xs.drop 34) hc10 Hd34.out Hm34.out).mono ?_
        rintro e v11 ⟨rfl, hc11, hg11⟩
        rw [HN34.out]
        try simp only []
        rw [List.drop_drop] at hc11
        have hr11 := hr10.keep hg11 (fun e => by injection e with e; omega)
        have hb11 := below_grown hb10 hg11 (by omega) (by omega)
        have hz11 : w2.heap.size ≤ v11.heap.size := Nat.le_trans hz10 hg11.size
        have hq11 : v11.rangeAt bq oq (cells (xs.take 32)) := range_kept hq10 hg11 (fun e => by injection e with e; omega) (by omega)
        have hbq11 : bq < v11.heap.size := Nat.lt_of_lt_of_le hbq10 hg11.size
        have hM11 := hM10.keep hg11 (fun e => by injection e with e; omega)
        have hMl11 : v1.heap.size < v11.heap.size := hM11.lt
        refine hK.out _ _ hq11 (fun hHeld => ?_)
        try clear hQ2
        clear hK K
        try simp only [Act.put, List.setIfInBounds_toArray, List.set_cons_zero, List.set_cons_succ]
        refine wpAnyH_take (i := 9) (oi := ⟨_, _, _, _, _, _⟩) (v := ?_) rfl (by kernel_rfl) (by kernel_rfl) (by kernel_rfl) (fun _ _ _ h => h) (Or.inl ⟨by rfl, ?_⟩) (by assumption) ?_
        rotate_left
        · intro W hSW; go_simp; try with_reducible rfl
        try simp only [Act.put, List.setIfInBounds_toArray, List.set_cons_zero, List.set_cons_succ]
        refine wpAnyH_take (i := 10) (oi := ⟨_, _, _, _, _, _⟩) (v := ?_) rfl (by kernel_rfl) (by kernel_rfl) (by kernel_rfl) (fun _ _ _ h => h) (Or.inl ⟨by rfl, ?_⟩) (by assumption) ?_
        rotate_left
        · intro W hSW; refine exec_built 25 #[(0, .tmp 11), (1, .tmp 14), (3, .tmp 17)] ?_ (txc T0 none 0) ?_
          · rfl
          · exact Hbu.out
        try simp only [Act.put, List.setIfInBounds_toArray, List.set_cons_zero, List.set_cons_succ]
        refine wpAnyH_ready (rs := [12]) (by kernel_rfl) (by simp) ?_
        refine AllReadyH.cons (o := ⟨_, _, _, _, _, _⟩) rfl (fun K hK => ?_) AllReadyH.nil
        refine step_of_list rfl (fun Q2 hQ2 => ?_)
        refine store_tx rfl _ _ rfl (v1.heap.size) T0 none 0 rfl rfl hM11 (txc_length _ _ _) ?_
        intro v12 hM12 hg12 hs12
        refine wpList_nil (hQ2 _ _ ?_)
        have hq12 : v12.rangeAt bq oq (cells (xs.take 32)) := range_kept hq11 hg12 (fun e => by injection e with e; omega) hbq11
        refine hK.out _ _ hq12 (fun hHeld => ?_)
        try clear hQ2
        clear hK K
        try simp only [Act.put, List.setIfInBounds_toArray, List.set_cons_zero, List.set_cons_succ]
        refine wpAnyH_done (by kernel_rfl) ?_ _
        go_wp2_with fail
        go_meet
        case rel => exact ⟨v1.heap.size, rfl, by omega, hM12.lt, Lib.hid hM12, Lib.hid (hc11.grown_above hg12 (by omega)), Lib.hid (hr11.keep hg12 (fun e => by injection e with e; omega)), Lib.hid (below_grown hb11 hg12 (by omega) (by omega))⟩
    · refine step_of_list rfl (fun Q2 hQ2 => ?_)
      refine alloc_tx rfl rfl ?_
      intro v13 hM13 hn13 hs13
      refine wpList_nil (hQ2 _ _ ?_)
      have hc13 := hcd.below hn13
      have hr13 := hrd.below (by omega) hn13
      have hb13 := hbd.trans (hn13.mono (by omega))
      have hz13 : w2.heap.size ≤ v13.heap.size := Nat.le_trans hzd hn13.size
      have hMl13 : wd.heap.size < v13.heap.size := hM13.lt
      refine hK.out _ _ trivial (fun hHeld => ?_)
      try clear hQ2
      clear hK K
      try simp only [Act.put, List.setIfInBounds_toArray, List.set_cons_zero, List.set_cons_succ]
      refine wpAnyH_ready (rs := [1]) (by kernel_rfl) (by simp) ?_
      refine AllReadyH.cons (o := ⟨_, _, _, _, _, _⟩) rfl (fun K hK => ?_) AllReadyH.nil
      go_simp
      refine (bytes32_any v13 g xs hc13 Hx.out Hxm.out).mono ?_
      rintro e v14 ⟨A14, c14, rfl, hl14, hg14, hc14, hf14⟩
      try simp only []
      obtain ⟨bq, oq, hA14, hbq, hcq⟩ := hl14 Hne.out
      subst hA14
      have hbf : v13.heap.size ≤ bq := hf14 _ rfl
      have hq14 : v14.rangeAt bq oq (cells (xs.take 32)) := fun j u hj => by obtain ⟨y, hy, rfl⟩ := cells_at hj; exact hcq j y hy
      have hr14 := hr13.keep hg14 (fun e => by injection e with e; omega)
      have hb14 := below_grown hb13 hg14 (by omega) (by omega)
      have hz14 : w2.heap.size ≤ v14.heap.size := Nat.le_trans hz13 hg14.size
      have hM14 := hM13.keep hg14 (fun e => by injection e with e; omega)
      have hMl14 : wd.heap.size < v14.heap.size := hM14.lt
      refine hK.out _ _ trivial (fun hHeld => ?_)
      try clear hQ2
      clear hK K
      try simp only [Act.put, List.setIfInBounds_toArray, List.set_cons_zero, List.set_cons_succ]
      refine wpAnyH_more (S' := fun W => W.rangeAt bq oq (cells (xs.take 32))) (fun _ _ => trivial) _ _ _ _ ?_
      clear hHeld
      have hHeld := hq14
      have hap1 := fun W => hap W (some ⟨bq, oq, none⟩) 32 c14 (by omega)
      refine wpAnyH_take (i := 2) (oi := ⟨_, _, _, _, _, _⟩) (v := ?_) rfl (by kernel_rfl) (by kernel_rfl) (by kernel_rfl) (fun _ _ _ h => h) (Or.inl ⟨by rfl, ?_⟩) (by assumption) ?_
      rotate_left
      · intro W hSW; go_simp; try with_reducible rfl
      try simp only [Act.put, List.setIfInBounds_toArray, List.set_cons_zero, List.set_cons_succ]
      refine wpAnyH_take (i := 3) (oi := ⟨_, _, _, _, _, _⟩) (v := ?_) rfl (by kernel_rfl) (by kernel_rfl) (by kernel_rfl) (fun _ _ _ h => h) (Or.inl ⟨by rfl, ?_⟩) (by assumption) ?_
      rotate_left
      · intro W hSW; refine exec_load_mid 22 (.tmp 10) ?_ bq oq ?_ (cells (xs.take 32)) _ hSW Try.underlying22 rfl Hsz.out <;> rfl
      try simp only [Act.put, List.setIfInBounds_toArray, List.set_cons_zero, List.set_cons_succ]
      refine wpAnyH_ready (rs := [5]) (by kernel_rfl) (by simp) ?_
      refine AllReadyH.cons (o := ⟨_, _, _, _, _, _⟩) rfl (fun K hK => ?_) AllReadyH.nil
      go_simp
      refine (num2 v14 g (xs.drop 32) hc14 Hd32.out Hm32.out).mono ?_
      rintro e v15 ⟨rfl, hc15, hg15⟩
      rw [HN32.out]
      try simp only []
      rw [List.drop_drop] at hc15
      have hr15 := hr14.keep hg15 (fun e => by injection e with e; omega)
      have hb15 := below_grown hb14 hg15 (by omega) (by omega)
      have hz15 : w2.heap.size ≤ v15.heap.size := Nat.le_trans hz14 hg15.size
      have hq15 : v15.rangeAt bq oq (cells (xs.take 32)) := range_kept hq14 hg15 (fun e => by injection e with e; omega) (by omega)
      have hbq15 : bq < v15.heap.size := Nat.lt_of_lt_of_le hbq hg15.size
      have hM15 := hM14.keep hg15 (fun e => by injection e with e; omega)
      have hMl15 : wd.heap.size < v15.heap.size := hM15.lt
      refine hK.out _ _ hq15 (fun hHeld => ?_)
      try clear hQ2
      clear hK K
      try simp only [Act.put, List.setIfInBounds_toArray, List.set_cons_zero, List.set_cons_succ]
      refine wpAnyH_take (i := 6) (oi := ⟨_, _, _, _, _, _⟩) (v := ?_) rfl (by kernel_rfl) (by kernel_rfl) (by kernel_rfl) (fun _ _ _ h => h) (Or.inl ⟨by rfl, ?_⟩) (by assumption) ?_
      rotate_left
      · intro W hSW; go_simp; try with_reducible rfl
      try simp only [Act.put, List.setIfInBounds_toArray, List.set_cons_zero, List.set_cons_succ]
      refine wpAnyH_ready (rs := [8]) (by kernel_rfl) (by simp) ?_
      refine AllReadyH.cons (o := ⟨_, _, _, _, _, _⟩) rfl (fun K hK => ?_) AllReadyH.nil
      go_simp
      refine (num2 v15 g (xs.drop 34) hc15 Hd34.out Hm34.out).mono ?_
      rintro e v16 ⟨rfl, hc16, hg16⟩
      rw [HN34.out]
      try simp only []
      rw [List.drop_drop] at hc16
      have hr16 := hr15.keep hg16 (fun e => by injection e with e; omega)
      have hb16 := below_grown hb15 hg16 (by omega) (by omega)
      have hz16 : w2.heap.size ≤ v16.heap.size := Nat.le_trans hz15 hg16.size
      have hq16 : v16.rangeAt bq oq (cells (xs.take 32)) := range_kept hq15 hg16 (fun e => by injection e with e; omega) (by omega)
      have hbq16 : bq < v16.heap.size := Nat.lt_of_lt_of_le hbq15 hg16.size
      have hM16 := hM15.keep hg16 (fun e => by injection e with e; omega)
      have hMl16 : wd.heap.size < v16.heap.size := hM16.lt
      refine hK.out _ _ hq16 (fun hHeld => ?_)
      try clear hQ2
      clear hK K
      try simp only [Act.put, List.setIfInBounds_toArray, List.set_cons_zero, List.set_cons_succ]
      refine wpAnyH_take (i := 9) (oi := ⟨_, _, _, _, _, _⟩) (v := ?_) rfl (by kernel_rfl) (by kernel_rfl) (by kernel_rfl) (fun _ _ _ h => h) (Or.inl ⟨by rfl, ?_⟩) (by assumption) ?_
      rotate_left
      · intro W hSW; go_simp; try with_reducible rfl
      try simp only [Act.put, List.setIfInBounds_toArray, List.set_cons_zero, List.set_cons_succ]
      refine wpAnyH_take (i := 10) (oi := ⟨_, _, _, _, _, _⟩) (v := ?_) rfl (by kernel_rfl) (by kernel_rfl) (by kernel_rfl) (fun _ _ _ h => h) (Or.inl ⟨by rfl, ?_⟩) (by assumption) ?_
      rotate_left
      · intro W hSW; refine exec_built 25 #[(0, .tmp 11), (1, .tmp 14), (3, .tmp 17)] ?_ (txc T0 none 0) ?_
        · rfl
        · exact Hbu.out
      try simp only [Act.put, List.setIfInBounds_toArray, List.set_cons_zero, List.set_cons_succ]
      refine wpAnyH_ready (rs := [12]) (by kernel_rfl) (by simp) ?_
      refine AllReadyH.cons (o := ⟨_, _, _, _, _, _⟩) rfl (fun K hK => ?_) AllReadyH.nil
      refine step_of_list rfl (fun Q2 hQ2 => ?_)
      refine store_tx rfl _ _ rfl (wd.heap.size) T0 none 0 rfl rfl hM16 (txc_length _ _ _) ?_
      intro v17 hM17 hg17 hs17
      refine wpList_nil (hQ2 _ _ ?_)
      have hq17 : v17.rangeAt bq oq (cells (xs.take 32)) := range_kept hq16 hg17 (fun e => by injection e with e; omega) hbq16
      refine hK.out _ _ hq17 (fun hHeld => ?_)
      try clear hQ2
      clear hK K
      try simp only [Act.put, List.setIfInBounds_toArray, List.set_cons_zero, List.set_cons_succ]
      refine wpAnyH_done (by kernel_rfl) ?_ _
      go_wp2_with fail
      go_meet
      case rel => exact ⟨wd.heap.size, rfl, by omega, hM17.lt, Lib.hid hM17, Lib.hid (hc16.grown_above hg17 (by omega)), Lib.hid (hr16.keep hg17 (fun e => by injection e with e; omega)), Lib.hid (below_grown hb16 hg17 (by omega) (by omega))⟩
  case rest =>
    obtain ⟨M, rfl, hgM, hMl, HM, HC, HR, HBc⟩ := hcut
    clear hc2 hr2 hB2 hap
    obtain ⟨m, hmm⟩ : ∃ m, countK n1 = m := ⟨_, rfl⟩
    have hm256 : m ≤ 256 := by rw [← hmm]; unfold countK; omega
    have hcnt := fun V : World => kcount_any (n1 : Int) V (by omega) (by omega)
    simp only [Int.toNat_natCast, hmm] at hcnt
    obtain ⟨sl, hsl⟩ : ∃ sl, slotsF xs m = sl := ⟨_, rfl⟩
    have Hsl : Hid (sl.length = m) := by show _ = _; rw [← hsl, slotsF_length]
    have Hget : Hid (∀ k, k < m → sl[k]? = some (((xs.getD (36 + k) 0).toNat : Nat) : Int)) := by
      show ∀ k, _ → _
      intro k hk
      rw [← hsl, slotsF, List.getElem?_map, List.getElem?_range hk]
      simp only [Option.map_some]
      rw [List.getD_eq_getElem?_getD, List.getElem?_drop, List.getD_eq_getElem?_getD]
    rw [hmm, hsl] at Hfl
    have c1 := tx_size HM.out
    rw [Hs0.out] at c1
    clear hmm hsl
    go_wp2_with fail
    refine (hcnt wc).mono ?_
    rintro e w4 ⟨rfl, rfl⟩
    go_wp2_with (at_make; refine wpList_make_full _ rfl _ _ 23 rfl wc.heap.size 3 i0 (.int .i64 0) 1 Try.underlying23 hi hz0 hz1 _ _ _ _ m rfl rfl rfl rfl (by rw [hz2]; omega) (by unfold maxLen; omega) (Nat.le_refl _) ?_)
    intro w5 hown hgrow
    have hb5 : Below wc.heap.size wc w5 := ⟨hgrow.os, hgrow.tape, hgrow.output, hgrow.size, fun k hk => hgrow.block k hk (by simp)⟩
    have hR5 : RowV w5 wc.heap.size 3 (madeCells #[Value.int .i64 0] m).toList := row_of_full hown
    have hR5' : Hid (RowV w5 wc.heap.size 3 (slv (upS sl 0 m))) := by
      show RowV _ _ _ _
      rw [upS_zero]
      have : slv (List.replicate m 0) = (madeCells #[Value.int .i64 0] m).toList := by rw [toList_madeCells_one]; simp [slv]
      rw [this]
      exact hR5
    obtain ⟨H, hH⟩ : ∃ H, wc.heap.size = H := ⟨_, rfl⟩
    have hM5 := HM.out.below hMl hb5
    have HC5 := Lib.hid (HC.out.below hb5)
    have HR5 := Lib.hid (HR.out.below (by omega) hb5)
    have HB5 := Lib.hid (HBc.out.trans (hb5.mono (by omega)))
    have hHl : H < w5.heap.size := by rw [← hH]; exact hR5'.out.lt
    rw [hH] at hR5' hMl ⊢
    clear hown hgrow hb5 hR5 HM HC HR HBc c1
    go_wp2_with ((with_reducible refine at_store 23 ?_); refine store_slots rfl _ _ rfl M (some ⟨H, 0, none⟩) sl m rfl (by rw [Hsl.out]; rfl) hM5 ?_)
    intro w6 hM6 hg6 hs6
    have HM6 : Hid (RowV w6 M 25 (txc FL (some ⟨H, 0, none⟩) m)) := by rw [Hfl.out]; exact hM6
    have HF : Hid (FL.slots = sl) := by rw [Hfl.out]; exact rfl
    have HR6 := Lib.hid (hR5'.out.keep hg6 (fun e => by injection e with e; omega))
    have HC6 := Lib.hid (HC5.out.grown_above hg6 hgM)
    have HN6 := Lib.hid (HR5.out.keep hg6 (fun e => by injection e with e; omega))
    have HB6 := Lib.hid (below_grown HB5.out hg6 (by omega) (by omega))
    have hl6 : H < w6.heap.size := by omega
    have HK6 : Hid (CurK w6 g xs 36) := ⟨_, _, HC6.out, by rw [List.length_drop]; omega, fun _ => ⟨rfl, rfl⟩, fun h => absurd h (by have := Hx.out; omega)⟩
    have c2 := tx_slots HM6.out
    rw [HF.out, Hsl.out] at c2
    clear hM5 hM6 hg6 hs6 hR5' HC5 HR5 HB5 HC6 hcnt
    go_wp2_with fail
    clear c2
    go_loopw [27] (fun v W => ∃ k : Nat, k ≤ m ∧ v = .int .i64 k ∧ Hid (RowV W M 25 (txc FL (some ⟨H, 0, none⟩) m)) ∧ Hid (RowV W H 3 (slv (upS sl k m))) ∧ Hid (CurK W g xs (36 + k)) ∧ Hid (RowV W N 25 (txc tx0 none 0)) ∧ Hid (Below N w W)) (fun v _ => m - (intOf v).toNat)
    case atStart => exact ⟨0, Nat.zero_le _, rfl, HM6, HR6, HK6, HN6, HB6⟩
    case round =>
      obtain ⟨k, hk, rfl, HM, HR, HK, HN, HB⟩ := hrel
      clear HM6 HR6 HK6 HN6 HB6
      by_cases hlt : k < m
      · have hs := Hget.out k hlt
        obtain ⟨x, hx⟩ : ∃ x, (xs.getD (36 + k) 0).toNat = x := ⟨_, rfl⟩
        have hx256 : x < 256 := by rw [← hx]; exact (xs.getD (36 + k) 0).toNat_lt
        have Hnum : Hid (∀ W, CurK W g xs (36 + k) → Calls Try.prog 32 #[.pointer (some ⟨g, 0, none⟩), .int .i64 1] W fun e w' => e = .returned (.int .u64 (x : Int)) ∧ CurK w' g xs (36 + k + 1) ∧ W.grownBy w' (some g)) := by
          show ∀ W, _ → _
          intro W hW
          have := num1_any W g xs (36 + k) hW Hxm.out
          rw [hx] at this
          exact this
        rw [hx] at hs
        have Hst := Lib.hid (upS_step Hsl.out hs)
        clear hs hx
        go_wp2_with fail
        have hMd : RowV wr.drew M 25 (txc FL (some ⟨H, 0, none⟩) m) := HM.out
        have hRd : RowV wr.drew H 3 (slv (upS sl k m)) := HR.out
        have hNd : RowV wr.drew N 25 (txc tx0 none 0) := HN.out
        have hKd : CurK wr.drew g xs (36 + k) := HK.out
        have hBd : Below N w wr.drew := HB.out.drew
        refine wp_region_held_drew (S := fun W => RowV W M 25 (txc FL (some ⟨H, 0, none⟩) m)) (by kernel_rfl) hMd (fun hHeld => ?_)
        clear HM HR HK HN HB
        obtain ⟨wd, hwd⟩ : ∃ wd, wr.drew = wd := ⟨_, rfl⟩
        rw [hwd] at hMd hRd hNd hKd hBd hHeld ⊢
        clear hwd
        have hkl := hKd.lt
        have hHl2 := hRd.lt
        have hw1 : IntKind.i64.wrap (x : Int) = x := IntWalk.i64_in _ (by omega)
        refine wpAnyH_take (i := 0) (oi := ⟨_, _, _, _, _, _⟩) (v := ?_) rfl (by kernel_rfl) (by kernel_rfl) (by kernel_rfl) (fun _ _ _ h => h) (Or.inl ⟨by rfl, ?_⟩) (by assumption) ?_
        rotate_left
        · intro W hSW; go_simp; try with_reducible rfl
        try simp only [Act.put, List.setIfInBounds_toArray, List.set_cons_zero, List.set_cons_succ]
        refine wpAnyH_take (i := 1) (oi := ⟨_, _, _, _, _, _⟩) (v := ?_) rfl (by kernel_rfl) (by kernel_rfl) (by kernel_rfl) (fun _ _ _ h => h) (Or.inl ⟨by rfl, ?_⟩) (by assumption) ?_
        rotate_left
        · intro W hSW; have hcq := tx_slots hSW; rw [HF.out, Hsl.out] at hcq; go_simp; try with_reducible rfl
        try simp only [Act.put, List.setIfInBounds_toArray, List.set_cons_zero, List.set_cons_succ]
        refine wpAnyH_take (i := 2) (oi := ⟨_, _, _, _, _, _⟩) (v := ?_) rfl (by kernel_rfl) (by kernel_rfl) (by kernel_rfl) (fun _ _ _ h => h) (Or.inl ⟨by rfl, ?_⟩) (by assumption) ?_
        rotate_left
        · intro W hSW; go_simp; try with_reducible rfl
        try simp only [Act.put, List.setIfInBounds_toArray, List.set_cons_zero, List.set_cons_succ]
        refine wpAnyH_take (i := 3) (oi := ⟨_, _, _, _, _, _⟩) (v := ?_) rfl (by kernel_rfl) (by kernel_rfl) (by kernel_rfl) (fun _ _ _ h => h) (Or.inl ⟨by rfl, ?_⟩) (by assumption) ?_
        rotate_left
        · intro W hSW; go_simp; try with_reducible rfl
        try simp only [Act.put, List.setIfInBounds_toArray, List.set_cons_zero, List.set_cons_succ]
        refine wpAnyH_ready (rs := [4]) (by kernel_rfl) (by simp) ?_
        refine AllReadyH.cons (o := ⟨_, _, _, _, _, _⟩) rfl (fun K hK => ?_) AllReadyH.nil
        go_simp
        refine (Hnum.out wd hKd).mono ?_
        rintro e v1 ⟨rfl, hK1, hg1⟩
        try simp only []
        have hM1 := hMd.keep hg1 (fun e => by injection e with e; omega)
        have hR1 := hRd.keep hg1 (fun e => by injection e with e; omega)
        have hN1 := hNd.keep hg1 (fun e => by injection e with e; omega)
        have hB1 := below_grown hBd hg1 (by omega) (by omega)
        refine hK.out _ _ hM1 (fun hHeld => ?_)
        clear hK K
        try simp only [Act.put, List.setIfInBounds_toArray, List.set_cons_zero, List.set_cons_succ]
        refine wpAnyH_take (i := 5) (oi := ⟨_, _, _, _, _, _⟩) (v := ?_) rfl (by kernel_rfl) (by kernel_rfl) (by kernel_rfl) (fun _ _ _ h => h) (Or.inl ⟨by rfl, ?_⟩) (by assumption) ?_
        rotate_left
        · intro W hSW; go_simp; try with_reducible rfl
        try simp only [Act.put, List.setIfInBounds_toArray, List.set_cons_zero, List.set_cons_succ]
        refine wpAnyH_take (i := 6) (oi := ⟨_, _, _, _, _, _⟩) (v := ?_) rfl (by kernel_rfl) (by kernel_rfl) (by kernel_rfl) (fun _ _ _ h => h) (Or.inl ⟨by rfl, ?_⟩) (by assumption) ?_
        rotate_left
        · intro W hSW; go_simp; try with_reducible rfl
        try simp only [Act.put, List.setIfInBounds_toArray, List.set_cons_zero, List.set_cons_succ]
        refine wpAnyH_ready (rs := [7]) (by kernel_rfl) (by simp) ?_
        refine AllReadyH.cons (o := ⟨_, _, _, _, _, _⟩) rfl (fun K hK => ?_) AllReadyH.nil
        refine step_of_list rfl (fun Q2 hQ2 => ?_)
        refine store_field rfl _ _ rfl H k (x : Int) rfl rfl hR1 (by rw [slv_length, upS_length Hsl.out hk]; exact hlt) ?_
        intro v2 hR2 hg2 hs2
        refine wpList_nil (hQ2 _ _ ?_)
        rw [slv_set, Hst.out] at hR2
        have hM2 := hM1.keep hg2 (fun e => by injection e with e; omega)
        refine hK.out _ _ hM2 (fun hHeld => ?_)
        try clear hQ2
        clear hK K
        try simp only [Act.put, List.setIfInBounds_toArray, List.set_cons_zero, List.set_cons_succ]
        refine wpAnyH_done (by kernel_rfl) ?_ _
        have hH1 : H < v1.heap.size := hR1.lt
        have HM2 := Lib.hid hM2
        have HR2 := Lib.hid hR2
        have HK2 := Lib.hid (hK1.grown_above hg2 (by omega))
        have HN2 := Lib.hid (hN1.keep hg2 (fun e => by injection e with e; omega))
        have HB2 := Lib.hid (below_grown hB1 hg2 (by omega) (by omega))
        clear hMd hRd hNd hKd hBd hHeld hw1 hK1 hg1 hM1 hR1 hN1 hB1 hR2 hg2 hs2 hM2
        go_wp2_with fail
        go_roundw
        all_goals first
          | (simp [intOf]; omega)
          | exact ⟨k + 1, by omega, by go_num, HM2, HR2, HK2, HN2, HB2⟩
      · obtain rfl : k = m := by omega
        have hRF : Hid (RowV wr H 3 (slv FL.slots)) := by rw [HF.out]; have := HR.out; rw [upS_all Hsl.out] at this; exact this
        have hMF := HM.out
        have hNF := HN.out
        have HBF := HB
        clear HM HR HK HN HB
        go_wp2_with first
          | ((with_reducible refine at_load 25 ?_); refine load_tx rfl _ rfl M rfl hMF ?_)
          | ((with_reducible refine at_store 25 ?_); refine store_tx rfl _ _ rfl N FL (some ⟨H, 0, none⟩) k rfl rfl hNF (txc_length _ _ _) ?_)
        intro w7 hN7 hg7 hs7
        have hlN := hNF.lt
        go_wp2_with fail
        exact bodyPost_ret (results_cell_row (fn := Try.f25) rfl _ _ N 25 _ (0, 0) _ rfl hN7 Try.underlying25 rfl (txc_info' _ _ _)) rfl ⟨H, by rw [HF.out, Hsl.out], hRF.out.keep hg7 (fun e => by injection e with e; omega), by rw [hN]; exact below_grown HBF.out hg7 (Nat.le_refl _) (by omega)⟩
end Go.Proofs.Ytkfhbngphkobfaa
