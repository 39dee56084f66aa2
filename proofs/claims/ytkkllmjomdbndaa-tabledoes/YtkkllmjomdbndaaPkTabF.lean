/-
  Layer 11: the reference's less, right, Find, far, goes.
  Layer 11: the contract of the reference's Put.
  Layer 11: the contracts of Len and find.
  Layer 11: the contract of insert.
  Layer 11: the contracts of the reference's Drop and lay.
  Layer 11: the contract of Put.
-/
import Derived.Test.YtkkllmjomdbndaaPkTabC
import Derived.Test.YtkkllmjomdbndaaPkTabH
import Derived.Test.YtkkllmjomdbndaaPkTabQ
namespace Go.Proofs.Ytkkllmjomdbndaa
open Go.RowKit
set_option linter.unusedVariables false
set_option linter.unusedSimpArgs false

set_option maxRecDepth 100000 in
set_option maxHeartbeats 1000000 in
theorem rright_any (w : World) (e : Ent) : Calls Try.prog 38 #[e.val] w fun r w' => r = .returned (.bool (decide e.ok)) ∧ Below w.heap.size w w' := by
  obtain ⟨a, s, c⟩ := e
  have Hok : ∀ b : Bool, (decide (1 ≤ c) && decide (c ≤ 1099511627776) && decide (0 ≤ s) && decide (s < 200)) = b → decide (Ent.ok ⟨a, s, c⟩) = b := by
    intro b h
    rw [← h, Bool.eq_iff_iff]
    simp only [Bool.and_eq_true, decide_eq_true_eq (p := Ent.ok _), decide_eq_true_eq, and_assoc]
    exact Iff.rfl
  go_enter Try.func38, Try.ntmps38
  go_wp2_with ((with_reducible refine at_box 32 ?_); refine wpList_box_rowV rfl 32 _ rfl (Ent.cs ⟨a, s, c⟩) rfl ?_)
  intro w1 hr1 hb1 hs1
  have c1 := hr1.cell (Ent.get_slot ⟨a, s, c⟩)
  have c2 := hr1.cell (Ent.get_count ⟨a, s, c⟩)
  simp only at c1 c2
  by_cases h1 : 1 ≤ c
  · by_cases h2 : c ≤ 1099511627776
    · by_cases h3 : 0 ≤ s
      · have g1 : decide (1 ≤ c) = true := decide_eq_true h1
        have g2 : decide (c ≤ 1099511627776) = true := decide_eq_true h2
        have g3 : decide (0 ≤ s) = true := decide_eq_true h3
        have Hb := Lib.hid (Hok (decide (s < 200)) (by simp [g1, g2, g3]))
        clear Hok
        go_wp2_with fail
        all_goals
          go_ret
          exact ⟨by rw [Hb.out]; rfl, hb1⟩
      · have g1 : decide (1 ≤ c) = true := decide_eq_true h1
        have g2 : decide (c ≤ 1099511627776) = true := decide_eq_true h2
        have g3 : decide (0 ≤ s) = false := decide_eq_false h3
        have Hb := Lib.hid (Hok false (by simp [g3]))
        clear Hok
        go_wp2_with fail
        all_goals
          go_ret
          exact ⟨by rw [Hb.out]; rfl, hb1⟩
    · have g1 : decide (1 ≤ c) = true := decide_eq_true h1
      have g2 : decide (c ≤ 1099511627776) = false := decide_eq_false h2
      have Hb := Lib.hid (Hok false (by simp [g2]))
      clear Hok
      go_wp2_with fail
      all_goals
        go_ret
        exact ⟨by rw [Hb.out]; rfl, hb1⟩
  · have g1 : decide (1 ≤ c) = false := decide_eq_false h1
    have Hb := Lib.hid (Hok false (by simp [g1]))
    clear Hok
    go_wp2_with fail
    all_goals
      go_ret
      exact ⟨by rw [Hb.out]; rfl, hb1⟩

set_option maxRecDepth 100000 in
set_option maxHeartbeats 4000000 in
theorem rless_any (a b : List UInt8) (ha : a.length = 32) (hb : b.length = 32) (w : World) : Calls Try.prog 39 #[.agg (cells a).toArray, .agg (cells b).toArray] w fun e w' => e = .returned (.bool (Op.bytesLess a b)) ∧ Below w.heap.size w w' := by
  have Ha := Lib.hid ha
  have Hb := Lib.hid hb
  clear ha hb
  go_enter Try.func39, Try.ntmps39
  go_wp2_with (with_reducible refine at_box 23 ?_; refine wpList_box_rowV rfl 23 _ rfl (cells a) rfl ?_)
  intro w1 hr1 hb1 hs1
  refine wpList_box_rowV rfl 23 _ rfl (cells b) rfl ?_
  intro w2 hr2 hb2 hs2
  rw [hs1] at hr2 hb2 ⊢
  have HR1 : Hid (RowV w2 w.heap.size 23 (cells a)) := hr1.below (by omega) hb2
  have HR2 := Lib.hid hr2
  have HB2 : Hid (Below w.heap.size w w2) := hb1.trans (hb2.mono (by omega))
  clear hr1 hb1 hb2 hs2 hr2 hs1
  obtain ⟨N, hN⟩ : ∃ N, w.heap.size = N := ⟨_, rfl⟩
  rw [hN] at HR1 HR2 HB2 ⊢
  go_wp2_with fail
  have hlA : Try.prog.arrayLen 23 = 32 := by kernel_rfl
  go_loopw [5] (fun v W => ∃ k : Nat, k ≤ 32 ∧ v = .int .i64 k ∧ Hid (Op.bytesLess a b = Op.bytesLess (a.drop k) (b.drop k)) ∧ Hid (RowV W N 23 (cells a)) ∧ Hid (RowV W (N + 1) 23 (cells b)) ∧ Hid (Below N w W)) (fun v _ => 32 - (intOf v).toNat)
  case atStart => exact ⟨0, by omega, rfl, rfl, HR1, HR2, HB2⟩
  case round =>
    obtain ⟨k, hk, rfl, HK, HA, HB, HW⟩ := hrel
    clear HR1 HR2 HB2
    by_cases hlt : k < 32
    · obtain ⟨x, hx⟩ : ∃ x, a[k]? = some x := ⟨_, List.getElem?_eq_getElem (by rw [Ha.out]; exact hlt)⟩
      obtain ⟨y, hy⟩ : ∃ y, b[k]? = some y := ⟨_, List.getElem?_eq_getElem (by rw [Hb.out]; exact hlt)⟩
      have cx : wr.drew.cell? ⟨N, k, none⟩ = _ := HA.out.drew.cell (cells_get hx)
      have cy : wr.drew.cell? ⟨N + 1, k, none⟩ = _ := HB.out.drew.cell (cells_get hy)
      have HK1 : Hid (Op.bytesLess a b = (decide (x < y) || (x == y && Op.bytesLess (a.drop (k + 1)) (b.drop (k + 1))))) := by
        show _ = _
        obtain ⟨a1, a2⟩ := List.getElem?_eq_some_iff.1 hx
        obtain ⟨b1, b2⟩ := List.getElem?_eq_some_iff.1 hy
        rw [HK.out, List.drop_eq_getElem_cons a1, List.drop_eq_getElem_cons b1, a2, b2]
        rfl
      have hxl := x.toNat_lt
      have hyl := y.toNat_lt
      have hk32 : (k : Int) < 32 := by omega
      have hk0 : (0 : Int) ≤ (k : Int) := by omega
      clear hx hy
      go_wp2_with fail
      refine wp_region_still_lit (by kernel_rfl) (by kernel_rfl) ?_
      iterate 7 still_step
      refine wpStill_nil ?_
      change Exit.then _ _ _ _ wr.drew
      have HAd : Hid (RowV wr.drew N 23 (cells a)) := HA.out.drew
      have HBd : Hid (RowV wr.drew (N + 1) 23 (cells b)) := HB.out.drew
      have HWd : Hid (Below N w wr.drew) := HW.out.drew
      clear HA HB HW
      generalize wr.drew = wd at *
      by_cases hxy : x = y
      · have hd : ((x.toNat : Int) == (y.toNat : Int)) = true := by rw [beq_iff_eq, hxy]
        have HK2 : Hid (Op.bytesLess a b = Op.bytesLess (a.drop (k + 1)) (b.drop (k + 1))) := by
          show _ = _
          rw [HK1.out, hxy]
          have : ¬ y < y := UInt8.lt_irrefl _
          simp [this]
        clear cx cy HK1
        go_wp2_with fail
        go_roundw
        case rel => exact ⟨k + 1, by omega, by go_num, HK2, HAd, HBd, HWd⟩
        case measure => simp [intOf]; omega
      · have hne : x.toNat ≠ y.toNat := fun e => hxy (UInt8.toNat_inj.1 e)
        have hd : ((x.toNat : Int) == (y.toNat : Int)) = false := by rw [beq_eq_false_iff_ne]; omega
        have HK2 : Hid (Op.bytesLess a b = decide (x.toNat < y.toNat)) := by
          show _ = _
          rw [HK1.out]
          have h1 : (x == y) = false := by rw [beq_eq_false_iff_ne]; exact hxy
          rw [h1, Bool.false_and, Bool.or_false, decide_eq_decide]
          exact UInt8.lt_iff_toNat_lt
        have cx2 : wd.drew.cell? ⟨N, k, none⟩ = _ := cx
        have cy2 : wd.drew.cell? ⟨N + 1, k, none⟩ = _ := cy
        go_wp2_with fail
        refine wp_region_still_tail 7 (by kernel_rfl) (by kernel_rfl) ?_
        simp only [List.take_succ_cons, List.take_zero, List.drop_succ_cons, List.drop_zero]
        iterate 7 still_step
        refine wpStill_nil ?_
        change wpList _ _ _ _ _ wd.drew
        go_wp2_with fail
        go_ret
        exact ⟨by rw [HK2.out]; rfl, by rw [hN]; exact HWd.out.drew⟩
    · obtain rfl : k = 32 := by omega
      have HK2 : Hid (Op.bytesLess a b = false) := by
        show _ = _
        rw [HK.out, List.drop_eq_nil_of_le (by rw [Ha.out]; exact Nat.le_refl _), List.drop_eq_nil_of_le (by rw [Hb.out]; exact Nat.le_refl _)]
        rfl
      have hd32 : decide (((32 : Nat) : Int) < 32) = false := by decide
      go_wp2_with fail
      go_ret
      exact ⟨by rw [HK2.out]; rfl, by rw [hN]; exact HW.out⟩

set_option maxRecDepth 100000 in
set_option maxHeartbeats 1000000 in
theorem rfar_any (w : World) (n : Nat) (hn : 0 < n) (hle : n ≤ 1000) (a : Adr) (p : Nat) (hp : p < n) :
    Calls Try.prog 46 #[a.val, .int .i64 (p : Int), .int .i64 (n : Int)] w fun r w' => r = .returned (.int .i64 (((ruleT n hn).far a p : Nat) : Int)) ∧ Below w.heap.size w w' := by
  have Hsz := Lib.hid (adr_size a)
  have Hr := Lib.hid (home_rule n hn a)
  go_enter Try.func46, Try.ntmps46
  go_wp2_with (with_reducible refine at_box 23 ?_; refine wpList_box_rowV rfl 23 _ rfl (cells a.1) rfl ?_)
  intro w1 hr1 hb1 hs1
  have Q := Lib.hid (row_range hr1)
  go_wp2_with ((with_reducible refine at_load 23 ?_); refine wpList_load_mid rfl 23 _ rfl w.heap.size 0 rfl (cells a.1) _ Q.out Try.underlying23 rfl Hsz.out ?_)
  refine (rhome_any a.1 a.2 (n : Int) w1 (by omega)).mono ?_
  rintro e w2 ⟨rfl, hb2⟩
  rw [Hr.out]
  have hh : (ruleT n hn).home a < n := (ruleT n hn).home_lt a
  have Hf : Hid ((ruleT n hn).far a p = if (ruleT n hn).home a ≤ p then p - (ruleT n hn).home a else p + n - (ruleT n hn).home a) := rfl
  have HB : Hid (Below w.heap.size w w2) := hb1.trans (hb2.mono (by omega))
  clear hr1 hb1 hb2 Q hs1 Hr
  generalize (ruleT n hn).home a = q at *
  by_cases hq : q ≤ p
  · have hd : decide ((p : Int) ≥ (q : Int)) = true := decide_eq_true (by omega)
    have hd' : decide ((q : Int) ≤ (p : Int)) = true := decide_eq_true (by omega)
    rw [if_pos hq] at Hf
    go_wp2_with fail
    go_ret
    refine ⟨?_, HB.out⟩
    rw [Hf.out, Int.ofNat_sub hq]
    rfl
  · have hd : decide ((p : Int) ≥ (q : Int)) = false := decide_eq_false (by omega)
    have hd' : decide ((q : Int) ≤ (p : Int)) = false := decide_eq_false (by omega)
    rw [if_neg hq] at Hf
    go_wp2_with fail
    go_ret
    refine ⟨?_, HB.out⟩
    rw [Hf.out, Int.ofNat_sub (by omega), Int.natCast_add]
    rfl

set_option maxRecDepth 100000 in
set_option maxHeartbeats 4000000 in
theorem rgoes_any (w : World) (n : Nat) (hn : 0 < n) (hle : n ≤ 1000) (a b : Adr) (p : Nat) (hp : p < n) :
    Calls Try.prog 43 #[a.val, b.val, .int .i64 (p : Int), .int .i64 (n : Int)] w fun r w' => r = .returned (.bool (goesB n hn a b p)) ∧ Below w.heap.size w w' := by
  have HszA := Lib.hid (adr_size a)
  have HszB := Lib.hid (adr_size b)
  go_enter Try.func43, Try.ntmps43
  go_wp2_with (with_reducible refine at_box 23 ?_; refine wpList_box_rowV rfl 23 _ rfl (cells a.1) rfl ?_)
  intro w1 hr1 hb1 hs1
  refine wpList_box_rowV rfl 23 _ rfl (cells b.1) rfl ?_
  intro w2 hr2 hb2 hs2
  rw [hs1] at hr2 hb2 ⊢
  have hr1' := hr1.below (by omega) hb2
  have hB2 : Below w.heap.size w w2 := hb1.trans (hb2.mono (by omega))
  obtain ⟨N, hN⟩ : ∃ N, w.heap.size = N := ⟨_, rfl⟩
  have hs2' : w2.heap.size = N + 2 := by omega
  rw [hN] at hr2 hr1' hB2 ⊢
  clear hr1 hb1 hb2 hs1 hs2
  have q1 := Lib.hid (row_range hr1')
  go_wp2_with ((with_reducible refine at_load 23 ?_); refine wpList_load_mid rfl 23 _ rfl N 0 rfl (cells a.1) _ q1.out Try.underlying23 rfl HszA.out ?_)
  refine (rfar_any w2 n hn hle a p hp).mono ?_
  rintro e w3 ⟨rfl, hb3⟩
  have ha3 : RowV w3 N 23 (cells a.1) := hr1'.below (by omega) hb3
  have hb3' : RowV w3 (N + 1) 23 (cells b.1) := hr2.below (by omega) hb3
  have hB3 : Below N w w3 := hB2.trans (hb3.mono (by omega))
  have hs3 : N + 2 ≤ w3.heap.size := by have := hb3.size; omega
  clear hr1' hr2 hb3 hB2 hs2' q1
  have q2 := Lib.hid (row_range hb3')
  go_wp2_with ((with_reducible refine at_load 23 ?_); refine wpList_load_mid rfl 23 _ rfl (N + 1) 0 rfl (cells b.1) _ q2.out Try.underlying23 rfl HszB.out ?_)
  refine (rfar_any w3 n hn hle b p hp).mono ?_
  rintro e w4 ⟨rfl, hb4⟩
  have HA := Lib.hid (row_range (ha3.below (by omega) hb4))
  have HB := Lib.hid (row_range (hb3'.below (by omega) hb4))
  have HB4 : Hid (Below N w w4) := hB3.trans (hb4.mono (by omega))
  have hs4 : N ≤ w4.heap.size := by have := hb4.size; omega
  have Hg : Hid (goesB n hn a b p = (decide ((ruleT n hn).far b p < (ruleT n hn).far a p) || (decide ((ruleT n hn).far b p = (ruleT n hn).far a p) && Op.bytesLess a.1 b.1))) := rfl
  clear ha3 hb3' hb4 hB3 hs3 q2
  generalize (ruleT n hn).far b p = y at *
  generalize (ruleT n hn).far a p = x at *
  by_cases h1 : y < x
  · have hd : decide ((x : Int) > (y : Int)) = true := decide_eq_true (by omega)
    have hd' : decide ((y : Int) < (x : Int)) = true := decide_eq_true (by omega)
    rw [decide_eq_true h1] at Hg
    go_wp2_with fail
    go_ret
    exact ⟨by rw [Hg.out]; rfl, by rw [hN]; exact HB4.out⟩
  · have hd : decide ((x : Int) > (y : Int)) = false := decide_eq_false (by omega)
    have hd' : decide ((y : Int) < (x : Int)) = false := decide_eq_false (by omega)
    rw [decide_eq_false h1] at Hg
    by_cases h2 : y = x
    · have hd2 : ((x : Int) == (y : Int)) = true := by rw [beq_iff_eq]; omega
      rw [decide_eq_true h2] at Hg
      go_wp2_with (first
        | ((with_reducible refine at_loadG 23 ?_); refine wpList_load_midG rfl 23 _ rfl N 0 rfl (cells a.1) _ HA.out Try.underlying23 rfl HszA.out ?_)
        | ((with_reducible refine at_loadG 23 ?_); refine wpList_load_midG rfl 23 _ rfl (N + 1) 0 rfl (cells b.1) _ HB.out Try.underlying23 rfl HszB.out ?_))
      refine (rless_any a.1 b.1 a.2 b.2 w4).mono ?_
      rintro r w5 ⟨rfl, hb5⟩
      go_wp2_with fail
      go_ret
      exact ⟨by rw [Hg.out]; rfl, by rw [hN]; exact HB4.out.trans (hb5.mono hs4)⟩
    · have hd2 : ((x : Int) == (y : Int)) = false := by rw [beq_eq_false_iff_ne]; omega
      rw [decide_eq_false h2] at Hg
      go_wp2_with fail
      go_ret
      exact ⟨by rw [Hg.out]; rfl, by rw [hN]; exact HB4.out⟩

/-- Where an address stands in a list. -/
def FindP (l : List Ent) (a : Adr) (r : Int) : Prop := (∃ (k : Nat) (e : Ent), r = k ∧ l[k]? = some e ∧ e.adr = a) ∨ (r = -1 ∧ ∀ e ∈ l, e.adr ≠ a)

set_option maxRecDepth 100000 in
set_option maxHeartbeats 4000000 in
theorem rfind_any (w : World) (B n c : Nat) (A : Option Addr) (l : List Ent) (a : Adr) (h : LiesV w B A (ents l)) (hn : n = l.length) (hB : B ≤ w.heap.size) (hle : n ≤ 1000) (hc : n ≤ c) :
    Calls Try.prog 12 #[.slice A n c, a.val] w fun r w' => (∃ k, r = .returned (.int .i64 k) ∧ FindP l a k) ∧ Below w.heap.size w w' := by
  have HL := Lib.hid h
  have Hn := Lib.hid hn
  have HszA := Lib.hid (adr_size a)
  clear h hn
  go_enter Try.func12, Try.ntmps12
  go_wp2_with (with_reducible refine at_box 23 ?_; refine wpList_box_rowV rfl 23 _ rfl (cells a.1) rfl ?_)
  intro w1 hr1 hb1 hs1
  have HR1 := Lib.hid hr1
  have HB1 := Lib.hid hb1
  clear hr1 hb1 hs1
  obtain ⟨N, hN⟩ : ∃ N, w.heap.size = N := ⟨_, rfl⟩
  rw [hN] at HR1 HB1 hB ⊢
  go_wp2_with fail
  go_loopw [5] (fun v W => ∃ k : Nat, k ≤ n ∧ v = .int .i64 k ∧ Hid (∀ e ∈ l.take k, e.adr ≠ a) ∧ Hid (RowV W N 23 (cells a.1)) ∧ Hid (Below N w W)) (fun v _ => n - (intOf v).toNat)
  case atStart => exact ⟨0, Nat.zero_le _, rfl, by show ∀ _, _; simp, HR1, HB1⟩
  case round =>
    obtain ⟨k, hk, rfl, HK, HR, HB⟩ := hrel
    clear HR1 HB1
    by_cases hlt : k < n
    · have hlt' : (k : Int) < (n : Int) := by omega
      have hk0 : (0 : Int) ≤ (k : Int) := by omega
      obtain ⟨e, he⟩ : ∃ e, l[k]? = some e := ⟨_, List.getElem?_eq_getElem (by rw [← Hn.out]; exact hlt)⟩
      obtain ⟨b1, o1, hA1, hb1, hr1⟩ := lies_ent (HL.out.below (HB.out.mono hB)) he
      subst hA1
      have r1 : Hid (wr.drew.rangeAt b1 (o1 + k * 34) (cells e.adr.1)) := adr_of hr1
      have r2 : Hid (wr.drew.rangeAt N 0 (cells a.1)) := row_range HR.out.drew
      have HszE := Lib.hid (adr_size e.adr)
      have He := Lib.hid he
      clear hr1 he
      go_wp2_with fail
      refine wp_region_still_lit (by kernel_rfl) (by kernel_rfl) ?_
      iterate 4 still_step
      refine wpStill_exec (.agg (cells e.adr.1).toArray) rfl (by refine exec_load_mid 23 (.tmp 15) ?_ b1 (o1 + k * 34) ?_ (cells e.adr.1) _ r1.out Try.underlying23 rfl HszE.out <;> rfl) ?_
      try simp only [Act.put, List.setIfInBounds_toArray, List.set_cons_zero, List.set_cons_succ]
      refine wpStill_exec (.agg (cells a.1).toArray) rfl (by refine exec_load_mid 23 (.tmp 3) ?_ N 0 ?_ (cells a.1) _ r2.out Try.underlying23 rfl HszA.out <;> rfl) ?_
      try simp only [Act.put, List.setIfInBounds_toArray, List.set_cons_zero, List.set_cons_succ]
      refine wpStill_exec (.bool (e.adr.1 == a.1)) rfl (by refine exec_eql_bytes 23 (.tmp 16) (.tmp 17) 23 ?_ Try.underlying23 Try.underlying5 (by kernel_rfl) (by kernel_rfl) ?_ ?_ e.adr.2 a.2 <;> rfl) ?_
      try simp only [Act.put, List.setIfInBounds_toArray, List.set_cons_zero, List.set_cons_succ]
      refine wpStill_nil ?_
      change Exit.then _ _ _ _ wr.drew
      have HRd : Hid (RowV wr.drew N 23 (cells a.1)) := HR.out.drew
      have HBd : Hid (Below N w wr.drew) := HB.out.drew
      clear HR HB
      generalize wr.drew = wd at *
      by_cases ha : e.adr = a
      · have hb : (e.adr.1 == a.1) = true := by rw [ha]; exact beq_self_eq_true _
        rw [hb]
        go_wp2_with fail
        go_ret
        exact ⟨⟨_, rfl, .inl ⟨k, e, rfl, He.out, ha⟩⟩, by rw [hN]; exact HBd.out⟩
      · have hb : (e.adr.1 == a.1) = false := by rw [beq_eq_false_iff_ne]; exact fun e => ha (Subtype.ext e)
        rw [hb]
        have HK1 : Hid (∀ x ∈ l.take (k + 1), x.adr ≠ a) := by
          intro x hx
          obtain ⟨q1, q2⟩ := List.getElem?_eq_some_iff.1 He.out
          rw [List.take_succ_eq_append_getElem q1, q2] at hx
          rcases List.mem_append.1 hx with h1 | h1
          · exact HK.out x h1
          · rw [List.mem_singleton.1 h1]; exact ha
        clear r1 r2
        go_wp2_with fail
        go_roundw
        case rel => exact ⟨k + 1, by omega, by go_num, HK1, HRd, HBd⟩
        case measure => simp [intOf]; omega
    · obtain rfl : k = n := by omega
      have HK1 : Hid (∀ x ∈ l, x.adr ≠ a) := by
        have := HK.out
        rw [List.take_of_length_le (by rw [← Hn.out]; exact Nat.le_refl _)] at this
        exact this
      go_wp2_with fail
      go_ret
      exact ⟨⟨_, rfl, .inr ⟨rfl, HK1.out⟩⟩, by rw [hN]; exact HB.out⟩
end Go.Proofs.Ytkkllmjomdbndaa
namespace Go.Proofs.Ytkkllmjomdbndaa
open Go.RowKit
set_option linter.unusedVariables false
set_option linter.unusedSimpArgs false

theorem range_below {w w' : World} {b o B : Nat} {cs : List Value} (h : w.rangeAt b o cs) (hB : Below B w w') (hb : b < B) : w'.rangeAt b o cs := fun j v hj => (hB.cell (p := ⟨b, o + j, none⟩) hb).trans (h j v hj)
/-- A row of entries, nil let in. -/
def RowE (w : World) (v : Value) (l : List Ent) : Prop := ∃ A c, v = .slice A l.length c ∧ l.length ≤ c ∧ LiesV w w.heap.size A (ents l)
theorem RowE.later {w w' : World} {v : Value} {l : List Ent} (h : RowE w v l) (hB : Below w.heap.size w w') : RowE w' v l := by
  obtain ⟨A, c, hv, hc, hl⟩ := h
  exact ⟨A, c, hv, hc, (hl.below hB).le hB.size⟩
theorem RowE.but {w w' : World} {v : Value} {l : List Ent} {L : List Nat} {B : Nat} (h : ∃ A c, v = .slice A l.length c ∧ l.length ≤ c ∧ LiesV w B A (ents l)) (hB : B ≤ w'.heap.size) (hk : ∀ p : Addr, p.block < B → w'.cell? p = w.cell? p) : RowE w' v l := by
  obtain ⟨A, c, hv, hc, hl⟩ := h
  exact ⟨A, c, hv, hc, (hl.keep hk).le hB⟩
theorem RowE.own {w : World} {base n : Nat} {v : Value} {l : List Ent} (h : w.ownsRow base 32 34 v n (ents l)) : RowE w v l := by
  obtain ⟨A, c, hv, hn, hc, _, hl⟩ := lies_ownE h
  subst hn
  exact ⟨A, c, hv, hc, hl⟩
theorem RowE.nil (w : World) : RowE w (.slice none 0 0) [] := ⟨none, 0, rfl, Nat.le_refl _, LiesV.nil _ _ _⟩
/-- What the reference's Put answers. -/
def RPutP (l : List Ent) (n : Nat) (e : Ent) (code : Int) (l' : List Ent) : Prop :=
  (¬ e.ok ∧ code = 2 ∧ l' = l) ∨ (e.ok ∧ (∃ f ∈ l, f.adr = e.adr) ∧ code = 0 ∧ l' = putR l e) ∨ (e.ok ∧ (∀ f ∈ l, f.adr ≠ e.adr) ∧ n ≤ l.length + 1 ∧ code = 6 ∧ l' = l) ∨ (e.ok ∧ (∀ f ∈ l, f.adr ≠ e.adr) ∧ l.length + 1 < n ∧ code = 0 ∧ l' = putR l e)

set_option maxRecDepth 100000 in
set_option maxHeartbeats 16000000 in
theorem rput_any (w : World) (v : Value) (l : List Ent) (tn : Nat) (e : Ent) (h : RowE w v l) (hd : Dst l) (hle : l.length ≤ 900) (htn : tn ≤ 1000) :
    Calls Try.prog 27 #[v, .int .i64 (tn : Int), e.val] w fun r w' => ∃ code l' v', r = .returned (.tuple #[v', .int .i64 code]) ∧ RowE w' v' l' ∧ (v' = v ∨ ∀ g, v'.ownBlock = some g → w.heap.size ≤ g) ∧ RPutP l tn e code l' ∧ Below w.heap.size w w' := by
  obtain ⟨A, c, rfl, hc, hl⟩ := h
  have HL := Lib.hid hl
  have Hd := Lib.hid hd
  have Hse := Lib.hid (ent_size e)
  have HszE := Lib.hid (adr_size e.adr)
  have HRow : Hid (∀ w', Below w.heap.size w w' → RowE w' (.slice A l.length c) l) := fun w' hb => ⟨A, c, rfl, hc, (hl.below hb).le hb.size⟩
  obtain ⟨n, hn⟩ : ∃ n, l.length = n := ⟨_, rfl⟩
  have Hn := Lib.hid hn
  rw [hn] at hc hle HRow ⊢
  clear hl hd hn
  go_enter Try.func27, Try.ntmps27
  go_wp2_with ((with_reducible refine at_box 32 ?_); refine wpList_box_rowV rfl 32 _ rfl e.cs rfl ?_)
  intro w1 hr1 hb1 hs1
  have q1 := Lib.hid (row_range hr1)
  go_wp2_with ((with_reducible refine at_load 32 ?_); refine wpList_load_mid rfl 32 _ rfl w.heap.size 0 rfl e.cs _ q1.out Try.underlying32 rfl Hse.out ?_)
  refine (rright_any w1 e).mono ?_
  rintro r w2 ⟨rfl, hb2⟩
  have HR2 : Hid (RowV w2 w.heap.size 32 e.cs) := hr1.below (by omega) hb2
  have HB2 : Hid (Below w.heap.size w w2) := hb1.trans (hb2.mono (by omega))
  have hs2 : w.heap.size + 1 ≤ w2.heap.size := by have := hb2.size; omega
  clear hr1 hb1 hs1 hb2 q1
  by_cases hok : e.ok
  · rw [decide_eq_true hok]
    have Hok := Lib.hid hok
    have q2 : Hid (w2.rangeAt w.heap.size 0 (cells e.adr.1)) := adr_of (row_range HR2.out)
    obtain ⟨N, hN⟩ : ∃ N, w.heap.size = N := ⟨_, rfl⟩
    have HL0 : Hid (LiesV w N A (ents l)) := by rw [← hN]; exact HL.out
    rw [hN] at HB2 HR2 q2 hs2 HRow ⊢
    have HL2 : Hid (LiesV w2 N A (ents l)) := HL0.out.below HB2.out
    clear hok
    go_wp2_with ((with_reducible refine at_load 23 ?_); refine wpList_load_mid rfl 23 _ rfl N 0 rfl (cells e.adr.1) _ q2.out Try.underlying23 rfl HszE.out ?_)
    refine (rfind_any w2 N n c A l e.adr HL2.out Hn.out.symm (by omega) (by omega) hc).mono ?_
    rintro r w3 ⟨⟨kk, rfl, hf⟩, hb3⟩
    have HR3 : Hid (RowV w3 N 32 e.cs) := HR2.out.below (by omega) hb3
    have HB3 : Hid (Below N w w3) := HB2.out.trans (hb3.mono (by omega))
    have hs3 : N + 1 ≤ w3.heap.size := by have := hb3.size; omega
    clear HR2 HB2 hb3 q2 HL2 hs2
    -- the table is full, or the list is walked
    have key : (kk < 0 ∧ tn ≤ n + 1 ∧ (∀ f ∈ l, f.adr ≠ e.adr)) ∨ (¬ (kk < 0 ∧ tn ≤ n + 1) ∧ (∀ l', l' = putR l e → RPutP l tn e 0 l') ∧ ∀ (i : Nat) (x : Ent), l[i]? = some x → (((i : Int) == kk) = decide (x.adr = e.adr))) := by
      rcases hf with ⟨k, f, rfl, hk, ha⟩ | ⟨rfl, hno⟩
      · refine .inr ⟨by omega, fun l' h => .inr (.inl ⟨Hok.out, ⟨f, List.mem_of_getElem? hk, ha⟩, rfl, h⟩), fun i x hx => ?_⟩
        rw [Bool.eq_iff_iff, beq_iff_eq, decide_eq_true_eq]
        constructor
        · intro h
          have : i = k := by omega
          subst this
          rw [hk] at hx
          cases hx
          exact ha
        · intro h
          have hij : ∀ (i j : Nat) (x y : Ent), i < j → l[i]? = some x → l[j]? = some y → x.adr ≠ y.adr := by
            intro i j x y hij h1 h2
            obtain ⟨a1, rfl⟩ := List.getElem?_eq_some_iff.1 h1
            obtain ⟨b1, rfl⟩ := List.getElem?_eq_some_iff.1 h2
            exact List.pairwise_iff_getElem.1 Hd.out i j a1 b1 hij
          rcases Nat.lt_trichotomy i k with h1 | h1 | h1
          · exact absurd (h.trans ha.symm) (hij i k x f h1 hx hk)
          · omega
          · exact absurd (ha.trans h.symm) (hij k i f x h1 hk hx)
      · by_cases hfull : tn ≤ n + 1
        · exact .inl ⟨by decide, hfull, hno⟩
        · refine .inr ⟨fun h => hfull h.2, fun l' h => .inr (.inr (.inr ⟨Hok.out, hno, by rw [Hn.out]; omega, rfl, h⟩)), fun i x hx => ?_⟩
          have h1 := hno x (List.mem_of_getElem? hx)
          rw [decide_eq_false h1, beq_eq_false_iff_ne]
          omega
    clear hf
    rcases key with ⟨h1, h2, h3⟩ | ⟨h1, h2, h3⟩
    · have hd1 : decide (kk < 0) = true := decide_eq_true h1
      have hd2 : decide ((tn : Int) ≤ (n : Int) + 1) = true := decide_eq_true (by omega)
      have hd3 : decide ((n : Int) + 1 ≥ (tn : Int)) = true := decide_eq_true (by omega)
      have Hp : Hid (RPutP l tn e 6 l) := .inr (.inr (.inl ⟨Hok.out, h3, by rw [Hn.out]; omega, rfl, rfl⟩))
      clear h3
      go_wp2_with fail
      go_ret2
      exact ⟨6, l, _, rfl, HRow.out _ HB3.out, .inl rfl, Hp.out, by rw [hN]; exact HB3.out⟩
    · have H2 := Lib.hid h2
      have H3 := Lib.hid h3
      have hd1 : decide (kk < 0) = true → decide ((tn : Int) ≤ (n : Int) + 1) = false := fun h => decide_eq_false (by have := of_decide_eq_true h; omega)
      clear h2 h3
      by_cases hk : kk < 0
      · have hd2 : decide (kk < 0) = true := decide_eq_true hk
        have hd3 : decide ((tn : Int) ≤ (n : Int) + 1) = false := hd1 hd2
        have hd4 : decide ((n : Int) + 1 ≥ (tn : Int)) = false := hd3
        clear hd1 h1
        go_wp2_with fail
        have HO0 : Hid (w3.ownsRow (N + 1) 32 34 (.slice none 0 0) 0 (ents [])) := World.ownsRow_nil _ _ _ _
        have lenF : ∀ {k : Nat} {o : List Ent} {p : Bool}, foldR e (l.take k) = (o, p) → o.length ≤ k + 1 := by
          intro k o p h
          have h1 := foldR_len e (l.take k)
          rw [h] at h1
          have h2 : (l.take k).countP (fun x => decide (x.adr ≠ e.adr)) ≤ (l.take k).length := List.countP_le_length
          rw [List.length_take] at h2
          simp only at h1
          split at h1 <;> omega
        go_loopw [9, 10, 11] (fun v9 v10 v W => ∃ (k : Nat) (o : List Ent) (p : Bool), k ≤ n ∧ v = .int .i64 k ∧ v10 = .bool p ∧ Hid (foldR e (l.take k) = (o, p)) ∧ Hid (o.length ≤ k + 1) ∧ Hid (W.ownsRow (N + 1) 32 34 v9 o.length (ents o)) ∧ Hid (RowV W N 32 e.cs) ∧ Hid (Below N w W) ∧ Hid (N + 1 ≤ W.heap.size)) (fun _ _ v _ => n - (intOf v).toNat)
        case atStart => exact ⟨0, [], false, Nat.zero_le _, rfl, rfl, rfl, by show _ ≤ _; simp, HO0, HR3, HB3, hs3⟩
        case round =>
          obtain ⟨k, o, p, hk, rfl, rfl, HF, HLn, HO, HR, HB, HZ⟩ := hrel
          clear HO0 HR3 HB3 hs3
          have hlo0 : o.length ≤ k + 1 := HLn.out
          by_cases hlt : k < n
          · have hlt' : (k : Int) < (n : Int) := by omega
            have hk0 : (0 : Int) ≤ (k : Int) := by omega
            obtain ⟨x, hx⟩ : ∃ x, l[k]? = some x := ⟨_, List.getElem?_eq_getElem (by rw [Hn.out]; exact hlt)⟩
            obtain ⟨b1, o1, hA1, hb1, hr1⟩ := lies_ent (HL0.out.below HB.out) hx
            subst hA1
            have Hx := Lib.hid hx
            have Rf := Lib.hid hr1
            have Rx := Lib.hid (adr_of hr1)
            have Hsx := Lib.hid (ent_size x)
            have HszX := Lib.hid (adr_size x.adr)
            have hz := HZ.out
            clear hx hr1
            cases p
            · go_wp2_with fail
              obtain ⟨wd, hwd⟩ : ∃ wd, wr.drew = wd := ⟨_, rfl⟩
              have hSc : Below wd.heap.size wd wr.drew := by rw [hwd]; exact Below.refl _ _
              refine wp_region_held_drew (S := fun W => Below wd.heap.size wd W) (by kernel_rfl) hSc (fun hHeld => ?_)
              have HOd : Hid (wr.drew.ownsRow (N + 1) 32 34 u9 o.length (ents o)) := HO.out.drew
              have HRd : Hid (RowV wr.drew N 32 e.cs) := HR.out.drew
              have HBd : Hid (Below N w wr.drew) := HB.out.drew
              have r1 : Hid (wr.drew.rangeAt b1 (o1 + k * 34) (cells x.adr.1)) := Rx.out
              have r2 : Hid (wr.drew.rangeAt b1 (o1 + k * 34) x.cs) := Rf.out
              have hzd : N + 1 ≤ wr.drew.heap.size := hz
              rw [hwd] at hSc hHeld HOd HRd HBd r1 r2 hzd ⊢
              clear hwd HO HR HB Rx Rf hz
              have hb1d : b1 < wd.heap.size := by omega
              have hNd : N < wd.heap.size := by omega
              have q5 : Hid (wd.rangeAt N 0 (cells e.adr.1)) := adr_of (row_range HRd.out)
              refine wpAnyH_take (i := 0) (oi := ⟨_, _, _, _, _, _⟩) (v := ?_) rfl (by kernel_rfl) (by kernel_rfl) (by kernel_rfl) (fun _ _ _ h => h) (Or.inl ⟨by rfl, ?_⟩) (by assumption) ?_
              rotate_left
              · intro W hSW; go_simp; try with_reducible rfl
              try simp only [Act.put, List.setIfInBounds_toArray, List.set_cons_zero, List.set_cons_succ]
              refine wpAnyH_take (i := 1) (oi := ⟨_, _, _, _, _, _⟩) (v := ?_) rfl (by kernel_rfl) (by kernel_rfl) (by kernel_rfl) (fun _ _ _ h => h) (Or.inl ⟨by rfl, ?_⟩) (by assumption) ?_
              rotate_left
              · intro W hSW; go_simp; try with_reducible rfl
              try simp only [Act.put, List.setIfInBounds_toArray, List.set_cons_zero, List.set_cons_succ]
              refine wpAnyH_take (i := 2) (oi := ⟨_, _, _, _, _, _⟩) (v := ?_) rfl (by kernel_rfl) (by kernel_rfl) (by kernel_rfl) (fun _ _ _ h => h) (Or.inl ⟨by rfl, ?_⟩) (by assumption) ?_
              rotate_left
              · intro W hSW; go_simp; try with_reducible rfl
              try simp only [Act.put, List.setIfInBounds_toArray, List.set_cons_zero, List.set_cons_succ]
              refine wpAnyH_take (i := 3) (oi := ⟨_, _, _, _, _, _⟩) (v := ?_) rfl (by kernel_rfl) (by kernel_rfl) (by kernel_rfl) (fun _ _ _ h => h) (Or.inl ⟨by rfl, ?_⟩) (by assumption) ?_
              rotate_left
              · intro W hSW; go_simp; try with_reducible rfl
              try simp only [Act.put, List.setIfInBounds_toArray, List.set_cons_zero, List.set_cons_succ]
              refine wpAnyH_take (i := 4) (oi := ⟨_, _, _, _, _, _⟩) (v := ?_) rfl (by kernel_rfl) (by kernel_rfl) (by kernel_rfl) (fun _ _ _ h => h) (Or.inl ⟨by rfl, ?_⟩) (by assumption) ?_
              rotate_left
              · intro W hSW; go_simp; try with_reducible rfl
              try simp only [Act.put, List.setIfInBounds_toArray, List.set_cons_zero, List.set_cons_succ]
              refine wpAnyH_take (i := 5) (oi := ⟨_, _, _, _, _, _⟩) (v := ?_) rfl (by kernel_rfl) (by kernel_rfl) (by kernel_rfl) (fun _ _ _ h => h) (Or.inl ⟨by rfl, ?_⟩) (by assumption) ?_
              rotate_left
              · intro W hSW; go_simp; try with_reducible rfl
              try simp only [Act.put, List.setIfInBounds_toArray, List.set_cons_zero, List.set_cons_succ]
              refine wpAnyH_take (i := 6) (oi := ⟨_, _, _, _, _, _⟩) (v := ?_) rfl (by kernel_rfl) (by kernel_rfl) (by kernel_rfl) (fun _ _ _ h => h) (Or.inl ⟨by rfl, ?_⟩) (by assumption) ?_
              rotate_left
              · intro W hSW; go_simp; try with_reducible rfl
              try simp only [Act.put, List.setIfInBounds_toArray, List.set_cons_zero, List.set_cons_succ]
              refine wpAnyH_take (i := 7) (oi := ⟨_, _, _, _, _, _⟩) (v := ?_) rfl (by kernel_rfl) (by kernel_rfl) (by kernel_rfl) (fun _ _ _ h => h) (Or.inl ⟨by rfl, ?_⟩) (by assumption) ?_
              rotate_left
              · intro W hSW; refine exec_load_mid 23 (.tmp 42) ?_ b1 (o1 + k * 34) ?_ (cells x.adr.1) _ (range_below r1.out hSW hb1d) Try.underlying23 rfl HszX.out <;> rfl
              try simp only [Act.put, List.setIfInBounds_toArray, List.set_cons_zero, List.set_cons_succ]
              refine wpAnyH_take (i := 8) (oi := ⟨_, _, _, _, _, _⟩) (v := ?_) rfl (by kernel_rfl) (by kernel_rfl) (by kernel_rfl) (fun _ _ _ h => h) (Or.inl ⟨by rfl, ?_⟩) (by assumption) ?_
              rotate_left
              · intro W hSW; go_simp; try with_reducible rfl
              try simp only [Act.put, List.setIfInBounds_toArray, List.set_cons_zero, List.set_cons_succ]
              refine wpAnyH_take (i := 9) (oi := ⟨_, _, _, _, _, _⟩) (v := ?_) rfl (by kernel_rfl) (by kernel_rfl) (by kernel_rfl) (fun _ _ _ h => h) (Or.inl ⟨by rfl, ?_⟩) (by assumption) ?_
              rotate_left
              · intro W hSW; refine exec_load_mid 23 (.tmp 44) ?_ N 0 ?_ (cells e.adr.1) _ (range_below q5.out hSW hNd) Try.underlying23 rfl HszE.out <;> rfl
              try simp only [Act.put, List.setIfInBounds_toArray, List.set_cons_zero, List.set_cons_succ]
              refine wpAnyH_ready (rs := [10]) (by kernel_rfl) (by simp) ?_
              refine AllReadyH.cons (o := ⟨_, _, _, _, _, _⟩) rfl (fun K hK => ?_) AllReadyH.nil
              go_simp
              refine (rless_any x.adr.1 e.adr.1 x.adr.2 e.adr.2 _).mono ?_
              rintro e wx ⟨rfl, hb⟩
              try simp only []
              have hSwx := hSc.trans (hb.mono hSc.size)
              refine hK.out _ _ hSwx (fun hHeld => ?_)
              clear hK K hb hSc
              have hSc := hSwx
              clear hSwx
              try simp only [Act.put, List.setIfInBounds_toArray, List.set_cons_zero, List.set_cons_succ]
              refine wpAnyH_take (i := 11) (oi := ⟨_, _, _, _, _, _⟩) (v := ?_) rfl (by kernel_rfl) (by kernel_rfl) (by kernel_rfl) (fun _ _ _ h => h) (Or.inl ⟨by rfl, ?_⟩) (by assumption) ?_
              rotate_left
              · intro W hSW; go_simp; try with_reducible rfl
              try simp only [Act.put, List.setIfInBounds_toArray, List.set_cons_zero, List.set_cons_succ]
              refine wpAnyH_take (i := 12) (oi := ⟨_, _, _, _, _, _⟩) (v := ?_) rfl (by kernel_rfl) (by kernel_rfl) (by kernel_rfl) (fun _ _ _ h => h) (Or.inl ⟨by rfl, ?_⟩) (by assumption) ?_
              rotate_left
              · intro W hSW; go_simp; try with_reducible rfl
              try simp only [Act.put, List.setIfInBounds_toArray, List.set_cons_zero, List.set_cons_succ]
              refine wpAnyH_done (by kernel_rfl) ?_ _
              have HO2 : Hid (wx.ownsRow (N + 1) 32 34 u9 o.length (ents o)) := own_below HOd.out hSc
              have HR2 : Hid (RowV wx N 32 e.cs) := HRd.out.below hNd hSc
              have HB2 : Hid (Below N w wx) := HBd.out.trans (hSc.mono (by omega))
              have R2 := Lib.hid (range_below r2.out hSc hb1d)
              have hz2 : N + 1 ≤ wx.heap.size := by have := hSc.size; omega
              have QE := Lib.hid (row_range HR2.out)
              clear HOd HRd HBd r1 r2 q5 hSc hb1d hNd hzd hHeld
              cases hless : Op.bytesLess x.adr.1 e.adr.1
              · have hlo : o.length + 1 ≤ k + 2 := by omega
                have ha : x.adr ≠ e.adr := fun h => by have := H3.out k x Hx.out; rw [decide_eq_true h, beq_iff_eq] at this; omega
                have hkk : ((k : Int) == kk) = false := by rw [H3.out k x Hx.out]; exact decide_eq_false ha
                have hkk2 : ¬ ((k : Int) = kk) := by rw [beq_eq_false_iff_ne] at hkk; exact hkk
                have HF1 : Hid (foldR e (l.take (k + 1)) = (o ++ [e] ++ [x], true)) := by
                  show _ = _
                  rw [take_snoc Hx.out, foldR_snoc, HF.out]
                  rw [stepR_put ⟨rfl, hless⟩, if_neg ha]
                have HLn1 : Hid ((o ++ [e] ++ [x]).length ≤ k + 1 + 1) := lenF HF1.out
                have hlo : (o ++ [e]).length ≤ k + 2 := by (simp only [List.length_append, List.length_singleton]; omega)
                go_wp2_with (first
                  | ((with_reducible refine at_load 32 ?_); refine wpList_load_mid rfl 32 _ rfl N 0 rfl e.cs _ QE.out Try.underlying32 rfl Hse.out ?_)
                  | ((with_reducible refine at_buildSlice 26 ?_); refine wpList_buildSlice_oneV rfl 26 32 _ rfl e.cs rfl Try.underlying26 Try.infoE (Ent.cs_length _) (by decide) (by decide) ?_; intro waA hraA hbaA hsaA; have HOaA := Lib.hid (own_below HO2.out hbaA))
                  | (at_builtin; refine wpList_append_one rfl _ _ 26 rfl (N + 1) 32 Try.underlying26 Try.infoE rfl (by decide) _ _ _ rfl HOaA.out _ e.cs rfl hraA (Ent.cs_length _) (Ent.one _) (by unfold maxLen; omega) (by omega) (by omega) ?_; intro vA wbA hownbA hgbA hwhbA; have HOA : Hid (wbA.ownsRow (N + 1) 32 34 vA (o ++ [e]).length (ents (o ++ [e]))) := (by rw [List.length_append, ents_snoc]; exact hownbA); have HB0A : Hid (Below N wx wbA) := (hbaA.mono (by omega)).grown hgbA (by omega) (fun g e => by have := own_ge HOaA.out g e; omega); have HRA : Hid (RowV wbA N 32 e.cs) := (HR2.out.below (by omega) hbaA).keep hgbA (fun e => by have := own_ge HOaA.out _ e; omega); have HBA : Hid (Below N w wbA) := HB2.out.trans HB0A.out; have HZA : N + 1 ≤ wbA.heap.size := (by have := hgbA.size; omega); have RA := Lib.hid (range_below R2.out HB0A.out hb1); clear hownbA hgbA hwhbA)
                  | ((with_reducible refine at_load 32 ?_); refine wpList_load_mid rfl 32 _ rfl b1 (o1 + k * 34) rfl x.cs _ RA.out Try.underlying32 rfl Hsx.out ?_)
                  | ((with_reducible refine at_buildSlice 26 ?_); refine wpList_buildSlice_oneV rfl 26 32 _ rfl x.cs rfl Try.underlying26 Try.infoE (Ent.cs_length _) (by decide) (by decide) ?_; intro waB hraB hbaB hsaB; have HOaB := Lib.hid (own_below HOA.out hbaB))
                  | (at_builtin; refine wpList_append_one rfl _ _ 26 rfl (N + 1) 32 Try.underlying26 Try.infoE rfl (by decide) _ _ _ rfl HOaB.out _ x.cs rfl hraB (Ent.cs_length _) (Ent.one _) (by unfold maxLen; omega) (by omega) (by omega) ?_; intro vB wbB hownbB hgbB hwhbB; have HOB : Hid (wbB.ownsRow (N + 1) 32 34 vB (o ++ [e] ++ [x]).length (ents (o ++ [e] ++ [x]))) := (by rw [List.length_append, ents_snoc]; exact hownbB); have HB0B : Hid (Below N wbA wbB) := (hbaB.mono (by omega)).grown hgbB (by omega) (fun g e => by have := own_ge HOaB.out g e; omega); have HRB : Hid (RowV wbB N 32 e.cs) := (HRA.out.below (by omega) hbaB).keep hgbB (fun e => by have := own_ge HOaB.out _ e; omega); have HBB : Hid (Below N w wbB) := HBA.out.trans HB0B.out; have HZB : N + 1 ≤ wbB.heap.size := (by have := hgbB.size; omega); clear hownbB hgbB hwhbB))
                go_roundw
                case rel => exact ⟨k + 1, o ++ [e] ++ [x], true, by omega, by go_num, rfl, HF1, HLn1, HOB, HRB, HBB, HZB⟩
                case measure => simp [intOf]; omega
              · skip
                have ha : x.adr ≠ e.adr := fun h => by have := H3.out k x Hx.out; rw [decide_eq_true h, beq_iff_eq] at this; omega
                have hkk : ((k : Int) == kk) = false := by rw [H3.out k x Hx.out]; exact decide_eq_false ha
                have hkk2 : ¬ ((k : Int) = kk) := by rw [beq_eq_false_iff_ne] at hkk; exact hkk
                have HF1 : Hid (foldR e (l.take (k + 1)) = (o ++ [x], false)) := by
                  show _ = _
                  rw [take_snoc Hx.out, foldR_snoc, HF.out]
                  rw [stepR_keep (by rw [hless]; simp), if_neg ha]
                have HLn1 : Hid ((o ++ [x]).length ≤ k + 1 + 1) := lenF HF1.out
                have hlo : (o).length ≤ k + 2 := by omega
                go_wp2_with (first
                  | ((with_reducible refine at_load 32 ?_); refine wpList_load_mid rfl 32 _ rfl b1 (o1 + k * 34) rfl x.cs _ R2.out Try.underlying32 rfl Hsx.out ?_)
                  | ((with_reducible refine at_buildSlice 26 ?_); refine wpList_buildSlice_oneV rfl 26 32 _ rfl x.cs rfl Try.underlying26 Try.infoE (Ent.cs_length _) (by decide) (by decide) ?_; intro waB hraB hbaB hsaB; have HOaB := Lib.hid (own_below HO2.out hbaB))
                  | (at_builtin; refine wpList_append_one rfl _ _ 26 rfl (N + 1) 32 Try.underlying26 Try.infoE rfl (by decide) _ _ _ rfl HOaB.out _ x.cs rfl hraB (Ent.cs_length _) (Ent.one _) (by unfold maxLen; omega) (by omega) (by omega) ?_; intro vB wbB hownbB hgbB hwhbB; have HOB : Hid (wbB.ownsRow (N + 1) 32 34 vB (o ++ [x]).length (ents (o ++ [x]))) := (by rw [List.length_append, ents_snoc]; exact hownbB); have HB0B : Hid (Below N wx wbB) := (hbaB.mono (by omega)).grown hgbB (by omega) (fun g e => by have := own_ge HOaB.out g e; omega); have HRB : Hid (RowV wbB N 32 e.cs) := (HR2.out.below (by omega) hbaB).keep hgbB (fun e => by have := own_ge HOaB.out _ e; omega); have HBB : Hid (Below N w wbB) := HB2.out.trans HB0B.out; have HZB : N + 1 ≤ wbB.heap.size := (by have := hgbB.size; omega); clear hownbB hgbB hwhbB))
                go_roundw
                case rel => exact ⟨k + 1, o ++ [x], false, by omega, by go_num, rfl, HF1, HLn1, HOB, HRB, HBB, HZB⟩
                case measure => simp [intOf]; omega
            · go_wp2_with fail
              obtain ⟨wd, hwd⟩ : ∃ wd, wr.drew = wd := ⟨_, rfl⟩
              have hSc : Below wd.heap.size wd wr.drew := by rw [hwd]; exact Below.refl _ _
              refine wp_region_held_drew (S := fun W => Below wd.heap.size wd W) (by kernel_rfl) hSc (fun hHeld => ?_)
              have HOd : Hid (wr.drew.ownsRow (N + 1) 32 34 u9 o.length (ents o)) := HO.out.drew
              have HRd : Hid (RowV wr.drew N 32 e.cs) := HR.out.drew
              have HBd : Hid (Below N w wr.drew) := HB.out.drew
              have r1 : Hid (wr.drew.rangeAt b1 (o1 + k * 34) (cells x.adr.1)) := Rx.out
              have r2 : Hid (wr.drew.rangeAt b1 (o1 + k * 34) x.cs) := Rf.out
              have hzd : N + 1 ≤ wr.drew.heap.size := hz
              rw [hwd] at hSc hHeld HOd HRd HBd r1 r2 hzd ⊢
              clear hwd HO HR HB Rx Rf hz
              have hb1d : b1 < wd.heap.size := by omega
              have hNd : N < wd.heap.size := by omega
              have q5 : Hid (wd.rangeAt N 0 (cells e.adr.1)) := adr_of (row_range HRd.out)
              refine wpAnyH_take (i := 0) (oi := ⟨_, _, _, _, _, _⟩) (v := ?_) rfl (by kernel_rfl) (by kernel_rfl) (by kernel_rfl) (fun _ _ _ h => h) (Or.inl ⟨by rfl, ?_⟩) (by assumption) ?_
              rotate_left
              · intro W hSW; go_simp; try with_reducible rfl
              try simp only [Act.put, List.setIfInBounds_toArray, List.set_cons_zero, List.set_cons_succ]
              refine wpAnyH_take (i := 1) (oi := ⟨_, _, _, _, _, _⟩) (v := ?_) rfl (by kernel_rfl) (by kernel_rfl) (by kernel_rfl) (fun _ _ _ h => h) (Or.inl ⟨by rfl, ?_⟩) (by assumption) ?_
              rotate_left
              · intro W hSW; go_simp; try with_reducible rfl
              try simp only [Act.put, List.setIfInBounds_toArray, List.set_cons_zero, List.set_cons_succ]
              refine wpAnyH_take (i := 2) (oi := ⟨_, _, _, _, _, _⟩) (v := ?_) rfl (by kernel_rfl) (by kernel_rfl) (by kernel_rfl) (fun _ _ _ h => h) (Or.inl ⟨by rfl, ?_⟩) (by assumption) ?_
              rotate_left
              · intro W hSW; go_simp; try with_reducible rfl
              try simp only [Act.put, List.setIfInBounds_toArray, List.set_cons_zero, List.set_cons_succ]
              refine wpAnyH_take (i := 3) (oi := ⟨_, _, _, _, _, _⟩) (v := undef) rfl (by kernel_rfl) (by kernel_rfl) (by kernel_rfl) (fun _ _ _ h => h) (Or.inr ⟨by rfl, rfl⟩) (by assumption) ?_
              try simp only [Act.put, List.setIfInBounds_toArray, List.set_cons_zero, List.set_cons_succ]
              refine wpAnyH_take (i := 4) (oi := ⟨_, _, _, _, _, _⟩) (v := undef) rfl (by kernel_rfl) (by kernel_rfl) (by kernel_rfl) (fun _ _ _ h => h) (Or.inr ⟨by rfl, rfl⟩) (by assumption) ?_
              try simp only [Act.put, List.setIfInBounds_toArray, List.set_cons_zero, List.set_cons_succ]
              refine wpAnyH_take (i := 5) (oi := ⟨_, _, _, _, _, _⟩) (v := undef) rfl (by kernel_rfl) (by kernel_rfl) (by kernel_rfl) (fun _ _ _ h => h) (Or.inr ⟨by rfl, rfl⟩) (by assumption) ?_
              try simp only [Act.put, List.setIfInBounds_toArray, List.set_cons_zero, List.set_cons_succ]
              refine wpAnyH_take (i := 6) (oi := ⟨_, _, _, _, _, _⟩) (v := undef) rfl (by kernel_rfl) (by kernel_rfl) (by kernel_rfl) (fun _ _ _ h => h) (Or.inr ⟨by rfl, rfl⟩) (by assumption) ?_
              try simp only [Act.put, List.setIfInBounds_toArray, List.set_cons_zero, List.set_cons_succ]
              refine wpAnyH_take (i := 7) (oi := ⟨_, _, _, _, _, _⟩) (v := undef) rfl (by kernel_rfl) (by kernel_rfl) (by kernel_rfl) (fun _ _ _ h => h) (Or.inr ⟨by rfl, rfl⟩) (by assumption) ?_
              try simp only [Act.put, List.setIfInBounds_toArray, List.set_cons_zero, List.set_cons_succ]
              refine wpAnyH_take (i := 8) (oi := ⟨_, _, _, _, _, _⟩) (v := undef) rfl (by kernel_rfl) (by kernel_rfl) (by kernel_rfl) (fun _ _ _ h => h) (Or.inr ⟨by rfl, rfl⟩) (by assumption) ?_
              try simp only [Act.put, List.setIfInBounds_toArray, List.set_cons_zero, List.set_cons_succ]
              refine wpAnyH_take (i := 9) (oi := ⟨_, _, _, _, _, _⟩) (v := undef) rfl (by kernel_rfl) (by kernel_rfl) (by kernel_rfl) (fun _ _ _ h => h) (Or.inr ⟨by rfl, rfl⟩) (by assumption) ?_
              try simp only [Act.put, List.setIfInBounds_toArray, List.set_cons_zero, List.set_cons_succ]
              refine wpAnyH_take (i := 10) (oi := ⟨_, _, _, _, _, _⟩) (v := undef) rfl (by kernel_rfl) (by kernel_rfl) (by kernel_rfl) (fun _ _ _ h => h) (Or.inr ⟨by rfl, rfl⟩) (by assumption) ?_
              try simp only [Act.put, List.setIfInBounds_toArray, List.set_cons_zero, List.set_cons_succ]
              refine wpAnyH_take (i := 11) (oi := ⟨_, _, _, _, _, _⟩) (v := undef) rfl (by kernel_rfl) (by kernel_rfl) (by kernel_rfl) (fun _ _ _ h => h) (Or.inr ⟨by rfl, rfl⟩) (by assumption) ?_
              try simp only [Act.put, List.setIfInBounds_toArray, List.set_cons_zero, List.set_cons_succ]
              refine wpAnyH_take (i := 12) (oi := ⟨_, _, _, _, _, _⟩) (v := ?_) rfl (by kernel_rfl) (by kernel_rfl) (by kernel_rfl) (fun _ _ _ h => h) (Or.inl ⟨by rfl, ?_⟩) (by assumption) ?_
              rotate_left
              · intro W hSW; go_simp; try with_reducible rfl
              try simp only [Act.put, List.setIfInBounds_toArray, List.set_cons_zero, List.set_cons_succ]
              refine wpAnyH_done (by kernel_rfl) ?_ _
              obtain ⟨wx, hwx⟩ : ∃ wx, wd = wx := ⟨_, rfl⟩
              have hSx : Below wd.heap.size wd wd := Below.refl _ _
              clear r1 q5 hSc hSx hwx hHeld
              have hz2 : N + 1 ≤ wd.heap.size := hzd
              have ha : x.adr ≠ e.adr := fun h => by have := H3.out k x Hx.out; rw [decide_eq_true h, beq_iff_eq] at this; omega
              have hkk : ((k : Int) == kk) = false := by rw [H3.out k x Hx.out]; exact decide_eq_false ha
              have hkk2 : ¬ ((k : Int) = kk) := by rw [beq_eq_false_iff_ne] at hkk; exact hkk
              have HF1 : Hid (foldR e (l.take (k + 1)) = (o ++ [x], true)) := by
                show _ = _
                rw [take_snoc Hx.out, foldR_snoc, HF.out]
                rw [stepR_keep (by simp), if_neg ha]
              have HLn1 : Hid ((o ++ [x]).length ≤ k + 1 + 1) := lenF HF1.out
              have hlo : (o).length ≤ k + 2 := by omega
              go_wp2_with (first
                | ((with_reducible refine at_load 32 ?_); refine wpList_load_mid rfl 32 _ rfl b1 (o1 + k * 34) rfl x.cs _ r2.out Try.underlying32 rfl Hsx.out ?_)
                | ((with_reducible refine at_buildSlice 26 ?_); refine wpList_buildSlice_oneV rfl 26 32 _ rfl x.cs rfl Try.underlying26 Try.infoE (Ent.cs_length _) (by decide) (by decide) ?_; intro waB hraB hbaB hsaB; have HOaB := Lib.hid (own_below HOd.out hbaB))
                | (at_builtin; refine wpList_append_one rfl _ _ 26 rfl (N + 1) 32 Try.underlying26 Try.infoE rfl (by decide) _ _ _ rfl HOaB.out _ x.cs rfl hraB (Ent.cs_length _) (Ent.one _) (by unfold maxLen; omega) (by omega) (by omega) ?_; intro vB wbB hownbB hgbB hwhbB; have HOB : Hid (wbB.ownsRow (N + 1) 32 34 vB (o ++ [x]).length (ents (o ++ [x]))) := (by rw [List.length_append, ents_snoc]; exact hownbB); have HB0B : Hid (Below N wd wbB) := (hbaB.mono (by omega)).grown hgbB (by omega) (fun g e => by have := own_ge HOaB.out g e; omega); have HRB : Hid (RowV wbB N 32 e.cs) := (HRd.out.below (by omega) hbaB).keep hgbB (fun e => by have := own_ge HOaB.out _ e; omega); have HBB : Hid (Below N w wbB) := HBd.out.trans HB0B.out; have HZB : N + 1 ≤ wbB.heap.size := (by have := hgbB.size; omega); clear hownbB hgbB hwhbB))
              go_roundw
              case rel => exact ⟨k + 1, o ++ [x], true, by omega, by go_num, rfl, HF1, HLn1, HOB, HRB, HBB, HZB⟩
              case measure => simp [intOf]; omega
          · obtain rfl : k = n := by omega
            have hfin : foldR e l = (o, p) := by have := HF.out; rw [List.take_of_length_le (by rw [Hn.out]; exact Nat.le_refl _)] at this; exact this
            have QE := Lib.hid (row_range HR.out)
            have hz2 := HZ.out
            cases p
            · have Hp : Hid (RPutP l tn e 0 (o ++ [e])) := H2.out _ (by unfold putR endR; rw [hfin]; rfl)
              clear hfin
              go_wp2_with (first
                | ((with_reducible refine at_load 32 ?_); refine wpList_load_mid rfl 32 _ rfl N 0 rfl e.cs _ QE.out Try.underlying32 rfl Hse.out ?_)
                | ((with_reducible refine at_buildSlice 26 ?_); refine wpList_buildSlice_oneV rfl 26 32 _ rfl e.cs rfl Try.underlying26 Try.infoE (Ent.cs_length _) (by decide) (by decide) ?_; intro waA hraA hbaA hsaA; have HOaA := Lib.hid (own_below HO.out hbaA))
                | (at_builtin; refine wpList_append_one rfl _ _ 26 rfl (N + 1) 32 Try.underlying26 Try.infoE rfl (by decide) _ _ _ rfl HOaA.out _ e.cs rfl hraA (Ent.cs_length _) (Ent.one _) (by unfold maxLen; omega) (by omega) (by omega) ?_; intro vA wbA hownbA hgbA hwhbA; have HOA : Hid (wbA.ownsRow (N + 1) 32 34 vA (o ++ [e]).length (ents (o ++ [e]))) := (by rw [List.length_append, ents_snoc]; exact hownbA); have HB0A : Hid (Below N wr wbA) := (hbaA.mono (by omega)).grown hgbA (by omega) (fun g e => by have := own_ge HOaA.out g e; omega); have HRA : Hid (RowV wbA N 32 e.cs) := (HR.out.below (by omega) hbaA).keep hgbA (fun e => by have := own_ge HOaA.out _ e; omega); have HBA : Hid (Below N w wbA) := HB.out.trans HB0A.out; have HZA : N + 1 ≤ wbA.heap.size := (by have := hgbA.size; omega); clear hownbA hgbA hwhbA))
              go_ret2
              exact ⟨0, o ++ [e], _, rfl, RowE.own HOA.out, .inr (fun g e => by have : N + 1 ≤ g := own_ge HOA.out g e; omega), Hp.out, by rw [hN]; exact HBA.out⟩
            · have Hp : Hid (RPutP l tn e 0 o) := H2.out _ (by unfold putR endR; rw [hfin]; rfl)
              clear hfin
              go_wp2_with fail
              go_ret2
              exact ⟨0, o, _, rfl, RowE.own HO.out, .inr (fun g e => by have : N + 1 ≤ g := own_ge HO.out g e; omega), Hp.out, by rw [hN]; exact HB.out⟩
      · have hd2 : decide (kk < 0) = false := decide_eq_false hk
        clear hd1 h1
        go_wp2_with fail
        have HO0 : Hid (w3.ownsRow (N + 1) 32 34 (.slice none 0 0) 0 (ents [])) := World.ownsRow_nil _ _ _ _
        have lenF : ∀ {k : Nat} {o : List Ent} {p : Bool}, foldR e (l.take k) = (o, p) → o.length ≤ k + 1 := by
          intro k o p h
          have h1 := foldR_len e (l.take k)
          rw [h] at h1
          have h2 : (l.take k).countP (fun x => decide (x.adr ≠ e.adr)) ≤ (l.take k).length := List.countP_le_length
          rw [List.length_take] at h2
          simp only at h1
          split at h1 <;> omega
        go_loopw [9, 10, 11] (fun v9 v10 v W => ∃ (k : Nat) (o : List Ent) (p : Bool), k ≤ n ∧ v = .int .i64 k ∧ v10 = .bool p ∧ Hid (foldR e (l.take k) = (o, p)) ∧ Hid (o.length ≤ k + 1) ∧ Hid (W.ownsRow (N + 1) 32 34 v9 o.length (ents o)) ∧ Hid (RowV W N 32 e.cs) ∧ Hid (Below N w W) ∧ Hid (N + 1 ≤ W.heap.size)) (fun _ _ v _ => n - (intOf v).toNat)
        case atStart => exact ⟨0, [], false, Nat.zero_le _, rfl, rfl, rfl, by show _ ≤ _; simp, HO0, HR3, HB3, hs3⟩
        case round =>
          obtain ⟨k, o, p, hk, rfl, rfl, HF, HLn, HO, HR, HB, HZ⟩ := hrel
          clear HO0 HR3 HB3 hs3
          have hlo0 : o.length ≤ k + 1 := HLn.out
          by_cases hlt : k < n
          · have hlt' : (k : Int) < (n : Int) := by omega
            have hk0 : (0 : Int) ≤ (k : Int) := by omega
            obtain ⟨x, hx⟩ : ∃ x, l[k]? = some x := ⟨_, List.getElem?_eq_getElem (by rw [Hn.out]; exact hlt)⟩
            obtain ⟨b1, o1, hA1, hb1, hr1⟩ := lies_ent (HL0.out.below HB.out) hx
            subst hA1
            have Hx := Lib.hid hx
            have Rf := Lib.hid hr1
            have Rx := Lib.hid (adr_of hr1)
            have Hsx := Lib.hid (ent_size x)
            have HszX := Lib.hid (adr_size x.adr)
            have hz := HZ.out
            clear hx hr1
            cases p
            · go_wp2_with fail
              obtain ⟨wd, hwd⟩ : ∃ wd, wr.drew = wd := ⟨_, rfl⟩
              have hSc : Below wd.heap.size wd wr.drew := by rw [hwd]; exact Below.refl _ _
              refine wp_region_held_drew (S := fun W => Below wd.heap.size wd W) (by kernel_rfl) hSc (fun hHeld => ?_)
              have HOd : Hid (wr.drew.ownsRow (N + 1) 32 34 u9 o.length (ents o)) := HO.out.drew
              have HRd : Hid (RowV wr.drew N 32 e.cs) := HR.out.drew
              have HBd : Hid (Below N w wr.drew) := HB.out.drew
              have r1 : Hid (wr.drew.rangeAt b1 (o1 + k * 34) (cells x.adr.1)) := Rx.out
              have r2 : Hid (wr.drew.rangeAt b1 (o1 + k * 34) x.cs) := Rf.out
              have hzd : N + 1 ≤ wr.drew.heap.size := hz
              rw [hwd] at hSc hHeld HOd HRd HBd r1 r2 hzd ⊢
              clear hwd HO HR HB Rx Rf hz
              have hb1d : b1 < wd.heap.size := by omega
              have hNd : N < wd.heap.size := by omega
              have q5 : Hid (wd.rangeAt N 0 (cells e.adr.1)) := adr_of (row_range HRd.out)
              refine wpAnyH_take (i := 0) (oi := ⟨_, _, _, _, _, _⟩) (v := ?_) rfl (by kernel_rfl) (by kernel_rfl) (by kernel_rfl) (fun _ _ _ h => h) (Or.inl ⟨by rfl, ?_⟩) (by assumption) ?_
              rotate_left
              · intro W hSW; go_simp; try with_reducible rfl
              try simp only [Act.put, List.setIfInBounds_toArray, List.set_cons_zero, List.set_cons_succ]
              refine wpAnyH_take (i := 1) (oi := ⟨_, _, _, _, _, _⟩) (v := ?_) rfl (by kernel_rfl) (by kernel_rfl) (by kernel_rfl) (fun _ _ _ h => h) (Or.inl ⟨by rfl, ?_⟩) (by assumption) ?_
              rotate_left
              · intro W hSW; go_simp; try with_reducible rfl
              try simp only [Act.put, List.setIfInBounds_toArray, List.set_cons_zero, List.set_cons_succ]
              refine wpAnyH_take (i := 2) (oi := ⟨_, _, _, _, _, _⟩) (v := ?_) rfl (by kernel_rfl) (by kernel_rfl) (by kernel_rfl) (fun _ _ _ h => h) (Or.inl ⟨by rfl, ?_⟩) (by assumption) ?_
              rotate_left
              · intro W hSW; go_simp; try with_reducible rfl
              try simp only [Act.put, List.setIfInBounds_toArray, List.set_cons_zero, List.set_cons_succ]
              refine wpAnyH_take (i := 3) (oi := ⟨_, _, _, _, _, _⟩) (v := ?_) rfl (by kernel_rfl) (by kernel_rfl) (by kernel_rfl) (fun _ _ _ h => h) (Or.inl ⟨by rfl, ?_⟩) (by assumption) ?_
              rotate_left
              · intro W hSW; go_simp; try with_reducible rfl
              try simp only [Act.put, List.setIfInBounds_toArray, List.set_cons_zero, List.set_cons_succ]
              refine wpAnyH_take (i := 4) (oi := ⟨_, _, _, _, _, _⟩) (v := ?_) rfl (by kernel_rfl) (by kernel_rfl) (by kernel_rfl) (fun _ _ _ h => h) (Or.inl ⟨by rfl, ?_⟩) (by assumption) ?_
              rotate_left
              · intro W hSW; go_simp; try with_reducible rfl
              try simp only [Act.put, List.setIfInBounds_toArray, List.set_cons_zero, List.set_cons_succ]
              refine wpAnyH_take (i := 5) (oi := ⟨_, _, _, _, _, _⟩) (v := ?_) rfl (by kernel_rfl) (by kernel_rfl) (by kernel_rfl) (fun _ _ _ h => h) (Or.inl ⟨by rfl, ?_⟩) (by assumption) ?_
              rotate_left
              · intro W hSW; go_simp; try with_reducible rfl
              try simp only [Act.put, List.setIfInBounds_toArray, List.set_cons_zero, List.set_cons_succ]
              refine wpAnyH_take (i := 6) (oi := ⟨_, _, _, _, _, _⟩) (v := ?_) rfl (by kernel_rfl) (by kernel_rfl) (by kernel_rfl) (fun _ _ _ h => h) (Or.inl ⟨by rfl, ?_⟩) (by assumption) ?_
              rotate_left
              · intro W hSW; go_simp; try with_reducible rfl
              try simp only [Act.put, List.setIfInBounds_toArray, List.set_cons_zero, List.set_cons_succ]
              refine wpAnyH_take (i := 7) (oi := ⟨_, _, _, _, _, _⟩) (v := ?_) rfl (by kernel_rfl) (by kernel_rfl) (by kernel_rfl) (fun _ _ _ h => h) (Or.inl ⟨by rfl, ?_⟩) (by assumption) ?_
              rotate_left
              · intro W hSW; refine exec_load_mid 23 (.tmp 42) ?_ b1 (o1 + k * 34) ?_ (cells x.adr.1) _ (range_below r1.out hSW hb1d) Try.underlying23 rfl HszX.out <;> rfl
              try simp only [Act.put, List.setIfInBounds_toArray, List.set_cons_zero, List.set_cons_succ]
              refine wpAnyH_take (i := 8) (oi := ⟨_, _, _, _, _, _⟩) (v := ?_) rfl (by kernel_rfl) (by kernel_rfl) (by kernel_rfl) (fun _ _ _ h => h) (Or.inl ⟨by rfl, ?_⟩) (by assumption) ?_
              rotate_left
              · intro W hSW; go_simp; try with_reducible rfl
              try simp only [Act.put, List.setIfInBounds_toArray, List.set_cons_zero, List.set_cons_succ]
              refine wpAnyH_take (i := 9) (oi := ⟨_, _, _, _, _, _⟩) (v := ?_) rfl (by kernel_rfl) (by kernel_rfl) (by kernel_rfl) (fun _ _ _ h => h) (Or.inl ⟨by rfl, ?_⟩) (by assumption) ?_
              rotate_left
              · intro W hSW; refine exec_load_mid 23 (.tmp 44) ?_ N 0 ?_ (cells e.adr.1) _ (range_below q5.out hSW hNd) Try.underlying23 rfl HszE.out <;> rfl
              try simp only [Act.put, List.setIfInBounds_toArray, List.set_cons_zero, List.set_cons_succ]
              refine wpAnyH_ready (rs := [10]) (by kernel_rfl) (by simp) ?_
              refine AllReadyH.cons (o := ⟨_, _, _, _, _, _⟩) rfl (fun K hK => ?_) AllReadyH.nil
              go_simp
              refine (rless_any x.adr.1 e.adr.1 x.adr.2 e.adr.2 _).mono ?_
              rintro e wx ⟨rfl, hb⟩
              try simp only []
              have hSwx := hSc.trans (hb.mono hSc.size)
              refine hK.out _ _ hSwx (fun hHeld => ?_)
              clear hK K hb hSc
              have hSc := hSwx
              clear hSwx
              try simp only [Act.put, List.setIfInBounds_toArray, List.set_cons_zero, List.set_cons_succ]
              refine wpAnyH_take (i := 11) (oi := ⟨_, _, _, _, _, _⟩) (v := ?_) rfl (by kernel_rfl) (by kernel_rfl) (by kernel_rfl) (fun _ _ _ h => h) (Or.inl ⟨by rfl, ?_⟩) (by assumption) ?_
              rotate_left
              · intro W hSW; go_simp; try with_reducible rfl
              try simp only [Act.put, List.setIfInBounds_toArray, List.set_cons_zero, List.set_cons_succ]
              refine wpAnyH_take (i := 12) (oi := ⟨_, _, _, _, _, _⟩) (v := ?_) rfl (by kernel_rfl) (by kernel_rfl) (by kernel_rfl) (fun _ _ _ h => h) (Or.inl ⟨by rfl, ?_⟩) (by assumption) ?_
              rotate_left
              · intro W hSW; go_simp; try with_reducible rfl
              try simp only [Act.put, List.setIfInBounds_toArray, List.set_cons_zero, List.set_cons_succ]
              refine wpAnyH_done (by kernel_rfl) ?_ _
              have HO2 : Hid (wx.ownsRow (N + 1) 32 34 u9 o.length (ents o)) := own_below HOd.out hSc
              have HR2 : Hid (RowV wx N 32 e.cs) := HRd.out.below hNd hSc
              have HB2 : Hid (Below N w wx) := HBd.out.trans (hSc.mono (by omega))
              have R2 := Lib.hid (range_below r2.out hSc hb1d)
              have hz2 : N + 1 ≤ wx.heap.size := by have := hSc.size; omega
              have QE := Lib.hid (row_range HR2.out)
              clear HOd HRd HBd r1 r2 q5 hSc hb1d hNd hzd hHeld
              cases hless : Op.bytesLess x.adr.1 e.adr.1
              · have hlo : o.length + 1 ≤ k + 2 := by omega
                by_cases ha : x.adr = e.adr
                · have hkk : kk = (k : Int) := by have := H3.out k x Hx.out; rw [decide_eq_true ha, beq_iff_eq] at this; exact this.symm
                  have HF1 : Hid (foldR e (l.take (k + 1)) = (o ++ [e], true)) := by
                    show _ = _
                    rw [take_snoc Hx.out, foldR_snoc, HF.out]
                    rw [stepR_put ⟨rfl, hless⟩, if_pos ha]
                  have HLn1 : Hid ((o ++ [e]).length ≤ k + 1 + 1) := lenF HF1.out
                  subst hkk
                  go_wp2_with (first
                    | ((with_reducible refine at_load 32 ?_); refine wpList_load_mid rfl 32 _ rfl N 0 rfl e.cs _ QE.out Try.underlying32 rfl Hse.out ?_)
                    | ((with_reducible refine at_buildSlice 26 ?_); refine wpList_buildSlice_oneV rfl 26 32 _ rfl e.cs rfl Try.underlying26 Try.infoE (Ent.cs_length _) (by decide) (by decide) ?_; intro waA hraA hbaA hsaA; have HOaA := Lib.hid (own_below HO2.out hbaA))
                    | (at_builtin; refine wpList_append_one rfl _ _ 26 rfl (N + 1) 32 Try.underlying26 Try.infoE rfl (by decide) _ _ _ rfl HOaA.out _ e.cs rfl hraA (Ent.cs_length _) (Ent.one _) (by unfold maxLen; omega) (by omega) (by omega) ?_; intro vA wbA hownbA hgbA hwhbA; have HOA : Hid (wbA.ownsRow (N + 1) 32 34 vA (o ++ [e]).length (ents (o ++ [e]))) := (by rw [List.length_append, ents_snoc]; exact hownbA); have HB0A : Hid (Below N wx wbA) := (hbaA.mono (by omega)).grown hgbA (by omega) (fun g e => by have := own_ge HOaA.out g e; omega); have HRA : Hid (RowV wbA N 32 e.cs) := (HR2.out.below (by omega) hbaA).keep hgbA (fun e => by have := own_ge HOaA.out _ e; omega); have HBA : Hid (Below N w wbA) := HB2.out.trans HB0A.out; have HZA : N + 1 ≤ wbA.heap.size := (by have := hgbA.size; omega); have RA := Lib.hid (range_below R2.out HB0A.out hb1); clear hownbA hgbA hwhbA))
                  go_roundw
                  case rel => exact ⟨k + 1, o ++ [e], true, by omega, by go_num, rfl, HF1, HLn1, HOA, HRA, HBA, HZA⟩
                  case measure => simp [intOf]; omega
                · skip
                  have hkk : ((k : Int) == kk) = false := by rw [H3.out k x Hx.out]; exact decide_eq_false ha
                  have hkk2 : ¬ ((k : Int) = kk) := by rw [beq_eq_false_iff_ne] at hkk; exact hkk
                  have HF1 : Hid (foldR e (l.take (k + 1)) = (o ++ [e] ++ [x], true)) := by
                    show _ = _
                    rw [take_snoc Hx.out, foldR_snoc, HF.out]
                    rw [stepR_put ⟨rfl, hless⟩, if_neg ha]
                  have HLn1 : Hid ((o ++ [e] ++ [x]).length ≤ k + 1 + 1) := lenF HF1.out
                  have hlo : (o ++ [e]).length ≤ k + 2 := by (simp only [List.length_append, List.length_singleton]; omega)
                  go_wp2_with (first
                    | ((with_reducible refine at_load 32 ?_); refine wpList_load_mid rfl 32 _ rfl N 0 rfl e.cs _ QE.out Try.underlying32 rfl Hse.out ?_)
                    | ((with_reducible refine at_buildSlice 26 ?_); refine wpList_buildSlice_oneV rfl 26 32 _ rfl e.cs rfl Try.underlying26 Try.infoE (Ent.cs_length _) (by decide) (by decide) ?_; intro waA hraA hbaA hsaA; have HOaA := Lib.hid (own_below HO2.out hbaA))
                    | (at_builtin; refine wpList_append_one rfl _ _ 26 rfl (N + 1) 32 Try.underlying26 Try.infoE rfl (by decide) _ _ _ rfl HOaA.out _ e.cs rfl hraA (Ent.cs_length _) (Ent.one _) (by unfold maxLen; omega) (by omega) (by omega) ?_; intro vA wbA hownbA hgbA hwhbA; have HOA : Hid (wbA.ownsRow (N + 1) 32 34 vA (o ++ [e]).length (ents (o ++ [e]))) := (by rw [List.length_append, ents_snoc]; exact hownbA); have HB0A : Hid (Below N wx wbA) := (hbaA.mono (by omega)).grown hgbA (by omega) (fun g e => by have := own_ge HOaA.out g e; omega); have HRA : Hid (RowV wbA N 32 e.cs) := (HR2.out.below (by omega) hbaA).keep hgbA (fun e => by have := own_ge HOaA.out _ e; omega); have HBA : Hid (Below N w wbA) := HB2.out.trans HB0A.out; have HZA : N + 1 ≤ wbA.heap.size := (by have := hgbA.size; omega); have RA := Lib.hid (range_below R2.out HB0A.out hb1); clear hownbA hgbA hwhbA)
                    | ((with_reducible refine at_load 32 ?_); refine wpList_load_mid rfl 32 _ rfl b1 (o1 + k * 34) rfl x.cs _ RA.out Try.underlying32 rfl Hsx.out ?_)
                    | ((with_reducible refine at_buildSlice 26 ?_); refine wpList_buildSlice_oneV rfl 26 32 _ rfl x.cs rfl Try.underlying26 Try.infoE (Ent.cs_length _) (by decide) (by decide) ?_; intro waB hraB hbaB hsaB; have HOaB := Lib.hid (own_below HOA.out hbaB))
                    | (at_builtin; refine wpList_append_one rfl _ _ 26 rfl (N + 1) 32 Try.underlying26 Try.infoE rfl (by decide) _ _ _ rfl HOaB.out _ x.cs rfl hraB (Ent.cs_length _) (Ent.one _) (by unfold maxLen; omega) (by omega) (by omega) ?_; intro vB wbB hownbB hgbB hwhbB; have HOB : Hid (wbB.ownsRow (N + 1) 32 34 vB (o ++ [e] ++ [x]).length (ents (o ++ [e] ++ [x]))) := (by rw [List.length_append, ents_snoc]; exact hownbB); have HB0B : Hid (Below N wbA wbB) := (hbaB.mono (by omega)).grown hgbB (by omega) (fun g e => by have := own_ge HOaB.out g e; omega); have HRB : Hid (RowV wbB N 32 e.cs) := (HRA.out.below (by omega) hbaB).keep hgbB (fun e => by have := own_ge HOaB.out _ e; omega); have HBB : Hid (Below N w wbB) := HBA.out.trans HB0B.out; have HZB : N + 1 ≤ wbB.heap.size := (by have := hgbB.size; omega); clear hownbB hgbB hwhbB))
                  go_roundw
                  case rel => exact ⟨k + 1, o ++ [e] ++ [x], true, by omega, by go_num, rfl, HF1, HLn1, HOB, HRB, HBB, HZB⟩
                  case measure => simp [intOf]; omega
              · skip
                by_cases ha : x.adr = e.adr
                · have hkk : kk = (k : Int) := by have := H3.out k x Hx.out; rw [decide_eq_true ha, beq_iff_eq] at this; exact this.symm
                  have HF1 : Hid (foldR e (l.take (k + 1)) = (o, false)) := by
                    show _ = _
                    rw [take_snoc Hx.out, foldR_snoc, HF.out]
                    rw [stepR_keep (by rw [hless]; simp), if_pos ha]
                  have HLn1 : Hid ((o).length ≤ k + 1 + 1) := lenF HF1.out
                  subst hkk
                  go_wp2_with fail
                  go_roundw
                  case rel => exact ⟨k + 1, o, false, by omega, by go_num, rfl, HF1, HLn1, HO2, HR2, HB2, hz2⟩
                  case measure => simp [intOf]; omega
                · skip
                  have hkk : ((k : Int) == kk) = false := by rw [H3.out k x Hx.out]; exact decide_eq_false ha
                  have hkk2 : ¬ ((k : Int) = kk) := by rw [beq_eq_false_iff_ne] at hkk; exact hkk
                  have HF1 : Hid (foldR e (l.take (k + 1)) = (o ++ [x], false)) := by
                    show _ = _
                    rw [take_snoc Hx.out, foldR_snoc, HF.out]
                    rw [stepR_keep (by rw [hless]; simp), if_neg ha]
                  have HLn1 : Hid ((o ++ [x]).length ≤ k + 1 + 1) := lenF HF1.out
                  have hlo : (o).length ≤ k + 2 := by omega
                  go_wp2_with (first
                    | ((with_reducible refine at_load 32 ?_); refine wpList_load_mid rfl 32 _ rfl b1 (o1 + k * 34) rfl x.cs _ R2.out Try.underlying32 rfl Hsx.out ?_)
                    | ((with_reducible refine at_buildSlice 26 ?_); refine wpList_buildSlice_oneV rfl 26 32 _ rfl x.cs rfl Try.underlying26 Try.infoE (Ent.cs_length _) (by decide) (by decide) ?_; intro waB hraB hbaB hsaB; have HOaB := Lib.hid (own_below HO2.out hbaB))
                    | (at_builtin; refine wpList_append_one rfl _ _ 26 rfl (N + 1) 32 Try.underlying26 Try.infoE rfl (by decide) _ _ _ rfl HOaB.out _ x.cs rfl hraB (Ent.cs_length _) (Ent.one _) (by unfold maxLen; omega) (by omega) (by omega) ?_; intro vB wbB hownbB hgbB hwhbB; have HOB : Hid (wbB.ownsRow (N + 1) 32 34 vB (o ++ [x]).length (ents (o ++ [x]))) := (by rw [List.length_append, ents_snoc]; exact hownbB); have HB0B : Hid (Below N wx wbB) := (hbaB.mono (by omega)).grown hgbB (by omega) (fun g e => by have := own_ge HOaB.out g e; omega); have HRB : Hid (RowV wbB N 32 e.cs) := (HR2.out.below (by omega) hbaB).keep hgbB (fun e => by have := own_ge HOaB.out _ e; omega); have HBB : Hid (Below N w wbB) := HB2.out.trans HB0B.out; have HZB : N + 1 ≤ wbB.heap.size := (by have := hgbB.size; omega); clear hownbB hgbB hwhbB))
                  go_roundw
                  case rel => exact ⟨k + 1, o ++ [x], false, by omega, by go_num, rfl, HF1, HLn1, HOB, HRB, HBB, HZB⟩
                  case measure => simp [intOf]; omega
            · go_wp2_with fail
              obtain ⟨wd, hwd⟩ : ∃ wd, wr.drew = wd := ⟨_, rfl⟩
              have hSc : Below wd.heap.size wd wr.drew := by rw [hwd]; exact Below.refl _ _
              refine wp_region_held_drew (S := fun W => Below wd.heap.size wd W) (by kernel_rfl) hSc (fun hHeld => ?_)
              have HOd : Hid (wr.drew.ownsRow (N + 1) 32 34 u9 o.length (ents o)) := HO.out.drew
              have HRd : Hid (RowV wr.drew N 32 e.cs) := HR.out.drew
              have HBd : Hid (Below N w wr.drew) := HB.out.drew
              have r1 : Hid (wr.drew.rangeAt b1 (o1 + k * 34) (cells x.adr.1)) := Rx.out
              have r2 : Hid (wr.drew.rangeAt b1 (o1 + k * 34) x.cs) := Rf.out
              have hzd : N + 1 ≤ wr.drew.heap.size := hz
              rw [hwd] at hSc hHeld HOd HRd HBd r1 r2 hzd ⊢
              clear hwd HO HR HB Rx Rf hz
              have hb1d : b1 < wd.heap.size := by omega
              have hNd : N < wd.heap.size := by omega
              have q5 : Hid (wd.rangeAt N 0 (cells e.adr.1)) := adr_of (row_range HRd.out)
              refine wpAnyH_take (i := 0) (oi := ⟨_, _, _, _, _, _⟩) (v := ?_) rfl (by kernel_rfl) (by kernel_rfl) (by kernel_rfl) (fun _ _ _ h => h) (Or.inl ⟨by rfl, ?_⟩) (by assumption) ?_
              rotate_left
              · intro W hSW; go_simp; try with_reducible rfl
              try simp only [Act.put, List.setIfInBounds_toArray, List.set_cons_zero, List.set_cons_succ]
              refine wpAnyH_take (i := 1) (oi := ⟨_, _, _, _, _, _⟩) (v := ?_) rfl (by kernel_rfl) (by kernel_rfl) (by kernel_rfl) (fun _ _ _ h => h) (Or.inl ⟨by rfl, ?_⟩) (by assumption) ?_
              rotate_left
              · intro W hSW; go_simp; try with_reducible rfl
              try simp only [Act.put, List.setIfInBounds_toArray, List.set_cons_zero, List.set_cons_succ]
              refine wpAnyH_take (i := 2) (oi := ⟨_, _, _, _, _, _⟩) (v := ?_) rfl (by kernel_rfl) (by kernel_rfl) (by kernel_rfl) (fun _ _ _ h => h) (Or.inl ⟨by rfl, ?_⟩) (by assumption) ?_
              rotate_left
              · intro W hSW; go_simp; try with_reducible rfl
              try simp only [Act.put, List.setIfInBounds_toArray, List.set_cons_zero, List.set_cons_succ]
              refine wpAnyH_take (i := 3) (oi := ⟨_, _, _, _, _, _⟩) (v := undef) rfl (by kernel_rfl) (by kernel_rfl) (by kernel_rfl) (fun _ _ _ h => h) (Or.inr ⟨by rfl, rfl⟩) (by assumption) ?_
              try simp only [Act.put, List.setIfInBounds_toArray, List.set_cons_zero, List.set_cons_succ]
              refine wpAnyH_take (i := 4) (oi := ⟨_, _, _, _, _, _⟩) (v := undef) rfl (by kernel_rfl) (by kernel_rfl) (by kernel_rfl) (fun _ _ _ h => h) (Or.inr ⟨by rfl, rfl⟩) (by assumption) ?_
              try simp only [Act.put, List.setIfInBounds_toArray, List.set_cons_zero, List.set_cons_succ]
              refine wpAnyH_take (i := 5) (oi := ⟨_, _, _, _, _, _⟩) (v := undef) rfl (by kernel_rfl) (by kernel_rfl) (by kernel_rfl) (fun _ _ _ h => h) (Or.inr ⟨by rfl, rfl⟩) (by assumption) ?_
              try simp only [Act.put, List.setIfInBounds_toArray, List.set_cons_zero, List.set_cons_succ]
              refine wpAnyH_take (i := 6) (oi := ⟨_, _, _, _, _, _⟩) (v := undef) rfl (by kernel_rfl) (by kernel_rfl) (by kernel_rfl) (fun _ _ _ h => h) (Or.inr ⟨by rfl, rfl⟩) (by assumption) ?_
              try simp only [Act.put, List.setIfInBounds_toArray, List.set_cons_zero, List.set_cons_succ]
              refine wpAnyH_take (i := 7) (oi := ⟨_, _, _, _, _, _⟩) (v := undef) rfl (by kernel_rfl) (by kernel_rfl) (by kernel_rfl) (fun _ _ _ h => h) (Or.inr ⟨by rfl, rfl⟩) (by assumption) ?_
              try simp only [Act.put, List.setIfInBounds_toArray, List.set_cons_zero, List.set_cons_succ]
              refine wpAnyH_take (i := 8) (oi := ⟨_, _, _, _, _, _⟩) (v := undef) rfl (by kernel_rfl) (by kernel_rfl) (by kernel_rfl) (fun _ _ _ h => h) (Or.inr ⟨by rfl, rfl⟩) (by assumption) ?_
              try simp only [Act.put, List.setIfInBounds_toArray, List.set_cons_zero, List.set_cons_succ]
              refine wpAnyH_take (i := 9) (oi := ⟨_, _, _, _, _, _⟩) (v := undef) rfl (by kernel_rfl) (by kernel_rfl) (by kernel_rfl) (fun _ _ _ h => h) (Or.inr ⟨by rfl, rfl⟩) (by assumption) ?_
              try simp only [Act.put, List.setIfInBounds_toArray, List.set_cons_zero, List.set_cons_succ]
              refine wpAnyH_take (i := 10) (oi := ⟨_, _, _, _, _, _⟩) (v := undef) rfl (by kernel_rfl) (by kernel_rfl) (by kernel_rfl) (fun _ _ _ h => h) (Or.inr ⟨by rfl, rfl⟩) (by assumption) ?_
              try simp only [Act.put, List.setIfInBounds_toArray, List.set_cons_zero, List.set_cons_succ]
              refine wpAnyH_take (i := 11) (oi := ⟨_, _, _, _, _, _⟩) (v := undef) rfl (by kernel_rfl) (by kernel_rfl) (by kernel_rfl) (fun _ _ _ h => h) (Or.inr ⟨by rfl, rfl⟩) (by assumption) ?_
              try simp only [Act.put, List.setIfInBounds_toArray, List.set_cons_zero, List.set_cons_succ]
              refine wpAnyH_take (i := 12) (oi := ⟨_, _, _, _, _, _⟩) (v := ?_) rfl (by kernel_rfl) (by kernel_rfl) (by kernel_rfl) (fun _ _ _ h => h) (Or.inl ⟨by rfl, ?_⟩) (by assumption) ?_
              rotate_left
              · intro W hSW; go_simp; try with_reducible rfl
              try simp only [Act.put, List.setIfInBounds_toArray, List.set_cons_zero, List.set_cons_succ]
              refine wpAnyH_done (by kernel_rfl) ?_ _
              obtain ⟨wx, hwx⟩ : ∃ wx, wd = wx := ⟨_, rfl⟩
              have hSx : Below wd.heap.size wd wd := Below.refl _ _
              clear r1 q5 hSc hSx hwx hHeld
              have hz2 : N + 1 ≤ wd.heap.size := hzd
              by_cases ha : x.adr = e.adr
              · have hkk : kk = (k : Int) := by have := H3.out k x Hx.out; rw [decide_eq_true ha, beq_iff_eq] at this; exact this.symm
                have HF1 : Hid (foldR e (l.take (k + 1)) = (o, true)) := by
                  show _ = _
                  rw [take_snoc Hx.out, foldR_snoc, HF.out]
                  rw [stepR_keep (by simp), if_pos ha]
                have HLn1 : Hid ((o).length ≤ k + 1 + 1) := lenF HF1.out
                subst hkk
                go_wp2_with fail
                go_roundw
                case rel => exact ⟨k + 1, o, true, by omega, by go_num, rfl, HF1, HLn1, HOd, HRd, HBd, hz2⟩
                case measure => simp [intOf]; omega
              · skip
                have hkk : ((k : Int) == kk) = false := by rw [H3.out k x Hx.out]; exact decide_eq_false ha
                have hkk2 : ¬ ((k : Int) = kk) := by rw [beq_eq_false_iff_ne] at hkk; exact hkk
                have HF1 : Hid (foldR e (l.take (k + 1)) = (o ++ [x], true)) := by
                  show _ = _
                  rw [take_snoc Hx.out, foldR_snoc, HF.out]
                  rw [stepR_keep (by simp), if_neg ha]
                have HLn1 : Hid ((o ++ [x]).length ≤ k + 1 + 1) := lenF HF1.out
                have hlo : (o).length ≤ k + 2 := by omega
                go_wp2_with (first
                  | ((with_reducible refine at_load 32 ?_); refine wpList_load_mid rfl 32 _ rfl b1 (o1 + k * 34) rfl x.cs _ r2.out Try.underlying32 rfl Hsx.out ?_)
                  | ((with_reducible refine at_buildSlice 26 ?_); refine wpList_buildSlice_oneV rfl 26 32 _ rfl x.cs rfl Try.underlying26 Try.infoE (Ent.cs_length _) (by decide) (by decide) ?_; intro waB hraB hbaB hsaB; have HOaB := Lib.hid (own_below HOd.out hbaB))
                  | (at_builtin; refine wpList_append_one rfl _ _ 26 rfl (N + 1) 32 Try.underlying26 Try.infoE rfl (by decide) _ _ _ rfl HOaB.out _ x.cs rfl hraB (Ent.cs_length _) (Ent.one _) (by unfold maxLen; omega) (by omega) (by omega) ?_; intro vB wbB hownbB hgbB hwhbB; have HOB : Hid (wbB.ownsRow (N + 1) 32 34 vB (o ++ [x]).length (ents (o ++ [x]))) := (by rw [List.length_append, ents_snoc]; exact hownbB); have HB0B : Hid (Below N wd wbB) := (hbaB.mono (by omega)).grown hgbB (by omega) (fun g e => by have := own_ge HOaB.out g e; omega); have HRB : Hid (RowV wbB N 32 e.cs) := (HRd.out.below (by omega) hbaB).keep hgbB (fun e => by have := own_ge HOaB.out _ e; omega); have HBB : Hid (Below N w wbB) := HBd.out.trans HB0B.out; have HZB : N + 1 ≤ wbB.heap.size := (by have := hgbB.size; omega); clear hownbB hgbB hwhbB))
                go_roundw
                case rel => exact ⟨k + 1, o ++ [x], true, by omega, by go_num, rfl, HF1, HLn1, HOB, HRB, HBB, HZB⟩
                case measure => simp [intOf]; omega
          · obtain rfl : k = n := by omega
            have hfin : foldR e l = (o, p) := by have := HF.out; rw [List.take_of_length_le (by rw [Hn.out]; exact Nat.le_refl _)] at this; exact this
            have QE := Lib.hid (row_range HR.out)
            have hz2 := HZ.out
            cases p
            · have Hp : Hid (RPutP l tn e 0 (o ++ [e])) := H2.out _ (by unfold putR endR; rw [hfin]; rfl)
              clear hfin
              go_wp2_with (first
                | ((with_reducible refine at_load 32 ?_); refine wpList_load_mid rfl 32 _ rfl N 0 rfl e.cs _ QE.out Try.underlying32 rfl Hse.out ?_)
                | ((with_reducible refine at_buildSlice 26 ?_); refine wpList_buildSlice_oneV rfl 26 32 _ rfl e.cs rfl Try.underlying26 Try.infoE (Ent.cs_length _) (by decide) (by decide) ?_; intro waA hraA hbaA hsaA; have HOaA := Lib.hid (own_below HO.out hbaA))
                | (at_builtin; refine wpList_append_one rfl _ _ 26 rfl (N + 1) 32 Try.underlying26 Try.infoE rfl (by decide) _ _ _ rfl HOaA.out _ e.cs rfl hraA (Ent.cs_length _) (Ent.one _) (by unfold maxLen; omega) (by omega) (by omega) ?_; intro vA wbA hownbA hgbA hwhbA; have HOA : Hid (wbA.ownsRow (N + 1) 32 34 vA (o ++ [e]).length (ents (o ++ [e]))) := (by rw [List.length_append, ents_snoc]; exact hownbA); have HB0A : Hid (Below N wr wbA) := (hbaA.mono (by omega)).grown hgbA (by omega) (fun g e => by have := own_ge HOaA.out g e; omega); have HRA : Hid (RowV wbA N 32 e.cs) := (HR.out.below (by omega) hbaA).keep hgbA (fun e => by have := own_ge HOaA.out _ e; omega); have HBA : Hid (Below N w wbA) := HB.out.trans HB0A.out; have HZA : N + 1 ≤ wbA.heap.size := (by have := hgbA.size; omega); clear hownbA hgbA hwhbA))
              go_ret2
              exact ⟨0, o ++ [e], _, rfl, RowE.own HOA.out, .inr (fun g e => by have : N + 1 ≤ g := own_ge HOA.out g e; omega), Hp.out, by rw [hN]; exact HBA.out⟩
            · have Hp : Hid (RPutP l tn e 0 o) := H2.out _ (by unfold putR endR; rw [hfin]; rfl)
              clear hfin
              go_wp2_with fail
              go_ret2
              exact ⟨0, o, _, rfl, RowE.own HO.out, .inr (fun g e => by have : N + 1 ≤ g := own_ge HO.out g e; omega), Hp.out, by rw [hN]; exact HB.out⟩
  · rw [decide_eq_false hok]
    have Hp : Hid (RPutP l tn e 2 l) := .inl ⟨hok, rfl, rfl⟩
    go_wp2_with fail
    go_ret2
    exact ⟨2, l, _, rfl, HRow.out _ HB2.out, .inl rfl, Hp.out, HB2.out⟩
end Go.Proofs.Ytkkllmjomdbndaa
namespace Go.Proofs.Ytkkllmjomdbndaa
open Go.RowKit
set_option linter.unusedVariables false
set_option linter.unusedSimpArgs false

theorem cntT_take {l : List Ent} {k : Nat} {e : Ent} (h : l[k]? = some e) : cntT (l.take (k + 1)) = cntT (l.take k) + (if e.count = 0 then 0 else 1) := by
  have e1 : l.take (k + 1) = l.take k ++ [e] := by
    obtain ⟨hk, rfl⟩ := List.getElem?_eq_some_iff.1 h
    exact List.take_succ_eq_append_getElem hk
  rw [e1]
  unfold cntT
  rw [List.countP_append]
  by_cases hc : e.count = 0 <;> simp [hc]

set_option maxRecDepth 100000 in
set_option maxHeartbeats 1000000 in
theorem tlen_any (w : World) (b g c n : Nat) (l : List Ent) (h : TabAt w b g c n l) :
    Calls Try.prog 22 #[.pointer (some ⟨b, 0, none⟩)] w fun r w' => r = .returned (.int .i64 ((cntT l : Nat) : Int)) ∧ w' = w := by
  have hle := h.le
  have c0 := h.ptr.cell
  have Hh := Lib.hid h
  have Hl := Lib.hid h.len
  clear h
  go_enter Try.func22, Try.ntmps22
  go_wp2_with fail
  go_loopw [3, 10] (fun s v W => ∃ k m : Nat, k ≤ n ∧ m ≤ k ∧ v = .int .i64 k ∧ s = .int .i64 m ∧ Hid (cntT (l.take k) = m) ∧ W = w) (fun _ v _ => n - (intOf v).toNat)
  case atStart => exact ⟨0, 0, Nat.zero_le _, Nat.zero_le _, rfl, rfl, by show _ = _; simp [cntT], rfl⟩
  case round =>
    obtain ⟨k, m, hk, hm, rfl, rfl, HC, rfl⟩ := hrel
    by_cases hlt : k < n
    · have hlt' : (k : Int) < (n : Int) := by omega
      obtain ⟨e, he⟩ := Hh.out.get hlt
      have Hs := Lib.hid (cntT_take he)
      have He := Lib.hid he
      clear he
      go_wp2_with fail
      refine (tempty_any _ b g c n l Hh.out k e He.out).mono ?_
      rintro r w1 ⟨rfl, rfl⟩
      by_cases hc : e.count = 0
      · rw [decide_eq_true hc]
        rw [if_pos hc] at Hs
        go_wp2_with fail
        go_roundw
        case rel => exact ⟨k + 1, m, by omega, by omega, by go_num, by go_num, by show _ = _; rw [Hs.out, HC.out]; rfl, trivial⟩
        case measure => simp [intOf]; omega
      · rw [decide_eq_false hc]
        rw [if_neg hc] at Hs
        go_wp2_with fail
        go_roundw
        case rel => exact ⟨k + 1, m + 1, by omega, by omega, by go_num, by go_num, by show _ = _; rw [Hs.out, HC.out], trivial⟩
        case measure => simp [intOf]; omega
    · obtain rfl : k = n := by omega
      have HC' : Hid (cntT l = m) := by have := HC.out; rw [List.take_of_length_le (by rw [Hl.out]; exact Nat.le_refl _)] at this; exact this
      go_wp2_with fail
      go_ret
      exact ⟨by rw [HC'.out]; rfl, rfl⟩

/-- What a search answers. -/
def Found (l : List Ent) (a : Adr) (r : Value) : Prop :=
  (∃ (k : Nat) (e : Ent), r = .tuple #[.int .i64 (k : Int), .bool true] ∧ l[k]? = some e ∧ e.count ≠ 0 ∧ e.adr = a) ∨ (r = .tuple #[.int .i64 0, .bool false] ∧ ∀ e ∈ l, e.count ≠ 0 → e.adr ≠ a)
/-- i places have been passed, and the search stands before place p. -/
structure Seek (n : Nat) (hn : 0 < n) (l : List Ent) (a : Adr) (i p : Nat) : Prop where
  at_ : p < n
  far : i < n → (ruleT n hn).far a p = i
  no : ∀ q f, q < n → (ruleT n hn).far a q < i → layT l q = some f → f.adr ≠ a
section
variable {n : Nat} {hn : 0 < n} {l : List Ent} {a : Adr}
theorem Seek.start : Seek n hn l a 0 ((ruleT n hn).home a) := ⟨(ruleT n hn).home_lt a, fun _ => farF_self _ _, fun q f _ h => by omega⟩
theorem Seek.next {i p : Nat} {f : Ent} (h : Seek n hn l a i p) (hi : i < n) (hf : l[p]? = some f) (hne : f.count = 0 ∨ f.adr ≠ a) : Seek n hn l a (i + 1) (nextP n p) := by
  have hp := h.at_
  have hfar := h.far hi
  have hh : (ruleT n hn).home a < n := (ruleT n hn).home_lt a
  refine ⟨nextP_lt hp, fun h1 => ?_, fun q g hq hlt hg => ?_⟩
  · by_cases hb : nextP n p = (ruleT n hn).home a
    · have h2 : (ruleT n hn).far a p = n - 1 := by
        show farF n ((ruleT n hn).home a) p = n - 1
        rw [← hb]
        exact farF_next_home hp
      omega
    · have h2 : (ruleT n hn).far a (nextP n p) = (ruleT n hn).far a p + 1 := farF_next hh hp hb
      omega
  · by_cases h1 : (ruleT n hn).far a q < i
    · exact h.no q g hq h1 hg
    · have h2 : q = p := farF_inj hh hq hp (show (ruleT n hn).far a q = (ruleT n hn).far a p by omega)
      subst h2
      obtain ⟨h3, h4⟩ := layT_some hg
      rw [hf] at h3
      cases h3
      exact hne.resolve_left h4
theorem Seek.all {p : Nat} (h : Seek n hn l a n p) (hl : l.length = n) : ∀ e ∈ l, e.count ≠ 0 → e.adr ≠ a := by
  intro e he hc
  obtain ⟨q, hq, rfl⟩ := List.mem_iff_getElem.1 he
  exact h.no q _ (by omega) (farF_lt ((ruleT n hn).home_lt a) (show q < n by omega)) (by rw [layT_at (List.getElem?_eq_getElem hq), if_neg hc])
theorem Seek.out {i p : Nat} {f : Ent} (h : Seek n hn l a i p) (hi : i < n) (ht : Tb n hn l) (hf : l[p]? = some f) (hy : f.count = 0 ∨ (ruleT n hn).goes a f.adr p) : ∀ e ∈ l, e.count ≠ 0 → e.adr ≠ a := by
  have hfar := h.far hi
  have := Fine.absent (R := ruleT n hn) (key := Ent.adr) ht.fine (k := a) (p := p) h.at_ (fun q g hq hlt hg => h.no q g hq (by omega) hg) (by
    by_cases hc : f.count = 0
    · exact .inl (by rw [layT_at hf, if_pos hc])
    · refine .inr ⟨f, by rw [layT_at hf, if_neg hc], ?_, hy.resolve_left hc⟩
      rintro rfl
      exact Rule.goes_asym (hy.resolve_left hc) (hy.resolve_left hc))
  intro e he hc
  obtain ⟨q, hq, rfl⟩ := List.mem_iff_getElem.1 he
  exact this q _ (show q < n by rw [← ht.len]; exact hq) (by rw [layT_at (List.getElem?_eq_getElem hq), if_neg hc])
end

set_option maxRecDepth 100000 in
set_option maxHeartbeats 4000000 in
theorem tfind_any (w : World) (b g c n : Nat) (hn : 0 < n) (l : List Ent) (h : TabAt w b g c n l) (ht : Tb n hn l) (a : Adr) :
    Calls Try.prog 28 #[.pointer (some ⟨b, 0, none⟩), a.val] w fun r w' => ∃ v, r = .returned v ∧ Found l a v ∧ Below w.heap.size w w' := by
  have hle := h.le
  have Hh := Lib.hid h
  have Ht := Lib.hid ht
  have Hl := Lib.hid h.len
  have HszA := Lib.hid (adr_size a)
  have hcap := h.cap
  have hbl := h.blt
  have hgl := h.glt
  clear h ht
  go_enter Try.func28, Try.ntmps28
  go_wp2_with ((with_reducible refine at_box 23 ?_); refine wpList_box_rowV rfl 23 _ rfl (cells a.1) rfl ?_)
  intro w1 hr1 hb1 hs1
  have hT1 := Hh.out.later hb1
  have q1 := Lib.hid (row_range hr1)
  go_wp2_with ((with_reducible refine at_load 23 ?_); refine wpList_load_mid rfl 23 _ rfl w.heap.size 0 rfl (cells a.1) _ q1.out Try.underlying23 rfl HszA.out ?_)
  refine (thome_any w1 b g c n hn l hT1 a).mono ?_
  rintro r w2 ⟨rfl, hb2⟩
  have hT2 := hT1.later hb2
  have c0 := hT2.ptr.cell
  have HB2 : Hid (Below w.heap.size w w2) := hb1.trans (hb2.mono (by omega))
  have HA2 : Hid (RowV w2 w.heap.size 23 (cells a.1)) := hr1.below (by omega) hb2
  have hz2 : w.heap.size + 1 ≤ w2.heap.size := by have := hb2.size; omega
  have HS := Lib.hid (Seek.start (n := n) (hn := hn) (l := l) (a := a))
  have hh : (ruleT n hn).home a < n := (ruleT n hn).home_lt a
  clear hr1 hb1 hs1 hT1 hb2 hT2 q1
  generalize (ruleT n hn).home a = p0 at *
  obtain ⟨N, hN⟩ : ∃ N, w.heap.size = N := ⟨_, rfl⟩
  rw [hN] at HB2 HA2 hz2 hbl hgl ⊢
  go_wp2_with fail
  go_loopw [6, 15] (fun s v W => ∃ i p : Nat, i ≤ n ∧ p < n ∧ v = .int .i64 i ∧ s = .int .i64 p ∧ Hid (Seek n hn l a i p) ∧ Hid (Below N w W) ∧ Hid (RowV W N 23 (cells a.1))) (fun _ v _ => n - (intOf v).toNat)
  case atStart => exact ⟨0, p0, Nat.zero_le _, hh, rfl, rfl, HS, HB2, HA2⟩
  case round =>
    obtain ⟨i, p, hi, hp, rfl, rfl, HK, HB, HA⟩ := hrel
    clear HB2 HA2 hz2 c0 HS
    have hTr := Hh.out.below HB.out hbl hgl
    by_cases hlt : i < n
    · have hlt' : (i : Int) < (n : Int) := by omega
      obtain ⟨f, hf⟩ := hTr.get hp
      have Hf := Lib.hid hf
      have qr := Lib.hid (row_range HA.out)
      have HTr := Lib.hid hTr
      clear hf hTr
      go_wp2_with ((with_reducible refine at_load 23 ?_); refine wpList_load_mid rfl 23 _ rfl N 0 rfl (cells a.1) _ qr.out Try.underlying23 rfl HszA.out ?_)
      refine (tyields_any wr b g c n hn l HTr.out p f Hf.out a).mono ?_
      rintro r w3 ⟨rfl, hb3⟩
      have HNr : Hid (N < wr.heap.size) := HA.out.lt
      have HB3 : Hid (Below N w w3) := HB.out.trans (hb3.mono (by have := HNr.out; omega))
      have hA3 : RowV w3 N 23 (cells a.1) := HA.out.below HNr.out hb3
      have hT3 := HTr.out.later hb3
      clear hb3 HTr qr
      by_cases hy : (decide (f.count = 0) || goesB n hn a f.adr p) = true
      · rw [hy]
        have hy' : f.count = 0 ∨ (ruleT n hn).goes a f.adr p := by
          rw [Bool.or_eq_true, decide_eq_true_eq, goesB_iff] at hy
          exact hy
        have Ho := Lib.hid (HK.out.out hlt Ht.out Hf.out hy')
        clear hy hy'
        go_wp2_with fail
        go_ret2
        exact ⟨_, rfl, .inr ⟨rfl, Ho.out⟩, by rw [hN]; exact HB3.out⟩
      · rw [Bool.eq_false_iff.2 hy]
        have hc : f.count ≠ 0 := fun h0 => hy (by simp [h0])
        clear hy
        have c0 := hT3.ptr.cell
        have ra := Lib.hid (ent_adr hT3.row Hf.out)
        have HszF := Lib.hid (adr_size f.adr)
        have HT3 := Lib.hid hT3
        have HA3 := Lib.hid hA3
        have q3 := Lib.hid (row_range hA3.drew)
        clear hT3 hA3
        have hp' : (p : Int) < (n : Int) := by omega
        have hp0 : (0 : Int) ≤ (p : Int) := by omega
        go_wp2_with fail
        refine wp_region_still_lit (by kernel_rfl) (by kernel_rfl) ?_
        iterate 7 still_step
        refine wpStill_exec (.agg (cells f.adr.1).toArray) rfl (by refine exec_load_mid 23 (.tmp 27) ?_ g (p * 34) ?_ (cells f.adr.1) _ ra.out Try.underlying23 rfl HszF.out <;> rfl) ?_
        try simp only [Act.put, List.setIfInBounds_toArray, List.set_cons_zero, List.set_cons_succ]
        refine wpStill_exec (.agg (cells a.1).toArray) rfl (by refine exec_load_mid 23 (.tmp 3) ?_ N 0 ?_ (cells a.1) _ q3.out Try.underlying23 rfl HszA.out <;> rfl) ?_
        try simp only [Act.put, List.setIfInBounds_toArray, List.set_cons_zero, List.set_cons_succ]
        refine wpStill_exec (.bool (f.adr.1 == a.1)) rfl (by refine exec_eql_bytes 23 (.tmp 28) (.tmp 29) 23 ?_ Try.underlying23 Try.underlying5 (by kernel_rfl) (by kernel_rfl) ?_ ?_ f.adr.2 a.2 <;> rfl) ?_
        try simp only [Act.put, List.setIfInBounds_toArray, List.set_cons_zero, List.set_cons_succ]
        refine wpStill_nil ?_
        change Exit.then _ _ _ _ w3.drew
        by_cases ha : f.adr = a
        · have hb : (f.adr.1 == a.1) = true := by rw [ha]; exact beq_self_eq_true _
          rw [hb]
          go_wp2_with fail
          go_ret2
          exact ⟨_, rfl, .inl ⟨p, f, rfl, Hf.out, hc, ha⟩, by rw [hN]; exact HB3.out.drew⟩
        · have hb : (f.adr.1 == a.1) = false := by rw [beq_eq_false_iff_ne]; exact fun e => ha (Subtype.ext e)
          rw [hb]
          have HK1 := Lib.hid (HK.out.next hlt Hf.out (.inr ha))
          have HTd : Hid (TabAt w3.drew b g c n l) := HT3.out.drew
          have HBd : Hid (Below N w w3.drew) := HB3.out.drew
          have HAd : Hid (RowV w3.drew N 23 (cells a.1)) := HA3.out.drew
          clear hb c0 ra q3
          go_wp2_with fail
          refine (tafter_any _ b g c n l HTd.out p hp).mono ?_
          rintro r w4 ⟨rfl, rfl⟩
          have hnp := nextP_lt hp
          go_wp2_with fail
          go_roundw
          case rel => exact ⟨i + 1, nextP n p, by omega, hnp, by go_num, rfl, HK1, HBd, HAd⟩
          case measure => simp [intOf]; omega
    · obtain rfl : i = n := by omega
      have Ho := Lib.hid (HK.out.all Hl.out)
      go_wp2_with fail
      go_ret2
      exact ⟨_, rfl, .inr ⟨rfl, Ho.out⟩, by rw [hN]; exact HB.out⟩
end Go.Proofs.Ytkkllmjomdbndaa
namespace Go.Proofs.Ytkkllmjomdbndaa
open Go.RowKit
set_option linter.unusedVariables false
set_option linter.unusedSimpArgs false

/-- How many rounds an insertion still takes at most: the entry on its way lies in block N. -/
def leftI (W : World) (N n z p : Nat) : Nat := match W.cell? ⟨N, 33, none⟩ with
  | some (.int _ x) => if x = 0 then 0 else farF n p z + 1
  | _ => 0
theorem leftI_row {W : World} {N n z p : Nat} {t : TypeId} {x : Ent} (h : RowV W N t x.cs) : leftI W N n z p = if x.count = 0 then 0 else farF n p z + 1 := by
  unfold leftI
  rw [h.cell x.get_count]
/-- An insertion under way: the entry x stands before place p, or it is laid and x is none. -/
def Going (n : Nat) (hn : 0 < n) (S : Ent → Prop) (c z : Nat) (l : List Ent) (x : Ent) (p : Nat) : Prop :=
  (x.count ≠ 0 ∧ Ins n hn S c l x p ∧ layT l z = none) ∨ (x.count = 0 ∧ Tb n hn l ∧ cntT l = c + 1 ∧ ∀ y : Ent, (y ∈ l ∧ y.count ≠ 0) ↔ S y)

section
variable {n : Nat} {hn : 0 < n} {S : Ent → Prop} {c z : Nat} {l : List Ent} {x f : Ent} {p : Nat}
theorem Going.real (h : Going n hn S c z l x p) (hx : x.count ≠ 0) : Ins n hn S c l x p ∧ layT l z = none := by
  rcases h with ⟨_, h⟩ | ⟨h0, _⟩
  · exact h
  · exact absurd h0 hx
theorem Going.pass (h : Going n hn S c z l x p) (hx : x.count ≠ 0) (hf : l[p]? = some f) (cf : f.count ≠ 0) (hg : ¬ (ruleT n hn).goes x.adr f.adr p) (hz : z < n) : Going n hn S c z l x (nextP n p) ∧ farF n (nextP n p) z + 1 = farF n p z :=
  ⟨.inl ⟨hx, ((h.real hx).1.pass hf cf hg).1, (h.real hx).2⟩, (h.real hx).1.toward hf cf hz (h.real hx).2⟩
theorem Going.swap (h : Going n hn S c z l x p) (hx : x.count ≠ 0) (hf : l[p]? = some f) (cf : f.count ≠ 0) (hg : (ruleT n hn).goes x.adr f.adr p) (hz : z < n) : Going n hn S c z (l.set p x) f (nextP n p) ∧ farF n (nextP n p) z + 1 = farF n p z := by
  obtain ⟨h1, h2⟩ := h.real hx
  have hzp : z ≠ p := by rintro rfl; rw [layT_at hf, if_neg cf] at h2; cases h2
  refine ⟨.inl ⟨cf, (h1.swapped hf cf hg).1, ?_⟩, h1.toward hf cf hz h2⟩
  rw [layT_set (by rw [h1.len]; exact h1.at_) hx, putP_other _ _ hzp]
  exact h2
theorem Going.rest (h : Going n hn S c z l x p) (hx : x.count ≠ 0) (hf : l[p]? = some f) (cf : f.count = 0) : Going n hn S c z (l.set p x) f (nextP n p) :=
  .inr ⟨cf, (h.real hx).1.rest hf cf⟩
end

set_option maxRecDepth 100000 in
set_option maxHeartbeats 8000000 in
theorem tinsert_any (w : World) (b g c n : Nat) (hn : 0 < n) (l : List Ent) (h : TabAt w b g c n l) (ht : Tb n hn l) (e : Ent) (he : e.count ≠ 0) (hnew : ∀ f ∈ l, f.count ≠ 0 → f.adr ≠ e.adr) (hroom : cntT l + 1 < n) :
    Calls Try.prog 33 #[.pointer (some ⟨b, 0, none⟩), e.val] w fun r w' => r = .returned (.tuple #[]) ∧ ∃ l', TabAt w' b g c n l' ∧ Tb n hn l' ∧ cntT l' = cntT l + 1 ∧ (∀ y : Ent, (y ∈ l' ∧ y.count ≠ 0) ↔ ((y ∈ l ∧ y.count ≠ 0) ∨ y = e)) ∧ But [g] w.heap.size w w' := by
  have hle := h.le
  have hcap := h.cap
  have hbl := h.blt
  have hgl := h.glt
  have Hh := Lib.hid h
  obtain ⟨z, hz, hzn⟩ := cntT_room (l := l) (by rw [ht.len]; omega)
  rw [ht.len] at hz
  have HG : Hid (Going n hn (fun y => (y ∈ l ∧ y.count ≠ 0) ∨ y = e) (cntT l) z l e ((ruleT n hn).home e.adr)) := .inl ⟨he, ht.ins he hnew hroom, hzn⟩
  have hh : (ruleT n hn).home e.adr < n := (ruleT n hn).home_lt e.adr
  obtain ⟨S, hS⟩ : ∃ S, (fun y : Ent => (y ∈ l ∧ y.count ≠ 0) ∨ y = e) = S := ⟨_, rfl⟩
  rw [hS] at HG
  have HS := Lib.hid hS
  obtain ⟨m, hm⟩ : ∃ m, cntT l = m := ⟨_, rfl⟩
  rw [hm] at HG hroom
  have HM := Lib.hid hm
  clear h ht hnew hzn hS hm
  go_enter Try.func33, Try.ntmps33
  go_wp2_with ((with_reducible refine at_box 32 ?_); refine wpList_box_rowV rfl 32 _ rfl e.cs rfl ?_)
  intro w1 hr1 hb1 hs1
  have hT1 := Hh.out.later hb1
  have HszA := Lib.hid (adr_size e.adr)
  have q1 : Hid (w1.rangeAt w.heap.size 0 (cells e.adr.1)) := fun j u hj => (row_range hr1) j u (by rw [Ent.get_adr e j (by have := (List.getElem?_eq_some_iff.1 hj).1; rw [cells_length, e.adr.2] at this; exact this)]; exact hj)
  go_wp2_with ((with_reducible refine at_load 23 ?_); refine wpList_load_mid rfl 23 _ rfl w.heap.size 0 rfl (cells e.adr.1) _ q1.out Try.underlying23 rfl HszA.out ?_)
  refine (thome_any w1 b g c n hn l hT1 e.adr).mono ?_
  rintro r w2 ⟨rfl, hb2⟩
  have HT2 : Hid (TabAt w2 b g c n l) := hT1.later hb2
  have HR2 : Hid (RowV w2 w.heap.size 32 e.cs) := hr1.below (by omega) hb2
  have HB2 : Hid (But [g] w.heap.size w w2) := But.of _ (hb1.trans (hb2.mono (by omega)))
  generalize (ruleT n hn).home e.adr = p0 at *
  obtain ⟨N, hN⟩ : ∃ N, w.heap.size = N := ⟨_, rfl⟩
  rw [hN] at HB2 HR2 hbl hgl ⊢
  clear hr1 hb1 hs1 hT1 hb2 q1
  go_wp2_with fail
  go_loopw [4] (fun s W => ∃ (p : Nat) (l' : List Ent) (x : Ent), p < n ∧ s = .int .i64 p ∧ Hid (Going n hn S m z l' x p) ∧ Hid (TabAt W b g c n l') ∧ Hid (RowV W N 32 x.cs) ∧ Hid (But [g] N w W)) (fun s W => leftI W N n z (intOf s).toNat)
  case atStart => exact ⟨p0, l, e, hh, rfl, HG, HT2, HR2, HB2⟩
  case round =>
    obtain ⟨p, l', x, hp, rfl, HK, HT, HR, HB⟩ := hrel
    have c1 := HR.out.cell x.get_count
    have hml := leftI_row (n := n) (z := z) (p := p) HR.out
    by_cases hx : x.count = 0
    · have hfin : Tb n hn l' ∧ cntT l' = m + 1 ∧ ∀ y : Ent, (y ∈ l' ∧ y.count ≠ 0) ↔ S y := by
        rcases HK.out with ⟨h0, _⟩ | ⟨_, h1⟩
        · exact absurd hx h0
        · exact h1
      have Hfin := Lib.hid hfin
      have hd : (x.count == 0) = true := by rw [beq_iff_eq]; exact hx
      clear hfin
      go_wp2_with fail
      (try simp only [Exit.inBlock, Exit.then]); refine bodyPost_end (results_none rfl _ _ _) rfl ?_
      exact ⟨rfl, l', HT.out, Hfin.out.1, by rw [HM.out]; exact Hfin.out.2.1, fun y => by have := Hfin.out.2.2 y; rw [← HS.out] at this; exact this, by rw [hN]; exact HB.out⟩
    · obtain ⟨f, hf⟩ := HT.out.get hp
      have Hf := Lib.hid hf
      have hd : (x.count == 0) = false := by rw [beq_eq_false_iff_ne]; exact hx
      have Hx := Lib.hid hx
      have HszX := Lib.hid (adr_size x.adr)
      have qx : Hid (wr.rangeAt N 0 (cells x.adr.1)) := fun j u hj => (row_range HR.out) j u (by rw [Ent.get_adr x j (by have := (List.getElem?_eq_some_iff.1 hj).1; rw [cells_length, x.adr.2] at this; exact this)]; exact hj)
      clear hf
      go_wp2_with ((with_reducible refine at_load 23 ?_); refine wpList_load_mid rfl 23 _ rfl N 0 rfl (cells x.adr.1) _ qx.out Try.underlying23 rfl HszX.out ?_)
      refine (tyields_any wr b g c n hn l' HT.out p f Hf.out x.adr).mono ?_
      rintro r w3 ⟨rfl, hb3⟩
      have HNr : Hid (N < wr.heap.size) := HR.out.lt
      have HB3 : Hid (But [g] N w w3) := HB.out.trans (But.of _ (hb3.mono (by have := HNr.out; omega)))
      have HR3 : Hid (RowV w3 N 32 x.cs) := HR.out.below HNr.out hb3
      have HT3 : Hid (TabAt w3 b g c n l') := HT.out.later hb3
      have hsz3 : N < w3.heap.size := HR3.out.lt
      rw [if_neg hx] at hml
      have Hml := Lib.hid hml
      have hnp := nextP_lt hp
      clear hb3 qx c1 hml HT HR HB HNr HT2 HR2 HB2 HG
      by_cases hy : (decide (f.count = 0) || goesB n hn x.adr f.adr p) = true
      · rw [hy]
        have hp' : (p : Int) < (n : Int) := by omega
        have hp0 : (0 : Int) ≤ (p : Int) := by omega
        have c0 := HT3.out.ptr.cell
        have HTd : Hid (TabAt w3.drew b g c n l') := HT3.out.drew
        have HRd : Hid (RowV w3.drew N 32 x.cs) := HR3.out.drew
        have HBd : Hid (But [g] N w w3.drew) := HB3.out.drew
        have hszd : N < w3.drew.heap.size := hsz3
        have qN := Lib.hid (row_range HRd.out)
        have qF : Hid (w3.drew.rangeAt g (p * 34) f.cs) := ent_range HTd.out.row Hf.out
        have Hsx := Lib.hid (ent_size x)
        have Hsf := Lib.hid (ent_size f)
        clear HT3 HR3 HB3 hsz3
        go_wp2_with fail
        refine wp_region_still_tail 14 (by kernel_rfl) (by kernel_rfl) ?_
        simp only [List.take_succ_cons, List.take_zero, List.drop_succ_cons, List.drop_zero]
        iterate 5 still_step
        refine wpStill_exec (.agg x.cs.toArray) rfl (by refine exec_load_mid 32 (.tmp 3) ?_ N 0 ?_ x.cs _ qN.out Try.underlying32 rfl Hsx.out <;> rfl) ?_
        try simp only [Act.put, List.setIfInBounds_toArray, List.set_cons_zero, List.set_cons_succ]
        iterate 6 still_step
        refine wpStill_exec (.agg f.cs.toArray) rfl (by refine exec_load_mid 32 (.tmp 31) ?_ g (p * 34) ?_ f.cs _ qF.out Try.underlying32 rfl Hsf.out <;> rfl) ?_
        try simp only [Act.put, List.setIfInBounds_toArray, List.set_cons_zero, List.set_cons_succ]
        still_step
        refine wpStill_nil ?_
        change wpList _ _ _ _ _ w3.drew
        have hthere := HTd.out.there hp
        have hset := HTd.out.set hp x
        have Hset := Lib.hid hset
        clear hset
        generalize w3.drew = wd at *
        go_wp2_with (first
          | ((with_reducible refine at_store 32 ?_); refine wpList_store_midV rfl 32 _ _ rfl g (p * 34) x.cs rfl rfl (by rw [List.size_toArray, Ent.cs_length]; exact hthere) (by rw [List.size_toArray]; exact ent_size _) (all_oneCell_toArray (Ent.one _)) ?_; intro w4 hw4; have hr4 : RowV w4 N 32 x.cs := by rw [hw4]; exact HRd.out.keep Hset.out.2 (fun e => by injection e with e; omega))
          | ((with_reducible refine at_store 32 ?_); refine wpList_store_rowV rfl 32 _ _ rfl N f.cs rfl rfl 32 x.cs hr4 (by rw [List.size_toArray]; exact ent_size _) (by rw [List.size_toArray, List.size_toArray, Ent.cs_length, Ent.cs_length]) (all_oneCell_toArray (Ent.one _)) ?_; intro w5 hr5 hg5 hs5))
        have hg4 : wd.grownBy w4 (some g) := by rw [hw4]; exact Hset.out.2
        have hT4 : TabAt w4 b g c n (l'.set p x) := by rw [hw4]; exact Hset.out.1
        have HT5 : Hid (TabAt w5 b g c n (l'.set p x)) := hT4.keep hg5 (fun e => by injection e with e; omega) (fun e => by injection e with e; omega)
        have hB4 : But [g] N w w4 := HBd.out.grown hg4 (fun k e => by injection e with e; left; simp [e]) (by omega)
        have HB5 : Hid (But [g] N w w5) := hB4.grown hg5 (fun k e => by injection e with e; right; omega) (by have := hg4.size; omega)
        have HR5 := Lib.hid hr5
        have hnext : Going n hn S m z (l'.set p x) f (nextP n p) ∧ leftI w5 N n z (nextP n p) < farF n p z + 1 := by
          by_cases cf : f.count = 0
          · refine ⟨HK.out.rest Hx.out Hf.out cf, ?_⟩
            rw [leftI_row hr5, if_pos cf]
            omega
          · have hg' : (ruleT n hn).goes x.adr f.adr p := by
              rw [Bool.or_eq_true, decide_eq_true_eq, goesB_iff] at hy
              exact hy.resolve_left cf
            obtain ⟨h1, h2⟩ := HK.out.swap Hx.out Hf.out cf hg' hz
            refine ⟨h1, ?_⟩
            rw [leftI_row hr5, if_neg cf]
            omega
        have H1 := Lib.hid hnext.1
        have H2 := Lib.hid hnext.2
        clear hnext hT4 hB4 hg4 hw4 hr4 hr5 hg5 hs5 Hset hthere HTd HRd HBd qN qF c0 hy
        refine (tafter_any _ b g c n (l'.set p x) HT5.out p hp).mono ?_
        rintro r w6 ⟨rfl, rfl⟩
        go_wp2_with fail
        go_roundw
        case rel => exact ⟨nextP n p, l'.set p x, f, hnp, rfl, H1, HT5, HR5, HB5⟩
        case measure =>
          show leftI _ N n z (intOf (Value.int IntKind.i64 ((nextP n p : Nat) : Int))).toNat < leftI _ N n z (intOf (Value.int IntKind.i64 (p : Int))).toNat
          simp only [intOf, Int.toNat_natCast]
          rw [Hml.out]
          exact H2.out
      · rw [Bool.eq_false_iff.2 hy]
        have cf : f.count ≠ 0 := fun h0 => hy (by simp [h0])
        have hg' : ¬ (ruleT n hn).goes x.adr f.adr p := fun h0 => hy (by rw [goesB_iff.2 h0]; simp)
        obtain ⟨h1, h2⟩ := HK.out.pass Hx.out Hf.out cf hg' hz
        have H1 := Lib.hid h1
        have H2 := Lib.hid h2
        clear h1 h2 hy
        go_wp2_with fail
        refine (tafter_any _ b g c n l' HT3.out p hp).mono ?_
        rintro r w4 ⟨rfl, rfl⟩
        go_wp2_with fail
        go_roundw
        case rel => exact ⟨nextP n p, l', x, hnp, rfl, H1, HT3, HR3, HB3⟩
        case measure =>
          show leftI _ N n z (intOf (Value.int IntKind.i64 ((nextP n p : Nat) : Int))).toNat < leftI _ N n z (intOf (Value.int IntKind.i64 (p : Int))).toNat
          simp only [intOf, Int.toNat_natCast]
          rw [leftI_row HR3.out, if_neg Hx.out, Hml.out]
          have := H2.out
          omega
end Go.Proofs.Ytkkllmjomdbndaa
namespace Go.Proofs.Ytkkllmjomdbndaa
open Go.RowKit
set_option linter.unusedVariables false
set_option linter.unusedSimpArgs false

theorem wpList_append_range {P : Program} {w : World} {ops : Array Oper} {rest : List Oper} {o : Oper} {a : Act} {Q : Exit → Act → World → Prop} (hgd : o.guard = none) (s x : Operand) (t : TypeId) (ho : o.op = .call { callee := .builtin .append, args := #[s, x], argTypes := #[t, t] })
    (base : Nat) (e : TypeId) {z : Value} {size bytes : Nat} (ht : P.underlying t = some (.slice e)) (hi : (P.info? e).map (fun i => (i.zero, i.size, i.bytes)) = some (some z, size, bytes)) (hzs : z.cells.size = size) (hsz : 0 < size)
    (v : Value) (n : Nat) (xs : List Value) (hs : a.eval s = v) (hown : w.ownsRow base e size v n xs)
    (b k m c : Nat) (ys : List Value) (hx : a.eval x = .slice (some ⟨b, k, none⟩) m c) (hl : ys.length = m * size) (hr : w.rangeAt b k ys) (h1 : ∀ u ∈ ys, u.oneCell' = true)
    (h63 : n + m ≤ maxLen) (hbytes : (n + m) * bytes ≤ 140737488355328) (hbase : base ≤ w.heap.size)
    (h : ∀ v' w', w'.ownsRow base e size v' (n + m) (xs ++ ys) → w.grownBy w' v.ownBlock → wpList P ops Q rest (a.put o.dst v') w') : wpList P ops Q (o :: rest) a w := by
  obtain ⟨i, hie, hz, hs1, hb1⟩ := info_parts hi
  exact wpList_append_own_at w hgd s x t ho base e i z size bytes ht hie hz hs1 hb1 hzs hsz v n xs hs hown ⟨b, k, none⟩ m c ys hx hl (fun j u hj => by rw [Addr.add_lit]; exact hr j u hj) h1 h63 hbytes hbase (fun v' w' a1 a2 _ _ => h v' w' a1 a2)
theorem lies_range {w : World} {B : Nat} {A : Option Addr} {l : List Ent} (h : LiesV w B A (ents l)) (hl : 0 < l.length) : ∃ b o, A = some ⟨b, o, none⟩ ∧ b < B ∧ w.rangeAt b o (ents l) := by
  obtain ⟨b, o, hA, hb, hc⟩ := h (fun e0 => by have := congrArg List.length e0; rw [ents_length] at this; simp only [List.length_nil] at this; omega)
  exact ⟨b, o, hA, hb, hc⟩
theorem range_take {w : World} {b o : Nat} {l : List Ent} (h : w.rangeAt b o (ents l)) (k : Nat) : w.rangeAt b o (ents (l.take k)) := by
  intro j v hj
  refine h j v ?_
  conv => lhs; rw [← List.take_append_drop k l, ents_append]
  rw [List.getElem?_append_left (List.getElem?_eq_some_iff.1 hj).1]
  exact hj
theorem range_drop {w : World} {b o : Nat} {l : List Ent} (h : w.rangeAt b o (ents l)) {k : Nat} (hk : k ≤ l.length) : w.rangeAt b (o + k * 34) (ents (l.drop k)) := by
  intro j v hj
  have hlen : (ents (l.take k)).length = k * 34 := by rw [ents_length, List.length_take, Nat.min_eq_left hk]
  rw [Nat.add_assoc]
  refine h (k * 34 + j) v ?_
  conv => lhs; rw [← List.take_append_drop k l, ents_append]
  rw [List.getElem?_append_right (by omega), hlen, Nat.add_sub_cancel_left]
  exact hj
/-- What the reference's Drop answers. -/
def RDropP (l : List Ent) (a : Adr) (code : Int) (l' : List Ent) : Prop :=
  (∃ (k : Nat) (e : Ent), l[k]? = some e ∧ e.adr = a ∧ code = 0 ∧ l' = dropR l k) ∨ ((∀ e ∈ l, e.adr ≠ a) ∧ code = 8 ∧ l' = l)

set_option maxRecDepth 100000 in
set_option maxHeartbeats 8000000 in
theorem rdrop_any (w : World) (v : Value) (l : List Ent) (a : Adr) (h : RowE w v l) (hle : l.length ≤ 900) :
    Calls Try.prog 26 #[v, a.val] w fun r w' => ∃ code l' v', r = .returned (.tuple #[v', .int .i64 code]) ∧ RowE w' v' l' ∧ (v' = v ∨ ∀ g, v'.ownBlock = some g → w.heap.size ≤ g) ∧ RDropP l a code l' ∧ Below w.heap.size w w' := by
  obtain ⟨A, c, rfl, hc, hl⟩ := h
  have HL := Lib.hid hl
  have HszA := Lib.hid (adr_size a)
  have HRow : Hid (∀ w', Below w.heap.size w w' → RowE w' (.slice A l.length c) l) := fun w' hb => ⟨A, c, rfl, hc, (hl.below hb).le hb.size⟩
  obtain ⟨n, hn⟩ : ∃ n, l.length = n := ⟨_, rfl⟩
  have Hn := Lib.hid hn
  rw [hn] at hc hle HRow ⊢
  clear hl hn
  go_enter Try.func26, Try.ntmps26
  go_wp2_with (with_reducible refine at_box 23 ?_; refine wpList_box_rowV rfl 23 _ rfl (cells a.1) rfl ?_)
  intro w1 hr1 hb1 hs1
  have q1 := Lib.hid (row_range hr1)
  have HL1 : Hid (LiesV w1 w.heap.size A (ents l)) := HL.out.below hb1
  go_wp2_with ((with_reducible refine at_load 23 ?_); refine wpList_load_mid rfl 23 _ rfl w.heap.size 0 rfl (cells a.1) _ q1.out Try.underlying23 rfl HszA.out ?_)
  refine (rfind_any w1 w.heap.size n c A l a HL1.out Hn.out.symm (by omega) (by omega) hc).mono ?_
  rintro r w2 ⟨⟨kk, rfl, hf⟩, hb2⟩
  have HB2 : Hid (Below w.heap.size w w2) := hb1.trans (hb2.mono (by omega))
  have hs2 : w.heap.size ≤ w2.heap.size := by have := hb2.size; omega
  clear hr1 hb1 hs1 hb2 q1 HL1
  rcases hf with ⟨k, f, rfl, hk, ha⟩ | ⟨rfl, hno⟩
  · have hkn : k < n := by have := (List.getElem?_eq_some_iff.1 hk).1; rw [Hn.out] at this; exact this
    have Hp : Hid (RDropP l a 0 (dropR l k)) := .inl ⟨k, f, hk, ha, rfl, rfl⟩
    obtain ⟨b, o, hA, hb, hr⟩ := lies_range (HL.out.below HB2.out) (by rw [Hn.out]; omega)
    subst hA
    have R1 : Hid (w2.rangeAt b o (ents (l.take k))) := range_take hr k
    have R2 : Hid (w2.rangeAt b (o + (k + 1) * 34) (ents (l.drop (k + 1)))) := range_drop hr (by rw [Hn.out]; omega)
    have L1 : Hid ((ents (l.take k)).length = k * 34) := by show _ = _; rw [ents_length, List.length_take, Hn.out, Nat.min_eq_left (by omega)]
    have L2 : Hid ((ents (l.drop (k + 1))).length = (n - (k + 1)) * 34) := by show _ = _; rw [ents_length, List.length_drop, Hn.out]
    obtain ⟨N, hN⟩ : ∃ N, w.heap.size = N := ⟨_, rfl⟩
    rw [hN] at HB2 hs2 hb
    have hkd : decide ((k : Int) < 0) = false := decide_eq_false (by omega)
    have hk0 : (0 : Int) ≤ (k : Int) := by omega
    have hkn' : (k : Int) < (n : Int) := by omega
    clear hr hk ha
    by_cases hck : c = k + 1
    · have R2 : Hid (w2.rangeAt b o (ents (l.drop (k + 1)))) := by
        intro j v hj
        have h1 := (List.getElem?_eq_some_iff.1 hj).1
        rw [L2.out] at h1
        omega
      go_wp2_with (first
        | (at_builtin; refine wpList_append_range rfl _ _ 26 rfl N 32 Try.underlying26 Try.infoE rfl (by decide) (.slice none 0 0) 0 [] rfl (World.ownsRow_nil _ _ _ _) b o k _ (ents (l.take k)) rfl L1.out R1.out (ents_one _) (by unfold maxLen; omega) (by omega) hs2 ?_; intro v3 w3 hown3 hg3; have HO3 := Lib.hid hown3; have hb3 : Below N w2 w3 := (Below.refl _ _).grown hg3 hs2 (by simp [Value.ownBlock]); have R3 := Lib.hid (range_below R2.out hb3 hb); have HB3 : Hid (Below N w w3) := HB2.out.trans hb3; have hs3 : N ≤ w3.heap.size := (by have := hb3.size; omega); clear hg3 hown3 hb3)
        | (at_builtin; refine wpList_append_range rfl _ _ 26 rfl N 32 Try.underlying26 Try.infoE rfl (by decide) _ _ _ rfl HO3.out b o (n - (k + 1)) _ (ents (l.drop (k + 1))) rfl L2.out R3.out (ents_one _) (by unfold maxLen; omega) (by omega) hs3 ?_; intro v4 w4 hown4 hg4))
      have hB4 : Below N w w4 := HB3.out.grown hg4 hs3 (fun g e => by have := own_ge HO3.out g e; omega)
      have hrow : RowE w4 v4 (dropR l k) := RowE.own (by unfold dropR; rw [ents_append]; exact hown4)
      go_ret2
      exact ⟨0, _, _, rfl, hrow, .inr (fun g e => by have : N ≤ g := own_ge hown4 g e; omega), Hp.out, by rw [hN]; exact hB4⟩
    · skip
      go_wp2_with (first
        | (at_builtin; refine wpList_append_range rfl _ _ 26 rfl N 32 Try.underlying26 Try.infoE rfl (by decide) (.slice none 0 0) 0 [] rfl (World.ownsRow_nil _ _ _ _) b o k _ (ents (l.take k)) rfl L1.out R1.out (ents_one _) (by unfold maxLen; omega) (by omega) hs2 ?_; intro v3 w3 hown3 hg3; have HO3 := Lib.hid hown3; have hb3 : Below N w2 w3 := (Below.refl _ _).grown hg3 hs2 (by simp [Value.ownBlock]); have R3 := Lib.hid (range_below R2.out hb3 hb); have HB3 : Hid (Below N w w3) := HB2.out.trans hb3; have hs3 : N ≤ w3.heap.size := (by have := hb3.size; omega); clear hg3 hown3 hb3)
        | (at_builtin; refine wpList_append_range rfl _ _ 26 rfl N 32 Try.underlying26 Try.infoE rfl (by decide) _ _ _ rfl HO3.out b (o + (k + 1) * 34) (n - (k + 1)) _ (ents (l.drop (k + 1))) rfl L2.out R3.out (ents_one _) (by unfold maxLen; omega) (by omega) hs3 ?_; intro v4 w4 hown4 hg4))
      have hB4 : Below N w w4 := HB3.out.grown hg4 hs3 (fun g e => by have := own_ge HO3.out g e; omega)
      have hrow : RowE w4 v4 (dropR l k) := RowE.own (by unfold dropR; rw [ents_append]; exact hown4)
      go_ret2
      exact ⟨0, _, _, rfl, hrow, .inr (fun g e => by have : N ≤ g := own_ge hown4 g e; omega), Hp.out, by rw [hN]; exact hB4⟩
  · have Hp : Hid (RDropP l a 8 l) := .inr ⟨hno, rfl, rfl⟩
    have hkd : decide ((-1 : Int) < 0) = true := by decide
    clear hno
    go_wp2_with fail
    go_ret2
    exact ⟨8, l, _, rfl, HRow.out _ HB2.out, .inl rfl, Hp.out, HB2.out⟩
end Go.Proofs.Ytkkllmjomdbndaa
namespace Go.Proofs.Ytkkllmjomdbndaa
open Go.RowKit
set_option linter.unusedVariables false
set_option linter.unusedSimpArgs false

/-- What Put makes of a table, and what it answers. -/
structure PutP (n : Nat) (hn : 0 < n) (l : List Ent) (e : Ent) (code : Int) (l' : List Ent) : Prop where
  tb : Tb n hn l'
  what : (¬ e.ok ∧ code = 2 ∧ l' = l) ∨
    (e.ok ∧ (∃ f ∈ l, f.count ≠ 0 ∧ f.adr = e.adr) ∧ code = 0 ∧ cntT l' = cntT l ∧ ∀ x : Ent, x.count ≠ 0 → (x ∈ l' ↔ (x ∈ l ∧ x.adr ≠ e.adr) ∨ x = e)) ∨
    (e.ok ∧ (∀ f ∈ l, f.count ≠ 0 → f.adr ≠ e.adr) ∧ n ≤ cntT l + 1 ∧ code = 6 ∧ l' = l) ∨
    (e.ok ∧ (∀ f ∈ l, f.count ≠ 0 → f.adr ≠ e.adr) ∧ cntT l + 1 < n ∧ code = 0 ∧ cntT l' = cntT l + 1 ∧ ∀ x : Ent, x.count ≠ 0 → (x ∈ l' ↔ (x ∈ l ∧ x.adr ≠ e.adr) ∨ x = e))
theorem Ent.ok.real {e : Ent} (h : e.ok) : e.count ≠ 0 := by have := h.1; omega

set_option maxRecDepth 100000 in
set_option maxHeartbeats 8000000 in
theorem tput_any (w : World) (b g c n : Nat) (hn : 0 < n) (l : List Ent) (h : TabAt w b g c n l) (ht : Tb n hn l) (e : Ent) :
    Calls Try.prog 17 #[.pointer (some ⟨b, 0, none⟩), e.val] w fun r w' => ∃ code l', r = .returned (.int .i64 code) ∧ TabAt w' b g c n l' ∧ PutP n hn l e code l' ∧ But [g] w.heap.size w w' := by
  have hle := h.le
  have hcap := h.cap
  have hbl := h.blt
  have hgl := h.glt
  have Hh := Lib.hid h
  have Ht := Lib.hid ht
  have Hse := Lib.hid (ent_size e)
  have HszA := Lib.hid (adr_size e.adr)
  clear h ht
  go_enter Try.func17, Try.ntmps17
  go_wp2_with ((with_reducible refine at_box 32 ?_); refine wpList_box_rowV rfl 32 _ rfl e.cs rfl ?_)
  intro w1 hr1 hb1 hs1
  have hT1 := Hh.out.later hb1
  have q1 := Lib.hid (row_range hr1)
  go_wp2_with ((with_reducible refine at_load 32 ?_); refine wpList_load_mid rfl 32 _ rfl w.heap.size 0 rfl e.cs _ q1.out Try.underlying32 rfl Hse.out ?_)
  refine (tvalid_any w1 e).mono ?_
  rintro r w2 ⟨rfl, hb2⟩
  have HT2 : Hid (TabAt w2 b g c n l) := hT1.later hb2
  have HR2 : Hid (RowV w2 w.heap.size 32 e.cs) := hr1.below (by omega) hb2
  have HB2 : Hid (Below w.heap.size w w2) := hb1.trans (hb2.mono (by omega))
  clear hr1 hb1 hs1 hT1 hb2 q1
  by_cases hok : e.ok
  · rw [decide_eq_true hok]
    have Hok := Lib.hid hok
    have q2 : Hid (w2.rangeAt w.heap.size 0 (cells e.adr.1)) := fun j u hj => (row_range HR2.out) j u (by rw [Ent.get_adr e j (by have := (List.getElem?_eq_some_iff.1 hj).1; rw [cells_length, e.adr.2] at this; exact this)]; exact hj)
    obtain ⟨N, hN⟩ : ∃ N, w.heap.size = N := ⟨_, rfl⟩
    rw [hN] at HB2 HR2 hbl hgl q2 ⊢
    go_wp2_with ((with_reducible refine at_load 23 ?_); refine wpList_load_mid rfl 23 _ rfl N 0 rfl (cells e.adr.1) _ q2.out Try.underlying23 rfl HszA.out ?_)
    refine (tfind_any w2 b g c n hn l HT2.out Ht.out e.adr).mono ?_
    rintro r w3 ⟨v, rfl, hf, hb3⟩
    have hNs : N < w2.heap.size := HR2.out.lt
    have HT3 : Hid (TabAt w3 b g c n l) := HT2.out.later hb3
    have HR3 : Hid (RowV w3 N 32 e.cs) := HR2.out.below hNs hb3
    have HB3 : Hid (Below N w w3) := HB2.out.trans (hb3.mono (by omega))
    clear HT2 HR2 HB2 hb3 hNs q2
    rcases hf with ⟨k, f, rfl, hk, hc, ha⟩ | ⟨rfl, hno⟩
    · have hkn : k < n := by have := (List.getElem?_eq_some_iff.1 hk).1; rw [HT3.out.len] at this; exact this
      have hk' : (k : Int) < (n : Int) := by omega
      have hk0 : (0 : Int) ≤ (k : Int) := by omega
      have c0 := HT3.out.ptr.cell
      have HTd : Hid (TabAt w3.drew b g c n l) := HT3.out.drew
      have HRd : Hid (RowV w3.drew N 32 e.cs) := HR3.out.drew
      have HBd : Hid (Below N w w3.drew) := HB3.out.drew
      have hszd : N < w3.drew.heap.size := HR3.out.lt
      have qN := Lib.hid (row_range HRd.out)
      have hthere := HTd.out.there hkn
      have Hset := Lib.hid (HTd.out.set hkn e)
      obtain ⟨r1, r2, r3⟩ := Ht.out.replace hk hc Hok.out.real ha.symm
      have Hp : Hid (PutP n hn l e 0 (l.set k e)) := ⟨r1, .inr (.inl ⟨Hok.out, ⟨f, List.mem_of_getElem? hk, hc, ha⟩, rfl, r2, r3⟩)⟩
      clear HT3 HR3 HB3 r1 r2 r3 hk hc ha
      go_wp2_with fail
      refine wp_region_still_tail 7 (by kernel_rfl) (by kernel_rfl) ?_
      simp only [List.take_succ_cons, List.take_zero, List.drop_succ_cons, List.drop_zero]
      iterate 5 still_step
      refine wpStill_exec (.agg e.cs.toArray) rfl (by refine exec_load_mid 32 (.tmp 3) ?_ N 0 ?_ e.cs _ qN.out Try.underlying32 rfl Hse.out <;> rfl) ?_
      try simp only [Act.put, List.setIfInBounds_toArray, List.set_cons_zero, List.set_cons_succ]
      still_step
      refine wpStill_nil ?_
      change wpList _ _ _ _ _ w3.drew
      generalize w3.drew = wd at *
      go_wp2_with ((with_reducible refine at_store 32 ?_); refine wpList_store_midV rfl 32 _ _ rfl g (k * 34) e.cs rfl rfl (by rw [List.size_toArray, Ent.cs_length]; exact hthere) (by rw [List.size_toArray]; exact ent_size _) (all_oneCell_toArray (Ent.one _)) ?_; intro w4 hw4)
      go_ret
      have hg4 : wd.grownBy w4 (some g) := by rw [hw4]; exact Hset.out.2
      have hB : But [g] N w w4 := (But.of [g] HBd.out).grown hg4 (fun k e => by injection e with e; left; simp [e]) (by omega)
      exact ⟨0, _, rfl, Hset.out.1, Hp.out, by rw [hN, ← hw4]; exact hB⟩
    · have Hno := Lib.hid hno
      clear hno
      go_wp2_with fail
      refine (tsize_any w3 b g c n l HT3.out).mono ?_
      rintro r w4 ⟨rfl, hw⟩
      rw [hw]
      clear hw w4
      go_wp2_with fail
      refine (tlen_any w3 b g c n l HT3.out).mono ?_
      rintro r w4 ⟨rfl, hw⟩
      rw [hw]
      clear hw w4
      have hroom := Ht.out.room
      obtain ⟨m, hm⟩ : ∃ m, cntT l = m := ⟨_, rfl⟩
      rw [hm] at hroom ⊢
      by_cases hfull : n ≤ m + 1
      · have hd : decide ((n : Int) - (m : Int) ≤ 1) = true := decide_eq_true (by omega)
        have Hp : Hid (PutP n hn l e 6 l) := ⟨Ht.out, .inr (.inr (.inl ⟨Hok.out, Hno.out, by omega, rfl, rfl⟩))⟩
        go_wp2_with fail
        go_ret
        exact ⟨6, l, rfl, HT3.out, Hp.out, But.of _ (by rw [hN]; exact HB3.out)⟩
      · have hd : decide ((n : Int) - (m : Int) ≤ 1) = false := decide_eq_false (by omega)
        have q3 := Lib.hid (row_range HR3.out)
        have hroom2 : Hid (cntT l + 1 < n) := by show _ < _; omega
        go_wp2_with ((with_reducible refine at_load 32 ?_); refine wpList_load_mid rfl 32 _ rfl N 0 rfl e.cs _ q3.out Try.underlying32 rfl Hse.out ?_)
        refine (tinsert_any w3 b g c n hn l HT3.out Ht.out e Hok.out.real Hno.out hroom2.out).mono ?_
        rintro r w4 ⟨rfl, l', hT4, ht4, hc4, hm4, hB4⟩
        have Hp : Hid (PutP n hn l e 0 l') := ⟨ht4, .inr (.inr (.inr ⟨Hok.out, Hno.out, hroom2.out, rfl, hc4, fun x hx => ⟨fun hi => ((hm4 x).1 ⟨hi, hx⟩).imp (fun h => ⟨h.1, Hno.out x h.1 hx⟩) id, fun hi => ((hm4 x).2 (hi.imp (fun h => ⟨h.1, hx⟩) id)).1⟩⟩))⟩
        have HT4 := Lib.hid hT4
        have HB4 : Hid (But [g] N w w4) := (But.of [g] HB3.out).trans (hB4.less (by have := HR3.out.lt; omega))
        clear hT4 ht4 hc4 hm4 hB4
        go_wp2_with fail
        go_ret
        exact ⟨0, l', rfl, HT4.out, Hp.out, by rw [hN]; exact HB4.out⟩
  · rw [decide_eq_false hok]
    have Hp : Hid (PutP n hn l e 2 l) := ⟨Ht.out, .inl ⟨hok, rfl, rfl⟩⟩
    go_wp2_with fail
    go_ret
    exact ⟨2, l, rfl, HT2.out, Hp.out, But.of _ HB2.out⟩
end Go.Proofs.Ytkkllmjomdbndaa
