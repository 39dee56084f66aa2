/-
  Layer 11: the reference's less, right, Find, far, goes.
  Layer 11: the contracts of Len and find.
  Layer 11: the contract of insert.
-/
import Derived.Test.YtkkllmjomdbndaaPkTabC
import Derived.Test.YtkkllmjomdbndaaPkTabH
namespace Go.Proofs.Ytkkllmjomdbndaa
open Go.RowKit
set_option linter.unusedVariables false
set_option linter.unusedSimpArgs false

set_option maxRecDepth 100000 in
set_option maxHeartbeats 1000000 in
theorem rright_any (w : World) (e : Ent) : Calls Try.prog 38 #[e.val] w fun r w' => r = .returned (.bool (decide e.ok)) ∧ Below w.heap.size w w' := by
  obtain ⟨a, s, c⟩ := e
  have Hok : ∀ b : Bool, (decide (1 ≤ c) && decide (c ≤ 1099511627776) && decide (0 ≤ s) && decide (s < 200)) = b → decide (Ent.ok ⟨a, s, c⟩) = b := by
    intro b h
    rw [← h, Bool.eq_iff_iff]
    simp only [Bool.and_eq_true, decide_eq_true_eq (p := Ent.ok _), decide_eq_true_eq, and_assoc]
    exact Iff.rfl
  go_enter Try.func38, Try.ntmps38
  go_wp2_with ((with_reducible refine at_box 32 ?_); refine wpList_box_rowV rfl 32 _ rfl (Ent.cs ⟨a, s, c⟩) rfl ?_)
  intro w1 hr1 hb1 hs1
  have c1 := hr1.cell (Ent.get_slot ⟨a, s, c⟩)
  have c2 := hr1.cell (Ent.get_count ⟨a, s, c⟩)
  simp only at c1 c2
  by_cases h1 : 1 ≤ c
  · by_cases h2 : c ≤ 1099511627776
    · by_cases h3 : 0 ≤ s
      · have g1 : decide (1 ≤ c) = true := decide_eq_true h1
        have g2 : decide (c ≤ 1099511627776) = true := decide_eq_true h2
        have g3 : decide (0 ≤ s) = true := decide_eq_true h3
        have Hb := Lib.hid (Hok (decide (s < 200)) (by simp [g1, g2, g3]))
        clear Hok
        go_wp2_with fail
        all_goals
          go_ret
          exact ⟨by rw [Hb.out]; rfl, hb1⟩
      · have g1 : decide (1 ≤ c) = true := decide_eq_true h1
        have g2 : decide (c ≤ 1099511627776) = true := decide_eq_true h2
        have g3 : decide (0 ≤ s) = false := decide_eq_false h3
        have Hb := Lib.hid (Hok false (by simp [g3]))
        clear Hok
        go_wp2_with fail
        all_goals
          go_ret
          exact ⟨by rw [Hb.out]; rfl, hb1⟩
    · have g1 : decide (1 ≤ c) = true := decide_eq_true h1
      have g2 : decide (c ≤ 1099511627776) = false := decide_eq_false h2
      have Hb := Lib.hid (Hok false (by simp [g2]))
      clear Hok
      go_wp2_with fail
      all_goals
        go_ret
        exact ⟨by rw [Hb.out]; rfl, hb1⟩
  · have g1 : decide (1 ≤ c) = false := decide_eq_false h1
    have Hb := Lib.hid (Hok false (by simp [g1]))
    clear Hok
    go_wp2_with fail
    all_goals
      go_ret
      exact ⟨by rw [Hb.out]; rfl, hb1⟩

set_option maxRecDepth 100000 in
set_option maxHeartbeats 4000000 in
theorem rless_any (a b : List UInt8) (ha : a.length = 32) (hb : b.length = 32) (w : World) : Calls Try.prog 39 #[.agg (cells a).toArray, .agg (cells b).toArray] w fun e w' => e = .returned (.bool (Op.bytesLess a b)) ∧ Below w.heap.size w w' := by
  have Ha := Lib.hid ha
  have Hb := Lib.hid hb
  clear ha hb
  go_enter Try.func39, Try.ntmps39
  go_wp2_with (with_reducible refine at_box 23 ?_; refine wpList_box_rowV rfl 23 _ rfl (cells a) rfl ?_)
  intro w1 hr1 hb1 hs1
  refine wpList_box_rowV rfl 23 _ rfl (cells b) rfl ?_
  intro w2 hr2 hb2 hs2
  rw [hs1] at hr2 hb2 ⊢
  have HR1 : Hid (RowV w2 w.heap.size 23 (cells a)) := hr1.below (by omega) hb2
  have HR2 := Lib.hid hr2
  have HB2 : Hid (Below w.heap.size w w2) := hb1.trans (hb2.mono (by omega))
  clear hr1 hb1 hb2 hs2 hr2 hs1
  obtain ⟨N, hN⟩ : ∃ N, w.heap.size = N := ⟨_, rfl⟩
  rw [hN] at HR1 HR2 HB2 ⊢
  go_wp2_with fail
  have hlA : Try.prog.arrayLen 23 = 32 := by kernel_rfl
  go_loopw [5] (fun v W => ∃ k : Nat, k ≤ 32 ∧ v = .int .i64 k ∧ Hid (Op.bytesLess a b = Op.bytesLess (a.drop k) (b.drop k)) ∧ Hid (RowV W N 23 (cells a)) ∧ Hid (RowV W (N + 1) 23 (cells b)) ∧ Hid (Below N w W)) (fun v _ => 32 - (intOf v).toNat)
  case atStart => exact ⟨0, by omega, rfl, rfl, HR1, HR2, HB2⟩
  case round =>
    obtain ⟨k, hk, rfl, HK, HA, HB, HW⟩ := hrel
    clear HR1 HR2 HB2
    by_cases hlt : k < 32
    · obtain ⟨x, hx⟩ : ∃ x, a[k]? = some x := ⟨_, List.getElem?_eq_getElem (by rw [Ha.out]; exact hlt)⟩
      obtain ⟨y, hy⟩ : ∃ y, b[k]? = some y := ⟨_, List.getElem?_eq_getElem (by rw [Hb.out]; exact hlt)⟩
      have cx : wr.drew.cell? ⟨N, k, none⟩ = _ := HA.out.drew.cell (cells_get hx)
      have cy : wr.drew.cell? ⟨N + 1, k, none⟩ = _ := HB.out.drew.cell (cells_get hy)
      have HK1 : Hid (Op.bytesLess a b = (decide (x < y) || (x == y && Op.bytesLess (a.drop (k + 1)) (b.drop (k + 1))))) := by
        show _ = _
        obtain ⟨a1, a2⟩ := List.getElem?_eq_some_iff.1 hx
        obtain ⟨b1, b2⟩ := List.getElem?_eq_some_iff.1 hy
        rw [HK.out, List.drop_eq_getElem_cons a1, List.drop_eq_getElem_cons b1, a2, b2]
        rfl
      have hxl := x.toNat_lt
      have hyl := y.toNat_lt
      have hk32 : (k : Int) < 32 := by omega
      have hk0 : (0 : Int) ≤ (k : Int) := by omega
      clear hx hy
      go_wp2_with fail
      refine wp_region_still_lit (by kernel_rfl) (by kernel_rfl) ?_
      iterate 7 still_step
      refine wpStill_nil ?_
      change Exit.then _ _ _ _ wr.drew
      have HAd : Hid (RowV wr.drew N 23 (cells a)) := HA.out.drew
      have HBd : Hid (RowV wr.drew (N + 1) 23 (cells b)) := HB.out.drew
      have HWd : Hid (Below N w wr.drew) := HW.out.drew
      clear HA HB HW
      generalize wr.drew = wd at *
      by_cases hxy : x = y
      · have hd : ((x.toNat : Int) == (y.toNat : Int)) = true := by rw [beq_iff_eq, hxy]
        have HK2 : Hid (Op.bytesLess a b = Op.bytesLess (a.drop (k + 1)) (b.drop (k + 1))) := by
          show _ = _
          rw [HK1.out, hxy]
          have : ¬ y < y := UInt8.lt_irrefl _
          simp [this]
        clear cx cy HK1
        go_wp2_with fail
        go_roundw
        case rel => exact ⟨k + 1, by omega, by go_num, HK2, HAd, HBd, HWd⟩
        case measure => simp [intOf]; omega
      · have hne : x.toNat ≠ y.toNat := fun e => hxy (UInt8.toNat_inj.1 e)
        have hd : ((x.toNat : Int) == (y.toNat : Int)) = false := by rw [beq_eq_false_iff_ne]; omega
        have HK2 : Hid (Op.bytesLess a b = decide (x.toNat < y.toNat)) := by
          show _ = _
          rw [HK1.out]
          have h1 : (x == y) = false := by rw [beq_eq_false_iff_ne]; exact hxy
          rw [h1, Bool.false_and, Bool.or_false, decide_eq_decide]
          exact UInt8.lt_iff_toNat_lt
        have cx2 : wd.drew.cell? ⟨N, k, none⟩ = _ := cx
        have cy2 : wd.drew.cell? ⟨N + 1, k, none⟩ = _ := cy
        go_wp2_with fail
        refine wp_region_still_tail 7 (by kernel_rfl) (by kernel_rfl) ?_
        simp only [List.take_succ_cons, List.take_zero, List.drop_succ_cons, List.drop_zero]
        iterate 7 still_step
        refine wpStill_nil ?_
        change wpList _ _ _ _ _ wd.drew
        go_wp2_with fail
        go_ret
        exact ⟨by rw [HK2.out]; rfl, by rw [hN]; exact HWd.out.drew⟩
    · obtain rfl : k = 32 := by omega
      have HK2 : Hid (Op.bytesLess a b = false) := by
        show _ = _
        rw [HK.out, List.drop_eq_nil_of_le (by rw [Ha.out]; exact Nat.le_refl _), List.drop_eq_nil_of_le (by rw [Hb.out]; exact Nat.le_refl _)]
        rfl
      have hd32 : decide (((32 : Nat) : Int) < 32) = false := by decide
      go_wp2_with fail
      go_ret
      exact ⟨by rw [HK2.out]; rfl, by rw [hN]; exact HW.out⟩

set_option maxRecDepth 100000 in
set_option maxHeartbeats 1000000 in
theorem rfar_any (w : World) (n : Nat) (hn : 0 < n) (hle : n ≤ 1000) (a : Adr) (p : Nat) (hp : p < n) :
    Calls Try.prog 46 #[a.val, .int .i64 (p : Int), .int .i64 (n : Int)] w fun r w' => r = .returned (.int .i64 (((ruleT n hn).far a p : Nat) : Int)) ∧ Below w.heap.size w w' := by
  have Hsz := Lib.hid (adr_size a)
  have Hr := Lib.hid (home_rule n hn a)
  go_enter Try.func46, Try.ntmps46
  go_wp2_with (with_reducible refine at_box 23 ?_; refine wpList_box_rowV rfl 23 _ rfl (cells a.1) rfl ?_)
  intro w1 hr1 hb1 hs1
  have Q := Lib.hid (row_range hr1)
  go_wp2_with ((with_reducible refine at_load 23 ?_); refine wpList_load_mid rfl 23 _ rfl w.heap.size 0 rfl (cells a.1) _ Q.out Try.underlying23 rfl Hsz.out ?_)
  refine (rhome_any a.1 a.2 (n : Int) w1 (by omega)).mono ?_
  rintro e w2 ⟨rfl, hb2⟩
  rw [Hr.out]
  have hh : (ruleT n hn).home a < n := (ruleT n hn).home_lt a
  have Hf : Hid ((ruleT n hn).far a p = if (ruleT n hn).home a ≤ p then p - (ruleT n hn).home a else p + n - (ruleT n hn).home a) := rfl
  have HB : Hid (Below w.heap.size w w2) := hb1.trans (hb2.mono (by omega))
  clear hr1 hb1 hb2 Q hs1 Hr
  generalize (ruleT n hn).home a = q at *
  by_cases hq : q ≤ p
  · have hd : decide ((p : Int) ≥ (q : Int)) = true := decide_eq_true (by omega)
    have hd' : decide ((q : Int) ≤ (p : Int)) = true := decide_eq_true (by omega)
    rw [if_pos hq] at Hf
    go_wp2_with fail
    go_ret
    refine ⟨?_, HB.out⟩
    rw [Hf.out, Int.ofNat_sub hq]
    rfl
  · have hd : decide ((p : Int) ≥ (q : Int)) = false := decide_eq_false (by omega)
    have hd' : decide ((q : Int) ≤ (p : Int)) = false := decide_eq_false (by omega)
    rw [if_neg hq] at Hf
    go_wp2_with fail
    go_ret
    refine ⟨?_, HB.out⟩
    rw [Hf.out, Int.ofNat_sub (by omega), Int.natCast_add]
    rfl

set_option maxRecDepth 100000 in
set_option maxHeartbeats 4000000 in
theorem rgoes_any (w : World) (n : Nat) (hn : 0 < n) (hle : n ≤ 1000) (a b : Adr) (p : Nat) (hp : p < n) :
    Calls Try.prog 43 #[a.val, b.val, .int .i64 (p : Int), .int .i64 (n : Int)] w fun r w' => r = .returned (.bool (goesB n hn a b p)) ∧ Below w.heap.size w w' := by
  have HszA := Lib.hid (adr_size a)
  have HszB := Lib.hid (adr_size b)
  go_enter Try.func43, Try.ntmps43
  go_wp2_with (with_reducible refine at_box 23 ?_; refine wpList_box_rowV rfl 23 _ rfl (cells a.1) rfl ?_)
  intro w1 hr1 hb1 hs1
  refine wpList_box_rowV rfl 23 _ rfl (cells b.1) rfl ?_
  intro w2 hr2 hb2 hs2
  rw [hs1] at hr2 hb2 ⊢
  have hr1' := hr1.below (by omega) hb2
  have hB2 : Below w.heap.size w w2 := hb1.trans (hb2.mono (by omega))
  obtain ⟨N, hN⟩ : ∃ N, w.heap.size = N := ⟨_, rfl⟩
  have hs2' : w2.heap.size = N + 2 := by omega
  rw [hN] at hr2 hr1' hB2 ⊢
  clear hr1 hb1 hb2 hs1 hs2
  have q1 := Lib.hid (row_range hr1')
  go_wp2_with ((with_reducible refine at_load 23 ?_); refine wpList_load_mid rfl 23 _ rfl N 0 rfl (cells a.1) _ q1.out Try.underlying23 rfl HszA.out ?_)
  refine (rfar_any w2 n hn hle a p hp).mono ?_
  rintro e w3 ⟨rfl, hb3⟩
  have ha3 : RowV w3 N 23 (cells a.1) := hr1'.below (by omega) hb3
  have hb3' : RowV w3 (N + 1) 23 (cells b.1) := hr2.below (by omega) hb3
  have hB3 : Below N w w3 := hB2.trans (hb3.mono (by omega))
  have hs3 : N + 2 ≤ w3.heap.size := by have := hb3.size; omega
  clear hr1' hr2 hb3 hB2 hs2' q1
  have q2 := Lib.hid (row_range hb3')
  go_wp2_with ((with_reducible refine at_load 23 ?_); refine wpList_load_mid rfl 23 _ rfl (N + 1) 0 rfl (cells b.1) _ q2.out Try.underlying23 rfl HszB.out ?_)
  refine (rfar_any w3 n hn hle b p hp).mono ?_
  rintro e w4 ⟨rfl, hb4⟩
  have HA := Lib.hid (row_range (ha3.below (by omega) hb4))
  have HB := Lib.hid (row_range (hb3'.below (by omega) hb4))
  have HB4 : Hid (Below N w w4) := hB3.trans (hb4.mono (by omega))
  have hs4 : N ≤ w4.heap.size := by have := hb4.size; omega
  have Hg : Hid (goesB n hn a b p = (decide ((ruleT n hn).far b p < (ruleT n hn).far a p) || (decide ((ruleT n hn).far b p = (ruleT n hn).far a p) && Op.bytesLess a.1 b.1))) := rfl
  clear ha3 hb3' hb4 hB3 hs3 q2
  generalize (ruleT n hn).far b p = y at *
  generalize (ruleT n hn).far a p = x at *
  by_cases h1 : y < x
  · have hd : decide ((x : Int) > (y : Int)) = true := decide_eq_true (by omega)
    have hd' : decide ((y : Int) < (x : Int)) = true := decide_eq_true (by omega)
    rw [decide_eq_true h1] at Hg
    go_wp2_with fail
    go_ret
    exact ⟨by rw [Hg.out]; rfl, by rw [hN]; exact HB4.out⟩
  · have hd : decide ((x : Int) > (y : Int)) = false := decide_eq_false (by omega)
    have hd' : decide ((y : Int) < (x : Int)) = false := decide_eq_false (by omega)
    rw [decide_eq_false h1] at Hg
    by_cases h2 : y = x
    · have hd2 : ((x : Int) == (y : Int)) = true := by rw [beq_iff_eq]; omega
      rw [decide_eq_true h2] at Hg
      go_wp2_with (first
        | ((with_reducible refine at_loadG 23 ?_); refine wpList_load_midG rfl 23 _ rfl N 0 rfl (cells a.1) _ HA.out Try.underlying23 rfl HszA.out ?_)
        | ((with_reducible refine at_loadG 23 ?_); refine wpList_load_midG rfl 23 _ rfl (N + 1) 0 rfl (cells b.1) _ HB.out Try.underlying23 rfl HszB.out ?_))
      refine (rless_any a.1 b.1 a.2 b.2 w4).mono ?_
      rintro r w5 ⟨rfl, hb5⟩
      go_wp2_with fail
      go_ret
      exact ⟨by rw [Hg.out]; rfl, by rw [hN]; exact HB4.out.trans (hb5.mono hs4)⟩
    · have hd2 : ((x : Int) == (y : Int)) = false := by rw [beq_eq_false_iff_ne]; omega
      rw [decide_eq_false h2] at Hg
      go_wp2_with fail
      go_ret
      exact ⟨by rw [Hg.out]; rfl, by rw [hN]; exact HB4.out⟩

/-- Where an address stands in a list. -/
def FindP (l : List Ent) (a : Adr) (r : Int) : Prop := (∃ (k : Nat) (e : Ent), r = k ∧ l[k]? = some e ∧ e.adr = a) ∨ (r = -1 ∧ ∀ e ∈ l, e.adr ≠ a)

set_option maxRecDepth 100000 in
set_option maxHeartbeats 4000000 in
theorem rfind_any (w : World) (B n c : Nat) (A : Option Addr) (l : List Ent) (a : Adr) (h : LiesV w B A (ents l)) (hn : n = l.length) (hB : B ≤ w.heap.size) (hle : n ≤ 1000) (hc : n ≤ c) :
    Calls Try.prog 12 #[.slice A n c, a.val] w fun r w' => (∃ k, r = .returned (.int .i64 k) ∧ FindP l a k) ∧ Below w.heap.size w w' := by
  have HL := Lib.hid h
  have Hn := Lib.hid hn
  have HszA := Lib.hid (adr_size a)
  clear h hn
  go_enter Try.func12, Try.ntmps12
  go_wp2_with (with_reducible refine at_box 23 ?_; refine wpList_box_rowV rfl 23 _ rfl (cells a.1) rfl ?_)
  intro w1 hr1 hb1 hs1
  have HR1 := Lib.hid hr1
  have HB1 := Lib.hid hb1
  clear hr1 hb1 hs1
  obtain ⟨N, hN⟩ : ∃ N, w.heap.size = N := ⟨_, rfl⟩
  rw [hN] at HR1 HB1 hB ⊢
  go_wp2_with fail
  go_loopw [5] (fun v W => ∃ k : Nat, k ≤ n ∧ v = .int .i64 k ∧ Hid (∀ e ∈ l.take k, e.adr ≠ a) ∧ Hid (RowV W N 23 (cells a.1)) ∧ Hid (Below N w W)) (fun v _ => n - (intOf v).toNat)
  case atStart => exact ⟨0, Nat.zero_le _, rfl, by show ∀ _, _; simp, HR1, HB1⟩
  case round =>
    obtain ⟨k, hk, rfl, HK, HR, HB⟩ := hrel
    clear HR1 HB1
    by_cases hlt : k < n
    · have hlt' : (k : Int) < (n : Int) := by omega
      have hk0 : (0 : Int) ≤ (k : Int) := by omega
      obtain ⟨e, he⟩ : ∃ e, l[k]? = some e := ⟨_, List.getElem?_eq_getElem (by rw [← Hn.out]; exact hlt)⟩
      obtain ⟨b1, o1, hA1, hb1, hr1⟩ := lies_ent (HL.out.below (HB.out.mono hB)) he
      subst hA1
      have r1 : Hid (wr.drew.rangeAt b1 (o1 + k * 34) (cells e.adr.1)) := adr_of hr1
      have r2 : Hid (wr.drew.rangeAt N 0 (cells a.1)) := row_range HR.out.drew
      have HszE := Lib.hid (adr_size e.adr)
      have He := Lib.hid he
      clear hr1 he
      go_wp2_with fail
      refine wp_region_still_lit (by kernel_rfl) (by kernel_rfl) ?_
      iterate 4 still_step
      refine wpStill_exec (.agg (cells e.adr.1).toArray) rfl (by refine exec_load_mid 23 (.tmp 15) ?_ b1 (o1 + k * 34) ?_ (cells e.adr.1) _ r1.out Try.underlying23 rfl HszE.out <;> rfl) ?_
      try simp only [Act.put, List.setIfInBounds_toArray, List.set_cons_zero, List.set_cons_succ]
      refine wpStill_exec (.agg (cells a.1).toArray) rfl (by refine exec_load_mid 23 (.tmp 3) ?_ N 0 ?_ (cells a.1) _ r2.out Try.underlying23 rfl HszA.out <;> rfl) ?_
      try simp only [Act.put, List.setIfInBounds_toArray, List.set_cons_zero, List.set_cons_succ]
      refine wpStill_exec (.bool (e.adr.1 == a.1)) rfl (by refine exec_eql_bytes 23 (.tmp 16) (.tmp 17) 23 ?_ Try.underlying23 Try.underlying5 (by kernel_rfl) (by kernel_rfl) ?_ ?_ e.adr.2 a.2 <;> rfl) ?_
      try simp only [Act.put, List.setIfInBounds_toArray, List.set_cons_zero, List.set_cons_succ]
      refine wpStill_nil ?_
      change Exit.then _ _ _ _ wr.drew
      have HRd : Hid (RowV wr.drew N 23 (cells a.1)) := HR.out.drew
      have HBd : Hid (Below N w wr.drew) := HB.out.drew
      clear HR HB
      generalize wr.drew = wd at *
      by_cases ha : e.adr = a
      · have hb : (e.adr.1 == a.1) = true := by rw [ha]; exact beq_self_eq_true _
        rw [hb]
        go_wp2_with fail
        go_ret
        exact ⟨⟨_, rfl, .inl ⟨k, e, rfl, He.out, ha⟩⟩, by rw [hN]; exact HBd.out⟩
      · have hb : (e.adr.1 == a.1) = false := by rw [beq_eq_false_iff_ne]; exact fun e => ha (Subtype.ext e)
        rw [hb]
        have HK1 : Hid (∀ x ∈ l.take (k + 1), x.adr ≠ a) := by
          intro x hx
          obtain ⟨q1, q2⟩ := List.getElem?_eq_some_iff.1 He.out
          rw [List.take_succ_eq_append_getElem q1, q2] at hx
          rcases List.mem_append.1 hx with h1 | h1
          · exact HK.out x h1
          · rw [List.mem_singleton.1 h1]; exact ha
        clear r1 r2
        go_wp2_with fail
        go_roundw
        case rel => exact ⟨k + 1, by omega, by go_num, HK1, HRd, HBd⟩
        case measure => simp [intOf]; omega
    · obtain rfl : k = n := by omega
      have HK1 : Hid (∀ x ∈ l, x.adr ≠ a) := by
        have := HK.out
        rw [List.take_of_length_le (by rw [← Hn.out]; exact Nat.le_refl _)] at this
        exact this
      go_wp2_with fail
      go_ret
      exact ⟨⟨_, rfl, .inr ⟨rfl, HK1.out⟩⟩, by rw [hN]; exact HB.out⟩
end Go.Proofs.Ytkkllmjomdbndaa
namespace Go.Proofs.Ytkkllmjomdbndaa
open Go.RowKit
set_option linter.unusedVariables false
set_option linter.unusedSimpArgs false

theorem cntT_take {l : List Ent} {k : Nat} {e : Ent} (h : l[k]? = some e) : cntT (l.take (k + 1)) = cntT (l.take k) + (if e.count = 0 then 0 else 1) := by
  have e1 : l.take (k + 1) = l.take k ++ [e] := by
    obtain ⟨hk, rfl⟩ := List.getElem?_eq_some_iff.1 h
    exact List.take_succ_eq_append_getElem hk
  rw [e1]
  unfold cntT
  rw [List.countP_append]
  by_cases hc : e.count = 0 <;> simp [hc]

set_option maxRecDepth 100000 in
set_option maxHeartbeats 1000000 in
theorem tlen_any (w : World) (b g c n : Nat) (l : List Ent) (h : TabAt w b g c n l) :
    Calls Try.prog 22 #[.pointer (some ⟨b, 0, none⟩)] w fun r w' => r = .returned (.int .i64 ((cntT l : Nat) : Int)) ∧ w' = w := by
  have hle := h.le
  have c0 := h.ptr.cell
  have Hh := Lib.hid h
  have Hl := Lib.hid h.len
  clear h
  go_enter Try.func22, Try.ntmps22
  go_wp2_with fail
  go_loopw [3, 10] (fun s v W => ∃ k m : Nat, k ≤ n ∧ m ≤ k ∧ v = .int .i64 k ∧ s = .int .i64 m ∧ Hid (cntT (l.take k) = m) ∧ W = w) (fun _ v _ => n - (intOf v).toNat)
  case atStart => exact ⟨0, 0, Nat.zero_le _, Nat.zero_le _, rfl, rfl, by show _ = _; simp [cntT], rfl⟩
  case round =>
    obtain ⟨k, m, hk, hm, rfl, rfl, HC, rfl⟩ := hrel
    by_cases hlt : k < n
    · have hlt' : (k : Int) < (n : Int) := by omega
      obtain ⟨e, he⟩ := Hh.out.get hlt
      have Hs := Lib.hid (cntT_take he)
      have He := Lib.hid he
      clear he
      go_wp2_with fail
      refine (tempty_any _ b g c n l Hh.out k e He.out).mono ?_
      rintro r w1 ⟨rfl, rfl⟩
      by_cases hc : e.count = 0
      · rw [decide_eq_true hc]
        rw [if_pos hc] at Hs
        go_wp2_with fail
        go_roundw
        case rel => exact ⟨k + 1, m, by omega, by omega, by go_num, by go_num, by show _ = _; rw [Hs.out, HC.out]; rfl, trivial⟩
        case measure => simp [intOf]; omega
      · rw [decide_eq_false hc]
        rw [if_neg hc] at Hs
        go_wp2_with fail
        go_roundw
        case rel => exact ⟨k + 1, m + 1, by omega, by omega, by go_num, by go_num, by show _ = _; rw [Hs.out, HC.out], trivial⟩
        case measure => simp [intOf]; omega
    · obtain rfl : k = n := by omega
      have HC' : Hid (cntT l = m) := by have := HC.out; rw [List.take_of_length_le (by rw [Hl.out]; exact Nat.le_refl _)] at this; exact this
      go_wp2_with fail
      go_ret
      exact ⟨by rw [HC'.out]; rfl, rfl⟩

/-- What a search answers. -/
def Found (l : List Ent) (a : Adr) (r : Value) : Prop :=
  (∃ (k : Nat) (e : Ent), r = .tuple #[.int .i64 (k : Int), .bool true] ∧ l[k]? = some e ∧ e.count ≠ 0 ∧ e.adr = a) ∨ (r = .tuple #[.int .i64 0, .bool false] ∧ ∀ e ∈ l, e.count ≠ 0 → e.adr ≠ a)
/-- i places have been passed, and the search stands before place p. -/
structure Seek (n : Nat) (hn : 0 < n) (l : List Ent) (a : Adr) (i p : Nat) : Prop where
  at_ : p < n
  far : i < n → (ruleT n hn).far a p = i
  no : ∀ q f, q < n → (ruleT n hn).far a q < i → layT l q = some f → f.adr ≠ a
section
variable {n : Nat} {hn : 0 < n} {l : List Ent} {a : Adr}
theorem Seek.start : Seek n hn l a 0 ((ruleT n hn).home a) := ⟨(ruleT n hn).home_lt a, fun _ => farF_self _ _, fun q f _ h => by omega⟩
theorem Seek.next {i p : Nat} {f : Ent} (h : Seek n hn l a i p) (hi : i < n) (hf : l[p]? = some f) (hne : f.count = 0 ∨ f.adr ≠ a) : Seek n hn l a (i + 1) (nextP n p) := by
  have hp := h.at_
  have hfar := h.far hi
  have hh : (ruleT n hn).home a < n := (ruleT n hn).home_lt a
  refine ⟨nextP_lt hp, fun h1 => ?_, fun q g hq hlt hg => ?_⟩
  · by_cases hb : nextP n p = (ruleT n hn).home a
    · have h2 : (ruleT n hn).far a p = n - 1 := by
        show farF n ((ruleT n hn).home a) p = n - 1
        rw [← hb]
        exact farF_next_home hp
      omega
    · have h2 : (ruleT n hn).far a (nextP n p) = (ruleT n hn).far a p + 1 := farF_next hh hp hb
      omega
  · by_cases h1 : (ruleT n hn).far a q < i
    · exact h.no q g hq h1 hg
    · have h2 : q = p := farF_inj hh hq hp (show (ruleT n hn).far a q = (ruleT n hn).far a p by omega)
      subst h2
      obtain ⟨h3, h4⟩ := layT_some hg
      rw [hf] at h3
      cases h3
      exact hne.resolve_left h4
theorem Seek.all {p : Nat} (h : Seek n hn l a n p) (hl : l.length = n) : ∀ e ∈ l, e.count ≠ 0 → e.adr ≠ a := by
  intro e he hc
  obtain ⟨q, hq, rfl⟩ := List.mem_iff_getElem.1 he
  exact h.no q _ (by omega) (farF_lt ((ruleT n hn).home_lt a) (show q < n by omega)) (by rw [layT_at (List.getElem?_eq_getElem hq), if_neg hc])
theorem Seek.out {i p : Nat} {f : Ent} (h : Seek n hn l a i p) (hi : i < n) (ht : Tb n hn l) (hf : l[p]? = some f) (hy : f.count = 0 ∨ (ruleT n hn).goes a f.adr p) : ∀ e ∈ l, e.count ≠ 0 → e.adr ≠ a := by
  have hfar := h.far hi
  have := Fine.absent (R := ruleT n hn) (key := Ent.adr) ht.fine (k := a) (p := p) h.at_ (fun q g hq hlt hg => h.no q g hq (by omega) hg) (by
    by_cases hc : f.count = 0
    · exact .inl (by rw [layT_at hf, if_pos hc])
    · refine .inr ⟨f, by rw [layT_at hf, if_neg hc], ?_, hy.resolve_left hc⟩
      rintro rfl
      exact Rule.goes_asym (hy.resolve_left hc) (hy.resolve_left hc))
  intro e he hc
  obtain ⟨q, hq, rfl⟩ := List.mem_iff_getElem.1 he
  exact this q _ (show q < n by rw [← ht.len]; exact hq) (by rw [layT_at (List.getElem?_eq_getElem hq), if_neg hc])
end

set_option maxRecDepth 100000 in
set_option maxHeartbeats 4000000 in
theorem tfind_any (w : World) (b g c n : Nat) (hn : 0 < n) (l : List Ent) (h : TabAt w b g c n l) (ht : Tb n hn l) (a : Adr) :
    Calls Try.prog 28 #[.pointer (some ⟨b, 0, none⟩), a.val] w fun r w' => ∃ v, r = .returned v ∧ Found l a v ∧ Below w.heap.size w w' := by
  have hle := h.le
  have Hh := Lib.hid h
  have Ht := Lib.hid ht
  have Hl := Lib.hid h.len
  have HszA := Lib.hid (adr_size a)
  have hcap := h.cap
  have hbl := h.blt
  have hgl := h.glt
  clear h ht
  go_enter Try.func28, Try.ntmps28
  go_wp2_with ((with_reducible refine at_box 23 ?_); refine wpList_box_rowV rfl 23 _ rfl (cells a.1) rfl ?_)
  intro w1 hr1 hb1 hs1
  have hT1 := Hh.out.later hb1
  have q1 := Lib.hid (row_range hr1)
  go_wp2_with ((with_reducible refine at_load 23 ?_); refine wpList_load_mid rfl 23 _ rfl w.heap.size 0 rfl (cells a.1) _ q1.out Try.underlying23 rfl HszA.out ?_)
  refine (thome_any w1 b g c n hn l hT1 a).mono ?_
  rintro r w2 ⟨rfl, hb2⟩
  have hT2 := hT1.later hb2
  have c0 := hT2.ptr.cell
  have HB2 : Hid (Below w.heap.size w w2) := hb1.trans (hb2.mono (by omega))
  have HA2 : Hid (RowV w2 w.heap.size 23 (cells a.1)) := hr1.below (by omega) hb2
  have hz2 : w.heap.size + 1 ≤ w2.heap.size := by have := hb2.size; omega
  have HS := Lib.hid (Seek.start (n := n) (hn := hn) (l := l) (a := a))
  have hh : (ruleT n hn).home a < n := (ruleT n hn).home_lt a
  clear hr1 hb1 hs1 hT1 hb2 hT2 q1
  generalize (ruleT n hn).home a = p0 at *
  obtain ⟨N, hN⟩ : ∃ N, w.heap.size = N := ⟨_, rfl⟩
  rw [hN] at HB2 HA2 hz2 hbl hgl ⊢
  go_wp2_with fail
  go_loopw [6, 15] (fun s v W => ∃ i p : Nat, i ≤ n ∧ p < n ∧ v = .int .i64 i ∧ s = .int .i64 p ∧ Hid (Seek n hn l a i p) ∧ Hid (Below N w W) ∧ Hid (RowV W N 23 (cells a.1))) (fun _ v _ => n - (intOf v).toNat)
  case atStart => exact ⟨0, p0, Nat.zero_le _, hh, rfl, rfl, HS, HB2, HA2⟩
  case round =>
    obtain ⟨i, p, hi, hp, rfl, rfl, HK, HB, HA⟩ := hrel
    clear HB2 HA2 hz2 c0 HS
    have hTr := Hh.out.below HB.out hbl hgl
    by_cases hlt : i < n
    · have hlt' : (i : Int) < (n : Int) := by omega
      obtain ⟨f, hf⟩ := hTr.get hp
      have Hf := Lib.hid hf
      have qr := Lib.hid (row_range HA.out)
      have HTr := Lib.hid hTr
      clear hf hTr
      go_wp2_with ((with_reducible refine at_load 23 ?_); refine wpList_load_mid rfl 23 _ rfl N 0 rfl (cells a.1) _ qr.out Try.underlying23 rfl HszA.out ?_)
      refine (tyields_any wr b g c n hn l HTr.out p f Hf.out a).mono ?_
      rintro r w3 ⟨rfl, hb3⟩
      have HNr : Hid (N < wr.heap.size) := HA.out.lt
      have HB3 : Hid (Below N w w3) := HB.out.trans (hb3.mono (by have := HNr.out; omega))
      have hA3 : RowV w3 N 23 (cells a.1) := HA.out.below HNr.out hb3
      have hT3 := HTr.out.later hb3
      clear hb3 HTr qr
      by_cases hy : (decide (f.count = 0) || goesB n hn a f.adr p) = true
      · rw [hy]
        have hy' : f.count = 0 ∨ (ruleT n hn).goes a f.adr p := by
          rw [Bool.or_eq_true, decide_eq_true_eq, goesB_iff] at hy
          exact hy
        have Ho := Lib.hid (HK.out.out hlt Ht.out Hf.out hy')
        clear hy hy'
        go_wp2_with fail
        go_ret2
        exact ⟨_, rfl, .inr ⟨rfl, Ho.out⟩, by rw [hN]; exact HB3.out⟩
      · rw [Bool.eq_false_iff.2 hy]
        have hc : f.count ≠ 0 := fun h0 => hy (by simp [h0])
        clear hy
        have c0 := hT3.ptr.cell
        have ra := Lib.hid (ent_adr hT3.row Hf.out)
        have HszF := Lib.hid (adr_size f.adr)
        have HT3 := Lib.hid hT3
        have HA3 := Lib.hid hA3
        have q3 := Lib.hid (row_range hA3.drew)
        clear hT3 hA3
        have hp' : (p : Int) < (n : Int) := by omega
        have hp0 : (0 : Int) ≤ (p : Int) := by omega
        go_wp2_with fail
        refine wp_region_still_lit (by kernel_rfl) (by kernel_rfl) ?_
        iterate 7 still_step
        refine wpStill_exec (.agg (cells f.adr.1).toArray) rfl (by refine exec_load_mid 23 (.tmp 27) ?_ g (p * 34) ?_ (cells f.adr.1) _ ra.out Try.underlying23 rfl HszF.out <;> rfl) ?_
        try simp only [Act.put, List.setIfInBounds_toArray, List.set_cons_zero, List.set_cons_succ]
        refine wpStill_exec (.agg (cells a.1).toArray) rfl (by refine exec_load_mid 23 (.tmp 3) ?_ N 0 ?_ (cells a.1) _ q3.out Try.underlying23 rfl HszA.out <;> rfl) ?_
        try simp only [Act.put, List.setIfInBounds_toArray, List.set_cons_zero, List.set_cons_succ]
        refine wpStill_exec (.bool (f.adr.1 == a.1)) rfl (by refine exec_eql_bytes 23 (.tmp 28) (.tmp 29) 23 ?_ Try.underlying23 Try.underlying5 (by kernel_rfl) (by kernel_rfl) ?_ ?_ f.adr.2 a.2 <;> rfl) ?_
        try simp only [Act.put, List.setIfInBounds_toArray, List.set_cons_zero, List.set_cons_succ]
        refine wpStill_nil ?_
        change Exit.then _ _ _ _ w3.drew
        by_cases ha : f.adr = a
        · have hb : (f.adr.1 == a.1) = true := by rw [ha]; exact beq_self_eq_true _
          rw [hb]
          go_wp2_with fail
          go_ret2
          exact ⟨_, rfl, .inl ⟨p, f, rfl, Hf.out, hc, ha⟩, by rw [hN]; exact HB3.out.drew⟩
        · have hb : (f.adr.1 == a.1) = false := by rw [beq_eq_false_iff_ne]; exact fun e => ha (Subtype.ext e)
          rw [hb]
          have HK1 := Lib.hid (HK.out.next hlt Hf.out (.inr ha))
          have HTd : Hid (TabAt w3.drew b g c n l) := HT3.out.drew
          have HBd : Hid (Below N w w3.drew) := HB3.out.drew
          have HAd : Hid (RowV w3.drew N 23 (cells a.1)) := HA3.out.drew
          clear hb c0 ra q3
          go_wp2_with fail
          refine (tafter_any _ b g c n l HTd.out p hp).mono ?_
          rintro r w4 ⟨rfl, rfl⟩
          have hnp := nextP_lt hp
          go_wp2_with fail
          go_roundw
          case rel => exact ⟨i + 1, nextP n p, by omega, hnp, by go_num, rfl, HK1, HBd, HAd⟩
          case measure => simp [intOf]; omega
    · obtain rfl : i = n := by omega
      have Ho := Lib.hid (HK.out.all Hl.out)
      go_wp2_with fail
      go_ret2
      exact ⟨_, rfl, .inr ⟨rfl, Ho.out⟩, by rw [hN]; exact HB.out⟩
end Go.Proofs.Ytkkllmjomdbndaa
namespace Go.Proofs.Ytkkllmjomdbndaa
open Go.RowKit
set_option linter.unusedVariables false
set_option linter.unusedSimpArgs false

/-- How many rounds an insertion still takes at most: the entry on its way lies in block N. -/
def leftI (W : World) (N n z p : Nat) : Nat := match W.cell? ⟨N, 33, none⟩ with
  | some (.int _ x) => if x = 0 then 0 else farF n p z + 1
  | _ => 0
theorem leftI_row {W : World} {N n z p : Nat} {t : TypeId} {x : Ent} (h : RowV W N t x.cs) : leftI W N n z p = if x.count = 0 then 0 else farF n p z + 1 := by
  unfold leftI
  rw [h.cell x.get_count]
/-- An insertion under way: the entry x stands before place p, or it is laid and x is none. -/
def Going (n : Nat) (hn : 0 < n) (S : Ent → Prop) (c z : Nat) (l : List Ent) (x : Ent) (p : Nat) : Prop :=
  (x.count ≠ 0 ∧ Ins n hn S c l x p ∧ layT l z = none) ∨ (x.count = 0 ∧ Tb n hn l ∧ cntT l = c + 1 ∧ ∀ y : Ent, (y ∈ l ∧ y.count ≠ 0) ↔ S y)

section
variable {n : Nat} {hn : 0 < n} {S : Ent → Prop} {c z : Nat} {l : List Ent} {x f : Ent} {p : Nat}
theorem Going.real (h : Going n hn S c z l x p) (hx : x.count ≠ 0) : Ins n hn S c l x p ∧ layT l z = none := by
  rcases h with ⟨_, h⟩ | ⟨h0, _⟩
  · exact h
  · exact absurd h0 hx
theorem Going.pass (h : Going n hn S c z l x p) (hx : x.count ≠ 0) (hf : l[p]? = some f) (cf : f.count ≠ 0) (hg : ¬ (ruleT n hn).goes x.adr f.adr p) (hz : z < n) : Going n hn S c z l x (nextP n p) ∧ farF n (nextP n p) z + 1 = farF n p z :=
  ⟨.inl ⟨hx, ((h.real hx).1.pass hf cf hg).1, (h.real hx).2⟩, (h.real hx).1.toward hf cf hz (h.real hx).2⟩
theorem Going.swap (h : Going n hn S c z l x p) (hx : x.count ≠ 0) (hf : l[p]? = some f) (cf : f.count ≠ 0) (hg : (ruleT n hn).goes x.adr f.adr p) (hz : z < n) : Going n hn S c z (l.set p x) f (nextP n p) ∧ farF n (nextP n p) z + 1 = farF n p z := by
  obtain ⟨h1, h2⟩ := h.real hx
  have hzp : z ≠ p := by rintro rfl; rw [layT_at hf, if_neg cf] at h2; cases h2
  refine ⟨.inl ⟨cf, (h1.swapped hf cf hg).1, ?_⟩, h1.toward hf cf hz h2⟩
  rw [layT_set (by rw [h1.len]; exact h1.at_) hx, putP_other _ _ hzp]
  exact h2
theorem Going.rest (h : Going n hn S c z l x p) (hx : x.count ≠ 0) (hf : l[p]? = some f) (cf : f.count = 0) : Going n hn S c z (l.set p x) f (nextP n p) :=
  .inr ⟨cf, (h.real hx).1.rest hf cf⟩
end

set_option maxRecDepth 100000 in
set_option maxHeartbeats 8000000 in
theorem tinsert_any (w : World) (b g c n : Nat) (hn : 0 < n) (l : List Ent) (h : TabAt w b g c n l) (ht : Tb n hn l) (e : Ent) (he : e.count ≠ 0) (hnew : ∀ f ∈ l, f.count ≠ 0 → f.adr ≠ e.adr) (hroom : cntT l + 1 < n) :
    Calls Try.prog 33 #[.pointer (some ⟨b, 0, none⟩), e.val] w fun r w' => r = .returned (.tuple #[]) ∧ ∃ l', TabAt w' b g c n l' ∧ Tb n hn l' ∧ cntT l' = cntT l + 1 ∧ (∀ y : Ent, (y ∈ l' ∧ y.count ≠ 0) ↔ ((y ∈ l ∧ y.count ≠ 0) ∨ y = e)) ∧ But [g] w.heap.size w w' := by
  have hle := h.le
  have hcap := h.cap
  have hbl := h.blt
  have hgl := h.glt
  have Hh := Lib.hid h
  obtain ⟨z, hz, hzn⟩ := cntT_room (l := l) (by rw [ht.len]; omega)
  rw [ht.len] at hz
  have HG : Hid (Going n hn (fun y => (y ∈ l ∧ y.count ≠ 0) ∨ y = e) (cntT l) z l e ((ruleT n hn).home e.adr)) := .inl ⟨he, ht.ins he hnew hroom, hzn⟩
  have hh : (ruleT n hn).home e.adr < n := (ruleT n hn).home_lt e.adr
  obtain ⟨S, hS⟩ : ∃ S, (fun y : Ent => (y ∈ l ∧ y.count ≠ 0) ∨ y = e) = S := ⟨_, rfl⟩
  rw [hS] at HG
  have HS := Lib.hid hS
  obtain ⟨m, hm⟩ : ∃ m, cntT l = m := ⟨_, rfl⟩
  rw [hm] at HG hroom
  have HM := Lib.hid hm
  clear h ht hnew hzn hS hm
  go_enter Try.func33, Try.ntmps33
  go_wp2_with ((with_reducible refine at_box 32 ?_); refine wpList_box_rowV rfl 32 _ rfl e.cs rfl ?_)
  intro w1 hr1 hb1 hs1
  have hT1 := Hh.out.later hb1
  have HszA := Lib.hid (adr_size e.adr)
  have q1 : Hid (w1.rangeAt w.heap.size 0 (cells e.adr.1)) := fun j u hj => (row_range hr1) j u (by rw [Ent.get_adr e j (by have := (List.getElem?_eq_some_iff.1 hj).1; rw [cells_length, e.adr.2] at this; exact this)]; exact hj)
  go_wp2_with ((with_reducible refine at_load 23 ?_); refine wpList_load_mid rfl 23 _ rfl w.heap.size 0 rfl (cells e.adr.1) _ q1.out Try.underlying23 rfl HszA.out ?_)
  refine (thome_any w1 b g c n hn l hT1 e.adr).mono ?_
  rintro r w2 ⟨rfl, hb2⟩
  have HT2 : Hid (TabAt w2 b g c n l) := hT1.later hb2
  have HR2 : Hid (RowV w2 w.heap.size 32 e.cs) := hr1.below (by omega) hb2
  have HB2 : Hid (But [g] w.heap.size w w2) := But.of _ (hb1.trans (hb2.mono (by omega)))
  generalize (ruleT n hn).home e.adr = p0 at *
  obtain ⟨N, hN⟩ : ∃ N, w.heap.size = N := ⟨_, rfl⟩
  rw [hN] at HB2 HR2 hbl hgl ⊢
  clear hr1 hb1 hs1 hT1 hb2 q1
  go_wp2_with fail
  go_loopw [4] (fun s W => ∃ (p : Nat) (l' : List Ent) (x : Ent), p < n ∧ s = .int .i64 p ∧ Hid (Going n hn S m z l' x p) ∧ Hid (TabAt W b g c n l') ∧ Hid (RowV W N 32 x.cs) ∧ Hid (But [g] N w W)) (fun s W => leftI W N n z (intOf s).toNat)
  case atStart => exact ⟨p0, l, e, hh, rfl, HG, HT2, HR2, HB2⟩
  case round =>
    obtain ⟨p, l', x, hp, rfl, HK, HT, HR, HB⟩ := hrel
    have c1 := HR.out.cell x.get_count
    have hml := leftI_row (n := n) (z := z) (p := p) HR.out
    by_cases hx : x.count = 0
    · have hfin : Tb n hn l' ∧ cntT l' = m + 1 ∧ ∀ y : Ent, (y ∈ l' ∧ y.count ≠ 0) ↔ S y := by
        rcases HK.out with ⟨h0, _⟩ | ⟨_, h1⟩
        · exact absurd hx h0
        · exact h1
      have Hfin := Lib.hid hfin
      have hd : (x.count == 0) = true := by rw [beq_iff_eq]; exact hx
      clear hfin
      go_wp2_with fail
      (try simp only [Exit.inBlock, Exit.then]); refine bodyPost_end (results_none rfl _ _ _) rfl ?_
      exact ⟨rfl, l', HT.out, Hfin.out.1, by rw [HM.out]; exact Hfin.out.2.1, fun y => by have := Hfin.out.2.2 y; rw [← HS.out] at this; exact this, by rw [hN]; exact HB.out⟩
    · obtain ⟨f, hf⟩ := HT.out.get hp
      have Hf := Lib.hid hf
      have hd : (x.count == 0) = false := by rw [beq_eq_false_iff_ne]; exact hx
      have Hx := Lib.hid hx
      have HszX := Lib.hid (adr_size x.adr)
      have qx : Hid (wr.rangeAt N 0 (cells x.adr.1)) := fun j u hj => (row_range HR.out) j u (by rw [Ent.get_adr x j (by have := (List.getElem?_eq_some_iff.1 hj).1; rw [cells_length, x.adr.2] at this; exact this)]; exact hj)
      clear hf
      go_wp2_with ((with_reducible refine at_load 23 ?_); refine wpList_load_mid rfl 23 _ rfl N 0 rfl (cells x.adr.1) _ qx.out Try.underlying23 rfl HszX.out ?_)
      refine (tyields_any wr b g c n hn l' HT.out p f Hf.out x.adr).mono ?_
      rintro r w3 ⟨rfl, hb3⟩
      have HNr : Hid (N < wr.heap.size) := HR.out.lt
      have HB3 : Hid (But [g] N w w3) := HB.out.trans (But.of _ (hb3.mono (by have := HNr.out; omega)))
      have HR3 : Hid (RowV w3 N 32 x.cs) := HR.out.below HNr.out hb3
      have HT3 : Hid (TabAt w3 b g c n l') := HT.out.later hb3
      have hsz3 : N < w3.heap.size := HR3.out.lt
      rw [if_neg hx] at hml
      have Hml := Lib.hid hml
      have hnp := nextP_lt hp
      clear hb3 qx c1 hml HT HR HB HNr HT2 HR2 HB2 HG
      by_cases hy : (decide (f.count = 0) || goesB n hn x.adr f.adr p) = true
      · rw [hy]
        have hp' : (p : Int) < (n : Int) := by omega
        have hp0 : (0 : Int) ≤ (p : Int) := by omega
        have c0 := HT3.out.ptr.cell
        have HTd : Hid (TabAt w3.drew b g c n l') := HT3.out.drew
        have HRd : Hid (RowV w3.drew N 32 x.cs) := HR3.out.drew
        have HBd : Hid (But [g] N w w3.drew) := HB3.out.drew
        have hszd : N < w3.drew.heap.size := hsz3
        have qN := Lib.hid (row_range HRd.out)
        have qF : Hid (w3.drew.rangeAt g (p * 34) f.cs) := ent_range HTd.out.row Hf.out
        have Hsx := Lib.hid (ent_size x)
        have Hsf := Lib.hid (ent_size f)
        clear HT3 HR3 HB3 hsz3
        go_wp2_with fail
        refine wp_region_still_tail 14 (by kernel_rfl) (by kernel_rfl) ?_
        simp only [List.take_succ_cons, List.take_zero, List.drop_succ_cons, List.drop_zero]
        iterate 5 still_step
        refine wpStill_exec (.agg x.cs.toArray) rfl (by refine exec_load_mid 32 (.tmp 3) ?_ N 0 ?_ x.cs _ qN.out Try.underlying32 rfl Hsx.out <;> rfl) ?_
        try simp only [Act.put, List.setIfInBounds_toArray, List.set_cons_zero, List.set_cons_succ]
        iterate 6 still_step
        refine wpStill_exec (.agg f.cs.toArray) rfl (by refine exec_load_mid 32 (.tmp 31) ?_ g (p * 34) ?_ f.cs _ qF.out Try.underlying32 rfl Hsf.out <;> rfl) ?_
        try simp only [Act.put, List.setIfInBounds_toArray, List.set_cons_zero, List.set_cons_succ]
        still_step
        refine wpStill_nil ?_
        change wpList _ _ _ _ _ w3.drew
        have hthere := HTd.out.there hp
        have hset := HTd.out.set hp x
        have Hset := Lib.hid hset
        clear hset
        generalize w3.drew = wd at *
        go_wp2_with (first
          | ((with_reducible refine at_store 32 ?_); refine wpList_store_midV rfl 32 _ _ rfl g (p * 34) x.cs rfl rfl (by rw [List.size_toArray, Ent.cs_length]; exact hthere) (by rw [List.size_toArray]; exact ent_size _) (all_oneCell_toArray (Ent.one _)) ?_; intro w4 hw4; have hr4 : RowV w4 N 32 x.cs := by rw [hw4]; exact HRd.out.keep Hset.out.2 (fun e => by injection e with e; omega))
          | ((with_reducible refine at_store 32 ?_); refine wpList_store_rowV rfl 32 _ _ rfl N f.cs rfl rfl 32 x.cs hr4 (by rw [List.size_toArray]; exact ent_size _) (by rw [List.size_toArray, List.size_toArray, Ent.cs_length, Ent.cs_length]) (all_oneCell_toArray (Ent.one _)) ?_; intro w5 hr5 hg5 hs5))
        have hg4 : wd.grownBy w4 (some g) := by rw [hw4]; exact Hset.out.2
        have hT4 : TabAt w4 b g c n (l'.set p x) := by rw [hw4]; exact Hset.out.1
        have HT5 : Hid (TabAt w5 b g c n (l'.set p x)) := hT4.keep hg5 (fun e => by injection e with e; omega) (fun e => by injection e with e; omega)
        have hB4 : But [g] N w w4 := HBd.out.grown hg4 (fun k e => by injection e with e; left; simp [e]) (by omega)
        have HB5 : Hid (But [g] N w w5) := hB4.grown hg5 (fun k e => by injection e with e; right; omega) (by have := hg4.size; omega)
        have HR5 := Lib.hid hr5
        have hnext : Going n hn S m z (l'.set p x) f (nextP n p) ∧ leftI w5 N n z (nextP n p) < farF n p z + 1 := by
          by_cases cf : f.count = 0
          · refine ⟨HK.out.rest Hx.out Hf.out cf, ?_⟩
            rw [leftI_row hr5, if_pos cf]
            omega
          · have hg' : (ruleT n hn).goes x.adr f.adr p := by
              rw [Bool.or_eq_true, decide_eq_true_eq, goesB_iff] at hy
              exact hy.resolve_left cf
            obtain ⟨h1, h2⟩ := HK.out.swap Hx.out Hf.out cf hg' hz
            refine ⟨h1, ?_⟩
            rw [leftI_row hr5, if_neg cf]
            omega
        have H1 := Lib.hid hnext.1
        have H2 := Lib.hid hnext.2
        clear hnext hT4 hB4 hg4 hw4 hr4 hr5 hg5 hs5 Hset hthere HTd HRd HBd qN qF c0 hy
        refine (tafter_any _ b g c n (l'.set p x) HT5.out p hp).mono ?_
        rintro r w6 ⟨rfl, rfl⟩
        go_wp2_with fail
        go_roundw
        case rel => exact ⟨nextP n p, l'.set p x, f, hnp, rfl, H1, HT5, HR5, HB5⟩
        case measure =>
          show leftI _ N n z (intOf (Value.int IntKind.i64 ((nextP n p : Nat) : Int))).toNat < leftI _ N n z (intOf (Value.int IntKind.i64 (p : Int))).toNat
          simp only [intOf, Int.toNat_natCast]
          rw [Hml.out]
          exact H2.out
      · rw [Bool.eq_false_iff.2 hy]
        have cf : f.count ≠ 0 := fun h0 => hy (by simp [h0])
        have hg' : ¬ (ruleT n hn).goes x.adr f.adr p := fun h0 => hy (by rw [goesB_iff.2 h0]; simp)
        obtain ⟨h1, h2⟩ := HK.out.pass Hx.out Hf.out cf hg' hz
        have H1 := Lib.hid h1
        have H2 := Lib.hid h2
        clear h1 h2 hy
        go_wp2_with fail
        refine (tafter_any _ b g c n l' HT3.out p hp).mono ?_
        rintro r w4 ⟨rfl, rfl⟩
        go_wp2_with fail
        go_roundw
        case rel => exact ⟨nextP n p, l', x, hnp, rfl, H1, HT3, HR3, HB3⟩
        case measure =>
          show leftI _ N n z (intOf (Value.int IntKind.i64 ((nextP n p : Nat) : Int))).toNat < leftI _ N n z (intOf (Value.int IntKind.i64 (p : Int))).toNat
          simp only [intOf, Int.toNat_natCast]
          rw [leftI_row HR3.out, if_neg Hx.out, Hml.out]
          have := H2.out
          omega
end Go.Proofs.Ytkkllmjomdbndaa
