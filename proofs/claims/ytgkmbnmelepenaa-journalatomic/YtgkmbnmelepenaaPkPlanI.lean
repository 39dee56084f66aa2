/-
  Layer 7: plans and layouts as cells; the contracts of within and Check; loads of a plan.
  Layer 7: the contracts of indexSectors and of the reference's Index.
-/
import Derived.Test.YtgkmbnmelepenaaRows
import Derived.Test.YtgkmbnmelepenaaPkSlot
import Derived.Test.YtgkmbnmelepenaaPkMemV
import Derived.WalkKit
import Derived.WalkLawsBesides
import Derived.Lib.Hide
namespace Go.Proofs.Ytgkmbnmelepenaa
open Go.RowKit
set_option linter.unusedVariables false

/-- A plan as cells. -/
def pc (s t c a : Int) : List Value := [.int .i64 s, .int .i64 t, .int .i64 c, .int .i64 a]
/-- A plan that may be. -/
def okP (s t c a : Int) : Bool := decide (1 ≤ s) && decide (s ≤ 200) && decide (1 ≤ t) && decide (t ≤ 40) && decide (1 ≤ c) && decide (c ≤ 40) && decide (1 ≤ a) && decide (a ≤ 80)
theorem okP_iff {s t c a : Int} : okP s t c a = true ↔ (1 ≤ s ∧ s ≤ 200) ∧ (1 ≤ t ∧ t ≤ 40) ∧ (1 ≤ c ∧ c ≤ 40) ∧ 1 ≤ a ∧ a ≤ 80 := by
  simp [okP, and_assoc]
theorem Try.sizeP : (Try.prog.info? 28).map (·.size) = some 4 := by kernel_rfl
theorem pc_size (s t c a : Int) : (Try.prog.info? 28).map (·.size) = some (pc s t c a).toArray.size := Try.sizeP
/-- What a call of Check answers. -/
def codeP (s t c a : Int) : Int := if okP s t c a then 0 else 2

set_option maxRecDepth 100000 in
theorem within_any (w : World) (n m : Int) :
    Calls Try.prog 74 #[.int .i64 n, .int .i64 m] w fun e w' => e = .returned (.bool (decide (1 ≤ n) && decide (n ≤ m))) ∧ w' = w := by
  by_cases h1 : 1 ≤ n
  · have h1' := h1
    go_enter Try.func74, Try.ntmps74
    go_wp2_with fail
    go_ret
    exact ⟨by simp [h1], rfl⟩
  · have h1' : n < 1 := by omega
    go_enter Try.func74, Try.ntmps74
    go_wp2_with fail
    go_ret
    exact ⟨by rw [decide_eq_false (Int.not_le.2 h1), Bool.false_and]; rfl, rfl⟩
theorem within_yes (w : World) {n m : Int} (h : 1 ≤ n ∧ n ≤ m) : Calls Try.prog 74 #[.int .i64 n, .int .i64 m] w fun e w' => e = .returned (.bool true) ∧ w' = w :=
  (within_any w n m).mono fun e w' ⟨h1, h2⟩ => ⟨by rw [h1, decide_eq_true h.1, decide_eq_true h.2]; rfl, h2⟩
theorem within_no (w : World) {n m : Int} (h : ¬ (1 ≤ n ∧ n ≤ m)) : Calls Try.prog 74 #[.int .i64 n, .int .i64 m] w fun e w' => e = .returned (.bool false) ∧ w' = w :=
  (within_any w n m).mono fun e w' ⟨h1, h2⟩ => ⟨by
    rw [h1]
    by_cases a : 1 ≤ n
    · rw [decide_eq_true a, decide_eq_false (fun b => h ⟨a, b⟩)]; rfl
    · rw [decide_eq_false a]; rfl, h2⟩

set_option maxRecDepth 100000 in
set_option maxHeartbeats 4000000 in
theorem pcheck_any (w : World) (s t c a : Int) :
    Calls Try.prog 61 #[.agg (pc s t c a).toArray] w fun e w' => e = .returned (.int .i64 (codeP s t c a)) ∧ Below w.heap.size w w' := by
  go_enter Try.func61, Try.ntmps61
  go_wp2_with ((with_reducible refine at_box 28 ?_); refine wpList_box_rowV rfl 28 _ rfl (pc s t c a) rfl ?_)
  intro w1 hr1 hb1 hs1
  have c0 := hr1.cell (i := 0) rfl
  have c1 := hr1.cell (i := 1) rfl
  have c2 := hr1.cell (i := 2) rfl
  have c3 := hr1.cell (i := 3) rfl
  go_wp2_with fail
  by_cases hs : 1 ≤ s ∧ s ≤ 200
  · refine (within_yes _ hs).mono ?_
    rintro e w2 ⟨rfl, e2⟩
    subst e2
    go_wp2_with fail
    by_cases ht : 1 ≤ t ∧ t ≤ 40
    · refine (within_yes _ ht).mono ?_
      rintro e w2 ⟨rfl, e2⟩
      subst e2
      go_wp2_with fail
      by_cases hc : 1 ≤ c ∧ c ≤ 40
      · refine (within_yes _ hc).mono ?_
        rintro e w2 ⟨rfl, e2⟩
        subst e2
        go_wp2_with fail
        by_cases ha : 1 ≤ a ∧ a ≤ 80
        · refine (within_yes _ ha).mono ?_
          rintro e w2 ⟨rfl, e2⟩
          subst e2
          go_wp2_with fail
          go_ret
          exact ⟨by rw [codeP, if_pos (okP_iff.2 ⟨hs, ht, hc, ha⟩)]; rfl, hb1⟩
        · refine (within_no _ ha).mono ?_
          rintro e w2 ⟨rfl, e2⟩
          subst e2
          go_wp2_with fail
          go_ret
          exact ⟨by rw [codeP, if_neg (fun h => ha (by have := okP_iff.1 h; omega))]; rfl, hb1⟩
      · refine (within_no _ hc).mono ?_
        rintro e w2 ⟨rfl, e2⟩
        subst e2
        go_wp2_with fail
        go_ret
        exact ⟨by rw [codeP, if_neg (fun h => hc (by have := okP_iff.1 h; omega))]; rfl, hb1⟩
    · refine (within_no _ ht).mono ?_
      rintro e w2 ⟨rfl, e2⟩
      subst e2
      go_wp2_with fail
      go_ret
      exact ⟨by rw [codeP, if_neg (fun h => ht (by have := okP_iff.1 h; omega))]; rfl, hb1⟩
  · refine (within_no _ hs).mono ?_
    rintro e w2 ⟨rfl, e2⟩
    subst e2
    go_wp2_with fail
    go_ret
    exact ⟨by rw [codeP, if_neg (fun h => hs (by have := okP_iff.1 h; omega))]; rfl, hb1⟩

theorem load_plan {w : World} {ops : Array Oper} {rest : List Oper} {o : Oper} {A : Act} {Q : Exit → Act → World → Prop} (hgd : o.guard = none) (x : Operand) (ho : o.op = .load 28 x) (g : Nat) {s t c a : Int}
    (hx : A.eval x = .pointer (some ⟨g, 0, none⟩)) (hg : RowV w g 28 (pc s t c a))
    (h : wpList Try.prog ops Q rest (A.put o.dst (.agg (pc s t c a).toArray)) w) : wpList Try.prog ops Q (o :: rest) A w :=
  wpList_load_row hgd 28 x ho g hx 28 _ (0, 0) _ hg Try.underlying28 rfl (pc_size _ _ _ _) h
section
variable {W : World} {ρ : Operand → Value} {o : Oper}
theorem exec_load_int (x : Operand) (ho : o.op = .load 3 x) (b k : Nat) (hx : ρ x = .pointer (some ⟨b, k, none⟩)) (v : Int) (hc : W.cell? ⟨b, k, none⟩ = some (.int .i64 v)) : (execOp ρ o).run Try.prog W = .ok (.value (.int .i64 v)) W := by
  simp only [execOp, ho, hx]
  go_simp
theorem exec_load_row (ty : TypeId) (x : Operand) (ho : o.op = .load ty x) (b : Nat) (hx : ρ x = .pointer (some ⟨b, 0, none⟩)) {t : TypeId} {cs : List Value} (d : TypeDesc) (hc : RowV W b t cs) (hu : Try.prog.underlying ty = some d) (hd : d.isRow = true) (hi : (Try.prog.info? ty).map (·.size) = some cs.length) :
    (execOp ρ o).run Try.prog W = .ok (.value (.agg cs.toArray)) W :=
  exec_load_mid ty x ho b 0 hx cs d (fun i v hv => by rw [Nat.zero_add]; exact hc.cell hv) hu hd hi
end
end Go.Proofs.Ytgkmbnmelepenaa
namespace Go.Proofs.Ytgkmbnmelepenaa
open Go.RowKit
set_option linter.unusedVariables false

set_option maxRecDepth 100000 in
theorem psectors_any (w : World) (n : Int) (h1 : 1 ≤ n) (h2 : n ≤ 200) :
    Calls Try.prog 62 #[.int .i64 n] w fun e w' => e = .returned (.int .i64 ((2 * n + 5) / 6)) ∧ w' = w := by
  go_enter Try.func62, Try.ntmps62
  go_wp2_with fail
  go_ret
  exact ⟨by show Ending.returned (Value.int .i64 ((n * 2 + 6 - 1) / 6)) = _; rw [show n * 2 + 6 - 1 = 2 * n + 5 by omega], rfl⟩

set_option maxRecDepth 100000 in
set_option maxHeartbeats 4000000 in
/-- Index, the reference's: the least number that holds two entries a slot. -/
theorem rindex_any (w : World) (s t c a : Int) (h1 : 1 ≤ s) (h2 : s ≤ 200) :
    Calls Try.prog 45 #[.agg (pc s t c a).toArray] w fun e w' => e = .returned (.int .i64 ((2 * s + 5) / 6)) ∧ Below w.heap.size w w' := by
  obtain ⟨n, hn, hlo, hhi⟩ : ∃ n : Nat, (2 * s + 5) / 6 = (n : Int) ∧ 2 * s ≤ 6 * (n : Int) ∧ 6 * (n : Int) < 2 * s + 6 := ⟨((2 * s + 5) / 6).toNat, by omega, by omega, by omega⟩
  rw [hn]
  clear hn
  go_enter Try.func45, Try.ntmps45
  go_wp2_with ((with_reducible refine at_box 28 ?_); refine wpList_box_rowV rfl 28 _ rfl (pc s t c a) rfl ?_)
  intro w1 hr1 hb1 hs1
  have c0 := hr1.cell (i := 0) rfl
  have hn200 : n ≤ 200 := by omega
  go_wp2_with fail
  go_loop [3] (fun v => ∃ k : Nat, k ≤ n ∧ v = .int .i64 k) (fun v => n - (intOf v).toNat)
  case atStart => exact ⟨0, Nat.zero_le _, rfl⟩
  case round =>
    obtain ⟨k, hkn, rfl⟩ := hrel
    by_cases hlt : k < n
    · have hlt' : 6 * (k : Int) < 2 * s := by omega
      have hk2 : (k : Int) ≤ 200 := by omega
      go_wp2_with fail
      go_round
      case rel => exact ⟨k + 1, by omega, rfl⟩
      case measure => show n - (k + 1) < n - k; omega
    · obtain rfl : k = n := by omega
      have hlt' : 2 * s ≤ 6 * (k : Int) := hlo
      have hk2 : (k : Int) ≤ 200 := by omega
      go_wp2_with fail
      go_ret
      exact ⟨rfl, hb1⟩
end Go.Proofs.Ytgkmbnmelepenaa
