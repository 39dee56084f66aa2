/-
  Layer 7: plans and layouts as cells; the contracts of within and Check; loads of a plan.
  Layer 7: the contracts of the reference's right and Check.
  '==' of structs of numbers, and of plans.
-/
import Derived.Test.YtoiphbdmmiikaaaRows
import Derived.Test.YtoiphbdmmiikaaaPkSlot
import Derived.Test.YtoiphbdmmiikaaaPkMemV
import Derived.WalkKit
import Derived.WalkLawsBesides
import Derived.Lib.Hide
import Derived.DeepKeys
namespace Go.Proofs.Ytoiphbdmmiikaaa
open Go.RowKit
set_option linter.unusedVariables false

/-- A plan as cells. -/
def pc (s t c a : Int) : List Value := [.int .i64 s, .int .i64 t, .int .i64 c, .int .i64 a]
/-- A plan that may be. -/
def okP (s t c a : Int) : Bool := decide (1 ≤ s) && decide (s ≤ 200) && decide (1 ≤ t) && decide (t ≤ 40) && decide (1 ≤ c) && decide (c ≤ 40) && decide (1 ≤ a) && decide (a ≤ 80)
theorem okP_iff {s t c a : Int} : okP s t c a = true ↔ (1 ≤ s ∧ s ≤ 200) ∧ (1 ≤ t ∧ t ≤ 40) ∧ (1 ≤ c ∧ c ≤ 40) ∧ 1 ≤ a ∧ a ≤ 80 := by
  simp [okP, and_assoc]
theorem Try.sizeP : (Try.prog.info? 23).map (·.size) = some 4 := by kernel_rfl
theorem pc_size (s t c a : Int) : (Try.prog.info? 23).map (·.size) = some (pc s t c a).toArray.size := Try.sizeP
/-- What a call of Check answers. -/
def codeP (s t c a : Int) : Int := if okP s t c a then 0 else 2

set_option maxRecDepth 100000 in
theorem within_any (w : World) (n m : Int) :
    Calls Try.prog 35 #[.int .i64 n, .int .i64 m] w fun e w' => e = .returned (.bool (decide (1 ≤ n) && decide (n ≤ m))) ∧ w' = w := by
  by_cases h1 : 1 ≤ n
  · have h1' := h1
    go_enter Try.func35, Try.ntmps35
    go_wp2_with fail
    go_ret
    exact ⟨by simp [h1], rfl⟩
  · have h1' : n < 1 := by omega
    go_enter Try.func35, Try.ntmps35
    go_wp2_with fail
    go_ret
    exact ⟨by rw [decide_eq_false (Int.not_le.2 h1), Bool.false_and]; rfl, rfl⟩
theorem within_yes (w : World) {n m : Int} (h : 1 ≤ n ∧ n ≤ m) : Calls Try.prog 35 #[.int .i64 n, .int .i64 m] w fun e w' => e = .returned (.bool true) ∧ w' = w :=
  (within_any w n m).mono fun e w' ⟨h1, h2⟩ => ⟨by rw [h1, decide_eq_true h.1, decide_eq_true h.2]; rfl, h2⟩
theorem within_no (w : World) {n m : Int} (h : ¬ (1 ≤ n ∧ n ≤ m)) : Calls Try.prog 35 #[.int .i64 n, .int .i64 m] w fun e w' => e = .returned (.bool false) ∧ w' = w :=
  (within_any w n m).mono fun e w' ⟨h1, h2⟩ => ⟨by
    rw [h1]
    by_cases a : 1 ≤ n
    · rw [decide_eq_true a, decide_eq_false (fun b => h ⟨a, b⟩)]; rfl
    · rw [decide_eq_false a]; rfl, h2⟩

set_option maxRecDepth 100000 in
set_option maxHeartbeats 4000000 in
theorem pcheck_any (w : World) (s t c a : Int) :
    Calls Try.prog 20 #[.agg (pc s t c a).toArray] w fun e w' => e = .returned (.int .i64 (codeP s t c a)) ∧ Below w.heap.size w w' := by
  go_enter Try.func20, Try.ntmps20
  go_wp2_with ((with_reducible refine at_box 23 ?_); refine wpList_box_rowV rfl 23 _ rfl (pc s t c a) rfl ?_)
  intro w1 hr1 hb1 hs1
  have c0 := hr1.cell (i := 0) rfl
  have c1 := hr1.cell (i := 1) rfl
  have c2 := hr1.cell (i := 2) rfl
  have c3 := hr1.cell (i := 3) rfl
  go_wp2_with fail
  by_cases hs : 1 ≤ s ∧ s ≤ 200
  · refine (within_yes _ hs).mono ?_
    rintro e w2 ⟨rfl, e2⟩
    subst e2
    go_wp2_with fail
    by_cases ht : 1 ≤ t ∧ t ≤ 40
    · refine (within_yes _ ht).mono ?_
      rintro e w2 ⟨rfl, e2⟩
      subst e2
      go_wp2_with fail
      by_cases hc : 1 ≤ c ∧ c ≤ 40
      · refine (within_yes _ hc).mono ?_
        rintro e w2 ⟨rfl, e2⟩
        subst e2
        go_wp2_with fail
        by_cases ha : 1 ≤ a ∧ a ≤ 80
        · refine (within_yes _ ha).mono ?_
          rintro e w2 ⟨rfl, e2⟩
          subst e2
          go_wp2_with fail
          go_ret
          exact ⟨by rw [codeP, if_pos (okP_iff.2 ⟨hs, ht, hc, ha⟩)]; rfl, hb1⟩
        · refine (within_no _ ha).mono ?_
          rintro e w2 ⟨rfl, e2⟩
          subst e2
          go_wp2_with fail
          go_ret
          exact ⟨by rw [codeP, if_neg (fun h => ha (by have := okP_iff.1 h; omega))]; rfl, hb1⟩
      · refine (within_no _ hc).mono ?_
        rintro e w2 ⟨rfl, e2⟩
        subst e2
        go_wp2_with fail
        go_ret
        exact ⟨by rw [codeP, if_neg (fun h => hc (by have := okP_iff.1 h; omega))]; rfl, hb1⟩
    · refine (within_no _ ht).mono ?_
      rintro e w2 ⟨rfl, e2⟩
      subst e2
      go_wp2_with fail
      go_ret
      exact ⟨by rw [codeP, if_neg (fun h => ht (by have := okP_iff.1 h; omega))]; rfl, hb1⟩
  · refine (within_no _ hs).mono ?_
    rintro e w2 ⟨rfl, e2⟩
    subst e2
    go_wp2_with fail
    go_ret
    exact ⟨by rw [codeP, if_neg (fun h => hs (by have := okP_iff.1 h; omega))]; rfl, hb1⟩

theorem load_plan {w : World} {ops : Array Oper} {rest : List Oper} {o : Oper} {A : Act} {Q : Exit → Act → World → Prop} (hgd : o.guard = none) (x : Operand) (ho : o.op = .load 23 x) (g : Nat) {s t c a : Int}
    (hx : A.eval x = .pointer (some ⟨g, 0, none⟩)) (hg : RowV w g 23 (pc s t c a))
    (h : wpList Try.prog ops Q rest (A.put o.dst (.agg (pc s t c a).toArray)) w) : wpList Try.prog ops Q (o :: rest) A w :=
  wpList_load_row hgd 23 x ho g hx 23 _ (0, 0) _ hg Try.underlying23 rfl (pc_size _ _ _ _) h
section
variable {W : World} {ρ : Operand → Value} {o : Oper}
theorem exec_load_int (x : Operand) (ho : o.op = .load 3 x) (b k : Nat) (hx : ρ x = .pointer (some ⟨b, k, none⟩)) (v : Int) (hc : W.cell? ⟨b, k, none⟩ = some (.int .i64 v)) : (execOp ρ o).run Try.prog W = .ok (.value (.int .i64 v)) W := by
  simp only [execOp, ho, hx]
  go_simp
theorem exec_load_row (ty : TypeId) (x : Operand) (ho : o.op = .load ty x) (b : Nat) (hx : ρ x = .pointer (some ⟨b, 0, none⟩)) {t : TypeId} {cs : List Value} (d : TypeDesc) (hc : RowV W b t cs) (hu : Try.prog.underlying ty = some d) (hd : d.isRow = true) (hi : (Try.prog.info? ty).map (·.size) = some cs.length) :
    (execOp ρ o).run Try.prog W = .ok (.value (.agg cs.toArray)) W :=
  exec_load_mid ty x ho b 0 hx cs d (fun i v hv => by rw [Nat.zero_add]; exact hc.cell hv) hu hd hi
end
end Go.Proofs.Ytoiphbdmmiikaaa
namespace Go.Proofs.Ytoiphbdmmiikaaa
open Go.RowKit
set_option linter.unusedVariables false

set_option maxRecDepth 100000 in
set_option maxHeartbeats 4000000 in
theorem rright_any (w : World) (s t c a : Int) :
    Calls Try.prog 38 #[.agg (pc s t c a).toArray] w fun e w' => e = .returned (.bool (okP s t c a)) ∧ Below w.heap.size w w' := by
  go_enter Try.func38, Try.ntmps38
  go_wp2_with ((with_reducible refine at_box 23 ?_); refine wpList_box_rowV rfl 23 _ rfl (pc s t c a) rfl ?_)
  intro w1 hr1 hb1 hs1
  have c0 := hr1.cell (i := 0) rfl
  have c1 := hr1.cell (i := 1) rfl
  have c2 := hr1.cell (i := 2) rfl
  have c3 := hr1.cell (i := 3) rfl
  by_cases h0 : 1 ≤ s
  · have h0g := h0
    by_cases h1 : s ≤ 200
    · have h1g := h1
      by_cases h2 : 1 ≤ t
      · have h2g := h2
        by_cases h3 : t ≤ 40
        · have h3g := h3
          by_cases h4 : 1 ≤ c
          · have h4g := h4
            by_cases h5 : c ≤ 40
            · have h5g := h5
              by_cases h6 : 1 ≤ a
              · have h6g := h6
                by_cases h7 : a ≤ 80
                · have h7g := h7
                  go_wp2_with fail
                  go_ret
                  exact ⟨by rw [okP_iff.2 (by omega)]; rfl, hb1⟩
                · have h7g : 80 < a := by omega
                  go_wp2_with fail
                  go_ret
                  exact ⟨by rw [Bool.eq_false_iff.2 (fun h => absurd (okP_iff.1 h) (by omega))]; rfl, hb1⟩
              · have h6g : a < 1 := by omega
                go_wp2_with fail
                go_ret
                exact ⟨by rw [Bool.eq_false_iff.2 (fun h => absurd (okP_iff.1 h) (by omega))]; rfl, hb1⟩
            · have h5g : 40 < c := by omega
              go_wp2_with fail
              go_ret
              exact ⟨by rw [Bool.eq_false_iff.2 (fun h => absurd (okP_iff.1 h) (by omega))]; rfl, hb1⟩
          · have h4g : c < 1 := by omega
            go_wp2_with fail
            go_ret
            exact ⟨by rw [Bool.eq_false_iff.2 (fun h => absurd (okP_iff.1 h) (by omega))]; rfl, hb1⟩
        · have h3g : 40 < t := by omega
          go_wp2_with fail
          go_ret
          exact ⟨by rw [Bool.eq_false_iff.2 (fun h => absurd (okP_iff.1 h) (by omega))]; rfl, hb1⟩
      · have h2g : t < 1 := by omega
        go_wp2_with fail
        go_ret
        exact ⟨by rw [Bool.eq_false_iff.2 (fun h => absurd (okP_iff.1 h) (by omega))]; rfl, hb1⟩
    · have h1g : 200 < s := by omega
      go_wp2_with fail
      go_ret
      exact ⟨by rw [Bool.eq_false_iff.2 (fun h => absurd (okP_iff.1 h) (by omega))]; rfl, hb1⟩
  · have h0g : s < 1 := by omega
    go_wp2_with fail
    go_ret
    exact ⟨by rw [Bool.eq_false_iff.2 (fun h => absurd (okP_iff.1 h) (by omega))]; rfl, hb1⟩

set_option maxRecDepth 100000 in
set_option maxHeartbeats 4000000 in
theorem rcheck_any (w : World) (s t c a : Int) :
    Calls Try.prog 23 #[.agg (pc s t c a).toArray] w fun e w' => e = .returned (.int .i64 (codeP s t c a)) ∧ Below w.heap.size w w' := by
  go_enter Try.func23, Try.ntmps23
  go_wp2_with ((with_reducible refine at_box 23 ?_); refine wpList_box_rowV rfl 23 _ rfl (pc s t c a) rfl ?_)
  intro w1 hr1 hb1 hs1
  go_wp2_with ((with_reducible refine at_load 23 ?_); refine wpList_load_row rfl 23 _ rfl (w.heap.size) rfl 23 (pc s t c a).toArray (0, 0) _ hr1 Try.underlying23 rfl (pc_size _ _ _ _) ?_)
  refine (rright_any _ _ _ _ _).mono ?_
  rintro e w2 ⟨rfl, hb2⟩
  have hb : Below w.heap.size w w2 := hb1.trans (hb2.mono (by omega))
  cases hok : okP s t c a
  · go_wp2_with fail
    go_ret
    exact ⟨by rw [codeP, hok]; rfl, hb⟩
  · go_wp2_with fail
    go_ret
    exact ⟨by rw [codeP, hok]; rfl, hb⟩
end Go.Proofs.Ytoiphbdmmiikaaa
namespace Go.Proofs.Ytoiphbdmmiikaaa
open Go.RowKit
set_option linter.unusedVariables false

section
variable {P : Program} {w : World}
theorem eqF_nil (d : Nat) (xs ys : Array Value) : (Op.eqFields d xs ys []).run P w = .ok true w := by simp [Op.eqFields]
/-- A field that is a number. -/
theorem eqF_int (d : Nat) {xs ys : Array Value} {f : Field} {fs : List Field} {k : IntKind} (hu : P.underlying f.type = some (.int k)) (hn : (f.name != "_") = true) {a b : Int} (hx : xs[f.offset]? = some (.int k a)) (hy : ys[f.offset]? = some (.int k b)) {r : Bool}
    (h : (Op.eqFields (d + 1) xs ys fs).run P w = .ok r w) : (Op.eqFields (d + 1) xs ys (f :: fs)).run P w = .ok ((a == b) && r) w := by
  have hp : P.plainKey f.type = true := by simp [Program.plainKey, hu]
  have hn' : f.name ≠ "_" := by simpa using hn
  simp only [Op.eqFields, Sem.run_ite, Sem.run_bind, run_part_plain w hp hx, run_part_plain w hp hy, Result.andThen_ok, run_equalIn_int w d f.type k k a b hu]
  cases hab : a == b
  · simp [hn']
  · simpa [hn'] using h
/-- A field that is a struct. -/
theorem eqF_agg (d : Nat) {xs ys : Array Value} {f : Field} {fs : List Field} (hn : (f.name != "_") = true) {A B : Value} (hx : (part f.type xs f.offset).run P w = .ok A w) (hy : (part f.type ys f.offset).run P w = .ok B w) {q r : Bool} (hq : (Op.equalIn d f.type A B).run P w = .ok q w)
    (h : (Op.eqFields d xs ys fs).run P w = .ok r w) : (Op.eqFields d xs ys (f :: fs)).run P w = .ok (q && r) w := by
  have hn' : f.name ≠ "_" := by simpa using hn
  simp only [Op.eqFields, Sem.run_ite, Sem.run_bind, hx, hy, Result.andThen_ok, hq]
  cases q
  · simp [hn']
  · simpa [hn'] using h
end
theorem eq_plan' (d : Nat) (w : World) (s t c a s' t' c' a' : Int) : (Op.equalIn (d + 2) 23 (.agg (pc s t c a).toArray) (.agg (pc s' t' c' a').toArray)).run Try.prog w = .ok ((s == s') && ((t == t') && ((c == c') && ((a == a') && true)))) w := by
  rw [run_equalIn_struct w (d + 1) 23 _ _ (by kernel_rfl) (by kernel_rfl)]
  simp only [Program.fieldsOf, Try.underlying23]
  exact eqF_int d (by kernel_rfl) rfl rfl rfl (eqF_int d (by kernel_rfl) rfl rfl rfl (eqF_int d (by kernel_rfl) rfl rfl rfl (eqF_int d (by kernel_rfl) rfl rfl rfl (eqF_nil _ _ _))))
theorem eq_plan (w : World) (s t c a s' t' c' a' : Int) : (Op.equalIn 10000 23 (.agg (pc s t c a).toArray) (.agg (pc s' t' c' a').toArray)).run Try.prog w = .ok (decide ([s, t, c, a] = [s', t', c', a'])) w := by
  rw [eq_plan' 9998]
  congr 1
  rw [Bool.eq_iff_iff]
  simp
section
variable {P : Program}
/-- One operation: '==', '!=' of two structs. -/
theorem exec_eqlS {W : World} {ρ : Operand → Value} {o : Oper} (t : TypeId) (x y : Operand) (u : TypeId) (ho : o.op = .binOp .eql t x y u) (hm : P.eqGuardType P.depth t = false) {xs ys : Array Value} (hx : ρ x = .agg xs) (hy : ρ y = .agg ys) {b : Bool}
    (he : (Op.equalIn 10000 t (.agg xs) (.agg ys)).run P W = .ok b W) : (execOp ρ o).run P W = .ok (.value (.bool b)) W := by
  simp only [execOp, ho, hx, hy, Sem.run_bind, run_eqGuard_agg W .eql t x y _ _ hm, run_eql_struct, he, Result.andThen_ok, Sem.run_pure]
theorem exec_neqS {W : World} {ρ : Operand → Value} {o : Oper} (t : TypeId) (x y : Operand) (u : TypeId) (ho : o.op = .binOp .neq t x y u) (hm : P.eqGuardType P.depth t = false) {xs ys : Array Value} (hx : ρ x = .agg xs) (hy : ρ y = .agg ys) {b : Bool}
    (he : (Op.equalIn 10000 t (.agg xs) (.agg ys)).run P W = .ok b W) : (execOp ρ o).run P W = .ok (.value (.bool (!b))) W := by
  simp only [execOp, ho, hx, hy, Sem.run_bind, run_eqGuard_agg W .neq t x y _ _ hm, run_neq_struct, he, Result.andThen_ok, Sem.run_pure]
theorem at_eql {w : World} {ops : Array Oper} {rest : List Oper} {a : Act} {Q : Exit → Act → World → Prop} {d : Option Tmp} {x y : Operand} {v u : TypeId} {p : String} {af : Array Edge} (ty : TypeId)
    (h : wpList P ops Q (⟨d, .binOp .eql ty x y v, u, p, af, none⟩ :: rest) a w) : wpList P ops Q (⟨d, .binOp .eql ty x y v, u, p, af, none⟩ :: rest) a w := h
theorem wpList_eqlS {w : World} {ops : Array Oper} {rest : List Oper} {o : Oper} {a : Act} {Q : Exit → Act → World → Prop} (hg : o.guard = none) (t : TypeId) (x y : Operand) (u : TypeId) (ho : o.op = .binOp .eql t x y u) (hm : P.eqGuardType P.depth t = false) {xs ys : Array Value} (hx : a.eval x = .agg xs) (hy : a.eval y = .agg ys) {b : Bool}
    (he : (Op.equalIn 10000 t (.agg xs) (.agg ys)).run P w = .ok b w) (h : wpList P ops Q rest (a.put o.dst (.bool b)) w) : wpList P ops Q (o :: rest) a w := by
  refine wpList_plain hg fun K hK => ?_
  unfold Oper.wp
  rw [exec_eqlS t x y u ho hm hx hy he]
  exact hK _ _ h
end
end Go.Proofs.Ytoiphbdmmiikaaa
