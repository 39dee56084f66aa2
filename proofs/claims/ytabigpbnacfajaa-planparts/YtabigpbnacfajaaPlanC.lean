/-
  Layer 7: '==' of plans and of layouts; the contracts of Bound, Home and Same.
-/
import Derived.Test.YtabigpbnacfajaaPlanB
import Derived.DeepKeys
namespace Go.Proofs.Ytabigpbnacfajaa
open Go.RowKit
set_option linter.unusedVariables false

section
variable {P : Program} {w : World}
theorem eqF_nil (d : Nat) (xs ys : Array Value) : (Op.eqFields d xs ys []).run P w = .ok true w := by simp [Op.eqFields]
/-- A field that is a number. -/
theorem eqF_int (d : Nat) {xs ys : Array Value} {f : Field} {fs : List Field} {k : IntKind} (hu : P.underlying f.type = some (.int k)) (hn : (f.name != "_") = true) {a b : Int} (hx : xs[f.offset]? = some (.int k a)) (hy : ys[f.offset]? = some (.int k b)) {r : Bool}
    (h : (Op.eqFields (d + 1) xs ys fs).run P w = .ok r w) : (Op.eqFields (d + 1) xs ys (f :: fs)).run P w = .ok ((a == b) && r) w := by
  have hp : P.plainKey f.type = true := by simp [Program.plainKey, hu]
  have hn' : f.name ≠ "_" := by simpa using hn
  simp only [Op.eqFields, Sem.run_ite, Sem.run_bind, run_part_plain w hp hx, run_part_plain w hp hy, Result.andThen_ok, run_equalIn_int w d f.type k k a b hu]
  cases hab : a == b
  · simp [hn']
  · simpa [hn'] using h
/-- A field that is a struct. -/
theorem eqF_agg (d : Nat) {xs ys : Array Value} {f : Field} {fs : List Field} (hn : (f.name != "_") = true) {A B : Value} (hx : (part f.type xs f.offset).run P w = .ok A w) (hy : (part f.type ys f.offset).run P w = .ok B w) {q r : Bool} (hq : (Op.equalIn d f.type A B).run P w = .ok q w)
    (h : (Op.eqFields d xs ys fs).run P w = .ok r w) : (Op.eqFields d xs ys (f :: fs)).run P w = .ok (q && r) w := by
  have hn' : f.name ≠ "_" := by simpa using hn
  simp only [Op.eqFields, Sem.run_ite, Sem.run_bind, hx, hy, Result.andThen_ok, hq]
  cases q
  · simp [hn']
  · simpa [hn'] using h
end
theorem eq_plan' (d : Nat) (w : World) (s t c a s' t' c' a' : Int) : (Op.equalIn (d + 2) 23 (.agg (pc s t c a).toArray) (.agg (pc s' t' c' a').toArray)).run Try.prog w = .ok ((s == s') && ((t == t') && ((c == c') && ((a == a') && true)))) w := by
  rw [run_equalIn_struct w (d + 1) 23 _ _ (by kernel_rfl) (by kernel_rfl)]
  simp only [Program.fieldsOf, Try.underlying23]
  exact eqF_int d (by kernel_rfl) rfl rfl rfl (eqF_int d (by kernel_rfl) rfl rfl rfl (eqF_int d (by kernel_rfl) rfl rfl rfl (eqF_int d (by kernel_rfl) rfl rfl rfl (eqF_nil _ _ _))))
theorem eq_plan (w : World) (s t c a s' t' c' a' : Int) : (Op.equalIn 10000 23 (.agg (pc s t c a).toArray) (.agg (pc s' t' c' a').toArray)).run Try.prog w = .ok (decide ([s, t, c, a] = [s', t', c', a'])) w := by
  rw [eq_plan' 9998]
  congr 1
  rw [Bool.eq_iff_iff]
  simp
theorem part_plan (w : World) (s t c a x1 x2 x3 x4 x5 x6 x7 x8 x9 x10 : Int) : (part 23 (lcs s t c a x1 x2 x3 x4 x5 x6 x7 x8 x9 x10).toArray 0).run Try.prog w = .ok (.agg (pc s t c a).toArray) w := by
  simp only [part, Sem.run_bind, Try.isAgg23, Try.sizeOf23, Result.andThen_ok, if_true, Sem.run_pure]
  rfl
theorem eq_lay (w : World) (s t c a x1 x2 x3 x4 x5 x6 x7 x8 x9 x10 s' t' c' a' y1 y2 y3 y4 y5 y6 y7 y8 y9 y10 : Int) : (Op.equalIn 10000 25 (.agg (lcs s t c a x1 x2 x3 x4 x5 x6 x7 x8 x9 x10).toArray) (.agg (lcs s' t' c' a' y1 y2 y3 y4 y5 y6 y7 y8 y9 y10).toArray)).run Try.prog w = .ok (decide ([s, t, c, a, x1, x2, x3, x4, x5, x6, x7, x8, x9, x10] = [s', t', c', a', y1, y2, y3, y4, y5, y6, y7, y8, y9, y10])) w := by
  have h : (Op.equalIn 10000 25 (.agg (lcs s t c a x1 x2 x3 x4 x5 x6 x7 x8 x9 x10).toArray) (.agg (lcs s' t' c' a' y1 y2 y3 y4 y5 y6 y7 y8 y9 y10).toArray)).run Try.prog w = .ok (((s == s') && ((t == t') && ((c == c') && ((a == a') && true)))) && ((x1 == y1) && ((x2 == y2) && ((x3 == y3) && ((x4 == y4) && ((x5 == y5) && ((x6 == y6) && ((x7 == y7) && ((x8 == y8) && ((x9 == y9) && ((x10 == y10) && true))))))))))) w := by
    rw [show 10000 = 9999 + 1 from rfl, run_equalIn_struct w 9999 25 _ _ (by kernel_rfl) (by kernel_rfl)]
    simp only [Program.fieldsOf, Try.underlying25]
    refine eqF_agg 9999 rfl (part_plan _ _ _ _ _ _ _ _ _ _ _ _ _ _ _) (part_plan _ _ _ _ _ _ _ _ _ _ _ _ _ _ _) (eq_plan' 9997 w _ _ _ _ _ _ _ _) ?_
    exact eqF_int 9998 (by kernel_rfl) rfl rfl rfl (eqF_int 9998 (by kernel_rfl) rfl rfl rfl (eqF_int 9998 (by kernel_rfl) rfl rfl rfl (eqF_int 9998 (by kernel_rfl) rfl rfl rfl (eqF_int 9998 (by kernel_rfl) rfl rfl rfl (eqF_int 9998 (by kernel_rfl) rfl rfl rfl (eqF_int 9998 (by kernel_rfl) rfl rfl rfl (eqF_int 9998 (by kernel_rfl) rfl rfl rfl (eqF_int 9998 (by kernel_rfl) rfl rfl rfl (eqF_int 9998 (by kernel_rfl) rfl rfl rfl (eqF_nil _ _ _))))))))))
  rw [h]
  congr 1
  rw [Bool.eq_iff_iff]
  simp [and_assoc]

section
variable {P : Program}
/-- One operation: '==', '!=' of two structs. -/
theorem exec_eqlS {W : World} {ρ : Operand → Value} {o : Oper} (t : TypeId) (x y : Operand) (u : TypeId) (ho : o.op = .binOp .eql t x y u) (hm : P.eqGuardType P.depth t = false) {xs ys : Array Value} (hx : ρ x = .agg xs) (hy : ρ y = .agg ys) {b : Bool}
    (he : (Op.equalIn 10000 t (.agg xs) (.agg ys)).run P W = .ok b W) : (execOp ρ o).run P W = .ok (.value (.bool b)) W := by
  simp only [execOp, ho, hx, hy, Sem.run_bind, run_eqGuard_agg W .eql t x y _ _ hm, run_eql_struct, he, Result.andThen_ok, Sem.run_pure]
theorem exec_neqS {W : World} {ρ : Operand → Value} {o : Oper} (t : TypeId) (x y : Operand) (u : TypeId) (ho : o.op = .binOp .neq t x y u) (hm : P.eqGuardType P.depth t = false) {xs ys : Array Value} (hx : ρ x = .agg xs) (hy : ρ y = .agg ys) {b : Bool}
    (he : (Op.equalIn 10000 t (.agg xs) (.agg ys)).run P W = .ok b W) : (execOp ρ o).run P W = .ok (.value (.bool (!b))) W := by
  simp only [execOp, ho, hx, hy, Sem.run_bind, run_eqGuard_agg W .neq t x y _ _ hm, run_neq_struct, he, Result.andThen_ok, Sem.run_pure]
theorem at_eql {w : World} {ops : Array Oper} {rest : List Oper} {a : Act} {Q : Exit → Act → World → Prop} {d : Option Tmp} {x y : Operand} {v u : TypeId} {p : String} {af : Array Edge} (ty : TypeId)
    (h : wpList P ops Q (⟨d, .binOp .eql ty x y v, u, p, af, none⟩ :: rest) a w) : wpList P ops Q (⟨d, .binOp .eql ty x y v, u, p, af, none⟩ :: rest) a w := h
theorem wpList_eqlS {w : World} {ops : Array Oper} {rest : List Oper} {o : Oper} {a : Act} {Q : Exit → Act → World → Prop} (hg : o.guard = none) (t : TypeId) (x y : Operand) (u : TypeId) (ho : o.op = .binOp .eql t x y u) (hm : P.eqGuardType P.depth t = false) {xs ys : Array Value} (hx : a.eval x = .agg xs) (hy : a.eval y = .agg ys) {b : Bool}
    (he : (Op.equalIn 10000 t (.agg xs) (.agg ys)).run P w = .ok b w) (h : wpList P ops Q rest (a.put o.dst (.bool b)) w) : wpList P ops Q (o :: rest) a w := by
  refine wpList_plain hg fun K hK => ?_
  unfold Oper.wp
  rw [exec_eqlS t x y u ho hm hx hy he]
  exact hK _ _ h
end

set_option maxRecDepth 100000 in
set_option maxHeartbeats 400000 in
theorem bound_any (w : World) (s t c a x1 x2 x3 x4 x5 x6 x7 x8 x9 x10 : Int) (h1 : 1 ≤ s) (h2 : s ≤ 200) :
    Calls Try.prog 12 #[.agg (lcs s t c a x1 x2 x3 x4 x5 x6 x7 x8 x9 x10).toArray] w fun e w' => e = .returned (.int .i64 (s + 1)) ∧ Below w.heap.size w w' := by
  go_enter Try.func12, Try.ntmps12
  go_wp2_with ((with_reducible refine at_box 25 ?_); refine wpList_box_rowV rfl 25 _ rfl (lcs s t c a x1 x2 x3 x4 x5 x6 x7 x8 x9 x10) rfl ?_)
  intro w1 hr1 hb1 hz1
  have c0 := hr1.cell (i := 0) rfl
  go_wp2_with fail
  go_ret
  exact ⟨rfl, hb1⟩

set_option maxRecDepth 100000 in
set_option maxHeartbeats 400000 in
theorem home_any (w : World) (s t c a x1 x2 x3 x4 x5 x6 x7 x8 x9 x10 at_ : Int) :
    Calls Try.prog 16 #[.agg (lcs s t c a x1 x2 x3 x4 x5 x6 x7 x8 x9 x10).toArray, .int .i64 at_] w fun e w' => e = .returned (.bool (decide (2 ≤ at_ ∧ at_ < x5))) ∧ Below w.heap.size w w' := by
  go_enter Try.func16, Try.ntmps16
  go_wp2_with ((with_reducible refine at_box 25 ?_); refine wpList_box_rowV rfl 25 _ rfl (lcs s t c a x1 x2 x3 x4 x5 x6 x7 x8 x9 x10) rfl ?_)
  intro w1 hr1 hb1 hz1
  have c8 := hr1.cell (i := 8) rfl
  by_cases h2 : 2 ≤ at_
  · have h2' := h2
    by_cases h5 : at_ < x5
    · have h5' := h5
      go_wp2_with fail
      go_ret
      exact ⟨by rw [decide_eq_true ⟨h2, h5⟩]; rfl, hb1⟩
    · have h5' : x5 ≤ at_ := by omega
      go_wp2_with fail
      go_ret
      exact ⟨by rw [decide_eq_false (by omega)]; rfl, hb1⟩
  · have h2' : at_ < 2 := by omega
    go_wp2_with fail
    go_ret
    exact ⟨by rw [decide_eq_false (by omega)]; rfl, hb1⟩

set_option maxRecDepth 100000 in
set_option maxHeartbeats 400000 in
theorem same_any (w : World) (s t c a x1 x2 x3 x4 x5 x6 x7 x8 x9 x10 s' t' c' a' y1 y2 y3 y4 y5 y6 y7 y8 y9 y10 : Int) :
    Calls Try.prog 15 #[.agg (lcs s t c a x1 x2 x3 x4 x5 x6 x7 x8 x9 x10).toArray, .agg (lcs s' t' c' a' y1 y2 y3 y4 y5 y6 y7 y8 y9 y10).toArray] w fun e w' =>
      e = .returned (.bool (decide ([s, t, c, a, x1, x2, x3, x4, x5, x6, x7, x8, x9, x10] = [s', t', c', a', y1, y2, y3, y4, y5, y6, y7, y8, y9, y10]))) ∧ Below w.heap.size w w' := by
  generalize hd : decide ([s, t, c, a, x1, x2, x3, x4, x5, x6, x7, x8, x9, x10] = [s', t', c', a', y1, y2, y3, y4, y5, y6, y7, y8, y9, y10]) = b
  have He := Lib.hid (fun W => eq_lay W s t c a x1 x2 x3 x4 x5 x6 x7 x8 x9 x10 s' t' c' a' y1 y2 y3 y4 y5 y6 y7 y8 y9 y10)
  rw [hd] at He
  clear hd
  go_enter Try.func15, Try.ntmps15
  go_wp2_with ((with_reducible refine at_box 25 ?_); refine wpList_box_rowV rfl 25 _ rfl (lcs s t c a x1 x2 x3 x4 x5 x6 x7 x8 x9 x10) rfl ?_)
  intro w1 hr1 hb1 hz1
  go_wp2_with ((with_reducible refine at_box 25 ?_); refine wpList_box_rowV rfl 25 _ rfl (lcs s' t' c' a' y1 y2 y3 y4 y5 y6 y7 y8 y9 y10) rfl ?_)
  intro w2 hr2 hb2 hz2
  have hr12 := hr1.below (by omega) hb2
  have hB : Below w.heap.size w w2 := hb1.trans (hb2.mono (by omega))
  clear hr1 hb1 hb2 hz1 hz2
  generalize hN1 : w.heap.size + 1 = N1 at *
  generalize hN : w.heap.size = N at *
  clear hN1
  go_wp2_with (first
    | ((with_reducible refine at_load 25 ?_); refine load_lay rfl _ rfl N rfl hr12 ?_)
    | ((with_reducible refine at_load 25 ?_); refine load_lay rfl _ rfl N1 rfl hr2 ?_)
    | ((with_reducible refine at_eql 25 ?_); refine wpList_eqlS rfl 25 _ _ _ rfl (by kernel_rfl) rfl rfl (He.out _) ?_))
  go_ret
  exact ⟨rfl, by rw [hN]; exact hB⟩
end Go.Proofs.Ytabigpbnacfajaa
