/-
  Layer 7: the contracts of Of, Bound, Home, Part, Same.
  Layer 7: the contract of Home.
  Layer 7: the names of the parts.
  Layer 7: rows of names; the contract of the reference's Parts.
  Layer 7: where each name stands in the row of the parts. No function of the program is named here.
-/
import Derived.Test.YtgkmbnmelepenaaPkPlanI
import Derived.Test.YtgkmbnmelepenaaPkSlotF
import Derived.Laws.OwnMore
namespace Go.Proofs.Ytgkmbnmelepenaa
open Go.RowKit
set_option linter.unusedVariables false

/-- A layout as cells. -/
def lcs (s t c a x1 x2 x3 x4 x5 x6 x7 x8 x9 x10 : Int) : List Value :=
  [.int .i64 s, .int .i64 t, .int .i64 c, .int .i64 a, .int .i64 x1, .int .i64 x2, .int .i64 x3, .int .i64 x4, .int .i64 x5, .int .i64 x6, .int .i64 x7, .int .i64 x8, .int .i64 x9, .int .i64 x10]
def lc0 : List Value := lcs 0 0 0 0 0 0 0 0 0 0 0 0 0 0
theorem Try.zeroL : (Try.prog.info? 30).bind (·.zero) = some (.agg lc0.toArray) := by kernel_rfl
theorem Try.sizeL : (Try.prog.info? 30).map (·.size) = some 14 := by kernel_rfl
theorem lcs_size (s t c a x1 x2 x3 x4 x5 x6 x7 x8 x9 x10 : Int) : (Try.prog.info? 30).map (·.size) = some (lcs s t c a x1 x2 x3 x4 x5 x6 x7 x8 x9 x10).toArray.size := Try.sizeL
theorem lcs_all (s t c a x1 x2 x3 x4 x5 x6 x7 x8 x9 x10 : Int) : (lcs s t c a x1 x2 x3 x4 x5 x6 x7 x8 x9 x10).toArray.all (·.oneCell') = true := by simp [lcs, Value.oneCell']

/-- How many sectors the index has. -/
def idx (s : Int) : Int := (2 * s + 5) / 6
/-- The layout of a plan that may be. -/
def lay (s t c a : Int) : List Value :=
  lcs s t c a 5 (5 + idx s) (5 + idx s + t) (5 + idx s + t + c) (5 + idx s + t + c + a) (5 + idx s + t + c + a + 1) (5 + idx s + t + c + a + 1 + (idx s + t + 9)) (5 + idx s + t + c + a + 1 + (idx s + t + 9) + s) (idx s * 6) (idx s + t + 9)
theorem built_lay0 : Try.prog.built 30 [] = some lc0.toArray := by kernel_rfl
theorem built_lay (s t c a x9 x10 : Int) : Try.prog.built 30 [(0, .agg (pc s t c a).toArray), (1, .int .i64 5), (9, .int .i64 x9), (10, .int .i64 x10)] = some (lcs s t c a 5 0 0 0 0 0 0 0 x9 x10).toArray := by kernel_rfl

/-- A layout stored into a variable. -/
theorem store_lay {w : World} {ops : Array Oper} {rest : List Oper} {o : Oper} {A : Act} {Q : Exit → Act → World → Prop} (hgd : o.guard = none) (x y : Operand) (ho : o.op = .store 30 x y) (g : Nat) (s t c a x1 x2 x3 x4 x5 x6 x7 x8 x9 x10 : Int)
    (hx : A.eval x = .pointer (some ⟨g, 0, none⟩)) (hy : A.eval y = .agg (lcs s t c a x1 x2 x3 x4 x5 x6 x7 x8 x9 x10).toArray) {old : List Value} (hg : RowV w g 30 old) (hold : old.length = 14)
    (h : ∀ w', RowV w' g 30 (lcs s t c a x1 x2 x3 x4 x5 x6 x7 x8 x9 x10) → w.grownBy w' (some g) → w'.heap.size = w.heap.size → wpList Try.prog ops Q rest (A.put o.dst undef) w') : wpList Try.prog ops Q (o :: rest) A w :=
  wpList_store_rowV hgd 30 x y ho g _ hx hy 30 old hg (lcs_size _ _ _ _ _ _ _ _ _ _ _ _ _ _) (by rw [List.size_toArray, hold]; rfl) (lcs_all _ _ _ _ _ _ _ _ _ _ _ _ _ _) h
theorem load_lay {w : World} {ops : Array Oper} {rest : List Oper} {o : Oper} {A : Act} {Q : Exit → Act → World → Prop} (hgd : o.guard = none) (x : Operand) (ho : o.op = .load 30 x) (g : Nat) {s t c a x1 x2 x3 x4 x5 x6 x7 x8 x9 x10 : Int}
    (hx : A.eval x = .pointer (some ⟨g, 0, none⟩)) (hg : RowV w g 30 (lcs s t c a x1 x2 x3 x4 x5 x6 x7 x8 x9 x10))
    (h : wpList Try.prog ops Q rest (A.put o.dst (.agg (lcs s t c a x1 x2 x3 x4 x5 x6 x7 x8 x9 x10).toArray)) w) : wpList Try.prog ops Q (o :: rest) A w :=
  wpList_load_row hgd 30 x ho g hx 30 _ (0, 0) _ hg Try.underlying30 rfl (lcs_size _ _ _ _ _ _ _ _ _ _ _ _ _ _) h
set_option maxRecDepth 100000 in
set_option maxHeartbeats 400000 in
theorem of_no (w : World) (s t c a : Int) (hok : okP s t c a = false) :
    Calls Try.prog 32 #[.agg (pc s t c a).toArray] w fun e w' => e = .returned (.tuple #[.agg lc0.toArray, .int .i64 2]) ∧ Below w.heap.size w w' := by
  go_enter Try.func32, Try.ntmps32
  go_wp2_with ((with_reducible refine at_box 28 ?_); refine wpList_box_rowV rfl 28 _ rfl (pc s t c a) rfl ?_)
  intro w1 hr1 hb1 hz1
  go_wp2_with ((with_reducible refine at_alloc 30 ?_); refine wpList_alloc_rowV rfl 30 rfl lc0 Try.zeroL ?_)
  intro w2 hr2 hb2 hz2
  have hr12 := hr1.below (by omega) hb2
  have hB2 : Below w.heap.size w w2 := hb1.trans (hb2.mono (by omega))
  have hz : w.heap.size + 1 < w2.heap.size := by omega
  have hlt : w.heap.size < w.heap.size + 1 := by omega
  clear hr1 hb1 hb2 hz1 hz2
  generalize hN1 : w.heap.size + 1 = N1 at *
  generalize hN : w.heap.size = N at *
  clear hN1
  go_wp2_with ((with_reducible refine at_load 28 ?_); refine load_plan rfl _ rfl N rfl hr12 ?_)
  refine (pcheck_any _ _ _ _ _).mono ?_
  rintro e w3 ⟨rfl, hb3⟩
  have hcd : codeP s t c a = 2 := by rw [codeP, hok]; rfl
  rw [hcd]
  have hr3 := hr2.below (by omega) hb3
  have hz3 := hb3.size
  have hB3 : Below N w w3 := hB2.trans (hb3.mono (by omega))
  clear hr2 hr12 hb3 hB2
  have hz' : N1 < w3.heap.size := by omega
  clear hz hz3
  go_wp2_with ((with_reducible refine at_store 30 ?_); refine store_lay rfl _ _ rfl N1 0 0 0 0 0 0 0 0 0 0 0 0 0 0 rfl rfl hr3 rfl ?_)
  intro w4 hr4 hg4 hz4
  go_wp2_with fail
  exact bodyPost_ret (results_cell_tmp (fn := Try.f32) rfl _ _ N1 30 _ (0, 0) _ rfl (.int .i64 2) rfl hr4 Try.underlying30 rfl Try.sizeL) rfl ⟨rfl, by rw [hN]; exact below_grown hB3 hg4 (by omega) (by omega)⟩

set_option maxRecDepth 100000 in
set_option maxHeartbeats 400000 in
theorem of_yes (w : World) (s t c a : Int) (hok : okP s t c a = true) :
    Calls Try.prog 32 #[.agg (pc s t c a).toArray] w fun e w' => e = .returned (.tuple #[.agg (lay s t c a).toArray, .int .i64 0]) ∧ Below w.heap.size w w' := by
  obtain ⟨⟨hs1, hs2⟩, ⟨ht1, ht2⟩, ⟨hc1, hc2⟩, ha1, ha2⟩ := okP_iff.1 hok
  go_enter Try.func32, Try.ntmps32
  go_wp2_with ((with_reducible refine at_box 28 ?_); refine wpList_box_rowV rfl 28 _ rfl (pc s t c a) rfl ?_)
  intro w1 hr1 hb1 hz1
  go_wp2_with ((with_reducible refine at_alloc 30 ?_); refine wpList_alloc_rowV rfl 30 rfl lc0 Try.zeroL ?_)
  intro w2 hr2 hb2 hz2
  have hr12 := hr1.below (by omega) hb2
  have hB2 : Below w.heap.size w w2 := hb1.trans (hb2.mono (by omega))
  have hz : w.heap.size + 1 < w2.heap.size := by omega
  have hlt : w.heap.size < w.heap.size + 1 := by omega
  clear hr1 hb1 hb2 hz1 hz2
  generalize hN1 : w.heap.size + 1 = N1 at *
  generalize hN : w.heap.size = N at *
  clear hN1
  go_wp2_with ((with_reducible refine at_load 28 ?_); refine load_plan rfl _ rfl N rfl hr12 ?_)
  refine (pcheck_any _ _ _ _ _).mono ?_
  rintro e w3 ⟨rfl, hb3⟩
  have hcd : codeP s t c a = 0 := by rw [codeP, hok]; rfl
  rw [hcd]
  have hr3 := hr2.below (by omega) hb3
  have hr13 := hr12.below (by omega) hb3
  have hz3 := hb3.size
  have hB3 : Below N w w3 := hB2.trans (hb3.mono (by omega))
  clear hr2 hr12 hb3 hB2
  have hz' : N1 < w3.heap.size := by omega
  clear hz hz3
  have c0 := hr13.cell (i := 0) rfl
  have c1 := hr13.cell (i := 1) rfl
  have c2 := hr13.cell (i := 2) rfl
  have c3 := hr13.cell (i := 3) rfl
  go_wp2_with fail
  refine (psectors_any _ _ hs1 hs2).mono ?_
  rintro e w4 ⟨rfl, e4⟩
  rw [e4]
  clear e4 w4
  obtain ⟨n, hn⟩ : ∃ n, n = (2 * s + 5) / 6 := ⟨_, rfl⟩
  rw [← hn]
  have hn1 : 0 ≤ n := by omega
  have hn2 : n ≤ 100 := by omega
  have Hn := Lib.hid hn
  clear hn
  go_wp2_with (first
    | ((with_reducible refine at_load 28 ?_); refine load_plan rfl _ rfl N rfl hr13 ?_)
    | ((with_reducible refine at_build 30 ?_); refine wpList_build_to rfl 30 _ rfl (lcs s t c a 5 0 0 0 0 0 0 0 (n * 6) (n + t + 9)) (by rw [Array.toList_map]; exact built_lay _ _ _ _ _ _) ?_)
    | ((with_reducible refine at_alloc 30 ?_); refine wpList_alloc_rowV rfl 30 rfl lc0 Try.zeroL ?_))
  intro w5 hr5 hb5 hz5
  have hr15 := hr13.below (by omega) hb5
  have hr25 := hr3.below (by omega) hb5
  have hB5 : Below N w w5 := hB3.trans (hb5.mono (by omega))
  clear hr3 hr13 c0 c1 c2 c3 hb5 hB3
  generalize hN3 : w3.heap.size = N3 at *
  go_wp2_with ((with_reducible refine at_store 30 ?_); refine store_lay rfl _ _ rfl N3 s t c a 5 0 0 0 0 0 0 0 (n * 6) (n + t + 9) rfl rfl hr5 rfl ?_)
  intro w6 hr6 hg6 hz6
  have hp6 := hr15.keep hg6 (fun e => by injection e with e; omega)
  have hu6 := hr25.keep hg6 (fun e => by injection e with e; omega)
  have hB6 : Below N w w6 := below_grown hB5 hg6 (by omega) (by omega)
  clear hr5 hr15 hr25 hB5 hg6
  have d5 := hr6.cell (i := 4) rfl
  go_wp2_with ((with_reducible refine at_store 3 ?_); refine store_field rfl _ _ rfl N3 5 (5 + n) rfl rfl hr6 (Nat.lt_of_lt_of_eq (by decide) (rfl : 14 = _)) ?_)
  intro w7 hq7 hg7 hz7
  have hr7 : RowV w7 N3 30 (lcs s t c a 5 (5 + n) 0 0 0 0 0 0 (n * 6) (n + t + 9)) := hq7
  have hp7 := hp6.keep hg7 (fun e => by injection e with e; omega)
  have hu7 := hu6.keep hg7 (fun e => by injection e with e; omega)
  have hB7 : Below N w w7 := below_grown hB6 hg7 (by omega) (by omega)
  clear d5 hq7 hr6 hp6 hu6 hB6 hg7
  have d6 := hr7.cell (i := 5) rfl
  have c1 := hp7.cell (i := 1) rfl
  go_wp2_with ((with_reducible refine at_store 3 ?_); refine store_field rfl _ _ rfl N3 6 (5 + n + t) rfl rfl hr7 (Nat.lt_of_lt_of_eq (by decide) (rfl : 14 = _)) ?_)
  intro w8 hq8 hg8 hz8
  have hr8 : RowV w8 N3 30 (lcs s t c a 5 (5 + n) (5 + n + t) 0 0 0 0 0 (n * 6) (n + t + 9)) := hq8
  have hp8 := hp7.keep hg8 (fun e => by injection e with e; omega)
  have hu8 := hu7.keep hg8 (fun e => by injection e with e; omega)
  have hB8 : Below N w w8 := below_grown hB7 hg8 (by omega) (by omega)
  clear d6 c1 hq8 hr7 hp7 hu7 hB7 hg8
  have d7 := hr8.cell (i := 6) rfl
  have c2 := hp8.cell (i := 2) rfl
  go_wp2_with ((with_reducible refine at_store 3 ?_); refine store_field rfl _ _ rfl N3 7 (5 + n + t + c) rfl rfl hr8 (Nat.lt_of_lt_of_eq (by decide) (rfl : 14 = _)) ?_)
  intro w9 hq9 hg9 hz9
  have hr9 : RowV w9 N3 30 (lcs s t c a 5 (5 + n) (5 + n + t) (5 + n + t + c) 0 0 0 0 (n * 6) (n + t + 9)) := hq9
  have hp9 := hp8.keep hg9 (fun e => by injection e with e; omega)
  have hu9 := hu8.keep hg9 (fun e => by injection e with e; omega)
  have hB9 : Below N w w9 := below_grown hB8 hg9 (by omega) (by omega)
  clear d7 c2 hq9 hr8 hp8 hu8 hB8 hg9
  have d8 := hr9.cell (i := 7) rfl
  have c3 := hp9.cell (i := 3) rfl
  go_wp2_with ((with_reducible refine at_store 3 ?_); refine store_field rfl _ _ rfl N3 8 (5 + n + t + c + a) rfl rfl hr9 (Nat.lt_of_lt_of_eq (by decide) (rfl : 14 = _)) ?_)
  intro w10 hq10 hg10 hz10
  have hr10 : RowV w10 N3 30 (lcs s t c a 5 (5 + n) (5 + n + t) (5 + n + t + c) (5 + n + t + c + a) 0 0 0 (n * 6) (n + t + 9)) := hq10
  have hp10 := hp9.keep hg10 (fun e => by injection e with e; omega)
  have hu10 := hu9.keep hg10 (fun e => by injection e with e; omega)
  have hB10 : Below N w w10 := below_grown hB9 hg10 (by omega) (by omega)
  clear d8 c3 hq10 hr9 hp9 hu9 hB9 hg10
  have d9 := hr10.cell (i := 8) rfl
  go_wp2_with ((with_reducible refine at_store 3 ?_); refine store_field rfl _ _ rfl N3 9 (5 + n + t + c + a + 1) rfl rfl hr10 (Nat.lt_of_lt_of_eq (by decide) (rfl : 14 = _)) ?_)
  intro w11 hq11 hg11 hz11
  have hr11 : RowV w11 N3 30 (lcs s t c a 5 (5 + n) (5 + n + t) (5 + n + t + c) (5 + n + t + c + a) (5 + n + t + c + a + 1) 0 0 (n * 6) (n + t + 9)) := hq11
  have hp11 := hp10.keep hg11 (fun e => by injection e with e; omega)
  have hu11 := hu10.keep hg11 (fun e => by injection e with e; omega)
  have hB11 : Below N w w11 := below_grown hB10 hg11 (by omega) (by omega)
  clear d9 hq11 hr10 hp10 hu10 hB10 hg11
  have d10 := hr11.cell (i := 9) rfl
  have d13 := hr11.cell (i := 13) rfl
  go_wp2_with ((with_reducible refine at_store 3 ?_); refine store_field rfl _ _ rfl N3 10 (5 + n + t + c + a + 1 + (n + t + 9)) rfl rfl hr11 (Nat.lt_of_lt_of_eq (by decide) (rfl : 14 = _)) ?_)
  intro w12 hq12 hg12 hz12
  have hr12 : RowV w12 N3 30 (lcs s t c a 5 (5 + n) (5 + n + t) (5 + n + t + c) (5 + n + t + c + a) (5 + n + t + c + a + 1) (5 + n + t + c + a + 1 + (n + t + 9)) 0 (n * 6) (n + t + 9)) := hq12
  have hp12 := hp11.keep hg12 (fun e => by injection e with e; omega)
  have hu12 := hu11.keep hg12 (fun e => by injection e with e; omega)
  have hB12 : Below N w w12 := below_grown hB11 hg12 (by omega) (by omega)
  clear d10 d13 hq12 hr11 hp11 hu11 hB11 hg12
  have d11 := hr12.cell (i := 10) rfl
  have c0 := hp12.cell (i := 0) rfl
  go_wp2_with ((with_reducible refine at_store 3 ?_); refine store_field rfl _ _ rfl N3 11 (5 + n + t + c + a + 1 + (n + t + 9) + s) rfl rfl hr12 (Nat.lt_of_lt_of_eq (by decide) (rfl : 14 = _)) ?_)
  intro w13 hq13 hg13 hz13
  have hr13 : RowV w13 N3 30 (lcs s t c a 5 (5 + n) (5 + n + t) (5 + n + t + c) (5 + n + t + c + a) (5 + n + t + c + a + 1) (5 + n + t + c + a + 1 + (n + t + 9)) (5 + n + t + c + a + 1 + (n + t + 9) + s) (n * 6) (n + t + 9)) := hq13
  have hp13 := hp12.keep hg13 (fun e => by injection e with e; omega)
  have hu13 := hu12.keep hg13 (fun e => by injection e with e; omega)
  have hB13 : Below N w w13 := below_grown hB12 hg13 (by omega) (by omega)
  clear d11 c0 hq13 hr12 hp12 hu12 hB12 hg13
  go_wp2_with (first
    | ((with_reducible refine at_load 30 ?_); refine load_lay rfl _ rfl N3 rfl hr13 ?_)
    | ((with_reducible refine at_store 30 ?_); refine store_lay rfl _ _ rfl N1 _ _ _ _ _ _ _ _ _ _ _ _ _ _ rfl rfl hu13 rfl ?_))
  intro w14 hr14 hg14 hz14
  go_wp2_with fail
  obtain rfl := Hn.out
  exact bodyPost_ret (results_cell_tmp (fn := Try.f32) rfl _ _ N1 30 _ (0, 0) _ rfl (.int .i64 0) rfl hr14 Try.underlying30 rfl (lcs_size _ _ _ _ _ _ _ _ _ _ _ _ _ _)) rfl ⟨rfl, by rw [hN]; exact below_grown hB13 hg14 (by omega) (by omega)⟩
end Go.Proofs.Ytgkmbnmelepenaa
namespace Go.Proofs.Ytgkmbnmelepenaa
open Go.RowKit
set_option linter.unusedVariables false

set_option maxRecDepth 100000 in
set_option maxHeartbeats 400000 in
theorem phome_any (w : World) (s t c a x1 x2 x3 x4 x5 x6 x7 x8 x9 x10 at_ : Int) :
    Calls Try.prog 42 #[.agg (lcs s t c a x1 x2 x3 x4 x5 x6 x7 x8 x9 x10).toArray, .int .i64 at_] w fun e w' => e = .returned (.bool (decide (2 ≤ at_ ∧ at_ < x5))) ∧ Below w.heap.size w w' := by
  go_enter Try.func42, Try.ntmps42
  go_wp2_with ((with_reducible refine at_box 30 ?_); refine wpList_box_rowV rfl 30 _ rfl (lcs s t c a x1 x2 x3 x4 x5 x6 x7 x8 x9 x10) rfl ?_)
  intro w1 hr1 hb1 hz1
  have c8 := hr1.cell (i := 8) rfl
  by_cases h2 : 2 ≤ at_
  · have h2' := h2
    by_cases h5 : at_ < x5
    · have h5' := h5
      go_wp2_with fail
      go_ret
      exact ⟨by rw [decide_eq_true ⟨h2, h5⟩]; rfl, hb1⟩
    · have h5' : x5 ≤ at_ := by omega
      go_wp2_with fail
      go_ret
      exact ⟨by rw [decide_eq_false (by omega)]; rfl, hb1⟩
  · have h2' : at_ < 2 := by omega
    go_wp2_with fail
    go_ret
    exact ⟨by rw [decide_eq_false (by omega)]; rfl, hb1⟩

end Go.Proofs.Ytgkmbnmelepenaa
namespace Go.Proofs.Ytgkmbnmelepenaa
open Go.RowKit
set_option linter.unusedVariables false

/-- The names of the parts, and none. -/
inductive Nm where | no | super_ | state_ | map_ | classes_ | index_ | text_ | clip_ | audit_ | head_ | body_ | slot_
  deriving DecidableEq
def Nm.b : Nm → ByteArray
  | .no => ⟨#[]⟩
  | .super_ => ⟨#[115, 117, 112, 101, 114]⟩
  | .state_ => ⟨#[115, 116, 97, 116, 101]⟩
  | .map_ => ⟨#[109, 97, 112]⟩
  | .classes_ => ⟨#[99, 108, 97, 115, 115, 101, 115]⟩
  | .index_ => ⟨#[105, 110, 100, 101, 120]⟩
  | .text_ => ⟨#[116, 101, 120, 116]⟩
  | .clip_ => ⟨#[99, 108, 105, 112]⟩
  | .audit_ => ⟨#[97, 117, 100, 105, 116]⟩
  | .head_ => ⟨#[104, 101, 97, 100]⟩
  | .body_ => ⟨#[98, 111, 100, 121]⟩
  | .slot_ => ⟨#[115, 108, 111, 116]⟩
def Nm.v (n : Nm) : Value := .string n.b
/-- Where a sector stands, by where the parts begin. -/
def partN (x2 x3 x4 x5 x6 x7 x8 at_ : Int) : Nm :=
  if at_ < 0 then .no else if x8 ≤ at_ then .no else if at_ < 2 then .super_ else if at_ < 3 then .state_ else if at_ < 4 then .map_ else if at_ < 5 then .classes_ else
  if at_ < x2 then .index_ else if at_ < x3 then .text_ else if at_ < x4 then .clip_ else if at_ < x5 then .audit_ else if at_ < x6 then .head_ else if at_ < x7 then .body_ else .slot_

end Go.Proofs.Ytgkmbnmelepenaa
namespace Go.Proofs.Ytgkmbnmelepenaa
open Go.RowKit
set_option linter.unusedVariables false

def nms (l : List Nm) : List Value := l.map fun n => .string n.b
theorem nms_length (l : List Nm) : (nms l).length = l.length := by simp [nms]
theorem nms_append (l m : List Nm) : nms (l ++ m) = nms l ++ nms m := by simp [nms]
theorem nms_get {l : List Nm} {i : Nat} {n : Nm} (h : l[i]? = some n) : (nms l)[i]? = some (.string n.b) := by simp [nms, h]
theorem nms_one (l : List Nm) : ∀ u ∈ nms l, u.oneCell' = true := by
  intro u hu
  obtain ⟨x, _, rfl⟩ := List.mem_map.1 hu
  rfl
theorem Nm.b_inj {m n : Nm} (h : m.b.toList = n.b.toList) : m = n := by
  rw [ByteArray.toList_eq, ByteArray.toList_eq] at h
  cases m <;> cases n <;> first | rfl | (simp [Nm.b] at h)
theorem infoStr : (Try.prog.info? 9).map (fun i => (i.zero, i.size, i.bytes)) = some (some (.string ⟨#[]⟩), 1, 16) := by kernel_rfl

theorem append_name {w1 wr : World} {ops : Array Oper} {rest : List Oper} {o : Oper} {A : Act} {Q : Exit → Act → World → Prop} (nm : Nm) (hgd : o.guard = none) (s x : Operand) (ho : o.op = .call { callee := .builtin .append, args := #[s, x], argTypes := #[89, 89] })
    (base : Nat) (v : Value) (n : Nat) (l : List Nm) (hs : A.eval s = v) (hown : wr.ownsRow base 9 1 v n (nms l)) (hx : A.eval x = .slice (some ⟨wr.heap.size, 0, none⟩) 1 1) (hb : Below base w1 wr) (hbs : base ≤ wr.heap.size) (hn : n ≤ 10000)
    (h : ∀ v' w', w'.ownsRow base 9 1 v' (n + 1) (nms (l ++ [nm])) → Below base w1 w' → wpList Try.prog ops Q rest (A.put o.dst v') w') : wpList Try.prog ops Q (o :: rest) A (wr.alloc (.cells #[.string nm.b] 9)) := by
  obtain ⟨i0, hi0, hz0, hz1, hz2⟩ := info_parts infoStr
  have ho' := hown.alloc (.cells #[Value.string nm.b] 9)
  have hl' := (LiesV.lit wr #[Value.string nm.b] 9 (wr.heap.size + 1) (by omega)).cells rfl
  have hb'' := hb.alloc hbs (.cells #[Value.string nm.b] 9)
  have hs'' : base ≤ (wr.alloc (.cells #[Value.string nm.b] 9)).heap.size := by simp; omega
  refine wpList_append_own _ hgd s x 89 ho base 9 i0 (.string ⟨#[]⟩) 1 16 Try.underlying89 hi0 hz0 hz1 hz2 rfl (by decide) v n _ hs ho' ⟨wr.heap.size, 0, none⟩ 1 1 [.string nm.b] hx rfl hl' (nms_one [nm]) (by unfold maxLen; omega) (by omega) hs'' ?_
  intro v2 w2 hown3 hg3 _
  refine h v2 w2 (by rw [nms_append]; exact hown3) (hb''.grown hg3 hs'' (own_ge ho'))

def heads : List Nm := [.super_, .super_, .state_, .map_, .classes_]
/-- The parts, sector by sector. -/
def partsL (n t c a s : Nat) : List Nm :=
  heads ++ List.replicate n .index_ ++ List.replicate t .text_ ++ List.replicate c .clip_ ++ List.replicate a .audit_ ++ [.head_] ++ List.replicate (n + 9 + t) .body_ ++ List.replicate s .slot_
theorem rep_snoc (L : List Nm) (k : Nat) (x : Nm) : L ++ List.replicate k x ++ [x] = L ++ List.replicate (k + 1) x := by
  rw [List.append_assoc, List.replicate_succ', ]

set_option maxRecDepth 100000 in
set_option maxHeartbeats 4000000 in
theorem pparts_any (w : World) (s t c a n : Nat) (hs1 : 1 ≤ s) (hs2 : s ≤ 200) (ht : t ≤ 40) (hc : c ≤ 40) (ha : a ≤ 80) (hn : (2 * (s : Int) + 5) / 6 = (n : Int)) :
    Calls Try.prog 46 #[.agg (pc s t c a).toArray] w fun e w' =>
      ∃ A cap, e = .returned (.slice A (partsL n t c a s).length cap) ∧ (partsL n t c a s).length ≤ cap ∧ cap ≤ maxLen ∧ LiesV w' w'.heap.size A (nms (partsL n t c a s)) ∧ Below w.heap.size w w' := by
  have hn2 : n ≤ 67 := by omega
  have Hn := Lib.hid hn
  clear hn
  go_enter Try.func46, Try.ntmps46
  go_wp2_with ((with_reducible refine at_box 28 ?_); refine wpList_box_rowV rfl 28 _ rfl (pc s t c a) rfl ?_)
  intro w1 hr1 hb1 hz1
  have hB0 := Lib.hid hb1
  clear hb1
  generalize hN : w.heap.size = N at *
  have Hr1 := Lib.hid hr1
  have ho1 := World.ownsRow_lit (base := N + 1) (e := 9) (size := 1) w1 #[.string (Nm.b .super_), .string (Nm.b .super_), .string (Nm.b .state_), .string (Nm.b .map_), .string (Nm.b .classes_)] 5 (by omega) (by decide) rfl
  have hb2 : Below (N + 1) w1 (w1.alloc (.cells #[.string (Nm.b .super_), .string (Nm.b .super_), .string (Nm.b .state_), .string (Nm.b .map_), .string (Nm.b .classes_)] 9)) := (Below.refl _ _).alloc (by omega) _
  have hr2 : RowV (w1.alloc (.cells #[.string (Nm.b .super_), .string (Nm.b .super_), .string (Nm.b .state_), .string (Nm.b .map_), .string (Nm.b .classes_)] 9)) N 28 (pc s t c a) := hr1.alloc _
  go_wp2_with ((with_reducible refine at_load 28 ?_); refine load_plan rfl _ rfl N rfl hr2 ?_)
  have hq := rindex_any (w1.alloc (.cells #[.string (Nm.b .super_), .string (Nm.b .super_), .string (Nm.b .state_), .string (Nm.b .map_), .string (Nm.b .classes_)] 9)) (s : Int) t c a (by omega) (by omega)
  rw [Hn.out] at hq
  refine hq.mono ?_
  rintro e w3 ⟨rfl, hb3⟩
  have HO : Hid (w3.ownsRow (N + 1) 9 1 (.slice (some ⟨w1.heap.size, 0, none⟩) 5 5) 5 (nms heads)) := own_below ho1 hb3
  have HB : Hid (Below (N + 1) w1 w3) := hb2.trans (hb3.mono (by simp; omega))
  clear hq ho1 hb2 hr2 hb3 hr1
  rw [hz1] at HO
  obtain ⟨nb, hnb⟩ : ∃ nb, nb = n + 9 + t := ⟨_, rfl⟩
  have Hnb := Lib.hid hnb
  have hnb1 : (nb : Int) = (n : Int) + 9 + (t : Int) := by omega
  have Hnb1 := Lib.hid hnb1
  have hnb2 : nb ≤ 116 := by omega
  clear hnb hnb1
  obtain ⟨L0, hL0⟩ : ∃ L, L = heads := ⟨_, rfl⟩
  rw [← hL0] at HO
  have HL0 := Lib.hid hL0
  clear hL0
  obtain ⟨m0, hm0⟩ : ∃ m, m = 5 := ⟨_, rfl⟩
  have HO : Hid (w3.ownsRow (N + 1) 9 1 (.slice (some ⟨N + 1, 0, none⟩) 5 5) m0 (nms L0)) := by rw [hm0]; exact HO.out
  have hb0 : m0 ≤ 5 := by omega
  clear hm0
  go_wp2_with fail
  go_loopw [3, 5] (fun v i W => ∃ k : Nat, k ≤ n ∧ i = .int .i64 k ∧ Hid (W.ownsRow (N + 1) 9 1 v (m0 + k) (nms (L0 ++ List.replicate k .index_))) ∧ Hid (Below (N + 1) w1 W)) (fun _ i _ => n - (intOf i).toNat)
  case atStart => exact ⟨0, Nat.zero_le _, rfl, Lib.hid (by rw [List.replicate_zero, List.append_nil]; exact HO.out), HB⟩
  case round =>
    clear HO HB
    obtain ⟨k0, hk, hi, HO, HB⟩ := hrel
    subst hi
    by_cases hlt : k0 < n
    · have hlt' : (k0 : Int) < (n : Int) := by have := Hnb1.out; omega
      have hsz : N + 1 ≤ wr.heap.size := by have := HB.out.size; omega
      have hmk : m0 + k0 ≤ 10000 := by omega
      go_wp2_with (at_builtin; refine append_name .index_ rfl _ _ rfl (N + 1) _ (m0 + k0) _ rfl HO.out rfl HB.out hsz hmk ?_)
      intro v2 w2 hown hbel
      have HO2 : Hid (w2.ownsRow (N + 1) 9 1 v2 (m0 + (k0 + 1)) (nms (L0 ++ List.replicate (k0 + 1) .index_))) := by rw [List.replicate_succ']; exact hown
      have HB2 := Lib.hid hbel
      clear hown hbel HO HB hsz hmk
      go_wp2_with fail
      go_roundw
      case rel => exact ⟨k0 + 1, by omega, by go_num, HO2, HB2⟩
      case measure => simp [intOf]; omega
    have hkc : k0 = n := by omega
    have hlt' : (n : Int) ≤ (k0 : Int) := by have := Hnb1.out; omega
    have hd0 : decide (k0 < n) = false := decide_eq_false hlt
    rw [hkc] at HO
    obtain ⟨L1, hL⟩ : ∃ L, L = L0 ++ List.replicate n .index_ := ⟨_, rfl⟩
    obtain ⟨m1, hm⟩ : ∃ m, m = m0 + n := ⟨_, rfl⟩
    rw [← hL, ← hm] at HO
    have HL1 := Lib.hid hL
    have hb1 : m1 ≤ 72 := by omega
    clear hL hm hkc hk hlt
    obtain ⟨wq1, hwq⟩ : ∃ wq, wq = wr := ⟨_, rfl⟩
    subst hwq
    go_wp2_with fail
    go_loopw [3, 6] (fun v i W => ∃ k : Nat, k ≤ t ∧ i = .int .i64 k ∧ Hid (W.ownsRow (N + 1) 9 1 v (m1 + k) (nms (L1 ++ List.replicate k .text_))) ∧ Hid (Below (N + 1) w1 W)) (fun _ i _ => t - (intOf i).toNat)
    case atStart => exact ⟨0, Nat.zero_le _, rfl, Lib.hid (by rw [List.replicate_zero, List.append_nil]; exact HO.out), HB⟩
    case round =>
      clear HO HB
      obtain ⟨k1, hk, hi, HO, HB⟩ := hrel
      subst hi
      have hcell := (HB.out.cell (p := ⟨N, 1, none⟩) (Nat.lt_succ_self N)).trans (Hr1.out.cell (i := 1) rfl)
      by_cases hlt : k1 < t
      · have hlt' : (k1 : Int) < (t : Int) := by have := Hnb1.out; omega
        have hsz : N + 1 ≤ wr.heap.size := by have := HB.out.size; omega
        have hmk : m1 + k1 ≤ 10000 := by omega
        go_wp2_with (at_builtin; refine append_name .text_ rfl _ _ rfl (N + 1) _ (m1 + k1) _ rfl HO.out rfl HB.out hsz hmk ?_)
        intro v2 w2 hown hbel
        have HO2 : Hid (w2.ownsRow (N + 1) 9 1 v2 (m1 + (k1 + 1)) (nms (L1 ++ List.replicate (k1 + 1) .text_))) := by rw [List.replicate_succ']; exact hown
        have HB2 := Lib.hid hbel
        clear hown hbel HO HB hsz hmk
        go_wp2_with fail
        go_roundw
        case rel => exact ⟨k1 + 1, by omega, by go_num, HO2, HB2⟩
        case measure => simp [intOf]; omega
      have hkc : k1 = t := by omega
      have hlt' : (t : Int) ≤ (k1 : Int) := by have := Hnb1.out; omega
      have hd1 : decide (k1 < t) = false := decide_eq_false hlt
      rw [hkc] at HO
      obtain ⟨L2, hL⟩ : ∃ L, L = L1 ++ List.replicate t .text_ := ⟨_, rfl⟩
      obtain ⟨m2, hm⟩ : ∃ m, m = m1 + t := ⟨_, rfl⟩
      rw [← hL, ← hm] at HO
      have HL2 := Lib.hid hL
      have hb2 : m2 ≤ 112 := by omega
      clear hL hm hkc hk hlt
      obtain ⟨wq2, hwq⟩ : ∃ wq, wq = wr := ⟨_, rfl⟩
      subst hwq
      go_wp2_with fail
      go_loopw [3, 7] (fun v i W => ∃ k : Nat, k ≤ c ∧ i = .int .i64 k ∧ Hid (W.ownsRow (N + 1) 9 1 v (m2 + k) (nms (L2 ++ List.replicate k .clip_))) ∧ Hid (Below (N + 1) w1 W)) (fun _ i _ => c - (intOf i).toNat)
      case atStart => exact ⟨0, Nat.zero_le _, rfl, Lib.hid (by rw [List.replicate_zero, List.append_nil]; exact HO.out), HB⟩
      case round =>
        clear HO HB
        obtain ⟨k2, hk, hi, HO, HB⟩ := hrel
        subst hi
        have hcell := (HB.out.cell (p := ⟨N, 2, none⟩) (Nat.lt_succ_self N)).trans (Hr1.out.cell (i := 2) rfl)
        by_cases hlt : k2 < c
        · have hlt' : (k2 : Int) < (c : Int) := by have := Hnb1.out; omega
          have hsz : N + 1 ≤ wr.heap.size := by have := HB.out.size; omega
          have hmk : m2 + k2 ≤ 10000 := by omega
          go_wp2_with (at_builtin; refine append_name .clip_ rfl _ _ rfl (N + 1) _ (m2 + k2) _ rfl HO.out rfl HB.out hsz hmk ?_)
          intro v2 w2 hown hbel
          have HO2 : Hid (w2.ownsRow (N + 1) 9 1 v2 (m2 + (k2 + 1)) (nms (L2 ++ List.replicate (k2 + 1) .clip_))) := by rw [List.replicate_succ']; exact hown
          have HB2 := Lib.hid hbel
          clear hown hbel HO HB hsz hmk
          go_wp2_with fail
          go_roundw
          case rel => exact ⟨k2 + 1, by omega, by go_num, HO2, HB2⟩
          case measure => simp [intOf]; omega
        have hkc : k2 = c := by omega
        have hlt' : (c : Int) ≤ (k2 : Int) := by have := Hnb1.out; omega
        have hd2 : decide (k2 < c) = false := decide_eq_false hlt
        rw [hkc] at HO
        obtain ⟨L3, hL⟩ : ∃ L, L = L2 ++ List.replicate c .clip_ := ⟨_, rfl⟩
        obtain ⟨m3, hm⟩ : ∃ m, m = m2 + c := ⟨_, rfl⟩
        rw [← hL, ← hm] at HO
        have HL3 := Lib.hid hL
        have hb3 : m3 ≤ 152 := by omega
        clear hL hm hkc hk hlt
        obtain ⟨wq3, hwq⟩ : ∃ wq, wq = wr := ⟨_, rfl⟩
        subst hwq
        go_wp2_with fail
        go_loopw [3, 8] (fun v i W => ∃ k : Nat, k ≤ a ∧ i = .int .i64 k ∧ Hid (W.ownsRow (N + 1) 9 1 v (m3 + k) (nms (L3 ++ List.replicate k .audit_))) ∧ Hid (Below (N + 1) w1 W)) (fun _ i _ => a - (intOf i).toNat)
        case atStart => exact ⟨0, Nat.zero_le _, rfl, Lib.hid (by rw [List.replicate_zero, List.append_nil]; exact HO.out), HB⟩
        case round =>
          clear HO HB
          obtain ⟨k3, hk, hi, HO, HB⟩ := hrel
          subst hi
          have hcell := (HB.out.cell (p := ⟨N, 3, none⟩) (Nat.lt_succ_self N)).trans (Hr1.out.cell (i := 3) rfl)
          by_cases hlt : k3 < a
          · have hlt' : (k3 : Int) < (a : Int) := by have := Hnb1.out; omega
            have hsz : N + 1 ≤ wr.heap.size := by have := HB.out.size; omega
            have hmk : m3 + k3 ≤ 10000 := by omega
            go_wp2_with (at_builtin; refine append_name .audit_ rfl _ _ rfl (N + 1) _ (m3 + k3) _ rfl HO.out rfl HB.out hsz hmk ?_)
            intro v2 w2 hown hbel
            have HO2 : Hid (w2.ownsRow (N + 1) 9 1 v2 (m3 + (k3 + 1)) (nms (L3 ++ List.replicate (k3 + 1) .audit_))) := by rw [List.replicate_succ']; exact hown
            have HB2 := Lib.hid hbel
            clear hown hbel HO HB hsz hmk
            go_wp2_with fail
            go_roundw
            case rel => exact ⟨k3 + 1, by omega, by go_num, HO2, HB2⟩
            case measure => simp [intOf]; omega
          have hkc : k3 = a := by omega
          have hlt' : (a : Int) ≤ (k3 : Int) := by have := Hnb1.out; omega
          have hd3 : decide (k3 < a) = false := decide_eq_false hlt
          rw [hkc] at HO
          obtain ⟨L4, hL⟩ : ∃ L, L = L3 ++ List.replicate a .audit_ := ⟨_, rfl⟩
          obtain ⟨m4, hm⟩ : ∃ m, m = m3 + a := ⟨_, rfl⟩
          rw [← hL, ← hm] at HO
          have HL4 := Lib.hid hL
          have hb4 : m4 ≤ 232 := by omega
          clear hL hm hkc hk hlt
          obtain ⟨wq4, hwq⟩ : ∃ wq, wq = wr := ⟨_, rfl⟩
          subst hwq
          have hsz : N + 1 ≤ wq4.heap.size := by have := HB.out.size; omega
          have hmk : m4 ≤ 10000 := by omega
          go_wp2_with (at_builtin; refine append_name .head_ rfl _ _ rfl (N + 1) _ m4 L4 rfl HO.out rfl HB.out hsz hmk ?_)
          intro v5 w5 hown5 hbel5
          clear HO HB
          obtain ⟨L5, hL⟩ : ∃ L, L = L4 ++ [.head_] := ⟨_, rfl⟩
          obtain ⟨m5, hm⟩ : ∃ m, m = m4 + 1 := ⟨_, rfl⟩
          rw [← hL, ← hm] at hown5
          have HO := Lib.hid hown5
          have HB := Lib.hid hbel5
          have HL5 := Lib.hid hL
          have hb5 : m5 ≤ 233 := by omega
          clear hown5 hbel5 hsz hmk hL hm
          go_wp2_with fail
          go_loopw [3, 9] (fun v i W => ∃ k : Nat, k ≤ nb ∧ i = .int .i64 k ∧ Hid (W.ownsRow (N + 1) 9 1 v (m5 + k) (nms (L5 ++ List.replicate k .body_))) ∧ Hid (Below (N + 1) w1 W)) (fun _ i _ => nb - (intOf i).toNat)
          case atStart => exact ⟨0, Nat.zero_le _, rfl, Lib.hid (by rw [List.replicate_zero, List.append_nil]; exact HO.out), HB⟩
          case round =>
            clear HO HB
            obtain ⟨k5, hk, hi, HO, HB⟩ := hrel
            subst hi
            have hcell := (HB.out.cell (p := ⟨N, 1, none⟩) (Nat.lt_succ_self N)).trans (Hr1.out.cell (i := 1) rfl)
            by_cases hlt : k5 < nb
            · have hlt' : (k5 : Int) < (n : Int) + 9 + (t : Int) := by have := Hnb1.out; omega
              have hsz : N + 1 ≤ wr.heap.size := by have := HB.out.size; omega
              have hmk : m5 + k5 ≤ 10000 := by omega
              go_wp2_with (at_builtin; refine append_name .body_ rfl _ _ rfl (N + 1) _ (m5 + k5) _ rfl HO.out rfl HB.out hsz hmk ?_)
              intro v2 w2 hown hbel
              have HO2 : Hid (w2.ownsRow (N + 1) 9 1 v2 (m5 + (k5 + 1)) (nms (L5 ++ List.replicate (k5 + 1) .body_))) := by rw [List.replicate_succ']; exact hown
              have HB2 := Lib.hid hbel
              clear hown hbel HO HB hsz hmk
              go_wp2_with fail
              go_roundw
              case rel => exact ⟨k5 + 1, by omega, by go_num, HO2, HB2⟩
              case measure => simp [intOf]; omega
            have hkc : k5 = nb := by omega
            have hlt' : (n : Int) + 9 + (t : Int) ≤ (k5 : Int) := by have := Hnb1.out; omega
            have hd5 : decide ((k5 : Int) < (n : Int) + 9 + (t : Int)) = false := decide_eq_false (by have := Hnb1.out; omega)
            rw [hkc] at HO
            obtain ⟨L6, hL⟩ : ∃ L, L = L5 ++ List.replicate nb .body_ := ⟨_, rfl⟩
            obtain ⟨m6, hm⟩ : ∃ m, m = m5 + nb := ⟨_, rfl⟩
            rw [← hL, ← hm] at HO
            have HL6 := Lib.hid hL
            have hb6 : m6 ≤ 349 := by omega
            clear hL hm hkc hk hlt
            obtain ⟨wq6, hwq⟩ : ∃ wq, wq = wr := ⟨_, rfl⟩
            subst hwq
            go_wp2_with fail
            go_loopw [3, 10] (fun v i W => ∃ k : Nat, k ≤ s ∧ i = .int .i64 k ∧ Hid (W.ownsRow (N + 1) 9 1 v (m6 + k) (nms (L6 ++ List.replicate k .slot_))) ∧ Hid (Below (N + 1) w1 W)) (fun _ i _ => s - (intOf i).toNat)
            case atStart => exact ⟨0, Nat.zero_le _, rfl, Lib.hid (by rw [List.replicate_zero, List.append_nil]; exact HO.out), HB⟩
            case round =>
              clear HO HB
              obtain ⟨k6, hk, hi, HO, HB⟩ := hrel
              subst hi
              have hcell := (HB.out.cell (p := ⟨N, 0, none⟩) (Nat.lt_succ_self N)).trans (Hr1.out.cell (i := 0) rfl)
              by_cases hlt : k6 < s
              · have hlt' : (k6 : Int) < (s : Int) := by have := Hnb1.out; omega
                have hsz : N + 1 ≤ wr.heap.size := by have := HB.out.size; omega
                have hmk : m6 + k6 ≤ 10000 := by omega
                go_wp2_with (at_builtin; refine append_name .slot_ rfl _ _ rfl (N + 1) _ (m6 + k6) _ rfl HO.out rfl HB.out hsz hmk ?_)
                intro v2 w2 hown hbel
                have HO2 : Hid (w2.ownsRow (N + 1) 9 1 v2 (m6 + (k6 + 1)) (nms (L6 ++ List.replicate (k6 + 1) .slot_))) := by rw [List.replicate_succ']; exact hown
                have HB2 := Lib.hid hbel
                clear hown hbel HO HB hsz hmk
                go_wp2_with fail
                go_roundw
                case rel => exact ⟨k6 + 1, by omega, by go_num, HO2, HB2⟩
                case measure => simp [intOf]; omega
              have hkc : k6 = s := by omega
              have hlt' : (s : Int) ≤ (k6 : Int) := by have := Hnb1.out; omega
              have hd6 : decide (k6 < s) = false := decide_eq_false hlt
              rw [hkc] at HO
              obtain ⟨L7, hL⟩ : ∃ L, L = L6 ++ List.replicate s .slot_ := ⟨_, rfl⟩
              obtain ⟨m7, hm⟩ : ∃ m, m = m6 + s := ⟨_, rfl⟩
              rw [← hL, ← hm] at HO
              have HL7 := Lib.hid hL
              have hb7 : m7 ≤ 549 := by omega
              clear hL hm hkc hk hlt
              obtain ⟨wq7, hwq⟩ : ∃ wq, wq = wr := ⟨_, rfl⟩
              subst hwq
              go_wp2_with fail
              have e7 : L7 = partsL n t c a s := by rw [HL7.out, HL6.out, HL5.out, HL4.out, HL3.out, HL2.out, HL1.out, HL0.out, Hnb.out]; rfl
              have ho := HO.out
              rw [e7] at ho
              obtain ⟨A, cap, hv, hm, hle, hmx, hl⟩ := LiesV.of_own ho
              rw [nms_length] at hv hm
              subst hv
              go_ret
              exact ⟨A, cap, rfl, by omega, hmx, hl, by rw [hN]; exact hB0.out.trans (HB.out.mono (by omega))⟩
end Go.Proofs.Ytgkmbnmelepenaa
namespace Go.Proofs.Ytgkmbnmelepenaa
open Go.RowKit
set_option linter.unusedVariables false

/-- The part of a sector, as a plan has it. -/
def pN (n t c a s : Nat) (at_ : Int) : Nm := partN (5 + (n : Int)) (5 + (n : Int) + (t : Int)) (5 + (n : Int) + (t : Int) + (c : Int)) (5 + (n : Int) + (t : Int) + (c : Int) + (a : Int)) (5 + (n : Int) + (t : Int) + (c : Int) + (a : Int) + 1) (5 + (n : Int) + (t : Int) + (c : Int) + (a : Int) + 1 + ((n : Int) + (t : Int) + 9)) (5 + (n : Int) + (t : Int) + (c : Int) + (a : Int) + 1 + ((n : Int) + (t : Int) + 9) + (s : Int)) at_
theorem partsL_length (n t c a s : Nat) : (partsL n t c a s).length = 5 + n + t + c + a + 1 + (n + 9 + t) + s := by simp [partsL, heads]; omega
theorem pN_super_ {n t c a s : Nat} {at_ : Int} (h1 : 0 ≤ at_) (h2 : at_ < 2) : pN n t c a s at_ = .super_ := by
  rw [pN, partN, if_neg (by omega), if_neg (by omega), if_pos (by omega)]
theorem pN_state_ {n t c a s : Nat} {at_ : Int} (h1 : 2 ≤ at_) (h2 : at_ < 3) : pN n t c a s at_ = .state_ := by
  rw [pN, partN, if_neg (by omega), if_neg (by omega), if_neg (by omega), if_pos (by omega)]
theorem pN_map_ {n t c a s : Nat} {at_ : Int} (h1 : 3 ≤ at_) (h2 : at_ < 4) : pN n t c a s at_ = .map_ := by
  rw [pN, partN, if_neg (by omega), if_neg (by omega), if_neg (by omega), if_neg (by omega), if_pos (by omega)]
theorem pN_classes_ {n t c a s : Nat} {at_ : Int} (h1 : 4 ≤ at_) (h2 : at_ < 5) : pN n t c a s at_ = .classes_ := by
  rw [pN, partN, if_neg (by omega), if_neg (by omega), if_neg (by omega), if_neg (by omega), if_neg (by omega), if_pos (by omega)]
theorem pN_index_ {n t c a s : Nat} {at_ : Int} (h1 : 5 ≤ at_) (h2 : at_ < 5 + (n : Int)) : pN n t c a s at_ = .index_ := by
  rw [pN, partN, if_neg (by omega), if_neg (by omega), if_neg (by omega), if_neg (by omega), if_neg (by omega), if_neg (by omega), if_pos (by omega)]
theorem pN_text_ {n t c a s : Nat} {at_ : Int} (h1 : 5 + (n : Int) ≤ at_) (h2 : at_ < 5 + (n : Int) + (t : Int)) : pN n t c a s at_ = .text_ := by
  rw [pN, partN, if_neg (by omega), if_neg (by omega), if_neg (by omega), if_neg (by omega), if_neg (by omega), if_neg (by omega), if_neg (by omega), if_pos (by omega)]
theorem pN_clip_ {n t c a s : Nat} {at_ : Int} (h1 : 5 + (n : Int) + (t : Int) ≤ at_) (h2 : at_ < 5 + (n : Int) + (t : Int) + (c : Int)) : pN n t c a s at_ = .clip_ := by
  rw [pN, partN, if_neg (by omega), if_neg (by omega), if_neg (by omega), if_neg (by omega), if_neg (by omega), if_neg (by omega), if_neg (by omega), if_neg (by omega), if_pos (by omega)]
theorem pN_audit_ {n t c a s : Nat} {at_ : Int} (h1 : 5 + (n : Int) + (t : Int) + (c : Int) ≤ at_) (h2 : at_ < 5 + (n : Int) + (t : Int) + (c : Int) + (a : Int)) : pN n t c a s at_ = .audit_ := by
  rw [pN, partN, if_neg (by omega), if_neg (by omega), if_neg (by omega), if_neg (by omega), if_neg (by omega), if_neg (by omega), if_neg (by omega), if_neg (by omega), if_neg (by omega), if_pos (by omega)]
theorem pN_head_ {n t c a s : Nat} {at_ : Int} (h1 : 5 + (n : Int) + (t : Int) + (c : Int) + (a : Int) ≤ at_) (h2 : at_ < 5 + (n : Int) + (t : Int) + (c : Int) + (a : Int) + 1) : pN n t c a s at_ = .head_ := by
  rw [pN, partN, if_neg (by omega), if_neg (by omega), if_neg (by omega), if_neg (by omega), if_neg (by omega), if_neg (by omega), if_neg (by omega), if_neg (by omega), if_neg (by omega), if_neg (by omega), if_pos (by omega)]
theorem pN_body_ {n t c a s : Nat} {at_ : Int} (h1 : 5 + (n : Int) + (t : Int) + (c : Int) + (a : Int) + 1 ≤ at_) (h2 : at_ < 5 + (n : Int) + (t : Int) + (c : Int) + (a : Int) + 1 + ((n : Int) + (t : Int) + 9)) : pN n t c a s at_ = .body_ := by
  rw [pN, partN, if_neg (by omega), if_neg (by omega), if_neg (by omega), if_neg (by omega), if_neg (by omega), if_neg (by omega), if_neg (by omega), if_neg (by omega), if_neg (by omega), if_neg (by omega), if_neg (by omega), if_pos (by omega)]
theorem pN_slot_ {n t c a s : Nat} {at_ : Int} (h1 : 5 + (n : Int) + (t : Int) + (c : Int) + (a : Int) + 1 + ((n : Int) + (t : Int) + 9) ≤ at_) (h2 : at_ < 5 + (n : Int) + (t : Int) + (c : Int) + (a : Int) + 1 + ((n : Int) + (t : Int) + 9) + (s : Int)) : pN n t c a s at_ = .slot_ := by
  rw [pN, partN, if_neg (by omega), if_neg (by omega), if_neg (by omega), if_neg (by omega), if_neg (by omega), if_neg (by omega), if_neg (by omega), if_neg (by omega), if_neg (by omega), if_neg (by omega), if_neg (by omega), if_neg (by omega)]
theorem pN_low {n t c a s : Nat} {at_ : Int} (h : at_ < 0) : pN n t c a s at_ = .no := by rw [pN, partN, if_pos h]
theorem pN_high {n t c a s : Nat} {at_ : Int} (h : 5 + (n : Int) + (t : Int) + (c : Int) + (a : Int) + 1 + ((n : Int) + (t : Int) + 9) + (s : Int) ≤ at_) : pN n t c a s at_ = .no := by rw [pN, partN, if_neg (by omega), if_pos h]
theorem rep_right {L : List Nm} {k j : Nat} {x : Nm} (h1 : L.length ≤ j) (h2 : j < L.length + k) : (L ++ List.replicate k x)[j]? = some x := by
  rw [List.getElem?_append_right h1, List.getElem?_replicate_of_lt (by omega)]
theorem partsL_get (n t c a s : Nat) {j : Nat} (hj : j < (partsL n t c a s).length) : (partsL n t c a s)[j]? = some (pN n t c a s j) := by
  rw [partsL_length] at hj
  rw [partsL]
  have l1 : (heads ++ List.replicate n .index_ : List Nm).length = 5 + n := by simp [heads]; omega
  have l2 : (heads ++ List.replicate n .index_ ++ List.replicate t .text_ : List Nm).length = 5 + n + t := by simp [heads]; omega
  have l3 : (heads ++ List.replicate n .index_ ++ List.replicate t .text_ ++ List.replicate c .clip_ : List Nm).length = 5 + n + t + c := by simp [heads]; omega
  have l4 : (heads ++ List.replicate n .index_ ++ List.replicate t .text_ ++ List.replicate c .clip_ ++ List.replicate a .audit_ : List Nm).length = 5 + n + t + c + a := by simp [heads]; omega
  have l5 : (heads ++ List.replicate n .index_ ++ List.replicate t .text_ ++ List.replicate c .clip_ ++ List.replicate a .audit_ ++ [.head_] : List Nm).length = 5 + n + t + c + a + 1 := by simp [heads]; omega
  have l6 : (heads ++ List.replicate n .index_ ++ List.replicate t .text_ ++ List.replicate c .clip_ ++ List.replicate a .audit_ ++ [.head_] ++ List.replicate (n + 9 + t) .body_ : List Nm).length = 5 + n + t + c + a + 1 + (n + 9 + t) := by simp [heads]; omega
  by_cases k7 : 5 + n + t + c + a + 1 + (n + 9 + t) ≤ j
  · rw [rep_right (by rw [l6]; omega) (by rw [l6]; omega), pN_slot_ (by omega) (by omega)]
  rw [List.getElem?_append_left (by rw [l6]; omega)]
  by_cases k6 : 5 + n + t + c + a + 1 ≤ j
  · rw [rep_right (by rw [l5]; omega) (by rw [l5]; omega), pN_body_ (by omega) (by omega)]
  rw [List.getElem?_append_left (by rw [l5]; omega)]
  by_cases k5 : 5 + n + t + c + a ≤ j
  · rw [List.getElem?_append_right (by rw [l4]; omega), l4, show j - (5 + n + t + c + a) = 0 by omega, pN_head_ (by omega) (by omega)]; rfl
  rw [List.getElem?_append_left (by rw [l4]; omega)]
  by_cases k4 : 5 + n + t + c ≤ j
  · rw [rep_right (by rw [l3]; omega) (by rw [l3]; omega), pN_audit_ (by omega) (by omega)]
  rw [List.getElem?_append_left (by rw [l3]; omega)]
  by_cases k3 : 5 + n + t ≤ j
  · rw [rep_right (by rw [l2]; omega) (by rw [l2]; omega), pN_clip_ (by omega) (by omega)]
  rw [List.getElem?_append_left (by rw [l2]; omega)]
  by_cases k2 : 5 + n ≤ j
  · rw [rep_right (by rw [l1]; omega) (by rw [l1]; omega), pN_text_ (by omega) (by omega)]
  rw [List.getElem?_append_left (by rw [l1]; omega)]
  by_cases k1 : 5 ≤ j
  · rw [rep_right (by simp [heads]; omega) (by simp [heads]; omega), pN_index_ (by omega) (by omega)]
  rw [List.getElem?_append_left (by simp [heads]; omega)]
  rcases (by omega : j = 0 ∨ j = 1 ∨ j = 2 ∨ j = 3 ∨ j = 4) with rfl | rfl | rfl | rfl | rfl
  · rw [pN_super_ (by omega) (by omega)]; rfl
  · rw [pN_super_ (by omega) (by omega)]; rfl
  · rw [pN_state_ (by omega) (by omega)]; rfl
  · rw [pN_map_ (by omega) (by omega)]; rfl
  · rw [pN_classes_ (by omega) (by omega)]; rfl
/-- No earlier sector has the name of a later part. -/
theorem pN_ne {n t c a s : Nat} {x : Nm} {k : Nat} (hk : k ≤ (partsL n t c a s).length) (hx : ∀ j : Nat, j < k → pN n t c a s j ≠ x) : ∀ j m, j < k → (partsL n t c a s)[j]? = some m → m ≠ x := by
  intro j m hj hm
  rw [partsL_get n t c a s (by omega)] at hm
  injection hm with hm
  rw [← hm]
  exact hx j hj
theorem before_index_ (n t c a s : Nat) : ∀ j : Nat, j < 5 → pN n t c a s j ≠ .index_ := by
  intro j hj
  by_cases b_super_ : (j : Int) < 2
  · rw [pN_super_ (by omega) b_super_]; decide
  by_cases b_state_ : (j : Int) < 3
  · rw [pN_state_ (by omega) b_state_]; decide
  by_cases b_map_ : (j : Int) < 4
  · rw [pN_map_ (by omega) b_map_]; decide
  by_cases b_classes_ : (j : Int) < 5
  · rw [pN_classes_ (by omega) b_classes_]; decide
  omega
theorem before_text_ (n t c a s : Nat) : ∀ j : Nat, j < 5 + n → pN n t c a s j ≠ .text_ := by
  intro j hj
  by_cases b_super_ : (j : Int) < 2
  · rw [pN_super_ (by omega) b_super_]; decide
  by_cases b_state_ : (j : Int) < 3
  · rw [pN_state_ (by omega) b_state_]; decide
  by_cases b_map_ : (j : Int) < 4
  · rw [pN_map_ (by omega) b_map_]; decide
  by_cases b_classes_ : (j : Int) < 5
  · rw [pN_classes_ (by omega) b_classes_]; decide
  by_cases b_index_ : (j : Int) < 5 + (n : Int)
  · rw [pN_index_ (by omega) b_index_]; decide
  omega
theorem before_clip_ (n t c a s : Nat) : ∀ j : Nat, j < 5 + n + t → pN n t c a s j ≠ .clip_ := by
  intro j hj
  by_cases b_super_ : (j : Int) < 2
  · rw [pN_super_ (by omega) b_super_]; decide
  by_cases b_state_ : (j : Int) < 3
  · rw [pN_state_ (by omega) b_state_]; decide
  by_cases b_map_ : (j : Int) < 4
  · rw [pN_map_ (by omega) b_map_]; decide
  by_cases b_classes_ : (j : Int) < 5
  · rw [pN_classes_ (by omega) b_classes_]; decide
  by_cases b_index_ : (j : Int) < 5 + (n : Int)
  · rw [pN_index_ (by omega) b_index_]; decide
  by_cases b_text_ : (j : Int) < 5 + (n : Int) + (t : Int)
  · rw [pN_text_ (by omega) b_text_]; decide
  omega
theorem before_audit_ (n t c a s : Nat) : ∀ j : Nat, j < 5 + n + t + c → pN n t c a s j ≠ .audit_ := by
  intro j hj
  by_cases b_super_ : (j : Int) < 2
  · rw [pN_super_ (by omega) b_super_]; decide
  by_cases b_state_ : (j : Int) < 3
  · rw [pN_state_ (by omega) b_state_]; decide
  by_cases b_map_ : (j : Int) < 4
  · rw [pN_map_ (by omega) b_map_]; decide
  by_cases b_classes_ : (j : Int) < 5
  · rw [pN_classes_ (by omega) b_classes_]; decide
  by_cases b_index_ : (j : Int) < 5 + (n : Int)
  · rw [pN_index_ (by omega) b_index_]; decide
  by_cases b_text_ : (j : Int) < 5 + (n : Int) + (t : Int)
  · rw [pN_text_ (by omega) b_text_]; decide
  by_cases b_clip_ : (j : Int) < 5 + (n : Int) + (t : Int) + (c : Int)
  · rw [pN_clip_ (by omega) b_clip_]; decide
  omega
theorem before_head_ (n t c a s : Nat) : ∀ j : Nat, j < 5 + n + t + c + a → pN n t c a s j ≠ .head_ := by
  intro j hj
  by_cases b_super_ : (j : Int) < 2
  · rw [pN_super_ (by omega) b_super_]; decide
  by_cases b_state_ : (j : Int) < 3
  · rw [pN_state_ (by omega) b_state_]; decide
  by_cases b_map_ : (j : Int) < 4
  · rw [pN_map_ (by omega) b_map_]; decide
  by_cases b_classes_ : (j : Int) < 5
  · rw [pN_classes_ (by omega) b_classes_]; decide
  by_cases b_index_ : (j : Int) < 5 + (n : Int)
  · rw [pN_index_ (by omega) b_index_]; decide
  by_cases b_text_ : (j : Int) < 5 + (n : Int) + (t : Int)
  · rw [pN_text_ (by omega) b_text_]; decide
  by_cases b_clip_ : (j : Int) < 5 + (n : Int) + (t : Int) + (c : Int)
  · rw [pN_clip_ (by omega) b_clip_]; decide
  by_cases b_audit_ : (j : Int) < 5 + (n : Int) + (t : Int) + (c : Int) + (a : Int)
  · rw [pN_audit_ (by omega) b_audit_]; decide
  omega
theorem before_body_ (n t c a s : Nat) : ∀ j : Nat, j < 5 + n + t + c + a + 1 → pN n t c a s j ≠ .body_ := by
  intro j hj
  by_cases b_super_ : (j : Int) < 2
  · rw [pN_super_ (by omega) b_super_]; decide
  by_cases b_state_ : (j : Int) < 3
  · rw [pN_state_ (by omega) b_state_]; decide
  by_cases b_map_ : (j : Int) < 4
  · rw [pN_map_ (by omega) b_map_]; decide
  by_cases b_classes_ : (j : Int) < 5
  · rw [pN_classes_ (by omega) b_classes_]; decide
  by_cases b_index_ : (j : Int) < 5 + (n : Int)
  · rw [pN_index_ (by omega) b_index_]; decide
  by_cases b_text_ : (j : Int) < 5 + (n : Int) + (t : Int)
  · rw [pN_text_ (by omega) b_text_]; decide
  by_cases b_clip_ : (j : Int) < 5 + (n : Int) + (t : Int) + (c : Int)
  · rw [pN_clip_ (by omega) b_clip_]; decide
  by_cases b_audit_ : (j : Int) < 5 + (n : Int) + (t : Int) + (c : Int) + (a : Int)
  · rw [pN_audit_ (by omega) b_audit_]; decide
  by_cases b_head_ : (j : Int) < 5 + (n : Int) + (t : Int) + (c : Int) + (a : Int) + 1
  · rw [pN_head_ (by omega) b_head_]; decide
  omega
theorem before_slot_ (n t c a s : Nat) : ∀ j : Nat, j < 5 + n + t + c + a + 1 + (n + 9 + t) → pN n t c a s j ≠ .slot_ := by
  intro j hj
  by_cases b_super_ : (j : Int) < 2
  · rw [pN_super_ (by omega) b_super_]; decide
  by_cases b_state_ : (j : Int) < 3
  · rw [pN_state_ (by omega) b_state_]; decide
  by_cases b_map_ : (j : Int) < 4
  · rw [pN_map_ (by omega) b_map_]; decide
  by_cases b_classes_ : (j : Int) < 5
  · rw [pN_classes_ (by omega) b_classes_]; decide
  by_cases b_index_ : (j : Int) < 5 + (n : Int)
  · rw [pN_index_ (by omega) b_index_]; decide
  by_cases b_text_ : (j : Int) < 5 + (n : Int) + (t : Int)
  · rw [pN_text_ (by omega) b_text_]; decide
  by_cases b_clip_ : (j : Int) < 5 + (n : Int) + (t : Int) + (c : Int)
  · rw [pN_clip_ (by omega) b_clip_]; decide
  by_cases b_audit_ : (j : Int) < 5 + (n : Int) + (t : Int) + (c : Int) + (a : Int)
  · rw [pN_audit_ (by omega) b_audit_]; decide
  by_cases b_head_ : (j : Int) < 5 + (n : Int) + (t : Int) + (c : Int) + (a : Int) + 1
  · rw [pN_head_ (by omega) b_head_]; decide
  by_cases b_body_ : (j : Int) < 5 + (n : Int) + (t : Int) + (c : Int) + (a : Int) + 1 + ((n : Int) + (t : Int) + 9)
  · rw [pN_body_ (by omega) b_body_]; decide
  omega
end Go.Proofs.Ytgkmbnmelepenaa
