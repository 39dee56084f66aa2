/-
  Layer 7: the contracts of Of, Bound, Home, Part, Same.
-/
import Derived.Test.YtabigpbnacfajaaPlanA
import Derived.Test.YtabigpbnacfajaaSlot
namespace Go.Proofs.Ytabigpbnacfajaa
open Go.RowKit
set_option linter.unusedVariables false

/-- A layout as cells. -/
def lcs (s t c a x1 x2 x3 x4 x5 x6 x7 x8 x9 x10 : Int) : List Value :=
  [.int .i64 s, .int .i64 t, .int .i64 c, .int .i64 a, .int .i64 x1, .int .i64 x2, .int .i64 x3, .int .i64 x4, .int .i64 x5, .int .i64 x6, .int .i64 x7, .int .i64 x8, .int .i64 x9, .int .i64 x10]
def lc0 : List Value := lcs 0 0 0 0 0 0 0 0 0 0 0 0 0 0
theorem Try.zeroL : (Try.prog.info? 25).bind (·.zero) = some (.agg lc0.toArray) := by kernel_rfl
theorem Try.sizeL : (Try.prog.info? 25).map (·.size) = some 14 := by kernel_rfl
theorem lcs_size (s t c a x1 x2 x3 x4 x5 x6 x7 x8 x9 x10 : Int) : (Try.prog.info? 25).map (·.size) = some (lcs s t c a x1 x2 x3 x4 x5 x6 x7 x8 x9 x10).toArray.size := Try.sizeL
theorem lcs_all (s t c a x1 x2 x3 x4 x5 x6 x7 x8 x9 x10 : Int) : (lcs s t c a x1 x2 x3 x4 x5 x6 x7 x8 x9 x10).toArray.all (·.oneCell') = true := by simp [lcs, Value.oneCell']

/-- How many sectors the index has. -/
def idx (s : Int) : Int := (2 * s + 5) / 6
/-- The layout of a plan that may be. -/
def lay (s t c a : Int) : List Value :=
  lcs s t c a 5 (5 + idx s) (5 + idx s + t) (5 + idx s + t + c) (5 + idx s + t + c + a) (5 + idx s + t + c + a + 1) (5 + idx s + t + c + a + 1 + (idx s + t + 9)) (5 + idx s + t + c + a + 1 + (idx s + t + 9) + s) (idx s * 6) (idx s + t + 9)
theorem built_lay0 : Try.prog.built 25 [] = some lc0.toArray := by kernel_rfl
theorem built_lay (s t c a x9 x10 : Int) : Try.prog.built 25 [(0, .agg (pc s t c a).toArray), (1, .int .i64 5), (9, .int .i64 x9), (10, .int .i64 x10)] = some (lcs s t c a 5 0 0 0 0 0 0 0 x9 x10).toArray := by kernel_rfl

/-- A number stored into a field of a layout. -/
theorem store_field {w : World} {ops : Array Oper} {rest : List Oper} {o : Oper} {A : Act} {Q : Exit → Act → World → Prop} (hgd : o.guard = none) (x y : Operand) (ho : o.op = .store 3 x y) (g k : Nat) (v : Int)
    (hx : A.eval x = .pointer (some ⟨g, k, none⟩)) (hy : A.eval y = .int .i64 v) {t : TypeId} {old : List Value} (hg : RowV w g t old) (hk : k < old.length)
    (h : ∀ w', RowV w' g t (old.set k (.int .i64 v)) → w.grownBy w' (some g) → w'.heap.size = w.heap.size → wpList Try.prog ops Q rest (A.put o.dst undef) w') : wpList Try.prog ops Q (o :: rest) A w :=
  wpList_store_slot hgd 3 x y ho g k hx _ hy rfl t old hg hk (by kernel_rfl) h

/-- A layout stored into a variable. -/
theorem store_lay {w : World} {ops : Array Oper} {rest : List Oper} {o : Oper} {A : Act} {Q : Exit → Act → World → Prop} (hgd : o.guard = none) (x y : Operand) (ho : o.op = .store 25 x y) (g : Nat) (s t c a x1 x2 x3 x4 x5 x6 x7 x8 x9 x10 : Int)
    (hx : A.eval x = .pointer (some ⟨g, 0, none⟩)) (hy : A.eval y = .agg (lcs s t c a x1 x2 x3 x4 x5 x6 x7 x8 x9 x10).toArray) {old : List Value} (hg : RowV w g 25 old) (hold : old.length = 14)
    (h : ∀ w', RowV w' g 25 (lcs s t c a x1 x2 x3 x4 x5 x6 x7 x8 x9 x10) → w.grownBy w' (some g) → w'.heap.size = w.heap.size → wpList Try.prog ops Q rest (A.put o.dst undef) w') : wpList Try.prog ops Q (o :: rest) A w :=
  wpList_store_rowV hgd 25 x y ho g _ hx hy 25 old hg (lcs_size _ _ _ _ _ _ _ _ _ _ _ _ _ _) (by rw [List.size_toArray, hold]; rfl) (lcs_all _ _ _ _ _ _ _ _ _ _ _ _ _ _) h
theorem load_lay {w : World} {ops : Array Oper} {rest : List Oper} {o : Oper} {A : Act} {Q : Exit → Act → World → Prop} (hgd : o.guard = none) (x : Operand) (ho : o.op = .load 25 x) (g : Nat) {s t c a x1 x2 x3 x4 x5 x6 x7 x8 x9 x10 : Int}
    (hx : A.eval x = .pointer (some ⟨g, 0, none⟩)) (hg : RowV w g 25 (lcs s t c a x1 x2 x3 x4 x5 x6 x7 x8 x9 x10))
    (h : wpList Try.prog ops Q rest (A.put o.dst (.agg (lcs s t c a x1 x2 x3 x4 x5 x6 x7 x8 x9 x10).toArray)) w) : wpList Try.prog ops Q (o :: rest) A w :=
  wpList_load_row hgd 25 x ho g hx 25 _ (0, 0) _ hg Try.underlying25 rfl (lcs_size _ _ _ _ _ _ _ _ _ _ _ _ _ _) h
theorem load_plan {w : World} {ops : Array Oper} {rest : List Oper} {o : Oper} {A : Act} {Q : Exit → Act → World → Prop} (hgd : o.guard = none) (x : Operand) (ho : o.op = .load 23 x) (g : Nat) {s t c a : Int}
    (hx : A.eval x = .pointer (some ⟨g, 0, none⟩)) (hg : RowV w g 23 (pc s t c a))
    (h : wpList Try.prog ops Q rest (A.put o.dst (.agg (pc s t c a).toArray)) w) : wpList Try.prog ops Q (o :: rest) A w :=
  wpList_load_row hgd 23 x ho g hx 23 _ (0, 0) _ hg Try.underlying23 rfl (pc_size _ _ _ _) h

set_option maxRecDepth 100000 in
set_option maxHeartbeats 400000 in
theorem of_no (w : World) (s t c a : Int) (hok : okP s t c a = false) :
    Calls Try.prog 6 #[.agg (pc s t c a).toArray] w fun e w' => e = .returned (.tuple #[.agg lc0.toArray, .int .i64 2]) ∧ Below w.heap.size w w' := by
  go_enter Try.func6, Try.ntmps6
  go_wp2_with ((with_reducible refine at_box 23 ?_); refine wpList_box_rowV rfl 23 _ rfl (pc s t c a) rfl ?_)
  intro w1 hr1 hb1 hz1
  go_wp2_with ((with_reducible refine at_alloc 25 ?_); refine wpList_alloc_rowV rfl 25 rfl lc0 Try.zeroL ?_)
  intro w2 hr2 hb2 hz2
  have hr12 := hr1.below (by omega) hb2
  have hB2 : Below w.heap.size w w2 := hb1.trans (hb2.mono (by omega))
  have hz : w.heap.size + 1 < w2.heap.size := by omega
  have hlt : w.heap.size < w.heap.size + 1 := by omega
  clear hr1 hb1 hb2 hz1 hz2
  generalize hN1 : w.heap.size + 1 = N1 at *
  generalize hN : w.heap.size = N at *
  clear hN1
  go_wp2_with ((with_reducible refine at_load 23 ?_); refine load_plan rfl _ rfl N rfl hr12 ?_)
  refine (pcheck_any _ _ _ _ _).mono ?_
  rintro e w3 ⟨rfl, hb3⟩
  have hcd : codeP s t c a = 2 := by rw [codeP, hok]; rfl
  rw [hcd]
  have hr3 := hr2.below (by omega) hb3
  have hz3 := hb3.size
  have hB3 : Below N w w3 := hB2.trans (hb3.mono (by omega))
  clear hr2 hr12 hb3 hB2
  have hz' : N1 < w3.heap.size := by omega
  clear hz hz3
  go_wp2_with ((with_reducible refine at_store 25 ?_); refine store_lay rfl _ _ rfl N1 0 0 0 0 0 0 0 0 0 0 0 0 0 0 rfl rfl hr3 rfl ?_)
  intro w4 hr4 hg4 hz4
  go_wp2_with fail
  exact bodyPost_ret (results_cell_tmp (fn := Try.f6) rfl _ _ N1 25 _ (0, 0) _ rfl (.int .i64 2) rfl hr4 Try.underlying25 rfl Try.sizeL) rfl ⟨rfl, by rw [hN]; exact below_grown hB3 hg4 (by omega) (by omega)⟩

set_option maxRecDepth 100000 in
set_option maxHeartbeats 400000 in
theorem of_yes (w : World) (s t c a : Int) (hok : okP s t c a = true) :
    Calls Try.prog 6 #[.agg (pc s t c a).toArray] w fun e w' => e = .returned (.tuple #[.agg (lay s t c a).toArray, .int .i64 0]) ∧ Below w.heap.size w w' := by
  obtain ⟨⟨hs1, hs2⟩, ⟨ht1, ht2⟩, ⟨hc1, hc2⟩, ha1, ha2⟩ := okP_iff.1 hok
  go_enter Try.func6, Try.ntmps6
  go_wp2_with ((with_reducible refine at_box 23 ?_); refine wpList_box_rowV rfl 23 _ rfl (pc s t c a) rfl ?_)
  intro w1 hr1 hb1 hz1
  go_wp2_with ((with_reducible refine at_alloc 25 ?_); refine wpList_alloc_rowV rfl 25 rfl lc0 Try.zeroL ?_)
  intro w2 hr2 hb2 hz2
  have hr12 := hr1.below (by omega) hb2
  have hB2 : Below w.heap.size w w2 := hb1.trans (hb2.mono (by omega))
  have hz : w.heap.size + 1 < w2.heap.size := by omega
  have hlt : w.heap.size < w.heap.size + 1 := by omega
  clear hr1 hb1 hb2 hz1 hz2
  generalize hN1 : w.heap.size + 1 = N1 at *
  generalize hN : w.heap.size = N at *
  clear hN1
  go_wp2_with ((with_reducible refine at_load 23 ?_); refine load_plan rfl _ rfl N rfl hr12 ?_)
  refine (pcheck_any _ _ _ _ _).mono ?_
  rintro e w3 ⟨rfl, hb3⟩
  have hcd : codeP s t c a = 0 := by rw [codeP, hok]; rfl
  rw [hcd]
  have hr3 := hr2.below (by omega) hb3
  have hr13 := hr12.below (by omega) hb3
  have hz3 := hb3.size
  have hB3 : Below N w w3 := hB2.trans (hb3.mono (by omega))
  clear hr2 hr12 hb3 hB2
  have hz' : N1 < w3.heap.size := by omega
  clear hz hz3
  have c0 := hr13.cell (i := 0) rfl
  have c1 := hr13.cell (i := 1) rfl
  have c2 := hr13.cell (i := 2) rfl
  have c3 := hr13.cell (i := 3) rfl
  go_wp2_with fail
  refine (psectors_any _ _ hs1 hs2).mono ?_
  rintro e w4 ⟨rfl, e4⟩
  rw [e4]
  clear e4 w4
  obtain ⟨n, hn⟩ : ∃ n, n = (2 * s + 5) / 6 := ⟨_, rfl⟩
  rw [← hn]
  have hn1 : 0 ≤ n := by omega
  have hn2 : n ≤ 100 := by omega
  have Hn := Lib.hid hn
  clear hn
  go_wp2_with (first
    | ((with_reducible refine at_load 23 ?_); refine load_plan rfl _ rfl N rfl hr13 ?_)
    | ((with_reducible refine at_build 25 ?_); refine wpList_build_to rfl 25 _ rfl (lcs s t c a 5 0 0 0 0 0 0 0 (n * 6) (n + t + 9)) (by rw [Array.toList_map]; exact built_lay _ _ _ _ _ _) ?_)
    | ((with_reducible refine at_alloc 25 ?_); refine wpList_alloc_rowV rfl 25 rfl lc0 Try.zeroL ?_))
  intro w5 hr5 hb5 hz5
  have hr15 := hr13.below (by omega) hb5
  have hr25 := hr3.below (by omega) hb5
  have hB5 : Below N w w5 := hB3.trans (hb5.mono (by omega))
  clear hr3 hr13 c0 c1 c2 c3 hb5 hB3
  generalize hN3 : w3.heap.size = N3 at *
  go_wp2_with ((with_reducible refine at_store 25 ?_); refine store_lay rfl _ _ rfl N3 s t c a 5 0 0 0 0 0 0 0 (n * 6) (n + t + 9) rfl rfl hr5 rfl ?_)
  intro w6 hr6 hg6 hz6
  have hp6 := hr15.keep hg6 (fun e => by injection e with e; omega)
  have hu6 := hr25.keep hg6 (fun e => by injection e with e; omega)
  have hB6 : Below N w w6 := below_grown hB5 hg6 (by omega) (by omega)
  clear hr5 hr15 hr25 hB5 hg6
  have d5 := hr6.cell (i := 4) rfl
  go_wp2_with ((with_reducible refine at_store 3 ?_); refine store_field rfl _ _ rfl N3 5 (5 + n) rfl rfl hr6 (Nat.lt_of_lt_of_eq (by decide) (rfl : 14 = _)) ?_)
  intro w7 hq7 hg7 hz7
  have hr7 : RowV w7 N3 25 (lcs s t c a 5 (5 + n) 0 0 0 0 0 0 (n * 6) (n + t + 9)) := hq7
  have hp7 := hp6.keep hg7 (fun e => by injection e with e; omega)
  have hu7 := hu6.keep hg7 (fun e => by injection e with e; omega)
  have hB7 : Below N w w7 := below_grown hB6 hg7 (by omega) (by omega)
  clear d5 hq7 hr6 hp6 hu6 hB6 hg7
  have d6 := hr7.cell (i := 5) rfl
  have c1 := hp7.cell (i := 1) rfl
  go_wp2_with ((with_reducible refine at_store 3 ?_); refine store_field rfl _ _ rfl N3 6 (5 + n + t) rfl rfl hr7 (Nat.lt_of_lt_of_eq (by decide) (rfl : 14 = _)) ?_)
  intro w8 hq8 hg8 hz8
  have hr8 : RowV w8 N3 25 (lcs s t c a 5 (5 + n) (5 + n + t) 0 0 0 0 0 (n * 6) (n + t + 9)) := hq8
  have hp8 := hp7.keep hg8 (fun e => by injection e with e; omega)
  have hu8 := hu7.keep hg8 (fun e => by injection e with e; omega)
  have hB8 : Below N w w8 := below_grown hB7 hg8 (by omega) (by omega)
  clear d6 c1 hq8 hr7 hp7 hu7 hB7 hg8
  have d7 := hr8.cell (i := 6) rfl
  have c2 := hp8.cell (i := 2) rfl
  go_wp2_with ((with_reducible refine at_store 3 ?_); refine store_field rfl _ _ rfl N3 7 (5 + n + t + c) rfl rfl hr8 (Nat.lt_of_lt_of_eq (by decide) (rfl : 14 = _)) ?_)
  intro w9 hq9 hg9 hz9
  have hr9 : RowV w9 N3 25 (lcs s t c a 5 (5 + n) (5 + n + t) (5 + n + t + c) 0 0 0 0 (n * 6) (n + t + 9)) := hq9
  have hp9 := hp8.keep hg9 (fun e => by injection e with e; omega)
  have hu9 := hu8.keep hg9 (fun e => by injection e with e; omega)
  have hB9 : Below N w w9 := below_grown hB8 hg9 (by omega) (by omega)
  clear d7 c2 hq9 hr8 hp8 hu8 hB8 hg9
  have d8 := hr9.cell (i := 7) rfl
  have c3 := hp9.cell (i := 3) rfl
  go_wp2_with ((with_reducible refine at_store 3 ?_); refine store_field rfl _ _ rfl N3 8 (5 + n + t + c + a) rfl rfl hr9 (Nat.lt_of_lt_of_eq (by decide) (rfl : 14 = _)) ?_)
  intro w10 hq10 hg10 hz10
  have hr10 : RowV w10 N3 25 (lcs s t c a 5 (5 + n) (5 + n + t) (5 + n + t + c) (5 + n + t + c + a) 0 0 0 (n * 6) (n + t + 9)) := hq10
  have hp10 := hp9.keep hg10 (fun e => by injection e with e; omega)
  have hu10 := hu9.keep hg10 (fun e => by injection e with e; omega)
  have hB10 : Below N w w10 := below_grown hB9 hg10 (by omega) (by omega)
  clear d8 c3 hq10 hr9 hp9 hu9 hB9 hg10
  have d9 := hr10.cell (i := 8) rfl
  go_wp2_with ((with_reducible refine at_store 3 ?_); refine store_field rfl _ _ rfl N3 9 (5 + n + t + c + a + 1) rfl rfl hr10 (Nat.lt_of_lt_of_eq (by decide) (rfl : 14 = _)) ?_)
  intro w11 hq11 hg11 hz11
  have hr11 : RowV w11 N3 25 (lcs s t c a 5 (5 + n) (5 + n + t) (5 + n + t + c) (5 + n + t + c + a) (5 + n + t + c + a + 1) 0 0 (n * 6) (n + t + 9)) := hq11
  have hp11 := hp10.keep hg11 (fun e => by injection e with e; omega)
  have hu11 := hu10.keep hg11 (fun e => by injection e with e; omega)
  have hB11 : Below N w w11 := below_grown hB10 hg11 (by omega) (by omega)
  clear d9 hq11 hr10 hp10 hu10 hB10 hg11
  have d10 := hr11.cell (i := 9) rfl
  have d13 := hr11.cell (i := 13) rfl
  go_wp2_with ((with_reducible refine at_store 3 ?_); refine store_field rfl _ _ rfl N3 10 (5 + n + t + c + a + 1 + (n + t + 9)) rfl rfl hr11 (Nat.lt_of_lt_of_eq (by decide) (rfl : 14 = _)) ?_)
  intro w12 hq12 hg12 hz12
  have hr12 : RowV w12 N3 25 (lcs s t c a 5 (5 + n) (5 + n + t) (5 + n + t + c) (5 + n + t + c + a) (5 + n + t + c + a + 1) (5 + n + t + c + a + 1 + (n + t + 9)) 0 (n * 6) (n + t + 9)) := hq12
  have hp12 := hp11.keep hg12 (fun e => by injection e with e; omega)
  have hu12 := hu11.keep hg12 (fun e => by injection e with e; omega)
  have hB12 : Below N w w12 := below_grown hB11 hg12 (by omega) (by omega)
  clear d10 d13 hq12 hr11 hp11 hu11 hB11 hg12
  have d11 := hr12.cell (i := 10) rfl
  have c0 := hp12.cell (i := 0) rfl
  go_wp2_with ((with_reducible refine at_store 3 ?_); refine store_field rfl _ _ rfl N3 11 (5 + n + t + c + a + 1 + (n + t + 9) + s) rfl rfl hr12 (Nat.lt_of_lt_of_eq (by decide) (rfl : 14 = _)) ?_)
  intro w13 hq13 hg13 hz13
  have hr13 : RowV w13 N3 25 (lcs s t c a 5 (5 + n) (5 + n + t) (5 + n + t + c) (5 + n + t + c + a) (5 + n + t + c + a + 1) (5 + n + t + c + a + 1 + (n + t + 9)) (5 + n + t + c + a + 1 + (n + t + 9) + s) (n * 6) (n + t + 9)) := hq13
  have hp13 := hp12.keep hg13 (fun e => by injection e with e; omega)
  have hu13 := hu12.keep hg13 (fun e => by injection e with e; omega)
  have hB13 : Below N w w13 := below_grown hB12 hg13 (by omega) (by omega)
  clear d11 c0 hq13 hr12 hp12 hu12 hB12 hg13
  go_wp2_with (first
    | ((with_reducible refine at_load 25 ?_); refine load_lay rfl _ rfl N3 rfl hr13 ?_)
    | ((with_reducible refine at_store 25 ?_); refine store_lay rfl _ _ rfl N1 _ _ _ _ _ _ _ _ _ _ _ _ _ _ rfl rfl hu13 rfl ?_))
  intro w14 hr14 hg14 hz14
  go_wp2_with fail
  obtain rfl := Hn.out
  exact bodyPost_ret (results_cell_tmp (fn := Try.f6) rfl _ _ N1 25 _ (0, 0) _ rfl (.int .i64 0) rfl hr14 Try.underlying25 rfl (lcs_size _ _ _ _ _ _ _ _ _ _ _ _ _ _)) rfl ⟨rfl, by rw [hN]; exact below_grown hB13 hg14 (by omega) (by omega)⟩
end Go.Proofs.Ytabigpbnacfajaa
