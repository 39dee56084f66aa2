/-
  Layer 8: the contract of super.Choose.
-/
import Derived.Test.YtoiphbdmmiikaaaSupD
namespace Go.Proofs.Ytoiphbdmmiikaaa
open Go.RowKit
set_option linter.unusedVariables false
set_option linter.unusedSimpArgs false

theorem results_cell_tmp2 {P : Program} {fn : Func} {p q r : Tmp} {ty : TypeId} (h : fn.results = #[.cell p ty, .tmp q, .tmp r]) (tmps : Array Value) (w : World) (g : Nat) (t : TypeId) (cs : Array Value) (fr : Nat × Nat) (d : TypeDesc)
    (hp : tmps.getD p undef = .pointer (some ⟨g, 0, none⟩)) (v : Value) (hq : tmps.getD q undef = v) (u : Value) (hr : tmps.getD r undef = u) (hg : w.heap[g]? = some (.cells cs t fr))
    (hu : P.underlying ty = some d) (hd : (match d with | .struct _ | .array _ _ => true | _ => false) = true) (hi : (P.info? ty).map (·.size) = some cs.size) :
    (results fn tmps).run P w = .ok (.tuple #[.agg cs, v, u]) w := by
  have hp' : tmps[p]?.getD undef = .pointer (some ⟨g, 0, none⟩) := by simpa using hp
  have hq' : tmps[q]?.getD undef = v := by simpa using hq
  have hr' : tmps[r]?.getD undef = u := by simpa using hr
  simp [results, h, hp', hq', hr', asAddr, run_loadVar_row w g t ty cs fr d hg hu hd hi]
/-- What Choose answers. -/
def choT (x y : Sec) : Sb × Int × Int := match chooseS x y with
  | some (b, k) => (b, (k : Int), 0)
  | none => (sb0, 0, 5)
theorem cho_none {x y : Sec} (h : chooseS x y = none) : choT x y = (sb0, 0, 5) := by unfold choT; rw [h]
theorem cho_some {x y : Sec} {b : Sb} {k : Nat} (h : chooseS x y = some (b, k)) : choT x y = (b, (k : Int), 0) := by unfold choT; rw [h]
theorem cho_nn {x y : Sec} (hx : getS x = none) (hy : getS y = none) : choT x y = (sb0, 0, 5) := cho_none (by unfold chooseS; rw [hx, hy])
theorem cho_ns {x y : Sec} {b : Sb} (hx : getS x = none) (hy : getS y = some b) : choT x y = (b, 1, 0) := cho_some (k := 1) (by unfold chooseS; rw [hx, hy])
theorem cho_sn {x y : Sec} {a : Sb} (hx : getS x = some a) (hy : getS y = none) : choT x y = (a, 0, 0) := cho_some (k := 0) (by unfold chooseS; rw [hx, hy])
theorem cho_ss1 {x y : Sec} {a b : Sb} (hx : getS x = some a) (hy : getS y = some b) (h : b.m ≤ a.m) : choT x y = (a, 0, 0) := cho_some (k := 0) (by unfold chooseS; rw [hx, hy]; exact if_pos h)
theorem cho_ss2 {x y : Sec} {a b : Sb} (hx : getS x = some a) (hy : getS y = some b) (h : ¬ b.m ≤ a.m) : choT x y = (b, 1, 0) := cho_some (k := 1) (by unfold chooseS; rw [hx, hy]; exact if_neg h)

set_option maxRecDepth 100000 in
set_option maxHeartbeats 2000000 in
theorem schoose_any (w : World) (x y : Sec) :
    Calls Try.prog 10 #[.agg x.cs.toArray, .agg y.cs.toArray] w fun e w' => e = .returned (.tuple #[.agg (sbc (choT x y).1).toArray, .int .i64 (choT x y).2.1, .int .i64 (choT x y).2.2]) ∧ Below w.heap.size w w' := by
  go_enter Try.func10, Try.ntmps10
  go_wp2_with ((with_reducible refine at_box 24 ?_); refine wpList_box_rowV rfl 24 _ rfl x.cs rfl ?_)
  intro w1 hx1 hb1 hs1
  have hlt : w.heap.size < w1.heap.size := by omega
  clear hs1
  refine wpList_box_rowV rfl 24 _ rfl y.cs rfl ?_
  intro w2 hy2 hb2 hs2
  have hx2 := hx1.below (by omega) hb2
  have hB2 : Below w.heap.size w w2 := hb1.trans (hb2.mono (by omega))
  have hlt2 : w1.heap.size < w2.heap.size := by omega
  clear hx1 hb1 hb2 hs2
  generalize hN1 : w1.heap.size = N1 at *
  generalize hN : w.heap.size = N at *
  clear hN1
  go_wp2_with ((with_reducible refine at_alloc 29 ?_); refine alloc_sb rfl rfl ?_)
  intro w3 hr3 hb3 hs3
  have hx3 := hx2.below (by omega) hb3
  have hy3 := hy2.below (by omega) hb3
  have hB3 : Below N w w3 := hB2.trans (hb3.mono (by omega))
  clear hx2 hy2 hB2 hb3
  generalize hR : w2.heap.size = R at *
  clear hR
  go_wp2_with ((with_reducible refine at_load 24 ?_); refine load_sec rfl _ rfl N rfl hx3 ?_)
  refine (sget_any w3 x).mono ?_
  rintro e w4 ⟨rfl, hb4⟩
  have hy4 := hy3.below (by omega) hb4
  have hr4 := hr3.below (by omega) hb4
  have hB4 : Below N w w4 := hB3.trans (hb4.mono (by omega))
  have hz4 : R < w4.heap.size := by have := hb4.size; omega
  clear hx3 hy3 hr3 hB3 hb4 hs3
  go_wp2_with ((with_reducible refine at_alloc 29 ?_); refine alloc_sb rfl rfl ?_)
  intro w5 ha5 hb5 hs5
  have hy5 := hy4.below (by omega) hb5
  have hr5 := hr4.below (by omega) hb5
  have hB5 : Below N w w5 := hB4.trans (hb5.mono (by omega))
  clear hy4 hr4 hB4 hb5
  generalize hG1 : w4.heap.size = G1 at *
  clear hG1
  go_wp2_with ((with_reducible refine at_store 29 ?_); refine store_sb rfl _ _ rfl G1 (getV x) rfl rfl ha5 rfl ?_)
  intro w6 ha6 hg6 hs6
  have hy6 := hy5.keep hg6 (fun e => by injection e with e; omega)
  have hr6 := hr5.keep hg6 (fun e => by injection e with e; omega)
  have hB6 : Below N w w6 := below_grown hB5 hg6 (by omega) (by omega)
  have hz6 : G1 < w6.heap.size := by omega
  clear hy5 hr5 hB5 ha5 hg6 hs6 hs5
  go_wp2_with ((with_reducible refine at_load 24 ?_); refine load_sec rfl _ rfl N1 rfl hy6 ?_)
  refine (sget_any w6 y).mono ?_
  rintro e w7 ⟨rfl, hb7⟩
  have ha7 := ha6.below (by omega) hb7
  have hr7 := hr6.below (by omega) hb7
  have hB7 : Below N w w7 := hB6.trans (hb7.mono (by omega))
  have hz7 : G1 < w7.heap.size := by have := hb7.size; omega
  clear hy6 hr6 hB6 ha6 hb7 hz6
  go_wp2_with ((with_reducible refine at_alloc 29 ?_); refine alloc_sb rfl rfl ?_)
  intro w8 hc8 hb8 hs8
  have ha8 := ha7.below (by omega) hb8
  have hr8 := hr7.below (by omega) hb8
  have hB8 : Below N w w8 := hB7.trans (hb8.mono (by omega))
  clear ha7 hr7 hB7 hb8
  generalize hG2 : w7.heap.size = G2 at *
  clear hG2
  go_wp2_with ((with_reducible refine at_store 29 ?_); refine store_sb rfl _ _ rfl G2 (getV y) rfl rfl hc8 rfl ?_)
  intro w9 hc9 hg9 hs9
  have ha9 := ha8.keep hg9 (fun e => by injection e with e; omega)
  have hr9 := hr8.keep hg9 (fun e => by injection e with e; omega)
  have hB9 : Below N w w9 := below_grown hB8 hg9 (by omega) (by omega)
  have hz9 : G2 < w9.heap.size := by omega
  clear ha8 hr8 hB8 hc8 hg9 hs9 hs8
  have hz := zeroBv
  cases hx : getS x with
  | none =>
    rw [(get_none hx).1] at ha9
    rw [(get_none hx).2]
    cases hy : getS y with
    | none =>
      have Hc := Lib.hid (cho_nn hx hy)
      rw [(get_none hy).1] at hc9
      rw [(get_none hy).2]
      clear hx hy
      go_wp2_with ((with_reducible refine at_store 29 ?_); refine store_sb rfl _ _ rfl R sb0 rfl rfl hr9 rfl ?_)
      intro w10 hr10 hg10 hs10
      go_wp2_with fail
      exact bodyPost_ret (results_cell_tmp2 (fn := Try.f10) rfl _ _ R 29 _ (0, 0) _ rfl (.int .i64 0) rfl (.int .i64 5) rfl hr10 Try.underlying29 rfl (sbc_size _)) rfl ⟨by rw [Hc.out], by rw [hN]; exact below_grown hB9 hg10 (by omega) (by omega)⟩
    | some b =>
      have Hc := Lib.hid (cho_ns hx hy)
      rw [(get_some hy).1] at hc9
      rw [(get_some hy).2]
      clear hx hy
      go_wp2_with (first | ((with_reducible refine at_load 29 ?_); refine load_sb rfl _ rfl G2 rfl hc9 ?_) | ((with_reducible refine at_store 29 ?_); refine store_sb rfl _ _ rfl R b rfl rfl hr9 rfl ?_))
      intro w10 hr10 hg10 hs10
      go_wp2_with fail
      exact bodyPost_ret (results_cell_tmp2 (fn := Try.f10) rfl _ _ R 29 _ (0, 0) _ rfl (.int .i64 1) rfl (.int .i64 0) rfl hr10 Try.underlying29 rfl (sbc_size _)) rfl ⟨by rw [Hc.out], by rw [hN]; exact below_grown hB9 hg10 (by omega) (by omega)⟩
  | some a =>
    rw [(get_some hx).1] at ha9
    rw [(get_some hx).2]
    have c1 := ha9.cell (i := 4) rfl
    cases hy : getS y with
    | none =>
      have Hc := Lib.hid (cho_sn hx hy)
      rw [(get_none hy).1] at hc9
      rw [(get_none hy).2]
      clear hx hy
      go_wp2_with (first | ((with_reducible refine at_load 29 ?_); refine load_sb rfl _ rfl G1 rfl ha9 ?_) | ((with_reducible refine at_store 29 ?_); refine store_sb rfl _ _ rfl R a rfl rfl hr9 rfl ?_))
      intro w10 hr10 hg10 hs10
      go_wp2_with fail
      exact bodyPost_ret (results_cell_tmp2 (fn := Try.f10) rfl _ _ R 29 _ (0, 0) _ rfl (.int .i64 0) rfl (.int .i64 0) rfl hr10 Try.underlying29 rfl (sbc_size _)) rfl ⟨by rw [Hc.out], by rw [hN]; exact below_grown hB9 hg10 (by omega) (by omega)⟩
    | some b =>
      rw [(get_some hy).1] at hc9
      rw [(get_some hy).2]
      have c2 := hc9.cell (i := 4) rfl
      by_cases hm : b.m ≤ a.m
      · have Hc := Lib.hid (cho_ss1 hx hy hm)
        clear hx hy
        go_wp2_with (first | ((with_reducible refine at_load 29 ?_); refine load_sb rfl _ rfl G1 rfl ha9 ?_) | ((with_reducible refine at_store 29 ?_); refine store_sb rfl _ _ rfl R a rfl rfl hr9 rfl ?_))
        intro w10 hr10 hg10 hs10
        go_wp2_with fail
        exact bodyPost_ret (results_cell_tmp2 (fn := Try.f10) rfl _ _ R 29 _ (0, 0) _ rfl (.int .i64 0) rfl (.int .i64 0) rfl hr10 Try.underlying29 rfl (sbc_size _)) rfl ⟨by rw [Hc.out], by rw [hN]; exact below_grown hB9 hg10 (by omega) (by omega)⟩
      · have Hc := Lib.hid (cho_ss2 hx hy hm)
        have hm' : a.m < b.m := by omega
        clear hx hy
        go_wp2_with (first | ((with_reducible refine at_load 29 ?_); refine load_sb rfl _ rfl G2 rfl hc9 ?_) | ((with_reducible refine at_store 29 ?_); refine store_sb rfl _ _ rfl R b rfl rfl hr9 rfl ?_))
        intro w10 hr10 hg10 hs10
        go_wp2_with fail
        exact bodyPost_ret (results_cell_tmp2 (fn := Try.f10) rfl _ _ R 29 _ (0, 0) _ rfl (.int .i64 1) rfl (.int .i64 0) rfl hr10 Try.underlying29 rfl (sbc_size _)) rfl ⟨by rw [Hc.out], by rw [hN]; exact below_grown hB9 hg10 (by omega) (by omega)⟩
end Go.Proofs.Ytoiphbdmmiikaaa
