/-
  Layer 7: the walk of the law PlanRoom.
-/
import Derived.Test.YtabigpbnacfajaaPlanO
import Derived.Deep.RegionHeld3
namespace Go.Proofs.Ytabigpbnacfajaa
open Go.RowKit
set_option linter.unusedVariables false

theorem same_plan {s t c a s' t' c' a' : Int} (h : okP s t c a = true) (h' : okP s' t' c' a' = true) {n n' : Int} (hn : n = idx s) (hn' : n' = idx s') :
    decide ([s, t, c, a, 5, 5 + n, 5 + n + t, 5 + n + t + c, 5 + n + t + c + a, 5 + n + t + c + a + 1, 5 + n + t + c + a + 1 + (n + t + 9), 5 + n + t + c + a + 1 + (n + t + 9) + s, n * 6, n + t + 9] = [s', t', c', a', 5, 5 + n', 5 + n' + t', 5 + n' + t' + c', 5 + n' + t' + c' + a', 5 + n' + t' + c' + a' + 1, 5 + n' + t' + c' + a' + 1 + (n' + t' + 9), 5 + n' + t' + c' + a' + 1 + (n' + t' + 9) + s', n' * 6, n' + t' + 9]) = decide ([s, t, c, a] = [s', t', c', a']) := by
  rw [decide_eq_decide]
  constructor
  · intro e
    simp only [List.cons.injEq] at e ⊢
    exact ⟨e.1, e.2.1, e.2.2.1, e.2.2.2.1, trivial⟩
  · intro e
    simp only [List.cons.injEq, and_true] at e
    obtain ⟨rfl, rfl, rfl, rfl⟩ := e
    obtain rfl : n = n' := hn.trans hn'.symm
    rfl

set_option maxRecDepth 100000 in
set_option maxHeartbeats 4000000 in
theorem room_any (w : World) (s t c a s' t' c' a' : Int) :
    Calls Try.prog 4 #[.agg (pc s t c a).toArray, .agg (pc s' t' c' a').toArray] w fun e w' => e = .returned (.bool true) ∧ Below w.heap.size w w' := by
  go_enter Try.func4, Try.ntmps4
  go_wp2_with ((with_reducible refine at_box 23 ?_); refine wpList_box_rowV rfl 23 _ rfl (pc s t c a) rfl ?_)
  intro w1 hr1 hb1 hz1
  go_wp2_with ((with_reducible refine at_box 23 ?_); refine wpList_box_rowV rfl 23 _ rfl (pc s' t' c' a') rfl ?_)
  intro w2 hq2 hb2 hz2
  have hp2 := hr1.below (by omega) hb2
  have hB2 : Below w.heap.size w w2 := hb1.trans (hb2.mono (by omega))
  have hlt : w.heap.size < w.heap.size + 1 := by omega
  have hz : w.heap.size + 1 < w2.heap.size := by omega
  clear hr1 hb1 hb2 hz1 hz2
  generalize hN1 : w.heap.size + 1 = N1 at *
  generalize hN : w.heap.size = N at *
  clear hN1
  go_wp2_with ((with_reducible refine at_load 23 ?_); refine load_plan rfl _ rfl N rfl hp2 ?_)
  refine (of_any _ _ _ _ _).mono ?_
  rintro e w3 ⟨rfl, hb3⟩
  have hz3 := hb3.size
  have hp3 := hp2.below (by omega) hb3
  have hq3 := hq2.below (by omega) hb3
  have hB3 : Below N w w3 := hB2.trans (hb3.mono (by omega))
  have hz3' : N1 < w3.heap.size := by omega
  clear hp2 hq2 hB2 hz hb3 hz3
  generalize hc1 : codeP s t c a = code1 at *
  have Hc1 := Lib.hid hc1
  clear hc1
  go_wp2_with ((with_reducible refine at_alloc 25 ?_); refine wpList_alloc_rowV rfl 25 rfl lc0 Try.zeroL ?_)
  intro w4 hl4 hb4 hz4
  have hp4 := hp3.below (by omega) hb4
  have hq4 := hq3.below (by omega) hb4
  have hB4 : Below N w w4 := hB3.trans (hb4.mono (by omega))
  clear hp3 hq3 hB3 hb4
  generalize hG : w3.heap.size = G at *
  clear hG
  go_wp2_with ((with_reducible refine at_store 25 ?_); refine store_layO rfl _ _ rfl G s t c a rfl rfl hl4 rfl ?_)
  intro w5 hl5 hg5 hz5
  have hp5 := hp4.keep hg5 (fun e => by injection e with e; omega)
  have hq5 := hq4.keep hg5 (fun e => by injection e with e; omega)
  have hB5 : Below N w w5 := below_grown hB4 hg5 (by omega) (by omega)
  have hz5' : G < w5.heap.size := by omega
  clear hp4 hq4 hB4 hg5 hl4 hz4 hz5
  go_wp2_with ((with_reducible refine at_load 23 ?_); refine load_plan rfl _ rfl N1 rfl hq5 ?_)
  refine (of_any _ _ _ _ _).mono ?_
  rintro e w6 ⟨rfl, hb6⟩
  have hz6 := hb6.size
  have hp6 := hp5.below (by omega) hb6
  have hq6 := hq5.below (by omega) hb6
  have hl6 := hl5.below (by omega) hb6
  have hB6 : Below N w w6 := hB5.trans (hb6.mono (by omega))
  have hz6' : G < w6.heap.size := by omega
  clear hp5 hq5 hl5 hB5 hb6 hz6 hz5'
  generalize hc2 : codeP s' t' c' a' = code2 at *
  have Hc2 := Lib.hid hc2
  clear hc2
  go_wp2_with ((with_reducible refine at_alloc 25 ?_); refine wpList_alloc_rowV rfl 25 rfl lc0 Try.zeroL ?_)
  intro w7 hm7 hb7 hz7
  have hp7 := hp6.below (by omega) hb7
  have hq7 := hq6.below (by omega) hb7
  have hl7 := hl6.below (by omega) hb7
  have hB7 : Below N w w7 := hB6.trans (hb7.mono (by omega))
  clear hp6 hq6 hl6 hB6 hb7
  generalize hM : w6.heap.size = M at *
  clear hM
  go_wp2_with ((with_reducible refine at_store 25 ?_); refine store_layO rfl _ _ rfl M s' t' c' a' rfl rfl hm7 rfl ?_)
  intro w8 hm8 hg8 hz8
  have hp8 := hp7.keep hg8 (fun e => by injection e with e; omega)
  have hq8 := hq7.keep hg8 (fun e => by injection e with e; omega)
  have hl8 := hl7.keep hg8 (fun e => by injection e with e; omega)
  have hB8 : Below N w w8 := below_grown hB7 hg8 (by omega) (by omega)
  have hz8' : M < w8.heap.size := by omega
  clear hp7 hq7 hl7 hB7 hg8 hm7 hz7 hz8
  cases hok : okP s t c a
  · obtain rfl : code1 = 2 := by rw [← Hc1.out, codeP, hok]; rfl
    go_wp2_with fail
    refine (works_any _).mono ?_
    rintro e w9 ⟨rfl, hb9⟩
    have hB9 : Below N w w9 := hB8.trans (hb9.mono (by omega))
    go_wp2_with fail
    go_ret
    exact ⟨rfl, by rw [hN]; exact hB9⟩
  cases hok' : okP s' t' c' a'
  · obtain rfl : code1 = 0 := by rw [← Hc1.out, codeP, hok]; rfl
    obtain rfl : code2 = 2 := by rw [← Hc2.out, codeP, hok']; rfl
    go_wp2_with fail
    refine (works_any _).mono ?_
    rintro e w9 ⟨rfl, hb9⟩
    have hB9 : Below N w w9 := hB8.trans (hb9.mono (by omega))
    go_wp2_with fail
    go_ret
    exact ⟨rfl, by rw [hN]; exact hB9⟩
  obtain rfl : code1 = 0 := by rw [← Hc1.out, codeP, hok]; rfl
  obtain rfl : code2 = 0 := by rw [← Hc2.out, codeP, hok']; rfl
  have hSm := same_plan hok hok' rfl rfl
  have hl : layO s t c a = lay s t c a := by rw [layO, hok]; rfl
  have hm : layO s' t' c' a' = lay s' t' c' a' := by rw [layO, hok']; rfl
  rw [hl, lay] at hl8
  rw [hm, lay] at hm8
  clear hl hm
  obtain ⟨⟨hs1, hs2⟩, ⟨ht1, ht2⟩, ⟨hc1, hc2⟩, ha1, ha2⟩ := okP_iff.1 hok
  have hi1 : 2 * s ≤ idx s * 6 := by unfold idx; omega
  have hi2 : idx s * 6 < 2 * s + 6 := by unfold idx; omega
  generalize idx s = n at *
  generalize idx s' = n' at *
  obtain ⟨b, hDb⟩ : ∃ b, decide ([s, t, c, a] = [s', t', c', a']) = b := ⟨_, rfl⟩
  rw [hDb] at hSm
  clear hok hok' Hc1 Hc2
  have hn2 : n ≤ 67 := by omega
  go_wp2_with fail
  have hPd : RowV w8.drew N 23 _ := hp8
  have hQd : RowV w8.drew N1 23 _ := hq8
  have hLd : RowV w8.drew G 25 _ := hl8
  have hMd : RowV w8.drew M 25 _ := hm8
  have hBd : Below N w w8.drew := hB8.drew
  have hMs : M < w8.drew.heap.size := hz8'
  clear hp8 hq8 hl8 hm8 hB8 hz8'
  obtain ⟨wd, hwd⟩ : ∃ wd, w8.drew = wd := ⟨_, rfl⟩
  rw [hwd] at hPd hQd hLd hMd hBd hMs
  have hSc : Below wd.heap.size wd w8.drew := by rw [hwd]; exact Below.refl _ _
  refine wp_region_held_drew (S := fun W => Below wd.heap.size wd W) (by kernel_rfl) hSc (fun hHeld => ?_)
  rw [hwd] at hSc hHeld ⊢
  clear hwd
  have ltN : N < wd.heap.size := by omega
  have ltN1 : N1 < wd.heap.size := by omega
  have ltG : G < wd.heap.size := by omega
  have dS := hPd.cell (i := 0) rfl
  have d9 := hLd.cell (i := 12) rfl
  have d10 := hLd.cell (i := 13) rfl
  have d3 := hLd.cell (i := 6) rfl
  have d1 := hLd.cell (i := 4) rfl
  have d8 := hLd.cell (i := 11) rfl
  have szP := (pc_size s t c a).trans (by rw [List.size_toArray])
  have szL := Try.sizeL
  refine wpAnyH_take (i := 0) (oi := ⟨_, _, _, _, _, _⟩) (v := ?_) rfl (by kernel_rfl) (by kernel_rfl) (by kernel_rfl) (fun _ _ _ h => h) (Or.inl ⟨by rfl, ?_⟩) (by assumption) ?_
  rotate_left
  · intro W hSW; go_simp; try with_reducible rfl
  try simp only [Act.put, List.setIfInBounds_toArray, List.set_cons_zero, List.set_cons_succ]
  refine wpAnyH_take (i := 1) (oi := ⟨_, _, _, _, _, _⟩) (v := ?_) rfl (by kernel_rfl) (by kernel_rfl) (by kernel_rfl) (fun _ _ _ h => h) (Or.inl ⟨by rfl, ?_⟩) (by assumption) ?_
  rotate_left
  · intro W hSW; refine exec_load_int (.tmp 26) ?_ G 12 ?_ (n * 6) ((hSW.cell (p := ⟨G, 12, none⟩) ltG).trans d9) <;> rfl
  try simp only [Act.put, List.setIfInBounds_toArray, List.set_cons_zero, List.set_cons_succ]
  refine wpAnyH_take (i := 2) (oi := ⟨_, _, _, _, _, _⟩) (v := ?_) rfl (by kernel_rfl) (by kernel_rfl) (by kernel_rfl) (fun _ _ _ h => h) (Or.inl ⟨by rfl, ?_⟩) (by assumption) ?_
  rotate_left
  · intro W hSW; go_simp; try with_reducible rfl
  try simp only [Act.put, List.setIfInBounds_toArray, List.set_cons_zero, List.set_cons_succ]
  refine wpAnyH_take (i := 3) (oi := ⟨_, _, _, _, _, _⟩) (v := ?_) rfl (by kernel_rfl) (by kernel_rfl) (by kernel_rfl) (fun _ _ _ h => h) (Or.inl ⟨by rfl, ?_⟩) (by assumption) ?_
  rotate_left
  · intro W hSW; refine exec_load_int (.tmp 28) ?_ N 0 ?_ (s) ((hSW.cell (p := ⟨N, 0, none⟩) ltN).trans dS) <;> rfl
  try simp only [Act.put, List.setIfInBounds_toArray, List.set_cons_zero, List.set_cons_succ]
  refine wpAnyH_take (i := 4) (oi := ⟨_, _, _, _, _, _⟩) (v := .int .i64 (2 * s)) rfl (by kernel_rfl) (by kernel_rfl) (by kernel_rfl) (fun _ _ _ h => h) (Or.inl ⟨by rfl, ?_⟩) (by assumption) ?_
  · intro W hSW; go_simp; first | done | exact IntWalk.i64_in _ (by omega) | (rw [IntWalk.i64_in _ (by omega)]; omega)
  try simp only [Act.put, List.setIfInBounds_toArray, List.set_cons_zero, List.set_cons_succ]
  refine wpAnyH_take (i := 5) (oi := ⟨_, _, _, _, _, _⟩) (v := .bool true) rfl (by kernel_rfl) (by kernel_rfl) (by kernel_rfl) (fun _ _ _ h => h) (Or.inl ⟨by rfl, ?_⟩) (by assumption) ?_
  · intro W hSW; go_simp; first | done | omega | (simp; done) | (simp; omega)
  try simp only [Act.put, List.setIfInBounds_toArray, List.set_cons_zero, List.set_cons_succ]
  refine wpAnyH_take (i := 6) (oi := ⟨_, _, _, _, _, _⟩) (v := ?_) rfl (by kernel_rfl) (by kernel_rfl) (by kernel_rfl) (fun _ _ _ h => h) (Or.inl ⟨by rfl, ?_⟩) (by assumption) ?_
  rotate_left
  · intro W hSW; go_simp; try with_reducible rfl
  try simp only [Act.put, List.setIfInBounds_toArray, List.set_cons_zero, List.set_cons_succ]
  refine wpAnyH_take (i := 7) (oi := ⟨_, _, _, _, _, _⟩) (v := ?_) rfl (by kernel_rfl) (by kernel_rfl) (by kernel_rfl) (fun _ _ _ h => h) (Or.inl ⟨by rfl, ?_⟩) (by assumption) ?_
  rotate_left
  · intro W hSW; go_simp; try with_reducible rfl
  try simp only [Act.put, List.setIfInBounds_toArray, List.set_cons_zero, List.set_cons_succ]
  refine wpAnyH_take (i := 8) (oi := ⟨_, _, _, _, _, _⟩) (v := ?_) rfl (by kernel_rfl) (by kernel_rfl) (by kernel_rfl) (fun _ _ _ h => h) (Or.inl ⟨by rfl, ?_⟩) (by assumption) ?_
  rotate_left
  · intro W hSW; refine exec_load_int (.tmp 33) ?_ G 12 ?_ (n * 6) ((hSW.cell (p := ⟨G, 12, none⟩) ltG).trans d9) <;> rfl
  try simp only [Act.put, List.setIfInBounds_toArray, List.set_cons_zero, List.set_cons_succ]
  refine wpAnyH_take (i := 9) (oi := ⟨_, _, _, _, _, _⟩) (v := ?_) rfl (by kernel_rfl) (by kernel_rfl) (by kernel_rfl) (fun _ _ _ h => h) (Or.inl ⟨by rfl, ?_⟩) (by assumption) ?_
  rotate_left
  · intro W hSW; go_simp; try with_reducible rfl
  try simp only [Act.put, List.setIfInBounds_toArray, List.set_cons_zero, List.set_cons_succ]
  refine wpAnyH_take (i := 10) (oi := ⟨_, _, _, _, _, _⟩) (v := ?_) rfl (by kernel_rfl) (by kernel_rfl) (by kernel_rfl) (fun _ _ _ h => h) (Or.inl ⟨by rfl, ?_⟩) (by assumption) ?_
  rotate_left
  · intro W hSW; refine exec_load_int (.tmp 35) ?_ N 0 ?_ (s) ((hSW.cell (p := ⟨N, 0, none⟩) ltN).trans dS) <;> rfl
  try simp only [Act.put, List.setIfInBounds_toArray, List.set_cons_zero, List.set_cons_succ]
  refine wpAnyH_take (i := 11) (oi := ⟨_, _, _, _, _, _⟩) (v := .int .i64 (2 * s)) rfl (by kernel_rfl) (by kernel_rfl) (by kernel_rfl) (fun _ _ _ h => h) (Or.inl ⟨by rfl, ?_⟩) (by assumption) ?_
  · intro W hSW; go_simp; first | done | exact IntWalk.i64_in _ (by omega) | (rw [IntWalk.i64_in _ (by omega)]; omega)
  try simp only [Act.put, List.setIfInBounds_toArray, List.set_cons_zero, List.set_cons_succ]
  refine wpAnyH_take (i := 12) (oi := ⟨_, _, _, _, _, _⟩) (v := .int .i64 (2 * s + 6)) rfl (by kernel_rfl) (by kernel_rfl) (by kernel_rfl) (fun _ _ _ h => h) (Or.inl ⟨by rfl, ?_⟩) (by assumption) ?_
  · intro W hSW; go_simp; first | done | exact IntWalk.i64_in _ (by omega) | (rw [IntWalk.i64_in _ (by omega)]; omega)
  try simp only [Act.put, List.setIfInBounds_toArray, List.set_cons_zero, List.set_cons_succ]
  refine wpAnyH_take (i := 13) (oi := ⟨_, _, _, _, _, _⟩) (v := .bool true) rfl (by kernel_rfl) (by kernel_rfl) (by kernel_rfl) (fun _ _ _ h => h) (Or.inl ⟨by rfl, ?_⟩) (by assumption) ?_
  · intro W hSW; go_simp; first | done | omega | (simp; done) | (simp; omega)
  try simp only [Act.put, List.setIfInBounds_toArray, List.set_cons_zero, List.set_cons_succ]
  refine wpAnyH_take (i := 14) (oi := ⟨_, _, _, _, _, _⟩) (v := ?_) rfl (by kernel_rfl) (by kernel_rfl) (by kernel_rfl) (fun _ _ _ h => h) (Or.inl ⟨by rfl, ?_⟩) (by assumption) ?_
  rotate_left
  · intro W hSW; go_simp; try with_reducible rfl
  try simp only [Act.put, List.setIfInBounds_toArray, List.set_cons_zero, List.set_cons_succ]
  refine wpAnyH_take (i := 15) (oi := ⟨_, _, _, _, _, _⟩) (v := ?_) rfl (by kernel_rfl) (by kernel_rfl) (by kernel_rfl) (fun _ _ _ h => h) (Or.inl ⟨by rfl, ?_⟩) (by assumption) ?_
  rotate_left
  · intro W hSW; go_simp; try with_reducible rfl
  try simp only [Act.put, List.setIfInBounds_toArray, List.set_cons_zero, List.set_cons_succ]
  refine wpAnyH_take (i := 16) (oi := ⟨_, _, _, _, _, _⟩) (v := ?_) rfl (by kernel_rfl) (by kernel_rfl) (by kernel_rfl) (fun _ _ _ h => h) (Or.inl ⟨by rfl, ?_⟩) (by assumption) ?_
  rotate_left
  · intro W hSW; go_simp; try with_reducible rfl
  try simp only [Act.put, List.setIfInBounds_toArray, List.set_cons_zero, List.set_cons_succ]
  refine wpAnyH_take (i := 17) (oi := ⟨_, _, _, _, _, _⟩) (v := ?_) rfl (by kernel_rfl) (by kernel_rfl) (by kernel_rfl) (fun _ _ _ h => h) (Or.inl ⟨by rfl, ?_⟩) (by assumption) ?_
  rotate_left
  · intro W hSW; refine exec_load_int (.tmp 42) ?_ G 13 ?_ (n + t + 9) ((hSW.cell (p := ⟨G, 13, none⟩) ltG).trans d10) <;> rfl
  try simp only [Act.put, List.setIfInBounds_toArray, List.set_cons_zero, List.set_cons_succ]
  refine wpAnyH_take (i := 18) (oi := ⟨_, _, _, _, _, _⟩) (v := ?_) rfl (by kernel_rfl) (by kernel_rfl) (by kernel_rfl) (fun _ _ _ h => h) (Or.inl ⟨by rfl, ?_⟩) (by assumption) ?_
  rotate_left
  · intro W hSW; go_simp; try with_reducible rfl
  try simp only [Act.put, List.setIfInBounds_toArray, List.set_cons_zero, List.set_cons_succ]
  refine wpAnyH_take (i := 19) (oi := ⟨_, _, _, _, _, _⟩) (v := ?_) rfl (by kernel_rfl) (by kernel_rfl) (by kernel_rfl) (fun _ _ _ h => h) (Or.inl ⟨by rfl, ?_⟩) (by assumption) ?_
  rotate_left
  · intro W hSW; refine exec_load_int (.tmp 44) ?_ G 6 ?_ (5 + n + t) ((hSW.cell (p := ⟨G, 6, none⟩) ltG).trans d3) <;> rfl
  try simp only [Act.put, List.setIfInBounds_toArray, List.set_cons_zero, List.set_cons_succ]
  refine wpAnyH_take (i := 20) (oi := ⟨_, _, _, _, _, _⟩) (v := ?_) rfl (by kernel_rfl) (by kernel_rfl) (by kernel_rfl) (fun _ _ _ h => h) (Or.inl ⟨by rfl, ?_⟩) (by assumption) ?_
  rotate_left
  · intro W hSW; go_simp; try with_reducible rfl
  try simp only [Act.put, List.setIfInBounds_toArray, List.set_cons_zero, List.set_cons_succ]
  refine wpAnyH_take (i := 21) (oi := ⟨_, _, _, _, _, _⟩) (v := ?_) rfl (by kernel_rfl) (by kernel_rfl) (by kernel_rfl) (fun _ _ _ h => h) (Or.inl ⟨by rfl, ?_⟩) (by assumption) ?_
  rotate_left
  · intro W hSW; refine exec_load_int (.tmp 46) ?_ G 4 ?_ (5) ((hSW.cell (p := ⟨G, 4, none⟩) ltG).trans d1) <;> rfl
  try simp only [Act.put, List.setIfInBounds_toArray, List.set_cons_zero, List.set_cons_succ]
  refine wpAnyH_take (i := 22) (oi := ⟨_, _, _, _, _, _⟩) (v := .int .i64 (n + t)) rfl (by kernel_rfl) (by kernel_rfl) (by kernel_rfl) (fun _ _ _ h => h) (Or.inl ⟨by rfl, ?_⟩) (by assumption) ?_
  · intro W hSW; go_simp; first | done | exact IntWalk.i64_in _ (by omega) | (rw [IntWalk.i64_in _ (by omega)]; omega)
  try simp only [Act.put, List.setIfInBounds_toArray, List.set_cons_zero, List.set_cons_succ]
  refine wpAnyH_take (i := 23) (oi := ⟨_, _, _, _, _, _⟩) (v := .int .i64 (n + t + 9)) rfl (by kernel_rfl) (by kernel_rfl) (by kernel_rfl) (fun _ _ _ h => h) (Or.inl ⟨by rfl, ?_⟩) (by assumption) ?_
  · intro W hSW; go_simp; first | done | exact IntWalk.i64_in _ (by omega) | (rw [IntWalk.i64_in _ (by omega)]; omega)
  try simp only [Act.put, List.setIfInBounds_toArray, List.set_cons_zero, List.set_cons_succ]
  refine wpAnyH_take (i := 24) (oi := ⟨_, _, _, _, _, _⟩) (v := .bool true) rfl (by kernel_rfl) (by kernel_rfl) (by kernel_rfl) (fun _ _ _ h => h) (Or.inl ⟨by rfl, ?_⟩) (by assumption) ?_
  · intro W hSW; go_simp; first | done | omega | (simp; done) | (simp; omega)
  try simp only [Act.put, List.setIfInBounds_toArray, List.set_cons_zero, List.set_cons_succ]
  refine wpAnyH_take (i := 25) (oi := ⟨_, _, _, _, _, _⟩) (v := ?_) rfl (by kernel_rfl) (by kernel_rfl) (by kernel_rfl) (fun _ _ _ h => h) (Or.inl ⟨by rfl, ?_⟩) (by assumption) ?_
  rotate_left
  · intro W hSW; go_simp; try with_reducible rfl
  try simp only [Act.put, List.setIfInBounds_toArray, List.set_cons_zero, List.set_cons_succ]
  refine wpAnyH_take (i := 26) (oi := ⟨_, _, _, _, _, _⟩) (v := ?_) rfl (by kernel_rfl) (by kernel_rfl) (by kernel_rfl) (fun _ _ _ h => h) (Or.inl ⟨by rfl, ?_⟩) (by assumption) ?_
  rotate_left
  · intro W hSW; go_simp; try with_reducible rfl
  try simp only [Act.put, List.setIfInBounds_toArray, List.set_cons_zero, List.set_cons_succ]
  refine wpAnyH_take (i := 27) (oi := ⟨_, _, _, _, _, _⟩) (v := ?_) rfl (by kernel_rfl) (by kernel_rfl) (by kernel_rfl) (fun _ _ _ h => h) (Or.inl ⟨by rfl, ?_⟩) (by assumption) ?_
  rotate_left
  · intro W hSW; go_simp; try with_reducible rfl
  try simp only [Act.put, List.setIfInBounds_toArray, List.set_cons_zero, List.set_cons_succ]
  refine wpAnyH_take (i := 28) (oi := ⟨_, _, _, _, _, _⟩) (v := ?_) rfl (by kernel_rfl) (by kernel_rfl) (by kernel_rfl) (fun _ _ _ h => h) (Or.inl ⟨by rfl, ?_⟩) (by assumption) ?_
  rotate_left
  · intro W hSW; refine exec_load_int (.tmp 53) ?_ G 11 ?_ (5 + n + t + c + a + 1 + (n + t + 9) + s) ((hSW.cell (p := ⟨G, 11, none⟩) ltG).trans d8) <;> rfl
  try simp only [Act.put, List.setIfInBounds_toArray, List.set_cons_zero, List.set_cons_succ]
  refine wpAnyH_take (i := 29) (oi := ⟨_, _, _, _, _, _⟩) (v := .bool true) rfl (by kernel_rfl) (by kernel_rfl) (by kernel_rfl) (fun _ _ _ h => h) (Or.inl ⟨by rfl, ?_⟩) (by assumption) ?_
  · intro W hSW; go_simp; first | done | omega | (simp; done) | (simp; omega)
  try simp only [Act.put, List.setIfInBounds_toArray, List.set_cons_zero, List.set_cons_succ]
  refine wpAnyH_take (i := 30) (oi := ⟨_, _, _, _, _, _⟩) (v := ?_) rfl (by kernel_rfl) (by kernel_rfl) (by kernel_rfl) (fun _ _ _ h => h) (Or.inl ⟨by rfl, ?_⟩) (by assumption) ?_
  rotate_left
  · intro W hSW; go_simp; try with_reducible rfl
  try simp only [Act.put, List.setIfInBounds_toArray, List.set_cons_zero, List.set_cons_succ]
  refine wpAnyH_take (i := 31) (oi := ⟨_, _, _, _, _, _⟩) (v := ?_) rfl (by kernel_rfl) (by kernel_rfl) (by kernel_rfl) (fun _ _ _ h => h) (Or.inl ⟨by rfl, ?_⟩) (by assumption) ?_
  rotate_left
  · intro W hSW; go_simp; try with_reducible rfl
  try simp only [Act.put, List.setIfInBounds_toArray, List.set_cons_zero, List.set_cons_succ]
  refine wpAnyH_take (i := 32) (oi := ⟨_, _, _, _, _, _⟩) (v := ?_) rfl (by kernel_rfl) (by kernel_rfl) (by kernel_rfl) (fun _ _ _ h => h) (Or.inl ⟨by rfl, ?_⟩) (by assumption) ?_
  rotate_left
  · intro W hSW; refine exec_load_row 25 (.tmp 5) ?_ G ?_ _ (hLd.below ltG hSW) Try.underlying25 rfl szL <;> rfl
  try simp only [Act.put, List.setIfInBounds_toArray, List.set_cons_zero, List.set_cons_succ]
  refine wpAnyH_take (i := 33) (oi := ⟨_, _, _, _, _, _⟩) (v := ?_) rfl (by kernel_rfl) (by kernel_rfl) (by kernel_rfl) (fun _ _ _ h => h) (Or.inl ⟨by rfl, ?_⟩) (by assumption) ?_
  rotate_left
  · intro W hSW; refine exec_load_row 25 (.tmp 7) ?_ M ?_ _ (hMd.below hMs hSW) Try.underlying25 rfl szL <;> rfl
  try simp only [Act.put, List.setIfInBounds_toArray, List.set_cons_zero, List.set_cons_succ]
  refine wpAnyH_take (i := 35) (oi := ⟨_, _, _, _, _, _⟩) (v := ?_) rfl (by kernel_rfl) (by kernel_rfl) (by kernel_rfl) (fun _ _ _ h => h) (Or.inl ⟨by rfl, ?_⟩) (by assumption) ?_
  rotate_left
  · intro W hSW; refine exec_load_row 23 (.tmp 2) ?_ N ?_ _ (hPd.below ltN hSW) Try.underlying23 rfl Try.sizeP <;> rfl
  try simp only [Act.put, List.setIfInBounds_toArray, List.set_cons_zero, List.set_cons_succ]
  refine wpAnyH_take (i := 36) (oi := ⟨_, _, _, _, _, _⟩) (v := ?_) rfl (by kernel_rfl) (by kernel_rfl) (by kernel_rfl) (fun _ _ _ h => h) (Or.inl ⟨by rfl, ?_⟩) (by assumption) ?_
  rotate_left
  · intro W hSW; refine exec_load_row 23 (.tmp 3) ?_ N1 ?_ _ (hQd.below ltN1 hSW) Try.underlying23 rfl Try.sizeP <;> rfl
  try simp only [Act.put, List.setIfInBounds_toArray, List.set_cons_zero, List.set_cons_succ]
  refine wpAnyH_take (i := 37) (oi := ⟨_, _, _, _, _, _⟩) (v := ?_) rfl (by kernel_rfl) (by kernel_rfl) (by kernel_rfl) (fun _ _ _ h => h) (Or.inl ⟨by rfl, ?_⟩) (by assumption) ?_
  rotate_left
  · intro W hSW; refine exec_eqlS 23 (.tmp 61) (.tmp 62) 23 ?_ (by kernel_rfl) ?_ ?_ (eq_plan W s t c a s' t' c' a') <;> rfl
  try simp only [Act.put, List.setIfInBounds_toArray, List.set_cons_zero, List.set_cons_succ]
  rw [hDb]
  refine wpAnyH_ready (rs := [34]) (by kernel_rfl) (by simp) ?_
  refine AllReadyH.cons (o := ⟨_, _, _, _, _, _⟩) rfl (fun K hK => ?_) AllReadyH.nil
  go_simp
  refine ((same_any _ _ _ _ _ _ _ _ _ _ _ _ _ _ _ _ _ _ _ _ _ _ _ _ _ _ _ _ _)).mono ?_
  rintro e wx1 ⟨rfl, hb⟩
  try simp only []
  have hS1 := hSc.trans (hb.mono hSc.size)
  refine hK.out _ _ hS1 (fun hHeld => ?_)
  clear hK K hb hSc
  have hSc := hS1
  clear hS1
  try simp only [Act.put, List.setIfInBounds_toArray, List.set_cons_zero, List.set_cons_succ]
  rw [hSm]
  refine wpAnyH_take (i := 38) (oi := ⟨_, _, _, _, _, _⟩) (v := .bool true) rfl (by kernel_rfl) (by kernel_rfl) (by kernel_rfl) (fun _ _ _ h => h) (Or.inl ⟨by rfl, ?_⟩) (by assumption) ?_
  · intro W hSW; go_simp; first | done | omega | (simp; done) | (simp; omega)
  try simp only [Act.put, List.setIfInBounds_toArray, List.set_cons_zero, List.set_cons_succ]
  refine wpAnyH_take (i := 39) (oi := ⟨_, _, _, _, _, _⟩) (v := ?_) rfl (by kernel_rfl) (by kernel_rfl) (by kernel_rfl) (fun _ _ _ h => h) (Or.inl ⟨by rfl, ?_⟩) (by assumption) ?_
  rotate_left
  · intro W hSW; go_simp; try with_reducible rfl
  try simp only [Act.put, List.setIfInBounds_toArray, List.set_cons_zero, List.set_cons_succ]
  refine wpAnyH_take (i := 40) (oi := ⟨_, _, _, _, _, _⟩) (v := ?_) rfl (by kernel_rfl) (by kernel_rfl) (by kernel_rfl) (fun _ _ _ h => h) (Or.inl ⟨by rfl, ?_⟩) (by assumption) ?_
  rotate_left
  · intro W hSW; go_simp; try with_reducible rfl
  try simp only [Act.put, List.setIfInBounds_toArray, List.set_cons_zero, List.set_cons_succ]
  refine wpAnyH_ready (rs := [41]) (by kernel_rfl) (by simp) ?_
  refine AllReadyH.cons (o := ⟨_, _, _, _, _, _⟩) rfl (fun K hK => ?_) AllReadyH.nil
  go_simp
  refine (works_any _).mono ?_
  rintro e wx2 ⟨rfl, hb⟩
  try simp only []
  have hS2 := hSc.trans (hb.mono hSc.size)
  refine hK.out _ _ hS2 (fun hHeld => ?_)
  clear hK K hb hSc
  have hSc := hS2
  clear hS2
  try simp only [Act.put, List.setIfInBounds_toArray, List.set_cons_zero, List.set_cons_succ]
  refine wpAnyH_take (i := 42) (oi := ⟨_, _, _, _, _, _⟩) (v := ?_) rfl (by kernel_rfl) (by kernel_rfl) (by kernel_rfl) (fun _ _ _ h => h) (Or.inl ⟨by rfl, ?_⟩) (by assumption) ?_
  rotate_left
  · intro W hSW; go_simp; try with_reducible rfl
  try simp only [Act.put, List.setIfInBounds_toArray, List.set_cons_zero, List.set_cons_succ]
  refine wpAnyH_take (i := 43) (oi := ⟨_, _, _, _, _, _⟩) (v := ?_) rfl (by kernel_rfl) (by kernel_rfl) (by kernel_rfl) (fun _ _ _ h => h) (Or.inl ⟨by rfl, ?_⟩) (by assumption) ?_
  rotate_left
  · intro W hSW; go_simp; try with_reducible rfl
  try simp only [Act.put, List.setIfInBounds_toArray, List.set_cons_zero, List.set_cons_succ]
  refine wpAnyH_done (by kernel_rfl) ?_ _
  go_wp2_with fail
  go_ret
  exact ⟨rfl, by rw [hN]; exact hBd.trans (hSc.mono (by omega))⟩
end Go.Proofs.Ytabigpbnacfajaa
