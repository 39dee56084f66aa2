/-
  Layer 5, the law TrapEach: the walk.
-/
import Derived.Test.YtkogolgaggdacaaEachC
import Derived.Deep.RegionHeld
namespace Go.Proofs.Ytkogolgaggdacaa
open Go.RowKit
set_option linter.unusedVariables false

theorem LiesV.but {w w' : World} {B : Nat} {A : Option Addr} {cs : List Value} {L : List Nat} {B' : Nat} (h : LiesV w B A cs) (hb : But L B' w w') (hB : B ≤ B') (hL : ∀ k ∈ L, B ≤ k) : LiesV w' B A cs :=
  h.keep fun p hp => World.cell?_of_block (hb.block p.block (by omega) (fun hm => absurd (hL _ hm) (by omega)))

/-- Behind the two 'Each': the three codes. -/
theorem three_code (a b d : Int) : (if codeN a ≠ 0 then codeN a else if codeN b ≠ 0 then codeN b else codeN d) = code0 [a, b, d] := by
  unfold code0
  by_cases ha : a = 0
  · subst ha
    by_cases hb : b = 0
    · subst hb
      by_cases hd : d = 0
      · subst hd; rfl
      · simp [fst0, hd, codeN]
    · have := (codeN_ne b).2 hb
      simp [fst0, hb, this]
      simp [codeN]
  · have := (codeN_ne a).2 ha
    simp [fst0, ha, this]

set_option maxHeartbeats 1000000 in
theorem eachlaw_any (A : Option Addr) (n c : Nat) (l : List Int) (w : World) (B : Nat) (h : LiesV w B A (ci l)) (hB : B ≤ w.heap.size) (hn : n = l.length) (hnc : n ≤ c) (hcm : c ≤ 9223372036854775807) :
    Calls Try.prog 4 #[.slice A n c] w fun e w' => e = .returned (.bool true) ∧ Below w.heap.size w w' := by
  have hmf : ∀ (fn : Fn) (first cap : Array Value) (w : World), (Instr.makeFunc fn first cap).run Try.prog w = .ok (.func fn first cap) w := fun _ _ _ _ => rfl
  have Hn := Lib.hid hn
  have Hl := Lib.hid h
  clear hn h
  by_cases h200 : 200 < n
  · go_enter Try.func4, Try.ntmps4
    go_wp2_with fail
    refine Calls.mono (works_any _) ?_
    rintro e w1 ⟨rfl, hb1⟩
    have HB := Lib.hid (((Below.refl w.heap.size w).alloc (Nat.le_refl _) (.cells #[.slice A n c] 32)).trans (hb1.mono (by simp)))
    clear hb1
    go_wp2
    go_ret
    exact ⟨rfl, HB.out⟩
  go_enter Try.func4, Try.ntmps4
  go_wp2_with fail
  obtain ⟨w0, hw0⟩ : ∃ w0, w0 = (w.alloc (.cells #[.slice A n c] 32)).alloc (.cells #[.int .i64 0] 3) := ⟨_, rfl⟩
  have g0 : One w0 w.heap.size (.slice A n c) 32 := by rw [hw0]; exact (One.new w _ _).alloc _
  have g1 : One w0 (w.heap.size + 1) (.int .i64 0) 3 := by
    have := One.new (w.alloc (.cells #[.slice A n c] 32)) (.int .i64 0) 3
    rw [hw0]; simpa using this
  have hb0 : Below w.heap.size w w0 := by rw [hw0]; exact ((Below.refl _ _).alloc (Nat.le_refl _) _).alloc (by simp) _
  rw [← hw0]
  have hs0 : w0.heap.size = w.heap.size + 2 := by rw [hw0]; simp
  have hl0 : LiesV w0 B A (ci l) := Hl.out.keep fun p hp => hb0.cell (by omega)
  refine Calls.mono (each_any n (by omega) 15 #[.pointer (some ⟨w.heap.size, 0, none⟩), .pointer (some ⟨w.heap.size + 1, 0, none⟩)] [w.heap.size + 1] w0 (fun i => codeN (l.getD i 0)) (fun i => okN (l.getD i 0))
    (fun i w' => One w' (w.heap.size + 1) (.int .i64 (i : Int)) 3) (by simp; omega) (ent Try.func15 (by kernel_rfl) rfl) (fun i w1 w2 h hb => h.below hb (by omega)) g1
    (fun i w' hi hb hI => e15_any A n c l w' B w.heap.size (w.heap.size + 1) i (hl0.but hb (by omega) (by simp; omega)) Hn.out (by omega) hi (g0.but hb (by omega) (by simp)) hI)) ?_
  rintro e w1 ⟨k, hk, hoks, he, hb1, hone⟩
  obtain ⟨hkf, rfl⟩ : k = fst0 l ∧ e = .returned (.tuple #[.int .i64 (k : Int), .int .i64 (code0 l)]) := by
    have hz : ∀ i, i < k → l.getD i 0 = 0 := fun i hi => (okN_iff _).1 (hoks i hi)
    rcases he with ⟨rfl, rfl⟩ | ⟨hlt, hno, rfl⟩
    · have hf := fst0_unique l k (by rw [← Hn.out]; exact hk) hz (.inl Hn.out)
      refine ⟨hf, ?_⟩
      have : code0 l = 0 := by unfold code0; rw [← hf, Hn.out]; simp [codeN]
      rw [this]
    · have hf := fst0_unique l k (by rw [← Hn.out]; exact hk) hz (.inr ((okN_false _).1 hno))
      exact ⟨hf, by unfold code0; rw [← hf]⟩
  clear he hoks
  have B1 : Hid (Below w.heap.size w w1) := hb0.trans ((hb1.less (by omega)).below (by simp))
  have L1 := Lib.hid (hl0.but hb1 (by omega) (by simp; omega))
  have O0 := g0.but hb1 (by omega) (by simp)
  have q0 := O0.cell
  have q1 := hone.cell
  have HKF := Lib.hid hkf
  have hs1 : w.heap.size + 2 ≤ w1.heap.size := by rw [← hs0]; exact hb1.size
  have q0' := (((O0.alloc (.cells #[.int .i64 0] 3)).alloc (.cells #[.int .i64 0] 3)).alloc (.cells #[.int .i64 0] 3)).cell
  have L3 := Lib.hid (((L1.out.alloc (by omega) (.cells #[.int .i64 0] 3)).alloc (by simp; omega) (.cells #[.int .i64 0] 3)).alloc (by simp; omega) (.cells #[.int .i64 0] 3))
  clear hkf hb1 hone g0 g1 hb0 hl0 O0 hw0 hs0
  go_wp2_with fail
  refine Calls.mono (reach_any A n c l w1 B L1.out Hn.out (by omega)) ?_
  rintro e w2 ⟨rfl, rfl⟩
  rw [← HKF.out]
  have a0 : One (((w1.alloc (.cells #[.int .i64 0] 3)).alloc (.cells #[.int .i64 0] 3)).alloc (.cells #[.int .i64 0] 3)) w1.heap.size (.int .i64 0) 3 := ((One.new w1 _ _).alloc _).alloc _
  have a1 : One (((w1.alloc (.cells #[.int .i64 0] 3)).alloc (.cells #[.int .i64 0] 3)).alloc (.cells #[.int .i64 0] 3)) (w1.heap.size + 1) (.int .i64 0) 3 := by
    have := (One.new (w1.alloc (.cells #[.int .i64 0] 3)) (.int .i64 0) 3).alloc (.cells #[.int .i64 0] 3)
    simpa using this
  have a2 : One (((w1.alloc (.cells #[.int .i64 0] 3)).alloc (.cells #[.int .i64 0] 3)).alloc (.cells #[.int .i64 0] 3)) (w1.heap.size + 1 + 1) (.int .i64 0) 3 := by
    have := One.new ((w1.alloc (.cells #[.int .i64 0] 3)).alloc (.cells #[.int .i64 0] 3)) (.int .i64 0) 3
    simpa using this
  have hb3 : Below w.heap.size w (((w1.alloc (.cells #[.int .i64 0] 3)).alloc (.cells #[.int .i64 0] 3)).alloc (.cells #[.int .i64 0] 3)) := ((B1.out.alloc (by omega) _).alloc (by simp; omega) _).alloc (by simp; omega) _
  have hs3 : (((w1.alloc (.cells #[.int .i64 0] 3)).alloc (.cells #[.int .i64 0] 3)).alloc (.cells #[.int .i64 0] 3)).heap.size = w1.heap.size + 1 + 1 + 1 := by simp
  have A0 := Lib.hid a0
  have A1 := Lib.hid a1
  have A2 := Lib.hid a2
  have B3 := Lib.hid hb3
  have S3 := Lib.hid hs3
  clear a0 a1 a2 hb3 hs3
  by_cases h2 : 2 < n
  · obtain ⟨b, o, rfl, hbB, c0⟩ := L3.out.at_ (ci_get (show 0 < l.length by rw [← Hn.out]; omega))
    obtain ⟨_, _, hA1, -, c1⟩ := L3.out.at_ (ci_get (show 1 < l.length by rw [← Hn.out]; omega))
    obtain ⟨_, _, hA2, -, c2⟩ := L3.out.at_ (ci_get (show 2 < l.length by rw [← Hn.out]; omega))
    simp only [Option.some.injEq, Addr.mk.injEq, and_true] at hA1 hA2
    obtain ⟨rfl, rfl⟩ := hA1
    obtain ⟨rfl, rfl⟩ := hA2
    generalize l.getD 0 0 = va at c0
    generalize l.getD 1 0 = vb at c1
    generalize l.getD 2 0 = vd at c2
    rw [Nat.add_zero] at c0
    go_wp2_with fail
    generalize (((w1.alloc (.cells #[.int .i64 0] 3)).alloc (.cells #[.int .i64 0] 3)).alloc (.cells #[.int .i64 0] 3)) = w3 at *
    have r0 : 0 < n := by omega
    have r1 : 1 < n := by omega
    have r2 : (1 : Int) < (n : Int) := by omega
    have r3 : (2 : Int) < (n : Int) := by omega
    have keep : ∀ (W : World) (p : Nat) (u : Value), w1.heap.size ≤ p → (W.cell? ⟨w.heap.size, 0, none⟩ = some (.slice (some ⟨b, o, none⟩) n c) ∧ W.cell? ⟨b, o, none⟩ = some (.int .i64 va) ∧ W.cell? ⟨b, o + 1, none⟩ = some (.int .i64 vb) ∧ W.cell? ⟨b, o + 2, none⟩ = some (.int .i64 vd)) → ((W.setCell ⟨p, 0, none⟩ u).cell? ⟨w.heap.size, 0, none⟩ = some (.slice (some ⟨b, o, none⟩) n c) ∧ (W.setCell ⟨p, 0, none⟩ u).cell? ⟨b, o, none⟩ = some (.int .i64 va) ∧ (W.setCell ⟨p, 0, none⟩ u).cell? ⟨b, o + 1, none⟩ = some (.int .i64 vb) ∧ (W.setCell ⟨p, 0, none⟩ u).cell? ⟨b, o + 2, none⟩ = some (.int .i64 vd)) := fun W p u hp hh =>
      ⟨(World.cell?_setCell_far W ⟨p, 0, none⟩ ⟨w.heap.size, 0, none⟩ u (by show p ≠ w.heap.size; omega)).trans hh.1, (World.cell?_setCell_far W ⟨p, 0, none⟩ ⟨b, o, none⟩ u (by show p ≠ b; omega)).trans hh.2.1,
        (World.cell?_setCell_far W ⟨p, 0, none⟩ ⟨b, o + 1, none⟩ u (by show p ≠ b; omega)).trans hh.2.2.1, (World.cell?_setCell_far W ⟨p, 0, none⟩ ⟨b, o + 2, none⟩ u (by show p ≠ b; omega)).trans hh.2.2.2⟩
    have T1 := Lib.hid (keep w3 w1.heap.size (.int .i64 va) (Nat.le_refl _) ⟨q0', c0, c1, c2⟩)
    have T2 := Lib.hid (keep _ (w1.heap.size + 1) (.int .i64 vb) (by omega) T1.out)
    have T3 := Lib.hid (keep _ (w1.heap.size + 1 + 1) (.int .i64 vd) (by omega) T2.out)
    have x0 := A0.out.cell
    have y0 := A0.out.free
    have A1e := A1.out.other (p := ⟨w1.heap.size, 0, none⟩) (by show w1.heap.size + 1 ≠ w1.heap.size; omega) (.int .i64 va)
    have x1 := A1e.cell
    have y1 := A1e.free
    have A2e := (A2.out.other (p := ⟨w1.heap.size, 0, none⟩) (by show w1.heap.size + 1 + 1 ≠ w1.heap.size; omega) (.int .i64 va)).other (p := ⟨w1.heap.size + 1, 0, none⟩) (by show w1.heap.size + 1 + 1 ≠ w1.heap.size + 1; omega) (.int .i64 vb)
    have x2 := A2e.cell
    have y2 := A2e.free
    have F0 := Lib.hid (((A0.out.set (.int .i64 va)).other (p := ⟨w1.heap.size + 1, 0, none⟩) (by show w1.heap.size ≠ w1.heap.size + 1; omega) (.int .i64 vb)).other (p := ⟨w1.heap.size + 1 + 1, 0, none⟩) (by show w1.heap.size ≠ w1.heap.size + 1 + 1; omega) (.int .i64 vd))
    have F1 := Lib.hid ((A1e.set (.int .i64 vb)).other (p := ⟨w1.heap.size + 1 + 1, 0, none⟩) (by show w1.heap.size + 1 ≠ w1.heap.size + 1 + 1; omega) (.int .i64 vd))
    have F2 := Lib.hid (A2e.set (.int .i64 vd))
    clear A1e A2e keep
    refine wp_region_held_drew (S := fun W => W.cell? ⟨w.heap.size, 0, none⟩ = some (.slice (some ⟨b, o, none⟩) n c) ∧ W.cell? ⟨b, o, none⟩ = some (.int .i64 va) ∧ W.cell? ⟨b, o + 1, none⟩ = some (.int .i64 vb) ∧ W.cell? ⟨b, o + 2, none⟩ = some (.int .i64 vd)) (by kernel_rfl) ⟨q0', c0, c1, c2⟩ (fun hHeld => ?_)
    refine wpAnyH_take (i := 0) (oi := ⟨_, _, _, _, _, _⟩) (v := ?_) rfl (by kernel_rfl) (by kernel_rfl) (by kernel_rfl) (fun _ _ _ h => h) (Or.inl ⟨by rfl, ?_⟩) (by assumption) ?_
    rotate_left
    · rintro W ⟨s0, s1, s2, s3⟩; go_simp; try with_reducible rfl
    try simp only [Act.put, List.setIfInBounds_toArray, List.set_cons_zero, List.set_cons_succ]
    refine wpAnyH_take (i := 1) (oi := ⟨_, _, _, _, _, _⟩) (v := ?_) rfl (by kernel_rfl) (by kernel_rfl) (by kernel_rfl) (fun _ _ _ h => h) (Or.inl ⟨by rfl, ?_⟩) (by assumption) ?_
    rotate_left
    · rintro W ⟨s0, s1, s2, s3⟩; go_simp; try with_reducible rfl
    try simp only [Act.put, List.setIfInBounds_toArray, List.set_cons_zero, List.set_cons_succ]
    refine wpAnyH_take (i := 2) (oi := ⟨_, _, _, _, _, _⟩) (v := ?_) rfl (by kernel_rfl) (by kernel_rfl) (by kernel_rfl) (fun _ _ _ h => h) (Or.inl ⟨by rfl, ?_⟩) (by assumption) ?_
    rotate_left
    · rintro W ⟨s0, s1, s2, s3⟩; go_simp; try with_reducible rfl
    try simp only [Act.put, List.setIfInBounds_toArray, List.set_cons_zero, List.set_cons_succ]
    refine wpAnyH_take (i := 3) (oi := ⟨_, _, _, _, _, _⟩) (v := ?_) rfl (by kernel_rfl) (by kernel_rfl) (by kernel_rfl) (fun _ _ _ h => h) (Or.inl ⟨by rfl, ?_⟩) (by assumption) ?_
    rotate_left
    · rintro W ⟨s0, s1, s2, s3⟩; go_simp; try with_reducible rfl
    try simp only [Act.put, List.setIfInBounds_toArray, List.set_cons_zero, List.set_cons_succ]
    refine wpAnyH_take (i := 4) (oi := ⟨_, _, _, _, _, _⟩) (v := ?_) rfl (by kernel_rfl) (by kernel_rfl) (by kernel_rfl) (fun _ _ _ h => h) (Or.inl ⟨by rfl, ?_⟩) (by assumption) ?_
    rotate_left
    · rintro W ⟨s0, s1, s2, s3⟩; go_simp; try with_reducible rfl
    try simp only [Act.put, List.setIfInBounds_toArray, List.set_cons_zero, List.set_cons_succ]
    refine wpAnyH_take (i := 5) (oi := ⟨_, _, _, _, _, _⟩) (v := ?_) rfl (by kernel_rfl) (by kernel_rfl) (by kernel_rfl) (fun _ _ _ h => h) (Or.inl ⟨by rfl, ?_⟩) (by assumption) ?_
    rotate_left
    · rintro W ⟨s0, s1, s2, s3⟩; go_simp; try with_reducible rfl
    try simp only [Act.put, List.setIfInBounds_toArray, List.set_cons_zero, List.set_cons_succ]
    refine wpAnyH_take (i := 6) (oi := ⟨_, _, _, _, _, _⟩) (v := ?_) rfl (by kernel_rfl) (by kernel_rfl) (by kernel_rfl) (fun _ _ _ h => h) (Or.inl ⟨by rfl, ?_⟩) (by assumption) ?_
    rotate_left
    · rintro W ⟨s0, s1, s2, s3⟩; go_simp; try with_reducible rfl
    try simp only [Act.put, List.setIfInBounds_toArray, List.set_cons_zero, List.set_cons_succ]
    refine wpAnyH_take (i := 7) (oi := ⟨_, _, _, _, _, _⟩) (v := ?_) rfl (by kernel_rfl) (by kernel_rfl) (by kernel_rfl) (fun _ _ _ h => h) (Or.inl ⟨by rfl, ?_⟩) (by assumption) ?_
    rotate_left
    · rintro W ⟨s0, s1, s2, s3⟩; go_simp; try with_reducible rfl
    try simp only [Act.put, List.setIfInBounds_toArray, List.set_cons_zero, List.set_cons_succ]
    refine wpAnyH_take (i := 8) (oi := ⟨_, _, _, _, _, _⟩) (v := ?_) rfl (by kernel_rfl) (by kernel_rfl) (by kernel_rfl) (fun _ _ _ h => h) (Or.inl ⟨by rfl, ?_⟩) (by assumption) ?_
    rotate_left
    · rintro W ⟨s0, s1, s2, s3⟩; go_simp; try with_reducible rfl
    try simp only [Act.put, List.setIfInBounds_toArray, List.set_cons_zero, List.set_cons_succ]
    refine wpAnyH_ready (rs := [9]) (by kernel_rfl) (by simp) ?_
    refine AllReadyH.cons (o := ⟨_, _, _, _, _, _⟩) rfl (fun K hK => ?_) AllReadyH.nil
    go_simp
    refine hK.out _ _ ?_ (fun hHeld => ?_)
    · exact T1.out
    clear hK K
    try simp only [Act.put, List.setIfInBounds_toArray, List.set_cons_zero, List.set_cons_succ]
    refine wpAnyH_ready (rs := [10]) (by kernel_rfl) (by simp) ?_
    refine AllReadyH.cons (o := ⟨_, _, _, _, _, _⟩) rfl (fun K hK => ?_) AllReadyH.nil
    go_simp
    refine hK.out _ _ ?_ (fun hHeld => ?_)
    · exact T2.out
    clear hK K
    try simp only [Act.put, List.setIfInBounds_toArray, List.set_cons_zero, List.set_cons_succ]
    refine wpAnyH_ready (rs := [11]) (by kernel_rfl) (by simp) ?_
    refine AllReadyH.cons (o := ⟨_, _, _, _, _, _⟩) rfl (fun K hK => ?_) AllReadyH.nil
    go_simp
    refine hK.out _ _ ?_ (fun hHeld => ?_)
    · exact T3.out
    clear hK K
    try simp only [Act.put, List.setIfInBounds_toArray, List.set_cons_zero, List.set_cons_succ]
    refine wpAnyH_done (by kernel_rfl) ?_ _
    go_wp2_with fail
    obtain ⟨w4, hw4⟩ : ∃ w4, w4 = (((w3.setCell ⟨w1.heap.size, 0, none⟩ (.int .i64 va)).setCell ⟨w1.heap.size + 1, 0, none⟩ (.int .i64 vb)).setCell ⟨w1.heap.size + 1 + 1, 0, none⟩ (.int .i64 vd)).drew := ⟨_, rfl⟩
    have a0 : One w4 w1.heap.size (.int .i64 va) 3 := by rw [hw4]; exact F0.out
    have a1 : One w4 (w1.heap.size + 1) (.int .i64 vb) 3 := by rw [hw4]; exact F1.out
    have a2 : One w4 (w1.heap.size + 1 + 1) (.int .i64 vd) 3 := by rw [hw4]; exact F2.out
    have hE : w4.heap.size = w3.heap.size := by rw [hw4]; show (((w3.setCell ⟨w1.heap.size, 0, none⟩ (.int .i64 va)).setCell ⟨w1.heap.size + 1, 0, none⟩ (.int .i64 vb)).setCell ⟨w1.heap.size + 1 + 1, 0, none⟩ (.int .i64 vd)).heap.size = _; simp [World.setCell]
    have hB4 : Below w.heap.size w w4 := by
      rw [hw4]
      exact (((B3.out.setCell (p := ⟨w1.heap.size, 0, none⟩) (by show w.heap.size ≤ w1.heap.size; omega) _).setCell (p := ⟨w1.heap.size + 1, 0, none⟩) (by show w.heap.size ≤ w1.heap.size + 1; omega) _).setCell (p := ⟨w1.heap.size + 1 + 1, 0, none⟩) (by show w.heap.size ≤ w1.heap.size + 1 + 1; omega) _).drew
    have hE3 := S3.out
    change Calls _ _ _ (World.alloc ((((w3.setCell ⟨w1.heap.size, 0, none⟩ (.int .i64 va)).setCell ⟨w1.heap.size + 1, 0, none⟩ (.int .i64 vb)).setCell ⟨w1.heap.size + 1 + 1, 0, none⟩ (.int .i64 vd)).drew) _) _
    rw [← hw4]
    clear hw4 F0 F1 F2 T1 T2 T3 x0 y0 x1 y1 x2 y2 hHeld c0 c1 c2 q0'
    refine Calls.mono (first_any 3 (by decide) w3.heap.size (pick3 (.func (.func 18) #[] #[.pointer (some ⟨w1.heap.size, 0, none⟩)]) (.func (.func 19) #[] #[.pointer (some ⟨w1.heap.size + 1, 0, none⟩)]) (.func (.func 20) #[] #[.pointer (some ⟨w1.heap.size + 1 + 1, 0, none⟩)]))
      _ (pick3 (codeN va) (codeN vb) (codeN vd)) (by simp [← hE]) (fun i hi => by have := three_cells w4 (.func (.func 18) #[] #[.pointer (some ⟨w1.heap.size, 0, none⟩)]) (.func (.func 19) #[] #[.pointer (some ⟨w1.heap.size + 1, 0, none⟩)]) (.func (.func 20) #[] #[.pointer (some ⟨w1.heap.size + 1 + 1, 0, none⟩)]) 1 i hi; rw [hE] at this; exact this) ?_) ?_
    · intro i w' hi hbw
      have hbw' : Below w4.heap.size w4 w' := ((Below.refl _ _).alloc (Nat.le_refl _) _).trans (hbw.mono (by simp))
      have h : i = 0 ∨ i = 1 ∨ i = 2 := by omega
      rcases h with rfl | rfl | rfl
      · exact catch_still _ _ _ _ _ (ent Try.func18 (by kernel_rfl) rfl) (e18_any _ _ _ (((a0.below hbw' (by omega)).alloc _).alloc _))
      · exact catch_still _ _ _ _ _ (ent Try.func19 (by kernel_rfl) rfl) (e19_any _ _ _ (((a1.below hbw' (by omega)).alloc _).alloc _))
      · exact catch_still _ _ _ _ _ (ent Try.func20 (by kernel_rfl) rfl) (e20_any _ _ _ (((a2.below hbw' (by omega)).alloc _).alloc _))
    rintro e w5 ⟨kk, hkk, hoks, he, hb5⟩
    have hee := first_three e (codeN va) (codeN vb) (codeN vd) ⟨kk, hkk, hoks, he⟩
    rw [three_code] at hee
    obtain rfl := hee
    have hbw' : Below w4.heap.size w4 w5 := ((Below.refl _ _).alloc (Nat.le_refl _) _).trans (hb5.mono (by simp))
    have p0 := (a0.below hbw' (by omega)).cell
    have p1 := (a1.below hbw' (by omega)).cell
    have p2 := (a2.below hbw' (by omega)).cell
    have B5 : Hid (Below w.heap.size w w5) := hB4.trans (hbw'.mono (by have := hB4.size; omega))
    obtain ⟨CC, hCC⟩ : ∃ CC, CC = code0 [va, vb, vd] := ⟨_, rfl⟩
    rw [← hCC]
    have HCC := Lib.hid hCC
    clear hCC he hoks hkk hb5 hbw' hB4 a0 a1 a2
    go_wp2_with fail
    refine Calls.mono (reach_any _ 3 3 [va, vb, vd] _ (w5.heap.size + 1) (LiesV.lit w5 #[.int .i64 va, .int .i64 vb, .int .i64 vd] 3 _ (by omega)) rfl (by omega)) ?_
    rintro e w6 ⟨rfl, rfl⟩
    rw [← HCC.out]
    go_wp2_with fail
    refine Calls.mono (works_any _) ?_
    rintro e w6 ⟨rfl, hb6⟩
    have B6 : Hid (Below w.heap.size w w6) := (B5.out.alloc B5.out.size _).trans (hb6.mono (by have := B5.out.size; simp; omega))
    clear hb6
    go_wp2_with fail
    go_ret
    exact ⟨rfl, B6.out⟩
  · go_wp2_with fail
    generalize (((w1.alloc (.cells #[.int .i64 0] 3)).alloc (.cells #[.int .i64 0] 3)).alloc (.cells #[.int .i64 0] 3)) = w4 at *
    have hE := S3.out
    have a0 := A0.out
    have a1 := A1.out
    have a2 := A2.out
    have hB4 := B3.out
    clear q0'
    refine Calls.mono (first_any 3 (by decide) (w1.heap.size + 1 + 1 + 1) (pick3 (.func (.func 18) #[] #[.pointer (some ⟨w1.heap.size, 0, none⟩)]) (.func (.func 19) #[] #[.pointer (some ⟨w1.heap.size + 1, 0, none⟩)]) (.func (.func 20) #[] #[.pointer (some ⟨w1.heap.size + 1 + 1, 0, none⟩)]))
      _ (pick3 (codeN 0) (codeN 0) (codeN 0)) (by simp [← hE]) (fun i hi => by have := three_cells w4 (.func (.func 18) #[] #[.pointer (some ⟨w1.heap.size, 0, none⟩)]) (.func (.func 19) #[] #[.pointer (some ⟨w1.heap.size + 1, 0, none⟩)]) (.func (.func 20) #[] #[.pointer (some ⟨w1.heap.size + 1 + 1, 0, none⟩)]) 1 i hi; rw [hE] at this; exact this) ?_) ?_
    · intro i w' hi hbw
      have hbw' : Below w4.heap.size w4 w' := ((Below.refl _ _).alloc (Nat.le_refl _) _).trans (hbw.mono (by simp))
      have h : i = 0 ∨ i = 1 ∨ i = 2 := by omega
      rcases h with rfl | rfl | rfl
      · exact catch_still _ _ _ _ _ (ent Try.func18 (by kernel_rfl) rfl) (e18_any _ _ _ (((a0.below hbw' (by omega)).alloc _).alloc _))
      · exact catch_still _ _ _ _ _ (ent Try.func19 (by kernel_rfl) rfl) (e19_any _ _ _ (((a1.below hbw' (by omega)).alloc _).alloc _))
      · exact catch_still _ _ _ _ _ (ent Try.func20 (by kernel_rfl) rfl) (e20_any _ _ _ (((a2.below hbw' (by omega)).alloc _).alloc _))
    rintro e w5 ⟨kk, hkk, hoks, he, hb5⟩
    have hee := first_three e (codeN 0) (codeN 0) (codeN 0) ⟨kk, hkk, hoks, he⟩
    rw [three_code] at hee
    obtain rfl := hee
    have hbw' : Below w4.heap.size w4 w5 := ((Below.refl _ _).alloc (Nat.le_refl _) _).trans (hb5.mono (by simp))
    have p0 := (a0.below hbw' (by omega)).cell
    have p1 := (a1.below hbw' (by omega)).cell
    have p2 := (a2.below hbw' (by omega)).cell
    have B5 : Hid (Below w.heap.size w w5) := hB4.trans (hbw'.mono (by have := hB4.size; omega))
    obtain ⟨CC, hCC⟩ : ∃ CC, CC = code0 [0, 0, 0] := ⟨_, rfl⟩
    rw [← hCC]
    have HCC := Lib.hid hCC
    clear hCC he hoks hkk hb5 hbw' hB4 a0 a1 a2
    go_wp2_with fail
    refine Calls.mono (reach_any _ 3 3 [0, 0, 0] _ (w5.heap.size + 1) (LiesV.lit w5 #[.int .i64 0, .int .i64 0, .int .i64 0] 3 _ (by omega)) rfl (by omega)) ?_
    rintro e w6 ⟨rfl, rfl⟩
    rw [← HCC.out]
    go_wp2_with fail
    refine Calls.mono (works_any _) ?_
    rintro e w6 ⟨rfl, hb6⟩
    have B6 : Hid (Below w.heap.size w w6) := (B5.out.alloc B5.out.size _).trans (hb6.mono (by have := B5.out.size; simp; omega))
    clear hb6
    go_wp2_with fail
    go_ret
    exact ⟨rfl, B6.out⟩
end Go.Proofs.Ytkogolgaggdacaa
