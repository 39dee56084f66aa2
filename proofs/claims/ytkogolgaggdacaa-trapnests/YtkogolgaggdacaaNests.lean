/-
  Layer 5, the law TrapNests: its closures and the walk.
-/
import Derived.Test.YtkogolgaggdacaaWorks5
import Derived.StillTailTactics
namespace Go.Proofs.Ytkogolgaggdacaa
open Go.RowKit
set_option linter.unusedVariables false

/-- As a region's still step asks for it. -/
theorem still_code {P : Program} {f : Nat} {args : Array Value} {v : Value} {w : World} (h : Calls P f args w fun e w' => e = .returned v ∧ w = w') : Calls P f args w fun e w' => e = .returned v ∧ w' = w :=
  h.mono fun _ _ h => ⟨h.1, h.2.symm⟩

/-- A choice that the walk does not look into. -/
def sel (b : Bool) (p q : Int) : Int := if b then p else q

theorem n24_any (x : Int) (B : Nat) (w : World) (h1 : One w B (.int .i64 x) 3) :
    Does Try.prog FF 24 #[.pointer (some ⟨B, 0, none⟩)] [] w (codeN x) (okN x) fun _ => True := by
  have q1 := h1.cell
  have HS := Lib.hid (step_any x w)
  unfold Does at *
  go_enter Try.func24, Try.ntmps24
  go_wp2_with fail
  refine Calls.mono HS.out ?_
  rintro e w1 ⟨ht, hb, -⟩
  have ht' := ht
  rcases ht.shape with ⟨rfl, -, -⟩ | ⟨p, rfl, -⟩
  · have HT := Lib.hid ht'
    have HB := Lib.hid hb
    clear ht ht' hb
    go_wp2
    go_end0
    exact ⟨HT.out, HB.out, trivial⟩
  · exact ⟨rfl, ht', hb, trivial⟩

theorem n25_any (O : Nat) (k : Int) (hk : 0 ≤ k ∧ k < 100) (w : World) (h : One w O (.int .i64 k) 3) : Calls Try.prog 25 #[.pointer (some ⟨O, 0, none⟩)] w fun e w' => e = .returned (.tuple #[]) ∧ w' = w.setCell ⟨O, 0, none⟩ (.int .i64 (k + 1)) := by
  have c1 := h.cell
  have c2 := h.free
  go_enter Try.func25, Try.ntmps25
  go_wp2
  go_end0
  exact ⟨rfl, rfl⟩

theorem n23_any (x y : Int) (B : Nat) (v : Value) (w : World) (h0 : One w B (.int .i64 x) 3) (h1 : One w (B + 1) (.int .i64 y) 3) (h2 : One w (B + 2) (.int .i64 0) 3) (h3 : One w (B + 3) v 22) :
    Does Try.prog FF 23 #[.pointer (some ⟨B, 0, none⟩), .pointer (some ⟨B + 3, 0, none⟩), .pointer (some ⟨B + 1, 0, none⟩), .pointer (some ⟨B + 2, 0, none⟩)] [B + 2, B + 3] w (codeN y) (okN y)
      fun w' => One w' (B + 3) (.int .i64 (codeN x)) 22 ∧ One w' (B + 2) (.int .i64 (sel (okN y) 10 0)) 3 := by
  have hmf : ∀ (fn : Fn) (first cap : Array Value) (w : World), (Instr.makeFunc fn first cap).run Try.prog w = .ok (.func fn first cap) w := fun _ _ _ _ => rfl
  unfold Does
  go_enter Try.func23, Try.ntmps23
  go_wp2_with fail
  refine Calls.mono (catch_still 24 _ w (codeN x) (okN x) (ent Try.func24 (by kernel_rfl) rfl) (n24_any x B _ ((h0.alloc _).alloc _))) ?_
  rintro e w1 ⟨rfl, hb1⟩
  have k1 := h1.below hb1 h1.lt
  have k2 := h2.below hb1 h2.lt
  have k3 := h3.below hb1 h3.lt
  have q1 := k3.cell
  have q2 := k3.free
  have j1 := k1.other (p := ⟨B + 3, 0, none⟩) (by show B + 1 ≠ B + 3; omega) (.int .i64 (codeN x))
  have j2 := k2.other (p := ⟨B + 3, 0, none⟩) (by show B + 2 ≠ B + 3; omega) (.int .i64 (codeN x))
  have j3 := k3.set (.int .i64 (codeN x))
  have q3 := j1.cell
  have J2 := Lib.hid j2
  have J3 := Lib.hid j3
  have B1 : Hid (But [B + 2, B + 3] w.heap.size w (w1.setCell ⟨B + 3, 0, none⟩ (.int .i64 (codeN x)))) := (But.of _ hb1).setCell (.inl (by simp)) _
  have hs1 := B1.out.size
  clear h0 h1 h2 h3 hb1 k1 k2 k3 j1 j2 j3
  go_wp2_with fail
  refine Calls.mono (step_any y _) ?_
  rintro e w2 ⟨ht, hb, -⟩
  have ht' := ht
  have j2 := J2.out.but hb J2.out.lt (by simp)
  have j3 := J3.out.but hb J3.out.lt (by simp)
  have hbb : But [B + 2, B + 3] w.heap.size w w2 := B1.out.trans (hb.mono hs1 (by simp))
  rcases ht.shape with ⟨rfl, -, hok⟩ | ⟨p, rfl, hok⟩
  · have HT := Lib.hid ht'
    have HO := Lib.hid hok
    have HB := Lib.hid hbb
    have q4 := j2.cell
    have q5 := j2.free
    have J2' := Lib.hid j2
    have J3' := Lib.hid j3
    clear ht ht' hb hok hbb j2 j3 J2 J3 B1
    go_wp2
    go_end0
    refine ⟨HT.out, HB.out.setCell (.inl (by simp)) _, J3'.out.other (by show B + 3 ≠ B + 2; omega) _, ?_⟩
    rw [HO.out]
    exact J2'.out.set _
  · exact ⟨rfl, ht', hbb, j3, by rw [hok]; exact j2⟩

theorem n21_any (x y : Int) (B : Nat) (v : Value) (w : World) (h0 : One w B (.int .i64 x) 3) (h1 : One w (B + 1) (.int .i64 y) 3) (h2 : One w (B + 2) (.int .i64 0) 3) (h3 : One w (B + 3) v 22) :
    Does Try.prog FF 21 #[.pointer (some ⟨B, 0, none⟩), .pointer (some ⟨B + 3, 0, none⟩), .pointer (some ⟨B + 1, 0, none⟩), .pointer (some ⟨B + 2, 0, none⟩)] [B + 2, B + 3] w (codeN y) (okN y)
      fun w' => One w' (B + 3) (.int .i64 (codeN x)) 22 ∧ One w' (B + 2) (.int .i64 (sel (okN y) 11 1)) 3 := by
  have hmf : ∀ (fn : Fn) (first cap : Array Value) (w : World), (Instr.makeFunc fn first cap).run Try.prog w = .ok (.func fn first cap) w := fun _ _ _ _ => rfl
  unfold Does
  go_enter Try.func21, Try.ntmps21
  go_wp2_with fail
  refine Calls.mono (always_any 23 25 _ _ [B + 2, B + 3] w (codeN y) (okN y) _ (fun w' => One w' (B + 3) (.int .i64 (codeN x)) 22 ∧ One w' (B + 2) (.int .i64 (sel (okN y) 11 1)) 3)
    (by have := h2.lt; have := h3.lt; simp; omega) (ent Try.func23 (by kernel_rfl) rfl) (ent Try.func25 (by kernel_rfl) rfl)
    (n23_any x y B v _ (h0.alloc _) (h1.alloc _) (h2.alloc _) (h3.alloc _)) (fun w' hw => (n25_any (B + 2) _ (by unfold sel; split <;> omega) w' hw.2).mono fun e w'' hh => ⟨hh.1, ?_, ?_, ?_⟩)) ?_
  · rw [hh.2]; exact (But.refl _ _ _).setCell (.inl (by simp)) _
  · rw [hh.2]; exact hw.1.other (by show B + 3 ≠ B + 2; omega) _
  · rw [hh.2]
    have := hw.2.set (.int .i64 (sel (okN y) 10 0 + 1))
    rw [show sel (okN y) 11 1 = sel (okN y) 10 0 + 1 by unfold sel; split <;> rfl]
    exact this
  rintro e w1 ⟨ht, hb, hp⟩
  have ht' := ht
  rcases ht.shape with ⟨rfl, -, -⟩ | ⟨p, rfl, -⟩
  · have HT := Lib.hid ht'
    have HB := Lib.hid hb
    have HP := Lib.hid hp
    clear ht ht' hb hp
    go_wp2
    go_end0
    exact ⟨HT.out, HB.out, HP.out⟩
  · exact ⟨rfl, ht', hb, hp⟩

theorem nests_any (x y : Int) (w : World) :
    Calls Try.prog 5 #[.int .i64 x, .int .i64 y] w fun e w' => e = .returned (.bool true) ∧ Below w.heap.size w w' := by
  have hmf : ∀ (fn : Fn) (first cap : Array Value) (w : World), (Instr.makeFunc fn first cap).run Try.prog w = .ok (.func fn first cap) w := fun _ _ _ _ => rfl
  obtain ⟨B, hB⟩ : ∃ B, B = w.heap.size := ⟨_, rfl⟩
  obtain ⟨w0, hw0⟩ : ∃ w0, w0 = ((((w.alloc (.cells #[.int .i64 x] 3)).alloc (.cells #[.int .i64 y] 3)).alloc (.cells #[.int .i64 0] 3)).alloc (.cells #[.int .i64 0] 22)) := ⟨_, rfl⟩
  have g0 : One w0 B (.int .i64 x) 3 := by rw [hw0, hB]; exact (((One.new w _ _).alloc _).alloc _).alloc _
  have g1 : One w0 (B + 1) (.int .i64 y) 3 := by
    have := ((One.new (w.alloc (.cells #[.int .i64 x] 3)) (.int .i64 y) 3).alloc (.cells #[.int .i64 0] 3)).alloc (.cells #[.int .i64 0] 22)
    rw [hw0, hB]; simpa using this
  have g2 : One w0 (B + 2) (.int .i64 0) 3 := by
    have := (One.new ((w.alloc (.cells #[.int .i64 x] 3)).alloc (.cells #[.int .i64 y] 3)) (.int .i64 0) 3).alloc (.cells #[.int .i64 0] 22)
    rw [hw0, hB]; simpa using this
  have g3 : One w0 (B + 3) (.int .i64 0) 22 := by
    have := One.new (((w.alloc (.cells #[.int .i64 x] 3)).alloc (.cells #[.int .i64 y] 3)).alloc (.cells #[.int .i64 0] 3)) (.int .i64 0) 22
    rw [hw0, hB]; simpa using this
  have hb0 : Below B w w0 := by
    rw [hw0, hB]
    exact ((((Below.refl _ _).alloc (Nat.le_refl _) _).alloc (by simp) _).alloc (by simp; omega) _).alloc (by simp; omega) _
  have G0 := Lib.hid g0
  have G1 := Lib.hid g1
  have G2 := Lib.hid g2
  have G3 := Lib.hid g3
  have HB0 := Lib.hid hb0
  have HB := Lib.hid hB
  have HW := Lib.hid hw0
  clear g0 g1 g2 g3 hb0 hB hw0
  go_enter Try.func5, Try.ntmps5
  go_wp2_with fail
  rw [← HW.out, ← HB.out]
  have hs0 : B + 3 < w0.heap.size := G3.out.lt
  refine Calls.mono (catch_any 21 _ [B + 2, B + 3] w0 (codeN y) (okN y) _ (by simp; omega) (ent Try.func21 (by kernel_rfl) rfl)
    (n21_any x y B _ _ ((G0.out.alloc _).alloc _) ((G1.out.alloc _).alloc _) ((G2.out.alloc _).alloc _) ((G3.out.alloc _).alloc _))) ?_
  rintro e w1 ⟨rfl, hb1, w2, ⟨hp3, hp2⟩, hb2⟩
  have hb : Below B w w1 := HB0.out.trans ((hb1.less (by omega)).below (by simp))
  have q0 := (G0.out.but hb1 (by omega) (by simp)).cell
  have q1 := (G1.out.but hb1 (by omega) (by simp)).cell
  have q2 : w1.cell? ⟨B + 1 + 1, 0, none⟩ = _ := (hp2.below hb2 (by omega)).cell
  have q3 : w1.cell? ⟨B + 1 + 1 + 1, 0, none⟩ = _ := (hp3.below hb2 (by omega)).cell
  have HBB := Lib.hid hb
  clear hb1 hp3 hp2 hb2 G0 G1 G2 G3 HB0 HW hb
  by_cases hy : y = 0
  · subst hy
    have hsel : sel (okN 0) 11 1 = 11 := rfl
    rw [hsel] at q2
    clear hsel
    go_wp2_with fail
    refine wp_region_still_tail 16 (by kernel_rfl) (by kernel_rfl) ?_
    simp only [List.take_succ_cons, List.take_zero, List.drop_succ_cons, List.drop_zero]
    still_step
    still_step
    still_call (still_code (rcode_any x _))
    still_step
    still_step
    still_step
    still_step
    still_call (still_code (rcode_any 0 _))
    iterate 8 still_step
    refine wpStill_nil ?_
    change wpList _ _ _ _ _ w1.drew
    go_wp2_with fail
    refine (works_any w1.drew).mono ?_
    rintro e w3 ⟨rfl, hb3⟩
    have B3 := Lib.hid (HBB.out.drew.trans (hb3.mono (by have := HBB.out.size; have := HB.out; show B ≤ w1.heap.size; omega)))
    rw [HB.out] at B3
    clear hb3
    go_wp2_with fail
    go_ret
    exact ⟨rfl, B3.out⟩
  · have hy1 : (y == 0) = false := by simpa using hy
    have hsel : sel (okN y) 11 1 = 1 := by simp [sel, okN, hy]
    rw [hsel] at q2
    clear hsel hy
    go_wp2_with fail
    refine wp_region_still_tail 16 (by kernel_rfl) (by kernel_rfl) ?_
    simp only [List.take_succ_cons, List.take_zero, List.drop_succ_cons, List.drop_zero]
    still_step
    still_step
    still_call (still_code (rcode_any x _))
    still_step
    still_step
    still_step
    still_step
    still_call (still_code (rcode_any y _))
    iterate 8 still_step
    refine wpStill_nil ?_
    change wpList _ _ _ _ _ w1.drew
    go_wp2_with fail
    refine (works_any w1.drew).mono ?_
    rintro e w3 ⟨rfl, hb3⟩
    have B3 := Lib.hid (HBB.out.drew.trans (hb3.mono (by have := HBB.out.size; have := HB.out; show B ≤ w1.heap.size; omega)))
    rw [HB.out] at B3
    clear hb3
    go_wp2_with fail
    go_ret
    exact ⟨rfl, B3.out⟩
end Go.Proofs.Ytkogolgaggdacaa
