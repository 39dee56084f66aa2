/-
  Layer 5, the law TrapCatches: its closures and the walk.
-/
import Derived.Test.YtkogolgaggdacaaWorks5
namespace Go.Proofs.Ytkogolgaggdacaa
open Go.RowKit
set_option linter.unusedVariables false

theorem c1_any (n : Int) (d : Nat) (hd : d < 256) (B : Nat) (w : World) (h1 : One w B (.int .i64 n) 3) (h2 : One w (B + 1) (.int .u8 (d : Int)) 5) :
    Does Try.prog FF 7 #[.pointer (some ⟨B, 0, none⟩), .pointer (some ⟨B + 1, 0, none⟩)] [] w (codeN n) (okN n) fun _ => True := by
  have q1 := h1.cell
  have q2 := h2.cell
  have HS := Lib.hid (deep_any n d w hd)
  unfold Does at *
  go_enter Try.func7, Try.ntmps7
  go_wp2_with fail
  refine Calls.mono HS.out ?_
  rintro e w1 ⟨ht, hb, -⟩
  have ht' := ht
  rcases ht.shape with ⟨rfl, -, -⟩ | ⟨p, rfl, -⟩
  · have HT := Lib.hid ht'
    have HB := Lib.hid hb
    clear ht ht' hb
    go_wp2
    go_end0
    exact ⟨HT.out, HB.out, trivial⟩
  · exact ⟨rfl, ht', hb, trivial⟩
theorem c2_any (n : Int) (B : Nat) (w : World) (h1 : One w B (.int .i64 n) 3) :
    DoesI Try.prog FF 10 #[.pointer (some ⟨B, 0, none⟩)] w 5 (codeN n) (okN n) := by
  have q1 := h1.cell
  have HS := Lib.hid (step_any n w)
  unfold Does at *
  unfold DoesI
  go_enter Try.func10, Try.ntmps10
  go_wp2_with fail
  refine Calls.mono HS.out ?_
  rintro e w1 ⟨ht, hb, -⟩
  have ht' := ht
  rcases ht.shape with ⟨rfl, hc, hok⟩ | ⟨p, rfl, hok⟩
  · have HC := Lib.hid hc
    have HO := Lib.hid hok
    have HB := Lib.hid hb
    clear ht ht' hb hc hok
    go_wp2
    go_ret
    exact ⟨.inl ⟨rfl, HC.out, HO.out⟩, HB.out.below'⟩
  · exact ⟨rfl, .inr ⟨ht', hok⟩, hb.below'⟩

theorem catches_any (n : Int) (d : Nat) (hd : d < 256) (w : World) :
    Calls Try.prog 3 #[.int .i64 n, .int .u8 (d : Int)] w fun e w' => e = .returned (.bool true) ∧ Below w.heap.size w w' := by
  have hmf : ∀ (fn : Fn) (first cap : Array Value) (w : World), (Instr.makeFunc fn first cap).run Try.prog w = .ok (.func fn first cap) w := fun _ _ _ _ => rfl
  obtain ⟨C, hC⟩ : ∃ C, C = codeN n := ⟨_, rfl⟩
  obtain ⟨X, hX⟩ : ∃ X : Int, X = if okN n then 5 else 0 := ⟨_, rfl⟩
  have HC := Lib.hid hC
  have HX := Lib.hid hX
  have HCX : Hid ((X = 5 ∧ C = 0) ∨ (X = 0 ∧ (C == 0) = false)) := by
    show _ ∨ _
    rw [hX, hC]
    unfold okN codeN
    by_cases h : n = 0
    · subst h; exact .inl ⟨rfl, rfl⟩
    · refine .inr ⟨by simp [h], ?_⟩
      by_cases h1 : n < 0 <;> simp [h1, h]
  clear hC hX
  go_enter Try.func3, Try.ntmps3
  go_wp2_with fail
  have g1 : One ((w.alloc (.cells #[.int .i64 n] 3)).alloc (.cells #[.int .u8 (d : Int)] 5)) w.heap.size (.int .i64 n) 3 := (One.new w _ _).alloc _
  have g2 : One ((w.alloc (.cells #[.int .i64 n] 3)).alloc (.cells #[.int .u8 (d : Int)] 5)) (w.heap.size + 1) (.int .u8 (d : Int)) 5 := by
    have := One.new (w.alloc (.cells #[.int .i64 n] 3)) (.int .u8 (d : Int)) 5
    simpa using this
  have hb0 : Below w.heap.size w ((w.alloc (.cells #[.int .i64 n] 3)).alloc (.cells #[.int .u8 (d : Int)] 5)) := ((Below.refl _ _).alloc (Nat.le_refl _) _).alloc (by simp) _
  refine Calls.mono (catch_still 7 _ _ (codeN n) (okN n) (ent Try.func7 (by kernel_rfl) rfl) (c1_any n d hd w.heap.size _ ((g1.alloc _).alloc _) ((g2.alloc _).alloc _))) ?_
  rintro e w1 ⟨rfl, hb1⟩
  have k1 := g1.below hb1 (by simp; omega)
  have B1 := Lib.hid (hb0.trans (hb1.mono (by simp; omega)))
  have K1 := Lib.hid k1
  rw [← HC.out]
  have hl1 := k1.lt
  clear g1 g2 hb0 hb1 k1
  go_wp2_with fail
  refine Calls.mono (try_any 10 #[.pointer (some ⟨w.heap.size, 0, none⟩)] w1 5 (codeN n) (okN n) (ent Try.func10 (by kernel_rfl) rfl) (fun w' hb => c2_any n _ _ (K1.out.below hb hl1))) ?_
  rintro e w2 ⟨rfl, hb2⟩
  rw [← HC.out, ← HX.out]
  have B2 := Lib.hid (B1.out.trans (hb2.mono (Nat.le_of_lt hl1)))
  have q1 := (K1.out.below hb2 hl1).cell
  clear B1 K1 hb2
  go_wp2_with fail
  refine Calls.mono (rcode_any n w2) ?_
  rintro e w3 ⟨rfl, rfl⟩
  rw [← HC.out]
  rcases HCX.out with ⟨rfl, rfl⟩ | ⟨rfl, hz⟩
  · go_wp2_with fail
    refine Calls.mono (works_any w2) ?_
    rintro e w3 ⟨rfl, hb3⟩
    have B3 := Lib.hid (B2.out.trans (hb3.mono B2.out.size))
    clear hb3
    go_wp2
    go_ret
    exact ⟨rfl, B3.out⟩
  · go_wp2_with fail
    refine Calls.mono (works_any w2) ?_
    rintro e w3 ⟨rfl, hb3⟩
    have B3 := Lib.hid (B2.out.trans (hb3.mono B2.out.size))
    clear hb3
    go_wp2
    go_ret
    exact ⟨rfl, B3.out⟩
end Go.Proofs.Ytkogolgaggdacaa
