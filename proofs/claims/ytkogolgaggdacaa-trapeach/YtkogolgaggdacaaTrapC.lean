/-
  Layer 5: contracts of Throw, Must, the statements' step and deep, the reference's Code.
-/
import Derived.Test.YtkogolgaggdacaaProg
import Derived.Test.YtkogolgaggdacaaTrapM
namespace Go.Proofs.Ytkogolgaggdacaa
open Go.RowKit
set_option linter.unusedVariables false

abbrev FF : TypeId := 44

theorem throw_any (c : Int) (w : World) : Calls Try.prog 30 #[.int .i64 c] w fun e w' => e = .panicked [{ v := .iface FF (.agg #[.int .i64 c]), recovered := false }] ∧ w = w' := by
  go_enter Try.func30, Try.ntmps30
  go_wp2
  exact ⟨rfl, rfl, rfl⟩

theorem must_any (c : Int) (w : World) : Calls Try.prog 28 #[.int .i64 c] w fun e w' => Tells FF e c (okN c) ∧ w = w' := by
  by_cases h : c = 0
  · subst h
    go_enter Try.func28, Try.ntmps28
    go_wp2
    go_end0
    exact ⟨.ret, rfl⟩
  · have h1 : (c != 0) = true := by simpa using h
    have hok : okN c = false := by simp [okN, h]
    have Hok := Lib.hid hok
    clear hok
    go_enter Try.func28, Try.ntmps28
    go_wp2_with fail
    refine (throw_any c w).mono ?_
    rintro e w1 ⟨rfl, rfl⟩
    refine ⟨rfl, ?_, rfl⟩
    rw [Hok.out]
    exact .fault c

theorem bounds8 : Try.prog.rt.boundsError = 8 := by kernel_rfl
theorem step_any (n : Int) (w : World) : Does Try.prog FF 11 #[.int .i64 n] [] w (codeN n) (okN n) fun _ => True := by
  unfold Does
  by_cases h : n < 0
  · have hc : codeN n = 17 := by simp [codeN, h]
    have hok : okN n = false := by simp [okN]; omega
    have Hok := Lib.hid hok
    have Hc := Lib.hid hc
    clear hok hc
    obtain ⟨s, w1, hi, hb⟩ := run_indexAt_none (P := Try.prog) (w := w) 32 0 .i64 (wrap64 (-n.tmod 2)) Try.underlying32
    go_enter Try.func11, Try.ntmps11
    go_wp2
    rw [Hc.out, Hok.out]
    exact ⟨rfl, .other _ _ (by rw [bounds8]; decide), .of _ hb, trivial⟩
  · have hc : codeN n = n := by simp [codeN, h]
    have Hc := Lib.hid hc
    clear hc
    go_enter Try.func11, Try.ntmps11
    go_wp2_with fail
    refine (must_any n w).mono ?_
    rintro e w1 ⟨ht, rfl⟩
    have ht' : Tells FF e (codeN n) (okN n) := by rw [Hc.out]; exact ht
    rcases ht.shape with ⟨rfl, -, -⟩ | ⟨p, rfl, -⟩
    · have HT := Lib.hid ht'
      clear ht ht'
      go_wp2
      go_end0
      exact ⟨HT.out, .refl _ _ _, trivial⟩
    · exact ⟨rfl, ht', .refl _ _ _, trivial⟩

theorem deep_any (n : Int) : ∀ (d : Nat) (w : World), d < 256 → Does Try.prog FF 8 #[.int .i64 n, .int .i64 (d : Int)] [] w (codeN n) (okN n) fun _ => True
  | 0, w, _ => by
    unfold Does
    go_enter Try.func8, Try.ntmps8
    go_wp2_with fail
    refine Calls.mono (step_any n w) ?_
    rintro e w1 ⟨ht, hb, -⟩
    have ht' := ht
    rcases ht.shape with ⟨rfl, -, -⟩ | ⟨p, rfl, -⟩
    · have HT := Lib.hid ht'
      clear ht ht'
      go_wp2
      go_end0
      exact ⟨HT.out, hb, trivial⟩
    · exact ⟨rfl, ht', hb, trivial⟩
  | d + 1, w, hd => by
    have IH := Lib.hid (deep_any n d w (by omega))
    unfold Does at *
    have h1 : decide ((0 : Int) < ((d + 1 : Nat) : Int)) = true := decide_eq_true (by omega)
    go_enter Try.func8, Try.ntmps8
    go_wp2_with fail
    refine Calls.mono IH.out ?_
    rintro e w1 ⟨ht, hb, -⟩
    have ht' := ht
    rcases ht.shape with ⟨rfl, -, -⟩ | ⟨p, rfl, -⟩
    · have HT := Lib.hid ht'
      clear ht ht'
      go_wp2
      refine bodyPost_ret (results_none rfl _ _ _) rfl ?_
      exact ⟨HT.out, hb, trivial⟩
    · exact ⟨rfl, ht', hb, trivial⟩

theorem rcode_any (n : Int) (w : World) : Calls Try.prog 12 #[.int .i64 n] w fun e w' => e = .returned (.int .i64 (codeN n)) ∧ w = w' := by
  by_cases h : n < 0
  · have Hc := Lib.hid (show codeN n = 17 by simp [codeN, h])
    go_enter Try.func12, Try.ntmps12
    go_wp2
    go_ret
    exact ⟨by rw [Hc.out]; rfl, rfl⟩
  · have Hc := Lib.hid (show codeN n = n by simp [codeN, h])
    go_enter Try.func12, Try.ntmps12
    go_wp2
    go_ret
    exact ⟨by rw [Hc.out]; rfl, rfl⟩
end Go.Proofs.Ytkogolgaggdacaa
