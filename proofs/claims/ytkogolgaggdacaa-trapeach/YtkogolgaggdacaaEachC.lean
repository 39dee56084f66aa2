/-
  Layer 5, for the law TrapEach: the reference's Each; the law's closures.
-/
import Derived.Test.YtkogolgaggdacaaWorks5
import Derived.Test.YtkogolgaggdacaaMemV
namespace Go.Proofs.Ytkogolgaggdacaa
open Go.RowKit
set_option linter.unusedVariables false

/-- How many steps are done. -/
def fst0 : List Int → Nat
  | [] => 0
  | x :: t => if x = 0 then fst0 t + 1 else 0
def code0 (l : List Int) : Int := codeN (l.getD (fst0 l) 0)
theorem fst0_unique : ∀ (l : List Int) (k : Nat), k ≤ l.length → (∀ i, i < k → l.getD i 0 = 0) → (k = l.length ∨ l.getD k 0 ≠ 0) → k = fst0 l
  | [], k, hk, _, _ => by simp at hk; simp [hk, fst0]
  | x :: t, 0, _, _, h => by
    rcases h with h | h
    · simp at h
    · simp at h; simp [fst0, h]
  | x :: t, k + 1, hk, hz, h => by
    have h0 := hz 0 (by omega)
    simp at h0
    have := fst0_unique t k (by simpa using hk) (fun i hi => by have := hz (i + 1) (by omega); simpa using this) (by
      rcases h with h | h
      · exact .inl (by simpa using h)
      · exact .inr (by simpa using h))
    simp [fst0, h0, this]
theorem codeN_ne (n : Int) : codeN n ≠ 0 ↔ n ≠ 0 := by
  unfold codeN
  by_cases h : n < 0
  · simp [h]; omega
  · simp [h]
theorem okN_iff (n : Int) : okN n = true ↔ n = 0 := by simp [okN]
theorem okN_false (n : Int) : okN n = false ↔ n ≠ 0 := by simp [okN]
/-- The cells of a list of ints. -/
def ci (l : List Int) : List Value := l.map (Value.int .i64)
theorem ci_get {l : List Int} {i : Nat} (h : i < l.length) : (ci l)[i]? = some (.int .i64 (l.getD i 0)) := by
  simp [ci, h]

theorem reach_any (A : Option Addr) (n c : Nat) (l : List Int) (w : World) (B : Nat) (h : LiesV w B A (ci l)) (hn : n = l.length) (hnl : n ≤ 1000) :
    Calls Try.prog 16 #[.slice A n c] w fun e w' => e = .returned (.tuple #[.int .i64 (fst0 l : Int), .int .i64 (code0 l)]) ∧ w = w' := by
  have Hn := Lib.hid hn
  have Hl := Lib.hid h
  clear hn h
  go_enter Try.func16, Try.ntmps16
  go_wp2_with fail
  go_loop [4] (fun i => ∃ k : Nat, k ≤ n ∧ i = .int .i64 k ∧ Hid (∀ j, j < k → l.getD j 0 = 0)) (fun i => n - (intOf i).toNat)
  case atStart => exact ⟨0, Nat.zero_le _, rfl, fun j hj => absurd hj (Nat.not_lt_zero j)⟩
  case round =>
    obtain ⟨k, hk, hi', hz⟩ := hrel
    subst hi'
    by_cases hlt : k < n
    · obtain ⟨b, o, rfl, hbB, hc⟩ := Hl.out.at_ (ci_get (show k < l.length by rw [← Hn.out]; exact hlt))
      obtain ⟨v, hv⟩ : ∃ v, v = l.getD k 0 := ⟨_, rfl⟩
      rw [← hv] at hc
      have HV := Lib.hid hv
      clear hv
      by_cases hv0 : v = 0
      · subst hv0
        go_wp2_with fail
        go_round
        case rel => exact ⟨k + 1, by omega, by go_num, fun j hj => by rcases Nat.lt_or_ge j k with h | h; exact hz.out j h; rw [show j = k from by omega]; exact HV.out.symm⟩
        case measure => simp [intOf]; omega
      · have hv1 : (v != 0) = true := by simp [hv0]
        have HF : Hid (k = fst0 l) := fst0_unique l k (by rw [← Hn.out]; exact hk) hz.out (.inr (by rw [← HV.out]; exact hv0))
        clear hv0
        go_wp2_with fail
        refine Calls.mono (rcode_any v w) ?_
        rintro e w1 ⟨rfl, rfl⟩
        have HC : Hid (codeN v = code0 l) := by show _ = _; unfold code0; rw [← HF.out, HV.out]
        go_wp2_with fail
        go_ret2
        rw [HC.out, HF.out]
        exact ⟨rfl, rfl⟩
    · obtain rfl : n = k := by omega
      have HF : Hid (n = fst0 l) := fst0_unique l n (by rw [← Hn.out]; exact hk) hz.out (.inl Hn.out)
      have HC : Hid ((0 : Int) = code0 l) := by show _ = _; unfold code0; rw [← HF.out, Hn.out]; simp [codeN]
      go_wp2_with fail
      go_ret2
      exact ⟨by rw [← HC.out, ← HF.out]; rfl, rfl⟩

theorem e15_any (A : Option Addr) (n c : Nat) (l : List Int) (w : World) (B Bx M i : Nat) (h : LiesV w B A (ci l)) (hn : n = l.length) (hnl : n ≤ 1000) (hi : i < n)
    (hx : One w Bx (.slice A n c) 32) (hm : One w M (.int .i64 (i : Int)) 3) :
    Does Try.prog FF 15 #[.int .i64 (i : Int), .pointer (some ⟨Bx, 0, none⟩), .pointer (some ⟨M, 0, none⟩)] [M] w (codeN (l.getD i 0)) (okN (l.getD i 0))
      fun w' => One w' M (.int .i64 ((if okN (l.getD i 0) then i + 1 else i : Nat) : Int)) 3 := by
  obtain ⟨b, o, rfl, hbB, hc⟩ := h.at_ (ci_get (show i < l.length by rw [← hn]; exact hi))
  obtain ⟨v, hv⟩ : ∃ v, v = l.getD i 0 := ⟨_, rfl⟩
  rw [← hv] at hc ⊢
  have q1 := hx.cell
  have HM := Lib.hid hm
  have HS := Lib.hid (step_any v w)
  obtain ⟨X, hX⟩ : ∃ X : Nat, X = if okN v then i + 1 else i := ⟨_, rfl⟩
  rw [← hX]
  have HX := Lib.hid hX
  clear hX hv hm h hn
  unfold Does at *
  go_enter Try.func15, Try.ntmps15
  go_wp2_with fail
  refine Calls.mono HS.out ?_
  rintro e w1 ⟨ht, hb, -⟩
  have ht' := ht
  have k1 := HM.out.but hb HM.out.lt (by simp)
  rcases ht.shape with ⟨rfl, -, hok⟩ | ⟨p, rfl, hok⟩
  · have HT := Lib.hid ht'
    have HB := Lib.hid hb
    have HO := Lib.hid hok
    have K1 := Lib.hid k1
    have q4 := k1.cell
    have q5 := k1.free
    clear ht ht' hb hok k1
    go_wp2
    go_end0
    refine ⟨HT.out, (HB.out.mono (Nat.le_refl _) (by simp)).setCell (.inl (by simp)) _, ?_⟩
    have hX : X = i + 1 := by rw [HX.out, HO.out]; rfl
    rw [hX]
    exact K1.out.set _
  · have hX : X = i := by rw [HX.out, hok]; rfl
    exact ⟨rfl, ht', hb.mono (Nat.le_refl _) (by simp), by rw [hX]; exact k1⟩
/-- The closures of First: a step that a variable tells. -/
theorem e18_any (x : Int) (B : Nat) (w : World) (h1 : One w B (.int .i64 x) 3) :
    Does Try.prog FF 18 #[.pointer (some ⟨B, 0, none⟩)] [] w (codeN x) (okN x) fun _ => True := by
  have q1 := h1.cell
  have HS := Lib.hid (step_any x w)
  unfold Does at *
  go_enter Try.func18, Try.ntmps18
  go_wp2_with fail
  refine Calls.mono HS.out ?_
  rintro e w1 ⟨ht, hb, -⟩
  have ht' := ht
  rcases ht.shape with ⟨rfl, -, -⟩ | ⟨p, rfl, -⟩
  · have HT := Lib.hid ht'
    have HB := Lib.hid hb
    clear ht ht' hb
    go_wp2
    go_end0
    exact ⟨HT.out, HB.out, trivial⟩
  · exact ⟨rfl, ht', hb, trivial⟩
theorem e19_any (x : Int) (B : Nat) (w : World) (h1 : One w B (.int .i64 x) 3) :
    Does Try.prog FF 19 #[.pointer (some ⟨B, 0, none⟩)] [] w (codeN x) (okN x) fun _ => True := by
  have q1 := h1.cell
  have HS := Lib.hid (step_any x w)
  unfold Does at *
  go_enter Try.func19, Try.ntmps19
  go_wp2_with fail
  refine Calls.mono HS.out ?_
  rintro e w1 ⟨ht, hb, -⟩
  have ht' := ht
  rcases ht.shape with ⟨rfl, -, -⟩ | ⟨p, rfl, -⟩
  · have HT := Lib.hid ht'
    have HB := Lib.hid hb
    clear ht ht' hb
    go_wp2
    go_end0
    exact ⟨HT.out, HB.out, trivial⟩
  · exact ⟨rfl, ht', hb, trivial⟩
theorem e20_any (x : Int) (B : Nat) (w : World) (h1 : One w B (.int .i64 x) 3) :
    Does Try.prog FF 20 #[.pointer (some ⟨B, 0, none⟩)] [] w (codeN x) (okN x) fun _ => True := by
  have q1 := h1.cell
  have HS := Lib.hid (step_any x w)
  unfold Does at *
  go_enter Try.func20, Try.ntmps20
  go_wp2_with fail
  refine Calls.mono HS.out ?_
  rintro e w1 ⟨ht, hb, -⟩
  have ht' := ht
  rcases ht.shape with ⟨rfl, -, -⟩ | ⟨p, rfl, -⟩
  · have HT := Lib.hid ht'
    have HB := Lib.hid hb
    clear ht ht' hb
    go_wp2
    go_end0
    exact ⟨HT.out, HB.out, trivial⟩
  · exact ⟨rfl, ht', hb, trivial⟩
end Go.Proofs.Ytkogolgaggdacaa
