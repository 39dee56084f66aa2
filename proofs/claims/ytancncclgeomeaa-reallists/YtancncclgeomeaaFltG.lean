/-
  Contracts of layer 4 over lists: Span, Mean, and the reference's Least, Greatest, Mean.
-/
import Derived.Test.YtancncclgeomeaaFltF
import Derived.Test.YtancncclgeomeaaMemV
namespace Go.Proofs.Ytancncclgeomeaa
open Go.RowKit
set_option linter.unusedVariables false

def cellsF (l : List Nat) : List Value := l.map fun b => Value.float .f64 b
theorem cellsF_length (l : List Nat) : (cellsF l).length = l.length := by simp [cellsF]
theorem cellsF_get {l : List Nat} {i x : Nat} (h : l[i]? = some x) : (cellsF l)[i]? = some (.float .f64 x) := by simp [cellsF, h]
theorem cellsF_append (l m : List Nat) : cellsF (l ++ m) = cellsF l ++ cellsF m := by simp [cellsF]
/-- Words of 64 bits. -/
def W64 (l : List Nat) : Prop := ∀ x ∈ l, x < 18446744073709551616
theorem W64.at_ {l : List Nat} (h : W64 l) {i x : Nat} (hi : l[i]? = some x) : x < 18446744073709551616 := h x (List.mem_of_getElem? hi)

def less1 (m x : Nat) : Nat := if !isNan x && decide (cmpR x m < 0) then x else m
def great1 (m x : Nat) : Nat := if !isNan x && decide (0 < cmpR x m) then x else m
def leastF (l : List Nat) : Nat := l.foldl less1 9218868437227405312
def greatestF (l : List Nat) : Nat := l.foldl great1 18442240474082181120
theorem fold_snoc {α β : Type} {l : List α} {i : Nat} {x : α} (h : l[i]? = some x) (f : β → α → β) (b : β) : (l.take (i + 1)).foldl f b = f ((l.take i).foldl f b) x := by
  have hi := (List.getElem?_eq_some_iff.1 h).1
  have e : l.take (i + 1) = l.take i ++ [x] := by
    rw [List.take_succ_eq_append_getElem hi]
    rw [(List.getElem?_eq_some_iff.1 h).2]
  rw [e, List.foldl_append]
  rfl
theorem less1_lt {m x : Nat} (hm : m < 18446744073709551616) (hx : x < 18446744073709551616) : less1 m x < 18446744073709551616 := by unfold less1; split <;> assumption
theorem great1_lt {m x : Nat} (hm : m < 18446744073709551616) (hx : x < 18446744073709551616) : great1 m x < 18446744073709551616 := by unfold great1; split <;> assumption

set_option maxHeartbeats 400000 in
theorem span_any (A : Option Addr) (n c : Nat) (l : List Nat) (w : World) (B : Nat) (h : LiesV w B A (cellsF l)) (h64 : W64 l) (hn : n = l.length) (hl : n ≤ 9223372036854775807) :
    Calls Try.prog 21 #[.slice A n c] w fun e w' => e = .returned (.tuple #[.float .f64 (leastF l), .float .f64 (greatestF l)]) ∧ w = w' := by
  have Hn := Lib.hid hn
  have Hl := Lib.hid h
  have H6 := Lib.hid h64
  clear hn h h64
  go_enter Try.func21, Try.ntmps21
  go_wp2_with fail
  refine (inf_up w).mono ?_
  rintro e w1 ⟨rfl, rfl⟩
  go_wp2_with fail
  refine (inf_down w).mono ?_
  rintro e w1 ⟨rfl, rfl⟩
  go_wp2_with fail
  go_loop [4, 5, 12] (fun x y i => ∃ k p q : Nat, k ≤ n ∧ i = .int .i64 k ∧ x = .float .f64 p ∧ y = .float .f64 q ∧ p < 18446744073709551616 ∧ q < 18446744073709551616 ∧ Hid (p = leastF (l.take k)) ∧ Hid (q = greatestF (l.take k))) (fun _ _ i => n - (intOf i).toNat)
  case atStart => exact ⟨0, _, _, Nat.zero_le _, rfl, rfl, rfl, by decide, by decide, rfl, rfl⟩
  case round =>
    obtain ⟨k, p, q, hk, rfl, rfl, rfl, hp, hq, Hp, Hq⟩ := hrel
    by_cases hlt : k < n
    · obtain ⟨x, hx⟩ : ∃ x, l[k]? = some x := ⟨_, List.getElem?_eq_getElem (by rw [← Hn.out]; exact hlt)⟩
      have hx6 := H6.out.at_ hx
      obtain ⟨b, o, rfl, _, hc⟩ := Hl.out.at_ (cellsF_get hx)
      have Hp' : Hid (leastF (l.take (k + 1)) = less1 p x) := by
        show _ = _
        rw [Hp.out]
        exact fold_snoc hx _ _
      have Hq' : Hid (greatestF (l.take (k + 1)) = great1 q x) := by
        show _ = _
        rw [Hq.out]
        exact fold_snoc hx _ _
      have hp' := Lib.hid (less1_lt hp hx6)
      have hq' := Lib.hid (great1_lt hq hx6)
      have e1 : less1 p x = if !isNan x && decide (cmpR x p < 0) then x else p := rfl
      have e2 : great1 q x = if !isNan x && decide (0 < cmpR x q) then x else q := rfl
      clear hx Hp Hq
      cases h1 : isNan x
      rotate_left
      · rw [h1] at e1 e2
        have E1 := Lib.hid e1
        have E2 := Lib.hid e2
        clear e1 e2
        go_wp2_with fail
        refine (isnan_any x w).mono ?_
        rintro e w1 ⟨rfl, rfl⟩
        go_wp2
        go_round
        case rel => exact ⟨k + 1, less1 p x, great1 q x, by omega, by go_num, by rw [E1.out]; rfl, by rw [E2.out]; rfl, hp'.out, hq'.out, Hp'.out.symm, Hq'.out.symm⟩
        case measure => simp [intOf]; omega
      cases h2 : decide (cmpR x p < 0) <;> cases h3 : decide (0 < cmpR x q) <;> rw [h1, h2] at e1 <;> rw [h1, h3] at e2
      all_goals
        have E1 := Lib.hid e1
        have E2 := Lib.hid e2
        clear e1 e2
        go_wp2_with fail
        refine (isnan_any x w).mono ?_
        rintro e w1 ⟨rfl, rfl⟩
        go_wp2_with fail
        refine (compareF_any x p hx6 hp w).mono ?_
        rintro e w1 ⟨rfl, rfl⟩
        go_wp2_with fail
        refine (compareF_any x q hx6 hq w).mono ?_
        rintro e w1 ⟨rfl, rfl⟩
        go_wp2
        go_round
        case rel => exact ⟨k + 1, less1 p x, great1 q x, by omega, by go_num, by rw [E1.out]; rfl, by rw [E2.out]; rfl, hp'.out, hq'.out, Hp'.out.symm, Hq'.out.symm⟩
        case measure => simp [intOf]; omega
    · obtain rfl : n = k := by omega
      have hp2 : Hid (leastF l = p) := by
        show _ = _
        rw [Hp.out, Hn.out, List.take_length]
      have hq2 : Hid (greatestF l = q) := by
        show _ = _
        rw [Hq.out, Hn.out, List.take_length]
      clear Hp Hq
      go_wp2
      go_ret2
      exact ⟨by rw [hp2.out, hq2.out]; rfl, rfl⟩

set_option maxHeartbeats 400000 in
theorem rleast_any (A : Option Addr) (n c : Nat) (l : List Nat) (w : World) (B : Nat) (h : LiesV w B A (cellsF l)) (h64 : W64 l) (hn : n = l.length) (hl : n ≤ 9223372036854775807) :
    Calls Try.prog 22 #[.slice A n c] w fun e w' => e = .returned (.float .f64 (leastF l)) ∧ w = w' := by
  have Hn := Lib.hid hn
  have Hl := Lib.hid h
  have H6 := Lib.hid h64
  clear hn h h64
  go_enter Try.func22, Try.ntmps22
  go_wp2_with fail
  refine (inf_up w).mono ?_
  rintro e w1 ⟨rfl, rfl⟩
  go_wp2_with fail
  go_loop [3, 4] (fun x i => ∃ k p : Nat, k ≤ n ∧ i = .int .i64 k ∧ x = .float .f64 p ∧ p < 18446744073709551616 ∧ Hid (p = leastF (l.take k))) (fun _ i => n - (intOf i).toNat)
  case atStart => exact ⟨0, _, Nat.zero_le _, rfl, rfl, by decide, rfl⟩
  case round =>
    obtain ⟨k, p, hk, rfl, rfl, hp, Hp⟩ := hrel
    by_cases hlt : k < n
    · obtain ⟨x, hx⟩ : ∃ x, l[k]? = some x := ⟨_, List.getElem?_eq_getElem (by rw [← Hn.out]; exact hlt)⟩
      have hx6 := H6.out.at_ hx
      obtain ⟨b, o, rfl, _, hc⟩ := Hl.out.at_ (cellsF_get hx)
      have Hp' : Hid (leastF (l.take (k + 1)) = less1 p x) := by
        show _ = _
        rw [Hp.out]
        exact fold_snoc hx _ _
      have hp' := Lib.hid (less1_lt hp hx6)
      have e1 : less1 p x = if !isNan x && decide (cmpR x p < 0) then x else p := rfl
      clear hx Hp
      cases h1 : isNan x
      rotate_left
      · rw [h1] at e1
        have E1 := Lib.hid e1
        clear e1
        go_wp2_with fail
        refine (none_any x w).mono ?_
        rintro e w1 ⟨rfl, rfl⟩
        go_wp2
        go_round
        case rel => exact ⟨k + 1, less1 p x, by omega, by go_num, by rw [E1.out]; rfl, hp'.out, Hp'.out.symm⟩
        case measure => simp [intOf]; omega
      cases h2 : decide (cmpR x p < 0) <;> rw [h1, h2] at e1
      all_goals
        have E1 := Lib.hid e1
        clear e1
        go_wp2_with fail
        refine (none_any x w).mono ?_
        rintro e w1 ⟨rfl, rfl⟩
        go_wp2_with fail
        refine (rcompare_any x p hx6 hp w).mono ?_
        rintro e w1 ⟨rfl, rfl⟩
        go_wp2
        go_round
        case rel => exact ⟨k + 1, less1 p x, by omega, by go_num, by rw [E1.out]; rfl, hp'.out, Hp'.out.symm⟩
        case measure => simp [intOf]; omega
    · obtain rfl : n = k := by omega
      have hp2 : Hid (leastF l = p) := by
        show _ = _
        rw [Hp.out, Hn.out, List.take_length]
      clear Hp
      go_wp2
      go_ret
      exact ⟨by rw [hp2.out]; rfl, rfl⟩

set_option maxHeartbeats 400000 in
theorem rgreatest_any (A : Option Addr) (n c : Nat) (l : List Nat) (w : World) (B : Nat) (h : LiesV w B A (cellsF l)) (h64 : W64 l) (hn : n = l.length) (hl : n ≤ 9223372036854775807) :
    Calls Try.prog 23 #[.slice A n c] w fun e w' => e = .returned (.float .f64 (greatestF l)) ∧ w = w' := by
  have Hn := Lib.hid hn
  have Hl := Lib.hid h
  have H6 := Lib.hid h64
  clear hn h h64
  go_enter Try.func23, Try.ntmps23
  go_wp2_with fail
  refine (inf_down w).mono ?_
  rintro e w1 ⟨rfl, rfl⟩
  go_wp2_with fail
  go_loop [3, 4] (fun x i => ∃ k p : Nat, k ≤ n ∧ i = .int .i64 k ∧ x = .float .f64 p ∧ p < 18446744073709551616 ∧ Hid (p = greatestF (l.take k))) (fun _ i => n - (intOf i).toNat)
  case atStart => exact ⟨0, _, Nat.zero_le _, rfl, rfl, by decide, rfl⟩
  case round =>
    obtain ⟨k, p, hk, rfl, rfl, hp, Hp⟩ := hrel
    by_cases hlt : k < n
    · obtain ⟨x, hx⟩ : ∃ x, l[k]? = some x := ⟨_, List.getElem?_eq_getElem (by rw [← Hn.out]; exact hlt)⟩
      have hx6 := H6.out.at_ hx
      obtain ⟨b, o, rfl, _, hc⟩ := Hl.out.at_ (cellsF_get hx)
      have Hp' : Hid (greatestF (l.take (k + 1)) = great1 p x) := by
        show _ = _
        rw [Hp.out]
        exact fold_snoc hx _ _
      have hp' := Lib.hid (great1_lt hp hx6)
      have e1 : great1 p x = if !isNan x && decide (0 < cmpR x p) then x else p := rfl
      clear hx Hp
      cases h1 : isNan x
      rotate_left
      · rw [h1] at e1
        have E1 := Lib.hid e1
        clear e1
        go_wp2_with fail
        refine (none_any x w).mono ?_
        rintro e w1 ⟨rfl, rfl⟩
        go_wp2
        go_round
        case rel => exact ⟨k + 1, great1 p x, by omega, by go_num, by rw [E1.out]; rfl, hp'.out, Hp'.out.symm⟩
        case measure => simp [intOf]; omega
      cases h2 : decide (0 < cmpR x p) <;> rw [h1, h2] at e1
      all_goals
        have E1 := Lib.hid e1
        clear e1
        go_wp2_with fail
        refine (none_any x w).mono ?_
        rintro e w1 ⟨rfl, rfl⟩
        go_wp2_with fail
        refine (rcompare_any x p hx6 hp w).mono ?_
        rintro e w1 ⟨rfl, rfl⟩
        go_wp2
        go_round
        case rel => exact ⟨k + 1, great1 p x, by omega, by go_num, by rw [E1.out]; rfl, hp'.out, Hp'.out.symm⟩
        case measure => simp [intOf]; omega
    · obtain rfl : n = k := by omega
      have hp2 : Hid (greatestF l = p) := by
        show _ = _
        rw [Hp.out, Hn.out, List.take_length]
      clear Hp
      go_wp2
      go_ret
      exact ⟨by rw [hp2.out]; rfl, rfl⟩

/-- The sum of numbers in their order, where its bits are told; what is divided by their number. -/
def add1 (s : Option Nat) (x : Nat) : Option Nat := s.bind fun s => floatBits .add .f64 s x
def sumF (l : List Nat) : Option Nat := l.foldl add1 (some 0)
def meanF (l : List Nat) : Option Nat := (sumF l).bind fun s => floatBits .quo .f64 s (floatOfInt .f64 (l.length : Int))
theorem nan_arith {x y : Nat} (h : isNan x = true) : floatBits .add .f64 x y = none ∧ floatBits .quo .f64 x y = none := by
  unfold isNan at h
  obtain ⟨f, e⟩ := read_nan (b := x) (by simpa using h)
  constructor
  · show ((Ieee.double.read x).sum (Ieee.double.read y)).map _ = none
    rw [e]
    cases Ieee.double.read y <;> rfl
  · show ((Ieee.double.read x).quotient _ (Ieee.double.read y)).map _ = none
    rw [e]
    cases Ieee.double.read y <;> rfl
/-- A step: what the walk finds, whatever the tape says. -/
theorem told_step {op : BinOp} (hop : op = .add ∨ op = .quo) {o : Option Nat} {s : Nat} (ht : Told o s) (y : Nat) (t : TypeId) (w : World) :
    ∃ r w', (binOp op t (.float .f64 s) (.float .f64 y)).run Try.prog w = .ok (.float .f64 r) w' ∧ r < 18446744073709551616 ∧ Told (o.bind fun s => floatBits op .f64 s y) r ∧ (w' = w ∨ w' = w.drew) := by
  have e : (o.bind fun s => floatBits op .f64 s y) = floatBits op .f64 s y := by
    cases o with
    | some x =>
      obtain rfl : s = x := ht
      rfl
    | none =>
      have hx : isNan s = true := ht
      rcases hop with rfl | rfl
      · exact (nan_arith hx).1.symm
      · exact (nan_arith hx).2.symm
  rw [e]
  rcases run_float_any (P := Try.prog) op (by rcases hop with rfl | rfl <;> simp) t s y w with ⟨r, h1, h2⟩ | ⟨h1, r, h3, h4, h2⟩
  · exact ⟨r, w, h2, bits_lt h1, by rw [h1]; rfl, .inl rfl⟩
  · exact ⟨r, w.drew, h2, h4, by rw [h1]; exact h3, .inr rfl⟩
theorem below_step {w W W' : World} (h : Below w.heap.size w W) (h' : W' = W ∨ W' = W.drew) : Below w.heap.size w W' := by
  rcases h' with rfl | rfl
  · exact h
  · exact h.drew

theorem told_on {w W : World} (hb : Below w.heap.size w W) {op : BinOp} (hop : op = .add ∨ op = .quo) {o : Option Nat} {s : Nat} (ht : Told o s) (y : Nat) (t : TypeId) :
    ∃ r w', (binOp op t (.float .f64 s) (.float .f64 y)).run Try.prog W = .ok (.float .f64 r) w' ∧ r < 18446744073709551616 ∧ Told (o.bind fun s => floatBits op .f64 s y) r ∧ Below w.heap.size w w' := by
  obtain ⟨r, w', h1, h2, h3, h4⟩ := told_step hop ht y t W
  exact ⟨r, w', h1, h2, h3, below_step hb h4⟩

set_option maxHeartbeats 400000 in
theorem mean_any (A : Option Addr) (n c : Nat) (l : List Nat) (w : World) (h : LiesV w w.heap.size A (cellsF l)) (hn : n = l.length) (hl : n ≤ 9223372036854775807) :
    Calls Try.prog 24 #[.slice A n c] w fun e w' => ∃ r, e = .returned (.float .f64 r) ∧ r < 18446744073709551616 ∧ Told (meanF l) r ∧ Below w.heap.size w w' := by
  have Hn := Lib.hid hn
  have Hl := Lib.hid h
  clear hn h
  go_enter Try.func24, Try.ntmps24
  go_wp2_with fail
  go_loopw [3, 8] (fun x i W => ∃ k p : Nat, k ≤ n ∧ i = .int .i64 k ∧ x = .float .f64 p ∧ Hid (Told (sumF (l.take k)) p) ∧ Below w.heap.size w W) (fun _ i _ => n - (intOf i).toNat)
  case atStart => exact ⟨0, _, Nat.zero_le _, rfl, rfl, rfl, Below.refl _ _⟩
  case round =>
    obtain ⟨k, p, hk, rfl, rfl, Hp, hb⟩ := hrel
    by_cases hlt : k < n
    · obtain ⟨x, hx⟩ : ∃ x, l[k]? = some x := ⟨_, List.getElem?_eq_getElem (by rw [← Hn.out]; exact hlt)⟩
      obtain ⟨b, o, rfl, _, hc⟩ := (Hl.out.below hb).at_ (cellsF_get hx)
      obtain ⟨r, W', hr, _, ht, hb'⟩ := told_on hb (.inl rfl) Hp.out x 23
      have Ht : Hid (Told (sumF (l.take (k + 1))) r) := by
        show Told _ _
        have e : sumF (l.take (k + 1)) = add1 (sumF (l.take k)) x := fold_snoc hx _ _
        rw [e]
        exact ht
      clear hx Hp ht
      go_wp2
      go_roundw
      case rel => exact ⟨k + 1, r, by omega, by go_num, rfl, Ht, hb'⟩
      case measure => simp [intOf]; omega
    · obtain rfl : n = k := by omega
      obtain ⟨r, W', hr, hr6, ht, hb'⟩ := told_on hb (.inr rfl) Hp.out (floatOfInt .f64 (n : Int)) 23
      have Ht : Hid (Told (meanF l) r) := by
        show Told _ _
        rw [Hn.out, List.take_length] at ht
        exact ht
      clear Hp ht
      go_wp2
      go_ret
      exact ⟨r, rfl, hr6, Ht.out, hb'⟩

set_option maxHeartbeats 400000 in
theorem rmean_any (A : Option Addr) (n c : Nat) (l : List Nat) (w : World) (h : LiesV w w.heap.size A (cellsF l)) (hn : n = l.length) (hl : n ≤ 9223372036854775807) :
    Calls Try.prog 25 #[.slice A n c] w fun e w' => ∃ r, e = .returned (.float .f64 r) ∧ r < 18446744073709551616 ∧ Told (meanF l) r ∧ Below w.heap.size w w' := by
  have Hn := Lib.hid hn
  have Hl := Lib.hid h
  clear hn h
  go_enter Try.func25, Try.ntmps25
  go_wp2_with fail
  go_loopw [3, 4] (fun x i W => ∃ k p : Nat, k ≤ n ∧ i = .int .i64 k ∧ x = .float .f64 p ∧ Hid (Told (sumF (l.take k)) p) ∧ Below w.heap.size w W) (fun _ i _ => n - (intOf i).toNat)
  case atStart => exact ⟨0, _, Nat.zero_le _, rfl, rfl, rfl, Below.refl _ _⟩
  case round =>
    obtain ⟨k, p, hk, rfl, rfl, Hp, hb⟩ := hrel
    by_cases hlt : k < n
    · obtain ⟨x, hx⟩ : ∃ x, l[k]? = some x := ⟨_, List.getElem?_eq_getElem (by rw [← Hn.out]; exact hlt)⟩
      obtain ⟨b, o, rfl, _, hc⟩ := (Hl.out.below hb).at_ (cellsF_get hx)
      obtain ⟨r, W', hr, _, ht, hb'⟩ := told_on hb (.inl rfl) Hp.out x 23
      have Ht : Hid (Told (sumF (l.take (k + 1))) r) := by
        show Told _ _
        have e : sumF (l.take (k + 1)) = add1 (sumF (l.take k)) x := fold_snoc hx _ _
        rw [e]
        exact ht
      clear hx Hp ht
      go_wp2
      go_roundw
      case rel => exact ⟨k + 1, r, by omega, by go_num, rfl, Ht, hb'⟩
      case measure => simp [intOf]; omega
    · obtain rfl : n = k := by omega
      obtain ⟨r, W', hr, hr6, ht, hb'⟩ := told_on hb (.inr rfl) Hp.out (floatOfInt .f64 (n : Int)) 23
      have Ht : Hid (Told (meanF l) r) := by
        show Told _ _
        rw [Hn.out, List.take_length] at ht
        exact ht
      clear Hp ht
      go_wp2
      go_ret
      exact ⟨r, rfl, hr6, Ht.out, hb'⟩
end Go.Proofs.Ytancncclgeomeaa
