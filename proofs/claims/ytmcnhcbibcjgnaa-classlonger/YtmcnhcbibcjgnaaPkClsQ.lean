/-
  Layer 15: the contract of fields: the class that stands at a cursor.
  Layer 15: what a sector's bytes hold, class by class. No function is named here.
-/
import Derived.Test.YtmcnhcbibcjgnaaPkClsH
import Derived.Test.YtmcnhcbibcjgnaaPkFld
import Derived.Test.YtmcnhcbibcjgnaaPkNumC
import Derived.Test.YtmcnhcbibcjgnaaPkSecGN
namespace Go.Proofs.Ytmcnhcbibcjgnaa
open Go.RowKit
set_option linter.unusedVariables false
set_option linter.unusedSimpArgs false

theorem grown_below15 {w w' w'' : World} {g B : Nat} (h : w.grownBy w' (some g)) (hb : Below B w' w'') (hB : w.heap.size ≤ B) : w.grownBy w'' (some g) :=
  ⟨hb.os.trans h.os, hb.tape.trans h.tape, hb.output.trans h.output, Nat.le_trans h.size hb.size, fun i hi hne => (hb.block i (by omega)).trans (h.block i hi hne)⟩
theorem grown_new15 {w w' w'' : World} {g N : Nat} (h : w.grownBy w' (some g)) (hb : w'.grownBy w'' (some N)) (hB : w.heap.size ≤ N) : w.grownBy w'' (some g) :=
  ⟨hb.os.trans h.os, hb.tape.trans h.tape, hb.output.trans h.output, Nat.le_trans h.size hb.size, fun i hi hne => (hb.block i (by have := h.size; omega) (fun e => by injection e with e; omega)).trans (h.block i hi hne)⟩
theorem below_grown15 {w w' w'' : World} {g : Nat} (hb : Below w.heap.size w w') (h : w'.grownBy w'' (some g)) : w.grownBy w'' (some g) :=
  ⟨h.os.trans hb.os, h.tape.trans hb.tape, h.output.trans hb.output, Nat.le_trans hb.size h.size, fun i hi hne => (h.block i (by have := hb.size; omega) hne).trans (hb.block i hi)⟩

theorem text16_some (w : World) (g : Nat) (xs t : List UInt8) (h : Cur w g xs false) (hk : 16 ≤ xs.length) (hx : xs.length ≤ 140737488355328) (ht : unpadO (xs.take 16) = some t) :
    Calls Try.prog 47 #[.pointer (some ⟨g, 0, none⟩), .int .i64 16] w (RetG w g (.string ⟨t.toArray⟩) (xs.drop 16) false) := by
  have := text_any w g xs false 16 h hx
  have hb : cutBad xs false 16 = false := by simp [cutBad]; omega
  unfold cutGot cutRest at this
  rw [hb] at this
  have e : (16 : Int).toNat = 16 := rfl
  simp only [Bool.false_eq_true, if_false, e] at this
  rw [ht] at this
  have hs : unpadS (xs.take 16) = t := by simp [unpadS, ht]
  rw [hs] at this
  exact this
theorem text16_none (w : World) (g : Nat) (xs : List UInt8) (h : Cur w g xs false) (hk : 16 ≤ xs.length) (hx : xs.length ≤ 140737488355328) (ht : unpadO (xs.take 16) = none) :
    Calls Try.prog 47 #[.pointer (some ⟨g, 0, none⟩), .int .i64 16] w (RetG w g (.string ⟨([] : List UInt8).toArray⟩) (xs.drop 16) true) := by
  have := text_any w g xs false 16 h hx
  have hb : cutBad xs false 16 = false := by simp [cutBad]; omega
  unfold cutGot cutRest at this
  rw [hb] at this
  have e : (16 : Int).toNat = 16 := rfl
  simp only [Bool.false_eq_true, if_false, e] at this
  rw [ht] at this
  have hs : unpadS (xs.take 16) = [] := by simp [unpadS, ht]
  rw [hs] at this
  exact this
theorem leN_zeros (n : Nat) : leN (List.replicate n 0) = 0 := by
  induction n with
  | zero => rfl
  | succ n ih => rw [List.replicate_succ]; simp [leN, ih]
theorem num_bad (w : World) (g : Nat) (xs : List UInt8) (k : Int) (h : Cur w g xs true) (hx : xs.length ≤ 140737488355328) :
    Calls Try.prog 32 #[.pointer (some ⟨g, 0, none⟩), .int .i64 k] w (RetG w g (.int .u64 0) xs true) := by
  have := num_any w g xs true k h hx
  have hb : cutBad xs true k = true := rfl
  unfold cutGot cutRest at this
  rw [hb] at this
  simp only [if_true, List.take_replicate, leN_zeros] at this
  exact this
theorem and_one15 : ∀ n : Nat, n < 256 → ((bits .and .u64 (n : Int) 1 != 0) = decide (n % 2 = 1)) := by
  have : ∀ n < 256, ((bits .and .u64 ((n : Nat) : Int) 1 != 0) = decide (n % 2 = 1)) := by decide +kernel
  exact this
theorem and_two15 : ∀ n : Nat, n < 256 → ((bits .and .u64 (n : Int) 2 != 0) = decide (n / 2 % 2 = 1)) := by
  have : ∀ n < 256, ((bits .and .u64 ((n : Nat) : Int) 2 != 0) = decide (n / 2 % 2 = 1)) := by decide +kernel
  exact this
theorem leN_six (xs : List UInt8) : leN (xs.take 6) < 281474976710656 := by
  have h1 := leN_lt (xs.take 6)
  have h2 : (256 : Nat) ^ (xs.take 6).length ≤ 256 ^ 6 := Nat.pow_le_pow_right (by omega) (by rw [List.length_take]; omega)
  omega
theorem take1_of {xs : List UInt8} {j : Nat} {x : UInt8} (h : xs[j]? = some x) : (xs.drop j).take 1 = [x] := by
  obtain ⟨hj, rfl⟩ := List.getElem?_eq_some_iff.1 h
  rw [List.drop_eq_getElem_cons hj]
  rfl
theorem build_clP {w : World} {ops : Array Oper} {rest : List Oper} {o : Oper} {a : Act} {Q : Exit → Act → World → Prop} (hg : o.guard = none) (parts : Array (Nat × Operand)) (ho : o.op = .build 34 parts) (c : Cl) {L : List (Nat × Value)}
    (hp : (parts.toList.map fun p => (p.1, a.eval p.2)) = L) (hb : Try.prog.built 34 L = some (clv c).toArray)
    (h : wpList Try.prog ops Q rest (a.put o.dst (.agg (clv c).toArray)) w) : wpList Try.prog ops Q (o :: rest) a w := by
  refine wpList_build_to hg 34 parts ho (clv c) ?_ h
  rw [Array.toList_map]
  show Try.prog.built _ (List.map (fun p => (p.1, a.eval p.2)) parts.toList) = _
  rw [hp]
  exact hb
theorem build_cl {w : World} {ops : Array Oper} {rest : List Oper} {o : Oper} {a : Act} {Q : Exit → Act → World → Prop} (hg : o.guard = none) (parts : Array (Nat × Operand)) (ho : o.op = .build 34 parts) (c : Cl)
    (hp : (parts.toList.map fun p => (p.1, a.eval p.2)) = [(0, .string ⟨c.name.toArray⟩), (1, .int .i64 c.period), (2, .bool c.event), (3, .bool c.priv)])
    (h : wpList Try.prog ops Q rest (a.put o.dst (.agg (clv c).toArray)) w) : wpList Try.prog ops Q (o :: rest) a w :=
  build_clP hg parts ho c hp (Try.builtC15 _ _ _ _) h

/-- The class that 23 bytes hold. -/
def fldC (xs : List UInt8) : Cl :=
  match unpadO (xs.take 16) with
  | some t => ⟨t, ((leN ((xs.drop 16).take 6) : Nat) : Int), decide ((xs.getD 22 0).toNat % 2 = 1), decide ((xs.getD 22 0).toNat / 2 % 2 = 1)⟩
  | none => cl0

set_option maxRecDepth 100000 in
set_option maxHeartbeats 1000000 in
theorem cfields_any (w : World) (g : Nat) (xs : List UInt8) (h : Cur w g xs false) (hk : 23 ≤ xs.length) (hx : xs.length ≤ 1000000) :
    Calls Try.prog 33 #[.pointer (some ⟨g, 0, none⟩)] w fun e w' => e = .returned (.agg (clv (fldC xs)).toArray) ∧ w.grownBy w' (some g) ∧ (unpadO (xs.take 16) ≠ none → Cur w' g (xs.drop 23) false) := by
  have hg := h.lt
  have Hc := Lib.hid h
  have Hk := Lib.hid hk
  have Hxl : Hid (xs.length ≤ 140737488355328) := by show _ ≤ _; omega
  obtain ⟨x, hx22⟩ : ∃ x, xs[22]? = some x := ⟨_, List.getElem?_eq_getElem (by omega)⟩
  have hxn := x.toNat_lt
  have H22 := Lib.hid hx22
  obtain ⟨C, hC⟩ : ∃ C, fldC xs = C := ⟨_, rfl⟩
  have HC0 := Lib.hid hC
  rw [hC]
  clear h hk hx hx22 hC
  go_enter Try.func33, Try.ntmps33
  go_wp2_with ((with_reducible refine at_alloc 34 ?_); refine alloc_cl rfl rfl ?_)
  intro w1 hr1 hb1 hs1
  have Hc1 := Lib.hid (Hc.out.below hb1)
  obtain ⟨N, hN⟩ : ∃ N, w.heap.size = N := ⟨_, rfl⟩
  have HN := Lib.hid hN
  rw [hN] at hr1 hg hs1 ⊢
  have hne : (some g : Option Nat) ≠ some N := fun e => by injection e with e; omega
  have Hw1 : Hid (w.grownBy w1 (some g)) := grown_of_below hb1 (some g)
  clear hb1 hs1 Hc hN
  cases ht : unpadO (xs.take 16) with
  | some t =>
    have Hf : Hid (C = ⟨t, ((leN ((xs.drop 16).take 6) : Nat) : Int), decide (x.toNat % 2 = 1), decide (x.toNat / 2 % 2 = 1)⟩) := by
      show _ = _
      rw [← HC0.out]
      unfold fldC
      rw [ht, List.getD_eq_getElem?_getD, H22.out]
      rfl
    have Ht := Lib.hid ht
    clear ht
    go_wp2_with fail
    refine (text16_some w1 g xs t Hc1.out (by have := Hk.out; omega) Hxl.out Ht.out).mono ?_
    rintro e w2 ⟨rfl, hc2, hg2⟩
    have hr2 := hr1.keep hg2 hne
    have Hw2 : Hid (w.grownBy w2 (some g)) := grown_trans' Hw1.out hg2
    clear hg2 hr1 Hw1 Hc1 Ht
    go_wp2_with fail
    have h6 := num_yes w2 g (xs.drop 16) 6 hc2 (by rw [List.length_drop]; have := Hk.out; omega) (by omega) (by rw [List.length_drop]; have := Hxl.out; omega)
    refine Calls.mono h6 ?_
    rintro e w3 ⟨rfl, hc3, hg3⟩
    have hr3 := hr2.keep hg3 hne
    have Hw3 : Hid (w.grownBy w3 (some g)) := grown_trans' Hw2.out hg3
    have hl6 := leN_six (xs.drop 16)
    obtain ⟨p, hp⟩ : ∃ p, leN ((xs.drop 16).take 6) = p := ⟨_, rfl⟩
    rw [hp] at hl6 ⊢
    have hd3 : (xs.drop 16).drop 6 = xs.drop 22 := by rw [List.drop_drop]
    rw [hd3] at hc3
    have Hp := Lib.hid hp
    have hwp : IntKind.i64.wrap (p : Int) = p := IntWalk.i64_in _ (by omega)
    clear hg3 hc2 hr2 Hw2 h6 hp hd3
    go_wp2_with fail
    have h1 := num_yes w3 g (xs.drop 22) 1 hc3 (by rw [List.length_drop]; have := Hk.out; omega) (by omega) (by rw [List.length_drop]; have := Hxl.out; omega)
    rw [take1_of H22.out] at h1
    have e1 : leN [x] = x.toNat := by simp [leN]
    rw [e1] at h1
    refine Calls.mono h1 ?_
    rintro e w4 ⟨rfl, hc4, hg4⟩
    have hr4 := hr3.keep hg4 hne
    have Hw4 : Hid (w.grownBy w4 (some g)) := grown_trans' Hw3.out hg4
    have hd4 : (xs.drop 22).drop 1 = xs.drop 23 := by rw [List.drop_drop]
    rw [hd4] at hc4
    have Hc4 := Lib.hid hc4
    obtain ⟨n, hn⟩ : ∃ n, x.toNat = n := ⟨_, rfl⟩
    have a1 := and_one15 n (by omega)
    have a2 := and_two15 n (by omega)
    rw [hn] at Hf ⊢
    have hCf := Hf.out
    rw [Hp.out] at hCf
    have HC := Lib.hid hCf
    clear hg4 hc3 hr3 Hw3 h1 e1 hd4 hn hCf Hf hwp hc4
    go_wp2_with first
      | ((with_reducible refine at_build 34 ?_); refine build_cl rfl _ rfl C (by rw [HC.out]; rfl) ?_)
      | ((with_reducible refine at_store 34 ?_); refine store_cl rfl _ _ rfl N C rfl rfl hr4 (clv_length _) ?_)
    intro w5 hr5 hg5 hs5
    go_wp2_with fail
    refine bodyPost_ret (results_cell_row (fn := Try.f33) rfl _ _ N 34 _ (0, 0) _ rfl hr5 Try.underlying34 rfl (cl_info' _)) rfl ⟨rfl, ?_, fun _ => ?_⟩
    · exact grown_new15 Hw4.out hg5 (by rw [HN.out]; exact Nat.le_refl _)
    · exact Hc4.out.grown_above hg5 hg
  | none =>
    have Hf : Hid (C = cl0) := by
      show _ = _
      rw [← HC0.out]
      unfold fldC
      rw [ht]
    have Ht := Lib.hid ht
    clear ht
    go_wp2_with fail
    refine (text16_none w1 g xs Hc1.out (by have := Hk.out; omega) Hxl.out Ht.out).mono ?_
    rintro e w2 ⟨rfl, hc2, hg2⟩
    have hr2 := hr1.keep hg2 hne
    have Hw2 : Hid (w.grownBy w2 (some g)) := grown_trans' Hw1.out hg2
    clear hg2 hr1 Hw1 Hc1
    have Hxl16 : Hid ((xs.drop 16).length ≤ 140737488355328) := by show _ ≤ _; rw [List.length_drop]; have := Hxl.out; omega
    go_wp2_with fail
    refine Calls.mono (num_bad w2 g (xs.drop 16) 6 hc2 Hxl16.out) ?_
    rintro e w3 ⟨rfl, hc3, hg3⟩
    have hr3 := hr2.keep hg3 hne
    have Hw3 : Hid (w.grownBy w3 (some g)) := grown_trans' Hw2.out hg3
    clear hg3 hc2 hr2 Hw2
    go_wp2_with fail
    refine Calls.mono (num_bad w3 g (xs.drop 16) 1 hc3 Hxl16.out) ?_
    rintro e w4 ⟨rfl, hc4, hg4⟩
    have hr4 := hr3.keep hg4 hne
    have Hw4 : Hid (w.grownBy w4 (some g)) := grown_trans' Hw3.out hg4
    have a1 := and_one15 0 (by omega)
    have a2 := and_two15 0 (by omega)
    clear hg4 hc3 hr3 Hw3
    go_wp2_with first
      | ((with_reducible refine at_build 34 ?_); refine build_cl rfl _ rfl cl0 rfl ?_)
      | ((with_reducible refine at_store 34 ?_); refine store_cl rfl _ _ rfl N cl0 rfl rfl hr4 (clv_length _) ?_)
    intro w5 hr5 hg5 hs5
    go_wp2_with fail
    refine bodyPost_ret (results_cell_row (fn := Try.f33) rfl _ _ N 34 _ (0, 0) _ rfl hr5 Try.underlying34 rfl (cl_info' _)) rfl ⟨by rw [Hf.out], ?_, fun h => absurd Ht.out h⟩
    exact grown_new15 Hw4.out hg5 (by rw [HN.out]; exact Nat.le_refl _)
end Go.Proofs.Ytmcnhcbibcjgnaa
namespace Go.Proofs.Ytmcnhcbibcjgnaa
open Go.RowKit
set_option linter.unusedVariables false

theorem cnt_of {m : List Cl} {x : Sec} (h : SetOk m) (e : clsS m = x) : (x.1.getD 0 0).toNat = m.length := by
  subst e
  have h8 := h.len
  have : (clsS m).1.getD 0 0 = UInt8.ofNat m.length := by
    show (sealB (padL (clsB m))).getD 0 0 = _
    rw [show clsB m = UInt8.ofNat m.length :: m.flatMap clB from rfl, padL, List.take_succ_cons]
    rfl
  rw [this, toNat_ofNat]
  omega
theorem fldC_back {c : Cl} (h : c.ok = true) (r : List UInt8) : fldC (clB c ++ r) = c := by
  have h2 := Cl.ok_name h
  obtain ⟨p1, p2⟩ := Cl.ok_per h
  have lp := padN_length h2
  have t16 : (clB c ++ r).take 16 = padN c.name := by
    rw [clB, List.append_assoc, List.take_append_of_le_length (by omega), List.take_of_length_le (by omega)]
  have d16 : ((clB c ++ r).drop 16).take 6 = putB c.period.toNat 6 := by
    rw [clB, List.append_assoc, List.drop_append_of_le_length (by omega), List.drop_of_length_le (by omega), List.nil_append, List.append_assoc, List.take_append_of_le_length (by rw [putB_length]; omega), List.take_of_length_le (by rw [putB_length]; omega)]
  have g22 : (clB c ++ r).getD 22 0 = flagB c := by
    rw [clB, List.append_assoc, List.getD_eq_getElem?_getD, List.getElem?_append_right (by omega), lp, List.append_assoc, List.getElem?_append_right (by rw [putB_length]; omega), putB_length]
    rfl
  have hu : unpadO ((clB c ++ r).take 16) = some c.name := by
    rw [t16, ← pad16 h2]
    exact unpad_pad (by omega) (by omega)
  unfold fldC
  rw [hu]
  simp only []
  rw [d16, g22, leN_putB]
  obtain ⟨nm, pe, ev, pr⟩ := c
  simp only at p1 p2 ⊢
  have e6 : ((pe.toNat % 256 ^ 6 : Nat) : Int) = pe := by omega
  rw [e6]
  rw [show flagB ⟨nm, pe, ev, pr⟩ = flagBits ev pr from rfl, flag_ev, flag_pr]
theorem fld_of {m : List Cl} {x : Sec} (h : SetOk m) (e : clsS m = x) {k : Nat} {c : Cl} (hc : m[k]? = some c) : fldC (x.1.drop (1 + 23 * k)) = c := by
  subst e
  obtain ⟨a, r, e1, e2⟩ := cls_split h hc
  rw [e1, ← e2, List.drop_left' rfl]
  exact fldC_back (h.ok c (List.mem_of_getElem? hc)) r
theorem addC_take {m : List Cl} (h : SetOk m) {k : Nat} {c : Cl} (hc : m[k]? = some c) : addC (m.take k) c = (m.take k ++ [c], 0) := by
  have hk := (List.getElem?_eq_some_iff.1 hc).1
  refine addC_yes (checkC_ok.2 (h.ok c (List.mem_of_getElem? hc))) ?_ (by have := h.len; rw [List.length_take]; omega)
  cases hf : findC (m.take k) c.name with
  | none => rfl
  | some i =>
    exfalso
    obtain ⟨d, hd, hn⟩ := findC_some hf
    have hi := (List.getElem?_eq_some_iff.1 hd).1
    rw [List.length_take] at hi
    have hd' : m[i]? = some d := by
      rw [List.getElem?_take] at hd
      split at hd
      · exact hd
      · cases hd
    have := h.one i k d c hd' hc hn
    omega
theorem addC_zero {l : List Cl} {c : Cl} (h : (addC l c).2 = 0) : addC l c = (l ++ [c], 0) ∧ c.ok = true := by
  by_cases h1 : checkC 10 2 c = 0
  · cases hf : findC l c.name with
    | some i => rw [addC_twice h1 hf] at h; cases h
    | none =>
      by_cases h8 : 8 ≤ l.length
      · rw [addC_full h1 hf h8] at h; cases h
      · exact ⟨addC_yes h1 hf (by omega), checkC_ok.1 h1⟩
  · rw [addC_bad h1] at h
    exact absurd h h1
theorem fldC_unpad {xs : List UInt8} (h : (fldC xs).ok = true) : unpadO (xs.take 16) ≠ none := by
  intro e
  unfold fldC at h
  rw [e] at h
  cases h
theorem fldC_name (xs : List UInt8) : (fldC xs).name.length ≤ 16 := by
  unfold fldC
  have hu : ∀ (ys t : List UInt8), unpadO ys = some t → t.length ≤ ys.length := by
    intro ys t h
    cases ys with
    | nil => cases h
    | cons y ys =>
      rw [show unpadO (y :: ys) = if y.toNat ≤ ys.length ∧ zeros (ys.drop y.toNat) = true then some (ys.take y.toNat) else none from rfl] at h
      split at h
      · injection h with h
        rw [← h, List.length_take, List.length_cons]
        omega
      · cases h
  cases e : unpadO (xs.take 16) with
  | none => simp [cl0]
  | some t =>
    have := hu _ _ e
    rw [List.length_take] at this
    simp only []
    omega
/-- .. one class more. -/
theorem read_step {x : Sec} {l : List Cl} {k : Nat} (hk : k < (x.1.getD 0 0).toNat) (h : ∀ m, SetOk m → clsS m = x → l = m.take k) : ∀ m, SetOk m → clsS m = x → l ++ [fldC (x.1.drop (1 + 23 * k))] = m.take (k + 1) ∧ (addC l (fldC (x.1.drop (1 + 23 * k)))).2 = 0 := by
  intro m hm e
  have hl := h m hm e
  have hc := cnt_of hm e
  have hkm : m[k]? = some m[k] := List.getElem?_eq_getElem (by omega)
  rw [fld_of hm e hkm, hl, addC_take hm hkm]
  refine ⟨?_, rfl⟩
  rw [List.take_add_one, hkm]
  rfl
theorem read_end {x : Sec} {l : List Cl} (h : ∀ m, SetOk m → clsS m = x → l = m.take (x.1.getD 0 0).toNat) : ∀ m, SetOk m → clsS m = x → l = m := by
  intro m hm e
  rw [h m hm e, cnt_of hm e, List.take_length]
end Go.Proofs.Ytmcnhcbibcjgnaa
