/-
  Contracts of crc.divide, crc.More and crc.Of.
  Contracts of word.Unpad and of the reference's Unpad.
  Contracts of word.Get and of the reference's Get.
-/
import Derived.Test.YtmcnhcbibcjgnaaRows
import Derived.Test.YtmcnhcbibcjgnaaPkStr
import Derived.Test.YtmcnhcbibcjgnaaPkCrcE
import Derived.WalkKit
import Derived.WalkLawsBesides
import Derived.BigQuiet
import Derived.Deep.QuietTactic
import Derived.Lib.Hide
import Derived.Test.YtmcnhcbibcjgnaaPkPutO
import Derived.Test.YtmcnhcbibcjgnaaPkNum
namespace Go.Proofs.Ytmcnhcbibcjgnaa
open Go.RowKit
set_option linter.unusedVariables false

theorem stepN_succ (k : Nat) (r : BitVec 32) : stepN (k + 1) r = bitStep (stepN k r) := by
  rw [← stepN_add k 1 r]
  rfl
theorem and_one (r : BitVec 32) : bits .and .u32 (nv r) 1 = if r.getLsbD 0 then 1 else 0 := by
  have hb := r.isLt
  have := u32_and_nat r.toNat 1 (by omega) (by omega)
  rw [Int.ofNat_one] at this
  unfold nv
  rw [this, nat_mask1, BitVec.getLsbD, Nat.testBit_zero]
  rcases Nat.mod_two_eq_zero_or_one r.toNat with h | h <;> simp [h]
theorem step_yes (r : BitVec 32) (h : r.getLsbD 0 = true) : bits .xor .u32 (nv r / 2) 3988292384 = nv (bitStep r) := by
  have e : (3988292384 : Int) = nv crcP := by decide
  rw [half, e, xor_nat]
  unfold bitStep
  rw [h, if_pos rfl]
theorem step_no (r : BitVec 32) (h : r.getLsbD 0 = false) : (nv r / 2) = nv (bitStep r) := by
  rw [half]
  unfold bitStep
  rw [h]
  simp
theorem byteStep_eq (r : BitVec 32) (x : UInt8) : bits .xor .u32 (nv r) (x.toNat : Int) = nv (r ^^^ BitVec.ofNat 32 x.toNat) := by
  have e : (x.toNat : Int) = nv (BitVec.ofNat 32 x.toNat) := by
    have := x.toNat_lt
    unfold nv
    rw [BitVec.toNat_ofNat, Nat.mod_eq_of_lt (by omega)]
  rw [e, xor_nat]
theorem run_snoc {xs : List UInt8} {k : Nat} {x : UInt8} (h : xs[k]? = some x) (r : BitVec 32) : run r (xs.take (k + 1)) = byteStep (run r (xs.take k)) x := by
  obtain ⟨hk, rfl⟩ := List.getElem?_eq_some_iff.1 h
  rw [List.take_succ_eq_append_getElem hk, run_append]
  rfl

set_option maxRecDepth 100000 in
set_option maxHeartbeats 400000 in
theorem divide_any (r : BitVec 32) (w : World) :
    Calls Try.prog 55 #[.int .u32 (nv r)] w fun e w' => e = .returned (.int .u32 (nv (stepN 8 r))) ∧ w = w' := by
  go_enter Try.func55, Try.ntmps55
  go_wp2
  go_loop [0, 4] (fun x i => ∃ k : Nat, k ≤ 8 ∧ i = .int .i64 k ∧ x = .int .u32 (nv (stepN k r))) (fun _ i => 8 - (intOf i).toNat)
  case atStart => exact ⟨0, Nat.zero_le _, rfl, rfl⟩
  case round =>
    obtain ⟨k, hk, rfl, rfl⟩ := hrel
    have hb := nv_bd (stepN k r)
    by_cases hlt : k < 8
    · have ha := and_one (stepN k r)
      by_cases h0 : (stepN k r).getLsbD 0 = true
      · have Hs := Lib.hid (step_yes _ h0)
        rw [h0, if_pos rfl] at ha
        have hd : (bits .and .u32 (nv (stepN k r)) 1 == 1) = true := by rw [ha]; rfl
        clear ha h0
        go_wp2
        go_round
        case rel => exact ⟨k + 1, by omega, by go_num, by rw [Hs.out, stepN_succ]⟩
        case measure => simp [intOf]; omega
      · have h0' : (stepN k r).getLsbD 0 = false := by simpa using h0
        have Hs := Lib.hid (step_no _ h0')
        rw [h0', if_neg (by simp)] at ha
        have hd : (bits .and .u32 (nv (stepN k r)) 1 == 1) = false := by rw [ha]; rfl
        clear ha h0 h0'
        go_wp2
        go_round
        case rel => exact ⟨k + 1, by omega, by go_num, by rw [Hs.out, stepN_succ]⟩
        case measure => simp [intOf]; omega
    · obtain rfl : k = 8 := by omega
      go_wp2
      go_ret
      exact ⟨rfl, rfl⟩

set_option maxRecDepth 100000 in
set_option maxHeartbeats 400000 in
theorem more_any (s : BitVec 32) (A : Option Addr) (n c : Nat) (xs : List UInt8) (w : World) (B : Nat) (h : Lies w B A xs) (hn : n = xs.length) (hl : n ≤ 9223372036854775807) :
    Calls Try.prog 52 #[.int .u32 (nv s), .slice A n c] w fun e w' => e = .returned (.int .u32 (nv (crcMore s xs))) ∧ w = w' := by
  have hs := nv_bd s
  have Hn := Lib.hid hn
  have Hl := Lib.hid h
  have hnot := not_nat s
  have Hnot := Lib.hid not_nat
  clear h hn
  generalize hS : ~~~ s = S at *
  have HS := Lib.hid hS
  clear hS
  go_enter Try.func52, Try.ntmps52
  go_wp2
  clear hnot
  go_loop [5, 12] (fun x i => ∃ k : Nat, k ≤ n ∧ i = .int .i64 k ∧ x = .int .u32 (nv (run S (xs.take k)))) (fun _ i => n - (intOf i).toNat)
  case atStart => exact ⟨0, Nat.zero_le _, rfl, rfl⟩
  case round =>
    obtain ⟨k, hk, rfl, rfl⟩ := hrel
    by_cases hlt : k < n
    · obtain ⟨b, o, x, rfl, _, hx, hc⟩ := Hl.out.at_ (i := k) (by rw [← Hn.out]; exact hlt)
      have Hx := Lib.hid (run_snoc hx S)
      have hxl := x.toNat_lt
      have hq := byteStep_eq (run S (xs.take k)) x
      clear hx
      unfold byteStep at Hx
      generalize run S (xs.take k) ^^^ BitVec.ofNat 32 x.toNat = T at *
      go_wp2_with fail
      with_reducible refine (divide_any _ _).mono ?_
      rintro e w' ⟨rfl, rfl⟩
      go_wp2
      go_round
      case rel => exact ⟨k + 1, by omega, by go_num, by rw [Hx.out]⟩
      case measure => simp [intOf]; omega
    · obtain rfl : n = k := by omega
      have hq := Hnot.out (run S (xs.take n))
      have Hq : Hid (crcMore s xs = ~~~ run S (xs.take n)) := by
        show _ = _
        rw [Hn.out, List.take_length, ← HS.out]
        rfl
      generalize ~~~ run S (xs.take n) = T at *
      go_wp2
      go_ret
      exact ⟨by rw [Hq.out]; rfl, rfl⟩

set_option maxRecDepth 100000 in
theorem crc_of_any (A : Option Addr) (n c : Nat) (xs : List UInt8) (w : World) (B : Nat) (h : Lies w B A xs) (hn : n = xs.length) (hl : n ≤ 9223372036854775807) :
    Calls Try.prog 49 #[.slice A n c] w fun e w' => e = .returned (.int .u32 (nv (crcOf xs))) ∧ w = w' := by
  have Hn := Lib.hid hn
  clear hn
  go_enter Try.func49, Try.ntmps49
  go_wp2_with fail
  refine (more_any 0#32 _ _ _ xs _ B h Hn.out hl).mono ?_
  rintro e w' ⟨rfl, rfl⟩
  go_wp2
  go_ret
  exact ⟨rfl, rfl⟩
end Go.Proofs.Ytmcnhcbibcjgnaa
namespace Go.Proofs.Ytmcnhcbibcjgnaa
open Go.RowKit
set_option linter.unusedVariables false

/-- What a padded field holds, if it is one. -/
def unpadO : List UInt8 → Option (List UInt8)
  | [] => none
  | x :: ys => if x.toNat ≤ ys.length ∧ zeros (ys.drop x.toNat) = true then some (ys.take x.toNat) else none
def unpadS (xs : List UInt8) : List UInt8 := (unpadO xs).getD []
def unpadC (xs : List UInt8) : Int := if (unpadO xs).isSome then 0 else 3
/-- What Unpad answers. -/
def unpadV (xs : List UInt8) : Value := .tuple #[.string ⟨(unpadS xs).toArray⟩, .int .i64 (unpadC xs)]

theorem unpad_no {x : UInt8} {ys : List UInt8} (h : ¬ (x.toNat ≤ ys.length ∧ zeros (ys.drop x.toNat) = true)) : unpadV (x :: ys) = .tuple #[.string ⟨#[]⟩, .int .i64 3] := by
  simp [unpadV, unpadS, unpadC, unpadO, h]
theorem unpad_yes {x : UInt8} {ys : List UInt8} (h : x.toNat ≤ ys.length ∧ zeros (ys.drop x.toNat) = true) : unpadV (x :: ys) = .tuple #[.string ⟨(ys.take x.toNat).toArray⟩, .int .i64 0] := by
  simp [unpadV, unpadS, unpadC, unpadO, h]

theorem lies_cut {w : World} {B b o : Nat} {x : UInt8} {ys : List UInt8} (h : Lies w B (some ⟨b, o, none⟩) (x :: ys)) (k o' : Nat) (ho : k < ys.length → o' = o + 1 + k) : Lies w B (some ⟨b, o', none⟩) (ys.drop k) := by
  intro hx
  have hk : k < ys.length := by
    rcases Nat.lt_or_ge k ys.length with h' | h'
    · exact h'
    · exact absurd (List.drop_eq_nil_of_le h') hx
  obtain ⟨b', o2, e, hb, hc⟩ := h (by simp)
  injection e with e
  injection e with e1 e2
  subst e1 e2
  refine ⟨b, o', rfl, hb, fun i y hi => ?_⟩
  rw [ho hk, show o + 1 + k + i = o + (k + i + 1) by omega]
  exact hc _ y (by rw [List.getElem?_cons_succ, ← hi, List.getElem?_drop])
theorem lies_head {w : World} {B b o : Nat} {x : UInt8} {ys : List UInt8} (h : Lies w B (some ⟨b, o, none⟩) (x :: ys)) (k o' : Nat) (ho : 0 < ys.length → o' = o + 1) : Lies w B (some ⟨b, o', none⟩) (ys.take k) := by
  have := (lies_cut h 0 o' (by simpa using ho)).take k
  simpa using this

set_option maxRecDepth 100000 in
theorem unpad_nil (A : Option Addr) (c : Nat) (w : World) : Calls Try.prog 51 #[.slice A 0 c] w fun e w' => e = .returned (unpadV []) ∧ ∃ m, w' = w.drewN m := by
  go_enter Try.func51, Try.ntmps51
  go_wp2
  go_ret2
  exact ⟨rfl, 0, rfl⟩

set_option maxRecDepth 100000 in
set_option maxHeartbeats 400000 in
theorem unpad_cons (x : UInt8) (ys : List UInt8) (A : Option Addr) (n c : Nat) (w : World) (B : Nat) (hn : n = ys.length + 1) (hc : n ≤ c) (hm : c ≤ 9223372036854775807) (h : Lies w B A (x :: ys)) :
    Calls Try.prog 51 #[.slice A n c] w fun e w' => e = .returned (unpadV (x :: ys)) ∧ ∃ m, w' = w.drewN m := by
  obtain ⟨b, o, rfl, hb, hcell⟩ := h (by simp)
  have h0 : w.cell? ⟨b, o, none⟩ = some (.int .u8 (x.toNat : Int)) := hcell 0 x rfl
  have Hl := Lib.hid h
  have hx := x.toNat_lt
  have hp : (0 : Int) < (n : Int) := by omega
  have hne : ((n : Int) == 0) = false := by rw [beq_eq_false_iff_ne]; omega
  have Hn := Lib.hid hn
  clear h hcell hn
  by_cases hlt : ys.length < x.toNat
  · have Hv := Lib.hid (unpad_no (x := x) (ys := ys) (by omega))
    have hlt' : n - 1 < x.toNat := by have := Hn.out; omega
    go_enter Try.func51, Try.ntmps51
    go_wp2
    go_quiet (fail)
    go_wp2
    all_goals
      go_ret2
      exact ⟨by rw [Hv.out]; rfl, nq, rfl⟩
  · have hlt' : decide (n - 1 < x.toNat) = false := by have := Hn.out; simp; omega
    have hlt2 : ¬ n - 1 < x.toNat := by have := Hn.out; omega
    have hlt3 : (x.toNat : Int) ≤ ((n - 1 : Nat) : Int) := by omega
    have hlt4 : (x.toNat : Int) ≤ ((c - 1 : Nat) : Int) := by omega
    cases hz : zeros (ys.drop x.toNat)
    · have Hv := Lib.hid (unpad_no (x := x) (ys := ys) (by simp [hz]))
      have Hz := Lib.hid hz
      clear hz
      go_enter Try.func51, Try.ntmps51
      go_wp2_with fail
      go_quiet (fail)
      go_wp2_with fail
      all_goals
        refine (zero_n _ _ _ (ys.drop x.toNat) _ B ?_ ?_ ?_).mono ?_
        · exact lies_cut Hl.out x.toNat _ (fun _ => by have := Hn.out; omega)
        · have := Hn.out; rw [List.length_drop]; omega
        · omega
        rintro e w' ⟨rfl, rfl⟩
        rw [Hz.out]
        go_wp2_with fail
        go_ret2
        exact ⟨by rw [Hv.out]; rfl, nq, rfl⟩
    · have Hv := Lib.hid (unpad_yes (x := x) (ys := ys) ⟨by omega, hz⟩)
      have Hz := Lib.hid hz
      clear hz
      go_enter Try.func51, Try.ntmps51
      go_wp2_with fail
      go_quiet (fail)
      go_wp2_with fail
      all_goals
        refine (zero_n _ _ _ (ys.drop x.toNat) _ B ?_ ?_ ?_).mono ?_
        · exact lies_cut Hl.out x.toNat _ (fun _ => by have := Hn.out; omega)
        · have := Hn.out; rw [List.length_drop]; omega
        · omega
        rintro e w' ⟨rfl, rfl⟩
        rw [Hz.out]
        have hcv : ∀ o' c', (0 < ys.length → o' = o + 1) → (convert 66 9 (.slice (some ⟨b, o', none⟩) x.toNat c')).run Try.prog (w.drewN nq) = .ok (.string ⟨(ys.take x.toNat).toArray⟩) (w.drewN nq) := fun o' c' ho =>
          run_str (P := Try.prog) 66 5 9 Try.underlying66 Try.underlying5 Try.underlying9 x.toNat c' ((lies_head Hl.out x.toNat o' ho).drewN nq) (by rw [List.length_take]; omega)
        have hcv1 := fun c' => hcv (o + 1) c' (fun _ => rfl)
        have hcv0 : c = 1 → ∀ c', (convert 66 9 (.slice (some ⟨b, o, none⟩) x.toNat c')).run Try.prog (w.drewN nq) = .ok (.string ⟨(ys.take x.toNat).toArray⟩) (w.drewN nq) := fun hc1 c' => hcv o c' (fun _ => by have := Hn.out; omega)
        clear hcv
        go_wp2_with fail
        go_ret2
        exact ⟨by rw [Hv.out]; rfl, nq, rfl⟩

theorem unpad_any (xs : List UInt8) (A : Option Addr) (n c : Nat) (w : World) (B : Nat) (hn : n = xs.length) (hc : n ≤ c) (hm : c ≤ 9223372036854775807) (h : Lies w B A xs) :
    Calls Try.prog 51 #[.slice A n c] w fun e w' => e = .returned (unpadV xs) ∧ ∃ m, w' = w.drewN m := by
  rcases xs with _ | ⟨x, ys⟩
  · simp only [List.length_nil] at hn
    subst hn
    exact unpad_nil A c w
  · exact unpad_cons x ys A n c w B (by simpa using hn) hc hm h
end Go.Proofs.Ytmcnhcbibcjgnaa
namespace Go.Proofs.Ytmcnhcbibcjgnaa
open Go.RowKit

theorem get_step {xs : List UInt8} {k : Nat} {x : UInt8} (hx : xs[k]? = some x) (hk : k < 8) :
    bits .or .u64 ((leN (xs.take k) : Nat) : Int) (IntKind.u64.wrap ((x.toNat : Int) * 2 ^ (8 * (k : Int)).toNat)) = ((leN (xs.take (k + 1)) : Nat) : Int) := by
  have h1 := leN_take_lt xs k
  have h2 := leN_take_lt xs (k + 1)
  have h3 : (256 : Nat) ^ (k + 1) ≤ 256 ^ 8 := Nat.pow_le_pow_right (by omega) (by omega)
  have e1 : (8 * (k : Int)).toNat = 8 * k := by omega
  have e2 : ((x.toNat : Int) * 2 ^ (8 * k)) = ((x.toNat * 256 ^ k : Nat) : Int) := by rw [pow256]; simp
  have h4 := leN_take_succ hx
  have h5 : (256 : Nat) ^ 8 = 18446744073709551616 := by decide
  rw [e1, e2, IntWalk.u64_in _ (by omega), u64_or_nat _ _ (by omega) (by omega), or_join h1, h4]

set_option maxRecDepth 100000 in
set_option maxHeartbeats 400000 in
theorem get_any (A : Option Addr) (c : Nat) (xs : List UInt8) (w : World) (B : Nat) (h : Lies w B A xs) (hl : xs.length ≤ 9223372036854775807) :
    Calls Try.prog 45 #[.slice A xs.length c] w fun e w' => e = .returned (.int .u64 (leN (xs.take 8) : Nat)) ∧ w = w' := by
  have Hl : Hid (Lies w B A xs) := h
  clear h
  by_cases h8 : xs.length ≤ 8
  all_goals
    go_enter Try.func45, Try.ntmps45
    go_wp2
    go_loop [3, 8] (fun n i => ∃ k : Nat, k ≤ xs.length ∧ k ≤ 8 ∧ i = .int .i64 k ∧ n = .int .u64 (leN (xs.take k) : Nat)) (fun _ i => 8 - (intOf i).toNat)
    case atStart => exact ⟨0, Nat.zero_le _, Nat.zero_le _, rfl, rfl⟩
    case round =>
      obtain ⟨k, hk, hk8, rfl, rfl⟩ := hrel
      by_cases hlt : k < xs.length ∧ k < 8
      · obtain ⟨hlt, hlt8⟩ := hlt
        obtain ⟨b, o, x, rfl, _, hx, hc⟩ := Hl.out.at_ hlt
        have Hx := Lib.hid (get_step hx hlt8)
        clear hx
        have hxl := x.toNat_lt
        go_wp2
        go_round
        case rel => exact ⟨k + 1, by omega, by omega, by go_num, by rw [← Hx.out]; rfl⟩
        case measure => simp [intOf]; omega
      · have Hk : Hid (leN (xs.take 8) = leN (xs.take k)) := by
          show _ = _
          by_cases e : k = 8
          · rw [e]
          · rw [List.take_of_length_le (by omega), List.take_of_length_le (i := k) (by omega)]
        go_wp2
        go_ret
        exact ⟨by rw [Hk.out]; rfl, rfl⟩

theorem get_n (A : Option Addr) (n c : Nat) (xs : List UInt8) (w : World) (B : Nat) (h : Lies w B A xs) (hn : n = xs.length) (hl : n ≤ 9223372036854775807) :
    Calls Try.prog 45 #[.slice A n c] w fun e w' => e = .returned (.int .u64 (leN (xs.take 8) : Nat)) ∧ w = w' := by
  subst hn
  exact get_any A c xs w B h hl
end Go.Proofs.Ytmcnhcbibcjgnaa
