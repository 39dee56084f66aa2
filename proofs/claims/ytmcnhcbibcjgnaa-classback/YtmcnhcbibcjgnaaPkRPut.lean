/-
  Words for what a call answers: new bytes ('RetRow', 'RetNew'); rows that are filled from the front. No function of the program is named here.
  Contracts of word.Put and of the reference's Put.
  Contracts of word.Zero and of the reference's Zero, and of Few.
  The contract of word.Put, told as a row of its own.
  The contract of the reference's Put (layer 1).
-/
import Derived.Test.YtmcnhcbibcjgnaaRows
import Derived.Test.YtmcnhcbibcjgnaaPkStr
import Derived.Test.YtmcnhcbibcjgnaaPkNum
import Derived.Test.YtmcnhcbibcjgnaaPkApp
import Derived.WalkKit
import Derived.WalkLawsBesides
import Derived.Lib.Hide
namespace Go.Proofs.Ytmcnhcbibcjgnaa
open Go.RowKit
set_option linter.unusedVariables false

theorem Try.info5 : (Try.prog.info? 5).map (fun i => (i.zero, i.size, i.bytes)) = some (some (.int .u8 0), 1, 1) := by kernel_rfl

/-- A call that answers new bytes, and turns nothing that was there. -/
def RetRow (w : World) (xs : List UInt8) (e : Ending) (w' : World) : Prop :=
  ∃ A c, e = .returned (.slice A xs.length c) ∧ xs.length ≤ c ∧ c ≤ maxLen ∧ Lies w' w'.heap.size A xs ∧ Below w.heap.size w w'

/-- The address, if there is one, lies from block lo on. -/
def Fresh (lo : Nat) (A : Option Addr) : Prop := ∀ a, A = some a → lo ≤ a.block
theorem Fresh.of_own {w : World} {base : Nat} {e : TypeId} {size : Nat} {A : Option Addr} {n m c : Nat} {xs : List Value} (h : w.ownsRow base e size (.slice A m c) n xs) : Fresh base A := by
  rintro a rfl
  exact own_ge h a.block rfl
theorem Lies.set_fresh {w : World} {B lo : Nat} {A : Option Addr} {xs : List UInt8} (h : Lies w B A xs) (hf : Fresh lo A) {p : Addr} (hp : p.block < lo) (v : Value) : Lies (w.setCell p v) B A xs := by
  intro hx
  obtain ⟨b, o, e, hb, hc⟩ := h hx
  refine ⟨b, o, e, hb, fun i x hi => ?_⟩
  rw [World.cell?_of_block (Below.heap_setCell w p v b (by have := hf _ e; simp at this; omega))]
  exact hc i x hi
theorem Lies.grown_fresh {w w' : World} {B lo g : Nat} {A : Option Addr} {xs : List UInt8} (h : Lies w B A xs) (hf : Fresh lo A) (hg : w.grownBy w' (some g)) (hB : B ≤ w.heap.size) (hp : g < lo) : Lies w' B A xs := by
  intro hx
  obtain ⟨b, o, e, hb, hc⟩ := h hx
  refine ⟨b, o, e, hb, fun i x hi => ?_⟩
  rw [World.cell?_of_block (hg.block b (by omega) (fun e' => by injection e' with e'; have := hf _ e; simp at this; omega))]
  exact hc i x hi
/-- A call that answers new bytes in new memory, and turns nothing that was there. -/
def RetNew (w : World) (xs : List UInt8) (e : Ending) (w' : World) : Prop :=
  ∃ A c, e = .returned (.slice A xs.length c) ∧ xs.length ≤ c ∧ c ≤ maxLen ∧ Lies w' w'.heap.size A xs ∧ Below w.heap.size w w' ∧ Fresh w.heap.size A

/-- A row of k bytes, the first ones told, the others nought. -/
def fill (xs : List UInt8) (k : Nat) : List UInt8 := xs ++ List.replicate (k - xs.length) 0
theorem fill_length {xs : List UInt8} {k : Nat} (h : xs.length ≤ k) : (fill xs k).length = k := by simp [fill]; omega
theorem fill_set {xs : List UInt8} {k : Nat} (x : UInt8) (h : xs.length < k) : (cells (fill xs k)).set xs.length (.int .u8 (x.toNat : Int)) = cells (fill (xs ++ [x]) k) := by
  have e : k - xs.length = (k - (xs ++ [x]).length) + 1 := by simp; omega
  unfold fill
  rw [e, List.replicate_succ, cells_append, cells_append, cells_append, List.append_assoc]
  rw [List.set_append_right _ _ (by rw [cells_length]; exact Nat.le_refl _), cells_length, Nat.sub_self]
  simp [cells]
theorem fill_full {xs : List UInt8} : fill xs xs.length = xs := by simp [fill]
theorem fill_made (k : Nat) : (madeCells #[Value.int .u8 0] k).toList = cells (fill [] k) := by
  rw [toList_madeCells_one]
  simp [fill, cells]

theorem byte_of (n : Nat) : (n : Int) % 256 = ((UInt8.ofNat n).toNat : Int) := by
  rw [toNat_ofNat]
  omega

end Go.Proofs.Ytmcnhcbibcjgnaa
namespace Go.Proofs.Ytmcnhcbibcjgnaa
open Go.RowKit
set_option linter.unusedVariables false

set_option maxRecDepth 100000 in
set_option maxHeartbeats 400000 in
theorem put_pos (N k : Nat) (w : World) (h1 : 0 < k) (hk : k ≤ 65536) (hN : N < 18446744073709551616) :
    Calls Try.prog 34 #[.int .u64 (N : Int), .int .i64 (k : Int)] w (RetRow w (putB N k)) := by
  obtain ⟨i0, hi, hz0, hz1, hz2⟩ := info_parts Try.info5
  have hm : (0 : Int) < (k : Int) := by omega
  go_enter Try.func34, Try.ntmps34
  go_wp2_with (at_make; refine wpList_make_full _ rfl _ _ 66 rfl w.heap.size 5 i0 (.int .u8 0) 1 Try.underlying66 hi hz0 hz1 _ _ _ _ k rfl rfl (by omega) (by omega) (by rw [hz2]; omega) (by unfold maxLen; omega) (Nat.le_refl _) ?_)
  intro w1 hown hgrow
  have hb : Below w.heap.size w w1 := (Below.refl _ _).grown hgrow (Nat.le_refl _) (by simp)
  rw [fill_made] at hown
  go_wp2
  go_loopw [0, 12] (fun n i wr => ∃ j : Nat, j ≤ k ∧ i = .int .i64 j ∧ n = .int .u64 ((N / 256 ^ j : Nat) : Int) ∧ wr.ownsRow w.heap.size 5 1 (.slice (some ⟨w.heap.size, 0, none⟩) k k) k (cells (fill (putB N j) k)) ∧ Below w.heap.size w wr)
    (fun _ i _ => k - (intOf i).toNat)
  case atStart => exact ⟨0, Nat.zero_le _, rfl, by simp, hown, hb⟩
  case round =>
    obtain ⟨j, hj, rfl, rfl, hown', hb'⟩ := hrel
    by_cases hlt : j < k
    · have hcell : ∃ v, wr.cell? ⟨w.heap.size, j, none⟩ = some v := by
        rw [hown'.cellAt j (by omega)]
        exact ⟨_, List.getElem?_eq_getElem (by rw [cells_length, fill_length (by rw [putB_length]; omega)]; exact hlt)⟩
      obtain ⟨v, hc⟩ := hcell
      have hf := hown'.frozenAt j
      have R := hown'.stored j (.int .u8 ((UInt8.ofNat (N / 256 ^ j)).toNat : Int))
      have hset := fill_set (k := k) (xs := putB N j) (UInt8.ofNat (N / 256 ^ j)) (by rw [putB_length]; exact hlt)
      rw [putB_length, ← putB_snoc] at hset
      rw [hset] at R
      have R2 := hb'.setCell (p := ⟨w.heap.size, j, none⟩) (Nat.le_refl _) (.int .u8 ((UInt8.ofNat (N / 256 ^ j)).toNat : Int))
      have hq : N / 256 ^ (j + 1) = N / 256 ^ j / 256 := by rw [Nat.div_div_eq_div_mul, Nat.pow_succ]
      have Hq := Lib.hid hq
      have Hby := Lib.hid (byte_of (N / 256 ^ j))
      have hle : N / 256 ^ j ≤ N := Nat.div_le_self _ _
      generalize N / 256 ^ j = M at *
      clear hq hset
      go_wp2
      go_roundw
      case rel => exact ⟨j + 1, by omega, by go_num, by rw [Hq.out, Int.natCast_ediv]; rfl, by rw [Hby.out]; exact R.1, by rw [Hby.out]; exact R2⟩
      case measure => simp [intOf]; omega
    · have hjk : j = k := by omega
      subst hjk
      go_wp2
      go_ret
      have e : fill (putB N j) j = putB N j := by
        have := fill_full (xs := putB N j)
        rwa [putB_length] at this
      rw [e] at hown'
      obtain ⟨A, c, hv, hn, hnc, hcm, hl⟩ := Lies.of_own hown'
      exact ⟨A, c, by rw [← hv]; rfl, by omega, hcm, hl, hb'⟩

set_option maxRecDepth 100000 in
set_option maxHeartbeats 400000 in
theorem put_none (N : Nat) (k : Int) (w : World) (h1 : k ≤ 0) (hN : N < 18446744073709551616) :
    Calls Try.prog 34 #[.int .u64 (N : Int), .int .i64 k] w (RetRow w []) := by
  obtain ⟨i0, hi, hz0, hz1, hz2⟩ := info_parts Try.info5
  go_enter Try.func34, Try.ntmps34
  go_wp2_with (at_make; refine wpList_make_full _ rfl _ _ 66 rfl w.heap.size 5 i0 (.int .u8 0) 1 Try.underlying66 hi hz0 hz1 _ _ _ _ 0 rfl rfl (by omega) (by omega) (by rw [hz2]; omega) (by unfold maxLen; omega) (Nat.le_refl _) ?_)
  all_goals
    intro w1 hown hgrow
    have hb : Below w.heap.size w w1 := (Below.refl _ _).grown hgrow (Nat.le_refl _) (by simp)
    go_wp2
    refine wp_loop_rounds 1 ?_
    rw [rounds_succ]
    go_wp2
    go_ret
    exact ⟨some ⟨w.heap.size, 0, none⟩, 0, rfl, Nat.le_refl _, by unfold maxLen; omega, Lies.nil _ _ _, hb⟩

theorem put_any (N : Nat) (k : Int) (w : World) (hk : k ≤ 65536) (hN : N < 18446744073709551616) :
    Calls Try.prog 34 #[.int .u64 (N : Int), .int .i64 k] w (RetRow w (putB N k.toNat)) := by
  by_cases h : k ≤ 0
  · rw [Int.toNat_of_nonpos h]
    exact put_none N k w h hN
  · obtain ⟨n, rfl⟩ := Int.eq_ofNat_of_zero_le (show 0 ≤ k by omega)
    rw [Int.toNat_natCast]
    exact put_pos N n w (by omega) (by omega) hN
end Go.Proofs.Ytmcnhcbibcjgnaa
namespace Go.Proofs.Ytmcnhcbibcjgnaa
open Go.RowKit

/-- All bytes are nought. -/
def zeros (xs : List UInt8) : Bool := xs.all (· == 0)

theorem zeros_take_succ {xs : List UInt8} {k : Nat} {x : UInt8} (h : xs[k]? = some x) : zeros (xs.take (k + 1)) = (zeros (xs.take k) && x == 0) := by
  obtain ⟨hk, rfl⟩ := List.getElem?_eq_some_iff.1 h
  rw [List.take_succ_eq_append_getElem hk]
  simp only [zeros, List.all_append, List.all_cons, List.all_nil, Bool.and_true]
theorem zeros_false {xs : List UInt8} {k : Nat} {x : UInt8} (h : xs[k]? = some x) (hx : x ≠ 0) : zeros xs = false := by
  obtain ⟨hk, rfl⟩ := List.getElem?_eq_some_iff.1 h
  unfold zeros
  rw [List.all_eq_false]
  exact ⟨_, List.getElem_mem hk, by rw [beq_iff_eq]; exact hx⟩
theorem byte_ne {x : UInt8} (h : ((x.toNat : Int) != 0) = true) : x ≠ 0 := by rintro rfl; simp at h
theorem byte_eq {x : UInt8} (h : ((x.toNat : Int) != 0) = false) : x = 0 := by
  have : x.toNat = 0 := by simpa using h
  exact UInt8.toNat.inj this

set_option maxRecDepth 100000 in
set_option maxHeartbeats 400000 in
theorem zero_any (A : Option Addr) (c : Nat) (xs : List UInt8) (w : World) (B : Nat) (h : Lies w B A xs) (hl : xs.length ≤ 9223372036854775807) :
    Calls Try.prog 54 #[.slice A xs.length c] w fun e w' => e = .returned (.bool (zeros xs)) ∧ w = w' := by
  have Hl : Hid (Lies w B A xs) := h
  clear h
  go_enter Try.func54, Try.ntmps54
  go_wp2
  go_loop [7] (fun i => ∃ k : Nat, k ≤ xs.length ∧ i = .int .i64 k ∧ zeros (xs.take k) = true) (fun i => xs.length - (intOf i).toNat)
  case atStart => exact ⟨0, Nat.zero_le _, rfl, rfl⟩
  case round =>
    obtain ⟨k, hk, rfl, hz⟩ := hrel
    have Hz := Lib.hid hz
    clear hz
    by_cases hlt : k < xs.length
    · obtain ⟨b, o, x, rfl, _, hx, hc⟩ := Hl.out.at_ hlt
      have Hx := Lib.hid hx
      clear hx
      cases hb : ((x.toNat : Int) != 0)
      · go_wp2
        go_round
        case rel => exact ⟨k + 1, by omega, by go_num, by rw [zeros_take_succ Hx.out, Hz.out, byte_eq hb]; rfl⟩
        case measure => simp [intOf]; omega
      · go_wp2
        go_ret
        exact ⟨by rw [zeros_false Hx.out (byte_ne hb)]; rfl, rfl⟩
    · go_wp2
      go_ret
      refine ⟨?_, rfl⟩
      have := Hz.out
      rw [List.take_of_length_le (by omega)] at this
      rw [this]; rfl

theorem zero_n (A : Option Addr) (n c : Nat) (xs : List UInt8) (w : World) (B : Nat) (h : Lies w B A xs) (hn : n = xs.length) (hl : n ≤ 9223372036854775807) :
    Calls Try.prog 54 #[.slice A n c] w fun e w' => e = .returned (.bool (zeros xs)) ∧ w = w' := by
  subst hn
  exact zero_any A c xs w B h hl
end Go.Proofs.Ytmcnhcbibcjgnaa
namespace Go.Proofs.Ytmcnhcbibcjgnaa
open Go.RowKit
set_option linter.unusedVariables false

set_option maxRecDepth 100000 in
set_option maxHeartbeats 1000000 in
theorem put_row (N k : Nat) (w : World) (h1 : 0 < k) (hk : k ≤ 65536) (hN : N < 18446744073709551616) :
    Calls Try.prog 34 #[.int .u64 (N : Int), .int .i64 (k : Int)] w fun e w' => ∃ v, e = .returned v ∧ w'.ownsRow w.heap.size 5 1 v k (cells (putB N k)) ∧ Below w.heap.size w w' := by
  obtain ⟨i0, hi, hz0, hz1, hz2⟩ := info_parts Try.info5
  have hm : (0 : Int) < (k : Int) := by omega
  go_enter Try.func34, Try.ntmps34
  go_wp2_with (at_make; refine wpList_make_full _ rfl _ _ 66 rfl w.heap.size 5 i0 (.int .u8 0) 1 Try.underlying66 hi hz0 hz1 _ _ _ _ k rfl rfl (by omega) (by omega) (by rw [hz2]; omega) (by unfold maxLen; omega) (Nat.le_refl _) ?_)
  intro w1 hown hgrow
  have hb : Below w.heap.size w w1 := (Below.refl _ _).grown hgrow (Nat.le_refl _) (by simp)
  rw [fill_made] at hown
  go_wp2
  go_loopw [0, 12] (fun n i wr => ∃ j : Nat, j ≤ k ∧ i = .int .i64 j ∧ n = .int .u64 ((N / 256 ^ j : Nat) : Int) ∧ wr.ownsRow w.heap.size 5 1 (.slice (some ⟨w.heap.size, 0, none⟩) k k) k (cells (fill (putB N j) k)) ∧ Below w.heap.size w wr)
    (fun _ i _ => k - (intOf i).toNat)
  case atStart => exact ⟨0, Nat.zero_le _, rfl, by simp, hown, hb⟩
  case round =>
    obtain ⟨j, hj, rfl, rfl, hown', hb'⟩ := hrel
    by_cases hlt : j < k
    · have hcell : ∃ v, wr.cell? ⟨w.heap.size, j, none⟩ = some v := by
        rw [hown'.cellAt j (by omega)]
        exact ⟨_, List.getElem?_eq_getElem (by rw [cells_length, fill_length (by rw [putB_length]; omega)]; exact hlt)⟩
      obtain ⟨v, hc⟩ := hcell
      have hf := hown'.frozenAt j
      have R := hown'.stored j (.int .u8 ((UInt8.ofNat (N / 256 ^ j)).toNat : Int))
      have hset := fill_set (k := k) (xs := putB N j) (UInt8.ofNat (N / 256 ^ j)) (by rw [putB_length]; exact hlt)
      rw [putB_length, ← putB_snoc] at hset
      rw [hset] at R
      have R2 := hb'.setCell (p := ⟨w.heap.size, j, none⟩) (Nat.le_refl _) (.int .u8 ((UInt8.ofNat (N / 256 ^ j)).toNat : Int))
      have hq : N / 256 ^ (j + 1) = N / 256 ^ j / 256 := by rw [Nat.div_div_eq_div_mul, Nat.pow_succ]
      have Hq := Lib.hid hq
      have Hby := Lib.hid (byte_of (N / 256 ^ j))
      have hle : N / 256 ^ j ≤ N := Nat.div_le_self _ _
      generalize N / 256 ^ j = M at *
      clear hq hset
      go_wp2
      go_roundw
      case rel => exact ⟨j + 1, by omega, by go_num, by rw [Hq.out, Int.natCast_ediv]; rfl, by rw [Hby.out]; exact R.1, by rw [Hby.out]; exact R2⟩
      case measure => simp [intOf]; omega
    · have hjk : j = k := by omega
      subst hjk
      go_wp2
      go_ret
      have e : fill (putB N j) j = putB N j := by
        have := fill_full (xs := putB N j)
        rwa [putB_length] at this
      rw [e] at hown'
      exact ⟨_, rfl, hown', hb'⟩
end Go.Proofs.Ytmcnhcbibcjgnaa
namespace Go.Proofs.Ytmcnhcbibcjgnaa
open Go.RowKit
set_option linter.unusedVariables false

theorem cells_lit (N : Nat) : [Value.int .u8 ((N : Int) % 256)] = cells [UInt8.ofNat N] := by
  rw [byte_of]
  rfl

set_option maxRecDepth 100000 in
set_option maxHeartbeats 400000 in
theorem rput_any (k : Nat) : ∀ (N : Nat) (a s : Int) (w : World), a = (N : Int) → s.toNat = k → s ≤ 65536 → -9223372036854775808 ≤ s → N < 18446744073709551616 →
    Calls Try.prog 40 #[.int .u64 a, .int .i64 s] w (RetNew w (putB N k)) := by
  induction k with
  | zero =>
    intro N a s w ha hk hs hs2 hN
    subst ha
    have hle : s ≤ 0 := by omega
    go_enter Try.func40, Try.ntmps40
    go_wp2_with fail
    go_ret
    exact ⟨none, 0, rfl, Nat.le_refl _, by unfold maxLen; omega, Lies.nil _ _ _, Below.refl _ _, fun a e => by cases e⟩
  | succ k ih =>
    intro N a s w ha hk hs hs2 hN
    subst ha
    have hpos : 0 < s := by omega
    have hkk : k + 1 ≤ 65536 := by omega
    have hs1 : (s - 1).toNat = k := by omega
    have Hk := Lib.hid hs1
    have Hih := Lib.hid ih
    have Hc := Lib.hid (cells_lit N)
    obtain ⟨i0, hi, hz0, hz1, hz2⟩ := info_parts Try.info5
    clear ih hk hs1
    go_enter Try.func40, Try.ntmps40
    go_wp2_with fail
    refine (Hih.out (N / 256) _ _ _ (by omega) Hk.out (by omega) (by omega) (by omega)).mono ?_
    rintro e w1 ⟨A, c, rfl, hc, hcm, hl, hb, _⟩
    have hown : (w.alloc (.cells #[Value.int .u8 ((N : Int) % 256)] 5)).ownsRow w.heap.size 5 1 (.slice (some ⟨w.heap.size, 0, none⟩) 1 1) 1 (cells [UInt8.ofNat N]) := by
      rw [← Hc.out]
      exact World.ownsRow_lit w #[Value.int .u8 ((N : Int) % 256)] 1 (Nat.le_refl _) (by unfold maxLen; omega) rfl
    have hown1 := own_below hown hb
    have hb0 : Below w.heap.size w w1 := ((Below.refl _ _).alloc (Nat.le_refl _) _).trans (hb.mono (by simp))
    have hsz := hb0.size
    have hpl := putB_length (N / 256) k
    go_wp2_with (at_builtin; refine wpList_append_lies rfl _ _ 66 rfl w.heap.size i0 Try.underlying66 hi hz0 hz1 hz2 _ 1 [UInt8.ofNat N] (putB (N / 256) k) rfl hown1 w1.heap.size _ _ _ rfl hl (by omega) (by omega) hsz ?_)
    intro v' w2 hown2 hg2
    go_wp2_with fail
    go_ret
    obtain ⟨A2, c2, rfl, h1, h2, h3, h4⟩ := Lies.of_own hown2
    exact ⟨A2, c2, rfl, (show (UInt8.ofNat N :: putB (N / 256) k).length ≤ c2 by omega), h3, h4, hb0.grown hg2 hsz (own_ge hown1), Fresh.of_own hown2⟩
end Go.Proofs.Ytmcnhcbibcjgnaa
